/-
  Layer 12: names, by the reckoner. No condition.
-/
import Derived.Test.YtcbfccadodikgaaRxU
namespace Go.Proofs.Ytcbfccadodikgaa.EdR
open Go Go.Proofs.Ytcbfccadodikgaa.Rx

def cmpI (a b : Int) : Int := if a < b then -1 else if a > b then 1 else 0
def orI : List Int → Int
  | [] => 0
  | a :: l => if a = 0 then orI l else a
def nodeB (n : Int) : Bool := decide (1 ≤ n) && decide (n ≤ 64)
def eidC (ae ar be br : Int) : Int := if ae = be then cmpI ar br else cmpI ae be
def eidL (ae ar be br : Int) : Bool := decide (ae < be) || (ae == be && decide (ar < br))
structure EidE where
  e : Int
  r : Int
  c : Int
def maxE (ae ar be br : Int) : EidE := if eidC ae ar be br < 0 then ⟨be, br, 0⟩ else ⟨ae, ar, 0⟩
def aftE (top limit root : Int) : EidE := if nodeB root = true ∧ 0 ≤ top ∧ top ≤ 2147483647 ∧ 1 ≤ limit ∧ limit ≤ 2147483647 then (if limit ≤ top then ⟨0, 0, 10⟩ else ⟨top + 1, root, 0⟩) else ⟨0, 0, 1⟩

structure Fs where
  f_cmp : Int → Int → Int
  f_or : List Int → Int
  f_node : Int → Bool
  f_c : Int → Int → Int → Int → Int
  f_l : Int → Int → Int → Int → Bool
  f_max : Int → Int → Int → Int → EidE
  f_aft : Int → Int → Int → EidE
def Fs.std : Fs := ⟨cmpI, orI, nodeB, eidC, eidL, maxE, aftE⟩

def c_nan (_ : Fs) : Con := fun xs => match xs with
  | [.one (.val (.int .i64 _))] => some (True, .sa (.one (B false)))
  | _ => none
set_option maxRecDepth 100000 in
theorem x_nan (n : Int) : Does [] Try.f57 [.one (.val (.int .i64 n))] (hands (.sa (.one (B false)))) := by
  intro W S
  generalize hF : Fs.std = F
  generalize hA : Ar.std = A
  generalize Lp _ _ _ = L
  cbv
  subst hF hA
  simp only [Fs.std, Ar.std]
  grind [stdCmp, stdBin, wr]
theorem ok_nan : ConOk Try.prog 57 (c_nan Fs.std) := by
  refine con_of FsOk.nil Try.func57 rfl rfl fun xs C r h => ?_
  unfold c_nan at h
  split at h
  · cases h
    exact ⟨⟨rfl, rfl, Nat.le_of_ble_eq_true rfl⟩, fun _ => x_nan _⟩
  · cases h

def c_cmp (F : Fs) : Con := fun xs => match xs with
  | [.one (.val (.int .i64 x)), .one (.val (.int .i64 y))] => some (True, .sa (.one (I (F.f_cmp x y))))
  | _ => none
set_option maxRecDepth 100000 in
theorem x_cmp (x : Int) (y : Int) : Does [(57, c_nan Fs.std)] Try.f52 [.one (.val (.int .i64 x)), .one (.val (.int .i64 y))] (hands (.sa (.one (I (Fs.std.f_cmp x y))))) := by
  intro W S
  generalize hF : Fs.std = F
  generalize hA : Ar.std = A
  generalize Lp _ _ _ = L
  cbv
  subst hF hA
  simp only [Fs.std, Ar.std]
  grind [stdCmp, stdBin, wr, cmpI]
theorem ok_cmp : ConOk Try.prog 52 (c_cmp Fs.std) := by
  refine con_of (FsOk.cons ok_nan FsOk.nil) Try.func52 rfl rfl fun xs C r h => ?_
  unfold c_cmp at h
  split at h
  · cases h
    exact ⟨⟨rfl, rfl, Nat.le_of_ble_eq_true rfl⟩, fun _ => x_cmp _ _⟩
  · cases h

def c_or (F : Fs) : Con := fun xs => match xs with
  | [.one (.sl none (.ints .i64 l))] => some (True, .sa (.one (I (F.f_or l))))
  | _ => none
noncomputable def orInv (A : Ar) (l : List Int) (i : Int) : St := stOf Try.f51.ntmps [(2, .sa (.one (I 0))), (3, .sa (.one (I 0))), (6, .sa (.one (.sl none (.ints .i64 l)))), (7, .sa (.one (I (A.lenI l)))), (8, .sa (.one (I i)))] []
def orQ (l : List Int) (i : Int) : Prop := 0 ≤ i ∧ i ≤ l.length ∧ orI (l.drop i.toNat) = orI l
def orM (l : List Int) (i : Int) : Nat := l.length - i.toNat
def orRd (st : St) : Int := valI (slotC st 8)
theorem or_step (l : List Int) (i : Int) (h0 : 0 ≤ i) (h1 : i < l.length) (hd : orI (l.drop i.toNat) = orI l) : (l.getD i.toNat 0 = 0 → orI (l.drop (i + 1).toNat) = orI l) ∧ (l.getD i.toNat 0 ≠ 0 → orI l = l.getD i.toNat 0) := by
  obtain ⟨n, rfl⟩ := Int.eq_ofNat_of_zero_le h0
  simp at h1
  simp only [Int.toNat_natCast] at hd ⊢
  rw [List.drop_eq_getElem_cons h1] at hd
  have he : l.getD n 0 = l[n] := by simp [h1]
  rw [he]
  simp only [orI] at hd
  constructor
  · intro hz
    have : (((n : Int) + 1).toNat) = n + 1 := by omega
    rw [this]
    rw [if_pos hz] at hd
    exact hd
  · intro hz
    rw [if_neg hz] at hd
    exact hd.symm
theorem or_end (l : List Int) (i : Int) (h1 : i = l.length) (hd : orI (l.drop i.toNat) = orI l) : orI l = 0 := by
  subst h1
  rw [← hd]
  simp [orI]
set_option maxRecDepth 100000 in
theorem x_or (l : List Int) (hlen : l.length ≤ 9223372036854775807) : Does [] Try.f51 [.one (.sl none (.ints .i64 l))] (hands (.sa (.one (I (Fs.std.f_or l))))) := by
  intro W S
  generalize hF : Fs.std = F
  generalize hA : Ar.std = A
  generalize hL : Lp _ _ _ = L
  cbv
  repeat' (first | exact trivial | refine ⟨?_, ?_⟩ | refine orf fun _ => ?_ | refine ort fun _ => ?_)
  subst hL
  refine loop_rd (cx_ok FsOk.nil) (orQ l) (orInv A l) (orM l) orRd 0 ?_ ?_ ?_
  · exact ⟨Int.le_refl _, by omega, rfl⟩
  · cbv
  intro i hQ O hO
  obtain ⟨q0, q1, q2⟩ := hQ
  have hst := fun h => or_step l i q0 h q2
  have hen := fun h => or_end l i h q2
  subst hA
  generalize hA : Ar.std = A
  generalize hL : Lp _ _ _ = L
  cbv
  repeat' (first | exact trivial | refine ⟨?_, ?_⟩ | refine orf fun _ => ?_ | refine ort fun _ => ?_)
  all_goals (clear hL q2; subst hA hF hO; simp only [Fs.std, Ar.std] at *; first | (clear hst hen; grind [stdCmp, stdBin, wr, orM]; done) | grind [stdCmp, stdBin, wr, orQ, orM])
theorem ok_or : ConOk Try.prog 51 (c_or Fs.std) := by
  refine con_sized FsOk.nil Try.func51 rfl rfl fun xs C r h => ?_
  unfold c_or at h
  split at h
  · cases h
    exact ⟨⟨rfl, rfl, Nat.le_of_ble_eq_true rfl⟩, fun _ hz => x_or _ hz.1⟩
  · cases h

def c_node (F : Fs) : Con := fun xs => match xs with
  | [.one (.val (.int .i64 n))] => some (True, .sa (.one (B (F.f_node n))))
  | _ => none
set_option maxRecDepth 100000 in
theorem x_node (n : Int) : Does [] Try.f16 [.one (.val (.int .i64 n))] (hands (.sa (.one (B (Fs.std.f_node n))))) := by
  intro W S
  generalize hF : Fs.std = F
  generalize hA : Ar.std = A
  generalize Lp _ _ _ = L
  cbv
  subst hF hA
  simp only [Fs.std, Ar.std]
  grind [stdCmp, stdBin, wr, nodeB]
theorem ok_node : ConOk Try.prog 16 (c_node Fs.std) := by
  refine con_of FsOk.nil Try.func16 rfl rfl fun xs C r h => ?_
  unfold c_node at h
  split at h
  · cases h
    exact ⟨⟨rfl, rfl, Nat.le_of_ble_eq_true rfl⟩, fun _ => x_node _⟩
  · cases h

def c_compare (F : Fs) : Con := fun xs => match xs with
  | [.agg [.val (.int .i64 a_e), .val (.int .i64 a_r)], .agg [.val (.int .i64 b_e), .val (.int .i64 b_r)]] => some (True, .sa (.one (I (F.f_c a_e a_r b_e b_r))))
  | _ => none
set_option maxRecDepth 100000 in
theorem x_compare (a_e : Int) (a_r : Int) (b_e : Int) (b_r : Int) : Does [(52, c_cmp Fs.std), (51, c_or Fs.std)] Try.f24 [.agg [.val (.int .i64 a_e), .val (.int .i64 a_r)], .agg [.val (.int .i64 b_e), .val (.int .i64 b_r)]] (hands (.sa (.one (I (Fs.std.f_c a_e a_r b_e b_r))))) := by
  intro W S
  generalize hF : Fs.std = F
  generalize hA : Ar.std = A
  generalize Lp _ _ _ = L
  cbv
  subst hF hA
  simp only [Fs.std, Ar.std]
  grind [stdCmp, stdBin, wr, eidC, cmpI, orI]
theorem ok_compare : ConOk Try.prog 24 (c_compare Fs.std) := by
  refine con_of (FsOk.cons ok_cmp (FsOk.cons ok_or FsOk.nil)) Try.func24 rfl rfl fun xs C r h => ?_
  unfold c_compare at h
  split at h
  · cases h
    exact ⟨⟨rfl, rfl, Nat.le_of_ble_eq_true rfl⟩, fun _ => x_compare _ _ _ _⟩
  · cases h

def c_max (F : Fs) : Con := fun xs => match xs with
  | [.agg [.val (.int .i64 a_e), .val (.int .i64 a_r)], .agg [.val (.int .i64 b_e), .val (.int .i64 b_r)]] => some (True, .sa (.agg [.val (.int .i64 (F.f_max a_e a_r b_e b_r).e), .val (.int .i64 (F.f_max a_e a_r b_e b_r).r)]))
  | _ => none
set_option maxRecDepth 100000 in
theorem x_max (a_e : Int) (a_r : Int) (b_e : Int) (b_r : Int) : Does [(24, c_compare Fs.std)] Try.f28 [.agg [.val (.int .i64 a_e), .val (.int .i64 a_r)], .agg [.val (.int .i64 b_e), .val (.int .i64 b_r)]] (hands (.sa (.agg [.val (.int .i64 (Fs.std.f_max a_e a_r b_e b_r).e), .val (.int .i64 (Fs.std.f_max a_e a_r b_e b_r).r)]))) := by
  intro W S
  generalize hF : Fs.std = F
  generalize hA : Ar.std = A
  generalize Lp _ _ _ = L
  cbv
  subst hF hA
  simp only [Fs.std, Ar.std]
  grind [stdCmp, stdBin, wr, maxE]
theorem ok_max : ConOk Try.prog 28 (c_max Fs.std) := by
  refine con_of (FsOk.cons ok_compare FsOk.nil) Try.func28 rfl rfl fun xs C r h => ?_
  unfold c_max at h
  split at h
  · cases h
    exact ⟨⟨rfl, rfl, Nat.le_of_ble_eq_true rfl⟩, fun _ => x_max _ _ _ _⟩
  · cases h

def c_less (F : Fs) : Con := fun xs => match xs with
  | [.agg [.val (.int .i64 a_e), .val (.int .i64 a_r)], .agg [.val (.int .i64 b_e), .val (.int .i64 b_r)]] => some (True, .sa (.one (B (F.f_l a_e a_r b_e b_r))))
  | _ => none
set_option maxRecDepth 100000 in
theorem x_less (a_e : Int) (a_r : Int) (b_e : Int) (b_r : Int) : Does [] Try.f27 [.agg [.val (.int .i64 a_e), .val (.int .i64 a_r)], .agg [.val (.int .i64 b_e), .val (.int .i64 b_r)]] (hands (.sa (.one (B (Fs.std.f_l a_e a_r b_e b_r))))) := by
  intro W S
  generalize hF : Fs.std = F
  generalize hA : Ar.std = A
  generalize Lp _ _ _ = L
  cbv
  subst hF hA
  simp only [Fs.std, Ar.std]
  grind [stdCmp, stdBin, wr, eidL]
theorem ok_less : ConOk Try.prog 27 (c_less Fs.std) := by
  refine con_of FsOk.nil Try.func27 rfl rfl fun xs C r h => ?_
  unfold c_less at h
  split at h
  · cases h
    exact ⟨⟨rfl, rfl, Nat.le_of_ble_eq_true rfl⟩, fun _ => x_less _ _ _ _⟩
  · cases h

def c_after (F : Fs) : Con := fun xs => match xs with
  | [.one (.val (.int .i64 top)), .one (.val (.int .i64 limit)), .one (.val (.int .i64 root))] => some (True, .tup [.agg [.val (.int .i64 (F.f_aft top limit root).e), .val (.int .i64 (F.f_aft top limit root).r)], .one (I (F.f_aft top limit root).c)])
  | _ => none
set_option maxRecDepth 100000 in
theorem x_after (top : Int) (limit : Int) (root : Int) : Does [(16, c_node Fs.std)] Try.f30 [.one (.val (.int .i64 top)), .one (.val (.int .i64 limit)), .one (.val (.int .i64 root))] (hands (.tup [.agg [.val (.int .i64 (Fs.std.f_aft top limit root).e), .val (.int .i64 (Fs.std.f_aft top limit root).r)], .one (I (Fs.std.f_aft top limit root).c)])) := by
  intro W S
  generalize hF : Fs.std = F
  generalize hA : Ar.std = A
  generalize Lp _ _ _ = L
  cbv
  subst hF hA
  simp only [Fs.std, Ar.std]
  grind [stdCmp, stdBin, wr, aftE]
theorem ok_after : ConOk Try.prog 30 (c_after Fs.std) := by
  refine con_of (FsOk.cons ok_node FsOk.nil) Try.func30 rfl rfl fun xs C r h => ?_
  unfold c_after at h
  split at h
  · cases h
    exact ⟨⟨rfl, rfl, Nat.le_of_ble_eq_true rfl⟩, fun _ => x_after _ _ _⟩
  · cases h

def c_awake (_ : Fs) : Con := fun xs => match xs with
  | [] => some (True, .sa (.one (B true)))
  | _ => none
set_option maxRecDepth 100000 in
theorem x_awake  : Does [(30, c_after Fs.std)] Try.f29 [] (hands (.sa (.one (B true)))) := by
  intro W S
  generalize hF : Fs.std = F
  generalize hA : Ar.std = A
  generalize Lp _ _ _ = L
  cbv
  subst hF hA
  simp only [Fs.std, Ar.std]
  grind [stdCmp, stdBin, wr, aftE, nodeB]
theorem ok_awake : ConOk Try.prog 29 (c_awake Fs.std) := by
  refine con_of (FsOk.cons ok_after FsOk.nil) Try.func29 rfl rfl fun xs C r h => ?_
  unfold c_awake at h
  split at h
  · cases h
    exact ⟨⟨rfl, rfl, Nat.le_of_ble_eq_true rfl⟩, fun _ => x_awake ⟩
  · cases h
end Go.Proofs.Ytcbfccadodikgaa.EdR
