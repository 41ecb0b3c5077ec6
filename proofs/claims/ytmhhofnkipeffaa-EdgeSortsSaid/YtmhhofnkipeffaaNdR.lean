/-
  the ends of edges: the code counts them in a map, the answer looks for each. No condition.
-/
import Derived.Test.YtmhhofnkipeffaaRyOp
import Derived.Test.YtmhhofnkipeffaaRyZ
namespace Go.Proofs.Ytmhhofnkipeffaa.NdR
open Go Go.Proofs.Ytmhhofnkipeffaa.Ry

theorem tk_next (l : List E) (i : Int) (h0 : 0 ≤ i) (h : i < l.length) : l.take (i + 1).toNat = l.take i.toNat ++ [l.getD i.toNat []] := by
  have e : (i + 1).toNat = i.toNat + 1 := by omega
  have hi : i.toNat < l.length := by omega
  rw [e, List.take_add_one, List.getD_eq_getElem?_getD, List.getElem?_eq_getElem hi]
  rfl
theorem find_put (k v n : Int) : ∀ l : List (Int × Int), ((l.map fun p => if p.1 == k then (k, v) else p).find? fun p => p.1 == n) = (l.find? fun p => p.1 == n).map fun p => if p.1 == k then (k, v) else p
  | [] => rfl
  | p :: l => by
    have ih := find_put k v n l
    simp only [List.map_cons, List.find?_cons]
    by_cases e : p.1 = k
    · have e1 : (p.1 == k) = true := by simpa using e
      simp only [e1, if_true]
      by_cases g : k = n
      · have g1 : (k == n) = true := by simpa using g
        have g2 : (p.1 == n) = true := by simpa using e.trans g
        simp only [g1, g2, Option.map_some, e1, if_true]
      · have g1 : (k == n) = false := by simpa using g
        have g2 : (p.1 == n) = false := by simpa using (fun h => g (e.symm.trans h))
        simp only [g1, g2]
        exact ih
    · have e1 : (p.1 == k) = false := by simpa using e
      simp only [e1, Bool.false_eq_true, if_false]
      cases h : (p.1 == n) with
      | true => simp only [Option.map_some, e1, Bool.false_eq_true, if_false]
      | false => exact ih
theorem mget_put (l : List (Int × Int)) (k v n : Int) : mget (mput l k v) n = if n = k then v else mget l n := by
  unfold mput mhas mget
  by_cases h : (l.any fun p => p.1 == k) = true
  · rw [if_pos h, find_put]
    cases hf : l.find? (fun p => p.1 == n) with
    | none =>
      simp only [Option.map_none]
      split
      · rename_i e
        subst e
        obtain ⟨p, hp, e⟩ := List.any_eq_true.1 h
        exact absurd e (by simpa using List.find?_eq_none.1 hf p hp)
      · rfl
    | some p =>
      have hp : p.1 = n := by simpa using List.find?_some hf
      simp only [Option.map_some]
      by_cases e : n = k
      · have : (p.1 == k) = true := by simpa using hp.trans e
        simp only [this, if_true, e]
      · have : (p.1 == k) = false := by simpa using (fun g => e (hp.symm.trans g))
        simp only [this, Bool.false_eq_true, if_false, e]
  · rw [if_neg h]
    have hno : ∀ p ∈ l, ¬ p.1 = k := fun p hp e => h (List.any_eq_true.2 ⟨p, hp, by simpa using e⟩)
    rw [List.find?_append]
    cases hf : l.find? (fun p => p.1 == n) with
    | none =>
      simp only [Option.none_or, List.find?_cons]
      by_cases e : n = k
      · subst e
        simp
      · have : (k == n) = false := by simpa using (fun g => e g.symm)
        simp only [this, List.find?_nil, e, if_false]
    | some p =>
      have hp : p.1 = n := by simpa using List.find?_some hf
      have hm := hno p (List.mem_of_find?_eq_some hf)
      rw [Option.some_or, if_neg (fun e => hm (hp.trans e))]
theorem mput_len (l : List (Int × Int)) (k v : Int) : (mput l k v).length ≤ l.length + 1 := by
  unfold mput
  split
  · rw [List.length_map]
    exact Nat.le_succ _
  · rw [List.length_append]
    exact Nat.le_refl _
/-- How often a number is an end. -/
def cntE (l : List E) (n : Int) : Int := (l.countP (fun y => ri y 0 == n) + l.countP (fun y => ri y 1 == n) : Nat)
def endE (l : List E) (n : Int) : Bool := l.any fun y => ri y 0 == n || ri y 1 == n
/-- The ends, from 1 to k. -/
def nodF (l : List E) : Nat → List Int
  | 0 => []
  | k + 1 => if endE l (k + 1) = true then nodF l k ++ [((k + 1 : Nat) : Int)] else nodF l k
def nodL (l : List E) : List Int := nodF l 64
def b1 (b : Bool) : Int := if b = true then 1 else 0
theorem cnt_app (l : List E) (y : E) (n : Int) : cntE (l ++ [y]) n = cntE l n + b1 (ri y 0 == n) + b1 (ri y 1 == n) := by
  unfold cntE b1
  simp only [List.countP_append, List.countP_cons, List.countP_nil, Nat.zero_add]
  split <;> split <;> (push_cast; omega)
theorem cnt_le (l : List E) (n : Int) : 0 ≤ cntE l n ∧ cntE l n ≤ 2 * l.length := by
  have h1 := List.countP_le_length (p := fun y => ri y 0 == n) (l := l)
  have h2 := List.countP_le_length (p := fun y => ri y 1 == n) (l := l)
  unfold cntE
  omega
theorem cnt_pos (l : List E) (n : Int) : 0 < cntE l n ↔ endE l n = true := by
  unfold cntE endE
  rw [List.any_eq_true]
  constructor
  · intro h
    have : 0 < l.countP (fun y => ri y 0 == n) ∨ 0 < l.countP (fun y => ri y 1 == n) := by omega
    rcases this with h | h
    · obtain ⟨y, hy, e⟩ := List.countP_pos_iff.1 h
      exact ⟨y, hy, by simp only [Bool.or_eq_true]; exact .inl e⟩
    · obtain ⟨y, hy, e⟩ := List.countP_pos_iff.1 h
      exact ⟨y, hy, by simp only [Bool.or_eq_true]; exact .inr e⟩
  · rintro ⟨y, hy, e⟩
    simp only [Bool.or_eq_true] at e
    rcases e with e | e
    · have := (List.countP_pos_iff (p := fun y => ri y 0 == n)).2 ⟨y, hy, e⟩
      omega
    · have := (List.countP_pos_iff (p := fun y => ri y 1 == n)).2 ⟨y, hy, e⟩
      omega
theorem nod_len (l : List E) : ∀ k, (nodF l k).length ≤ k
  | 0 => Nat.le_refl 0
  | k + 1 => by
    have := nod_len l k
    unfold nodF
    split
    · rw [List.length_append, List.length_singleton]
      omega
    · omega
structure XN where
  i : Int
  m : List (Int × Int)
def cnQ (l : List E) (y : XN) : Prop := 0 ≤ y.i ∧ y.i ≤ l.length ∧ (y.m.length : Int) ≤ 2 * y.i ∧ ∀ n, mget y.m n = cntE (l.take y.i.toNat) n
def cnM (l : List E) (y : XN) : Nat := l.length - y.i.toNat
theorem cn_zero (l : List E) : cnQ l ⟨0, []⟩ := ⟨Int.le_refl 0, Int.natCast_nonneg _, by decide, fun _ => rfl⟩
theorem cn_step {l : List E} (hl : l.length ≤ 1000000) {i : Int} {M : List (Int × Int)} (hq : cnQ l ⟨i, M⟩) (h : i < l.length) :
    stdBin .add .i64 i 1 = i + 1 ∧ (M.length : Int) < 1000000000000 ∧ ((mput M (ri (l.getD i.toNat []) 0) (stdBin .add .i64 (mget M (ri (l.getD i.toNat []) 0)) 1)).length : Int) < 1000000000000 ∧ (∀ N, cnM l ⟨i + 1, N⟩ < cnM l ⟨i, M⟩) ∧
    cnQ l ⟨i + 1, mput (mput M (ri (l.getD i.toNat []) 0) (stdBin .add .i64 (mget M (ri (l.getD i.toNat []) 0)) 1)) (ri (l.getD i.toNat []) 1) (stdBin .add .i64 (mget (mput M (ri (l.getD i.toNat []) 0) (stdBin .add .i64 (mget M (ri (l.getD i.toNat []) 0)) 1)) (ri (l.getD i.toNat []) 1)) 1)⟩ := by
  obtain ⟨h0, h1, h2, h3⟩ := hq
  simp only at h0 h1 h2 h3
  have ht := tk_next l i h0 h
  generalize l.getD i.toNat [] = y at ht ⊢
  have g1 := mput_len M (ri y 0) (stdBin .add .i64 (mget M (ri y 0)) 1)
  have g2 := mput_len (mput M (ri y 0) (stdBin .add .i64 (mget M (ri y 0)) 1)) (ri y 1) (stdBin .add .i64 (mget (mput M (ri y 0) (stdBin .add .i64 (mget M (ri y 0)) 1)) (ri y 1)) 1)
  refine ⟨by rw [b_add, wr _ (by omega) (by omega)], by omega, by omega, fun N => by simp only [cnM]; omega, by simp only; omega, by simp only; omega, by simp only; omega, fun n => ?_⟩
  simp only
  rw [ht, cnt_app]
  have hc := fun n => cnt_le (l.take i.toNat) n
  have htl : (l.take i.toNat).length ≤ 1000000 := Nat.le_trans (List.length_take_le _ _) (by omega)
  have e1 : stdBin .add .i64 (mget M (ri y 0)) 1 = cntE (l.take i.toNat) (ri y 0) + 1 := by
    rw [h3]
    have := hc (ri y 0)
    rw [b_add, wr _ (by omega) (by omega)]
  rw [e1, mget_put, mget_put, mget_put]
  have e2 : stdBin .add .i64 (if ri y 1 = ri y 0 then cntE (l.take i.toNat) (ri y 0) + 1 else mget M (ri y 1)) 1 = cntE (l.take i.toNat) (ri y 1) + b1 (ri y 0 == ri y 1) + 1 := by
    rw [h3]
    have a := hc (ri y 0)
    have b := hc (ri y 1)
    unfold b1
    by_cases e : ri y 1 = ri y 0
    · rw [if_pos e, e, if_pos (by simp), b_add, wr _ (by omega) (by omega)]
    · rw [if_neg e, if_neg (by simpa using fun w => e w.symm), b_add, wr _ (by omega) (by omega)]
      omega
  rw [e2, h3]
  unfold b1
  by_cases c1 : n = ri y 1
  · subst c1
    rw [if_pos rfl, if_pos (show (ri y 1 == ri y 1) = true by simp)]
  · rw [if_neg c1, if_neg (show ¬ (ri y 1 == n) = true by simpa using fun w => c1 w.symm)]
    by_cases c2 : n = ri y 0
    · subst c2
      rw [if_pos rfl, if_pos (show (ri y 0 == ri y 0) = true by simp)]
      omega
    · rw [if_neg c2, if_neg (show ¬ (ri y 0 == n) = true by simpa using fun w => c2 w.symm)]
      omega
theorem cn_end {l : List E} {i : Int} {M : List (Int × Int)} (hq : cnQ l ⟨i, M⟩) (h : ¬ i < l.length) : ∀ n, 0 < mget M n ↔ endE l n = true := by
  obtain ⟨h0, h1, h2, h3⟩ := hq
  simp only at h0 h1 h2 h3
  have e : i = l.length := by omega
  rw [e, Int.toNat_natCast, List.take_length] at h3
  intro n
  rw [h3]
  exact cnt_pos l n
structure XO where
  n : Int
  o : List Int
def noQ (l : List E) (y : XO) : Prop := 1 ≤ y.n ∧ y.n ≤ 65 ∧ y.o = nodF l (y.n - 1).toNat
def noM (y : XO) : Nat := 65 - y.n.toNat
theorem no_zero (l : List E) : noQ l ⟨1, []⟩ := ⟨Int.le_refl 1, by decide, rfl⟩
theorem no_step {l : List E} {n : Int} {o : List Int} (hq : noQ l ⟨n, o⟩) (h : n ≤ 64) : stdBin .add .i64 n 1 = n + 1 ∧ o.length ≤ 64 ∧ (∀ p, noM ⟨n + 1, p⟩ < noM ⟨n, o⟩) ∧ (endE l n = true → noQ l ⟨n + 1, o ++ [n]⟩) ∧ (endE l n = false → noQ l ⟨n + 1, o⟩) := by
  obtain ⟨h0, h1, h2⟩ := hq
  simp only at h0 h1 h2
  have hl := nod_len l (n - 1).toNat
  rw [← h2] at hl
  have e : (n + 1 - 1).toNat = (n - 1).toNat + 1 := by omega
  have e2 : (((n - 1).toNat : Nat) : Int) + 1 = n := by omega
  have e3 : (((n - 1).toNat + 1 : Nat) : Int) = n := by omega
  have hs : nodF l (n + 1 - 1).toNat = if endE l n = true then nodF l (n - 1).toNat ++ [n] else nodF l (n - 1).toNat := by
    rw [e]
    conv => lhs; unfold nodF
    rw [e2, e3]
  refine ⟨by rw [b_add, wr _ (by omega) (by omega)], by omega, fun p => by simp only [noM]; omega, fun g => ⟨by simp only; omega, by simp only; omega, ?_⟩, fun g => ⟨by simp only; omega, by simp only; omega, ?_⟩⟩
  · simp only
    rw [hs, if_pos g, h2]
  · simp only
    rw [hs, if_neg (by rw [g]; decide), h2]
theorem no_end {l : List E} {n : Int} {o : List Int} (hq : noQ l ⟨n, o⟩) (h : ¬ n ≤ 64) : o = nodL l := by
  obtain ⟨h0, h1, h2⟩ := hq
  simp only at h0 h1 h2
  rw [h2, show (n - 1).toNat = 64 by omega]
  rfl
structure XA where
  i : Int
  b : Bool
def anQ (l : List E) (n : Int) (y : XA) : Prop := 0 ≤ y.i ∧ y.i ≤ l.length ∧ y.b = endE (l.take y.i.toNat) n
def anM (l : List E) (y : XA) : Nat := l.length - y.i.toNat
theorem an_zero (l : List E) (n : Int) : anQ l n ⟨0, false⟩ := ⟨Int.le_refl 0, Int.natCast_nonneg _, rfl⟩
theorem an_step {l : List E} (hl : l.length ≤ 1000000) {n i : Int} {b : Bool} (hq : anQ l n ⟨i, b⟩) (h : i < l.length) : stdBin .add .i64 i 1 = i + 1 ∧ (∀ c, anM l ⟨i + 1, c⟩ < anM l ⟨i, b⟩) ∧ anQ l n ⟨i + 1, b || (ri (l.getD i.toNat []) 0 == n || ri (l.getD i.toNat []) 1 == n)⟩ := by
  obtain ⟨h0, h1, h2⟩ := hq
  simp only at h0 h1 h2
  refine ⟨by rw [b_add, wr _ (by omega) (by omega)], fun c => by simp only [anM]; omega, by simp only; omega, by simp only; omega, ?_⟩
  simp only
  rw [tk_next l i h0 h]
  unfold endE at h2 ⊢
  rw [List.any_append, ← h2]
  simp
theorem an_end {l : List E} {n i : Int} {b : Bool} (hq : anQ l n ⟨i, b⟩) (h : ¬ i < l.length) : b = endE l n := by
  obtain ⟨h0, h1, h2⟩ := hq
  simp only at h0 h1 h2
  have e : i = l.length := by omega
  rw [h2, e, Int.toNat_natCast, List.take_length]
structure XJ where
  i : Int
def allQ (n : Nat) (p : Nat → Bool) (y : XJ) : Prop := 0 ≤ y.i ∧ y.i ≤ n ∧ ∀ j : Nat, j < y.i → p j = true
def allM (n : Nat) (y : XJ) : Nat := n - y.i.toNat
def sameI (p q : List Int) : Bool := decide (p = q)
def eI (p q : List Int) (i : Nat) : Bool := decide (p.getD i 0 = q.getD i 0)
theorem eI_step {p q : List Int} (hn : p.length ≤ 1000000) (hl : p.length = q.length) {i : Int} (hq : allQ p.length (eI p q) ⟨i⟩) : (i < p.length → stdBin .add .i64 i 1 = i + 1 ∧ allM p.length ⟨i + 1⟩ < allM p.length ⟨i⟩ ∧ (p.getD i.toNat 0 = q.getD i.toNat 0 → allQ p.length (eI p q) ⟨i + 1⟩) ∧ (¬ p.getD i.toNat 0 = q.getD i.toNat 0 → sameI p q = false)) ∧ (¬ i < p.length → sameI p q = true) := by
  obtain ⟨h0, h1, h2⟩ := hq
  simp only at h0 h1 h2
  refine ⟨fun h => ⟨by rw [b_add, wr _ (by omega) (by omega)], by simp only [allM]; omega, fun g => ⟨by simp only; omega, by simp only; omega, fun j hj => ?_⟩, fun g => decide_eq_false fun e => g (by rw [e])⟩, fun h => decide_eq_true ?_⟩
  · simp only at hj
    by_cases e : j = i.toNat
    · rw [e]
      exact decide_eq_true g
    · exact h2 j (by omega)
  · refine List.ext_getElem hl fun j a b => ?_
    have := of_decide_eq_true (h2 j (by omega))
    rw [List.getD_eq_getElem?_getD, List.getD_eq_getElem?_getD, List.getElem?_eq_getElem a, List.getElem?_eq_getElem b] at this
    exact this
theorem nI {p q : List Int} (h : p.length ≠ q.length) : sameI p q = false := decide_eq_false fun e => h (by rw [e])
theorem same_I (p : List Int) : sameI p p = true := decide_eq_true rfl

noncomputable def cnI (A : Ar) (l : List E) (y : XN) : St := stOf Try.f10.ntmps [(3, .mp 1), (9, .sl none (.recs (.int .i64 (.int .i64 (.int .i64 .nil))) l)), (10, .val (.int .i64 (A.lenE l))), (11, .val (.int .i64 y.i))] [(1, .mp y.m)] [Any]
def cnR (st : St) : XN := ⟨slotI st 11, slotM st 3⟩
noncomputable def noI (M : List (Int × Int)) (y : XO) : St := stOf Try.f10.ntmps [(3, .mp 1), (6, .sl (some (2, 3)) (.ints .i64 y.o)), (7, .val (.int .i64 y.n))] [(1, .mp M), (2, .tok)] [Any]
def noR (st : St) : XO := ⟨slotI st 7, slotL st 6⟩
noncomputable def roI (l : List E) (y : XO) : St := stOf Try.f11.ntmps [(0, .sl none (.recs (.int .i64 (.int .i64 (.int .i64 .nil))) l)), (3, .sl (some (1, 3)) (.ints .i64 y.o)), (4, .val (.int .i64 y.n))] [(1, .tok)] [Any]
def roR (st : St) : XO := ⟨slotI st 4, slotL st 3⟩
noncomputable def anI (l : List E) (n : Int) (o : List Int) (y : XA) : St := stOf Try.f11.ntmps [(0, .sl none (.recs (.int .i64 (.int .i64 (.int .i64 .nil))) l)), (3, .sl (some (1, 3)) (.ints .i64 o)), (4, .val (.int .i64 n)), (5, .val (.bool y.b)), (6, .val (.int .i64 y.i))] [(1, .tok)] [Any]
def anR (st : St) : XA := ⟨slotI st 6, slotB st 5⟩
noncomputable def s3I (p q : List Int) (y : XJ) : St := stOf Try.f9.ntmps [(0, .sl none (.ints .i64 p)), (1, .sl none (.ints .i64 q)), (5, .val (.int .i64 y.i))] [] [Any, Any]
def s3R (st : St) : XJ := ⟨slotI st 5⟩

structure Nd where
  n_l : List E → List Int
  n_ok : List E → Bool
  n_s : List Int → List Int → Bool
  n_o : List Int → List Int → Bool
def Nd.std : Nd := ⟨nodL, fun l => decide (l.length ≤ 1000000), sameI, fun p q => decide (p.length ≤ 1000000 ∧ q.length ≤ 1000000)⟩

def c_enodes (F : Nd) : Con := fun xs h => match xs, h with
  | [.one (.sl none (.recs (.int .i64 (.int .i64 (.int .i64 .nil))) l))], [] => some ⟨F.n_ok l = true, .sa (.one (.sl none (.ints .i64 (F.n_l l)))), [], [Any]⟩
  | _, _ => none
set_option maxHeartbeats 2000000 in
set_option maxRecDepth 100000 in
theorem x_enodes (l : List E) (hC : Nd.std.n_ok l = true) : Does [] Try.f10 [.one (.sl none (.recs (.int .i64 (.int .i64 (.int .i64 .nil))) l))] [] ⟨Nd.std.n_ok l = true, .sa (.one (.sl none (.ints .i64 (Nd.std.n_l l)))), [], [Any]⟩ := by
  intro b gv
  have hk : l.length ≤ 1000000 := of_decide_eq_true (show decide (l.length ≤ 1000000) = true from hC)
  generalize hF : Nd.std = F at hC ⊢
  generalize hA : Ar.std = A
  generalize hL : Lp _ _ _ = L
  obtain ⟨Z, zq⟩ := z_all
  refine @cd_open _ _ _ _ _ _ _ (lp_mono hL) _ _ zq rfl ?_
  repeat' (first
    | (refine z_open zq ?_; try dsimp only)
    | refine cd_seq zq ?_ (lp_mono hL)
    | refine cd_blk zq ?_
    | refine cd_ret ?_
    | refine cd_skip ?_
    | refine cd_exit ?_
    | refine cd_loop ?_
    | refine cd_cond rfl ?_
    | refine cd_condT rfl ?_
    | refine cd_condF rfl ?_
    | (refine Cd.mk ?_; cbv)
    | (refine Ends1.mk ?_; cbv)
    | (refine Fin1.mk ?_; cbv)
    | exact trivial
    | refine And.intro ?_ ?_
    | refine orf fun _ => ?_
    | refine ort fun _ => ?_)
  all_goals first | (show L _ _ _; skip) | (clear hL zq Z; subst hA hF; simp only [Nd.std, Ar.std, List.nil_append] at * <;> grind [stdCmp]; done)
  subst hL
  refine loop_z (cx_ok FsOk.nil) (cnQ l) (cnI A l) (cnM l) cnR ⟨0, []⟩ ?_ ?_ ?_
  · exact cn_zero l
  · cbv
    repeat' (first | exact trivial | exact rfl | refine And.intro ?_ ?_)
  rintro ⟨i, M⟩ hq O hO
  have hst := fun h => cn_step hk hq h
  have hen := fun h => cn_end hq h
  have q0 := hq.1
  have q1 := hq.2.1
  dsimp only at q0 q1
  subst hA
  generalize hA : Ar.std = A
  generalize hL : Lp _ _ _ = L
  refine cd_close zq ?_
  repeat' (first
    | (refine z_open zq ?_; try dsimp only)
    | refine cd_seq zq ?_ (lp_mono hL)
    | refine cd_blk zq ?_
    | refine cd_ret ?_
    | refine cd_skip ?_
    | refine cd_exit ?_
    | refine cd_loop ?_
    | refine cd_cond rfl ?_
    | refine cd_condT rfl ?_
    | refine cd_condF rfl ?_
    | (refine Cd.mk ?_; cbv)
    | (refine Ends1.mk ?_; cbv)
    | (refine Fin1.mk ?_; cbv)
    | exact trivial
    | refine And.intro ?_ ?_
    | refine orf fun _ => ?_
    | refine ort fun _ => ?_)
  all_goals first | (show L _ _ _; skip) | (clear hL zq Z hq; subst hA hF hO; simp only [Nd.std, Ar.std] at * <;> grind [stdCmp]; done)
  rename_i hx
  have hnd : ∀ n, 0 < mget M n ↔ endE l n = true := hen (by
    clear hL zq Z hq hst hen hO
    subst hA
    simp only [Ar.std] at hx
    grind [stdCmp])
  clear hst hen hx hO
  subst hL
  refine loop_z (cx_ok FsOk.nil) (noQ l) (noI M) (noM) noR ⟨1, []⟩ ?_ ?_ ?_
  · exact no_zero l
  · cbv
    repeat' (first | exact trivial | exact rfl | refine And.intro ?_ ?_)
  rintro ⟨n, o⟩ hq2 O2 hO2
  have hst := fun h => no_step hq2 h
  have hen := fun h => no_end hq2 h
  have hn := hnd n
  have q2 := hq2.1
  have q3 := hq2.2.1
  dsimp only at q2 q3
  subst hA
  generalize hA : Ar.std = A
  generalize hL : Lp _ _ _ = L
  refine cd_close zq ?_
  repeat' (first
    | (refine z_open zq ?_; try dsimp only)
    | refine cd_seq zq ?_ (lp_mono hL)
    | refine cd_blk zq ?_
    | refine cd_ret ?_
    | refine cd_skip ?_
    | refine cd_exit ?_
    | refine cd_loop ?_
    | refine cd_cond rfl ?_
    | refine cd_condT rfl ?_
    | refine cd_condF rfl ?_
    | (refine Cd.mk ?_; cbv)
    | (refine Ends1.mk ?_; cbv)
    | (refine Fin1.mk ?_; cbv)
    | exact trivial
    | refine And.intro ?_ ?_
    | refine orf fun _ => ?_
    | refine ort fun _ => ?_)
  all_goals (clear hL zq Z hq hq2; subst hA hF hO2; simp only [Nd.std, Ar.std] at * <;> grind [stdCmp]; done)
theorem ok_enodes : ConOk Try.prog 10 (c_enodes Nd.std) := by
  refine con_of FsOk.nil Try.func10 rfl rfl fun xs h p hp => ?_
  unfold c_enodes at hp
  split at hp
  · cases hp
    exact ⟨lee_le rfl, fun hC _ => @x_enodes _ hC⟩
  · cases hp

def c_rnodes (F : Nd) : Con := fun xs h => match xs, h with
  | [.one (.sl none (.recs (.int .i64 (.int .i64 (.int .i64 .nil))) l))], [] => some ⟨F.n_ok l = true, .sa (.one (.sl none (.ints .i64 (F.n_l l)))), [], [Any]⟩
  | _, _ => none
set_option maxHeartbeats 2000000 in
set_option maxRecDepth 100000 in
theorem x_rnodes (l : List E) (hC : Nd.std.n_ok l = true) : Does [] Try.f11 [.one (.sl none (.recs (.int .i64 (.int .i64 (.int .i64 .nil))) l))] [] ⟨Nd.std.n_ok l = true, .sa (.one (.sl none (.ints .i64 (Nd.std.n_l l)))), [], [Any]⟩ := by
  intro b gv
  have hk : l.length ≤ 1000000 := of_decide_eq_true (show decide (l.length ≤ 1000000) = true from hC)
  generalize hF : Nd.std = F at hC ⊢
  generalize hA : Ar.std = A
  generalize hL : Lp _ _ _ = L
  obtain ⟨Z, zq⟩ := z_all
  refine @cd_open _ _ _ _ _ _ _ (lp_mono hL) _ _ zq rfl ?_
  repeat' (first
    | (refine z_open zq ?_; try dsimp only)
    | refine cd_seq zq ?_ (lp_mono hL)
    | refine cd_blk zq ?_
    | refine cd_ret ?_
    | refine cd_skip ?_
    | refine cd_exit ?_
    | refine cd_loop ?_
    | refine cd_cond rfl ?_
    | refine cd_condT rfl ?_
    | refine cd_condF rfl ?_
    | (refine Cd.mk ?_; cbv)
    | (refine Ends1.mk ?_; cbv)
    | (refine Fin1.mk ?_; cbv)
    | exact trivial
    | refine And.intro ?_ ?_
    | refine orf fun _ => ?_
    | refine ort fun _ => ?_)
  all_goals first | (show L _ _ _; skip) | (clear hL zq Z; subst hA hF; simp only [Nd.std, Ar.std, List.nil_append] at * <;> grind [stdCmp]; done)
  subst hL
  refine loop_z (cx_ok FsOk.nil) (noQ l) (roI l) (noM) roR ⟨1, []⟩ ?_ ?_ ?_
  · exact no_zero l
  · cbv
    repeat' (first | exact trivial | exact rfl | refine And.intro ?_ ?_)
  rintro ⟨n, o⟩ hq O hO
  have hst := fun h => no_step hq h
  have hen := fun h => no_end hq h
  have q0 := hq.1
  have q1 := hq.2.1
  dsimp only at q0 q1
  subst hA
  generalize hA : Ar.std = A
  generalize hL : Lp _ _ _ = L
  refine cd_close zq ?_
  repeat' (first
    | (refine z_open zq ?_; try dsimp only)
    | refine cd_seq zq ?_ (lp_mono hL)
    | refine cd_blk zq ?_
    | refine cd_ret ?_
    | refine cd_skip ?_
    | refine cd_exit ?_
    | refine cd_loop ?_
    | refine cd_cond rfl ?_
    | refine cd_condT rfl ?_
    | refine cd_condF rfl ?_
    | (refine Cd.mk ?_; cbv)
    | (refine Ends1.mk ?_; cbv)
    | (refine Fin1.mk ?_; cbv)
    | exact trivial
    | refine And.intro ?_ ?_
    | refine orf fun _ => ?_
    | refine ort fun _ => ?_)
  all_goals first | (show L _ _ _; skip) | (clear hL zq Z hq; subst hA hF hO; simp only [Nd.std, Ar.std] at * <;> grind [stdCmp]; done)
  rename_i hx
  have hn : n ≤ 64 := by
    clear hL zq Z hq hst hen hO
    subst hA
    simp only [Ar.std] at hx
    grind [stdCmp]
  obtain ⟨s1, s2, s3, s4, s5⟩ := hst hn
  clear hen hx
  subst hL
  refine loop_z (cx_ok FsOk.nil) (anQ l n) (anI l n o) (anM l) anR ⟨0, false⟩ ?_ ?_ ?_
  · exact an_zero l n
  · cbv
    repeat' (first | exact trivial | exact rfl | refine And.intro ?_ ?_)
  rintro ⟨i, b8⟩ hq2 O2 hO2
  have hst2 := fun h => an_step hk hq2 h
  have hen2 := fun h => an_end hq2 h
  have q2 := hq2.1
  have q3 := hq2.2.1
  dsimp only at q2 q3
  subst hA
  generalize hA : Ar.std = A
  generalize hL : Lp _ _ _ = L
  refine cd_close zq ?_
  repeat' (first
    | (refine z_open zq ?_; try dsimp only)
    | refine cd_seq zq ?_ (lp_mono hL)
    | refine cd_blk zq ?_
    | refine cd_ret ?_
    | refine cd_skip ?_
    | refine cd_exit ?_
    | refine cd_loop ?_
    | refine cd_cond rfl ?_
    | refine cd_condT rfl ?_
    | refine cd_condF rfl ?_
    | (refine Cd.mk ?_; cbv)
    | (refine Ends1.mk ?_; cbv)
    | (refine Fin1.mk ?_; cbv)
    | exact trivial
    | refine And.intro ?_ ?_
    | refine orf fun _ => ?_
    | refine ort fun _ => ?_)
  all_goals (clear hL zq Z hq hq2; subst hA hF hO hO2; simp only [Nd.std, Ar.std] at * <;> grind [stdCmp]; done)
theorem ok_rnodes : ConOk Try.prog 11 (c_rnodes Nd.std) := by
  refine con_of FsOk.nil Try.func11 rfl rfl fun xs h p hp => ?_
  unfold c_rnodes at hp
  split at hp
  · cases hp
    exact ⟨lee_le rfl, fun hC _ => @x_rnodes _ hC⟩
  · cases hp

def c_rints (F : Nd) : Con := fun xs h => match xs, h with
  | [.one (.sl none (.ints .i64 p)), .one (.sl none (.ints .i64 q))], [] => some ⟨F.n_o p q = true, .sa (B (F.n_s p q)), [], [Any, Any]⟩
  | _, _ => none
set_option maxRecDepth 100000 in
theorem x_rints (p : List Int) (q : List Int) (hC : Nd.std.n_o p q = true) : Does [] Try.f9 [.one (.sl none (.ints .i64 p)), .one (.sl none (.ints .i64 q))] [] ⟨Nd.std.n_o p q = true, .sa (B (Nd.std.n_s p q)), [], [Any, Any]⟩ := by
  intro b gv
  have hk : p.length ≤ 1000000 ∧ q.length ≤ 1000000 := of_decide_eq_true (show decide (p.length ≤ 1000000 ∧ q.length ≤ 1000000) = true from hC)
  have hne := fun h => nI (p := p) (q := q) h
  generalize hF : Nd.std = F at hC ⊢
  generalize hA : Ar.std = A
  generalize hL : Lp _ _ _ = L
  obtain ⟨Z, zq⟩ := z_all
  refine @cd_open _ _ _ _ _ _ _ (lp_mono hL) _ _ zq rfl ?_
  repeat' (first
    | (refine z_open zq ?_; try dsimp only)
    | refine cd_seq zq ?_ (lp_mono hL)
    | refine cd_blk zq ?_
    | refine cd_ret ?_
    | refine cd_skip ?_
    | refine cd_exit ?_
    | refine cd_loop ?_
    | refine cd_cond rfl ?_
    | refine cd_condT rfl ?_
    | refine cd_condF rfl ?_
    | (refine Cd.mk ?_; cbv)
    | (refine Ends1.mk ?_; cbv)
    | (refine Fin1.mk ?_; cbv)
    | exact trivial
    | refine And.intro ?_ ?_
    | refine orf fun _ => ?_
    | refine ort fun _ => ?_)
  all_goals first | (show L _ _ _; skip) | (clear hL zq Z; subst hA hF; simp only [Nd.std, Ar.std] at * <;> grind [stdCmp]; done)
  rename_i hx
  have hl : p.length = q.length := by
    clear hL zq Z hF
    subst hA
    simp only [Ar.std] at hx
    grind [stdCmp]
  clear hx
  subst hL
  refine loop_z (cx_ok FsOk.nil) (allQ p.length (eI p q)) (s3I p q) (allM p.length) s3R ⟨0⟩ ?_ ?_ ?_
  · exact ⟨Int.le_refl 0, Int.natCast_nonneg _, fun j hj => by simp only at hj; omega⟩
  · cbv
    repeat' (first | exact trivial | exact rfl | refine And.intro ?_ ?_)
  rintro ⟨i⟩ hq O hO
  have hst := eI_step hk.1 hl hq
  have q0 := hq.1
  have q1 := hq.2.1
  dsimp only at q0 q1
  subst hA
  generalize hA : Ar.std = A
  generalize hL : Lp _ _ _ = L
  refine cd_close zq ?_
  repeat' (first
    | (refine z_open zq ?_; try dsimp only)
    | refine cd_seq zq ?_ (lp_mono hL)
    | refine cd_blk zq ?_
    | refine cd_ret ?_
    | refine cd_skip ?_
    | refine cd_exit ?_
    | refine cd_loop ?_
    | refine cd_cond rfl ?_
    | refine cd_condT rfl ?_
    | refine cd_condF rfl ?_
    | (refine Cd.mk ?_; cbv)
    | (refine Ends1.mk ?_; cbv)
    | (refine Fin1.mk ?_; cbv)
    | exact trivial
    | refine And.intro ?_ ?_
    | refine orf fun _ => ?_
    | refine ort fun _ => ?_)
  all_goals (clear hL zq Z hq; subst hA hF hO; simp only [Nd.std, Ar.std] at * <;> grind [stdCmp]; done)
theorem ok_rints : ConOk Try.prog 9 (c_rints Nd.std) := by
  refine con_of FsOk.nil Try.func9 rfl rfl fun xs h p hp => ?_
  unfold c_rints at hp
  split at hp
  · cases hp
    exact ⟨lee_le rfl, fun hC _ => @x_rints _ _ hC⟩
  · cases hp
end Go.Proofs.Ytmhhofnkipeffaa.NdR
