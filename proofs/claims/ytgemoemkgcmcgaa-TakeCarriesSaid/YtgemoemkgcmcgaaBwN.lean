/-
  what acts do to what is on a way. No condition.
-/
import Derived.Test.YtgemoemkgcmcgaaCtN
import Derived.Test.YtgemoemkgcmcgaaRyM
namespace Go.Proofs.Ytgemoemkgcmcgaa.BwN
open Go Go.Proofs.Ytgemoemkgcmcgaa.Ry Go.Proofs.Ytgemoemkgcmcgaa.CtN

def modI (n k : Int) : Int := if k < 1 then 0 else n % k
def modB (k : Int) : Bool := decide (k ≤ 4611686018427387904)
theorem mod_is {n k : Int} (h : modB k = true) (h1 : ¬ k < 1) : (stdBin .rem .i64 n k < 0 → stdBin .add .i64 (stdBin .rem .i64 n k) k = modI n k) ∧ (¬ stdBin .rem .i64 n k < 0 → stdBin .rem .i64 n k = modI n k) ∧ 0 ≤ modI n k ∧ modI n k < k := by
  have hk : k ≤ 4611686018427387904 := of_decide_eq_true h
  have e : modI n k = n % k := if_neg h1
  have e1 : stdBin .rem .i64 n k = n.tmod k := rfl
  have l1 := Int.tmod_lt_of_pos n (show 0 < k by omega)
  have l2 := Int.lt_tmod_of_pos n (show 0 < k by omega)
  have m0 := Int.emod_nonneg n (show k ≠ 0 by omega)
  have m1 := Int.emod_lt_of_pos n (show 0 < k by omega)
  have me : n.tmod k = n % k ∨ n.tmod k + k = n % k := by
    rw [Int.tmod_eq_emod]
    split
    · left; omega
    · right; omega
  rw [e, e1]
  refine ⟨fun g => ?_, fun g => ?_, m0, m1⟩
  · rw [b_add, wr _ (by omega) (by omega)]
    omega
  · omega
def eO (y : E) : E := [D.int (ri y 0), D.ints (rl y 1)]
def res (w : List E) (i : Int) : List E := w.take i.toNat ++ w.drop (i.toNat + 1)
def bwL (w : List E) (k n : Int) : List E := if w.length = 0 then [] else if k = 2 ∨ k = 3 then res w (modI n w.length) else if k = 4 then w ++ [eO (w.getD (modI n w.length).toNat [])] else if k = 5 then res w (modI n w.length) ++ [eO (w.getD (modI n w.length).toNat [])] else w
def bwB (w : List E) (k : Int) : Bool := decide (0 < w.length ∧ k = 2)
structure BwE where
  x0 : Int
  x1 : List Int
def bwE (w : List E) (k n : Int) : BwE := if 0 < w.length ∧ k = 2 then ⟨ri (w.getD (modI n w.length).toNat []) 0, rl (w.getD (modI n w.length).toNat []) 1⟩ else ⟨0, []⟩
theorem bw_i {w : List E} (h : w.length ≤ 100000) (n : Int) : modB w.length = true ∧ (0 < w.length → 0 ≤ modI n w.length ∧ modI n w.length < w.length ∧ stdBin .add .i64 (modI n w.length) 1 = modI n w.length + 1 ∧ List.drop (Int.toNat 0) (List.take (modI n w.length).toNat w) ++ List.drop (modI n w.length + 1).toNat (List.take (Int.toNat w.length) w) = res w (modI n w.length) ∧ (res w (modI n w.length)).length ≤ 100000) := by
  have hb : modB w.length = true := decide_eq_true (by omega)
  refine ⟨hb, fun h0 => ?_⟩
  obtain ⟨_, _, a, b⟩ := mod_is (n := n) hb (by omega)
  refine ⟨a, b, by rw [b_add, wr _ (by omega) (by omega)], ?_, ?_⟩
  · unfold res
    rw [show (modI n w.length + 1).toNat = (modI n w.length).toNat + 1 by omega, Int.toNat_natCast, List.take_length]
    rfl
  · unfold res
    rw [List.length_append, List.length_take, List.length_drop]
    omega
theorem cat_two (a b : List E) : catF [[D.recs a], [D.recs b]] = a ++ b := by
  unfold catF
  simp [rr]
theorem bl_len (w : List E) (k n : Int) : (bwL w k n).length ≤ w.length + 1 := by
  have hr : (res w (modI n w.length)).length ≤ w.length := by
    unfold res
    rw [List.length_append, List.length_take, List.length_drop]
    omega
  unfold bwL
  split
  · simp
  · split
    · omega
    · split
      · simp
      · split
        · simp; omega
        · omega

structure Bw where
  b_mod : Int → Int → Int
  b_modB : Int → Bool
  b_l : List E → Int → Int → List E
  b_b : List E → Int → Bool
  b_e : List E → Int → Int → BwE
  b_ok : List E → Bool
  b_ok1 : List E → Bool
def Bw.std : Bw := ⟨modI, modB, bwL, bwB, bwE, fun w => decide (w.length ≤ 100000), fun w => decide (0 < w.length ∧ w.length ≤ 100000)⟩

def c_mod (F : Bw) : Con := fun xs h => match xs, h with
  | [.one (.val (.int .i64 n)), .one (.val (.int .i64 k))], [] => some ⟨F.b_modB k = true, .sa (I (F.b_mod n k)), [], [Any, Any]⟩
  | _, _ => none
set_option maxRecDepth 100000 in
theorem x_mod (n : Int) (k : Int) (hC : Bw.std.b_modB k = true) : Does [] Try.f158 [.one (.val (.int .i64 n)), .one (.val (.int .i64 k))] [] ⟨Bw.std.b_modB k = true, .sa (I (Bw.std.b_mod n k)), [], [Any, Any]⟩ := by
  intro b gv
  have hk := mod_is (n := n) (show modB k = true from hC)
  have hfs := FsOk.nil
  generalize hF : Bw.std = F at hC hfs ⊢
  generalize hG0 : CtN.Cs.std = G0 at hC hfs ⊢
  generalize hA : Ar.std = A
  generalize hL : Lp _ _ _ = L
  obtain ⟨Z, zq⟩ := z_all
  refine cd_open (lp_mono hL) zq rfl ?_
  repeat' (first
    | (refine z_open zq ?_; try dsimp only)
    | refine cd_seq zq ?_ (lp_mono hL)
    | refine cd_blk zq ?_
    | refine cd_ret ?_
    | refine cd_skip ?_
    | refine cd_exit ?_
    | refine cd_loop ?_
    | refine cd_cond rfl ?_
    | refine cd_condT rfl ?_
    | refine cd_condF rfl ?_
    | (refine Cd.mk ?_; cbv)
    | (refine Ends1.mk ?_; cbv)
    | (refine Fin1.mk ?_; cbv)
    | exact trivial
    | refine And.intro ?_ ?_
    | refine orf fun _ => ?_
    | refine ort fun _ => ?_)
  all_goals
    clear hL zq Z
    try clear hfs
    subst hA hF hG0
    simp only [Bw.std, Ar.std] at *
    try (grind [stdCmp, modI])
theorem ok_mod : ConOk Try.prog 158 (c_mod Bw.std) := by
  refine con_of FsOk.nil Try.func158 rfl rfl fun xs h p hp => ?_
  unfold c_mod at hp
  split at hp
  · cases hp
    exact ⟨lee_le rfl, fun hC _ => x_mod _ _ hC⟩
  · cases hp

def c_clone (F : Bw) : Con := fun xs h => match xs, h with
  | [.one (.sl none (.recs (.int .i64 (.ints .u8 .nil)) w))], [] => some ⟨F.b_ok1 w = true, .sa (.one (.sl (some (0, 157)) (.recs (.int .i64 (.ints .u8 .nil)) (w)))), [(0, .tok)], [Any]⟩
  | _, _ => none
set_option maxRecDepth 100000 in
theorem x_clone (w : List E) (hC : Bw.std.b_ok1 w = true) : Does [] Try.f183 [.one (.sl none (.recs (.int .i64 (.ints .u8 .nil)) w))] [] ⟨Bw.std.b_ok1 w = true, .sa (.one (.sl (some (0, 157)) (.recs (.int .i64 (.ints .u8 .nil)) (w)))), [(0, .tok)], [Any]⟩ := by
  intro b gv
  have hk : 0 < w.length ∧ w.length ≤ 100000 := of_decide_eq_true (show decide (0 < w.length ∧ w.length ≤ 100000) = true from hC)
  have hfs := FsOk.nil
  generalize hF : Bw.std = F at hC hfs ⊢
  generalize hG0 : CtN.Cs.std = G0 at hC hfs ⊢
  generalize hA : Ar.std = A
  generalize hL : Lp _ _ _ = L
  obtain ⟨Z, zq⟩ := z_all
  refine cd_open (lp_mono hL) zq rfl ?_
  repeat' (first
    | (refine z_open zq ?_; try dsimp only)
    | refine cd_seq zq ?_ (lp_mono hL)
    | refine cd_blk zq ?_
    | refine cd_ret ?_
    | refine cd_skip ?_
    | refine cd_exit ?_
    | refine cd_loop ?_
    | refine cd_cond rfl ?_
    | refine cd_condT rfl ?_
    | refine cd_condF rfl ?_
    | (refine Cd.mk ?_; cbv)
    | (refine Ends1.mk ?_; cbv)
    | (refine Fin1.mk ?_; cbv)
    | exact trivial
    | refine And.intro ?_ ?_
    | refine orf fun _ => ?_
    | refine ort fun _ => ?_)
  all_goals
    clear hL zq Z
    try clear hfs
    subst hA hF hG0
    simp only [Bw.std, Ar.std, List.nil_append] at *
    try (grind [stdCmp])
theorem ok_clone : ConOk Try.prog 183 (c_clone Bw.std) := by
  refine con_of FsOk.nil Try.func183 rfl rfl fun xs h p hp => ?_
  unfold c_clone at hp
  split at hp
  · cases hp
    exact ⟨lee_le rfl, fun hC _ => x_clone _ hC⟩
  · cases hp

def c_blow (F : Bw) : Con := fun xs h => match xs, h with
  | [.one (.sl none (.recs (.int .i64 (.ints .u8 .nil)) w)), .agg [.val (.int .i64 o_k), .val (.int .i64 _), .val (.int .i64 _), .val (.int .i64 o_n), .val (.int .i64 _)]], [] => some ⟨F.b_ok w = true, .tup [.one (.sl (some (0, 157)) (.recs (.int .i64 (.ints .u8 .nil)) (F.b_l w o_k o_n))), .agg [.val (.int .i64 (F.b_e w o_k o_n).x0), .sl none (.ints .u8 (F.b_e w o_k o_n).x1)], B (F.b_b w o_k)], [(0, .tok)], [Any, Any]⟩
  | _, _ => none
set_option cbv.maxSteps 4000000 in
set_option maxHeartbeats 4000000 in
set_option maxRecDepth 100000 in
theorem x_blow (w : List E) (o_k : Int) (o_a : Int) (o_b : Int) (o_n : Int) (o_w : Int) (hC : Bw.std.b_ok w = true) : Does [(158, c_mod Bw.std), (182, c_cat CtN.Cs.std), (183, c_clone Bw.std)] Try.f133 [.one (.sl none (.recs (.int .i64 (.ints .u8 .nil)) w)), .agg [.val (.int .i64 o_k), .val (.int .i64 o_a), .val (.int .i64 o_b), .val (.int .i64 o_n), .val (.int .i64 o_w)]] [] ⟨Bw.std.b_ok w = true, .tup [.one (.sl (some (0, 157)) (.recs (.int .i64 (.ints .u8 .nil)) (Bw.std.b_l w o_k o_n))), .agg [.val (.int .i64 (Bw.std.b_e w o_k o_n).x0), .sl none (.ints .u8 (Bw.std.b_e w o_k o_n).x1)], B (Bw.std.b_b w o_k)], [(0, .tok)], [Any, Any]⟩ := by
  intro b gv
  have hk : w.length ≤ 100000 := of_decide_eq_true (show decide (w.length ≤ 100000) = true from hC)
  obtain ⟨h1, h2⟩ := bw_i hk o_n
  have hfs := (FsOk.cons ok_mod (FsOk.cons ok_cat (FsOk.cons ok_clone FsOk.nil rfl) rfl) rfl)
  generalize hF : Bw.std = F at hC hfs ⊢
  generalize hG0 : CtN.Cs.std = G0 at hC hfs ⊢
  generalize hA : Ar.std = A
  generalize hL : Lp _ _ _ = L
  obtain ⟨Z, zq⟩ := z_all
  refine cd_open (lp_mono hL) zq rfl ?_
  repeat' (first
    | (refine z_open zq ?_; try dsimp only)
    | refine cd_seq zq ?_ (lp_mono hL)
    | refine cd_blk zq ?_
    | refine cd_ret ?_
    | refine cd_skip ?_
    | refine cd_exit ?_
    | refine cd_loop ?_
    | refine cd_cond rfl ?_
    | refine cd_condT rfl ?_
    | refine cd_condF rfl ?_
    | (refine Cd.mk ?_; cbv)
    | (refine Ends1.mk ?_; cbv)
    | (refine Fin1.mk ?_; cbv)
    | exact trivial
    | refine And.intro ?_ ?_
    | refine orf fun _ => ?_
    | refine ort fun _ => ?_)
  all_goals
    clear hL zq Z
    try clear hfs
    subst hA hF hG0
    simp only [Bw.std, CtN.Cs.std, Ar.std, cat_two] at *
    try (grind [stdCmp, bwL, bwB, bwE, eO])
theorem ok_blow : ConOk Try.prog 133 (c_blow Bw.std) := by
  refine con_of (FsOk.cons ok_mod (FsOk.cons ok_cat (FsOk.cons ok_clone FsOk.nil rfl) rfl) rfl) Try.func133 rfl rfl fun xs h p hp => ?_
  unfold c_blow at hp
  split at hp
  · cases hp
    exact ⟨lee_le rfl, fun hC _ => x_blow _ _ _ _ _ _ hC⟩
  · cases hp
end Go.Proofs.Ytgemoemkgcmcgaa.BwN
