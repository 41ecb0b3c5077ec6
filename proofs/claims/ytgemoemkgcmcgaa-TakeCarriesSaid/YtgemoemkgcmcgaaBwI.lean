/-
  what acts do to what is on a way. No condition.
-/
import Derived.Test.YtgemoemkgcmcgaaCtI
import Derived.Test.YtgemoemkgcmcgaaRyM
import Derived.Test.YtgemoemkgcmcgaaBwN
namespace Go.Proofs.Ytgemoemkgcmcgaa.BwI
open Go Go.Proofs.Ytgemoemkgcmcgaa.Ry Go.Proofs.Ytgemoemkgcmcgaa.CtI Go.Proofs.Ytgemoemkgcmcgaa.BwN

def eO (y : Int) : Int := y
def res (w : List Int) (i : Int) : List Int := w.take i.toNat ++ w.drop (i.toNat + 1)
def bwL (w : List Int) (k n : Int) : List Int := if w.length = 0 then [] else if k = 2 ∨ k = 3 then res w (modI n w.length) else if k = 4 then w ++ [eO (w.getD (modI n w.length).toNat 0)] else if k = 5 then res w (modI n w.length) ++ [eO (w.getD (modI n w.length).toNat 0)] else w
def bwB (w : List Int) (k : Int) : Bool := decide (0 < w.length ∧ k = 2)
structure BwE where
  x0 : Int
def bwE (w : List Int) (k n : Int) : BwE := if 0 < w.length ∧ k = 2 then ⟨(w.getD (modI n w.length).toNat 0)⟩ else ⟨0⟩
theorem bw_i {w : List Int} (h : w.length ≤ 100000) (n : Int) : modB w.length = true ∧ (0 < w.length → 0 ≤ modI n w.length ∧ modI n w.length < w.length ∧ stdBin .add .i64 (modI n w.length) 1 = modI n w.length + 1 ∧ List.drop (Int.toNat 0) (List.take (modI n w.length).toNat w) ++ List.drop (modI n w.length + 1).toNat (List.take (Int.toNat w.length) w) = res w (modI n w.length) ∧ (res w (modI n w.length)).length ≤ 100000) := by
  have hb : modB w.length = true := decide_eq_true (by omega)
  refine ⟨hb, fun h0 => ?_⟩
  obtain ⟨_, _, a, b⟩ := mod_is (n := n) hb (by omega)
  refine ⟨a, b, by rw [b_add, wr _ (by omega) (by omega)], ?_, ?_⟩
  · unfold res
    rw [show (modI n w.length + 1).toNat = (modI n w.length).toNat + 1 by omega, Int.toNat_natCast, List.take_length]
    rfl
  · unfold res
    rw [List.length_append, List.length_take, List.length_drop]
    omega
theorem cat_two (a b : List Int) : catF [[D.ints a], [D.ints b]] = a ++ b := by
  unfold catF
  simp [rl]
theorem bl_len (w : List Int) (k n : Int) : (bwL w k n).length ≤ w.length + 1 := by
  have hr : (res w (modI n w.length)).length ≤ w.length := by
    unfold res
    rw [List.length_append, List.length_take, List.length_drop]
    omega
  unfold bwL
  split
  · simp
  · split
    · omega
    · split
      · simp
      · split
        · simp; omega
        · omega

structure Bw where
  b_mod : Int → Int → Int
  b_modB : Int → Bool
  b_l : List Int → Int → Int → List Int
  b_b : List Int → Int → Bool
  b_e : List Int → Int → Int → BwE
  b_ok : List Int → Bool
  b_ok1 : List Int → Bool
def Bw.std : Bw := ⟨modI, modB, bwL, bwB, bwE, fun w => decide (w.length ≤ 100000), fun w => decide (0 < w.length ∧ w.length ≤ 100000)⟩

def c_mod (F : Bw) : Con := fun xs h => match xs, h with
  | [.one (.val (.int .i64 n)), .one (.val (.int .i64 k))], [] => some ⟨F.b_modB k = true, .sa (I (F.b_mod n k)), [], [Any, Any]⟩
  | _, _ => none
set_option maxRecDepth 100000 in
theorem x_mod (n : Int) (k : Int) (hC : Bw.std.b_modB k = true) : Does [] Try.f158 [.one (.val (.int .i64 n)), .one (.val (.int .i64 k))] [] ⟨Bw.std.b_modB k = true, .sa (I (Bw.std.b_mod n k)), [], [Any, Any]⟩ := by
  intro b gv
  have hk := mod_is (n := n) (show modB k = true from hC)
  have hfs := FsOk.nil
  generalize hF : Bw.std = F at hC hfs ⊢
  generalize hG0 : CtI.Cs.std = G0 at hC hfs ⊢
  generalize hA : Ar.std = A
  generalize hL : Lp _ _ _ = L
  obtain ⟨Z, zq⟩ := z_all
  refine cd_open (lp_mono hL) zq rfl ?_
  repeat' (first
    | (refine z_open zq ?_; try dsimp only)
    | refine cd_seq zq ?_ (lp_mono hL)
    | refine cd_blk zq ?_
    | refine cd_ret ?_
    | refine cd_skip ?_
    | refine cd_exit ?_
    | refine cd_loop ?_
    | refine cd_cond rfl ?_
    | refine cd_condT rfl ?_
    | refine cd_condF rfl ?_
    | (refine Cd.mk ?_; cbv)
    | (refine Ends1.mk ?_; cbv)
    | (refine Fin1.mk ?_; cbv)
    | exact trivial
    | refine And.intro ?_ ?_
    | refine orf fun _ => ?_
    | refine ort fun _ => ?_)
  all_goals
    clear hL zq Z
    try clear hfs
    subst hA hF hG0
    simp only [Bw.std, Ar.std] at *
    try (grind [stdCmp, modI])
theorem ok_mod : ConOk Try.prog 158 (c_mod Bw.std) := by
  refine con_of FsOk.nil Try.func158 rfl rfl fun xs h p hp => ?_
  unfold c_mod at hp
  split at hp
  · cases hp
    exact ⟨lee_le rfl, fun hC _ => x_mod _ _ hC⟩
  · cases hp

def c_clone (F : Bw) : Con := fun xs h => match xs, h with
  | [.one (.sl none (.ints .i64 w))], [] => some ⟨F.b_ok1 w = true, .sa (.one (.sl (some (0, 3)) (.ints .i64 (w)))), [(0, .tok)], [Any]⟩
  | _, _ => none
set_option maxRecDepth 100000 in
theorem x_clone (w : List Int) (hC : Bw.std.b_ok1 w = true) : Does [] Try.f185 [.one (.sl none (.ints .i64 w))] [] ⟨Bw.std.b_ok1 w = true, .sa (.one (.sl (some (0, 3)) (.ints .i64 (w)))), [(0, .tok)], [Any]⟩ := by
  intro b gv
  have hk : 0 < w.length ∧ w.length ≤ 100000 := of_decide_eq_true (show decide (0 < w.length ∧ w.length ≤ 100000) = true from hC)
  have hfs := FsOk.nil
  generalize hF : Bw.std = F at hC hfs ⊢
  generalize hG0 : CtI.Cs.std = G0 at hC hfs ⊢
  generalize hA : Ar.std = A
  generalize hL : Lp _ _ _ = L
  obtain ⟨Z, zq⟩ := z_all
  refine cd_open (lp_mono hL) zq rfl ?_
  repeat' (first
    | (refine z_open zq ?_; try dsimp only)
    | refine cd_seq zq ?_ (lp_mono hL)
    | refine cd_blk zq ?_
    | refine cd_ret ?_
    | refine cd_skip ?_
    | refine cd_exit ?_
    | refine cd_loop ?_
    | refine cd_cond rfl ?_
    | refine cd_condT rfl ?_
    | refine cd_condF rfl ?_
    | (refine Cd.mk ?_; cbv)
    | (refine Ends1.mk ?_; cbv)
    | (refine Fin1.mk ?_; cbv)
    | exact trivial
    | refine And.intro ?_ ?_
    | refine orf fun _ => ?_
    | refine ort fun _ => ?_)
  all_goals
    clear hL zq Z
    try clear hfs
    subst hA hF hG0
    simp only [Bw.std, Ar.std, List.nil_append] at *
    try (grind [stdCmp])
theorem ok_clone : ConOk Try.prog 185 (c_clone Bw.std) := by
  refine con_of FsOk.nil Try.func185 rfl rfl fun xs h p hp => ?_
  unfold c_clone at hp
  split at hp
  · cases hp
    exact ⟨lee_le rfl, fun hC _ => x_clone _ hC⟩
  · cases hp

def c_blow (F : Bw) : Con := fun xs h => match xs, h with
  | [.one (.sl none (.ints .i64 w)), .agg [.val (.int .i64 o_k), .val (.int .i64 _), .val (.int .i64 _), .val (.int .i64 o_n), .val (.int .i64 _)]], [] => some ⟨F.b_ok w = true, .tup [.one (.sl (some (0, 3)) (.ints .i64 (F.b_l w o_k o_n))), I (F.b_e w o_k o_n).x0, B (F.b_b w o_k)], [(0, .tok)], [Any, Any]⟩
  | _, _ => none
set_option cbv.maxSteps 4000000 in
set_option maxHeartbeats 4000000 in
set_option maxRecDepth 100000 in
theorem x_blow (w : List Int) (o_k : Int) (o_a : Int) (o_b : Int) (o_n : Int) (o_w : Int) (hC : Bw.std.b_ok w = true) : Does [(158, c_mod Bw.std), (184, c_cati CtI.Cs.std), (185, c_clone Bw.std)] Try.f135 [.one (.sl none (.ints .i64 w)), .agg [.val (.int .i64 o_k), .val (.int .i64 o_a), .val (.int .i64 o_b), .val (.int .i64 o_n), .val (.int .i64 o_w)]] [] ⟨Bw.std.b_ok w = true, .tup [.one (.sl (some (0, 3)) (.ints .i64 (Bw.std.b_l w o_k o_n))), I (Bw.std.b_e w o_k o_n).x0, B (Bw.std.b_b w o_k)], [(0, .tok)], [Any, Any]⟩ := by
  intro b gv
  have hk : w.length ≤ 100000 := of_decide_eq_true (show decide (w.length ≤ 100000) = true from hC)
  obtain ⟨h1, h2⟩ := bw_i hk o_n
  have hfs := (FsOk.cons ok_mod (FsOk.cons ok_cati (FsOk.cons ok_clone FsOk.nil rfl) rfl) rfl)
  generalize hF : Bw.std = F at hC hfs ⊢
  generalize hG0 : CtI.Cs.std = G0 at hC hfs ⊢
  generalize hA : Ar.std = A
  generalize hL : Lp _ _ _ = L
  obtain ⟨Z, zq⟩ := z_all
  refine cd_open (lp_mono hL) zq rfl ?_
  repeat' (first
    | (refine z_open zq ?_; try dsimp only)
    | refine cd_seq zq ?_ (lp_mono hL)
    | refine cd_blk zq ?_
    | refine cd_ret ?_
    | refine cd_skip ?_
    | refine cd_exit ?_
    | refine cd_loop ?_
    | refine cd_cond rfl ?_
    | refine cd_condT rfl ?_
    | refine cd_condF rfl ?_
    | (refine Cd.mk ?_; cbv)
    | (refine Ends1.mk ?_; cbv)
    | (refine Fin1.mk ?_; cbv)
    | exact trivial
    | refine And.intro ?_ ?_
    | refine orf fun _ => ?_
    | refine ort fun _ => ?_)
  all_goals
    clear hL zq Z
    try clear hfs
    subst hA hF hG0
    simp only [Bw.std, CtI.Cs.std, Ar.std, cat_two] at *
    try (grind [stdCmp, bwL, bwB, bwE, eO])
theorem ok_blow : ConOk Try.prog 135 (c_blow Bw.std) := by
  refine con_of (FsOk.cons ok_mod (FsOk.cons ok_cati (FsOk.cons ok_clone FsOk.nil rfl) rfl) rfl) Try.func135 rfl rfl fun xs h p hp => ?_
  unfold c_blow at hp
  split at hp
  · cases hp
    exact ⟨lee_le rfl, fun hC _ => x_blow _ _ _ _ _ _ hC⟩
  · cases hp
end Go.Proofs.Ytgemoemkgcmcgaa.BwI
