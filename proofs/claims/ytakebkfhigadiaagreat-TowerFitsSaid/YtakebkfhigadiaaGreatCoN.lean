/-
  what a core without ties is, as the code has it. No condition.
-/
import Derived.Test.YtakebkfhigadiaaGreatMgR
import Derived.Test.YtakebkfhigadiaaGreatChR
import Derived.Test.YtakebkfhigadiaaGreatSpR
import Derived.Test.YtakebkfhigadiaaGreatViL
namespace Go.Proofs.YtakebkfhigadiaaGreat.CoN
open Go Go.Proofs.YtakebkfhigadiaaGreat.Ry Go.Proofs.YtakebkfhigadiaaGreat.Cmp Go.Proofs.YtakebkfhigadiaaGreat.ViR Go.Proofs.YtakebkfhigadiaaGreat.ViC Go.Proofs.YtakebkfhigadiaaGreat.ViL

open Go.Proofs.YtakebkfhigadiaaGreat.ChR (c_clone0 ok_clone0 c_inner0 ok_inner0)
open Go.Proofs.YtakebkfhigadiaaGreat.SoC (c_sortc ok_sortc)
open Go.Proofs.YtakebkfhigadiaaGreat.SpR (c_forest ok_forest forB)
open Go.Proofs.YtakebkfhigadiaaGreat.MgR (c_merge ok_merge meN meL meE okM comB)
structure XZ where
  i : Int
def zQ (y : XZ) : Prop := y.i = 0
def zM (_ : XZ) : Nat := 0
def zR (k : Nat) (st : St) : XZ := ⟨slotI st k⟩
def emp (l : List E) : Bool := l.isEmpty
def afE (t l i : Int) : Int := if nodB i = true ∧ 0 ≤ t ∧ t ≤ 2147483647 ∧ 1 ≤ l ∧ l ≤ 2147483647 then (if t ≥ l then 10 else 0) else 1
def afN (t l i : Int) : Int := if afE t l i = 0 then t + 1 else 0
def afR (t l i : Int) : Int := if afE t l i = 0 then i else 0
theorem af_0 {t l i : Int} (h : afE t l i = 0) : stdBin .add .i64 t 1 = t + 1 ∧ nodB i = true ∧ 0 ≤ t ∧ t < l ∧ l ≤ 2147483647 := by
  unfold afE at h
  split at h
  · rename_i q
    split at h
    · cases h
    · exact ⟨by rw [b_add, wr _ (by omega) (by omega)], q.1, by omega, by omega, by omega⟩
  · cases h
/-- May there be such a core? -/
def nwB (i l : Int) : Bool := nodB i && decide (1 ≤ l ∧ l ≤ 2147483647)
theorem nw_is {i l : Int} (h : nwB i l = true) : nodB i = true ∧ 1 ≤ l ∧ l ≤ 2147483647 := by
  unfold nwB at h
  simp only [Bool.and_eq_true, decide_eq_true_eq] at h
  exact h
theorem nw_af {i l : Int} (h : nwB i l = true) : afE 0 l i = 0 ∧ afN 0 l i = 1 ∧ afR 0 l i = i := by
  obtain ⟨h1, h2, h3⟩ := nw_is h
  have e : afE 0 l i = 0 := by
    unfold afE
    rw [if_pos ⟨h1, Int.le_refl 0, by decide, h2, h3⟩, if_neg (by omega)]
  unfold afN afR
  rw [e]
  exact ⟨rfl, rfl, rfl⟩
theorem node_k {i : Int} (h : nodB i = true) : ∃ k : Nat, 1 ≤ k ∧ k < 65 ∧ i = (k : Int) := by
  unfold nodB at h
  simp only [decide_eq_true_eq] at h
  exact ⟨i.toNat, by omega, by omega, by omega⟩
def all64 (p : Nat → Bool) : Bool := (List.range 65).all fun k => k == 0 || p k
theorem of64 {p : Nat → Bool} (h : all64 p = true) {k : Nat} (h1 : 1 ≤ k) (h2 : k < 65) : p k = true := by
  have := List.all_eq_true.1 h k (List.mem_range.2 h2)
  rw [Bool.or_eq_true, beq_iff_eq] at this
  rcases this with g | g
  · omega
  · exact g
theorem k_may : all64 (fun k => mayV [(k : Int)] []) = true := by decide +kernel
theorem z_may {i : Int} (h : nodB i = true) : mayV [i] [] = true := by
  obtain ⟨k, h1, h2, rfl⟩ := node_k h
  exact of64 k_may h1 h2
theorem z_m0 : mayV [] [] = true := by decide +kernel
theorem z_ok {i : Int} (h : nodB i = true) : okM [i] [] [] [] = true := by
  unfold okM
  rw [z_may h, z_m0]
  rfl
theorem z_mn {i : Int} (h : nodB i = true) : meN [i] [] [] [] = [i] := by
  have e : meN [i] [] [] [] = SoI.srtI [i] := if_pos (z_ok h)
  rw [e]
  exact List.perm_singleton.1 (SoI.srtI_all [i]).2.1
theorem z_ml {i : Int} (h : nodB i = true) : meL [i] [] [] [] = [] := by
  have e : meL [i] [] [] [] = SoK.srtV [] := if_pos (z_ok h)
  rw [e]
  exact List.eq_nil_of_length_eq_zero (SoK.srtV_all []).1
theorem z_me {i : Int} (h : nodB i = true) : meE [i] [] [] [] = 0 := by
  unfold meE
  rw [z_may h, z_m0]
  rfl
theorem z_in (n : List Int) : inV n [] = [] := by
  unfold inV
  split <;> rfl
theorem z_bo (n : List Int) : boV n [] = [] := by
  unfold boV
  split <;> rfl
theorem z_ou (n : List Int) : ouV n [] = [] := by
  unfold ouV
  split <;> rfl
theorem z_fo : forB [] = true := by decide +kernel
theorem z_ch {n : List Int} (h : mayV n [] = true) : chV n [] = 0 := if_pos h
theorem z_i0 {n : List Int} (h : n.length ≤ 70) : decide (n.length ≤ 1000000 ∧ ([] : List E).length ≤ 1000000 ∧ (inV n []).length = 0) = true := by
  rw [z_in]
  exact decide_eq_true ⟨by omega, Nat.zero_le _, rfl⟩
theorem z_ov {n : List Int} (h : n.length ≤ 70) : decide (n.length ≤ 1000000 ∧ ([] : List E).length ≤ 1000000) = true := decide_eq_true ⟨by omega, Nat.zero_le _⟩
def vzB (n : List Int) (l : List E) : Bool := l.isEmpty && (mayV n [] && decide (n.length ≤ 70))

structure Cn where
  n_ne : Int → Int → Int → Int
  n_nn : Int → Int → Int → Int
  n_nr : Int → Int → Int → Int
  n_em : List E → Bool
  n_lt : Int → Int → Bool
  n_vz : List Int → List E → Bool
  n_nd : Int → Bool
  n_nw : Int → Int → Bool
  n_z : Int → Int → Int → Int
  n_t : Int → Int → List Int
  n_l : List Int → List E → Bool
  n_li : List Int → Bool
  n_lk : List E → Bool
  n_e : Int → Int → Int
def Cn.std : Cn := ⟨afE, afN, afR, emp, fun a b => decide (a < b), vzB, nodB, nwB, fun i l x => if nwB i l = true then x else 0, fun i l => if nwB i l = true then [i] else [], fun n l => decide (n.length ≤ 1000 ∧ l.length ≤ 1000), fun n => decide (n.length ≤ 1000), fun n => decide (n.length ≤ 1000), fun i l => if nwB i l = true then 0 else 1⟩

def c_after (F : Cn) : Con := fun xs h => match xs, h with
  | [.one (.val (.int .i64 t)), .one (.val (.int .i64 l)), .one (.val (.int .i64 i))], [] => some ⟨True, .tup [.agg [.val (.int .i64 (F.n_nn t l i)), .val (.int .i64 (F.n_nr t l i))], I (F.n_ne t l i)], [], [Any, Any, Any]⟩
  | _, _ => none
set_option cbv.maxSteps 4000000 in
set_option maxHeartbeats 4000000 in
set_option maxRecDepth 100000 in
theorem x_after (t : Int) (l : Int) (i : Int) : Does [(108, c_enode ViR.Vs.std)] Tryz.f154 [.one (.val (.int .i64 t)), .one (.val (.int .i64 l)), .one (.val (.int .i64 i))] [] ⟨True, .tup [.agg [.val (.int .i64 (Cn.std.n_nn t l i)), .val (.int .i64 (Cn.std.n_nr t l i))], I (Cn.std.n_ne t l i)], [], [Any, Any, Any]⟩ := by
  intro b gv
  have h0 := fun h => af_0 (t := t) (l := l) (i := i) h
  have hfs := (FsOk.cons ok_enode FsOk.nil rfl)
  generalize hF : Cn.std = F at hfs ⊢
  generalize hG0 : ViR.Vs.std = G0 at hfs ⊢
  generalize hG1 : ViL.Vl.std = G1 at hfs ⊢
  generalize hG2 : SpR.Sp.std = G2 at hfs ⊢
  generalize hG3 : ChR.Ch.std = G3 at hfs ⊢
  generalize hG4 : SoC.Oc.std = G4 at hfs ⊢
  generalize hG5 : MgR.Mg.std = G5 at hfs ⊢
  generalize hA : Ar.std = A
  generalize hL : Lp _ _ _ = L
  obtain ⟨Z, zq⟩ := z_all
  refine cd_open (lp_mono hL) zq rfl ?_
  repeat' (first
    | (refine z_open zq ?_; try dsimp only)
    | refine cd_seq zq ?_ (lp_mono hL)
    | refine cd_blk zq ?_
    | refine cd_ret ?_
    | refine cd_skip ?_
    | refine cd_exit ?_
    | refine cd_loop ?_
    | refine cd_cond rfl ?_
    | refine cd_condT rfl ?_
    | refine cd_condF rfl ?_
    | (refine Cd.mk ?_; cbv)
    | (refine Ends1.mk ?_; cbv)
    | (refine Fin1.mk ?_; cbv)
    | exact trivial
    | refine And.intro ?_ ?_
    | refine orf fun _ => ?_
    | refine ort fun _ => ?_)
  all_goals
    clear hL zq Z
    try clear hfs
    subst hA hF hG0 hG1 hG2 hG3 hG4 hG5
    simp only [Cn.std, ViR.Vs.std, Ar.std] at *
    try (grind [stdCmp, afE, afN, afR])
theorem ok_after : ConOk Tryz.prog 154 (c_after Cn.std) := by
  refine con_of (FsOk.cons ok_enode FsOk.nil rfl) Tryz.func154 rfl rfl fun xs h p hp => ?_
  unfold c_after at hp
  split at hp
  · cases hp
    exact ⟨lee_le rfl, fun _ _ => x_after _ _ _⟩
  · cases hp

def c_kids (_ : Cn) : Con := fun xs h => match xs, h with
  | [.one (.ptr 0 0)], [(0, .cells 203 [.val (.int .i64 s_i), .val (.int .i64 s_ee), .val (.int .i64 s_er), .val (.int .i64 s_t), .val (.int .i64 s_p), .val (.slice none 0 0), .val (.slice none 0 0), .val (.slice none 0 0), .val (.slice none 0 0), .val (.int .i64 s_ph), .val (.slice none 0 0), .val (.slice none 0 0), .val (.int .i64 s_l), .val (.bool s_o), .val (.slice none 0 0)])] => some ⟨True, .sa (.one (.val (.slice none 0 0))), [(0, .cells 203 [.val (.int .i64 s_i), .val (.int .i64 s_ee), .val (.int .i64 s_er), .val (.int .i64 s_t), .val (.int .i64 s_p), .val (.slice none 0 0), .val (.slice none 0 0), .val (.slice none 0 0), .val (.slice none 0 0), .val (.int .i64 s_ph), .val (.slice none 0 0), .val (.slice none 0 0), .val (.int .i64 s_l), .val (.bool s_o), .val (.slice none 0 0)])], [.one (.ptr 0 0)]⟩
  | _, _ => none
set_option cbv.maxSteps 4000000 in
set_option maxHeartbeats 4000000 in
set_option maxRecDepth 100000 in
theorem x_kids (s_i : Int) (s_ee : Int) (s_er : Int) (s_t : Int) (s_p : Int) (s_ph : Int) (s_l : Int) (s_o : Bool) : Does [] Tryz.f189 [.one (.ptr 0 0)] [(0, .cells 203 [.val (.int .i64 s_i), .val (.int .i64 s_ee), .val (.int .i64 s_er), .val (.int .i64 s_t), .val (.int .i64 s_p), .val (.slice none 0 0), .val (.slice none 0 0), .val (.slice none 0 0), .val (.slice none 0 0), .val (.int .i64 s_ph), .val (.slice none 0 0), .val (.slice none 0 0), .val (.int .i64 s_l), .val (.bool s_o), .val (.slice none 0 0)])] ⟨True, .sa (.one (.val (.slice none 0 0))), [(0, .cells 203 [.val (.int .i64 s_i), .val (.int .i64 s_ee), .val (.int .i64 s_er), .val (.int .i64 s_t), .val (.int .i64 s_p), .val (.slice none 0 0), .val (.slice none 0 0), .val (.slice none 0 0), .val (.slice none 0 0), .val (.int .i64 s_ph), .val (.slice none 0 0), .val (.slice none 0 0), .val (.int .i64 s_l), .val (.bool s_o), .val (.slice none 0 0)])], [.one (.ptr 0 0)]⟩ := by
  intro b gv
  have hfs := FsOk.nil
  generalize hF : Cn.std = F at hfs ⊢
  generalize hG0 : ViR.Vs.std = G0 at hfs ⊢
  generalize hG1 : ViL.Vl.std = G1 at hfs ⊢
  generalize hG2 : SpR.Sp.std = G2 at hfs ⊢
  generalize hG3 : ChR.Ch.std = G3 at hfs ⊢
  generalize hG4 : SoC.Oc.std = G4 at hfs ⊢
  generalize hG5 : MgR.Mg.std = G5 at hfs ⊢
  generalize hA : Ar.std = A
  generalize hL : Lp _ _ _ = L
  obtain ⟨Z, zq⟩ := z_all
  refine cd_open (lp_mono hL) zq rfl ?_
  repeat' (first
    | (refine z_open zq ?_; try dsimp only)
    | refine cd_seq zq ?_ (lp_mono hL)
    | refine cd_blk zq ?_
    | refine cd_ret ?_
    | refine cd_skip ?_
    | refine cd_exit ?_
    | refine cd_loop ?_
    | refine cd_cond rfl ?_
    | refine cd_condT rfl ?_
    | refine cd_condF rfl ?_
    | (refine Cd.mk ?_; cbv)
    | (refine Ends1.mk ?_; cbv)
    | (refine Fin1.mk ?_; cbv)
    | exact trivial
    | refine And.intro ?_ ?_
    | refine orf fun _ => ?_
    | refine ort fun _ => ?_)
  subst hL
  refine loop_z (cx_ok hfs) (zQ) (fun y => stOf Tryz.f189.ntmps [(0, .ptr 1 0), (3, .val (.slice none 0 0)), (10, .val (.slice none 0 0)), (11, .num .i64 0), (12, .val (.int .i64 y.i))] [(1, .cells 203 [.val (.int .i64 s_i), .val (.int .i64 s_ee), .val (.int .i64 s_er), .val (.int .i64 s_t), .val (.int .i64 s_p), .val (.slice none 0 0), .val (.slice none 0 0), .val (.slice none 0 0), .val (.slice none 0 0), .val (.int .i64 s_ph), .val (.slice none 0 0), .val (.slice none 0 0), .val (.int .i64 s_l), .val (.bool s_o), .val (.slice none 0 0)])] [.one (.ptr 1 0)]) (zM) (zR 12) ⟨0⟩ ?_ ?_ ?_
  · exact rfl
  · cbv
    repeat' (first | exact trivial | exact rfl | refine And.intro ?_ ?_)
  rintro ⟨i⟩ hq O hO
  have hi0 : i = 0 := hq
  subst hA
  generalize hA : Ar.std = A
  generalize hL : Lp _ _ _ = L
  refine cd_close zq ?_
  repeat' (first
    | (refine z_open zq ?_; try dsimp only)
    | refine cd_seq zq ?_ (lp_mono hL)
    | refine cd_blk zq ?_
    | refine cd_ret ?_
    | refine cd_skip ?_
    | refine cd_exit ?_
    | refine cd_loop ?_
    | refine cd_cond rfl ?_
    | refine cd_condT rfl ?_
    | refine cd_condF rfl ?_
    | (refine Cd.mk ?_; cbv)
    | (refine Ends1.mk ?_; cbv)
    | (refine Fin1.mk ?_; cbv)
    | exact trivial
    | refine And.intro ?_ ?_
    | refine orf fun _ => ?_
    | refine ort fun _ => ?_)
  all_goals first | (show L _ _ _; skip) | (exfalso; clear hL zq Z hq; subst hA hF hG0 hG1 hG2 hG3 hG4 hG5 hO; simp only [Ar.std] at * <;> grind [stdCmp]; done) | (clear hL zq Z hq; subst hA hF hG0 hG1 hG2 hG3 hG4 hG5 hO; simp only [Cn.std, ViR.Vs.std, ViL.Vl.std, SpR.Sp.std, ChR.Ch.std, SoC.Oc.std, MgR.Mg.std, Ar.std, List.nil_append] at * <;> grind [stdCmp]; done)
theorem ok_kids : ConOk Tryz.prog 189 (c_kids Cn.std) := by
  refine con_of FsOk.nil Tryz.func189 rfl rfl fun xs h p hp => ?_
  unfold c_kids at hp
  split at hp
  · cases hp
    exact ⟨lee_le rfl, fun _ _ => x_kids _ _ _ _ _ _ _ _⟩
  · cases hp
theorem kp_kids : Keeps (c_kids Cn.std) := by
  intro xs h p hp
  unfold c_kids at hp
  split at hp
  · cases hp
    rfl
  · cases hp

def c_idx (_ : Cn) : Con := fun xs h => match xs, h with
  | [.one (.val (.slice none 0 0)), .one (.val (.func (.func 224) ⟨[]⟩ ⟨[]⟩))], [] => some ⟨True, .sa (.one (.val (.int .i64 (-1)))), [], [Any, Any]⟩
  | _, _ => none
set_option cbv.maxSteps 4000000 in
set_option maxHeartbeats 4000000 in
set_option maxRecDepth 100000 in
theorem x_idx  : Does [] Tryz.f194 [.one (.val (.slice none 0 0)), .one (.val (.func (.func 224) ⟨[]⟩ ⟨[]⟩))] [] ⟨True, .sa (.one (.val (.int .i64 (-1)))), [], [Any, Any]⟩ := by
  intro b gv
  have hfs := FsOk.nil
  generalize hF : Cn.std = F at hfs ⊢
  generalize hG0 : ViR.Vs.std = G0 at hfs ⊢
  generalize hG1 : ViL.Vl.std = G1 at hfs ⊢
  generalize hG2 : SpR.Sp.std = G2 at hfs ⊢
  generalize hG3 : ChR.Ch.std = G3 at hfs ⊢
  generalize hG4 : SoC.Oc.std = G4 at hfs ⊢
  generalize hG5 : MgR.Mg.std = G5 at hfs ⊢
  generalize hA : Ar.std = A
  generalize hL : Lp _ _ _ = L
  obtain ⟨Z, zq⟩ := z_all
  refine cd_open (lp_mono hL) zq rfl ?_
  repeat' (first
    | (refine z_open zq ?_; try dsimp only)
    | refine cd_seq zq ?_ (lp_mono hL)
    | refine cd_blk zq ?_
    | refine cd_ret ?_
    | refine cd_skip ?_
    | refine cd_exit ?_
    | refine cd_loop ?_
    | refine cd_cond rfl ?_
    | refine cd_condT rfl ?_
    | refine cd_condF rfl ?_
    | (refine Cd.mk ?_; cbv)
    | (refine Ends1.mk ?_; cbv)
    | (refine Fin1.mk ?_; cbv)
    | exact trivial
    | refine And.intro ?_ ?_
    | refine orf fun _ => ?_
    | refine ort fun _ => ?_)
  subst hL
  refine loop_z (cx_ok hfs) (zQ) (fun y => stOf Tryz.f194.ntmps [(0, .val (.slice none 0 0)), (7, .num .i64 0), (8, .val (.int .i64 y.i))] [] [Any, Any]) (zM) (zR 8) ⟨0⟩ ?_ ?_ ?_
  · exact rfl
  · cbv
    repeat' (first | exact trivial | exact rfl | refine And.intro ?_ ?_)
  rintro ⟨i⟩ hq O hO
  have hi0 : i = 0 := hq
  subst hA
  generalize hA : Ar.std = A
  generalize hL : Lp _ _ _ = L
  refine cd_close zq ?_
  repeat' (first
    | (refine z_open zq ?_; try dsimp only)
    | refine cd_seq zq ?_ (lp_mono hL)
    | refine cd_blk zq ?_
    | refine cd_ret ?_
    | refine cd_skip ?_
    | refine cd_exit ?_
    | refine cd_loop ?_
    | refine cd_cond rfl ?_
    | refine cd_condT rfl ?_
    | refine cd_condF rfl ?_
    | (refine Cd.mk ?_; cbv)
    | (refine Ends1.mk ?_; cbv)
    | (refine Fin1.mk ?_; cbv)
    | exact trivial
    | refine And.intro ?_ ?_
    | refine orf fun _ => ?_
    | refine ort fun _ => ?_)
  all_goals first | (show L _ _ _; skip) | (exfalso; clear hL zq Z hq; subst hA hF hG0 hG1 hG2 hG3 hG4 hG5 hO; simp only [Ar.std] at * <;> grind [stdCmp]; done) | (clear hL zq Z hq; subst hA hF hG0 hG1 hG2 hG3 hG4 hG5 hO; simp only [Cn.std, ViR.Vs.std, ViL.Vl.std, SpR.Sp.std, ChR.Ch.std, SoC.Oc.std, MgR.Mg.std, Ar.std, List.nil_append] at * <;> grind [stdCmp]; done)
theorem ok_idx : ConOk Tryz.prog 194 (c_idx Cn.std) := by
  refine con_of FsOk.nil Tryz.func194 rfl rfl fun xs h p hp => ?_
  unfold c_idx at hp
  split at hp
  · cases hp
    exact ⟨lee_le rfl, fun _ _ => x_idx ⟩
  · cases hp

def c_cont (_ : Cn) : Con := fun xs h => match xs, h with
  | [.one (.val (.slice none 0 0)), .one (.val (.func (.func 224) ⟨[]⟩ ⟨[]⟩))], [] => some ⟨True, .sa (B false), [], [Any, Any]⟩
  | _, _ => none
set_option cbv.maxSteps 4000000 in
set_option maxHeartbeats 4000000 in
set_option maxRecDepth 100000 in
theorem x_cont  : Does [(194, c_idx Cn.std)] Tryz.f169 [.one (.val (.slice none 0 0)), .one (.val (.func (.func 224) ⟨[]⟩ ⟨[]⟩))] [] ⟨True, .sa (B false), [], [Any, Any]⟩ := by
  intro b gv
  have hfs := (FsOk.cons ok_idx FsOk.nil rfl)
  generalize hF : Cn.std = F at hfs ⊢
  generalize hG0 : ViR.Vs.std = G0 at hfs ⊢
  generalize hG1 : ViL.Vl.std = G1 at hfs ⊢
  generalize hG2 : SpR.Sp.std = G2 at hfs ⊢
  generalize hG3 : ChR.Ch.std = G3 at hfs ⊢
  generalize hG4 : SoC.Oc.std = G4 at hfs ⊢
  generalize hG5 : MgR.Mg.std = G5 at hfs ⊢
  generalize hA : Ar.std = A
  generalize hL : Lp _ _ _ = L
  obtain ⟨Z, zq⟩ := z_all
  refine cd_open (lp_mono hL) zq rfl ?_
  repeat' (first
    | (refine z_open zq ?_; try dsimp only)
    | refine cd_seq zq ?_ (lp_mono hL)
    | refine cd_blk zq ?_
    | refine cd_ret ?_
    | refine cd_skip ?_
    | refine cd_exit ?_
    | refine cd_loop ?_
    | refine cd_cond rfl ?_
    | refine cd_condT rfl ?_
    | refine cd_condF rfl ?_
    | (refine Cd.mk ?_; cbv)
    | (refine Ends1.mk ?_; cbv)
    | (refine Fin1.mk ?_; cbv)
    | exact trivial
    | refine And.intro ?_ ?_
    | refine orf fun _ => ?_
    | refine ort fun _ => ?_)
  all_goals
    clear hL zq Z
    try clear hfs
    subst hA hF hG0 hG1 hG2 hG3 hG4 hG5
    simp only [Ar.std] at *
    try (grind [stdCmp])
theorem ok_cont : ConOk Tryz.prog 169 (c_cont Cn.std) := by
  refine con_of (FsOk.cons ok_idx FsOk.nil rfl) Tryz.func169 rfl rfl fun xs h p hp => ?_
  unfold c_cont at hp
  split at hp
  · cases hp
    exact ⟨lee_le rfl, fun _ _ => x_cont ⟩
  · cases hp

def c_hasv (_ : Cn) : Con := fun xs h => match xs, h with
  | [.one (.ptr 0 0)], [(0, .cells 203 [.val (.int .i64 s_i), .val (.int .i64 s_ee), .val (.int .i64 s_er), .val (.int .i64 s_t), .val (.int .i64 s_p), .val (.slice none 0 0), .val (.slice none 0 0), .val (.slice none 0 0), .val (.slice none 0 0), .val (.int .i64 s_ph), .val (.slice none 0 0), .val (.slice none 0 0), .val (.int .i64 s_l), .val (.bool s_o), .val (.slice none 0 0)])] => some ⟨True, .sa (B false), [(0, .cells 203 [.val (.int .i64 s_i), .val (.int .i64 s_ee), .val (.int .i64 s_er), .val (.int .i64 s_t), .val (.int .i64 s_p), .val (.slice none 0 0), .val (.slice none 0 0), .val (.slice none 0 0), .val (.slice none 0 0), .val (.int .i64 s_ph), .val (.slice none 0 0), .val (.slice none 0 0), .val (.int .i64 s_l), .val (.bool s_o), .val (.slice none 0 0)])], [.one (.ptr 0 0)]⟩
  | _, _ => none
set_option cbv.maxSteps 4000000 in
set_option maxHeartbeats 4000000 in
set_option maxRecDepth 100000 in
theorem x_hasv (s_i : Int) (s_ee : Int) (s_er : Int) (s_t : Int) (s_p : Int) (s_ph : Int) (s_l : Int) (s_o : Bool) : Does [(169, c_cont Cn.std)] Tryz.f212 [.one (.ptr 0 0)] [(0, .cells 203 [.val (.int .i64 s_i), .val (.int .i64 s_ee), .val (.int .i64 s_er), .val (.int .i64 s_t), .val (.int .i64 s_p), .val (.slice none 0 0), .val (.slice none 0 0), .val (.slice none 0 0), .val (.slice none 0 0), .val (.int .i64 s_ph), .val (.slice none 0 0), .val (.slice none 0 0), .val (.int .i64 s_l), .val (.bool s_o), .val (.slice none 0 0)])] ⟨True, .sa (B false), [(0, .cells 203 [.val (.int .i64 s_i), .val (.int .i64 s_ee), .val (.int .i64 s_er), .val (.int .i64 s_t), .val (.int .i64 s_p), .val (.slice none 0 0), .val (.slice none 0 0), .val (.slice none 0 0), .val (.slice none 0 0), .val (.int .i64 s_ph), .val (.slice none 0 0), .val (.slice none 0 0), .val (.int .i64 s_l), .val (.bool s_o), .val (.slice none 0 0)])], [.one (.ptr 0 0)]⟩ := by
  intro b gv
  have hfs := (FsOk.cons ok_cont FsOk.nil rfl)
  generalize hF : Cn.std = F at hfs ⊢
  generalize hG0 : ViR.Vs.std = G0 at hfs ⊢
  generalize hG1 : ViL.Vl.std = G1 at hfs ⊢
  generalize hG2 : SpR.Sp.std = G2 at hfs ⊢
  generalize hG3 : ChR.Ch.std = G3 at hfs ⊢
  generalize hG4 : SoC.Oc.std = G4 at hfs ⊢
  generalize hG5 : MgR.Mg.std = G5 at hfs ⊢
  generalize hA : Ar.std = A
  generalize hL : Lp _ _ _ = L
  obtain ⟨Z, zq⟩ := z_all
  refine cd_open (lp_mono hL) zq rfl ?_
  repeat' (first
    | (refine z_open zq ?_; try dsimp only)
    | refine cd_seq zq ?_ (lp_mono hL)
    | refine cd_blk zq ?_
    | refine cd_ret ?_
    | refine cd_skip ?_
    | refine cd_exit ?_
    | refine cd_loop ?_
    | refine cd_cond rfl ?_
    | refine cd_condT rfl ?_
    | refine cd_condF rfl ?_
    | (refine Cd.mk ?_; cbv)
    | (refine Ends1.mk ?_; cbv)
    | (refine Fin1.mk ?_; cbv)
    | exact trivial
    | refine And.intro ?_ ?_
    | refine orf fun _ => ?_
    | refine ort fun _ => ?_)
  all_goals
    clear hL zq Z
    try clear hfs
    subst hA hF hG0 hG1 hG2 hG3 hG4 hG5
    simp only [Cn.std, ViR.Vs.std, ViL.Vl.std, SpR.Sp.std, ChR.Ch.std, SoC.Oc.std, MgR.Mg.std, Ar.std, List.nil_append] at *
    try (grind [stdCmp])
theorem ok_hasv : ConOk Tryz.prog 212 (c_hasv Cn.std) := by
  refine con_of (FsOk.cons ok_cont FsOk.nil rfl) Tryz.func212 rfl rfl fun xs h p hp => ?_
  unfold c_hasv at hp
  split at hp
  · cases hp
    exact ⟨lee_le rfl, fun _ _ => x_hasv _ _ _ _ _ _ _ _⟩
  · cases hp
theorem kp_hasv : Keeps (c_hasv Cn.std) := by
  intro xs h p hp
  unfold c_hasv at hp
  split at hp
  · cases hp
    rfl
  · cases hp

def c_own (F : Cn) : Con := fun xs h => match xs, h with
  | [.agg [.val (.int .i64 c_i), .val (.int .i64 _), .val (.int .i64 _), .val (.int .i64 _), .val (.int .i64 _), .sl none (.recs (.int .i64 (.int .i64 (.int .i64 (.int .i64 (.bool (.bool (.int .i64 .nil))))))) c_ties), .sl none (.ints .i64 _), .sl none (.ints .i64 _), .sl none (.recs (.int .i64 (.int .i64 (.int .i64 (.int .i64 (.bool .nil))))) _), .val (.int .i64 _), .sl none (.ints .i64 _), .sl none (.recs (.int .i64 (.int .i64 (.int .i64 (.int .i64 (.bool .nil))))) _), .val (.int .i64 _), .val (.bool _)]], [] => some ⟨F.n_em c_ties = true, .sa (.agg [.sl none (.ints .i64 [c_i]), .sl none (.recs (.int .i64 (.int .i64 (.int .i64 (.int .i64 (.bool .nil))))) [])]), [], [Any]⟩
  | _, _ => none
set_option cbv.maxSteps 4000000 in
set_option maxHeartbeats 4000000 in
set_option maxRecDepth 100000 in
theorem x_own (c_i : Int) (c_ee : Int) (c_er : Int) (c_t : Int) (c_p : Int) (c_ties : List E) (c_w : List Int) (c_gn : List Int) (c_gl : List E) (c_ph : Int) (c_tn : List Int) (c_tl : List E) (c_l : Int) (c_o : Bool) (hC : Cn.std.n_em c_ties = true) : Does [] Tryz.f213 [.agg [.val (.int .i64 c_i), .val (.int .i64 c_ee), .val (.int .i64 c_er), .val (.int .i64 c_t), .val (.int .i64 c_p), .sl none (.recs (.int .i64 (.int .i64 (.int .i64 (.int .i64 (.bool (.bool (.int .i64 .nil))))))) c_ties), .sl none (.ints .i64 c_w), .sl none (.ints .i64 c_gn), .sl none (.recs (.int .i64 (.int .i64 (.int .i64 (.int .i64 (.bool .nil))))) c_gl), .val (.int .i64 c_ph), .sl none (.ints .i64 c_tn), .sl none (.recs (.int .i64 (.int .i64 (.int .i64 (.int .i64 (.bool .nil))))) c_tl), .val (.int .i64 c_l), .val (.bool c_o)]] [] ⟨Cn.std.n_em c_ties = true, .sa (.agg [.sl none (.ints .i64 [c_i]), .sl none (.recs (.int .i64 (.int .i64 (.int .i64 (.int .i64 (.bool .nil))))) [])]), [], [Any]⟩ := by
  intro b gv
  have hz : c_ties = [] := List.isEmpty_iff.1 (show c_ties.isEmpty = true from hC)
  subst hz
  have hfs := FsOk.nil
  generalize hF : Cn.std = F at hC hfs ⊢
  generalize hG0 : ViR.Vs.std = G0 at hC hfs ⊢
  generalize hG1 : ViL.Vl.std = G1 at hC hfs ⊢
  generalize hG2 : SpR.Sp.std = G2 at hC hfs ⊢
  generalize hG3 : ChR.Ch.std = G3 at hC hfs ⊢
  generalize hG4 : SoC.Oc.std = G4 at hC hfs ⊢
  generalize hG5 : MgR.Mg.std = G5 at hC hfs ⊢
  generalize hA : Ar.std = A
  generalize hL : Lp _ _ _ = L
  obtain ⟨Z, zq⟩ := z_all
  refine cd_open (lp_mono hL) zq rfl ?_
  repeat' (first
    | (refine z_open zq ?_; try dsimp only)
    | refine cd_seq zq ?_ (lp_mono hL)
    | refine cd_blk zq ?_
    | refine cd_ret ?_
    | refine cd_skip ?_
    | refine cd_exit ?_
    | refine cd_loop ?_
    | refine cd_cond rfl ?_
    | refine cd_condT rfl ?_
    | refine cd_condF rfl ?_
    | (refine Cd.mk ?_; cbv)
    | (refine Ends1.mk ?_; cbv)
    | (refine Fin1.mk ?_; cbv)
    | exact trivial
    | refine And.intro ?_ ?_
    | refine orf fun _ => ?_
    | refine ort fun _ => ?_)
  subst hL
  refine loop_z (cx_ok hfs) (zQ) (fun y => stOf Tryz.f213.ntmps [(2, .ptr 1 0), (3, .ptr 2 0), (12, .val (.int .i64 (A.lenE []))), (13, .val (.int .i64 y.i))] [(1, .cells 36 [.val (.slice none 0 0), .val (.slice none 0 0)]), (2, .cells 36 [.sl (some (3, 3)) (.ints .i64 [c_i]), .val (.slice none 0 0)]), (3, .tok)] [Any]) (zM) (zR 13) ⟨0⟩ ?_ ?_ ?_
  · exact rfl
  · cbv
    repeat' (first | exact trivial | exact rfl | refine And.intro ?_ ?_)
  rintro ⟨i⟩ hq O hO
  have hi0 : i = 0 := hq
  subst hA
  generalize hA : Ar.std = A
  generalize hL : Lp _ _ _ = L
  refine cd_close zq ?_
  repeat' (first
    | (refine z_open zq ?_; try dsimp only)
    | refine cd_seq zq ?_ (lp_mono hL)
    | refine cd_blk zq ?_
    | refine cd_ret ?_
    | refine cd_skip ?_
    | refine cd_exit ?_
    | refine cd_loop ?_
    | refine cd_cond rfl ?_
    | refine cd_condT rfl ?_
    | refine cd_condF rfl ?_
    | (refine Cd.mk ?_; cbv)
    | (refine Ends1.mk ?_; cbv)
    | (refine Fin1.mk ?_; cbv)
    | exact trivial
    | refine And.intro ?_ ?_
    | refine orf fun _ => ?_
    | refine ort fun _ => ?_)
  all_goals first | (show L _ _ _; skip) | (exfalso; clear hL zq Z hq; subst hA hF hG0 hG1 hG2 hG3 hG4 hG5 hO; simp only [Cn.std, Ar.std] at * <;> grind [stdCmp]; done) | (clear hL zq Z hq; subst hA hF hG0 hG1 hG2 hG3 hG4 hG5 hO; simp only [Cn.std, ViR.Vs.std, ViL.Vl.std, SpR.Sp.std, ChR.Ch.std, SoC.Oc.std, MgR.Mg.std, Ar.std, List.nil_append] at * <;> grind [stdCmp]; done)
theorem ok_own : ConOk Tryz.prog 213 (c_own Cn.std) := by
  refine con_of FsOk.nil Tryz.func213 rfl rfl fun xs h p hp => ?_
  unfold c_own at hp
  split at hp
  · cases hp
    exact ⟨lee_le rfl, fun hC _ => x_own _ _ _ _ _ _ _ _ _ _ _ _ _ _ hC⟩
  · cases hp

def c_evz (_ : Cn) : Con := fun xs h => match xs, h with
  | [.one (.val (.slice none 0 0)), .one (.sl none (.recs (.int .i64 (.int .i64 (.int .i64 .nil))) _))], [] => some ⟨True, .tup [.agg [.val (.int .i64 0), .val (.int .i64 0), .val (.int .i64 0), .val (.int .i64 0)], B false], [], [Any, Any]⟩
  | _, _ => none
set_option cbv.maxSteps 4000000 in
set_option maxHeartbeats 4000000 in
set_option maxRecDepth 100000 in
theorem x_evz (d : List E) : Does [(245, c_clone0 ChR.Ch.std), (221, c_sortc SoC.Oc.std)] Tryz.f228 [.one (.val (.slice none 0 0)), .one (.sl none (.recs (.int .i64 (.int .i64 (.int .i64 .nil))) d))] [] ⟨True, .tup [.agg [.val (.int .i64 0), .val (.int .i64 0), .val (.int .i64 0), .val (.int .i64 0)], B false], [], [Any, Any]⟩ := by
  intro b gv
  have hfs := (FsOk.cons ok_clone0 (FsOk.cons ok_sortc FsOk.nil rfl) rfl)
  generalize hF : Cn.std = F at hfs ⊢
  generalize hG0 : ViR.Vs.std = G0 at hfs ⊢
  generalize hG1 : ViL.Vl.std = G1 at hfs ⊢
  generalize hG2 : SpR.Sp.std = G2 at hfs ⊢
  generalize hG3 : ChR.Ch.std = G3 at hfs ⊢
  generalize hG4 : SoC.Oc.std = G4 at hfs ⊢
  generalize hG5 : MgR.Mg.std = G5 at hfs ⊢
  generalize hA : Ar.std = A
  generalize hL : Lp _ _ _ = L
  obtain ⟨Z, zq⟩ := z_all
  refine cd_open (lp_mono hL) zq rfl ?_
  repeat' (first
    | (refine z_open zq ?_; try dsimp only)
    | refine cd_seq zq ?_ (lp_mono hL)
    | refine cd_blk zq ?_
    | refine cd_ret ?_
    | refine cd_skip ?_
    | refine cd_exit ?_
    | refine cd_loop ?_
    | refine cd_cond rfl ?_
    | refine cd_condT rfl ?_
    | refine cd_condF rfl ?_
    | (refine Cd.mk ?_; cbv)
    | (refine Ends1.mk ?_; cbv)
    | (refine Fin1.mk ?_; cbv)
    | exact trivial
    | refine And.intro ?_ ?_
    | refine orf fun _ => ?_
    | refine ort fun _ => ?_)
  subst hL
  refine loop_z (cx_ok hfs) (zQ) (fun y => stOf Tryz.f228.ntmps [(4, .ptr 1 0), (15, .val (.slice none 0 0)), (16, .num .i64 0), (17, .val (.int .i64 y.i))] [(1, .cells 92 [.num .i64 0, .num .i64 0, .num .i64 0, .num .i64 0])] [Any, Any]) (zM) (zR 17) ⟨0⟩ ?_ ?_ ?_
  · exact rfl
  · cbv
    repeat' (first | exact trivial | exact rfl | refine And.intro ?_ ?_)
  rintro ⟨i⟩ hq O hO
  have hi0 : i = 0 := hq
  subst hA
  generalize hA : Ar.std = A
  generalize hL : Lp _ _ _ = L
  refine cd_close zq ?_
  repeat' (first
    | (refine z_open zq ?_; try dsimp only)
    | refine cd_seq zq ?_ (lp_mono hL)
    | refine cd_blk zq ?_
    | refine cd_ret ?_
    | refine cd_skip ?_
    | refine cd_exit ?_
    | refine cd_loop ?_
    | refine cd_cond rfl ?_
    | refine cd_condT rfl ?_
    | refine cd_condF rfl ?_
    | (refine Cd.mk ?_; cbv)
    | (refine Ends1.mk ?_; cbv)
    | (refine Fin1.mk ?_; cbv)
    | exact trivial
    | refine And.intro ?_ ?_
    | refine orf fun _ => ?_
    | refine ort fun _ => ?_)
  all_goals first | (show L _ _ _; skip) | (exfalso; clear hL hfs zq Z hq; subst hA hF hG0 hG1 hG2 hG3 hG4 hG5 hO; simp only [Ar.std] at * <;> grind [stdCmp]; done) | (clear hL hfs zq Z hq; subst hA hF hG0 hG1 hG2 hG3 hG4 hG5 hO; simp only [Cn.std, ViR.Vs.std, ViL.Vl.std, SpR.Sp.std, ChR.Ch.std, SoC.Oc.std, MgR.Mg.std, Ar.std, List.nil_append] at * <;> grind [stdCmp]; done)
theorem ok_evz : ConOk Tryz.prog 228 (c_evz Cn.std) := by
  refine con_of (FsOk.cons ok_clone0 (FsOk.cons ok_sortc FsOk.nil rfl) rfl) Tryz.func228 rfl rfl fun xs h p hp => ?_
  unfold c_evz at hp
  split at hp
  · cases hp
    exact ⟨lee_le rfl, fun _ _ => x_evz _⟩
  · cases hp

def c_choz (F : Cn) : Con := fun xs h => match xs, h with
  | [.agg [.sl none (.ints .i64 v_n), .sl none (.recs (.int .i64 (.int .i64 (.int .i64 (.int .i64 (.bool .nil))))) v_l)]], [] => some ⟨F.n_vz v_n v_l = true, .tup [.agg [.val (.int .i64 1), .val (.int .i64 0), .val (.int .i64 0), .val (.int .i64 0)], I 0], [], [Any]⟩
  | _, _ => none
set_option cbv.maxSteps 4000000 in
set_option maxHeartbeats 4000000 in
set_option maxRecDepth 100000 in
theorem x_choz (v_n : List Int) (v_l : List E) (hC : Cn.std.n_vz v_n v_l = true) : Does [(225, c_inner0 ChR.Ch.std), (226, c_bound ViL.Vl.std), (227, c_forest SpR.Sp.std), (228, c_evz Cn.std), (229, c_outer ViL.Vl.std)] Tryz.f214 [.agg [.sl none (.ints .i64 v_n), .sl none (.recs (.int .i64 (.int .i64 (.int .i64 (.int .i64 (.bool .nil))))) v_l)]] [] ⟨Cn.std.n_vz v_n v_l = true, .tup [.agg [.val (.int .i64 1), .val (.int .i64 0), .val (.int .i64 0), .val (.int .i64 0)], I 0], [], [Any]⟩ := by
  intro b gv
  have hc : (v_l.isEmpty && (mayV v_n [] && decide (v_n.length ≤ 70))) = true := hC
  rw [Bool.and_eq_true, List.isEmpty_iff, Bool.and_eq_true, decide_eq_true_eq] at hc
  obtain ⟨hz, hm, hk⟩ := hc
  subst hz
  have z1 := z_in v_n
  have z2 := z_bo v_n
  have z3 := z_ou v_n
  have z4 := z_fo
  have z5 := z_ch hm
  have z6 := z_i0 hk
  have z7 := z_ov hk
  have hfs := (FsOk.cons ok_inner0 (FsOk.cons ok_bound (FsOk.cons ok_forest (FsOk.cons ok_evz (FsOk.cons ok_outer FsOk.nil rfl) rfl) rfl) rfl) rfl)
  generalize hF : Cn.std = F at hC hfs ⊢
  generalize hG0 : ViR.Vs.std = G0 at hC hfs ⊢
  generalize hG1 : ViL.Vl.std = G1 at hC hfs ⊢
  generalize hG2 : SpR.Sp.std = G2 at hC hfs ⊢
  generalize hG3 : ChR.Ch.std = G3 at hC hfs ⊢
  generalize hG4 : SoC.Oc.std = G4 at hC hfs ⊢
  generalize hG5 : MgR.Mg.std = G5 at hC hfs ⊢
  generalize hA : Ar.std = A
  generalize hL : Lp _ _ _ = L
  obtain ⟨Z, zq⟩ := z_all
  refine cd_open (lp_mono hL) zq rfl ?_
  repeat' (first
    | (refine z_open zq ?_; try dsimp only)
    | refine cd_seq zq ?_ (lp_mono hL)
    | refine cd_blk zq ?_
    | refine cd_ret ?_
    | refine cd_skip ?_
    | refine cd_exit ?_
    | refine cd_loop ?_
    | refine cd_cond rfl ?_
    | refine cd_condT rfl ?_
    | refine cd_condF rfl ?_
    | (refine Cd.mk ?_; cbv)
    | (refine Ends1.mk ?_; cbv)
    | (refine Fin1.mk ?_; cbv)
    | exact trivial
    | refine And.intro ?_ ?_
    | refine orf fun _ => ?_
    | refine ort fun _ => ?_)
  all_goals first | (show L _ _ _; skip) | (exfalso; clear hL hfs zq Z; subst hA hF hG0 hG1 hG2 hG3 hG4 hG5; simp only [Cn.std, ViL.Vl.std, SpR.Sp.std, ChR.Ch.std, Ar.std] at * <;> grind [stdCmp]; done) | (clear hL hfs zq Z; subst hA hF hG0 hG1 hG2 hG3 hG4 hG5; simp only [Cn.std, ViL.Vl.std, SpR.Sp.std, ChR.Ch.std, Ar.std] at * <;> grind [stdCmp]; done)
theorem ok_choz : ConOk Tryz.prog 214 (c_choz Cn.std) := by
  refine con_of (FsOk.cons ok_inner0 (FsOk.cons ok_bound (FsOk.cons ok_forest (FsOk.cons ok_evz (FsOk.cons ok_outer FsOk.nil rfl) rfl) rfl) rfl) rfl) Tryz.func214 rfl rfl fun xs h p hp => ?_
  unfold c_choz at hp
  split at hp
  · cases hp
    exact ⟨lee_le rfl, fun hC _ => x_choz _ _ hC⟩
  · cases hp

def c_fli (F : Cn) : Con := fun xs h => match xs, h with
  | [.one (.sl none (.ints .i64 l))], [] => some ⟨F.n_li l = true, .sa (.one (.sl none (.ints .i64 l))), [], [Any]⟩
  | _, _ => none
set_option cbv.maxSteps 4000000 in
set_option maxHeartbeats 4000000 in
set_option maxRecDepth 100000 in
theorem x_fli (l : List Int) (hC : Cn.std.n_li l = true) : Does [] Tryz.f63 [.one (.sl none (.ints .i64 l))] [] ⟨Cn.std.n_li l = true, .sa (.one (.sl none (.ints .i64 l))), [], [Any]⟩ := by
  intro b gv
  have hk : l.length ≤ 1000 := of_decide_eq_true (show decide (l.length ≤ 1000) = true from hC)
  have hfs := FsOk.nil
  generalize hF : Cn.std = F at hC hfs ⊢
  generalize hG0 : ViR.Vs.std = G0 at hC hfs ⊢
  generalize hG1 : ViL.Vl.std = G1 at hC hfs ⊢
  generalize hG2 : SpR.Sp.std = G2 at hC hfs ⊢
  generalize hG3 : ChR.Ch.std = G3 at hC hfs ⊢
  generalize hG4 : SoC.Oc.std = G4 at hC hfs ⊢
  generalize hG5 : MgR.Mg.std = G5 at hC hfs ⊢
  generalize hA : Ar.std = A
  generalize hL : Lp _ _ _ = L
  obtain ⟨Z, zq⟩ := z_all
  refine cd_open (lp_mono hL) zq rfl ?_
  repeat' (first
    | (refine z_open zq ?_; try dsimp only)
    | refine cd_seq zq ?_ (lp_mono hL)
    | refine cd_blk zq ?_
    | refine cd_ret ?_
    | refine cd_skip ?_
    | refine cd_exit ?_
    | refine cd_loop ?_
    | refine cd_cond rfl ?_
    | refine cd_condT rfl ?_
    | refine cd_condF rfl ?_
    | (refine Cd.mk ?_; cbv)
    | (refine Ends1.mk ?_; cbv)
    | (refine Fin1.mk ?_; cbv)
    | exact trivial
    | refine And.intro ?_ ?_
    | refine orf fun _ => ?_
    | refine ort fun _ => ?_)
  all_goals
    clear hL zq Z
    try clear hfs
    subst hA hF hG0 hG1 hG2 hG3 hG4 hG5
    simp only [Cn.std, Ar.std, List.nil_append] at *
    try (grind [stdCmp])
theorem ok_fli : ConOk Tryz.prog 63 (c_fli Cn.std) := by
  refine con_of FsOk.nil Tryz.func63 rfl rfl fun xs h p hp => ?_
  unfold c_fli at hp
  split at hp
  · cases hp
    exact ⟨lee_le rfl, fun hC _ => x_fli _ hC⟩
  · cases hp

def c_flk (F : Cn) : Con := fun xs h => match xs, h with
  | [.one (.sl none (.recs (.int .i64 (.int .i64 (.int .i64 (.int .i64 (.bool .nil))))) l))], [] => some ⟨F.n_lk l = true, .sa (.one (.sl none (.recs (.int .i64 (.int .i64 (.int .i64 (.int .i64 (.bool .nil))))) l))), [], [Any]⟩
  | _, _ => none
set_option cbv.maxSteps 4000000 in
set_option maxHeartbeats 4000000 in
set_option maxRecDepth 100000 in
theorem x_flk (l : List E) (hC : Cn.std.n_lk l = true) : Does [] Tryz.f107 [.one (.sl none (.recs (.int .i64 (.int .i64 (.int .i64 (.int .i64 (.bool .nil))))) l))] [] ⟨Cn.std.n_lk l = true, .sa (.one (.sl none (.recs (.int .i64 (.int .i64 (.int .i64 (.int .i64 (.bool .nil))))) l))), [], [Any]⟩ := by
  intro b gv
  have hk : l.length ≤ 1000 := of_decide_eq_true (show decide (l.length ≤ 1000) = true from hC)
  have hfs := FsOk.nil
  generalize hF : Cn.std = F at hC hfs ⊢
  generalize hG0 : ViR.Vs.std = G0 at hC hfs ⊢
  generalize hG1 : ViL.Vl.std = G1 at hC hfs ⊢
  generalize hG2 : SpR.Sp.std = G2 at hC hfs ⊢
  generalize hG3 : ChR.Ch.std = G3 at hC hfs ⊢
  generalize hG4 : SoC.Oc.std = G4 at hC hfs ⊢
  generalize hG5 : MgR.Mg.std = G5 at hC hfs ⊢
  generalize hA : Ar.std = A
  generalize hL : Lp _ _ _ = L
  obtain ⟨Z, zq⟩ := z_all
  refine cd_open (lp_mono hL) zq rfl ?_
  repeat' (first
    | (refine z_open zq ?_; try dsimp only)
    | refine cd_seq zq ?_ (lp_mono hL)
    | refine cd_blk zq ?_
    | refine cd_ret ?_
    | refine cd_skip ?_
    | refine cd_exit ?_
    | refine cd_loop ?_
    | refine cd_cond rfl ?_
    | refine cd_condT rfl ?_
    | refine cd_condF rfl ?_
    | (refine Cd.mk ?_; cbv)
    | (refine Ends1.mk ?_; cbv)
    | (refine Fin1.mk ?_; cbv)
    | exact trivial
    | refine And.intro ?_ ?_
    | refine orf fun _ => ?_
    | refine ort fun _ => ?_)
  all_goals
    clear hL zq Z
    try clear hfs
    subst hA hF hG0 hG1 hG2 hG3 hG4 hG5
    simp only [Cn.std, Ar.std, List.nil_append] at *
    try (grind [stdCmp])
theorem ok_flk : ConOk Tryz.prog 107 (c_flk Cn.std) := by
  refine con_of FsOk.nil Tryz.func107 rfl rfl fun xs h p hp => ?_
  unfold c_flk at hp
  split at hp
  · cases hp
    exact ⟨lee_le rfl, fun hC _ => x_flk _ hC⟩
  · cases hp

def c_fv (F : Cn) : Con := fun xs h => match xs, h with
  | [.agg [.sl none (.ints .i64 v_n), .sl none (.recs (.int .i64 (.int .i64 (.int .i64 (.int .i64 (.bool .nil))))) v_l)]], [] => some ⟨F.n_l v_n v_l = true, .sa (.agg [.sl none (.ints .i64 v_n), .sl none (.recs (.int .i64 (.int .i64 (.int .i64 (.int .i64 (.bool .nil))))) v_l)]), [], [Any]⟩
  | _, _ => none
set_option cbv.maxSteps 4000000 in
set_option maxHeartbeats 4000000 in
set_option maxRecDepth 100000 in
theorem x_fv (v_n : List Int) (v_l : List E) (hC : Cn.std.n_l v_n v_l = true) : Does [(63, c_fli Cn.std), (107, c_flk Cn.std)] Tryz.f64 [.agg [.sl none (.ints .i64 v_n), .sl none (.recs (.int .i64 (.int .i64 (.int .i64 (.int .i64 (.bool .nil))))) v_l)]] [] ⟨Cn.std.n_l v_n v_l = true, .sa (.agg [.sl none (.ints .i64 v_n), .sl none (.recs (.int .i64 (.int .i64 (.int .i64 (.int .i64 (.bool .nil))))) v_l)]), [], [Any]⟩ := by
  intro b gv
  have hk : v_n.length ≤ 1000 ∧ v_l.length ≤ 1000 := of_decide_eq_true (show decide (v_n.length ≤ 1000 ∧ v_l.length ≤ 1000) = true from hC)
  have hfs := (FsOk.cons ok_fli (FsOk.cons ok_flk FsOk.nil rfl) rfl)
  generalize hF : Cn.std = F at hC hfs ⊢
  generalize hG0 : ViR.Vs.std = G0 at hC hfs ⊢
  generalize hG1 : ViL.Vl.std = G1 at hC hfs ⊢
  generalize hG2 : SpR.Sp.std = G2 at hC hfs ⊢
  generalize hG3 : ChR.Ch.std = G3 at hC hfs ⊢
  generalize hG4 : SoC.Oc.std = G4 at hC hfs ⊢
  generalize hG5 : MgR.Mg.std = G5 at hC hfs ⊢
  generalize hA : Ar.std = A
  generalize hL : Lp _ _ _ = L
  obtain ⟨Z, zq⟩ := z_all
  refine cd_open (lp_mono hL) zq rfl ?_
  repeat' (first
    | (refine z_open zq ?_; try dsimp only)
    | refine cd_seq zq ?_ (lp_mono hL)
    | refine cd_blk zq ?_
    | refine cd_ret ?_
    | refine cd_skip ?_
    | refine cd_exit ?_
    | refine cd_loop ?_
    | refine cd_cond rfl ?_
    | refine cd_condT rfl ?_
    | refine cd_condF rfl ?_
    | (refine Cd.mk ?_; cbv)
    | (refine Ends1.mk ?_; cbv)
    | (refine Fin1.mk ?_; cbv)
    | exact trivial
    | refine And.intro ?_ ?_
    | refine orf fun _ => ?_
    | refine ort fun _ => ?_)
  all_goals
    clear hL zq Z
    try clear hfs
    subst hA hF hG0 hG1 hG2 hG3 hG4 hG5
    simp only [Cn.std] at *
    try (grind [stdCmp])
theorem ok_fv : ConOk Tryz.prog 64 (c_fv Cn.std) := by
  refine con_of (FsOk.cons ok_fli (FsOk.cons ok_flk FsOk.nil rfl) rfl) Tryz.func64 rfl rfl fun xs h p hp => ?_
  unfold c_fv at hp
  split at hp
  · cases hp
    exact ⟨lee_le rfl, fun hC _ => x_fv _ _ hC⟩
  · cases hp

def c_do (F : Cn) : Con := fun xs h => match xs, h with
  | [.one (.ptr 0 0), .agg [.val (.int .i64 c_k), .val (.int .i64 _), .val (.int .i64 _), .val (.int .i64 _)], .agg [.sl none (.ints .i64 v_n), .sl none (.recs (.int .i64 (.int .i64 (.int .i64 (.int .i64 (.bool .nil))))) v_l)]], [(0, .cells 203 [.val (.int .i64 s_i), .val (.int .i64 s_ee), .val (.int .i64 s_er), .val (.int .i64 s_t), .val (.int .i64 s_p), .val (.slice none 0 0), .val (.slice none 0 0), .val (.slice none 0 0), .val (.slice none 0 0), .val (.int .i64 _), .val (.slice none 0 0), .val (.slice none 0 0), .val (.int .i64 s_l), .val (.bool s_o), .val (.slice none 0 0)])] => some ⟨c_k = 1 ∧ F.n_l v_n v_l = true, .tup [], [(0, .cells 203 [.val (.int .i64 s_i), .val (.int .i64 s_ee), .val (.int .i64 s_er), .val (.int .i64 s_t), .val (.int .i64 s_p), .val (.slice none 0 0), .val (.slice none 0 0), .val (.slice none 0 0), .val (.slice none 0 0), .val (.int .i64 4), .sl none (.ints .i64 v_n), .sl none (.recs (.int .i64 (.int .i64 (.int .i64 (.int .i64 (.bool .nil))))) v_l), .val (.int .i64 s_l), .val (.bool s_o), .val (.slice none 0 0)])], [.one (.ptr 0 0), Any, Any]⟩
  | _, _ => none
set_option cbv.maxSteps 4000000 in
set_option maxHeartbeats 4000000 in
set_option maxRecDepth 100000 in
theorem x_do (c_k : Int) (c_a : Int) (c_b : Int) (c_s : Int) (v_n : List Int) (v_l : List E) (s_i : Int) (s_ee : Int) (s_er : Int) (s_t : Int) (s_p : Int) (s_ph : Int) (s_l : Int) (s_o : Bool) (hC : c_k = 1 ∧ Cn.std.n_l v_n v_l = true) : Does [(189, c_kids Cn.std), (keepKey 189, noCon), (64, c_fv Cn.std)] Tryz.f165 [.one (.ptr 0 0), .agg [.val (.int .i64 c_k), .val (.int .i64 c_a), .val (.int .i64 c_b), .val (.int .i64 c_s)], .agg [.sl none (.ints .i64 v_n), .sl none (.recs (.int .i64 (.int .i64 (.int .i64 (.int .i64 (.bool .nil))))) v_l)]] [(0, .cells 203 [.val (.int .i64 s_i), .val (.int .i64 s_ee), .val (.int .i64 s_er), .val (.int .i64 s_t), .val (.int .i64 s_p), .val (.slice none 0 0), .val (.slice none 0 0), .val (.slice none 0 0), .val (.slice none 0 0), .val (.int .i64 s_ph), .val (.slice none 0 0), .val (.slice none 0 0), .val (.int .i64 s_l), .val (.bool s_o), .val (.slice none 0 0)])] ⟨c_k = 1 ∧ Cn.std.n_l v_n v_l = true, .tup [], [(0, .cells 203 [.val (.int .i64 s_i), .val (.int .i64 s_ee), .val (.int .i64 s_er), .val (.int .i64 s_t), .val (.int .i64 s_p), .val (.slice none 0 0), .val (.slice none 0 0), .val (.slice none 0 0), .val (.slice none 0 0), .val (.int .i64 4), .sl none (.ints .i64 v_n), .sl none (.recs (.int .i64 (.int .i64 (.int .i64 (.int .i64 (.bool .nil))))) v_l), .val (.int .i64 s_l), .val (.bool s_o), .val (.slice none 0 0)])], [.one (.ptr 0 0), Any, Any]⟩ := by
  intro b gv
  have hck : c_k = 1 := hC.1
  subst hck
  have hfs := (FsOk.keeps ok_kids kp_kids (FsOk.cons ok_fv FsOk.nil rfl))
  generalize hF : Cn.std = F at hC hfs ⊢
  generalize hG0 : ViR.Vs.std = G0 at hC hfs ⊢
  generalize hG1 : ViL.Vl.std = G1 at hC hfs ⊢
  generalize hG2 : SpR.Sp.std = G2 at hC hfs ⊢
  generalize hG3 : ChR.Ch.std = G3 at hC hfs ⊢
  generalize hG4 : SoC.Oc.std = G4 at hC hfs ⊢
  generalize hG5 : MgR.Mg.std = G5 at hC hfs ⊢
  generalize hA : Ar.std = A
  generalize hL : Lp _ _ _ = L
  obtain ⟨Z, zq⟩ := z_all
  refine cd_open (lp_mono hL) zq rfl ?_
  repeat' (first
    | (refine z_open zq ?_; try dsimp only)
    | refine cd_seq zq ?_ (lp_mono hL)
    | refine cd_blk zq ?_
    | refine cd_ret ?_
    | refine cd_skip ?_
    | refine cd_exit ?_
    | refine cd_loop ?_
    | refine cd_cond rfl ?_
    | refine cd_condT rfl ?_
    | refine cd_condF rfl ?_
    | (refine Cd.mk ?_; cbv)
    | (refine Ends1.mk ?_; cbv)
    | (refine Fin1.mk ?_; cbv)
    | exact trivial
    | refine And.intro ?_ ?_
    | refine orf fun _ => ?_
    | refine ort fun _ => ?_)
  all_goals first | (exfalso; clear hL hfs zq Z; subst hA hF hG0 hG1 hG2 hG3 hG4 hG5; simp only [Cn.std, Ar.std] at * <;> grind [stdCmp]; done) | (show L _ _ _; skip) | (clear hL hfs zq Z; subst hA hF hG0 hG1 hG2 hG3 hG4 hG5; simp only [Cn.std, ViR.Vs.std, ViL.Vl.std, SpR.Sp.std, ChR.Ch.std, SoC.Oc.std, MgR.Mg.std, Ar.std, List.nil_append] at * <;> grind [stdCmp]; done)
  subst hL
  refine loop_z (cx_ok hfs) (zQ) (fun y => stOf Tryz.f165.ntmps [(0, .ptr 1 0), (4, .ptr 2 0), (5, .ptr 3 0), (23, .val (.slice none 0 0)), (24, .num .i64 0), (25, .val (.int .i64 y.i))] [(1, .cells 203 [.val (.int .i64 s_i), .val (.int .i64 s_ee), .val (.int .i64 s_er), .val (.int .i64 s_t), .val (.int .i64 s_p), .val (.slice none 0 0), .val (.slice none 0 0), .val (.slice none 0 0), .val (.slice none 0 0), .val (.int .i64 s_ph), .val (.slice none 0 0), .val (.slice none 0 0), .val (.int .i64 s_l), .val (.bool s_o), .val (.slice none 0 0)]), (2, .cells 92 [.val (.int .i64 1), .val (.int .i64 c_a), .val (.int .i64 c_b), .val (.int .i64 c_s)]), (3, .cells 36 [.sl none (.ints .i64 v_n), .sl none (.recs (.int .i64 (.int .i64 (.int .i64 (.int .i64 (.bool .nil))))) v_l)])] [.one (.ptr 1 0), Any, Any]) (zM) (zR 25) ⟨0⟩ ?_ ?_ ?_
  · exact rfl
  · cbv
    repeat' (first | exact trivial | exact rfl | refine And.intro ?_ ?_)
  rintro ⟨i⟩ hq O hO
  have hi0 : i = 0 := hq
  subst hA
  generalize hA : Ar.std = A
  generalize hL : Lp _ _ _ = L
  refine cd_close zq ?_
  repeat' (first
    | (refine z_open zq ?_; try dsimp only)
    | refine cd_seq zq ?_ (lp_mono hL)
    | refine cd_blk zq ?_
    | refine cd_ret ?_
    | refine cd_skip ?_
    | refine cd_exit ?_
    | refine cd_loop ?_
    | refine cd_cond rfl ?_
    | refine cd_condT rfl ?_
    | refine cd_condF rfl ?_
    | (refine Cd.mk ?_; cbv)
    | (refine Ends1.mk ?_; cbv)
    | (refine Fin1.mk ?_; cbv)
    | exact trivial
    | refine And.intro ?_ ?_
    | refine orf fun _ => ?_
    | refine ort fun _ => ?_)
  all_goals first | (show L _ _ _; skip) | (exfalso; clear hL hfs zq Z hq; subst hA hF hG0 hG1 hG2 hG3 hG4 hG5 hO; simp only [Cn.std, Ar.std] at * <;> grind [stdCmp]; done) | (clear hL hfs zq Z hq; subst hA hF hG0 hG1 hG2 hG3 hG4 hG5 hO; simp only [Cn.std, Ar.std] at * <;> grind [stdCmp]; done)
theorem ok_do : ConOk Tryz.prog 165 (c_do Cn.std) := by
  refine con_of (FsOk.keeps ok_kids kp_kids (FsOk.cons ok_fv FsOk.nil rfl)) Tryz.func165 rfl rfl fun xs h p hp => ?_
  unfold c_do at hp
  split at hp
  · cases hp
    exact ⟨lee_le rfl, fun hC _ => x_do _ _ _ _ _ _ _ _ _ _ _ _ _ _ hC⟩
  · cases hp
end Go.Proofs.YtakebkfhigadiaaGreat.CoN
