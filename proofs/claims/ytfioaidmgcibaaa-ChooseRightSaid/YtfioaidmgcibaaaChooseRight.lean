/-
  ChooseRight: for every input the call tells true, and nothing that was there turns. No condition.
-/
import Derived.Test.YtfioaidmgcibaaaRows
import Derived.Test.YtfioaidmgcibaaaLaw
import Derived.Test.YtfioaidmgcibaaaRyIn
import Derived.Test.YtfioaidmgcibaaaRyZ
import Derived.Test.YtfioaidmgcibaaaRyOp
import Derived.Test.YtfioaidmgcibaaaCgL
namespace Go.Proofs.Ytfioaidmgcibaaa.ChooseRight
open Go Go.Proofs.Ytfioaidmgcibaaa.Ry Go.Proofs.Ytfioaidmgcibaaa.Law Go.Proofs.Ytfioaidmgcibaaa.CgL Go.Proofs.Ytfioaidmgcibaaa.EgR Go.Proofs.Ytfioaidmgcibaaa.EgL Go.Proofs.Ytfioaidmgcibaaa.SpK Go.Proofs.Ytfioaidmgcibaaa.SpT Go.Proofs.Ytfioaidmgcibaaa.SpL Go.Proofs.Ytfioaidmgcibaaa.SpN Go.Proofs.Ytfioaidmgcibaaa.TrK Go.Proofs.Ytfioaidmgcibaaa.RoV Go.Proofs.Ytfioaidmgcibaaa.CgV Go.Proofs.Ytfioaidmgcibaaa.CgT Go.Proofs.Ytfioaidmgcibaaa.CgR Go.Proofs.Ytfioaidmgcibaaa.ChQ
open Go.ChangeShapes Go.WideShapes Go.ChangeAt Go.Joins Go.RowKit
open Go.Proofs.Ytfioaidmgcibaaa.SpQ (lkR inR c_rlinked ok_rlinked)
open Go.Proofs.Ytfioaidmgcibaaa.SpO (rlB c_rleast ok_rleast)
open Go.Proofs.Ytfioaidmgcibaaa.EgR (c_rcheck ok_rcheck)
open Go.Proofs.Ytfioaidmgcibaaa.RoV (c_rview ok_rview)
open Go.Proofs.Ytfioaidmgcibaaa.ChQ (c_choose ok_choose)
open Go.Proofs.Ytfioaidmgcibaaa.ChA (c_cawake ok_cawake)
noncomputable def r1I (l q : List E) (nd : List Int) (y : XO2) : St := stOf Try.f8.ntmps [(0, .sl none (.recs (.int .i64 (.int .i64 (.int .i64 .nil))) l)), (1, .sl none (.recs (.bool .nil) q)), (5, .sl none (.ints .i64 nd)), (6, .sl (some (1, 55)) (.recs (.int .i64 (.int .i64 (.int .i64 .nil))) y.o)), (7, .val (.int .i64 y.i))] [(1, .tok)] [Any, Any]
noncomputable def r2I (l q d le ps : List E) (y : XG) : St := stOf Try.f8.ntmps [(0, .sl none (.recs (.int .i64 (.int .i64 (.int .i64 .nil))) l)), (1, .sl none (.recs (.bool .nil) q)), (6, .sl (some (1, 55)) (.recs (.int .i64 (.int .i64 (.int .i64 .nil))) d)), (8, .sl none (.recs (.int .i64 (.int .i64 (.int .i64 .nil))) le)), (9, .sl none (.recs (.ints .i64 .nil) ps)), (10, .val (.int .i64 y.i))] [(1, .tok)] [Any, Any]
noncomputable def r3I (l q d le ps : List E) (j k a b s : Int) (y : XG) : St := stOf Try.f8.ntmps [(0, .sl none (.recs (.int .i64 (.int .i64 (.int .i64 .nil))) l)), (1, .sl none (.recs (.bool .nil) q)), (6, .sl (some (1, 55)) (.recs (.int .i64 (.int .i64 (.int .i64 .nil))) d)), (8, .sl none (.recs (.int .i64 (.int .i64 (.int .i64 .nil))) le)), (9, .sl none (.recs (.ints .i64 .nil) ps)), (10, .val (.int .i64 j)), (11, .ptr 2 0), (13, .val (.int .i64 y.i))] [(1, .tok), (2, .cells 41 [.val (.int .i64 k), .val (.int .i64 a), .val (.int .i64 b), .val (.int .i64 s)])] [Any, Any]
theorem r0 {l : List E} (h : allE l = 0) : SpO.Sv.std.t_g l = true := by
  have := all_good h
  have g := ((all_iff l).1 h).2
  simp only [SpO.Sv.std, Bool.and_eq_true, decide_eq_true_eq]
  first | exact ⟨by omega, this⟩ | exact ⟨this, by omega⟩ | simp [this]
set_option maxHeartbeats 4000000 in
set_option cbv.maxSteps 4000000 in
set_option maxRecDepth 100000 in
theorem x_law (a0 : List E) (a1 : List E) (_ : sized [.one (.sl none (.recs (.int .i64 (.int .i64 (.int .i64 .nil))) a0)), .one (.sl none (.recs (.bool .nil) a1))]) : Does [(27, c_rcheck EgR.Fs.std), (28, c_rnodes Cg.std), (29, c_rlinked SpQ.Sq.std), (33, c_rleast SpO.Sv.std), (34, c_rparts Cg.std), (35, c_rview RoV.Rv.std), (23, c_choose ChQ.Cq.std), (36, c_lhas Cg.std), (22, c_cawake ChA.Ca.std)] Try.f8 [.one (.sl none (.recs (.int .i64 (.int .i64 (.int .i64 .nil))) a0)), .one (.sl none (.recs (.bool .nil) a1))] [] ⟨True, .sa (B true), [], [Any, Any]⟩ := by
  intro b gv
  have hfs := (FsOk.cons ok_rcheck (FsOk.cons ok_rnodes (FsOk.cons ok_rlinked (FsOk.cons ok_rleast (FsOk.cons ok_rparts (FsOk.cons ok_rview (FsOk.cons ok_choose (FsOk.cons ok_lhas (FsOk.cons ok_cawake FsOk.nil rfl) rfl) rfl) rfl) rfl) rfl) rfl) rfl) rfl)
  generalize hF : CgR.Cg.std = F at hfs ⊢
  generalize hG0 : EgR.Fs.std = G0 at hfs ⊢
  generalize hG1 : SpQ.Sq.std = G1 at hfs ⊢
  generalize hG2 : SpO.Sv.std = G2 at hfs ⊢
  generalize hG3 : RoV.Rv.std = G3 at hfs ⊢
  generalize hG4 : ChQ.Cq.std = G4 at hfs ⊢
  generalize hG5 : ChA.Ca.std = G5 at hfs ⊢
  generalize hA : Ar.std = A
  generalize hL : Lp _ _ _ = L
  obtain ⟨Z, zq⟩ := z_all
  refine cd_open (lp_mono hL) zq rfl ?_
  repeat' (first
    | (refine z_open zq ?_; try dsimp only)
    | refine cd_seq zq ?_ (lp_mono hL)
    | refine cd_blk zq ?_
    | refine cd_ret ?_
    | refine cd_skip ?_
    | refine cd_exit ?_
    | refine cd_loop ?_
    | refine cd_cond rfl ?_
    | refine cd_condT rfl ?_
    | refine cd_condF rfl ?_
    | (refine Cd.mk ?_; cbv)
    | (refine Ends1.mk ?_; cbv)
    | (refine Fin1.mk ?_; cbv)
    | exact trivial
    | refine And.intro ?_ ?_
    | refine orf fun _ => ?_
    | refine ort fun _ => ?_)
  all_goals first | (show L _ _ _; skip) | (clear hL hfs zq Z; subst hA hF hG0 hG1 hG2 hG3 hG4 hG5; simp only [CgR.Cg.std, EgR.Fs.std, Ar.std] at * <;> grind [stdCmp]; done)
  rename_i hx
  have hin : a0.length ≤ 24 ∧ allE a0 = 0 := by
    clear hL hfs zq Z
    subst hA hF hG0 hG1 hG2 hG3 hG4 hG5
    simp only [EgR.Fs.std, Ar.std] at *
    grind [stdCmp]
  clear hx
  obtain ⟨hl, ha⟩ := hin
  subst hL
  refine loop_z (cx_ok hfs) (pQ a0) (r1I a0 a1 (F.g_nd a0)) (pM a0) (pR 7 6) ⟨0, []⟩ ?_ ?_ ?_
  · exact ⟨Int.le_refl 0, Int.natCast_nonneg _, oth_0 a0, Int.le_refl 0⟩
  · cbv
    repeat' (first | exact trivial | exact rfl | refine And.intro ?_ ?_)
  rintro ⟨i, d⟩ hq O hO
  have hst := p_all ha hl hq
  have hN := nd_in a0
  have hT := r0 ha
  subst hA
  generalize hA : Ar.std = A
  generalize hL : Lp _ _ _ = L
  refine cd_close zq ?_
  repeat' (first
    | (refine z_open zq ?_; try dsimp only)
    | refine cd_seq zq ?_ (lp_mono hL)
    | refine cd_blk zq ?_
    | refine cd_ret ?_
    | refine cd_skip ?_
    | refine cd_exit ?_
    | refine cd_loop ?_
    | refine cd_cond rfl ?_
    | refine cd_condT rfl ?_
    | refine cd_condF rfl ?_
    | (refine Cd.mk ?_; cbv)
    | (refine Ends1.mk ?_; cbv)
    | (refine Fin1.mk ?_; cbv)
    | exact trivial
    | refine And.intro ?_ ?_
    | refine orf fun _ => ?_
    | refine ort fun _ => ?_)
  all_goals first | (show L _ _ _; skip) | (clear hL hfs zq Z hq; subst hA hF hG0 hG1 hG2 hG3 hG4 hG5 hO; simp only [CgR.Cg.std, SpQ.Sq.std, SpO.Sv.std, Ar.std] at * <;> grind [stdCmp]; done)
  clear hst hO
  have ho : Oth a0 d := hq.2.2.1
  have hd : d.length ≤ 24 := by
    have h1 := hq.2.1
    have h2 := hq.2.2.2
    simp only at h1 h2
    omega
  have hR := oth_in ha ho (by omega)
  have hrl := rl_len a0
  have hpl := pao_len (ndS a0) d
  clear hq
  subst hL
  refine loop_z (cx_ok hfs) (gQ (paO (ndS a0) d)) (r2I a0 a1 d (G2.t_le a0) (F.g_pa (F.g_nd a0) d)) (gM (paO (ndS a0) d)) (gR 10) ⟨0⟩ ?_ ?_ ?_
  · exact ⟨Int.le_refl 0, Int.natCast_nonneg _⟩
  · cbv
    repeat' (first | exact trivial | exact rfl | refine And.intro ?_ ?_)
  rintro ⟨j⟩ hq U hU
  have hst := g_all (by omega) hq
  have hcr := fun h => cr_part ha hl ho hq.1 h
  dsimp only at hcr
  subst hA
  generalize hA : Ar.std = A
  generalize hL : Lp _ _ _ = L
  refine cd_close zq ?_
  repeat' (first
    | (refine z_open zq ?_; try dsimp only)
    | refine cd_seq zq ?_ (lp_mono hL)
    | refine cd_blk zq ?_
    | refine cd_ret ?_
    | refine cd_skip ?_
    | refine cd_exit ?_
    | refine cd_loop ?_
    | refine cd_cond rfl ?_
    | refine cd_condT rfl ?_
    | refine cd_condF rfl ?_
    | (refine Cd.mk ?_; cbv)
    | (refine Ends1.mk ?_; cbv)
    | (refine Fin1.mk ?_; cbv)
    | exact trivial
    | refine And.intro ?_ ?_
    | refine orf fun _ => ?_
    | refine ort fun _ => ?_)
  all_goals first | (show L _ _ _; skip) | (clear hL hfs zq Z hq; subst hA hF hG0 hG1 hG2 hG3 hG4 hG5 hU; simp only [CgR.Cg.std, SpO.Sv.std, RoV.Rv.std, ChQ.Cq.std, Ar.std] at * <;> grind [stdCmp]; done)
  rename_i hx1 hx2
  have hj : j < (paO (ndS a0) d).length := by
    clear hL hfs zq Z hq hst hcr
    subst hA hF hG0 hG1 hG2 hG3 hG4 hG5 hU
    simp only [CgR.Cg.std, SpO.Sv.std, RoV.Rv.std, ChQ.Cq.std, Ar.std] at *
    grind [stdCmp]
  clear hx1 hx2
  have hcr := hcr hj
  subst hL
  refine loop_z (cx_ok hfs) (gQ a0) (r3I a0 a1 d (G2.t_le a0) (F.g_pa (F.g_nd a0) d) j (G4.v_ck (A.rl (A.atE (F.g_pa (F.g_nd a0) d) j) 0) (G3.v_vw a0 d (A.rl (A.atE (F.g_pa (F.g_nd a0) d) j) 0))) (G4.v_ca (A.rl (A.atE (F.g_pa (F.g_nd a0) d) j) 0) (G3.v_vw a0 d (A.rl (A.atE (F.g_pa (F.g_nd a0) d) j) 0))) (G4.v_cb (A.rl (A.atE (F.g_pa (F.g_nd a0) d) j) 0) (G3.v_vw a0 d (A.rl (A.atE (F.g_pa (F.g_nd a0) d) j) 0))) (G4.v_cs (A.rl (A.atE (F.g_pa (F.g_nd a0) d) j) 0) (G3.v_vw a0 d (A.rl (A.atE (F.g_pa (F.g_nd a0) d) j) 0)))) (gM a0) (gR 13) ⟨0⟩ ?_ ?_ ?_
  · exact ⟨Int.le_refl 0, Int.natCast_nonneg _⟩
  · cbv
    repeat' (first | exact trivial | exact rfl | refine And.intro ?_ ?_)
  rintro ⟨k⟩ hq3 V hV
  have hs3 := g_all (by omega) hq3
  have hx3 := fun h => hcr.2.2.2 _ (CgV.getD_in (z := ([] : E)) (show k.toNat < a0.length from h))
  subst hA
  generalize hA : Ar.std = A
  generalize hL : Lp _ _ _ = L
  refine cd_close zq ?_
  repeat' (first
    | (refine z_open zq ?_; try dsimp only)
    | refine cd_seq zq ?_ (lp_mono hL)
    | refine cd_blk zq ?_
    | refine cd_ret ?_
    | refine cd_skip ?_
    | refine cd_exit ?_
    | refine cd_loop ?_
    | refine cd_cond rfl ?_
    | refine cd_condT rfl ?_
    | refine cd_condF rfl ?_
    | (refine Cd.mk ?_; cbv)
    | (refine Ends1.mk ?_; cbv)
    | (refine Fin1.mk ?_; cbv)
    | exact trivial
    | refine And.intro ?_ ?_
    | refine orf fun _ => ?_
    | refine ort fun _ => ?_)
  all_goals (clear hL hfs zq Z hq hq3; subst hA hF hG0 hG1 hG2 hG3 hG4 hG5 hU hV; simp only [CgR.Cg.std, SpO.Sv.std, RoV.Rv.std, ChQ.Cq.std, Ar.std] at * <;> grind [stdCmp]; done)
theorem walk (a0 : List E) (a1 : List E) (A0 : Option Addr) (n0 c0 : Nat) (A1 : Option Addr) (n1 c1 : Nat) (w : World) (r0 : (SC.sl none (.recs (.int .i64 (.int .i64 (.int .i64 .nil))) a0)).is (G0 w) (.slice A0 n0 c0)) (_ : ∀ y ∈ a0, wfS (.int .i64 (.int .i64 (.int .i64 .nil))) y 0) (_ : a0.length ≤ 140737488355328) (r1 : (SC.sl none (.recs (.bool .nil) a1)).is (G0 w) (.slice A1 n1 c1)) (_ : ∀ y ∈ a1, wfS (.bool .nil) y 0) (_ : a1.length ≤ 140737488355328) : Calls Try.prog 8 #[.slice A0 n0 c0, .slice A1 n1 c1] w (Law.Yes w) :=
  yes_of (FsOk.cons ok_rcheck (FsOk.cons ok_rnodes (FsOk.cons ok_rlinked (FsOk.cons ok_rleast (FsOk.cons ok_rparts (FsOk.cons ok_rview (FsOk.cons ok_choose (FsOk.cons ok_lhas (FsOk.cons ok_cawake FsOk.nil rfl) rfl) rfl) rfl) rfl) rfl) rfl) rfl) rfl) Try.func8 rfl (vs := [.slice A0 n0 c0, .slice A1 n1 c1]) (by exact ⟨r0, r1, trivial⟩) (lee_le rfl) fun hZ => x_law a0 a1 hZ
theorem own : ownKnob Try.prog.godebug = none := by kernel_rfl
theorem laidOut : laidOutB Try.prog = true := by kernel_rfl
set_option maxRecDepth 100000 in
theorem lifted (os : Os) (started : os.Started) (H : Type) (enc : TypeId × Value → H) :
    ReturnsInHanded {} Try.checked os 8 .any (Rows.chooseRightSpec.pre6 enc Try.prog Try.f8 Rows.chooseRightRow.domain false) (Rows.chooseRightSpec.post enc Try.prog Try.f8 false true false false) := by
  refine returnsInHanded_of_change_sized (C := Try.checked) own started (by kernel_rfl) Try.func8
    (ChangeSpec.witness6 (enc := enc) (C := Try.checked) false ⟨#[], #[.slice none 0 0, .slice none 0 0], []⟩ 8 (by kernel_rfl) (by kernel_rfl) (by kernel_rfl) (by kernel_rfl)) ?_
  intro W base args ds gs before hval0 hW _ hz _
  have hval : ∀ (j : Nat) t v, Try.f8.params[j]? = some t → args[j]? = some v → Value.okWide Try.prog W .any base t v := hval0
  have hW' := hW
  obtain ⟨p, q, hA0, hV, rfl, _, _⟩ := hW
  have hA : DataW.TrodAll enc Try.prog W 0 (fun _ => true) true Try.f8.params.toList args.toList ds p := hA0
  rw [Try.params8] at hA hval
  obtain ⟨v0, v1, d0, d1, p0, p1, rfl, rfl, rfl, h0, h1⟩ := trodAll_two hA
  obtain ⟨rfl, rfl⟩ := trodVars_none hV
  obtain ⟨A0, n0, c0, a0, rfl, l0, r0, w0⟩ := sl_any (s := .int .i64 (.int .i64 (.int .i64 .nil))) Try.underlying47 (by kernel_rfl) (by kernel_rfl) (hval 0 47 v0 rfl rfl) h0
  have s0 : a0.length ≤ 140737488355328 := by rw [l0]; exact short_of Try.underlying47 (by decide +kernel) hz (j := 0) rfl rfl h0
  obtain ⟨A1, n1, c1, a1, rfl, l1, r1, w1⟩ := sl_any (s := .bool .nil) Try.underlying50 (by kernel_rfl) (by kernel_rfl) (hval 1 50 v1 rfl rfl) h1
  have s1 : a1.length ≤ 140737488355328 := by rw [l1]; exact short_of Try.underlying50 (by decide +kernel) hz (j := 1) rfl rfl h1
  refine (walk a0 a1 A0 n0 c0 A1 n1 c1 W r0 w0 s0 r1 w1 s1).mono fun e W' ⟨he, hb⟩ => ?_
  subst he
  exact ⟨_, rfl, law_post laidOut (by kernel_rfl) (by kernel_rfl) Try.underlying4 rfl hW' rfl hb⟩
theorem proved : Rows.ChooseRightSaid :=
  OpenClaim.holds_of_wide 8 Try.f8 rfl rfl rfl rfl rfl rfl rfl ⟨rfl, rfl, rfl, rfl, rfl⟩ rfl rfl rfl rfl rfl (by kernel_rfl) Try.func8 (by kernel_rfl)
    (of_decide_eq_true (by kernel_rfl)) (by unfold Func.isWrapper; first | (rw [if_pos (by decide +kernel)]; kernel_rfl) | (rw [if_neg (by decide +kernel)]; exact ⟨rfl, rfl⟩))
    (fun os started H enc _ => lifted os started H enc)
end Go.Proofs.Ytfioaidmgcibaaa.ChooseRight
