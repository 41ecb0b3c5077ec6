/-
  VowSteps: for every input the call tells true, and nothing that was there turns. No condition.
-/
import Derived.Test.YtgfficaonampbaaRows
import Derived.Test.YtgfficaonampbaaLaw
import Derived.Test.YtgfficaonampbaaRyIn
import Derived.Test.YtgfficaonampbaaRyZ
import Derived.Test.YtgfficaonampbaaVoR
import Derived.Test.YtgfficaonampbaaVoD
import Derived.Test.YtgfficaonampbaaVoW
namespace Go.Proofs.Ytgfficaonampbaa.VowSteps
open Go Go.Proofs.Ytgfficaonampbaa.Ry Go.Proofs.Ytgfficaonampbaa.Law Go.Proofs.Ytgfficaonampbaa.VoR Go.Proofs.Ytgfficaonampbaa.VoD Go.Proofs.Ytgfficaonampbaa.VoW
open Go.ChangeShapes Go.WideShapes Go.ChangeAt Go.Joins Go.RowKit
theorem may_he (m : Int) (t b : Bool) (o k : Int) (h : mayB m t b o = true) : mayB (heV m t b o k).m (heV m t b o k).t (heV m t b o k).b (heV m t b o k).o = true := by
  unfold heV
  rw [if_neg (by rw [h]; decide)]
  unfold hvV hfV same owI
  simp only [mayB, Bool.and_eq_true, decide_eq_true_eq] at *
  repeat' split
  all_goals grind
theorem may_no (m : Int) (t b : Bool) (o k : Int) (h : mayB m t b o = false) : grV m t b o = v0 1 ∧ reV m t b o = v0 1 ∧ paV m t b o = v0 1 ∧ heV m t b o k = v0 1 := by
  unfold grV reV paV heV
  rw [h]
  simp
theorem may_e (m : Int) (t b : Bool) (o k : Int) (h : mayB m t b o = true) : (grV m t b o).e = 0 ∧ (reV m t b o).e = 0 ∧ (paV m t b o).e = 0 ∧ (heV m t b o k).e = 0 := by
  unfold grV reV paV heV hvV hfV same
  rw [h]
  refine ⟨?_, ?_, ?_, ?_⟩ <;> repeat' split
  all_goals first | rfl | (exfalso; simp_all; done)
set_option maxHeartbeats 4000000 in
set_option maxRecDepth 100000 in
theorem x_law (a0 : E) (a1 : Int) (_ : sized [.agg (shCells Ar.std (.int .i64 (.bool (.bool (.int .i64 .nil)))) a0 0 4), .one (.val (.int .i64 a1))]) : Does [(33, c_check Fs.std), (27, c_grant Fs.std), (28, c_recant Fs.std), (29, c_part Fs.std), (30, c_hear Fs.std), (31, c_rmay Fs.std), (35, c_rgrant Fs.std), (36, c_rrecant Fs.std), (37, c_rpart Fs.std), (38, c_rhear Fs.std), (32, denil [some (.ints .i64 []), some (.ints .i64 [])] (c_rsame Ds.std)), (34, c_awake Ws.std)] Try.f7 [.agg (shCells Ar.std (.int .i64 (.bool (.bool (.int .i64 .nil)))) a0 0 4), .one (.val (.int .i64 a1))] [] ⟨True, .sa (B true), [], [Any, Any]⟩ := by
  intro b gv
  have hfs := (FsOk.cons ok_check (FsOk.cons ok_grant (FsOk.cons ok_recant (FsOk.cons ok_part (FsOk.cons ok_hear (FsOk.cons ok_rmay (FsOk.cons ok_rgrant (FsOk.cons ok_rrecant (FsOk.cons ok_rpart (FsOk.cons ok_rhear (FsOk.cons (denil_ok [some (.ints .i64 []), some (.ints .i64 [])] ok_rsame) (FsOk.cons ok_awake FsOk.nil rfl) rfl) rfl) rfl) rfl) rfl) rfl) rfl) rfl) rfl) rfl) rfl)
  generalize hF : Ws.std = F at hfs ⊢
  generalize hG0 : Fs.std = G0 at hfs ⊢
  generalize hG1 : Ds.std = G1 at hfs ⊢
  generalize hA : Ar.std = A
  generalize hL : Lp _ _ _ = L
  obtain ⟨Z, zq⟩ := z_all
  refine cd_open (lp_mono hL) zq rfl ?_
  repeat' (first
    | (refine z_open zq ?_; try dsimp only)
    | refine cd_seq zq ?_ (lp_mono hL)
    | refine cd_blk zq ?_
    | refine cd_ret ?_
    | refine cd_skip ?_
    | refine cd_exit ?_
    | refine cd_loop ?_
    | refine cd_cond rfl ?_
    | refine cd_condT rfl ?_
    | refine cd_condF rfl ?_
    | (refine Cd.mk ?_; cbv)
    | (refine Ends1.mk ?_; cbv)
    | (refine Fin1.mk ?_; cbv)
    | exact trivial
    | refine And.intro ?_ ?_
    | refine orf fun _ => ?_
    | refine ort fun _ => ?_)
  all_goals
    clear hL zq Z hfs
    subst hF hA hG0 hG1
    simp only [Ds.std, Fs.std, Ar.std] at *
    have h1 := heV_w (ri a0 0) (rb a0 1) (rb a0 2) (ri a0 3) a1
    have h2 := sV_w (ri a0 0) (rb a0 1) (rb a0 2) (ri a0 3)
    have h3 := may_he (ri a0 0) (rb a0 1) (rb a0 2) (ri a0 3) a1
    have h4 := may_no (ri a0 0) (rb a0 1) (rb a0 2) (ri a0 3) a1
    have h5 := may_e (ri a0 0) (rb a0 1) (rb a0 2) (ri a0 3) a1
    try (grind [stdCmp, smB, chI, v0])
theorem walk (a0 : E) (a1 : Int) (v0 : Value) (w : World) (r0 : (SA.agg (shCells Ar.std (.int .i64 (.bool (.bool (.int .i64 .nil)))) a0 0 4)).is (G0 w) v0) (_ : wfS (.int .i64 (.bool (.bool (.int .i64 .nil)))) a0 0) (_ : (Lit.int .i64 a1).wf = true) : Calls Try.prog 7 #[v0, .int .i64 a1] w (Law.Yes w) :=
  yes_of (FsOk.cons ok_check (FsOk.cons ok_grant (FsOk.cons ok_recant (FsOk.cons ok_part (FsOk.cons ok_hear (FsOk.cons ok_rmay (FsOk.cons ok_rgrant (FsOk.cons ok_rrecant (FsOk.cons ok_rpart (FsOk.cons ok_rhear (FsOk.cons (denil_ok [some (.ints .i64 []), some (.ints .i64 [])] ok_rsame) (FsOk.cons ok_awake FsOk.nil rfl) rfl) rfl) rfl) rfl) rfl) rfl) rfl) rfl) rfl) rfl) rfl) Try.func7 rfl (vs := [v0, .int .i64 a1]) (by exact ⟨r0, rfl, trivial⟩) (lee_le rfl) fun hZ => x_law a0 a1 hZ
theorem own : ownKnob Try.prog.godebug = none := by kernel_rfl
theorem laidOut : laidOutB Try.prog = true := by kernel_rfl
set_option maxRecDepth 100000 in
theorem lifted (os : Os) (started : os.Started) (H : Type) (enc : TypeId × Value → H) :
    ReturnsInHanded {} Try.checked os 7 .any (Rows.vowStepsSpec.pre6 enc Try.prog Try.f7 Rows.vowStepsRow.domain false) (Rows.vowStepsSpec.post enc Try.prog Try.f7 false true false false) := by
  refine returnsInHanded_of_change_sized (C := Try.checked) own started (by kernel_rfl) Try.func7
    (ChangeSpec.witness6 (enc := enc) (C := Try.checked) false ⟨#[], #[.agg #[.int .i64 0, .bool false, .bool false, .int .i64 0], .int .i64 0], []⟩ 8 (by kernel_rfl) (by kernel_rfl) (by kernel_rfl) (by kernel_rfl)) ?_
  intro W base args ds gs before hval0 hW _ hz _
  have hval : ∀ (j : Nat) t v, Try.f7.params[j]? = some t → args[j]? = some v → Value.okWide Try.prog W .any base t v := hval0
  have hW' := hW
  obtain ⟨p, q, hA0, hV, rfl, _, _⟩ := hW
  have hA : DataW.TrodAll enc Try.prog W 0 (fun _ => true) true Try.f7.params.toList args.toList ds p := hA0
  rw [Try.params7] at hA hval
  obtain ⟨v0, v1, d0, d1, p0, p1, rfl, rfl, rfl, h0, h1⟩ := trodAll_two hA
  obtain ⟨rfl, rfl⟩ := trodVars_none hV
  obtain ⟨a0, r0, w0⟩ := agg_any (s := .int .i64 (.bool (.bool (.int .i64 .nil)))) (by rw [Try.underlying44]) (by kernel_rfl) (by kernel_rfl) (hval 0 44 v0 rfl rfl) h0
  obtain ⟨a1, rfl, rfl, rfl, w1⟩ := open_int Try.underlying3 (hval 1 3 v1 rfl rfl) h1
  refine (walk a0 a1 v0 W r0 w0 w1).mono fun e W' ⟨he, hb⟩ => ?_
  subst he
  exact ⟨_, rfl, law_post laidOut (by kernel_rfl) (by kernel_rfl) Try.underlying4 rfl hW' rfl hb⟩
theorem proved : Rows.VowStepsSaid :=
  OpenClaim.holds_of_wide 7 Try.f7 rfl rfl rfl rfl rfl rfl rfl ⟨rfl, rfl, rfl, rfl, rfl⟩ rfl rfl rfl rfl rfl (by kernel_rfl) Try.func7 (by kernel_rfl)
    (of_decide_eq_true (by kernel_rfl)) (by unfold Func.isWrapper; first | (rw [if_pos (by decide +kernel)]; kernel_rfl) | (rw [if_neg (by decide +kernel)]; exact ⟨rfl, rfl⟩))
    (fun os started H enc _ => lifted os started H enc)
end Go.Proofs.Ytgfficaonampbaa.VowSteps
