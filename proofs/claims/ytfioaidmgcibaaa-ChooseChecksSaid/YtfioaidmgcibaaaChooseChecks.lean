/-
  ChooseChecks: for every input the call tells true, and nothing that was there turns. No condition.
-/
import Derived.Test.YtfioaidmgcibaaaRows
import Derived.Test.YtfioaidmgcibaaaLaw
import Derived.Test.YtfioaidmgcibaaaRyIn
import Derived.Test.YtfioaidmgcibaaaRyZ
import Derived.Test.YtfioaidmgcibaaaRyOp
import Derived.Test.YtfioaidmgcibaaaChA
namespace Go.Proofs.Ytfioaidmgcibaaa.ChooseChecks
open Go Go.Proofs.Ytfioaidmgcibaaa.Ry Go.Proofs.Ytfioaidmgcibaaa.Law Go.Proofs.Ytfioaidmgcibaaa.ChA Go.Proofs.Ytfioaidmgcibaaa.Cmp Go.Proofs.Ytfioaidmgcibaaa.ViR Go.Proofs.Ytfioaidmgcibaaa.ViL Go.Proofs.Ytfioaidmgcibaaa.ViT Go.Proofs.Ytfioaidmgcibaaa.ChR Go.Proofs.Ytfioaidmgcibaaa.ChQ Go.Proofs.Ytfioaidmgcibaaa.ChT
open Go.ChangeShapes Go.WideShapes Go.ChangeAt Go.Joins Go.RowKit
open Go.Proofs.Ytfioaidmgcibaaa.ViC (c_vmay ok_vmay)
open Go.Proofs.Ytfioaidmgcibaaa.ViQ (c_rbound ok_rbound)
open Go.Proofs.Ytfioaidmgcibaaa.SpQ (c_rforest ok_rforest rfB inR)
open Go.Proofs.Ytfioaidmgcibaaa.SpR (forB)
set_option maxHeartbeats 4000000 in
set_option cbv.maxSteps 4000000 in
set_option maxRecDepth 100000 in
theorem x_law (a0 : E) (_ : sized [.agg (shCells Ar.std (.int .i64 (.int .i64 (.int .i64 (.int .i64 .nil)))) a0 0 4)]) : Does [(20, c_ccheck ChR.Ch.std), (21, c_cmay ChR.Ch.std), (22, c_cawake Ca.std)] Try.f5 [.agg (shCells Ar.std (.int .i64 (.int .i64 (.int .i64 (.int .i64 .nil)))) a0 0 4)] [] ⟨True, .sa (B true), [], [Any]⟩ := by
  intro b gv
  obtain ⟨f1, f2⟩ := ck_may (ri a0 0) (ri a0 1) (ri a0 2) (ri a0 3)
  have hfs := (FsOk.cons ok_ccheck (FsOk.cons ok_cmay (FsOk.cons ok_cawake FsOk.nil rfl) rfl) rfl)
  generalize hF : Ca.std = F at hfs ⊢
  generalize hG0 : ChR.Ch.std = G0 at hfs ⊢
  generalize hA : Ar.std = A
  generalize hL : Lp _ _ _ = L
  obtain ⟨Z, zq⟩ := z_all
  refine cd_open (lp_mono hL) zq rfl ?_
  repeat' (first
    | (refine z_open zq ?_; try dsimp only)
    | refine cd_seq zq ?_ (lp_mono hL)
    | refine cd_blk zq ?_
    | refine cd_ret ?_
    | refine cd_skip ?_
    | refine cd_exit ?_
    | refine cd_loop ?_
    | refine cd_cond rfl ?_
    | refine cd_condT rfl ?_
    | refine cd_condF rfl ?_
    | (refine Cd.mk ?_; cbv)
    | (refine Ends1.mk ?_; cbv)
    | (refine Fin1.mk ?_; cbv)
    | exact trivial
    | refine And.intro ?_ ?_
    | refine orf fun _ => ?_
    | refine ort fun _ => ?_)
  all_goals (clear hL hfs zq Z; subst hA hF hG0; simp only [Ca.std, ChR.Ch.std, Ar.std] at * <;> grind [stdCmp])
theorem walk (a0 : E) (v0 : Value) (w : World) (r0 : (SA.agg (shCells Ar.std (.int .i64 (.int .i64 (.int .i64 (.int .i64 .nil)))) a0 0 4)).is (G0 w) v0) (_ : wfS (.int .i64 (.int .i64 (.int .i64 (.int .i64 .nil)))) a0 0) : Calls Try.prog 5 #[v0] w (Law.Yes w) :=
  yes_of (FsOk.cons ok_ccheck (FsOk.cons ok_cmay (FsOk.cons ok_cawake FsOk.nil rfl) rfl) rfl) Try.func5 rfl (vs := [v0]) (by exact ⟨r0, trivial⟩) (lee_le rfl) fun hZ => x_law a0 hZ
theorem own : ownKnob Try.prog.godebug = none := by kernel_rfl
theorem laidOut : laidOutB Try.prog = true := by kernel_rfl
set_option maxRecDepth 100000 in
theorem lifted (os : Os) (started : os.Started) (H : Type) (enc : TypeId × Value → H) :
    ReturnsInHanded {} Try.checked os 5 .any (Rows.chooseChecksSpec.pre6 enc Try.prog Try.f5 Rows.chooseChecksRow.domain false) (Rows.chooseChecksSpec.post enc Try.prog Try.f5 false true false false) := by
  refine returnsInHanded_of_change_sized (C := Try.checked) own started (by kernel_rfl) Try.func5
    (ChangeSpec.witness6 (enc := enc) (C := Try.checked) false ⟨#[], #[.agg #[.int .i64 0, .int .i64 0, .int .i64 0, .int .i64 0]], []⟩ 8 (by kernel_rfl) (by kernel_rfl) (by kernel_rfl) (by kernel_rfl)) ?_
  intro W base args ds gs before hval0 hW _ hz _
  have hval : ∀ (j : Nat) t v, Try.f5.params[j]? = some t → args[j]? = some v → Value.okWide Try.prog W .any base t v := hval0
  have hW' := hW
  obtain ⟨p, q, hA0, hV, rfl, _, _⟩ := hW
  have hA : DataW.TrodAll enc Try.prog W 0 (fun _ => true) true Try.f5.params.toList args.toList ds p := hA0
  rw [Try.params5] at hA hval
  obtain ⟨v0, d0, rfl, rfl, h0⟩ := trodAll_one hA
  obtain ⟨rfl, rfl⟩ := trodVars_none hV
  obtain ⟨a0, r0, w0⟩ := agg_any (s := .int .i64 (.int .i64 (.int .i64 (.int .i64 .nil)))) (by rw [Try.underlying41]) (by kernel_rfl) (by kernel_rfl) (hval 0 41 v0 rfl rfl) h0
  refine (walk a0 v0 W r0 w0).mono fun e W' ⟨he, hb⟩ => ?_
  subst he
  exact ⟨_, rfl, law_post laidOut (by kernel_rfl) (by kernel_rfl) Try.underlying4 rfl hW' rfl hb⟩
theorem proved : Rows.ChooseChecksSaid :=
  OpenClaim.holds_of_wide 5 Try.f5 rfl rfl rfl rfl rfl rfl rfl ⟨rfl, rfl, rfl, rfl, rfl⟩ rfl rfl rfl rfl rfl (by kernel_rfl) Try.func5 (by kernel_rfl)
    (of_decide_eq_true (by kernel_rfl)) (by unfold Func.isWrapper; first | (rw [if_pos (by decide +kernel)]; kernel_rfl) | (rw [if_neg (by decide +kernel)]; exact ⟨rfl, rfl⟩))
    (fun os started H enc _ => lifted os started H enc)
end Go.Proofs.Ytfioaidmgcibaaa.ChooseChecks
