/-
  ViewMerges: for every input the call tells true, and nothing that was there turns. No condition.
-/
import Derived.Test.YtfioaidmgcibaaaRows
import Derived.Test.YtfioaidmgcibaaaLaw
import Derived.Test.YtfioaidmgcibaaaRyIn
import Derived.Test.YtfioaidmgcibaaaRyZ
import Derived.Test.YtfioaidmgcibaaaRyOp
import Derived.Test.YtfioaidmgcibaaaMgT
namespace Go.Proofs.Ytfioaidmgcibaaa.ViewMerges
open Go Go.Proofs.Ytfioaidmgcibaaa.Ry Go.Proofs.Ytfioaidmgcibaaa.Law Go.Proofs.Ytfioaidmgcibaaa.MgT Go.Proofs.Ytfioaidmgcibaaa.Cmp Go.Proofs.Ytfioaidmgcibaaa.ViR Go.Proofs.Ytfioaidmgcibaaa.ViC Go.Proofs.Ytfioaidmgcibaaa.ViS Go.Proofs.Ytfioaidmgcibaaa.ViL Go.Proofs.Ytfioaidmgcibaaa.ViT Go.Proofs.Ytfioaidmgcibaaa.ViQ Go.Proofs.Ytfioaidmgcibaaa.ViM Go.Proofs.Ytfioaidmgcibaaa.MgR
open Go.ChangeShapes Go.WideShapes Go.ChangeAt Go.Joins Go.RowKit
set_option maxHeartbeats 4000000 in
set_option cbv.maxSteps 4000000 in
set_option maxRecDepth 100000 in
theorem x_law (a0 : E) (a1 : E) (_ : sized [.agg (shCells Ar.std (.ints .i64 (.recs (.int .i64 (.int .i64 (.int .i64 (.int .i64 (.bool .nil))))) .nil)) a0 0 2), .agg (shCells Ar.std (.ints .i64 (.recs (.int .i64 (.int .i64 (.int .i64 (.int .i64 (.bool .nil))))) .nil)) a1 0 2)]) : Does [(11, c_vlight Vm.std), (13, c_merge MgR.Mg.std), (14, c_vcheck ViC.Vc.std), (15, c_vmay ViC.Vc.std), (16, c_vsame ViS.Vq.std), (17, dnil [[some (.ints .i64 []), some (.recs (.int .i64 (.int .i64 (.int .i64 (.int .i64 (.bool .nil))))) [])], [some (.ints .i64 []), some (.recs (.int .i64 (.int .i64 (.int .i64 (.int .i64 (.bool .nil))))) [])]] (c_rvsame ViS.Vq.std)), (18, c_rmerge ViM.Vg.std), (12, c_vawake Vm.std)] Try.f3 [.agg (shCells Ar.std (.ints .i64 (.recs (.int .i64 (.int .i64 (.int .i64 (.int .i64 (.bool .nil))))) .nil)) a0 0 2), .agg (shCells Ar.std (.ints .i64 (.recs (.int .i64 (.int .i64 (.int .i64 (.int .i64 (.bool .nil))))) .nil)) a1 0 2)] [] ⟨True, .sa (B true), [], [Any, Any]⟩ := by
  intro b gv
  have f1 : mayV (rl a0 0) (rr a0 1) = true → mayV (rl a1 0) (rr a1 1) = true → sameV (meN (rl a0 0) (rr a0 1) (rl a1 0) (rr a1 1)) (meL (rl a0 0) (rr a0 1) (rl a1 0) (rr a1 1)) (mgO (rl a0 0) (rl a1 0)) (mgP (rl a0 0) (rl a1 0) (rr a0 1) (rr a1 1)) = true ∧ meE (rl a0 0) (rr a0 1) (rl a1 0) (rr a1 1) = (if cmB (rl a0 0) (rl a1 0) = true then 11 else 0) ∧ (mgO (rl a0 0) (rl a1 0)).length ≤ (rl a0 0).length + (rl a1 0).length ∧ (mgP (rl a0 0) (rl a1 0) (rr a0 1) (rr a1 1)).length ≤ (rr a0 1).length + (rr a1 1).length := fun h g => ⟨(me_same h g).1, (me_same h g).2, mg_lens h g⟩
  have f2 : ¬ (mayV (rl a0 0) (rr a0 1) = true ∧ mayV (rl a1 0) (rr a1 1) = true) → meN (rl a0 0) (rr a0 1) (rl a1 0) (rr a1 1) = [] ∧ meL (rl a0 0) (rr a0 1) (rl a1 0) (rr a1 1) = [] ∧ meE (rl a0 0) (rr a0 1) (rl a1 0) (rr a1 1) = 1 := me_none
  have f3 := me_len (rl a0 0) (rl a1 0) (rr a0 1) (rr a1 1)
  have f4 : sameV [] [] [] [] = true := rfl
  have f5 : cmB (rl a0 0) (rl a1 0) = true → mgO (rl a0 0) (rl a1 0) = [] ∧ mgP (rl a0 0) (rl a1 0) (rr a0 1) (rr a1 1) = [] := fun h => ⟨if_pos h, if_pos h⟩
  have f6 : liV (rl a0 0) (rr a0 1) = true → (rl a0 0).length ≤ 70 ∧ (rr a0 1).length ≤ 200 := fun h => of_decide_eq_true h
  have f7 : liV (rl a1 0) (rr a1 1) = true → (rl a1 0).length ≤ 70 ∧ (rr a1 1).length ≤ 200 := fun h => of_decide_eq_true h
  have f8 : chV (rl a0 0) (rr a0 1) = if mayV (rl a0 0) (rr a0 1) = true then 0 else 1 := rfl
  have hfs := (FsOk.cons ok_vlight (FsOk.cons ok_merge (FsOk.cons ok_vcheck (FsOk.cons ok_vmay (FsOk.cons ok_vsame (FsOk.cons (dnil_ok [[some (.ints .i64 []), some (.recs (.int .i64 (.int .i64 (.int .i64 (.int .i64 (.bool .nil))))) [])], [some (.ints .i64 []), some (.recs (.int .i64 (.int .i64 (.int .i64 (.int .i64 (.bool .nil))))) [])]] ok_rvsame) (FsOk.cons ok_rmerge (FsOk.cons ok_vawake FsOk.nil rfl) rfl) rfl) rfl) rfl) rfl) rfl) rfl)
  generalize hF : ViQ.Vm.std = F at hfs ⊢
  generalize hG0 : ViC.Vc.std = G0 at hfs ⊢
  generalize hG1 : ViS.Vq.std = G1 at hfs ⊢
  generalize hG2 : ViL.Vl.std = G2 at hfs ⊢
  generalize hG3 : MgR.Mg.std = G3 at hfs ⊢
  generalize hG4 : ViM.Vg.std = G4 at hfs ⊢
  generalize hA : Ar.std = A
  generalize hL : Lp _ _ _ = L
  obtain ⟨Z, zq⟩ := z_all
  refine cd_open (lp_mono hL) zq rfl ?_
  repeat' (first
    | (refine z_open zq ?_; try dsimp only)
    | refine cd_seq zq ?_ (lp_mono hL)
    | refine cd_blk zq ?_
    | refine cd_ret ?_
    | refine cd_skip ?_
    | refine cd_exit ?_
    | refine cd_loop ?_
    | refine cd_cond rfl ?_
    | refine cd_condT rfl ?_
    | refine cd_condF rfl ?_
    | (refine Cd.mk ?_; cbv)
    | (refine Ends1.mk ?_; cbv)
    | (refine Fin1.mk ?_; cbv)
    | exact trivial
    | refine And.intro ?_ ?_
    | refine orf fun _ => ?_
    | refine ort fun _ => ?_)
  all_goals (clear hL hfs zq Z; subst hA hF hG0 hG1 hG2 hG3 hG4; simp only [ViQ.Vm.std, ViC.Vc.std, ViS.Vq.std, MgR.Mg.std, ViM.Vg.std, Ar.std] at * <;> grind [stdCmp]; done)
theorem walk (a0 : E) (a1 : E) (v0 : Value) (v1 : Value) (w : World) (r0 : (SA.agg (shCells Ar.std (.ints .i64 (.recs (.int .i64 (.int .i64 (.int .i64 (.int .i64 (.bool .nil))))) .nil)) a0 0 2)).is (G0 w) v0) (_ : wfS (.ints .i64 (.recs (.int .i64 (.int .i64 (.int .i64 (.int .i64 (.bool .nil))))) .nil)) a0 0) (r1 : (SA.agg (shCells Ar.std (.ints .i64 (.recs (.int .i64 (.int .i64 (.int .i64 (.int .i64 (.bool .nil))))) .nil)) a1 0 2)).is (G0 w) v1) (_ : wfS (.ints .i64 (.recs (.int .i64 (.int .i64 (.int .i64 (.int .i64 (.bool .nil))))) .nil)) a1 0) : Calls Try.prog 3 #[v0, v1] w (Law.Yes w) :=
  yes_of (FsOk.cons ok_vlight (FsOk.cons ok_merge (FsOk.cons ok_vcheck (FsOk.cons ok_vmay (FsOk.cons ok_vsame (FsOk.cons (dnil_ok [[some (.ints .i64 []), some (.recs (.int .i64 (.int .i64 (.int .i64 (.int .i64 (.bool .nil))))) [])], [some (.ints .i64 []), some (.recs (.int .i64 (.int .i64 (.int .i64 (.int .i64 (.bool .nil))))) [])]] ok_rvsame) (FsOk.cons ok_rmerge (FsOk.cons ok_vawake FsOk.nil rfl) rfl) rfl) rfl) rfl) rfl) rfl) rfl) Try.func3 rfl (vs := [v0, v1]) (by exact ⟨r0, r1, trivial⟩) (lee_le rfl) fun hZ => x_law a0 a1 hZ
theorem own : ownKnob Try.prog.godebug = none := by kernel_rfl
theorem laidOut : laidOutB Try.prog = true := by kernel_rfl
set_option maxRecDepth 100000 in
theorem lifted (os : Os) (started : os.Started) (H : Type) (enc : TypeId × Value → H) :
    ReturnsInHanded {} Try.checked os 3 .any (Rows.viewMergesSpec.pre6 enc Try.prog Try.f3 Rows.viewMergesRow.domain false) (Rows.viewMergesSpec.post enc Try.prog Try.f3 false true false false) := by
  refine returnsInHanded_of_change_sized (C := Try.checked) own started (by kernel_rfl) Try.func3
    (ChangeSpec.witness6 (enc := enc) (C := Try.checked) false ⟨#[], #[.agg #[.slice none 0 0, .slice none 0 0], .agg #[.slice none 0 0, .slice none 0 0]], []⟩ 8 (by kernel_rfl) (by kernel_rfl) (by kernel_rfl) (by kernel_rfl)) ?_
  intro W base args ds gs before hval0 hW _ hz _
  have hval : ∀ (j : Nat) t v, Try.f3.params[j]? = some t → args[j]? = some v → Value.okWide Try.prog W .any base t v := hval0
  have hW' := hW
  obtain ⟨p, q, hA0, hV, rfl, _, _⟩ := hW
  have hA : DataW.TrodAll enc Try.prog W 0 (fun _ => true) true Try.f3.params.toList args.toList ds p := hA0
  rw [Try.params3] at hA hval
  obtain ⟨v0, v1, d0, d1, p0, p1, rfl, rfl, rfl, h0, h1⟩ := trodAll_two hA
  obtain ⟨rfl, rfl⟩ := trodVars_none hV
  obtain ⟨a0, r0, w0⟩ := agg_any (s := .ints .i64 (.recs (.int .i64 (.int .i64 (.int .i64 (.int .i64 (.bool .nil))))) .nil)) (by rw [Try.underlying25]) (by kernel_rfl) (by kernel_rfl) (hval 0 25 v0 rfl rfl) h0
  obtain ⟨a1, r1, w1⟩ := agg_any (s := .ints .i64 (.recs (.int .i64 (.int .i64 (.int .i64 (.int .i64 (.bool .nil))))) .nil)) (by rw [Try.underlying25]) (by kernel_rfl) (by kernel_rfl) (hval 1 25 v1 rfl rfl) h1
  refine (walk a0 a1 v0 v1 W r0 w0 r1 w1).mono fun e W' ⟨he, hb⟩ => ?_
  subst he
  exact ⟨_, rfl, law_post laidOut (by kernel_rfl) (by kernel_rfl) Try.underlying4 rfl hW' rfl hb⟩
theorem proved : Rows.ViewMergesSaid :=
  OpenClaim.holds_of_wide 3 Try.f3 rfl rfl rfl rfl rfl rfl rfl ⟨rfl, rfl, rfl, rfl, rfl⟩ rfl rfl rfl rfl rfl (by kernel_rfl) Try.func3 (by kernel_rfl)
    (of_decide_eq_true (by kernel_rfl)) (by unfold Func.isWrapper; first | (rw [if_pos (by decide +kernel)]; kernel_rfl) | (rw [if_neg (by decide +kernel)]; exact ⟨rfl, rfl⟩))
    (fun os started H enc _ => lifted os started H enc)
end Go.Proofs.Ytfioaidmgcibaaa.ViewMerges
