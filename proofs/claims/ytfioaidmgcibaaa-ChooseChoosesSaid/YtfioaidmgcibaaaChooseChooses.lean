/-
  ChooseChooses: for every input the call tells true, and nothing that was there turns. No condition.
-/
import Derived.Test.YtfioaidmgcibaaaRows
import Derived.Test.YtfioaidmgcibaaaLaw
import Derived.Test.YtfioaidmgcibaaaRyIn
import Derived.Test.YtfioaidmgcibaaaRyZ
import Derived.Test.YtfioaidmgcibaaaRyOp
import Derived.Test.YtfioaidmgcibaaaChA
namespace Go.Proofs.Ytfioaidmgcibaaa.ChooseChooses
open Go Go.Proofs.Ytfioaidmgcibaaa.Ry Go.Proofs.Ytfioaidmgcibaaa.Law Go.Proofs.Ytfioaidmgcibaaa.ChA Go.Proofs.Ytfioaidmgcibaaa.Cmp Go.Proofs.Ytfioaidmgcibaaa.ViR Go.Proofs.Ytfioaidmgcibaaa.ViL Go.Proofs.Ytfioaidmgcibaaa.ViT Go.Proofs.Ytfioaidmgcibaaa.ChR Go.Proofs.Ytfioaidmgcibaaa.ChQ Go.Proofs.Ytfioaidmgcibaaa.ChT
open Go.ChangeShapes Go.WideShapes Go.ChangeAt Go.Joins Go.RowKit
open Go.Proofs.Ytfioaidmgcibaaa.ViC (c_vmay ok_vmay)
open Go.Proofs.Ytfioaidmgcibaaa.ViQ (c_rbound ok_rbound)
open Go.Proofs.Ytfioaidmgcibaaa.SpQ (c_rforest ok_rforest rfB inR)
open Go.Proofs.Ytfioaidmgcibaaa.SpR (forB)
theorem law_bnd {n : List Int} {l : List E} (h : mayV n l = true) (hl : l.length ≤ 60) : inR (boF (rinF l)) = true ∧ boF (rinF l) = boV n l ∧ rfB (boV n l) = forB (boV n l) := by
  have b := ChT.bnd_all h (show l.length ≤ 512 by omega)
  have e : boF (rinF l) = boV n l := b.2.1.symm
  rw [e]
  exact ⟨in_R' h hl, rfl, (SpL.for_same b.1).symm⟩
set_option maxHeartbeats 4000000 in
set_option cbv.maxSteps 4000000 in
set_option maxRecDepth 100000 in
theorem x_law (a0 : E) (_ : sized [.agg (shCells Ar.std (.ints .i64 (.recs (.int .i64 (.int .i64 (.int .i64 (.int .i64 (.bool .nil))))) .nil)) a0 0 2)]) : Does [(15, c_vmay ViC.Vc.std), (25, c_rbound ViQ.Vm.std), (24, c_rforest SpQ.Sq.std), (23, c_choose ChQ.Cq.std), (26, c_rcho Ca.std), (21, c_cmay ChR.Ch.std), (22, c_cawake Ca.std)] Try.f6 [.agg (shCells Ar.std (.ints .i64 (.recs (.int .i64 (.int .i64 (.int .i64 (.int .i64 (.bool .nil))))) .nil)) a0 0 2)] [] ⟨True, .sa (B true), [], [Any]⟩ := by
  intro b gv
  have f1 : mayV (rl a0 0) (rr a0 1) = true → (rr a0 1).length ≤ 60 → inR (boF (rinF (rr a0 1))) = true ∧ boF (rinF (rr a0 1)) = boV (rl a0 0) (rr a0 1) ∧ rfB (boV (rl a0 0) (rr a0 1)) = forB (boV (rl a0 0) (rr a0 1)) := fun h k => law_bnd h k
  have f2 : chE (rl a0 0) (rr a0 1) = if mayV (rl a0 0) (rr a0 1) = true then (if forB (boV (rl a0 0) (rr a0 1)) = true then 0 else 11) else 1 := rfl
  have f3 : ¬ chE (rl a0 0) (rr a0 1) = 0 → (chF (rl a0 0) (rr a0 1)).k = 0 ∧ (chF (rl a0 0) (rr a0 1)).a = 0 ∧ (chF (rl a0 0) (rr a0 1)).b = 0 ∧ (chF (rl a0 0) (rr a0 1)).s = 0 := fun h => by rw [show chF (rl a0 0) (rr a0 1) = ⟨0, 0, 0, 0⟩ from if_pos h]; exact ⟨rfl, rfl, rfl, rfl⟩
  have f4 : chE (rl a0 0) (rr a0 1) = 0 → mayC (chF (rl a0 0) (rr a0 1)).k (chF (rl a0 0) (rr a0 1)).a (chF (rl a0 0) (rr a0 1)).b (chF (rl a0 0) (rr a0 1)).s = true := ch_may
  have f5 : okC (rl a0 0) (rr a0 1) = decide (mayV (rl a0 0) (rr a0 1) = true ∧ forB (boV (rl a0 0) (rr a0 1)) = true ∧ (rl a0 0).length ≤ 70 ∧ (rr a0 1).length ≤ 60) := rfl
  have hfs := (FsOk.cons ok_vmay (FsOk.cons ok_rbound (FsOk.cons ok_rforest (FsOk.cons ok_choose (FsOk.cons ok_rcho (FsOk.cons ok_cmay (FsOk.cons ok_cawake FsOk.nil rfl) rfl) rfl) rfl) rfl) rfl) rfl)
  generalize hF : Ca.std = F at hfs ⊢
  generalize hG0 : ViC.Vc.std = G0 at hfs ⊢
  generalize hG1 : ViQ.Vm.std = G1 at hfs ⊢
  generalize hG2 : SpQ.Sq.std = G2 at hfs ⊢
  generalize hG3 : ChR.Ch.std = G3 at hfs ⊢
  generalize hG4 : ChQ.Cq.std = G4 at hfs ⊢
  generalize hA : Ar.std = A
  generalize hL : Lp _ _ _ = L
  obtain ⟨Z, zq⟩ := z_all
  refine cd_open (lp_mono hL) zq rfl ?_
  repeat' (first
    | (refine z_open zq ?_; try dsimp only)
    | refine cd_seq zq ?_ (lp_mono hL)
    | refine cd_blk zq ?_
    | refine cd_ret ?_
    | refine cd_skip ?_
    | refine cd_exit ?_
    | refine cd_loop ?_
    | refine cd_cond rfl ?_
    | refine cd_condT rfl ?_
    | refine cd_condF rfl ?_
    | (refine Cd.mk ?_; cbv)
    | (refine Ends1.mk ?_; cbv)
    | (refine Fin1.mk ?_; cbv)
    | exact trivial
    | refine And.intro ?_ ?_
    | refine orf fun _ => ?_
    | refine ort fun _ => ?_)
  all_goals (clear hL hfs zq Z; subst hA hF hG0 hG1 hG2 hG3 hG4; simp only [Ca.std, ViC.Vc.std, ViQ.Vm.std, SpQ.Sq.std, ChR.Ch.std, ChQ.Cq.std, Ar.std] at * <;> grind [stdCmp])
theorem walk (a0 : E) (v0 : Value) (w : World) (r0 : (SA.agg (shCells Ar.std (.ints .i64 (.recs (.int .i64 (.int .i64 (.int .i64 (.int .i64 (.bool .nil))))) .nil)) a0 0 2)).is (G0 w) v0) (_ : wfS (.ints .i64 (.recs (.int .i64 (.int .i64 (.int .i64 (.int .i64 (.bool .nil))))) .nil)) a0 0) : Calls Try.prog 6 #[v0] w (Law.Yes w) :=
  yes_of (FsOk.cons ok_vmay (FsOk.cons ok_rbound (FsOk.cons ok_rforest (FsOk.cons ok_choose (FsOk.cons ok_rcho (FsOk.cons ok_cmay (FsOk.cons ok_cawake FsOk.nil rfl) rfl) rfl) rfl) rfl) rfl) rfl) Try.func6 rfl (vs := [v0]) (by exact ⟨r0, trivial⟩) (lee_le rfl) fun hZ => x_law a0 hZ
theorem own : ownKnob Try.prog.godebug = none := by kernel_rfl
theorem laidOut : laidOutB Try.prog = true := by kernel_rfl
set_option maxRecDepth 100000 in
theorem lifted (os : Os) (started : os.Started) (H : Type) (enc : TypeId × Value → H) :
    ReturnsInHanded {} Try.checked os 6 .any (Rows.chooseChoosesSpec.pre6 enc Try.prog Try.f6 Rows.chooseChoosesRow.domain false) (Rows.chooseChoosesSpec.post enc Try.prog Try.f6 false true false false) := by
  refine returnsInHanded_of_change_sized (C := Try.checked) own started (by kernel_rfl) Try.func6
    (ChangeSpec.witness6 (enc := enc) (C := Try.checked) false ⟨#[], #[.agg #[.slice none 0 0, .slice none 0 0]], []⟩ 8 (by kernel_rfl) (by kernel_rfl) (by kernel_rfl) (by kernel_rfl)) ?_
  intro W base args ds gs before hval0 hW _ hz _
  have hval : ∀ (j : Nat) t v, Try.f6.params[j]? = some t → args[j]? = some v → Value.okWide Try.prog W .any base t v := hval0
  have hW' := hW
  obtain ⟨p, q, hA0, hV, rfl, _, _⟩ := hW
  have hA : DataW.TrodAll enc Try.prog W 0 (fun _ => true) true Try.f6.params.toList args.toList ds p := hA0
  rw [Try.params6] at hA hval
  obtain ⟨v0, d0, rfl, rfl, h0⟩ := trodAll_one hA
  obtain ⟨rfl, rfl⟩ := trodVars_none hV
  obtain ⟨a0, r0, w0⟩ := agg_any (s := .ints .i64 (.recs (.int .i64 (.int .i64 (.int .i64 (.int .i64 (.bool .nil))))) .nil)) (by rw [Try.underlying25]) (by kernel_rfl) (by kernel_rfl) (hval 0 25 v0 rfl rfl) h0
  refine (walk a0 v0 W r0 w0).mono fun e W' ⟨he, hb⟩ => ?_
  subst he
  exact ⟨_, rfl, law_post laidOut (by kernel_rfl) (by kernel_rfl) Try.underlying4 rfl hW' rfl hb⟩
theorem proved : Rows.ChooseChoosesSaid :=
  OpenClaim.holds_of_wide 6 Try.f6 rfl rfl rfl rfl rfl rfl rfl ⟨rfl, rfl, rfl, rfl, rfl⟩ rfl rfl rfl rfl rfl (by kernel_rfl) Try.func6 (by kernel_rfl)
    (of_decide_eq_true (by kernel_rfl)) (by unfold Func.isWrapper; first | (rw [if_pos (by decide +kernel)]; kernel_rfl) | (rw [if_neg (by decide +kernel)]; exact ⟨rfl, rfl⟩))
    (fun os started H enc _ => lifted os started H enc)
end Go.Proofs.Ytfioaidmgcibaaa.ChooseChooses
