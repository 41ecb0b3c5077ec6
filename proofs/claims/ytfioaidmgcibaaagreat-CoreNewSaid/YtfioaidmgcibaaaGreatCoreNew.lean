/-
  CoreNew: for every input the call tells true, and nothing that was there turns. No condition.
-/
import Derived.Test.YtfioaidmgcibaaaGreatRows
import Derived.Test.YtfioaidmgcibaaaGreatLaw
import Derived.Test.YtfioaidmgcibaaaGreatRyIn
import Derived.Test.YtfioaidmgcibaaaGreatRyZ
import Derived.Test.YtfioaidmgcibaaaGreatCoQ
namespace Go.Proofs.YtfioaidmgcibaaaGreat.CoreNew
open Go Go.Proofs.YtfioaidmgcibaaaGreat.Ry Go.Proofs.YtfioaidmgcibaaaGreat.Law Go.Proofs.YtfioaidmgcibaaaGreat.CoQ Go.Proofs.YtfioaidmgcibaaaGreat.Cmp Go.Proofs.YtfioaidmgcibaaaGreat.ViR Go.Proofs.YtfioaidmgcibaaaGreat.ViC Go.Proofs.YtfioaidmgcibaaaGreat.ViL Go.Proofs.YtfioaidmgcibaaaGreat.ViT Go.Proofs.YtfioaidmgcibaaaGreat.CoN Go.Proofs.YtfioaidmgcibaaaGreat.ViS
open Go.ChangeShapes Go.WideShapes Go.ChangeAt Go.Joins Go.RowKit
set_option maxHeartbeats 4000000 in
set_option cbv.maxSteps 4000000 in
set_option maxRecDepth 100000 in
theorem x_law (a0 : Int) (a1 : Int) (_ : sized [.one (.val (.int .i64 a0)), .one (.val (.int .i64 a1))]) : Does [(7, c_cnew CoN.Cn.std), (8, c_rnode ViR.Vs.std), (9, dnil [[none, none, none, none, none, some (.recs (.int .i64 (.int .i64 (.int .i64 (.int .i64 (.bool (.bool (.int .i64 .nil))))))) []), some (.ints .i64 []), some (.ints .i64 []), some (.recs (.int .i64 (.int .i64 (.int .i64 (.int .i64 (.bool .nil))))) []), none, some (.ints .i64 []), some (.recs (.int .i64 (.int .i64 (.int .i64 (.int .i64 (.bool .nil))))) []), none, none], [none, none, none, none, none, some (.recs (.int .i64 (.int .i64 (.int .i64 (.int .i64 (.bool (.bool (.int .i64 .nil))))))) []), some (.ints .i64 []), some (.ints .i64 []), some (.recs (.int .i64 (.int .i64 (.int .i64 (.int .i64 (.bool .nil))))) []), none, some (.ints .i64 []), some (.recs (.int .i64 (.int .i64 (.int .i64 (.int .i64 (.bool .nil))))) []), none, none]] (c_csame Co.std)), (11, c_new Co.std), (13, c_cown CoN.Cn.std), (14, c_ow Co.std), (12, c_rvsame ViS.Vq.std), (10, c_awk Co.std)] Tryz.f3 [.one (.val (.int .i64 a0)), .one (.val (.int .i64 a1))] [] ⟨True, .sa (B true), [], [Any, Any]⟩ := by
  intro b gv
  have hfs := (FsOk.cons ok_cnew (FsOk.cons ok_rnode (FsOk.cons (dnil_ok [[none, none, none, none, none, some (.recs (.int .i64 (.int .i64 (.int .i64 (.int .i64 (.bool (.bool (.int .i64 .nil))))))) []), some (.ints .i64 []), some (.ints .i64 []), some (.recs (.int .i64 (.int .i64 (.int .i64 (.int .i64 (.bool .nil))))) []), none, some (.ints .i64 []), some (.recs (.int .i64 (.int .i64 (.int .i64 (.int .i64 (.bool .nil))))) []), none, none], [none, none, none, none, none, some (.recs (.int .i64 (.int .i64 (.int .i64 (.int .i64 (.bool (.bool (.int .i64 .nil))))))) []), some (.ints .i64 []), some (.ints .i64 []), some (.recs (.int .i64 (.int .i64 (.int .i64 (.int .i64 (.bool .nil))))) []), none, some (.ints .i64 []), some (.recs (.int .i64 (.int .i64 (.int .i64 (.int .i64 (.bool .nil))))) []), none, none]] ok_csame) (FsOk.cons ok_new (FsOk.cons ok_cown (FsOk.cons ok_ow (FsOk.cons ok_rvsame (FsOk.cons ok_awk FsOk.nil rfl) rfl) rfl) rfl) rfl) rfl) rfl) rfl)
  generalize hF : CoQ.Co.std = F at hfs ⊢
  generalize hG0 : CoN.Cn.std = G0 at hfs ⊢
  generalize hG1 : ViR.Vs.std = G1 at hfs ⊢
  generalize hG2 : ViS.Vq.std = G2 at hfs ⊢
  generalize hA : Ar.std = A
  generalize hL : Lp _ _ _ = L
  obtain ⟨Z, zq⟩ := z_all
  refine @cd_open _ _ _ _ _ _ _ (lp_mono hL) _ _ zq rfl ?_
  repeat' (first
    | (refine z_open zq ?_; try dsimp only)
    | refine cd_seq zq ?_ (lp_mono hL)
    | refine cd_blk zq ?_
    | refine cd_ret ?_
    | refine cd_skip ?_
    | refine cd_exit ?_
    | refine cd_loop ?_
    | refine cd_cond rfl ?_
    | refine cd_condT rfl ?_
    | refine cd_condF rfl ?_
    | (refine Cd.mk ?_; cbv)
    | (refine Ends1.mk ?_; cbv)
    | (refine Fin1.mk ?_; cbv)
    | exact trivial
    | refine And.intro ?_ ?_
    | refine orf fun _ => ?_
    | refine ort fun _ => ?_)
  all_goals (clear hL hfs zq Z; subst hA hF hG0 hG1 hG2; have hw : nwB a0 a1 = (nodB a0 && decide (1 ≤ a1 ∧ a1 ≤ 2147483647)) := rfl; have s1 := sameV_rfl [a0] []; have s2 : eqI [a0] [a0] = true := (by simp [eqI]); have s3 : eqI [] [] = true := (by simp [eqI]); have s4 : emq [] [] = true := rfl; have s5 : emp [] = true := rfl; simp only [CoQ.Co.std, CoN.Cn.std, ViR.Vs.std, ViS.Vq.std, Ar.std] at * <;> grind [stdCmp]; done)
theorem walk (a0 : Int) (a1 : Int) (w : World) (_ : (Lit.int .i64 a0).wf = true) (_ : (Lit.int .i64 a1).wf = true) : Calls Tryz.prog 3 #[.int .i64 a0, .int .i64 a1] w (Law.Yes w) :=
  yes_of (FsOk.cons ok_cnew (FsOk.cons ok_rnode (FsOk.cons (dnil_ok [[none, none, none, none, none, some (.recs (.int .i64 (.int .i64 (.int .i64 (.int .i64 (.bool (.bool (.int .i64 .nil))))))) []), some (.ints .i64 []), some (.ints .i64 []), some (.recs (.int .i64 (.int .i64 (.int .i64 (.int .i64 (.bool .nil))))) []), none, some (.ints .i64 []), some (.recs (.int .i64 (.int .i64 (.int .i64 (.int .i64 (.bool .nil))))) []), none, none], [none, none, none, none, none, some (.recs (.int .i64 (.int .i64 (.int .i64 (.int .i64 (.bool (.bool (.int .i64 .nil))))))) []), some (.ints .i64 []), some (.ints .i64 []), some (.recs (.int .i64 (.int .i64 (.int .i64 (.int .i64 (.bool .nil))))) []), none, some (.ints .i64 []), some (.recs (.int .i64 (.int .i64 (.int .i64 (.int .i64 (.bool .nil))))) []), none, none]] ok_csame) (FsOk.cons ok_new (FsOk.cons ok_cown (FsOk.cons ok_ow (FsOk.cons ok_rvsame (FsOk.cons ok_awk FsOk.nil rfl) rfl) rfl) rfl) rfl) rfl) rfl) rfl) Tryz.func3 rfl (vs := [.int .i64 a0, .int .i64 a1]) (by exact ⟨rfl, rfl, trivial⟩) (lee_le rfl) fun hZ => x_law a0 a1 hZ
theorem own : ownKnob Tryz.prog.godebug = none := by kernel_rfl
theorem laidOut : laidOutB Tryz.prog = true := by kernel_rfl
set_option maxRecDepth 100000 in
theorem lifted (os : Os) (started : os.Started) (H : Type) (enc : TypeId × Value → H) :
    ReturnsInHanded {} Tryz.checked os 3 .any (Rows.coreNewSpec.pre6 enc Tryz.prog Tryz.f3 Rows.coreNewRow.domain false) (Rows.coreNewSpec.post enc Tryz.prog Tryz.f3 false true false false) := by
  refine returnsInHanded_of_change_sized (C := Tryz.checked) own started (by kernel_rfl) Tryz.func3
    (ChangeSpec.witness6 (enc := enc) (C := Tryz.checked) false ⟨#[], #[.int .i64 0, .int .i64 0], []⟩ 8 (by kernel_rfl) (by kernel_rfl) (by kernel_rfl) (by kernel_rfl)) ?_
  intro W base args ds gs before hval0 hW _ hz _
  have hval : ∀ (j : Nat) t v, Tryz.f3.params[j]? = some t → args[j]? = some v → Value.okWide Tryz.prog W .any base t v := hval0
  have hW' := hW
  obtain ⟨p, q, hA0, hV, rfl, _, _⟩ := hW
  have hA : DataW.TrodAll enc Tryz.prog W 0 (fun _ => true) true Tryz.f3.params.toList args.toList ds p := hA0
  rw [Tryz.params3] at hA hval
  obtain ⟨v0, v1, d0, d1, p0, p1, rfl, rfl, rfl, h0, h1⟩ := trodAll_two hA
  obtain ⟨rfl, rfl⟩ := trodVars_none hV
  obtain ⟨a0, rfl, rfl, rfl, w0⟩ := open_int Tryz.underlying3 (hval 0 3 v0 rfl rfl) h0
  obtain ⟨a1, rfl, rfl, rfl, w1⟩ := open_int Tryz.underlying3 (hval 1 3 v1 rfl rfl) h1
  refine (walk a0 a1 W w0 w1).mono fun e W' ⟨he, hb⟩ => ?_
  subst he
  exact ⟨_, rfl, law_post laidOut (by kernel_rfl) (by kernel_rfl) Tryz.underlying4 rfl hW' rfl hb⟩
theorem proved : Rows.CoreNewSaid :=
  OpenClaim.holds_of_wide 3 Tryz.f3 rfl rfl rfl rfl rfl rfl rfl ⟨rfl, rfl, rfl, rfl, rfl⟩ rfl rfl rfl rfl rfl (by kernel_rfl) Tryz.func3 (by kernel_rfl)
    (of_decide_eq_true (by kernel_rfl)) (by unfold Func.isWrapper; first | (rw [if_pos (by decide +kernel)]; kernel_rfl) | (rw [if_neg (by decide +kernel)]; exact ⟨rfl, rfl⟩))
    (fun os started H enc _ => lifted os started H enc)
end Go.Proofs.YtfioaidmgcibaaaGreat.CoreNew
