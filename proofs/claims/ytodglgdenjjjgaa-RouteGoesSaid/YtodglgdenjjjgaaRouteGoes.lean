/-
  RouteGoes: for every input the call tells true, and nothing that was there turns. No condition.
-/
import Derived.Test.YtodglgdenjjjgaaRows
import Derived.Test.YtodglgdenjjjgaaLaw
import Derived.Test.YtodglgdenjjjgaaRyIn
import Derived.Test.YtodglgdenjjjgaaRyZ
import Derived.Test.YtodglgdenjjjgaaRyOp
import Derived.Test.YtodglgdenjjjgaaRoT
namespace Go.Proofs.Ytodglgdenjjjgaa.RouteGoes
open Go Go.Proofs.Ytodglgdenjjjgaa.Ry Go.Proofs.Ytodglgdenjjjgaa.Law Go.Proofs.Ytodglgdenjjjgaa.RoT Go.Proofs.Ytodglgdenjjjgaa.So Go.Proofs.Ytodglgdenjjjgaa.JoS Go.Proofs.Ytodglgdenjjjgaa.EcX Go.Proofs.Ytodglgdenjjjgaa.EgR Go.Proofs.Ytodglgdenjjjgaa.EgL Go.Proofs.Ytodglgdenjjjgaa.SpR Go.Proofs.Ytodglgdenjjjgaa.SpQ Go.Proofs.Ytodglgdenjjjgaa.SpK Go.Proofs.Ytodglgdenjjjgaa.SpT Go.Proofs.Ytodglgdenjjjgaa.SpL Go.Proofs.Ytodglgdenjjjgaa.SpN Go.Proofs.Ytodglgdenjjjgaa.TrK Go.Proofs.Ytodglgdenjjjgaa.TrB Go.Proofs.Ytodglgdenjjjgaa.TrR Go.Proofs.Ytodglgdenjjjgaa.TrC Go.Proofs.Ytodglgdenjjjgaa.TrQ Go.Proofs.Ytodglgdenjjjgaa.TrD Go.Proofs.Ytodglgdenjjjgaa.RoR Go.Proofs.Ytodglgdenjjjgaa.RoT
open Go.ChangeShapes Go.WideShapes Go.ChangeAt Go.Joins Go.RowKit
open Go.Proofs.Ytodglgdenjjjgaa.ViR (mayV)
open Go.Proofs.Ytodglgdenjjjgaa.ViL (boV boF)
open Go.Proofs.Ytodglgdenjjjgaa.ViT (rinF)
open Go.Proofs.Ytodglgdenjjjgaa.ViQ (c_rbound ok_rbound)
noncomputable def gI (n : List Int) (l : List E) (b x z : Int) (y : XG) : St := stOf Try.f5.ntmps [(2, .val (.int .i64 b)), (3, .ptr 1 0), (8, .val (.int .i64 x)), (10, .val (.int .i64 z)), (12, .val (.int .i64 y.t)), (13, .val (.int .i64 y.i))] [(1, .cells 25 [.sl none (.ints .i64 n), .sl none (.recs (.int .i64 (.int .i64 (.int .i64 (.int .i64 (.bool .nil))))) l)])] [Any, Any, Any]
def gR (st : St) : XG := ⟨slotI st 13, slotI st 12⟩
set_option maxHeartbeats 4000000 in
set_option cbv.maxSteps 4000000 in
set_option maxRecDepth 100000 in
theorem x_law (a0 : E) (a1 : Int) (a2 : Int) (_ : sized [.agg (shCells Ar.std (.ints .i64 (.recs (.int .i64 (.int .i64 (.int .i64 (.int .i64 (.bool .nil))))) .nil)) a0 0 2), .one (.val (.int .i64 a1)), .one (.val (.int .i64 a2))]) : Does [(9, c_olight Ro.std), (16, c_ocheck Ro.std), (17, c_rbound ViQ.Vm.std), (13, c_leader Ro.std), (18, c_rlinked SpQ.Sq.std), (11, c_hop Ro.std), (10, c_oawake Ro.std)] Try.f5 [.agg (shCells Ar.std (.ints .i64 (.recs (.int .i64 (.int .i64 (.int .i64 (.int .i64 (.bool .nil))))) .nil)) a0 0 2), .one (.val (.int .i64 a1)), .one (.val (.int .i64 a2))] [] ⟨True, .sa (B true), [], [Any, Any, Any]⟩ := by
  intro b gv
  have f1 : okV (rl a0 0) (rr a0 1) = true → (rl a0 0).length ≤ 70 ∧ (rr a0 1).length ≤ 60 := fun h => of_decide_eq_true h
  have f3 : okV (rl a0 0) (rr a0 1) = true → tfE (rl a0 0) (rr a0 1) a1 a1 = 0 → (rr a0 1).length ≤ 1000 ∧ boF (rinF (rr a0 1)) = boV (rl a0 0) (rr a0 1) ∧ inR (boV (rl a0 0) (rr a0 1)) = true := fun h k => ⟨by have := (f1 h).2; omega, (bnd_all (tf_0 k).1 (by have := (f1 h).2; omega)).2.1.symm, in_R (all_good (bnd_all (tf_0 k).1 (by have := (f1 h).2; omega)).1) (by have := (bnd_all (tf_0 k).1 (by have := (f1 h).2; omega)).2.2; omega)⟩
  have f4 := fun h k => ld_iff (n := (rl a0 0)) (l := (rr a0 1)) (a := a1) (b := a2) h k
  have hfs := (FsOk.cons ok_olight (FsOk.cons ok_ocheck (FsOk.cons ok_rbound (FsOk.cons ok_leader (FsOk.cons ok_rlinked (FsOk.cons ok_hop (FsOk.cons ok_oawake FsOk.nil rfl) rfl) rfl) rfl) rfl) rfl) rfl)
  generalize hF : RoR.Ro.std = F at hfs ⊢
  generalize hG0 : SpQ.Sq.std = G0 at hfs ⊢
  generalize hG1 : ViQ.Vm.std = G1 at hfs ⊢
  generalize hA : Ar.std = A
  generalize hL : Lp _ _ _ = L
  obtain ⟨Z, zq⟩ := z_all
  refine cd_open (lp_mono hL) zq rfl ?_
  repeat' (first
    | (refine z_open zq ?_; try dsimp only)
    | refine cd_seq zq ?_ (lp_mono hL)
    | refine cd_blk zq ?_
    | refine cd_ret ?_
    | refine cd_skip ?_
    | refine cd_exit ?_
    | refine cd_loop ?_
    | refine cd_cond rfl ?_
    | refine cd_condT rfl ?_
    | refine cd_condF rfl ?_
    | (refine Cd.mk ?_; cbv)
    | (refine Ends1.mk ?_; cbv)
    | (refine Fin1.mk ?_; cbv)
    | exact trivial
    | refine And.intro ?_ ?_
    | refine orf fun _ => ?_
    | refine ort fun _ => ?_)
  all_goals first | (show L _ _ _; skip) | (clear hL hfs zq Z; subst hA hF hG0 hG1; simp only [RoR.Ro.std, SpQ.Sq.std, ViQ.Vm.std, Ar.std] at * <;> grind [stdCmp]; done)
  rename_i hx1 hx2
  have hr : okV (rl a0 0) (rr a0 1) = true ∧ tfE (rl a0 0) (rr a0 1) a1 a1 = 0 ∧ tfE (rl a0 0) (rr a0 1) a2 a2 = 0 := by
    clear hL hfs zq Z
    subst hA hF hG0 hG1
    simp only [RoR.Ro.std, SpQ.Sq.std, ViQ.Vm.std, Ar.std] at *
    grind [stdCmp]
  clear hx1 hx2
  have hr1 := (f1 hr.1).1
  have hr2 := f4 hr.2.1 hr.2.2
  have hr0 := hr.1
  clear f1 f3 f4
  subst hL
  refine loop_z (cx_ok hfs) (gQ (rl a0 0) (rr a0 1) a1 a2) (gI (A.rl a0 0) (A.rr a0 1) a2 (F.o_ldN (A.rl a0 0) (A.rr a0 1) a1) (F.o_ldN (A.rl a0 0) (A.rr a0 1) a2)) (gM (rl a0 0)) gR ⟨0, a1⟩ ?_ ?_ ?_
  · exact g_zero hr.2.1 hr.2.2
  · cbv
    repeat' (first | exact trivial | exact rfl | refine And.intro ?_ ?_)
  rintro ⟨i, t⟩ hq O hO
  have hst := g_step hr.2.1 hr.2.2 hr1 hq
  subst hA
  generalize hA : Ar.std = A
  generalize hL : Lp _ _ _ = L
  refine cd_close zq ?_
  repeat' (first
    | (refine z_open zq ?_; try dsimp only)
    | refine cd_seq zq ?_ (lp_mono hL)
    | refine cd_blk zq ?_
    | refine cd_ret ?_
    | refine cd_skip ?_
    | refine cd_exit ?_
    | refine cd_loop ?_
    | refine cd_cond rfl ?_
    | refine cd_condT rfl ?_
    | refine cd_condF rfl ?_
    | (refine Cd.mk ?_; cbv)
    | (refine Ends1.mk ?_; cbv)
    | (refine Fin1.mk ?_; cbv)
    | exact trivial
    | refine And.intro ?_ ?_
    | refine orf fun _ => ?_
    | refine ort fun _ => ?_)
  all_goals (clear hL hfs zq Z hq hr; subst hA hF hG0 hG1 hO; simp only [RoR.Ro.std, Ar.std] at * <;> grind [stdCmp])
theorem walk (a0 : E) (a1 : Int) (a2 : Int) (v0 : Value) (w : World) (r0 : (SA.agg (shCells Ar.std (.ints .i64 (.recs (.int .i64 (.int .i64 (.int .i64 (.int .i64 (.bool .nil))))) .nil)) a0 0 2)).is (G0 w) v0) (_ : wfS (.ints .i64 (.recs (.int .i64 (.int .i64 (.int .i64 (.int .i64 (.bool .nil))))) .nil)) a0 0) (_ : (Lit.int .i64 a1).wf = true) (_ : (Lit.int .i64 a2).wf = true) : Calls Try.prog 5 #[v0, .int .i64 a1, .int .i64 a2] w (Law.Yes w) :=
  yes_of (FsOk.cons ok_olight (FsOk.cons ok_ocheck (FsOk.cons ok_rbound (FsOk.cons ok_leader (FsOk.cons ok_rlinked (FsOk.cons ok_hop (FsOk.cons ok_oawake FsOk.nil rfl) rfl) rfl) rfl) rfl) rfl) rfl) Try.func5 rfl (vs := [v0, .int .i64 a1, .int .i64 a2]) (by exact ⟨r0, rfl, rfl, trivial⟩) (lee_le rfl) fun hZ => x_law a0 a1 a2 hZ
theorem own : ownKnob Try.prog.godebug = none := by kernel_rfl
theorem laidOut : laidOutB Try.prog = true := by kernel_rfl
set_option maxRecDepth 100000 in
theorem lifted (os : Os) (started : os.Started) (H : Type) (enc : TypeId × Value → H) :
    ReturnsInHanded {} Try.checked os 5 .any (Rows.routeGoesSpec.pre6 enc Try.prog Try.f5 Rows.routeGoesRow.domain false) (Rows.routeGoesSpec.post enc Try.prog Try.f5 false true false false) := by
  refine returnsInHanded_of_change_sized (C := Try.checked) own started (by kernel_rfl) Try.func5
    (ChangeSpec.witness6 (enc := enc) (C := Try.checked) false ⟨#[], #[.agg #[.slice none 0 0, .slice none 0 0], .int .i64 0, .int .i64 0], []⟩ 8 (by kernel_rfl) (by kernel_rfl) (by kernel_rfl) (by kernel_rfl)) ?_
  intro W base args ds gs before hval0 hW _ hz _
  have hval : ∀ (j : Nat) t v, Try.f5.params[j]? = some t → args[j]? = some v → Value.okWide Try.prog W .any base t v := hval0
  have hW' := hW
  obtain ⟨p, q, hA0, hV, rfl, _, _⟩ := hW
  have hA : DataW.TrodAll enc Try.prog W 0 (fun _ => true) true Try.f5.params.toList args.toList ds p := hA0
  rw [Try.params5] at hA hval
  obtain ⟨v0, v1, v2, d0, d1, d2, p0, p1, p2, rfl, rfl, rfl, h0, h1, h2⟩ := trodAll_three hA
  obtain ⟨rfl, rfl⟩ := trodVars_none hV
  obtain ⟨a0, r0, w0⟩ := agg_any (s := .ints .i64 (.recs (.int .i64 (.int .i64 (.int .i64 (.int .i64 (.bool .nil))))) .nil)) (by rw [Try.underlying25]) (by kernel_rfl) (by kernel_rfl) (hval 0 25 v0 rfl rfl) h0
  obtain ⟨a1, rfl, rfl, rfl, w1⟩ := open_int Try.underlying3 (hval 1 3 v1 rfl rfl) h1
  obtain ⟨a2, rfl, rfl, rfl, w2⟩ := open_int Try.underlying3 (hval 2 3 v2 rfl rfl) h2
  refine (walk a0 a1 a2 v0 W r0 w0 w1 w2).mono fun e W' ⟨he, hb⟩ => ?_
  subst he
  exact ⟨_, rfl, law_post laidOut (by kernel_rfl) (by kernel_rfl) Try.underlying4 rfl hW' rfl hb⟩
theorem proved : Rows.RouteGoesSaid :=
  OpenClaim.holds_of_wide 5 Try.f5 rfl rfl rfl rfl rfl rfl rfl ⟨rfl, rfl, rfl, rfl, rfl⟩ rfl rfl rfl rfl rfl (by kernel_rfl) Try.func5 (by kernel_rfl)
    (of_decide_eq_true (by kernel_rfl)) (by unfold Func.isWrapper; first | (rw [if_pos (by decide +kernel)]; kernel_rfl) | (rw [if_neg (by decide +kernel)]; exact ⟨rfl, rfl⟩))
    (fun os started H enc _ => lifted os started H enc)
end Go.Proofs.Ytodglgdenjjjgaa.RouteGoes
