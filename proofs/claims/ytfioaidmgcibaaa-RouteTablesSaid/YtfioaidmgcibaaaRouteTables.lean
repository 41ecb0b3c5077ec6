/-
  RouteTables: for every input the call tells true, and nothing that was there turns. No condition.
-/
import Derived.Test.YtfioaidmgcibaaaRows
import Derived.Test.YtfioaidmgcibaaaLaw
import Derived.Test.YtfioaidmgcibaaaRyIn
import Derived.Test.YtfioaidmgcibaaaRyZ
import Derived.Test.YtfioaidmgcibaaaRyOp
import Derived.Test.YtfioaidmgcibaaaRoU
namespace Go.Proofs.Ytfioaidmgcibaaa.RouteTables
open Go Go.Proofs.Ytfioaidmgcibaaa.Ry Go.Proofs.Ytfioaidmgcibaaa.Law Go.Proofs.Ytfioaidmgcibaaa.RoU Go.Proofs.Ytfioaidmgcibaaa.So Go.Proofs.Ytfioaidmgcibaaa.JoS Go.Proofs.Ytfioaidmgcibaaa.EcX Go.Proofs.Ytfioaidmgcibaaa.EgR Go.Proofs.Ytfioaidmgcibaaa.EgL Go.Proofs.Ytfioaidmgcibaaa.SpR Go.Proofs.Ytfioaidmgcibaaa.SpQ Go.Proofs.Ytfioaidmgcibaaa.SpK Go.Proofs.Ytfioaidmgcibaaa.SpT Go.Proofs.Ytfioaidmgcibaaa.SpL Go.Proofs.Ytfioaidmgcibaaa.SpN Go.Proofs.Ytfioaidmgcibaaa.TrK Go.Proofs.Ytfioaidmgcibaaa.TrB Go.Proofs.Ytfioaidmgcibaaa.TrR Go.Proofs.Ytfioaidmgcibaaa.TrC Go.Proofs.Ytfioaidmgcibaaa.TrQ Go.Proofs.Ytfioaidmgcibaaa.TrD Go.Proofs.Ytfioaidmgcibaaa.RoR Go.Proofs.Ytfioaidmgcibaaa.RoT Go.Proofs.Ytfioaidmgcibaaa.RoU
open Go.ChangeShapes Go.WideShapes Go.ChangeAt Go.Joins Go.RowKit
open Go.Proofs.Ytfioaidmgcibaaa.ViR (mayV)
open Go.Proofs.Ytfioaidmgcibaaa.ViL (boV boF)
open Go.Proofs.Ytfioaidmgcibaaa.ViT (rinF)
noncomputable def rI (n : List Int) (l tb : List E) (a e : Int) (y : XR) : St := stOf Try.f9.ntmps [(1, .val (.int .i64 a)), (2, .ptr 1 0), (5, .sl none (.recs (.int .i64 (.int .i64 .nil)) tb)), (6, .val (.int .i64 e)), (8, .val (.int .i64 y.x)), (9, .val (.int .i64 y.t))] [(1, .cells 25 [.sl none (.ints .i64 n), .sl none (.recs (.int .i64 (.int .i64 (.int .i64 (.int .i64 (.bool .nil))))) l)])] [Any, Any]
def rR (st : St) : XR := ⟨slotI st 9, slotI st 8⟩
set_option maxHeartbeats 4000000 in
set_option cbv.maxSteps 4000000 in
set_option maxRecDepth 100000 in
theorem x_law (a0 : E) (a1 : Int) (_ : sized [.agg (shCells Ar.std (.ints .i64 (.recs (.int .i64 (.int .i64 (.int .i64 (.int .i64 (.bool .nil))))) .nil)) a0 0 2), .one (.val (.int .i64 a1))]) : Does [(37, c_olight Ro.std), (39, c_table RoU.Ru.std), (40, c_ocheck Ro.std), (41, c_rhop Ro.std), (38, c_oawake Ro.std)] Try.f9 [.agg (shCells Ar.std (.ints .i64 (.recs (.int .i64 (.int .i64 (.int .i64 (.int .i64 (.bool .nil))))) .nil)) a0 0 2), .one (.val (.int .i64 a1))] [] ⟨True, .sa (B true), [], [Any, Any]⟩ := by
  intro b gv
  have f1 : okV (rl a0 0) (rr a0 1) = true → (rl a0 0).length ≤ 70 ∧ (rr a0 1).length ≤ 60 := fun h => of_decide_eq_true h
  have f2 : ¬ tfE (rl a0 0) (rr a0 1) a1 a1 = 0 → tbB (rl a0 0) (rr a0 1) a1 = [] := fun h => if_neg h
  have hfs := (FsOk.cons ok_olight (FsOk.cons ok_table (FsOk.cons ok_ocheck (FsOk.cons ok_rhop (FsOk.cons ok_oawake FsOk.nil rfl) rfl) rfl) rfl) rfl)
  generalize hF : RoR.Ro.std = F at hfs ⊢
  generalize hG0 : RoU.Ru.std = G0 at hfs ⊢
  generalize hA : Ar.std = A
  generalize hL : Lp _ _ _ = L
  obtain ⟨Z, zq⟩ := z_all
  refine cd_open (lp_mono hL) zq rfl ?_
  repeat' (first
    | (refine z_open zq ?_; try dsimp only)
    | refine cd_seq zq ?_ (lp_mono hL)
    | refine cd_blk zq ?_
    | refine cd_ret ?_
    | refine cd_skip ?_
    | refine cd_exit ?_
    | refine cd_loop ?_
    | refine cd_cond rfl ?_
    | refine cd_condT rfl ?_
    | refine cd_condF rfl ?_
    | (refine Cd.mk ?_; cbv)
    | (refine Ends1.mk ?_; cbv)
    | (refine Fin1.mk ?_; cbv)
    | exact trivial
    | refine And.intro ?_ ?_
    | refine orf fun _ => ?_
    | refine ort fun _ => ?_)
  all_goals first | (show L _ _ _; skip) | (clear hL hfs zq Z; subst hA hF hG0; simp only [RoR.Ro.std, RoU.Ru.std, Ar.std] at * <;> grind [stdCmp]; done)
  rename_i hx1 hx2
  have hr : okV (rl a0 0) (rr a0 1) = true ∧ tfE (rl a0 0) (rr a0 1) a1 a1 = 0 := by
    clear hL hfs zq Z
    subst hA hF hG0
    simp only [RoR.Ro.std, Ar.std] at *
    grind [stdCmp]
  clear hx1 hx2 f1 f2
  have hr0 := hr.1
  have hr1 := hr.2
  subst hL
  refine loop_z (cx_ok hfs) (rtQ (rl a0 0) (rr a0 1) a1) (rI (A.rl a0 0) (A.rr a0 1) (G0.u_tb (A.rl a0 0) (A.rr a0 1) a1) a1 (G0.u_tf (A.rl a0 0) (A.rr a0 1) a1)) (rtM) rR ⟨1, 0⟩ ?_ ?_ ?_
  · exact rt_zero hr.2
  · cbv
    repeat' (first | exact trivial | exact rfl | refine And.intro ?_ ?_)
  rintro ⟨t, x⟩ hq O hO
  have hst := rt_step hr.2 hq
  subst hA
  generalize hA : Ar.std = A
  generalize hL : Lp _ _ _ = L
  refine cd_close zq ?_
  repeat' (first
    | (refine z_open zq ?_; try dsimp only)
    | refine cd_seq zq ?_ (lp_mono hL)
    | refine cd_blk zq ?_
    | refine cd_ret ?_
    | refine cd_skip ?_
    | refine cd_exit ?_
    | refine cd_loop ?_
    | refine cd_cond rfl ?_
    | refine cd_condT rfl ?_
    | refine cd_condF rfl ?_
    | (refine Cd.mk ?_; cbv)
    | (refine Ends1.mk ?_; cbv)
    | (refine Fin1.mk ?_; cbv)
    | exact trivial
    | refine And.intro ?_ ?_
    | refine orf fun _ => ?_
    | refine ort fun _ => ?_)
  all_goals (clear hL hfs zq Z hq hr; subst hA hF hG0 hO; simp only [RoR.Ro.std, RoU.Ru.std, Ar.std] at *)
  all_goals (try generalize (tbB (rl a0 0) (rr a0 1) a1).getD x.toNat [] = Y at *)
  all_goals grind [stdCmp]
theorem walk (a0 : E) (a1 : Int) (v0 : Value) (w : World) (r0 : (SA.agg (shCells Ar.std (.ints .i64 (.recs (.int .i64 (.int .i64 (.int .i64 (.int .i64 (.bool .nil))))) .nil)) a0 0 2)).is (G0 w) v0) (_ : wfS (.ints .i64 (.recs (.int .i64 (.int .i64 (.int .i64 (.int .i64 (.bool .nil))))) .nil)) a0 0) (_ : (Lit.int .i64 a1).wf = true) : Calls Try.prog 9 #[v0, .int .i64 a1] w (Law.Yes w) :=
  yes_of (FsOk.cons ok_olight (FsOk.cons ok_table (FsOk.cons ok_ocheck (FsOk.cons ok_rhop (FsOk.cons ok_oawake FsOk.nil rfl) rfl) rfl) rfl) rfl) Try.func9 rfl (vs := [v0, .int .i64 a1]) (by exact ⟨r0, rfl, trivial⟩) (lee_le rfl) fun hZ => x_law a0 a1 hZ
theorem own : ownKnob Try.prog.godebug = none := by kernel_rfl
theorem laidOut : laidOutB Try.prog = true := by kernel_rfl
set_option maxRecDepth 100000 in
theorem lifted (os : Os) (started : os.Started) (H : Type) (enc : TypeId × Value → H) :
    ReturnsInHanded {} Try.checked os 9 .any (Rows.routeTablesSpec.pre6 enc Try.prog Try.f9 Rows.routeTablesRow.domain false) (Rows.routeTablesSpec.post enc Try.prog Try.f9 false true false false) := by
  refine returnsInHanded_of_change_sized (C := Try.checked) own started (by kernel_rfl) Try.func9
    (ChangeSpec.witness6 (enc := enc) (C := Try.checked) false ⟨#[], #[.agg #[.slice none 0 0, .slice none 0 0], .int .i64 0], []⟩ 8 (by kernel_rfl) (by kernel_rfl) (by kernel_rfl) (by kernel_rfl)) ?_
  intro W base args ds gs before hval0 hW _ hz _
  have hval : ∀ (j : Nat) t v, Try.f9.params[j]? = some t → args[j]? = some v → Value.okWide Try.prog W .any base t v := hval0
  have hW' := hW
  obtain ⟨p, q, hA0, hV, rfl, _, _⟩ := hW
  have hA : DataW.TrodAll enc Try.prog W 0 (fun _ => true) true Try.f9.params.toList args.toList ds p := hA0
  rw [Try.params9] at hA hval
  obtain ⟨v0, v1, d0, d1, p0, p1, rfl, rfl, rfl, h0, h1⟩ := trodAll_two hA
  obtain ⟨rfl, rfl⟩ := trodVars_none hV
  obtain ⟨a0, r0, w0⟩ := agg_any (s := .ints .i64 (.recs (.int .i64 (.int .i64 (.int .i64 (.int .i64 (.bool .nil))))) .nil)) (by rw [Try.underlying25]) (by kernel_rfl) (by kernel_rfl) (hval 0 25 v0 rfl rfl) h0
  obtain ⟨a1, rfl, rfl, rfl, w1⟩ := open_int Try.underlying3 (hval 1 3 v1 rfl rfl) h1
  refine (walk a0 a1 v0 W r0 w0 w1).mono fun e W' ⟨he, hb⟩ => ?_
  subst he
  exact ⟨_, rfl, law_post laidOut (by kernel_rfl) (by kernel_rfl) Try.underlying4 rfl hW' rfl hb⟩
theorem proved : Rows.RouteTablesSaid :=
  OpenClaim.holds_of_wide 9 Try.f9 rfl rfl rfl rfl rfl rfl rfl ⟨rfl, rfl, rfl, rfl, rfl⟩ rfl rfl rfl rfl rfl (by kernel_rfl) Try.func9 (by kernel_rfl)
    (of_decide_eq_true (by kernel_rfl)) (by unfold Func.isWrapper; first | (rw [if_pos (by decide +kernel)]; kernel_rfl) | (rw [if_neg (by decide +kernel)]; exact ⟨rfl, rfl⟩))
    (fun os started H enc _ => lifted os started H enc)
end Go.Proofs.Ytfioaidmgcibaaa.RouteTables
