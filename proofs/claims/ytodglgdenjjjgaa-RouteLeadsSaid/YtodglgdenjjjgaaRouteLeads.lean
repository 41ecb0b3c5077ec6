/-
  RouteLeads: for every input the call tells true, and nothing that was there turns. No condition.
-/
import Derived.Test.YtodglgdenjjjgaaRows
import Derived.Test.YtodglgdenjjjgaaLaw
import Derived.Test.YtodglgdenjjjgaaRyIn
import Derived.Test.YtodglgdenjjjgaaRyZ
import Derived.Test.YtodglgdenjjjgaaRyOp
import Derived.Test.YtodglgdenjjjgaaRoU
namespace Go.Proofs.Ytodglgdenjjjgaa.RouteLeads
open Go Go.Proofs.Ytodglgdenjjjgaa.Ry Go.Proofs.Ytodglgdenjjjgaa.Law Go.Proofs.Ytodglgdenjjjgaa.RoU Go.Proofs.Ytodglgdenjjjgaa.So Go.Proofs.Ytodglgdenjjjgaa.JoS Go.Proofs.Ytodglgdenjjjgaa.EcX Go.Proofs.Ytodglgdenjjjgaa.EgR Go.Proofs.Ytodglgdenjjjgaa.EgL Go.Proofs.Ytodglgdenjjjgaa.SpR Go.Proofs.Ytodglgdenjjjgaa.SpQ Go.Proofs.Ytodglgdenjjjgaa.SpK Go.Proofs.Ytodglgdenjjjgaa.SpT Go.Proofs.Ytodglgdenjjjgaa.SpL Go.Proofs.Ytodglgdenjjjgaa.SpN Go.Proofs.Ytodglgdenjjjgaa.TrK Go.Proofs.Ytodglgdenjjjgaa.TrB Go.Proofs.Ytodglgdenjjjgaa.TrR Go.Proofs.Ytodglgdenjjjgaa.TrC Go.Proofs.Ytodglgdenjjjgaa.TrQ Go.Proofs.Ytodglgdenjjjgaa.TrD Go.Proofs.Ytodglgdenjjjgaa.RoR Go.Proofs.Ytodglgdenjjjgaa.RoT Go.Proofs.Ytodglgdenjjjgaa.RoU
open Go.ChangeShapes Go.WideShapes Go.ChangeAt Go.Joins Go.RowKit
open Go.Proofs.Ytodglgdenjjjgaa.ViR (mayV)
open Go.Proofs.Ytodglgdenjjjgaa.ViL (boV boF)
open Go.Proofs.Ytodglgdenjjjgaa.ViT (rinF)
structure XK where
  i : Int
def kQ (m : Nat) (y : XK) : Prop := 0 ≤ y.i ∧ y.i ≤ m
def kM (m : Nat) (y : XK) : Nat := m - y.i.toNat
noncomputable def kI (n : List Int) (l tb : List E) (a k : Int) (y : XK) : St := stOf Try.f7.ntmps [(1, .val (.int .i64 a)), (2, .ptr 1 0), (5, .val (.int .i64 k)), (9, .sl none (.recs (.int .i64 (.int .i64 .nil)) tb)), (11, .val (.int .i64 y.i))] [(1, .cells 25 [.sl none (.ints .i64 n), .sl none (.recs (.int .i64 (.int .i64 (.int .i64 (.int .i64 (.bool .nil))))) l)])] [Any, Any]
def kR (st : St) : XK := ⟨slotI st 11⟩
theorem k_step {n : List Int} {l : List E} {a : Int} (h : tfE n l a a = 0) {i : Int} (hq : kQ (tbB n l a).length ⟨i⟩) : 0 ≤ i ∧ i ≤ (tbB n l a).length ∧ (i < (tbB n l a).length → stdBin .add .i64 i 1 = i + 1 ∧ kQ (tbB n l a).length ⟨i + 1⟩ ∧ kM (tbB n l a).length ⟨i + 1⟩ < kM (tbB n l a).length ⟨i⟩ ∧ tfE n l (ri ((tbB n l a).getD i.toNat []) 0) (ri ((tbB n l a).getD i.toNat []) 0) = 0 ∧ ldN n l (ri ((tbB n l a).getD i.toNat []) 0) = ldN n l a ∧ ldN n l a ≤ ri ((tbB n l a).getD i.toNat []) 0 ∧ ¬ ri ((tbB n l a).getD i.toNat []) 0 = a) := by
  obtain ⟨h0, h1⟩ := hq
  simp only at h0 h1
  obtain ⟨_, _, _, g, le⟩ := leads_ok h
  refine ⟨h0, h1, fun k => ?_⟩
  obtain ⟨g1, g2, g3, g4⟩ := g i.toNat (by omega)
  exact ⟨by rw [b_add, wr _ (by omega) (by omega)], ⟨by simp only; omega, by simp only; omega⟩, by simp only [kM]; omega, g1, g2, g3, g4⟩
set_option maxHeartbeats 4000000 in
set_option cbv.maxSteps 4000000 in
set_option maxRecDepth 100000 in
theorem x_law (a0 : E) (a1 : Int) (_ : sized [.agg (shCells Ar.std (.ints .i64 (.recs (.int .i64 (.int .i64 (.int .i64 (.int .i64 (.bool .nil))))) .nil)) a0 0 2), .one (.val (.int .i64 a1))]) : Does [(9, c_olight Ro.std), (16, c_ocheck Ro.std), (13, c_leader Ro.std), (15, c_table RoU.Ru.std), (10, c_oawake Ro.std)] Try.f7 [.agg (shCells Ar.std (.ints .i64 (.recs (.int .i64 (.int .i64 (.int .i64 (.int .i64 (.bool .nil))))) .nil)) a0 0 2), .one (.val (.int .i64 a1))] [] ⟨True, .sa (B true), [], [Any, Any]⟩ := by
  intro b gv
  have f1 : okV (rl a0 0) (rr a0 1) = true → (rl a0 0).length ≤ 70 ∧ (rr a0 1).length ≤ 60 := fun h => of_decide_eq_true h
  have f2 := fun h => leads_ok (n := (rl a0 0)) (l := (rr a0 1)) (a := a1) h
  have hfs := (FsOk.cons ok_olight (FsOk.cons ok_ocheck (FsOk.cons ok_leader (FsOk.cons ok_table (FsOk.cons ok_oawake FsOk.nil rfl) rfl) rfl) rfl) rfl)
  generalize hF : RoR.Ro.std = F at hfs ⊢
  generalize hG0 : RoU.Ru.std = G0 at hfs ⊢
  generalize hA : Ar.std = A
  generalize hL : Lp _ _ _ = L
  obtain ⟨Z, zq⟩ := z_all
  refine cd_open (lp_mono hL) zq rfl ?_
  repeat' (first
    | (refine z_open zq ?_; try dsimp only)
    | refine cd_seq zq ?_ (lp_mono hL)
    | refine cd_blk zq ?_
    | refine cd_ret ?_
    | refine cd_skip ?_
    | refine cd_exit ?_
    | refine cd_loop ?_
    | refine cd_cond rfl ?_
    | refine cd_condT rfl ?_
    | refine cd_condF rfl ?_
    | (refine Cd.mk ?_; cbv)
    | (refine Ends1.mk ?_; cbv)
    | (refine Fin1.mk ?_; cbv)
    | exact trivial
    | refine And.intro ?_ ?_
    | refine orf fun _ => ?_
    | refine ort fun _ => ?_)
  all_goals first | (show L _ _ _; skip) | (clear hL hfs zq Z; subst hA hF hG0; simp only [RoR.Ro.std, RoU.Ru.std, Ar.std] at * <;> grind [stdCmp]; done)
  rename_i hx1 hx2
  have hr : okV (rl a0 0) (rr a0 1) = true ∧ tfE (rl a0 0) (rr a0 1) a1 a1 = 0 := by
    clear hL hfs zq Z
    subst hA hF hG0
    simp only [RoR.Ro.std, RoU.Ru.std, Ar.std] at *
    grind [stdCmp]
  clear hx1 hx2
  obtain ⟨r1, r2, r3, r4, r5⟩ := f2 hr.2
  clear f1 f2 r4
  have hr0 := hr.1
  have hr1 := hr.2
  subst hL
  refine loop_z (cx_ok hfs) (kQ (tbB (rl a0 0) (rr a0 1) a1).length) (kI (A.rl a0 0) (A.rr a0 1) (G0.u_tb (A.rl a0 0) (A.rr a0 1) a1) a1 (F.o_ldN (A.rl a0 0) (A.rr a0 1) a1)) (kM (tbB (rl a0 0) (rr a0 1) a1).length) kR ⟨0⟩ ?_ ?_ ?_
  · exact ⟨Int.le_refl 0, Int.natCast_nonneg _⟩
  · cbv
    repeat' (first | exact trivial | exact rfl | refine And.intro ?_ ?_)
  rintro ⟨i⟩ hq O hO
  have hst := k_step hr.2 hq
  subst hA
  generalize hA : Ar.std = A
  generalize hL : Lp _ _ _ = L
  refine cd_close zq ?_
  repeat' (first
    | (refine z_open zq ?_; try dsimp only)
    | refine cd_seq zq ?_ (lp_mono hL)
    | refine cd_blk zq ?_
    | refine cd_ret ?_
    | refine cd_skip ?_
    | refine cd_exit ?_
    | refine cd_loop ?_
    | refine cd_cond rfl ?_
    | refine cd_condT rfl ?_
    | refine cd_condF rfl ?_
    | (refine Cd.mk ?_; cbv)
    | (refine Ends1.mk ?_; cbv)
    | (refine Fin1.mk ?_; cbv)
    | exact trivial
    | refine And.intro ?_ ?_
    | refine orf fun _ => ?_
    | refine ort fun _ => ?_)
  all_goals (clear hL hfs zq Z hq hr; subst hA hF hG0 hO; simp only [RoR.Ro.std, RoU.Ru.std, Ar.std] at * <;> grind [stdCmp])
theorem walk (a0 : E) (a1 : Int) (v0 : Value) (w : World) (r0 : (SA.agg (shCells Ar.std (.ints .i64 (.recs (.int .i64 (.int .i64 (.int .i64 (.int .i64 (.bool .nil))))) .nil)) a0 0 2)).is (G0 w) v0) (_ : wfS (.ints .i64 (.recs (.int .i64 (.int .i64 (.int .i64 (.int .i64 (.bool .nil))))) .nil)) a0 0) (_ : (Lit.int .i64 a1).wf = true) : Calls Try.prog 7 #[v0, .int .i64 a1] w (Law.Yes w) :=
  yes_of (FsOk.cons ok_olight (FsOk.cons ok_ocheck (FsOk.cons ok_leader (FsOk.cons ok_table (FsOk.cons ok_oawake FsOk.nil rfl) rfl) rfl) rfl) rfl) Try.func7 rfl (vs := [v0, .int .i64 a1]) (by exact ⟨r0, rfl, trivial⟩) (lee_le rfl) fun hZ => x_law a0 a1 hZ
theorem own : ownKnob Try.prog.godebug = none := by kernel_rfl
theorem laidOut : laidOutB Try.prog = true := by kernel_rfl
set_option maxRecDepth 100000 in
theorem lifted (os : Os) (started : os.Started) (H : Type) (enc : TypeId × Value → H) :
    ReturnsInHanded {} Try.checked os 7 .any (Rows.routeLeadsSpec.pre6 enc Try.prog Try.f7 Rows.routeLeadsRow.domain false) (Rows.routeLeadsSpec.post enc Try.prog Try.f7 false true false false) := by
  refine returnsInHanded_of_change_sized (C := Try.checked) own started (by kernel_rfl) Try.func7
    (ChangeSpec.witness6 (enc := enc) (C := Try.checked) false ⟨#[], #[.agg #[.slice none 0 0, .slice none 0 0], .int .i64 0], []⟩ 8 (by kernel_rfl) (by kernel_rfl) (by kernel_rfl) (by kernel_rfl)) ?_
  intro W base args ds gs before hval0 hW _ hz _
  have hval : ∀ (j : Nat) t v, Try.f7.params[j]? = some t → args[j]? = some v → Value.okWide Try.prog W .any base t v := hval0
  have hW' := hW
  obtain ⟨p, q, hA0, hV, rfl, _, _⟩ := hW
  have hA : DataW.TrodAll enc Try.prog W 0 (fun _ => true) true Try.f7.params.toList args.toList ds p := hA0
  rw [Try.params7] at hA hval
  obtain ⟨v0, v1, d0, d1, p0, p1, rfl, rfl, rfl, h0, h1⟩ := trodAll_two hA
  obtain ⟨rfl, rfl⟩ := trodVars_none hV
  obtain ⟨a0, r0, w0⟩ := agg_any (s := .ints .i64 (.recs (.int .i64 (.int .i64 (.int .i64 (.int .i64 (.bool .nil))))) .nil)) (by rw [Try.underlying25]) (by kernel_rfl) (by kernel_rfl) (hval 0 25 v0 rfl rfl) h0
  obtain ⟨a1, rfl, rfl, rfl, w1⟩ := open_int Try.underlying3 (hval 1 3 v1 rfl rfl) h1
  refine (walk a0 a1 v0 W r0 w0 w1).mono fun e W' ⟨he, hb⟩ => ?_
  subst he
  exact ⟨_, rfl, law_post laidOut (by kernel_rfl) (by kernel_rfl) Try.underlying4 rfl hW' rfl hb⟩
theorem proved : Rows.RouteLeadsSaid :=
  OpenClaim.holds_of_wide 7 Try.f7 rfl rfl rfl rfl rfl rfl rfl ⟨rfl, rfl, rfl, rfl, rfl⟩ rfl rfl rfl rfl rfl (by kernel_rfl) Try.func7 (by kernel_rfl)
    (of_decide_eq_true (by kernel_rfl)) (by unfold Func.isWrapper; first | (rw [if_pos (by decide +kernel)]; kernel_rfl) | (rw [if_neg (by decide +kernel)]; exact ⟨rfl, rfl⟩))
    (fun os started H enc _ => lifted os started H enc)
end Go.Proofs.Ytodglgdenjjjgaa.RouteLeads
