/-
  JoinNobody: for every input the call tells true, and nothing that was there turns. No condition.
-/
import Derived.Test.YtgfficaonampbaaRows
import Derived.Test.YtgfficaonampbaaLaw
import Derived.Test.YtgfficaonampbaaRyIn
import Derived.Test.YtgfficaonampbaaRyZ
import Derived.Test.YtgfficaonampbaaJoN
namespace Go.Proofs.Ytgfficaonampbaa.JoinNobody
open Go Go.Proofs.Ytgfficaonampbaa.Ry Go.Proofs.Ytgfficaonampbaa.Law Go.Proofs.Ytgfficaonampbaa.JoN
open Go.ChangeShapes Go.WideShapes Go.ChangeAt Go.Joins Go.RowKit
structure XB where
  i : Int
def noQ (y : XB) : Prop := 0 ≤ y.i ∧ y.i ≤ 2
noncomputable def noI (a b : Int) (y : XB) : St := stOf Try.f5.ntmps [(0, .val (.int .i64 a)), (1, .val (.int .i64 b)), (5, .val (.int .i64 y.i))] [] [Any, Any]
def noM (y : XB) : Nat := (2 - y.i).toNat
def noR (st : St) : XB := ⟨slotI st 5⟩
set_option maxHeartbeats 2000000 in
set_option maxRecDepth 100000 in
theorem x_law (a0 : Int) (a1 : Int) (_ : sized [.one (.val (.int .i64 a0)), .one (.val (.int .i64 a1))]) : Does [(19, c_unite_ne Ns.std), (keepKey 19, noCon), (26, c_same_ne Ns.std), (keepKey 26, noCon), (18, c_least_ne Ns.std), (keepKey 18, noCon), (17, c_sets_ne Ns.std), (keepKey 17, noCon), (24, c_sizef_ne Ns.std), (keepKey 24, noCon), (16, c_awake Ns.std)] Try.f5 [.one (.val (.int .i64 a0)), .one (.val (.int .i64 a1))] [] ⟨True, .sa (B true), [], [Any, Any]⟩ := by
  intro b gv
  have hfs := (FsOk.keeps ok_unite_ne kp_unite_ne (FsOk.keeps ok_same_ne kp_same_ne (FsOk.keeps ok_least_ne kp_least_ne (FsOk.keeps ok_sets_ne kp_sets_ne (FsOk.keeps ok_sizef_ne kp_sizef_ne (FsOk.cons ok_awake FsOk.nil rfl))))))
  generalize hF : Ns.std = F at hfs ⊢
  generalize hA : Ar.std = A
  generalize hL : Lp _ _ _ = L
  obtain ⟨Z, zq⟩ := z_all
  refine cd_open (lp_mono hL) zq rfl ?_
  repeat' (first
    | (refine z_open zq ?_; try dsimp only)
    | refine cd_seq zq ?_ (lp_mono hL)
    | refine cd_blk zq ?_
    | refine cd_ret ?_
    | refine cd_skip ?_
    | refine cd_exit ?_
    | refine cd_loop ?_
    | refine cd_cond rfl ?_
    | refine cd_condT rfl ?_
    | refine cd_condF rfl ?_
    | (refine Cd.mk ?_; cbv)
    | (refine Ends1.mk ?_; cbv)
    | (refine Fin1.mk ?_; cbv)
    | exact trivial
    | refine And.intro ?_ ?_
    | refine orf fun _ => ?_
    | refine ort fun _ => ?_)
  all_goals first | (show L _ _ _; skip) | (clear hfs hL zq Z; subst hA hF; grind [stdCmp, Ar.std]; done)
  subst hL
  refine loop_z (cx_ok hfs) noQ (noI a0 a1) noM noR ⟨0⟩ ?_ ?_ ?_
  · exact ⟨Int.le_refl 0, show (0 : Int) ≤ 2 by decide⟩
  · cbv
    repeat' (first | exact trivial | exact rfl | refine And.intro ?_ ?_)
  rintro ⟨i⟩ ⟨q0, q1⟩ O hO
  dsimp only at q0 q1
  subst hA
  generalize hA : Ar.std = A
  generalize hL : Lp _ _ _ = L
  refine cd_close zq ?_
  repeat' (first
    | (refine z_open zq ?_; try dsimp only)
    | refine cd_seq zq ?_ (lp_mono hL)
    | refine cd_blk zq ?_
    | refine cd_ret ?_
    | refine cd_skip ?_
    | refine cd_exit ?_
    | refine cd_loop ?_
    | refine cd_cond rfl ?_
    | refine cd_condT rfl ?_
    | refine cd_condF rfl ?_
    | (refine Cd.mk ?_; cbv)
    | (refine Ends1.mk ?_; cbv)
    | (refine Fin1.mk ?_; cbv)
    | exact trivial
    | refine And.intro ?_ ?_
    | refine orf fun _ => ?_
    | refine ort fun _ => ?_)
  all_goals (clear hL hfs zq Z; subst hA hF hO; simp only [Ar.std] at * <;> grind [stdCmp, b_add, wr, noQ, noM])
theorem walk (a0 : Int) (a1 : Int) (w : World) (_ : (Lit.int .i64 a0).wf = true) (_ : (Lit.int .i64 a1).wf = true) : Calls Try.prog 5 #[.int .i64 a0, .int .i64 a1] w (Law.Yes w) :=
  yes_of (FsOk.keeps ok_unite_ne kp_unite_ne (FsOk.keeps ok_same_ne kp_same_ne (FsOk.keeps ok_least_ne kp_least_ne (FsOk.keeps ok_sets_ne kp_sets_ne (FsOk.keeps ok_sizef_ne kp_sizef_ne (FsOk.cons ok_awake FsOk.nil rfl)))))) Try.func5 rfl (vs := [.int .i64 a0, .int .i64 a1]) (by exact ⟨rfl, rfl, trivial⟩) (lee_le rfl) fun hZ => x_law a0 a1 hZ
theorem own : ownKnob Try.prog.godebug = none := by kernel_rfl
theorem laidOut : laidOutB Try.prog = true := by kernel_rfl
set_option maxRecDepth 100000 in
theorem lifted (os : Os) (started : os.Started) (H : Type) (enc : TypeId × Value → H) :
    ReturnsInHanded {} Try.checked os 5 .any (Rows.joinNobodySpec.pre6 enc Try.prog Try.f5 Rows.joinNobodyRow.domain false) (Rows.joinNobodySpec.post enc Try.prog Try.f5 false true false false) := by
  refine returnsInHanded_of_change_sized (C := Try.checked) own started (by kernel_rfl) Try.func5
    (ChangeSpec.witness6 (enc := enc) (C := Try.checked) false ⟨#[], #[.int .i64 0, .int .i64 0], []⟩ 8 (by kernel_rfl) (by kernel_rfl) (by kernel_rfl) (by kernel_rfl)) ?_
  intro W base args ds gs before hval0 hW _ hz _
  have hval : ∀ (j : Nat) t v, Try.f5.params[j]? = some t → args[j]? = some v → Value.okWide Try.prog W .any base t v := hval0
  have hW' := hW
  obtain ⟨p, q, hA0, hV, rfl, _, _⟩ := hW
  have hA : DataW.TrodAll enc Try.prog W 0 (fun _ => true) true Try.f5.params.toList args.toList ds p := hA0
  rw [Try.params5] at hA hval
  obtain ⟨v0, v1, d0, d1, p0, p1, rfl, rfl, rfl, h0, h1⟩ := trodAll_two hA
  obtain ⟨rfl, rfl⟩ := trodVars_none hV
  obtain ⟨a0, rfl, rfl, rfl, w0⟩ := open_int Try.underlying3 (hval 0 3 v0 rfl rfl) h0
  obtain ⟨a1, rfl, rfl, rfl, w1⟩ := open_int Try.underlying3 (hval 1 3 v1 rfl rfl) h1
  refine (walk a0 a1 W w0 w1).mono fun e W' ⟨he, hb⟩ => ?_
  subst he
  exact ⟨_, rfl, law_post laidOut (by kernel_rfl) (by kernel_rfl) Try.underlying4 rfl hW' rfl hb⟩
theorem proved : Rows.JoinNobodySaid :=
  OpenClaim.holds_of_wide 5 Try.f5 rfl rfl rfl rfl rfl rfl rfl ⟨rfl, rfl, rfl, rfl, rfl⟩ rfl rfl rfl rfl rfl (by kernel_rfl) Try.func5 (by kernel_rfl)
    (of_decide_eq_true (by kernel_rfl)) (by unfold Func.isWrapper; first | (rw [if_pos (by decide +kernel)]; kernel_rfl) | (rw [if_neg (by decide +kernel)]; exact ⟨rfl, rfl⟩))
    (fun os started H enc _ => lifted os started H enc)
end Go.Proofs.Ytgfficaonampbaa.JoinNobody
