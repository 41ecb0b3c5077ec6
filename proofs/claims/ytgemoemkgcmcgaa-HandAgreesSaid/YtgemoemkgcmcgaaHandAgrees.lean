/-
  HandAgrees: for every input the call tells true, and nothing that was there turns. No condition.
-/
import Derived.Test.YtgemoemkgcmcgaaRows
import Derived.Test.YtgemoemkgcmcgaaLaw
import Derived.Test.YtgemoemkgcmcgaaRyIn
import Derived.Test.YtgemoemkgcmcgaaRyZ
import Derived.Test.YtgemoemkgcmcgaaRyOp
import Derived.Test.YtgemoemkgcmcgaaMeB
import Derived.Test.YtgemoemkgcmcgaaMeA
import Derived.Test.YtgemoemkgcmcgaaMeC
namespace Go.Proofs.Ytgemoemkgcmcgaa.HandAgrees
open Go Go.Proofs.Ytgemoemkgcmcgaa.Ry Go.Proofs.Ytgemoemkgcmcgaa.Law Go.Proofs.Ytgemoemkgcmcgaa.MeB Go.Proofs.Ytgemoemkgcmcgaa.MeA Go.Proofs.Ytgemoemkgcmcgaa.MeC Go.Proofs.Ytgemoemkgcmcgaa.HaR Go.Proofs.Ytgemoemkgcmcgaa.BwS Go.Proofs.Ytgemoemkgcmcgaa.MeR Go.Proofs.Ytgemoemkgcmcgaa.MeM Go.Proofs.Ytgemoemkgcmcgaa.MeQ Go.Proofs.Ytgemoemkgcmcgaa.MeT
open Go.ChangeShapes Go.WideShapes Go.ChangeAt Go.Joins Go.RowKit
open Go.Proofs.Ytgemoemkgcmcgaa.MeA Go.Proofs.Ytgemoemkgcmcgaa.MeC
set_option maxHeartbeats 4000000 in
set_option cbv.maxSteps 4000000 in
set_option maxRecDepth 100000 in
theorem x_law (a0 : Int) (a1 : List E) (_ : sized [.one (.val (.int .i64 a0)), .one (.sl none (.recs (.int .i64 (.int .i64 (.int .i64 (.int .i64 (.int .i64 .nil))))) a1))]) : Does [(28, c_meet MeM.Mm.std), (29, c_rlimit HaR.Fs.std), (30, c_hawake Mb.std), (31, c_rbegin Mb.std), (32, c_rdo MeQ.Mq.std)] Try.f7 [.one (.val (.int .i64 a0)), .one (.sl none (.recs (.int .i64 (.int .i64 (.int .i64 (.int .i64 (.int .i64 .nil))))) a1))] [] ⟨True, .sa (B true), [], [Any, Any]⟩ := by
  intro b gv
  have hfs := (FsOk.cons ok_meet (FsOk.cons ok_rlimit (FsOk.cons ok_hawake (FsOk.cons ok_rbegin (FsOk.cons ok_rdo FsOk.nil rfl) rfl) rfl) rfl) rfl)
  generalize hF : MeB.Mb.std = F at hfs ⊢
  generalize hG0 : HaR.Fs.std = G0 at hfs ⊢
  generalize hG1 : MeM.Mm.std = G1 at hfs ⊢
  generalize hG2 : MeQ.Mq.std = G2 at hfs ⊢
  generalize hA : Ar.std = A
  generalize hL : Lp _ _ _ = L
  obtain ⟨Z, zq⟩ := z_all
  refine cd_open (lp_mono hL) zq rfl ?_
  repeat' (first
    | (refine z_open zq ?_; try dsimp only)
    | refine cd_seq zq ?_ (lp_mono hL)
    | refine cd_blk zq ?_
    | refine cd_ret ?_
    | refine cd_skip ?_
    | refine cd_exit ?_
    | refine cd_loop ?_
    | refine cd_cond rfl ?_
    | refine cd_condT rfl ?_
    | refine cd_condF rfl ?_
    | (refine Cd.mk ?_; cbv)
    | (refine Ends1.mk ?_; cbv)
    | (refine Fin1.mk ?_; cbv)
    | exact trivial
    | refine And.intro ?_ ?_
    | refine orf fun _ => ?_
    | refine ort fun _ => ?_)
  all_goals first | (show L _ _ _; skip) | (clear hL hfs zq Z; subst hA hF hG0 hG1 hG2; simp only [HaR.Fs.std, Ar.std] at * <;> grind [stdCmp]; done)
  rename_i hx1 hx2
  have hin : limitB a0 = true ∧ a1.length ≤ 100 := by
    clear hfs hL zq Z
    subst hA hF hG0 hG1 hG2
    simp only [HaR.Fs.std, Ar.std] at *
    grind [stdCmp]
  clear hx1 hx2
  obtain ⟨hb, hl⟩ := hin
  subst hL
  refine loop_z (cx_ok hfs) (aQ a0 a1) (aI a0 a1) (aM a1) aR ⟨0, F.b_n a0⟩ ?_ ?_ ?_
  · subst hF; exact a_zero hb a1
  · cbv
    repeat' (first | exact trivial | exact rfl | refine And.intro ?_ ?_)
  rintro ⟨i, ⟨l0, c0, p0, o0, l1, c1, p1, o1, w0, w1⟩⟩ hqO O hO
  have hst := a_all hl hb hqO
  dsimp only at hst
  subst hA
  generalize hA : Ar.std = A
  generalize hL : Lp _ _ _ = L
  refine cd_close zq ?_
  repeat' (first
    | (refine z_open zq ?_; try dsimp only)
    | refine cd_seq zq ?_ (lp_mono hL)
    | refine cd_blk zq ?_
    | refine cd_ret ?_
    | refine cd_skip ?_
    | refine cd_exit ?_
    | refine cd_loop ?_
    | refine cd_cond rfl ?_
    | refine cd_condT rfl ?_
    | refine cd_condF rfl ?_
    | (refine Cd.mk ?_; cbv)
    | (refine Ends1.mk ?_; cbv)
    | (refine Fin1.mk ?_; cbv)
    | exact trivial
    | refine And.intro ?_ ?_
    | refine orf fun _ => ?_
    | refine ort fun _ => ?_)
  all_goals first | (show L _ _ _; skip) | (clear hL hfs zq Z hqO; subst hA hF hG0 hG1 hG2 hO; simp only [MeQ.Mq.std, Ar.std, List.nil_append] at * <;> grind [stdCmp]; done)
  have hi : ¬ i < a1.length := by
    rename_i hx
    clear hL hfs zq Z hqO
    subst hA hF hG0 hG1 hG2 hO
    simp only [Ar.std] at *
    grind [stdCmp]
  have hz := hst.2.2.2.2.2.2 hi
  clear hst hqO hO hi
  subst hL
  refine loop_z (cx_ok hfs) (bQ a0 a1) (bI a0 a1) bM bR ⟨0, A.bin .add .i64 (A.bin .add .i64 (A.lenE w0) (A.lenE w1)) 3, A.appE [] a1, ⟨l0, c0, p0, o0, l1, c1, p1, o1, w0, w1⟩⟩ ?_ ?_ ?_
  · (subst hA; have e := hz.1; have q := hz.2; rw [← e] at q; exact q)
  · cbv
    repeat' (first | exact trivial | exact rfl | refine And.intro ?_ ?_)
  rintro ⟨n, r, al, ⟨l0, c0, p0, o0, l1, c1, p1, o1, w0, w1⟩⟩ hqB B hB
  clear hz
  have hstB := b_all hb hqB
  dsimp only at hstB
  subst hA
  generalize hA : Ar.std = A
  generalize hL : Lp _ _ _ = L
  refine cd_close zq ?_
  repeat' (first
    | (refine z_open zq ?_; try dsimp only)
    | refine cd_seq zq ?_ (lp_mono hL)
    | refine cd_blk zq ?_
    | refine cd_ret ?_
    | refine cd_skip ?_
    | refine cd_exit ?_
    | refine cd_loop ?_
    | refine cd_cond rfl ?_
    | refine cd_condT rfl ?_
    | refine cd_condF rfl ?_
    | (refine Cd.mk ?_; cbv)
    | (refine Ends1.mk ?_; cbv)
    | (refine Fin1.mk ?_; cbv)
    | exact trivial
    | refine And.intro ?_ ?_
    | refine orf fun _ => ?_
    | refine ort fun _ => ?_)
  all_goals first | (show L _ _ _; skip) | (clear hL hfs zq Z hqB; subst hA hF hG0 hG1 hG2 hB; simp only [MeM.Mm.std, Ar.std] at * <;> grind [stdCmp]; done)
  have hi : n < r := by
    rename_i hx
    clear hL hfs zq Z hqB
    subst hA hF hG0 hG1 hG2 hB
    simp only [Ar.std] at *
    grind [stdCmp]
  have hz := hstB.2.1 hi
  clear hstB
  subst hL
  refine loop_z (cx_ok hfs) (cQ a0 a1 ⟨l0, c0, p0, o0, l1, c1, p1, o1, w0, w1⟩) (cI a0 a1 r n) cM cR ⟨1, al, ⟨l0, c0, p0, o0, l1, c1, p1, o1, w0, w1⟩⟩ ?_ ?_ ?_
  · exact hz
  · cbv
    repeat' (first | exact trivial | exact rfl | refine And.intro ?_ ?_)
  rintro ⟨s, bl, ⟨l0x, c0x, p0x, o0x, l1x, c1x, p1x, o1x, w0x, w1x⟩⟩ hqC C hC
  clear hz
  have hstC := c_all hl hb hqC
  dsimp only at hstC
  subst hA
  generalize hA : Ar.std = A
  generalize hL : Lp _ _ _ = L
  refine cd_close zq ?_
  repeat' (first
    | (refine z_open zq ?_; try dsimp only)
    | refine cd_seq zq ?_ (lp_mono hL)
    | refine cd_blk zq ?_
    | refine cd_ret ?_
    | refine cd_skip ?_
    | refine cd_exit ?_
    | refine cd_loop ?_
    | refine cd_cond rfl ?_
    | refine cd_condT rfl ?_
    | refine cd_condF rfl ?_
    | (refine Cd.mk ?_; cbv)
    | (refine Ends1.mk ?_; cbv)
    | (refine Fin1.mk ?_; cbv)
    | exact trivial
    | refine And.intro ?_ ?_
    | refine orf fun _ => ?_
    | refine ort fun _ => ?_)
  all_goals first | (show L _ _ _; skip) | (clear hL hfs zq Z hqB hqC; subst hA hF hG0 hG1 hG2 hB hC; simp only [MeQ.Mq.std, Ar.std, O3] at * <;> grind [stdCmp]; done)
  have hi2 : ¬ s ≤ 2 := by
    rename_i hx
    clear hL hfs zq Z hqB hqC
    subst hA hF hG0 hG1 hG2 hB hC
    simp only [Ar.std, O3] at *
    grind [stdCmp]
  have hz := hstC.2.2.2.2.2.2.2 hi2
  clear hstC
  subst hL
  refine loop_z (cx_ok hfs) (dQ a0 a1 ⟨l0, c0, p0, o0, l1, c1, p1, o1, w0, w1⟩) (dI a0 a1 r n) (dM a1) dR ⟨0, bl, ⟨l0x, c0x, p0x, o0x, l1x, c1x, p1x, o1x, w0x, w1x⟩⟩ ?_ ?_ ?_
  · exact hz
  · cbv
    repeat' (first | exact trivial | exact rfl | refine And.intro ?_ ?_)
  rintro ⟨k, cl, ⟨l0x, c0x, p0x, o0x, l1x, c1x, p1x, o1x, w0x, w1x⟩⟩ hqD D hD
  clear hz
  have hstD := d_all hl hb hqB hqD
  dsimp only at hstD
  simp only [O3] at hstD
  subst hA
  generalize hA : Ar.std = A
  generalize hL : Lp _ _ _ = L
  refine cd_close zq ?_
  repeat' (first
    | (refine z_open zq ?_; try dsimp only)
    | refine cd_seq zq ?_ (lp_mono hL)
    | refine cd_blk zq ?_
    | refine cd_ret ?_
    | refine cd_skip ?_
    | refine cd_exit ?_
    | refine cd_loop ?_
    | refine cd_cond rfl ?_
    | refine cd_condT rfl ?_
    | refine cd_condF rfl ?_
    | (refine Cd.mk ?_; cbv)
    | (refine Ends1.mk ?_; cbv)
    | (refine Fin1.mk ?_; cbv)
    | exact trivial
    | refine And.intro ?_ ?_
    | refine orf fun _ => ?_
    | refine ort fun _ => ?_)
  all_goals (clear hL hfs zq Z hqB hqC hqD; subst hA hF hG0 hG1 hG2 hB hC hD; simp only [MeQ.Mq.std, Ar.std] at * <;> grind [stdCmp]; done)
theorem walk (a0 : Int) (a1 : List E) (A1 : Option Addr) (n1 c1 : Nat) (w : World) (_ : (Lit.int .i64 a0).wf = true) (r1 : (SC.sl none (.recs (.int .i64 (.int .i64 (.int .i64 (.int .i64 (.int .i64 .nil))))) a1)).is (G0 w) (.slice A1 n1 c1)) (_ : ∀ y ∈ a1, wfS (.int .i64 (.int .i64 (.int .i64 (.int .i64 (.int .i64 .nil))))) y 0) (_ : a1.length ≤ 140737488355328) : Calls Try.prog 7 #[.int .i64 a0, .slice A1 n1 c1] w (Law.Yes w) :=
  yes_of (FsOk.cons ok_meet (FsOk.cons ok_rlimit (FsOk.cons ok_hawake (FsOk.cons ok_rbegin (FsOk.cons ok_rdo FsOk.nil rfl) rfl) rfl) rfl) rfl) Try.func7 rfl (vs := [.int .i64 a0, .slice A1 n1 c1]) (by exact ⟨rfl, r1, trivial⟩) (lee_le rfl) fun hZ => x_law a0 a1 hZ
theorem own : ownKnob Try.prog.godebug = none := by kernel_rfl
theorem laidOut : laidOutB Try.prog = true := by kernel_rfl
set_option maxRecDepth 100000 in
theorem lifted (os : Os) (started : os.Started) (H : Type) (enc : TypeId × Value → H) :
    ReturnsInHanded {} Try.checked os 7 .any (Rows.handAgreesSpec.pre6 enc Try.prog Try.f7 Rows.handAgreesRow.domain false) (Rows.handAgreesSpec.post enc Try.prog Try.f7 false true false false) := by
  refine returnsInHanded_of_change_sized (C := Try.checked) own started (by kernel_rfl) Try.func7
    (ChangeSpec.witness6 (enc := enc) (C := Try.checked) false ⟨#[], #[.int .i64 0, .slice none 0 0], []⟩ 8 (by kernel_rfl) (by kernel_rfl) (by kernel_rfl) (by kernel_rfl)) ?_
  intro W base args ds gs before hval0 hW _ hz _
  have hval : ∀ (j : Nat) t v, Try.f7.params[j]? = some t → args[j]? = some v → Value.okWide Try.prog W .any base t v := hval0
  have hW' := hW
  obtain ⟨p, q, hA0, hV, rfl, _, _⟩ := hW
  have hA : DataW.TrodAll enc Try.prog W 0 (fun _ => true) true Try.f7.params.toList args.toList ds p := hA0
  rw [Try.params7] at hA hval
  obtain ⟨v0, v1, d0, d1, p0, p1, rfl, rfl, rfl, h0, h1⟩ := trodAll_two hA
  obtain ⟨rfl, rfl⟩ := trodVars_none hV
  obtain ⟨a0, rfl, rfl, rfl, w0⟩ := open_int Try.underlying3 (hval 0 3 v0 rfl rfl) h0
  obtain ⟨A1, n1, c1, a1, rfl, l1, r1, w1⟩ := sl_any (s := .int .i64 (.int .i64 (.int .i64 (.int .i64 (.int .i64 .nil))))) Try.underlying23 (by kernel_rfl) (by kernel_rfl) (hval 1 23 v1 rfl rfl) h1
  have s1 : a1.length ≤ 140737488355328 := by rw [l1]; exact short_of Try.underlying23 (by decide +kernel) hz (j := 1) rfl rfl h1
  refine (walk a0 a1 A1 n1 c1 W w0 r1 w1 s1).mono fun e W' ⟨he, hb⟩ => ?_
  subst he
  exact ⟨_, rfl, law_post laidOut (by kernel_rfl) (by kernel_rfl) Try.underlying4 rfl hW' rfl hb⟩
theorem proved : Rows.HandAgreesSaid :=
  OpenClaim.holds_of_wide 7 Try.f7 rfl rfl rfl rfl rfl rfl rfl ⟨rfl, rfl, rfl, rfl, rfl⟩ rfl rfl rfl rfl rfl (by kernel_rfl) Try.func7 (by kernel_rfl)
    (of_decide_eq_true (by kernel_rfl)) (by unfold Func.isWrapper; first | (rw [if_pos (by decide +kernel)]; kernel_rfl) | (rw [if_neg (by decide +kernel)]; exact ⟨rfl, rfl⟩))
    (fun os started H enc _ => lifted os started H enc)
end Go.Proofs.Ytgemoemkgcmcgaa.HandAgrees
