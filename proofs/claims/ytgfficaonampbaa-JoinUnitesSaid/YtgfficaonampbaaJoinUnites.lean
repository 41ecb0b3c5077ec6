/-
  JoinUnites: for every input the call tells true, and nothing that was there turns. No condition.
-/
import Derived.Test.YtgfficaonampbaaRows
import Derived.Test.YtgfficaonampbaaLaw
import Derived.Test.YtgfficaonampbaaRyIn
import Derived.Test.YtgfficaonampbaaRyZ
import Derived.Test.YtgfficaonampbaaJoV
namespace Go.Proofs.Ytgfficaonampbaa.JoinUnites
open Go Go.Proofs.Ytgfficaonampbaa.Ry Go.Proofs.Ytgfficaonampbaa.Law Go.Proofs.Ytgfficaonampbaa.JoV Go.Proofs.Ytgfficaonampbaa.JoS Go.Proofs.Ytgfficaonampbaa.JoR Go.Proofs.Ytgfficaonampbaa.JoW Go.Proofs.Ytgfficaonampbaa.JoN Go.Proofs.Ytgfficaonampbaa.JoC Go.Proofs.Ytgfficaonampbaa.JoU
open Go.ChangeShapes Go.WideShapes Go.ChangeAt Go.Joins Go.RowKit
noncomputable def juI (l : List E) (a b : Int) (y : XU) : St := stOf Try.f3.ntmps [(1, .sl none (.recs (.int .i64 (.int .i64 .nil)) l)), (5, .ptr 4 0), (7, .ptr 1 0), (9, .sl none (.ints .i64 y.w)), (10, .val (.int .i64 y.i))] [(1, .cells 42 [.own 2, .own 3, .val (.int .i64 y.s)]), (2, .row 3 (.ints .i64 y.u)), (3, .row 3 (.ints .i64 y.z)), (4, .cells 23 [.val (.int .i64 a), .val (.int .i64 b)])] [Any, Any, Any]
def juR (st : St) : XU := ⟨slotI st 10, valI (cellC st 7 2), valL st.heap (cellC st 7 0), valL st.heap (cellC st 7 1), slotL st 9⟩
theorem vn_ok {n : Int} (h : vN n = true) : 0 ≤ n ∧ n ≤ 4096 := of_decide_eq_true h
set_option maxHeartbeats 8000000 in
set_option maxRecDepth 100000 in
theorem x_law (a0 : Int) (a1 : List E) (a2 : E) (hv : vN a0 = true) (_ : sized [.one (.val (.int .i64 a0)), .one (.sl none (.recs (.int .i64 (.int .i64 .nil)) a1)), .agg (shCells Ar.std (.int .i64 (.int .i64 .nil)) a2 0 2)]) : Does [(15, c_new Ns.std), (17, c_sets Fs.std), (keepKey 17, noCon), (18, c_least Fs.std), (19, c_unite Fs.std), (24, c_sizef Fs.std), (16, c_awake Ns.std), (26, c_same Qs.std), (20, c_rnew Qs.std), (23, c_rhas Qs.std), (21, c_runite Qs.std), (22, c_rsets Qs.std), (25, c_rsize Qs.std)] Try.f3 [.one (.val (.int .i64 a0)), .one (.sl none (.recs (.int .i64 (.int .i64 .nil)) a1)), .agg (shCells Ar.std (.int .i64 (.int .i64 .nil)) a2 0 2)] [] ⟨True, .sa (B true), [], [Any, Any, Any]⟩ := by
  intro b gv
  have hn := vn_ok hv
  have hbig := fun h => ju_big (n := a0) h hn.2
  have hfs := (FsOk.cons ok_new (FsOk.keeps ok_sets kp_sets (FsOk.cons ok_least (FsOk.cons ok_unite (FsOk.cons ok_sizef (FsOk.cons ok_awake (FsOk.cons ok_same (FsOk.cons ok_rnew (FsOk.cons ok_rhas (FsOk.cons ok_runite (FsOk.cons ok_rsets (FsOk.cons ok_rsize FsOk.nil rfl) rfl) rfl) rfl) rfl) rfl) rfl) rfl) rfl) rfl)) rfl)
  generalize hF : Qs.std = F at hfs ⊢
  generalize hG0 : Ns.std = G0 at hfs ⊢
  generalize hG1 : Fs.std = G1 at hfs ⊢
  generalize hA : Ar.std = A
  generalize hL : Lp _ _ _ = L
  obtain ⟨Z, zq⟩ := z_all
  refine cd_open (lp_mono hL) zq rfl ?_
  repeat' (first
    | (refine z_open zq ?_; try dsimp only)
    | refine cd_seq zq ?_ (lp_mono hL)
    | refine cd_blk zq ?_
    | refine cd_ret ?_
    | refine cd_skip ?_
    | refine cd_exit ?_
    | refine cd_loop ?_
    | refine cd_cond rfl ?_
    | refine cd_condT rfl ?_
    | refine cd_condF rfl ?_
    | (refine Cd.mk ?_; cbv)
    | (refine Ends1.mk ?_; cbv)
    | (refine Fin1.mk ?_; cbv)
    | exact trivial
    | refine And.intro ?_ ?_
    | refine orf fun _ => ?_
    | refine ort fun _ => ?_)
  all_goals first | (show L _ _ _; skip) | (clear hfs hL zq Z; subst hA hF hG0 hG1; simp only [Qs.std, Ns.std, Fs.std, Ar.std, ix_getD] at *; grind [stdCmp]; done)
  rename_i hx
  have h6 : a0 ≤ 60 := by
    clear hfs hL zq Z
    subst hA
    simp only [Ar.std] at hx
    grind [stdCmp]
  clear hx hbig
  subst hL
  refine loop_z (cx_ok hfs) (juQ a0 a1) (juI a1 (A.ri a2 0) (A.ri a2 1)) juM juR ⟨0, a0, G0.n_io a0, G0.n_on a0, F.q_io a0⟩ ?_ ?_ ?_
  · subst hG0 hF
    exact ju_zero a1 hn.1
  · cbv
    repeat' (first | exact trivial | exact rfl | refine And.intro ?_ ?_)
  rintro ⟨i, s, u, z, w⟩ hq O hO
  have hst := fun h h6 => ju_step ⟨hn.1, by assumption⟩ hq h h6
  have hen := ju_end ⟨hn.1, h6⟩ hq (ri a2 0) (ri a2 1)
  have q0 := hq.1
  have q1 := hq.2.1
  simp only [px, py] at hst
  dsimp only at q0 q1
  subst hA
  generalize hA : Ar.std = A
  generalize hL : Lp _ _ _ = L
  refine cd_close zq ?_
  repeat' (first
    | (refine z_open zq ?_; try dsimp only)
    | refine cd_seq zq ?_ (lp_mono hL)
    | refine cd_blk zq ?_
    | refine cd_ret ?_
    | refine cd_skip ?_
    | refine cd_exit ?_
    | refine cd_loop ?_
    | refine cd_cond rfl ?_
    | refine cd_condT rfl ?_
    | refine cd_condF rfl ?_
    | (refine Cd.mk ?_; cbv)
    | (refine Ends1.mk ?_; cbv)
    | (refine Fin1.mk ?_; cbv)
    | exact trivial
    | refine And.intro ?_ ?_
    | refine orf fun _ => ?_
    | refine ort fun _ => ?_)
  all_goals (clear hL hfs zq Z hq; subst hA hF hG0 hG1 hO; simp only [Qs.std, Ns.std, Fs.std, Ar.std, ix_getD] at * <;> grind [stdCmp])
set_option maxHeartbeats 8000000 in
set_option maxRecDepth 100000 in
theorem x_bad (a0 : Int) (a1 : List E) (a2 : E) (hv : vN a0 = false) (_ : sized [.one (.val (.int .i64 a0)), .one (.sl none (.recs (.int .i64 (.int .i64 .nil)) a1)), .agg (shCells Ar.std (.int .i64 (.int .i64 .nil)) a2 0 2)]) : Does [(15, c_newbad Qs.std), (17, c_sets Fs.std), (keepKey 17, noCon), (18, c_least Fs.std), (19, c_unite Fs.std), (24, c_sizef Fs.std), (16, c_awake Ns.std), (26, c_same Qs.std), (20, c_rnew Qs.std), (23, c_rhas Qs.std), (21, c_runite Qs.std), (22, c_rsets Qs.std), (25, c_rsize Qs.std)] Try.f3 [.one (.val (.int .i64 a0)), .one (.sl none (.recs (.int .i64 (.int .i64 .nil)) a1)), .agg (shCells Ar.std (.int .i64 (.int .i64 .nil)) a2 0 2)] [] ⟨True, .sa (B true), [], [Any, Any, Any]⟩ := by
  intro b gv
  have hfs := (FsOk.cons ok_newbad (FsOk.keeps ok_sets kp_sets (FsOk.cons ok_least (FsOk.cons ok_unite (FsOk.cons ok_sizef (FsOk.cons ok_awake (FsOk.cons ok_same (FsOk.cons ok_rnew (FsOk.cons ok_rhas (FsOk.cons ok_runite (FsOk.cons ok_rsets (FsOk.cons ok_rsize FsOk.nil rfl) rfl) rfl) rfl) rfl) rfl) rfl) rfl) rfl) rfl)) rfl)
  generalize hF : Qs.std = F at hfs ⊢
  generalize hG0 : Ns.std = G0 at hfs ⊢
  generalize hG1 : Fs.std = G1 at hfs ⊢
  generalize hA : Ar.std = A
  generalize hL : Lp _ _ _ = L
  obtain ⟨Z, zq⟩ := z_all
  refine cd_open (lp_mono hL) zq rfl ?_
  repeat' (first
    | (refine z_open zq ?_; try dsimp only)
    | refine cd_seq zq ?_ (lp_mono hL)
    | refine cd_blk zq ?_
    | refine cd_ret ?_
    | refine cd_skip ?_
    | refine cd_exit ?_
    | refine cd_loop ?_
    | refine cd_cond rfl ?_
    | refine cd_condT rfl ?_
    | refine cd_condF rfl ?_
    | (refine Cd.mk ?_; cbv)
    | (refine Ends1.mk ?_; cbv)
    | (refine Fin1.mk ?_; cbv)
    | exact trivial
    | refine And.intro ?_ ?_
    | refine orf fun _ => ?_
    | refine ort fun _ => ?_)
  all_goals first | (show L _ _ _; exfalso; clear hfs hL zq Z; subst hA hF hG0 hG1; simp only [Qs.std, Ns.std, Fs.std, Ar.std, ix_getD] at *; grind [stdCmp, vN]) | (clear hfs hL zq Z; subst hA hF hG0 hG1; simp only [Qs.std, Ns.std, Fs.std, Ar.std, ix_getD] at *; grind [stdCmp, vN]; done)
theorem walk (a0 : Int) (a1 : List E) (a2 : E) (A1 : Option Addr) (n1 c1 : Nat) (v2 : Value) (w : World) (_ : (Lit.int .i64 a0).wf = true) (r1 : (SC.sl none (.recs (.int .i64 (.int .i64 .nil)) a1)).is (G0 w) (.slice A1 n1 c1)) (_ : ∀ y ∈ a1, wfS (.int .i64 (.int .i64 .nil)) y 0) (_ : a1.length ≤ 140737488355328) (r2 : (SA.agg (shCells Ar.std (.int .i64 (.int .i64 .nil)) a2 0 2)).is (G0 w) v2) (_ : wfS (.int .i64 (.int .i64 .nil)) a2 0) : Calls Try.prog 3 #[.int .i64 a0, .slice A1 n1 c1, v2] w (Law.Yes w) := by
  cases hv : vN a0 with
  | true => exact yes_of (FsOk.cons ok_new (FsOk.keeps ok_sets kp_sets (FsOk.cons ok_least (FsOk.cons ok_unite (FsOk.cons ok_sizef (FsOk.cons ok_awake (FsOk.cons ok_same (FsOk.cons ok_rnew (FsOk.cons ok_rhas (FsOk.cons ok_runite (FsOk.cons ok_rsets (FsOk.cons ok_rsize FsOk.nil rfl) rfl) rfl) rfl) rfl) rfl) rfl) rfl) rfl) rfl)) rfl) Try.func3 rfl (vs := [.int .i64 a0, .slice A1 n1 c1, v2]) (by exact ⟨rfl, r1, r2, trivial⟩) (lee_le rfl) fun hZ => x_law a0 a1 a2 hv hZ
  | false => exact yes_of (FsOk.cons ok_newbad (FsOk.keeps ok_sets kp_sets (FsOk.cons ok_least (FsOk.cons ok_unite (FsOk.cons ok_sizef (FsOk.cons ok_awake (FsOk.cons ok_same (FsOk.cons ok_rnew (FsOk.cons ok_rhas (FsOk.cons ok_runite (FsOk.cons ok_rsets (FsOk.cons ok_rsize FsOk.nil rfl) rfl) rfl) rfl) rfl) rfl) rfl) rfl) rfl) rfl)) rfl) Try.func3 rfl (vs := [.int .i64 a0, .slice A1 n1 c1, v2]) (by exact ⟨rfl, r1, r2, trivial⟩) (lee_le rfl) fun hZ => x_bad a0 a1 a2 hv hZ
theorem own : ownKnob Try.prog.godebug = none := by kernel_rfl
theorem laidOut : laidOutB Try.prog = true := by kernel_rfl
set_option maxRecDepth 100000 in
theorem lifted (os : Os) (started : os.Started) (H : Type) (enc : TypeId × Value → H) :
    ReturnsInHanded {} Try.checked os 3 .any (Rows.joinUnitesSpec.pre6 enc Try.prog Try.f3 Rows.joinUnitesRow.domain false) (Rows.joinUnitesSpec.post enc Try.prog Try.f3 false true false false) := by
  refine returnsInHanded_of_change_sized (C := Try.checked) own started (by kernel_rfl) Try.func3
    (ChangeSpec.witness6 (enc := enc) (C := Try.checked) false ⟨#[], #[.int .i64 0, .slice none 0 0, .agg #[.int .i64 0, .int .i64 0]], []⟩ 8 (by kernel_rfl) (by kernel_rfl) (by kernel_rfl) (by kernel_rfl)) ?_
  intro W base args ds gs before hval0 hW _ hz _
  have hval : ∀ (j : Nat) t v, Try.f3.params[j]? = some t → args[j]? = some v → Value.okWide Try.prog W .any base t v := hval0
  have hW' := hW
  obtain ⟨p, q, hA0, hV, rfl, _, _⟩ := hW
  have hA : DataW.TrodAll enc Try.prog W 0 (fun _ => true) true Try.f3.params.toList args.toList ds p := hA0
  rw [Try.params3] at hA hval
  obtain ⟨v0, v1, v2, d0, d1, d2, p0, p1, p2, rfl, rfl, rfl, h0, h1, h2⟩ := trodAll_three hA
  obtain ⟨rfl, rfl⟩ := trodVars_none hV
  obtain ⟨a0, rfl, rfl, rfl, w0⟩ := open_int Try.underlying3 (hval 0 3 v0 rfl rfl) h0
  obtain ⟨A1, n1, c1, a1, rfl, l1, r1, w1⟩ := sl_any (s := .int .i64 (.int .i64 .nil)) Try.underlying22 (by kernel_rfl) (by kernel_rfl) (hval 1 22 v1 rfl rfl) h1
  have s1 : a1.length ≤ 140737488355328 := by rw [l1]; exact short_of Try.underlying22 (by decide +kernel) hz (j := 1) rfl rfl h1
  obtain ⟨a2, r2, w2⟩ := agg_any (s := .int .i64 (.int .i64 .nil)) (by rw [Try.underlying23]) (by kernel_rfl) (by kernel_rfl) (hval 2 23 v2 rfl rfl) h2
  refine (walk a0 a1 a2 A1 n1 c1 v2 W w0 r1 w1 s1 r2 w2).mono fun e W' ⟨he, hb⟩ => ?_
  subst he
  exact ⟨_, rfl, law_post laidOut (by kernel_rfl) (by kernel_rfl) Try.underlying4 rfl hW' rfl hb⟩
theorem proved : Rows.JoinUnitesSaid :=
  OpenClaim.holds_of_wide 3 Try.f3 rfl rfl rfl rfl rfl rfl rfl ⟨rfl, rfl, rfl, rfl, rfl⟩ rfl rfl rfl rfl rfl (by kernel_rfl) Try.func3 (by kernel_rfl)
    (of_decide_eq_true (by kernel_rfl)) (by unfold Func.isWrapper; first | (rw [if_pos (by decide +kernel)]; kernel_rfl) | (rw [if_neg (by decide +kernel)]; exact ⟨rfl, rfl⟩))
    (fun os started H enc _ => lifted os started H enc)
end Go.Proofs.Ytgfficaonampbaa.JoinUnites
