/-
  TakeCarries: for every input the call tells true, and nothing that was there turns. No condition.
-/
import Derived.Test.YtgemoemkgcmcgaaRows
import Derived.Test.YtgemoemkgcmcgaaLaw
import Derived.Test.YtgemoemkgcmcgaaRyIn
import Derived.Test.YtgemoemkgcmcgaaRyZ
import Derived.Test.YtgemoemkgcmcgaaRyOp
import Derived.Test.YtgemoemkgcmcgaaTkB
namespace Go.Proofs.Ytgemoemkgcmcgaa.TakeCarries
open Go Go.Proofs.Ytgemoemkgcmcgaa.Ry Go.Proofs.Ytgemoemkgcmcgaa.Law Go.Proofs.Ytgemoemkgcmcgaa.TkB Go.Proofs.Ytgemoemkgcmcgaa.SeR Go.Proofs.Ytgemoemkgcmcgaa.SeS Go.Proofs.Ytgemoemkgcmcgaa.SeU Go.Proofs.Ytgemoemkgcmcgaa.SeL Go.Proofs.Ytgemoemkgcmcgaa.SeV Go.Proofs.Ytgemoemkgcmcgaa.TkR Go.Proofs.Ytgemoemkgcmcgaa.TkM Go.Proofs.Ytgemoemkgcmcgaa.TkQ Go.Proofs.Ytgemoemkgcmcgaa.TkT
open Go.ChangeShapes Go.WideShapes Go.ChangeAt Go.Joins Go.RowKit
structure XL where
  i : Int
  d : CR
def xQ (l w : List E) (y : XL) : Prop := 0 ≤ y.i ∧ y.i ≤ w.length ∧ y.d = runR l (w.take y.i.toNat) ∧ y.d.wy.length ≤ 400 ∧ y.d.bk.length ≤ 400
noncomputable def xI (G : TkM.Tm) (l w : List E) (y : XL) : St := stOf Try.f5.ntmps [(0, .sl none (.recs (.ints .u8 .nil) l)), (1, .sl none (.recs (.int .i64 (.int .i64 (.int .i64 (.int .i64 (.int .i64 .nil))))) w)), (5, .sl none (.recs (.ints .u8 .nil) (G.m_o l w))), (6, .val (.int .i64 (G.m_n l w))), (7, .val (.int .i64 (G.m_e l w))), (8, .ptr 1 0), (9, .val (.int .i64 y.i))] [(1, .cells 70 [.val (.int .i64 y.d.sb), .val (.int .i64 y.d.s), .sl none (.recs (.ints .u8 .nil) y.d.q), .val (.int .i64 y.d.c), .val (.int .i64 y.d.n), .val (.bool y.d.w), .sl none (.recs (.int .i64 (.ints .u8 .nil)) y.d.wy), .sl none (.ints .i64 y.d.bk), .sl none (.recs (.ints .u8 .nil) y.d.ou)])] [Any, Any]
def xM (w : List E) (y : XL) : Nat := w.length - y.i.toNat
def xR (st : St) : XL := ⟨slotI st 9, ⟨valI (cellC st 8 0), valI (cellC st 8 1), valR st.heap (cellC st 8 2), valI (cellC st 8 3), valI (cellC st 8 4), valB (cellC st 8 5), valR st.heap (cellC st 8 6), valL st.heap (cellC st 8 7), valR st.heap (cellC st 8 8)⟩⟩
theorem x_zero (l w : List E) : xQ l w ⟨0, c00 l⟩ := ⟨Int.le_refl 0, Int.natCast_nonneg _, rfl, Nat.zero_le _, Nat.zero_le _⟩
theorem x_all {l w : List E} (hs : smB l = true) (hw : w.length ≤ 1000) {i : Int} {d : CR} (hq : xQ l w ⟨i, d⟩) : 0 ≤ i ∧ i ≤ w.length ∧ d.wy.length ≤ 400 ∧ d.bk.length ≤ 400 ∧ okR ⟨d.sb, d.s, d.q, d.c, d.n, d.w, d.wy, d.bk, d.ou⟩ = true ∧ (i < w.length → stdBin .add .i64 i 1 = i + 1 ∧ (∀ e, xM w ⟨i + 1, e⟩ < xM w ⟨i, d⟩) ∧ ((doR (ri (w.getD i.toNat []) 0) (ri (w.getD i.toNat []) 1) (ri (w.getD i.toNat []) 3) d).wy.length ≤ 400 → (doR (ri (w.getD i.toNat []) 0) (ri (w.getD i.toNat []) 1) (ri (w.getD i.toNat []) 3) d).bk.length ≤ 400 → xQ l w ⟨i + 1, ⟨(doR (ri (w.getD i.toNat []) 0) (ri (w.getD i.toNat []) 1) (ri (w.getD i.toNat []) 3) d).sb, (doR (ri (w.getD i.toNat []) 0) (ri (w.getD i.toNat []) 1) (ri (w.getD i.toNat []) 3) d).s, (doR (ri (w.getD i.toNat []) 0) (ri (w.getD i.toNat []) 1) (ri (w.getD i.toNat []) 3) d).q, (doR (ri (w.getD i.toNat []) 0) (ri (w.getD i.toNat []) 1) (ri (w.getD i.toNat []) 3) d).c, (doR (ri (w.getD i.toNat []) 0) (ri (w.getD i.toNat []) 1) (ri (w.getD i.toNat []) 3) d).n, (doR (ri (w.getD i.toNat []) 0) (ri (w.getD i.toNat []) 1) (ri (w.getD i.toNat []) 3) d).w, (doR (ri (w.getD i.toNat []) 0) (ri (w.getD i.toNat []) 1) (ri (w.getD i.toNat []) 3) d).wy, (doR (ri (w.getD i.toNat []) 0) (ri (w.getD i.toNat []) 1) (ri (w.getD i.toNat []) 3) d).bk, (doR (ri (w.getD i.toNat []) 0) (ri (w.getD i.toNat []) 1) (ri (w.getD i.toNat []) 3) d).ou⟩⟩)) ∧ (¬ i < w.length → runR l w = d) := by
  obtain ⟨h0, h1, h2, h3, h4⟩ := hq
  simp only at h0 h1 h2 h3 h4
  have hp := (run_all hs w i.toNat (by omega)).2
  rw [← h2] at hp
  refine ⟨h0, h1, h3, h4, ok_p hp h3 h4, fun h => ⟨by rw [b_add, wr _ (by omega) (by omega)], fun e => by simp only [xM]; omega, fun g1 g2 => ⟨by simp only; omega, by simp only; omega, ?_, g1, g2⟩⟩, fun h => ?_⟩
  · have hn := runR_next l w i h0 h
    rw [← h2] at hn
    exact hn.symm
  · rw [List.take_of_length_le (by omega)] at h2
    exact h2.symm
theorem lg_or (l w : List E) : lgB l w = true ∨ smB l = false ∨ ¬ w.length ≤ 1000 := by
  unfold lgB
  by_cases h : w.length ≤ 1000
  · rw [decide_eq_true h]
    cases smB l
    · exact .inr (.inl rfl)
    · exact .inl rfl
  · exact .inr (.inr h)
theorem lg_two {l w : List E} (h : lgB l w = true) : smB l = true ∧ w.length ≤ 1000 := by
  unfold lgB at h
  simp only [Bool.and_eq_true, decide_eq_true_eq] at h
  exact h
set_option maxHeartbeats 4000000 in
set_option cbv.maxSteps 4000000 in
set_option maxRecDepth 100000 in
theorem x_law (a0 : List E) (a1 : List E) (s0 : a0.length ≤ 140737488355328) (_ : sized [.one (.sl none (.recs (.ints .u8 .nil) a0)), .one (.sl none (.recs (.int .i64 (.int .i64 (.int .i64 (.int .i64 (.int .i64 .nil))))) a1))]) : Does [(22, c_carry TkM.Tm.std), (26, c_rdo TkQ.Tq.std), (27, c_bytes Tb.std), (23, c_small Tb.std), (25, c_run Tb.std), (24, c_tawake Tb.std)] Try.f5 [.one (.sl none (.recs (.ints .u8 .nil) a0)), .one (.sl none (.recs (.int .i64 (.int .i64 (.int .i64 (.int .i64 (.int .i64 .nil))))) a1))] [] ⟨True, .sa (B true), [], [Any, Any]⟩ := by
  intro b gv
  have hfs := (FsOk.cons ok_carry (FsOk.cons ok_rdo (FsOk.cons ok_bytes (FsOk.cons ok_small (FsOk.cons ok_run (FsOk.cons ok_tawake FsOk.nil rfl) rfl) rfl) rfl) rfl) rfl)
  generalize hF : TkB.Tb.std = F at hfs ⊢
  generalize hG0 : TkM.Tm.std = G0 at hfs ⊢
  generalize hG1 : TkQ.Tq.std = G1 at hfs ⊢
  generalize hA : Ar.std = A
  generalize hL : Lp _ _ _ = L
  obtain ⟨Z, zq⟩ := z_all
  refine cd_open (lp_mono hL) zq rfl ?_
  repeat' (first
    | (refine z_open zq ?_; try dsimp only)
    | refine cd_seq zq ?_ (lp_mono hL)
    | refine cd_blk zq ?_
    | refine cd_ret ?_
    | refine cd_skip ?_
    | refine cd_exit ?_
    | refine cd_loop ?_
    | refine cd_cond rfl ?_
    | refine cd_condT rfl ?_
    | refine cd_condF rfl ?_
    | (refine Cd.mk ?_; cbv)
    | (refine Ends1.mk ?_; cbv)
    | (refine Fin1.mk ?_; cbv)
    | exact trivial
    | refine And.intro ?_ ?_
    | refine orf fun _ => ?_
    | refine ort fun _ => ?_)
  all_goals first | (show L _ _ _; skip) | (clear hL zq Z hfs; subst hA hF hG0 hG1; have hn := lg_not (l := a0) (w := a1); have hlg : lgB a0 a1 = true ∨ smB a0 = false ∨ ¬ a1.length ≤ 1000 := lg_or a0 a1; simp only [TkB.Tb.std, TkM.Tm.std, Ar.std] at * <;> grind [stdCmp]; done)
  rename_i hx
  have hin : smB a0 = true ∧ a1.length ≤ 1000 := by
    clear hfs hL zq Z
    subst hA hF hG0 hG1
    simp only [TkB.Tb.std, Ar.std] at *
    refine lg_two ?_
    grind [stdCmp]
  clear hx
  obtain ⟨hs, hw⟩ := hin
  subst hL
  refine loop_z (cx_ok hfs) (xQ a0 a1) (xI G0 a0 a1) (xM a1) xR ⟨0, F.y_c a0⟩ ?_ ?_ ?_
  · subst hF; exact x_zero a0 a1
  · cbv
    repeat' (first | exact trivial | exact rfl | refine And.intro ?_ ?_)
  rintro ⟨i, ⟨sb, s, q, c, n, w, wy, bk, ou⟩⟩ hqX X hX
  have hst := x_all hs hw hqX
  have hfa := fin_all hs hw
  dsimp only at hst
  subst hA
  generalize hA : Ar.std = A
  generalize hL : Lp _ _ _ = L
  refine cd_close zq ?_
  repeat' (first
    | (refine z_open zq ?_; try dsimp only)
    | refine cd_seq zq ?_ (lp_mono hL)
    | refine cd_blk zq ?_
    | refine cd_ret ?_
    | refine cd_skip ?_
    | refine cd_exit ?_
    | refine cd_loop ?_
    | refine cd_cond rfl ?_
    | refine cd_condT rfl ?_
    | refine cd_condF rfl ?_
    | (refine Cd.mk ?_; cbv)
    | (refine Ends1.mk ?_; cbv)
    | (refine Fin1.mk ?_; cbv)
    | exact trivial
    | refine And.intro ?_ ?_
    | refine orf fun _ => ?_
    | refine ort fun _ => ?_)
  all_goals (clear hL zq Z hfs hqX; subst hA hF hG0 hG1 hX; simp only [TkB.Tb.std, TkM.Tm.std, TkQ.Tq.std, Ar.std] at * <;> grind [stdCmp]; done)
theorem walk (a0 : List E) (a1 : List E) (A0 : Option Addr) (n0 c0 : Nat) (A1 : Option Addr) (n1 c1 : Nat) (w : World) (r0 : (SC.sl none (.recs (.ints .u8 .nil) a0)).is (G0 w) (.slice A0 n0 c0)) (_ : ∀ y ∈ a0, wfS (.ints .u8 .nil) y 0) (s0 : a0.length ≤ 140737488355328) (r1 : (SC.sl none (.recs (.int .i64 (.int .i64 (.int .i64 (.int .i64 (.int .i64 .nil))))) a1)).is (G0 w) (.slice A1 n1 c1)) (_ : ∀ y ∈ a1, wfS (.int .i64 (.int .i64 (.int .i64 (.int .i64 (.int .i64 .nil))))) y 0) (_ : a1.length ≤ 140737488355328) : Calls Try.prog 5 #[.slice A0 n0 c0, .slice A1 n1 c1] w (Law.Yes w) :=
  yes_of (FsOk.cons ok_carry (FsOk.cons ok_rdo (FsOk.cons ok_bytes (FsOk.cons ok_small (FsOk.cons ok_run (FsOk.cons ok_tawake FsOk.nil rfl) rfl) rfl) rfl) rfl) rfl) Try.func5 rfl (vs := [.slice A0 n0 c0, .slice A1 n1 c1]) (by exact ⟨r0, r1, trivial⟩) (lee_le rfl) fun hZ => x_law a0 a1 (s0) hZ
theorem own : ownKnob Try.prog.godebug = none := by kernel_rfl
theorem laidOut : laidOutB Try.prog = true := by kernel_rfl
set_option maxRecDepth 100000 in
theorem lifted (os : Os) (started : os.Started) (H : Type) (enc : TypeId × Value → H) :
    ReturnsInHanded {} Try.checked os 5 .any (Rows.takeCarriesSpec.pre6 enc Try.prog Try.f5 Rows.takeCarriesRow.domain false) (Rows.takeCarriesSpec.post enc Try.prog Try.f5 false true false false) := by
  refine returnsInHanded_of_change_sized (C := Try.checked) own started (by kernel_rfl) Try.func5
    (ChangeSpec.witness6 (enc := enc) (C := Try.checked) false ⟨#[], #[.slice none 0 0, .slice none 0 0], []⟩ 8 (by kernel_rfl) (by kernel_rfl) (by kernel_rfl) (by kernel_rfl)) ?_
  intro W base args ds gs before hval0 hW _ hz _
  have hval : ∀ (j : Nat) t v, Try.f5.params[j]? = some t → args[j]? = some v → Value.okWide Try.prog W .any base t v := hval0
  have hW' := hW
  obtain ⟨p, q, hA0, hV, rfl, _, _⟩ := hW
  have hA : DataW.TrodAll enc Try.prog W 0 (fun _ => true) true Try.f5.params.toList args.toList ds p := hA0
  rw [Try.params5] at hA hval
  obtain ⟨v0, v1, d0, d1, p0, p1, rfl, rfl, rfl, h0, h1⟩ := trodAll_two hA
  obtain ⟨rfl, rfl⟩ := trodVars_none hV
  obtain ⟨A0, n0, c0, a0, rfl, l0, r0, w0⟩ := sl_any (s := .ints .u8 .nil) Try.underlying22 (by kernel_rfl) (by kernel_rfl) (hval 0 22 v0 rfl rfl) h0
  have s0 : a0.length ≤ 140737488355328 := by rw [l0]; exact short_of Try.underlying22 (by decide +kernel) hz (j := 0) rfl rfl h0
  obtain ⟨A1, n1, c1, a1, rfl, l1, r1, w1⟩ := sl_any (s := .int .i64 (.int .i64 (.int .i64 (.int .i64 (.int .i64 .nil))))) Try.underlying23 (by kernel_rfl) (by kernel_rfl) (hval 1 23 v1 rfl rfl) h1
  have s1 : a1.length ≤ 140737488355328 := by rw [l1]; exact short_of Try.underlying23 (by decide +kernel) hz (j := 1) rfl rfl h1
  refine (walk a0 a1 A0 n0 c0 A1 n1 c1 W r0 w0 s0 r1 w1 s1).mono fun e W' ⟨he, hb⟩ => ?_
  subst he
  exact ⟨_, rfl, law_post laidOut (by kernel_rfl) (by kernel_rfl) Try.underlying4 rfl hW' rfl hb⟩
theorem proved : Rows.TakeCarriesSaid :=
  OpenClaim.holds_of_wide 5 Try.f5 rfl rfl rfl rfl rfl rfl rfl ⟨rfl, rfl, rfl, rfl, rfl⟩ rfl rfl rfl rfl rfl (by kernel_rfl) Try.func5 (by kernel_rfl)
    (of_decide_eq_true (by kernel_rfl)) (by unfold Func.isWrapper; first | (rw [if_pos (by decide +kernel)]; kernel_rfl) | (rw [if_neg (by decide +kernel)]; exact ⟨rfl, rfl⟩))
    (fun os started H enc _ => lifted os started H enc)
end Go.Proofs.Ytgemoemkgcmcgaa.TakeCarries
