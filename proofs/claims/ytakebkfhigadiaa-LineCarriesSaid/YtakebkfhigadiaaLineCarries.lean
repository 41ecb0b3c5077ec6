/-
  LineCarries: for every input the call tells true, and nothing that was there turns. No condition.
-/
import Derived.Test.YtakebkfhigadiaaRows
import Derived.Test.YtakebkfhigadiaaLaw
import Derived.Test.YtakebkfhigadiaaRyIn
import Derived.Test.YtakebkfhigadiaaRyZ
import Derived.Test.YtakebkfhigadiaaRyOp
import Derived.Test.YtakebkfhigadiaaLcB
import Derived.Test.YtakebkfhigadiaaLiS
namespace Go.Proofs.Ytakebkfhigadiaa.LineCarries
open Go Go.Proofs.Ytakebkfhigadiaa.Ry Go.Proofs.Ytakebkfhigadiaa.Law Go.Proofs.Ytakebkfhigadiaa.LcB Go.Proofs.Ytakebkfhigadiaa.LiS Go.Proofs.Ytakebkfhigadiaa.HaR Go.Proofs.Ytakebkfhigadiaa.LiR Go.Proofs.Ytakebkfhigadiaa.LcT Go.Proofs.Ytakebkfhigadiaa.LcP Go.Proofs.Ytakebkfhigadiaa.LcR Go.Proofs.Ytakebkfhigadiaa.LcA Go.Proofs.Ytakebkfhigadiaa.LcD
open Go.ChangeShapes Go.WideShapes Go.ChangeAt Go.Joins Go.RowKit
noncomputable def iI (G0 : LiR.Ks) (a0 a1 : List E) (y : LcB.XI) : St := stOf Try.f4.ntmps [(0, .sl none (.recs (.ints .u8 .nil) a0)), (1, .sl none (.recs (.int .i64 (.int .i64 (.int .i64 (.int .i64 (.int .i64 .nil))))) a1)), (5, .ptr 1 0), (6, .val (.int .i64 (G0.k_new 99).e)), (7, .val (.int .i64 y.i))] [(1, .cells 45 [.val (.int .i64 ((G0.k_new 99).x).l), .val (.int .i64 ((G0.k_new 99).x).c), .val (.int .i64 ((G0.k_new 99).x).p), .val (.bool ((G0.k_new 99).x).o), .val (.int .i64 ((G0.k_new 99).x).b), .val (.int .i64 ((G0.k_new 99).x).s), .sl none (.recs (.ints .u8 .nil) ((G0.k_new 99).x).q), .val (.int .i64 ((G0.k_new 99).x).t), .val (.int .i64 ((G0.k_new 99).x).n), .val (.bool ((G0.k_new 99).x).w)])] [Any, Any]
def iR (st : St) : LcB.XI := ⟨slotI st 7⟩
noncomputable def aI (G0 : LiR.Ks) (a0 a1 : List E) (y : LcB.XA) : St := stOf Try.f4.ntmps [(0, .sl none (.recs (.ints .u8 .nil) a0)), (1, .sl none (.recs (.int .i64 (.int .i64 (.int .i64 (.int .i64 (.int .i64 .nil))))) a1)), (5, .ptr 1 0), (6, .val (.int .i64 (G0.k_new 99).e)), (8, .ptr 2 0), (9, .val (.int .i64 y.i))] [(1, .cells 45 [.val (.int .i64 ((G0.k_new 99).x).l), .val (.int .i64 ((G0.k_new 99).x).c), .val (.int .i64 ((G0.k_new 99).x).p), .val (.bool ((G0.k_new 99).x).o), .val (.int .i64 ((G0.k_new 99).x).b), .val (.int .i64 ((G0.k_new 99).x).s), .sl none (.recs (.ints .u8 .nil) ((G0.k_new 99).x).q), .val (.int .i64 ((G0.k_new 99).x).t), .val (.int .i64 ((G0.k_new 99).x).n), .val (.bool ((G0.k_new 99).x).w)]), (2, .cells 55 [.val (.int .i64 y.s.a.l), .val (.int .i64 y.s.a.c), .val (.int .i64 y.s.a.p), .val (.bool y.s.a.o), .val (.int .i64 y.s.a.b), .val (.int .i64 y.s.a.s), .sl none (.recs (.ints .u8 .nil) y.s.a.q), .val (.int .i64 y.s.a.t), .val (.int .i64 y.s.a.n), .val (.bool y.s.a.w), .val (.int .i64 y.s.d.l), .val (.int .i64 y.s.d.c), .val (.int .i64 y.s.d.p), .val (.bool y.s.d.o), .val (.int .i64 y.s.d.b), .val (.int .i64 y.s.d.s), .sl none (.recs (.ints .u8 .nil) y.s.d.q), .val (.int .i64 y.s.d.t), .val (.int .i64 y.s.d.n), .val (.bool y.s.d.w), .sl (some (3, 84)) (.recs (.int .i64 (.int .i64 (.int .i64 (.int .i64 (.ints .u8 .nil))))) y.s.u), .sl (some (4, 84)) (.recs (.int .i64 (.int .i64 (.int .i64 (.int .i64 (.ints .u8 .nil))))) y.s.v), .mp 5, .mp 6, .val (.bool false)]), (3, .tok), (4, .tok), (5, .mp y.s.m), (6, .mp y.s.k)] [Any, Any]
def aR (st : St) : LcB.XA := ⟨slotI st 9, ⟨⟨valI (cellC st 8 0), valI (cellC st 8 1), valI (cellC st 8 2), valB (cellC st 8 3), valI (cellC st 8 4), valI (cellC st 8 5), valR st.heap (cellC st 8 6), valI (cellC st 8 7), valI (cellC st 8 8), valB (cellC st 8 9)⟩, ⟨valI (cellC st 8 10), valI (cellC st 8 11), valI (cellC st 8 12), valB (cellC st 8 13), valI (cellC st 8 14), valI (cellC st 8 15), valR st.heap (cellC st 8 16), valI (cellC st 8 17), valI (cellC st 8 18), valB (cellC st 8 19)⟩, valR st.heap (cellC st 8 20), valR st.heap (cellC st 8 21), slotM st 8 22, slotM st 8 23⟩⟩
set_option maxHeartbeats 4000000 in
set_option cbv.maxSteps 4000000 in
set_option maxRecDepth 100000 in
theorem x_law (a0 : List E) (a1 : List E) (w0 : ∀ y ∈ a0, wfS (.ints .u8 .nil) y 0) (_ : sized [.one (.sl none (.recs (.ints .u8 .nil) a0)), .one (.sl none (.recs (.int .i64 (.int .i64 (.int .i64 (.int .i64 (.int .i64 .nil))))) a1))]) : Does [(13, c_lnew LiR.Ks.std), (15, c_act LcB.Lb.std), (14, c_awake LiS.Is.std)] Try.f4 [.one (.sl none (.recs (.ints .u8 .nil) a0)), .one (.sl none (.recs (.int .i64 (.int .i64 (.int .i64 (.int .i64 (.int .i64 .nil))))) a1))] [] ⟨True, .sa (B true), [], [Any, Any]⟩ := by
  intro b gv
  have hfs := (FsOk.cons ok_lnew (FsOk.cons ok_act (FsOk.cons ok_awake FsOk.nil rfl) rfl) rfl)
  generalize hF : LcB.Lb.std = F at hfs ⊢
  generalize hG0 : LiR.Ks.std = G0 at hfs ⊢
  generalize hA : Ar.std = A
  generalize hL : Lp _ _ _ = L
  obtain ⟨Z, zq⟩ := z_all
  refine @cd_open _ _ _ _ _ _ _ (lp_mono hL) _ _ zq rfl ?_
  repeat' (first
    | (refine z_open zq ?_; try dsimp only)
    | refine cd_seq zq ?_ (lp_mono hL)
    | refine cd_blk zq ?_
    | refine cd_ret ?_
    | refine cd_skip ?_
    | refine cd_exit ?_
    | refine cd_loop ?_
    | refine cd_cond rfl ?_
    | refine cd_condT rfl ?_
    | refine cd_condF rfl ?_
    | (refine Cd.mk ?_; cbv)
    | (refine Ends1.mk ?_; cbv)
    | (refine Fin1.mk ?_; cbv)
    | exact trivial
    | refine And.intro ?_ ?_
    | refine orf fun _ => ?_
    | refine ort fun _ => ?_)
  have hn9 := new99
  all_goals first | (show L _ _ _; skip) | (clear hL zq Z hfs; subst hA hF hG0; simp only [LiR.Ks.std, Ar.std] at * <;> grind [stdCmp]; done)
  subst hL
  refine loop_z (cx_ok hfs) (iQ a0) (iI G0 a0 a1) ((iM a0)) iR ⟨0⟩ ?_ ?_ ?_
  · exact i_zero a0
  · cbv
    repeat' (first | exact trivial | exact rfl | refine And.intro ?_ ?_)
  rintro ⟨i⟩ hqX OqX hOqX
  have hst := i_all hqX
  subst hA
  generalize hA : Ar.std = A
  generalize hL : Lp _ _ _ = L
  refine cd_close zq ?_
  repeat' (first
    | (refine z_open zq ?_; try dsimp only)
    | refine cd_seq zq ?_ (lp_mono hL)
    | refine cd_blk zq ?_
    | refine cd_ret ?_
    | refine cd_skip ?_
    | refine cd_exit ?_
    | refine cd_loop ?_
    | refine cd_cond rfl ?_
    | refine cd_condT rfl ?_
    | refine cd_condF rfl ?_
    | (refine Cd.mk ?_; cbv)
    | (refine Ends1.mk ?_; cbv)
    | (refine Fin1.mk ?_; cbv)
    | exact trivial
    | refine And.intro ?_ ?_
    | refine orf fun _ => ?_
    | refine ort fun _ => ?_)
  all_goals first | (show L _ _ _; skip) | (clear hL zq Z hfs hqX; subst hA hF hG0 hOqX; simp only [LiR.Ks.std, Ar.std] at * <;> grind [stdCmp]; done)
  rename_i hx1 hx2
  have hA0 : AllOk a0 ∧ a0.length ≤ 60 := by
    clear hfs hL zq Z
    subst hA hF hG0 hOqX
    simp only [LiR.Ks.std, Ar.std] at *
    have h60 : (a0.length : Int) ≤ 60 := by grind [stdCmp]
    exact ⟨i_end hqX h60 (by grind [stdCmp]) w0, by omega⟩
  obtain ⟨hAl, h60⟩ := hA0
  clear hx1 hx2
  subst hL
  refine loop_z (cx_ok hfs) (aQ a0) (aI G0 a0 a1) (aM) aR ⟨0, ⟨(G0.k_new 99).x, (G0.k_new 99).x, [], [], [], []⟩⟩ ?_ ?_ ?_
  · subst hG0; exact a_zero h60
  · cbv
    repeat' (first | exact trivial | exact rfl | refine And.intro ?_ ?_)
  rintro ⟨j, ⟨⟨a_l, a_c, a_p, a_o, a_b, a_s, a_q, a_t, a_n, a_w⟩, ⟨d_l, d_c, d_p, d_o, d_b, d_s, d_q, d_t, d_n, d_w⟩, u, v, m, k⟩⟩ hqY OqY hOqY
  have hsa := a_all hAl hqY
  have hj0 : 0 ≤ j ∧ j ≤ 150 := hqY.2.1
  subst hA
  generalize hA : Ar.std = A
  generalize hL : Lp _ _ _ = L
  refine cd_close zq ?_
  repeat' (first
    | (refine z_open zq ?_; try dsimp only)
    | refine cd_seq zq ?_ (lp_mono hL)
    | refine cd_blk zq ?_
    | refine cd_ret ?_
    | refine cd_skip ?_
    | refine cd_exit ?_
    | refine cd_loop ?_
    | refine cd_cond rfl ?_
    | refine cd_condT rfl ?_
    | refine cd_condF rfl ?_
    | (refine Cd.mk ?_; cbv)
    | (refine Ends1.mk ?_; cbv)
    | (refine Fin1.mk ?_; cbv)
    | exact trivial
    | refine And.intro ?_ ?_
    | refine orf fun _ => ?_
    | refine ort fun _ => ?_)
  all_goals (clear hL zq Z hfs hqX hqY; subst hA hF hG0 hOqX hOqY; simp only [LcB.Lb.std, LiR.Ks.std, Ar.std, eta_LN, eta_PR] at * <;> grind [stdCmp]; done)
theorem walk (a0 : List E) (a1 : List E) (A0 : Option Addr) (n0 c0 : Nat) (A1 : Option Addr) (n1 c1 : Nat) (w : World) (r0 : (SC.sl none (.recs (.ints .u8 .nil) a0)).is (G0 w) (.slice A0 n0 c0)) (w0 : ∀ y ∈ a0, wfS (.ints .u8 .nil) y 0) (_ : a0.length ≤ 140737488355328) (r1 : (SC.sl none (.recs (.int .i64 (.int .i64 (.int .i64 (.int .i64 (.int .i64 .nil))))) a1)).is (G0 w) (.slice A1 n1 c1)) (_ : ∀ y ∈ a1, wfS (.int .i64 (.int .i64 (.int .i64 (.int .i64 (.int .i64 .nil))))) y 0) (_ : a1.length ≤ 140737488355328) : Calls Try.prog 4 #[.slice A0 n0 c0, .slice A1 n1 c1] w (Law.Yes w) :=
  yes_of (FsOk.cons ok_lnew (FsOk.cons ok_act (FsOk.cons ok_awake FsOk.nil rfl) rfl) rfl) Try.func4 rfl (vs := [.slice A0 n0 c0, .slice A1 n1 c1]) (by exact ⟨r0, r1, trivial⟩) (lee_le rfl) fun hZ => x_law a0 a1 w0 hZ
theorem own : ownKnob Try.prog.godebug = none := by kernel_rfl
theorem laidOut : laidOutB Try.prog = true := by kernel_rfl
set_option maxRecDepth 100000 in
theorem lifted (os : Os) (started : os.Started) (H : Type) (enc : TypeId × Value → H) :
    ReturnsInHanded {} Try.checked os 4 .any (Rows.lineCarriesSpec.pre6 enc Try.prog Try.f4 Rows.lineCarriesRow.domain false) (Rows.lineCarriesSpec.post enc Try.prog Try.f4 false true false false) := by
  refine returnsInHanded_of_change_sized (C := Try.checked) own started (by kernel_rfl) Try.func4
    (ChangeSpec.witness6 (enc := enc) (C := Try.checked) false ⟨#[], #[.slice none 0 0, .slice none 0 0], []⟩ 8 (by kernel_rfl) (by kernel_rfl) (by kernel_rfl) (by kernel_rfl)) ?_
  intro W base args ds gs before hval0 hW _ hz _
  have hval : ∀ (j : Nat) t v, Try.f4.params[j]? = some t → args[j]? = some v → Value.okWide Try.prog W .any base t v := hval0
  have hW' := hW
  obtain ⟨p, q, hA0, hV, rfl, _, _⟩ := hW
  have hA : DataW.TrodAll enc Try.prog W 0 (fun _ => true) true Try.f4.params.toList args.toList ds p := hA0
  rw [Try.params4] at hA hval
  obtain ⟨v0, v1, d0, d1, p0, p1, rfl, rfl, rfl, h0, h1⟩ := trodAll_two hA
  obtain ⟨rfl, rfl⟩ := trodVars_none hV
  obtain ⟨A0, n0, c0, a0, rfl, l0, r0, w0⟩ := sl_any (s := .ints .u8 .nil) Try.underlying36 (by kernel_rfl) (by kernel_rfl) (hval 0 36 v0 rfl rfl) h0
  have s0 : a0.length ≤ 140737488355328 := by rw [l0]; exact short_of Try.underlying36 (by decide +kernel) hz (j := 0) rfl rfl h0
  obtain ⟨A1, n1, c1, a1, rfl, l1, r1, w1⟩ := sl_any (s := .int .i64 (.int .i64 (.int .i64 (.int .i64 (.int .i64 .nil))))) Try.underlying37 (by kernel_rfl) (by kernel_rfl) (hval 1 37 v1 rfl rfl) h1
  have s1 : a1.length ≤ 140737488355328 := by rw [l1]; exact short_of Try.underlying37 (by decide +kernel) hz (j := 1) rfl rfl h1
  refine (walk a0 a1 A0 n0 c0 A1 n1 c1 W r0 w0 s0 r1 w1 s1).mono fun e W' ⟨he, hb⟩ => ?_
  subst he
  exact ⟨_, rfl, law_post laidOut (by kernel_rfl) (by kernel_rfl) Try.underlying4 rfl hW' rfl hb⟩
theorem proved : Rows.LineCarriesSaid :=
  OpenClaim.holds_of_wide 4 Try.f4 rfl rfl rfl rfl rfl rfl rfl ⟨rfl, rfl, rfl, rfl, rfl⟩ rfl rfl rfl rfl rfl (by kernel_rfl) Try.func4 (by kernel_rfl)
    (of_decide_eq_true (by kernel_rfl)) (by unfold Func.isWrapper; first | (rw [if_pos (by decide +kernel)]; kernel_rfl) | (rw [if_neg (by decide +kernel)]; exact ⟨rfl, rfl⟩))
    (fun os started H enc _ => lifted os started H enc)
end Go.Proofs.Ytakebkfhigadiaa.LineCarries
