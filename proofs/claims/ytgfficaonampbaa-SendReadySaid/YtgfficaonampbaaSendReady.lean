/-
  SendReady: for every input the call tells true, and nothing that was there turns. No condition.
-/
import Derived.Test.YtgfficaonampbaaRows
import Derived.Test.YtgfficaonampbaaLaw
import Derived.Test.YtgfficaonampbaaRyIn
import Derived.Test.YtgfficaonampbaaRyZ
import Derived.Test.YtgfficaonampbaaSeV
namespace Go.Proofs.Ytgfficaonampbaa.SendReady
open Go Go.Proofs.Ytgfficaonampbaa.Ry Go.Proofs.Ytgfficaonampbaa.Law Go.Proofs.Ytgfficaonampbaa.SeV Go.Proofs.Ytgfficaonampbaa.SeR Go.Proofs.Ytgfficaonampbaa.SeS Go.Proofs.Ytgfficaonampbaa.SeT Go.Proofs.Ytgfficaonampbaa.SeU Go.Proofs.Ytgfficaonampbaa.SeL
open Go.ChangeShapes Go.WideShapes Go.ChangeAt Go.Joins Go.RowKit
theorem rows {x : E} (w : wfS (.int .i64 (.int .i64 (.recs (.ints .u8 .nil) (.int .i64 .nil)))) x 0) : ∀ y ∈ rr x 2, ∀ n ∈ rl y 0, 0 ≤ n ∧ n ≤ 255 := fun y hy n hn => wf8 ((w.2.2.1 y hy).1 n hn)
structure XV where
  i : Int
  b1 : Int
  s1 : Int
  q1 : List E
  c1 : Int
  b2 : Int
  s2 : Int
  q2 : List E
  c2 : Int
def svQ (y : XV) : Prop := 0 ≤ y.i ∧ y.i ≤ 10 ∧ Two y.b1 y.s1 y.q1 y.c1 y.b2 y.s2 y.q2 y.c2
noncomputable def svI (k : Int) (y : XV) : St := stOf Try.f12.ntmps [(1, .val (.int .u8 k)), (5, .ptr 1 0), (11, .ptr 2 0), (13, .val (.int .i64 y.i))] [(1, .cells 73 [.val (.int .i64 y.b1), .val (.int .i64 y.s1), .sl none (.recs (.ints .u8 .nil) y.q1), .val (.int .i64 y.c1)]), (2, .cells 73 [.val (.int .i64 y.b2), .val (.int .i64 y.s2), .sl none (.recs (.ints .u8 .nil) y.q2), .val (.int .i64 y.c2)])] [Any, Any]
def svM (_ : Int) (y : XV) : Nat := (10 - y.i).toNat
def svR (st : St) : XV := ⟨slotI st 13, valI (cellC st 5 0), valI (cellC st 5 1), valR st.heap (cellC st 5 2), valI (cellC st 5 3), valI (cellC st 11 0), valI (cellC st 11 1), valR st.heap (cellC st 11 2), valI (cellC st 11 3)⟩
theorem rem10 (a : Int) (h : 0 ≤ a ∧ a ≤ 255) : 0 ≤ IntKind.i64.wrap (stdBin .rem .u8 a 10) ∧ IntKind.i64.wrap (stdBin .rem .u8 a 10) < 10 := by
  rw [b_rem, Int.tmod_eq_emod_of_nonneg h.1, wr _ (by omega) (by omega)]
  omega
set_option maxHeartbeats 4000000 in
set_option maxRecDepth 100000 in
theorem x_law (a0 : E) (a1 : Int) (w0 : ∀ y ∈ rr a0 2, ∀ n ∈ rl y 0, 0 ≤ n ∧ n ≤ 255) (w1 : 0 ≤ a1 ∧ a1 ≤ 255) (_ : sized [.agg (shCells Ar.std (.int .i64 (.int .i64 (.recs (.ints .u8 .nil) (.int .i64 .nil)))) a0 0 4), .one (.val (.int .u8 a1))]) : Does [(41, c_light Us.std), (49, c_ready Gs.std), (46, c_rmay Fs.std), (47, denil [some (.recs (.ints .u8 .nil) []), some (.recs (.ints .u8 .nil) [])] (c_rsame Hs.std)), (52, c_rnum Hs.std), (42, c_awake Gs.std), (50, c_tick Vs.std), (53, c_rtick Vs.std), (51, c_rready Vs.std)] Try.f12 [.agg (shCells Ar.std (.int .i64 (.int .i64 (.recs (.ints .u8 .nil) (.int .i64 .nil)))) a0 0 4), .one (.val (.int .u8 a1))] [] ⟨True, .sa (B true), [], [Any, Any]⟩ := by
  intro b gv
  have hfs := (FsOk.cons ok_light (FsOk.cons ok_ready (FsOk.cons ok_rmay (FsOk.cons (denil_ok [some (.recs (.ints .u8 .nil) []), some (.recs (.ints .u8 .nil) [])] ok_rsame) (FsOk.cons ok_rnum (FsOk.cons ok_awake (FsOk.cons ok_tick (FsOk.cons ok_rtick (FsOk.cons ok_rready FsOk.nil rfl) rfl) rfl) rfl) rfl) rfl) rfl) rfl) rfl)
  generalize hF : Vs.std = F at hfs ⊢
  generalize hG0 : Fs.std = G0 at hfs ⊢
  generalize hG1 : Gs.std = G1 at hfs ⊢
  generalize hG2 : Hs.std = G2 at hfs ⊢
  generalize hG3 : Us.std = G3 at hfs ⊢
  generalize hG4 : Ls.std = G4 at hfs ⊢
  generalize hA : Ar.std = A
  generalize hL : Lp _ _ _ = L
  obtain ⟨Z, zq⟩ := z_all
  refine cd_open (lp_mono hL) zq rfl ?_
  repeat' (first
    | (refine z_open zq ?_; try dsimp only)
    | refine cd_seq zq ?_ (lp_mono hL)
    | refine cd_blk zq ?_
    | refine cd_ret ?_
    | refine cd_skip ?_
    | refine cd_exit ?_
    | refine cd_loop ?_
    | refine cd_cond rfl ?_
    | refine cd_condT rfl ?_
    | refine cd_condF rfl ?_
    | (refine Cd.mk ?_; cbv)
    | (refine Ends1.mk ?_; cbv)
    | (refine Fin1.mk ?_; cbv)
    | exact trivial
    | refine And.intro ?_ ?_
    | refine orf fun _ => ?_
    | refine ort fun _ => ?_)
  all_goals first
    | (show L _ _ _; skip)
    | (clear hL zq Z hfs
       subst hF hA hG0 hG1 hG2 hG3
       have hl : liW (rr a0 2) = true → (rr a0 2).length ≤ 300 := li_len
       have hq : (rr a0 2).length ≤ 300 → byS (rr a0 2) = true := fun h => decide_eq_true ⟨by omega, w0⟩
       have h1 := fun h h' => two_ready (b := ri a0 0) (s := ri a0 1) (q := rr a0 2) (c := ri a0 3) h (hq h')
       have h2 := fun h => no_ready (b := ri a0 0) (s := ri a0 1) (q := rr a0 2) (c := ri a0 3) h
       have h3 := fun h h' => (two_ready (b := ri a0 0) (s := ri a0 1) (q := rr a0 2) (c := ri a0 3) h (hq h')).2.2.2.2.2.2.y
       have h4 := fun h h' => (two_ready (b := ri a0 0) (s := ri a0 1) (q := rr a0 2) (c := ri a0 3) h (hq h')).2.2.2.2.2.2.y'
       have hz : byS [] = true := rfl
       have hz3 : smS (zS 1).b (zS 1).s (zS 1).q (zS 1).c 0 0 [] 0 = true := rfl
       have hz4 : (zS 1).q = [] := rfl
       have hz5 : (zS 1).e = 1 := rfl
       simp only [Vs.std, Gs.std, Hs.std, Us.std, Fs.std, Ar.std] at *
       grind [stdCmp]
       done)
  rename_i hli hm hx
  have hmay : maySn (ri a0 0) (ri a0 1) (rr a0 2) (ri a0 3) = true ∧ (rr a0 2).length ≤ 300 := by
    clear hL zq Z hfs hx
    subst hF hA hG0 hG1 hG2 hG3
    simp only [Us.std, Fs.std, Ar.std] at hm hli
    exact ⟨by simpa using hm, li_len (by simpa using hli)⟩
  have hby : byS (rr a0 2) = true := decide_eq_true ⟨by omega, w0⟩
  have htwo := (two_ready hmay.1 hby).2.2.2.2.2.2
  clear hx hm hli
  subst hL
  refine loop_z (cx_ok hfs) svQ (svI a1) (svM a1) svR ⟨0, (G1.g_rdy (A.ri a0 0) (A.ri a0 1) (A.rr a0 2) (A.ri a0 3)).b, (G1.g_rdy (A.ri a0 0) (A.ri a0 1) (A.rr a0 2) (A.ri a0 3)).s, (G1.g_rdy (A.ri a0 0) (A.ri a0 1) (A.rr a0 2) (A.ri a0 3)).q, (G1.g_rdy (A.ri a0 0) (A.ri a0 1) (A.rr a0 2) (A.ri a0 3)).c, (F.v_rrd (A.ri a0 0) (A.ri a0 1) (A.rr a0 2) (A.ri a0 3)).b, (F.v_rrd (A.ri a0 0) (A.ri a0 1) (A.rr a0 2) (A.ri a0 3)).s, (F.v_rrd (A.ri a0 0) (A.ri a0 1) (A.rr a0 2) (A.ri a0 3)).q, (F.v_rrd (A.ri a0 0) (A.ri a0 1) (A.rr a0 2) (A.ri a0 3)).c⟩ ?_ ?_ ?_
  · subst hF hA hG1
    exact ⟨Int.le_refl 0, show (0 : Int) ≤ 10 by decide, htwo⟩
  · cbv
    repeat' (first | exact trivial | exact rfl | refine And.intro ?_ ?_)
  rintro ⟨i, b1, s1, q1, c1, b2, s2, q2, c2⟩ ⟨i0, i1, hq⟩ O hO
  dsimp only at i0 i1 hq
  obtain ⟨h1, h2, h3, h4, h5, h6⟩ := two_tick hq
  have h7 := h6.y
  have h8 := h6.y'
  have h9 := by_len hq.y
  have h10 := hq.may'
  have hrm := rem10 a1 w1
  subst hA
  generalize hA : Ar.std = A
  generalize hL : Lp _ _ _ = L
  refine cd_close zq ?_
  repeat' (first
    | (refine z_open zq ?_; try dsimp only)
    | refine cd_seq zq ?_ (lp_mono hL)
    | refine cd_blk zq ?_
    | refine cd_ret ?_
    | refine cd_skip ?_
    | refine cd_exit ?_
    | refine cd_loop ?_
    | refine cd_cond rfl ?_
    | refine cd_condT rfl ?_
    | refine cd_condF rfl ?_
    | (refine Cd.mk ?_; cbv)
    | (refine Ends1.mk ?_; cbv)
    | (refine Fin1.mk ?_; cbv)
    | exact trivial
    | refine And.intro ?_ ?_
    | refine orf fun _ => ?_
    | refine ort fun _ => ?_)
  all_goals (clear hL hfs zq Z hq htwo; subst hA hF hG0 hG1 hG2 hG3 hO; simp only [Vs.std, Gs.std, Hs.std, Us.std, Fs.std, Ar.std] at * <;> grind [stdCmp, b_add, wr, svM, svQ])
theorem walk (a0 : E) (a1 : Int) (v0 : Value) (w : World) (r0 : (SA.agg (shCells Ar.std (.int .i64 (.int .i64 (.recs (.ints .u8 .nil) (.int .i64 .nil)))) a0 0 4)).is (G0 w) v0) (w0 : wfS (.int .i64 (.int .i64 (.recs (.ints .u8 .nil) (.int .i64 .nil)))) a0 0) (w1 : (Lit.int .u8 a1).wf = true) : Calls Try.prog 12 #[v0, .int .u8 a1] w (Law.Yes w) :=
  yes_of (FsOk.cons ok_light (FsOk.cons ok_ready (FsOk.cons ok_rmay (FsOk.cons (denil_ok [some (.recs (.ints .u8 .nil) []), some (.recs (.ints .u8 .nil) [])] ok_rsame) (FsOk.cons ok_rnum (FsOk.cons ok_awake (FsOk.cons ok_tick (FsOk.cons ok_rtick (FsOk.cons ok_rready FsOk.nil rfl) rfl) rfl) rfl) rfl) rfl) rfl) rfl) rfl) Try.func12 rfl (vs := [v0, .int .u8 a1]) (by exact ⟨r0, rfl, trivial⟩) (lee_le rfl) fun hZ => x_law a0 a1 (rows w0) (wf8 w1) hZ
theorem own : ownKnob Try.prog.godebug = none := by kernel_rfl
theorem laidOut : laidOutB Try.prog = true := by kernel_rfl
set_option maxRecDepth 100000 in
theorem lifted (os : Os) (started : os.Started) (H : Type) (enc : TypeId × Value → H) :
    ReturnsInHanded {} Try.checked os 12 .any (Rows.sendReadySpec.pre6 enc Try.prog Try.f12 Rows.sendReadyRow.domain false) (Rows.sendReadySpec.post enc Try.prog Try.f12 false true false false) := by
  refine returnsInHanded_of_change_sized (C := Try.checked) own started (by kernel_rfl) Try.func12
    (ChangeSpec.witness6 (enc := enc) (C := Try.checked) false ⟨#[], #[.agg #[.int .i64 0, .int .i64 0, .slice none 0 0, .int .i64 0], .int .u8 0], []⟩ 8 (by kernel_rfl) (by kernel_rfl) (by kernel_rfl) (by kernel_rfl)) ?_
  intro W base args ds gs before hval0 hW _ hz _
  have hval : ∀ (j : Nat) t v, Try.f12.params[j]? = some t → args[j]? = some v → Value.okWide Try.prog W .any base t v := hval0
  have hW' := hW
  obtain ⟨p, q, hA0, hV, rfl, _, _⟩ := hW
  have hA : DataW.TrodAll enc Try.prog W 0 (fun _ => true) true Try.f12.params.toList args.toList ds p := hA0
  rw [Try.params12] at hA hval
  obtain ⟨v0, v1, d0, d1, p0, p1, rfl, rfl, rfl, h0, h1⟩ := trodAll_two hA
  obtain ⟨rfl, rfl⟩ := trodVars_none hV
  obtain ⟨a0, r0, w0⟩ := agg_any (s := .int .i64 (.int .i64 (.recs (.ints .u8 .nil) (.int .i64 .nil)))) (by rw [Try.underlying73]) (by kernel_rfl) (by kernel_rfl) (hval 0 73 v0 rfl rfl) h0
  obtain ⟨a1, rfl, rfl, rfl, w1⟩ := open_int Try.underlying5 (hval 1 5 v1 rfl rfl) h1
  refine (walk a0 a1 v0 W r0 w0 w1).mono fun e W' ⟨he, hb⟩ => ?_
  subst he
  exact ⟨_, rfl, law_post laidOut (by kernel_rfl) (by kernel_rfl) Try.underlying4 rfl hW' rfl hb⟩
theorem proved : Rows.SendReadySaid :=
  OpenClaim.holds_of_wide 12 Try.f12 rfl rfl rfl rfl rfl rfl rfl ⟨rfl, rfl, rfl, rfl, rfl⟩ rfl rfl rfl rfl rfl (by kernel_rfl) Try.func12 (by kernel_rfl)
    (of_decide_eq_true (by kernel_rfl)) (by unfold Func.isWrapper; first | (rw [if_pos (by decide +kernel)]; kernel_rfl) | (rw [if_neg (by decide +kernel)]; exact ⟨rfl, rfl⟩))
    (fun os started H enc _ => lifted os started H enc)
end Go.Proofs.Ytgfficaonampbaa.SendReady
