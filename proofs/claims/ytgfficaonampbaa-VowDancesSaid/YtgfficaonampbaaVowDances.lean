/-
  VowDances: for every input the call tells true, and nothing that was there turns. No condition.
-/
import Derived.Test.YtgfficaonampbaaRows
import Derived.Test.YtgfficaonampbaaLaw
import Derived.Test.YtgfficaonampbaaRyIn
import Derived.Test.YtgfficaonampbaaRyZ
import Derived.Test.YtgfficaonampbaaVoP
namespace Go.Proofs.Ytgfficaonampbaa.VowDances
open Go Go.Proofs.Ytgfficaonampbaa.Ry Go.Proofs.Ytgfficaonampbaa.Law Go.Proofs.Ytgfficaonampbaa.VoP Go.Proofs.Ytgfficaonampbaa.VoR Go.Proofs.Ytgfficaonampbaa.VoD Go.Proofs.Ytgfficaonampbaa.VoW
open Go.ChangeShapes Go.WideShapes Go.ChangeAt Go.Joins Go.RowKit
structure XV where
  i : Int
  d : DS
def vdQ (l : List E) (y : XV) : Prop := 0 ≤ y.i ∧ y.i ≤ l.length ∧ y.d = runD (l.take y.i.toNat) ∧ mayB y.d.m0 y.d.t0 y.d.b0 y.d.o0 = true ∧ mayB y.d.m1 y.d.t1 y.d.b1 y.d.o1 = true ∧ y.d.w0.length ≤ y.i ∧ y.d.w1.length ≤ y.i
noncomputable def vdI (l : List E) (d : DS) (n e : Int) (y : XV) : St := stOf Try.f8.ntmps [(0, .sl none (.recs (.int .i64 (.int .i64 (.int .i64 (.int .i64 (.int .i64 .nil))))) l)), (3, .ptr 1 0), (4, .ptr 2 0), (5, .val (.int .i64 n)), (6, .val (.int .i64 e)), (7, .ptr 3 0), (8, .val (.int .i64 y.i))]
  [(1, .cells 44 [.val (.int .i64 d.m0), .val (.bool d.t0), .val (.bool d.b0), .val (.int .i64 d.o0)]), (2, .cells 44 [.val (.int .i64 d.m1), .val (.bool d.t1), .val (.bool d.b1), .val (.int .i64 d.o1)]), (3, .cells 63 [.val (.int .i64 y.d.m0), .val (.bool y.d.t0), .val (.bool y.d.b0), .val (.int .i64 y.d.o0), .val (.int .i64 y.d.m1), .val (.bool y.d.t1), .val (.bool y.d.b1), .val (.int .i64 y.d.o1), .sl none (.ints .i64 y.d.w0), .sl none (.ints .i64 y.d.w1)])] [Any]
def vdM (l : List E) (y : XV) : Nat := l.length - y.i.toNat
def vdR (st : St) : XV := ⟨slotI st 8, ⟨valI (cellC st 7 0), valB (cellC st 7 1), valB (cellC st 7 2), valI (cellC st 7 3), valI (cellC st 7 4), valB (cellC st 7 5), valB (cellC st 7 6), valI (cellC st 7 7), valL st.heap (cellC st 7 8), valL st.heap (cellC st 7 9)⟩⟩
theorem go_may {k e : Int} {d : DS} (h0 : mayB d.m0 d.t0 d.b0 d.o0 = true) (h1 : mayB d.m1 d.t1 d.b1 d.o1 = true) : mayB (goD k e d).m0 (goD k e d).t0 (goD k e d).b0 (goD k e d).o0 = true ∧ mayB (goD k e d).m1 (goD k e d).t1 (goD k e d).b1 (goD k e d).o1 = true := by
  obtain ⟨m0, t0, b0, o0, m1, t1, b1, o1, w0, w1⟩ := d
  simp only at h0 h1
  have a0 := may_v h0
  have a1 := may_v h1
  have b0' := may_h (w1.getD 0 0) h0
  have b1' := may_h (w0.getD 0 0) h1
  unfold goD doD on hearD setA putW
  by_cases e1 : e = 1
  · simp only [e1, if_true]
    repeat' split
    all_goals grind
  · by_cases e2 : e = 2
    · simp only [e2]
      repeat' split
      all_goals grind
    · rw [if_neg e1, if_neg e2]
      exact ⟨h0, h1⟩
theorem vd_zero (l : List E) : vdQ l ⟨0, d00⟩ := ⟨Int.le_refl 0, Int.natCast_nonneg _, rfl, rfl, rfl, Int.le_refl 0, Int.le_refl 0⟩
theorem vd_may (l : List E) (i : Int) (d : DS) (hl : l.length ≤ 1000) (hq : vdQ l ⟨i, d⟩) : may2 ⟨d.m0, d.t0, d.b0, d.o0, d.m1, d.t1, d.b1, d.o1, d.w0, d.w1⟩ = true := by
  obtain ⟨h0, h1, h2, h3, h4, h5, h6⟩ := hq
  simp only at h0 h1 h2 h3 h4 h5 h6
  unfold may2
  simp only [h3, h4, Bool.and_self, Bool.true_and, decide_eq_true_eq]
  omega
theorem vd_step (l : List E) (i : Int) (d : DS) (hl : l.length ≤ 1000) (hq : vdQ l ⟨i, d⟩) (h : i < l.length) : vdQ l ⟨i + 1, ⟨(goD (ri (l.getD i.toNat []) 0) (ri (l.getD i.toNat []) 1) d).m0, (goD (ri (l.getD i.toNat []) 0) (ri (l.getD i.toNat []) 1) d).t0, (goD (ri (l.getD i.toNat []) 0) (ri (l.getD i.toNat []) 1) d).b0, (goD (ri (l.getD i.toNat []) 0) (ri (l.getD i.toNat []) 1) d).o0, (goD (ri (l.getD i.toNat []) 0) (ri (l.getD i.toNat []) 1) d).m1, (goD (ri (l.getD i.toNat []) 0) (ri (l.getD i.toNat []) 1) d).t1, (goD (ri (l.getD i.toNat []) 0) (ri (l.getD i.toNat []) 1) d).b1, (goD (ri (l.getD i.toNat []) 0) (ri (l.getD i.toNat []) 1) d).o1, (goD (ri (l.getD i.toNat []) 0) (ri (l.getD i.toNat []) 1) d).w0, (goD (ri (l.getD i.toNat []) 0) (ri (l.getD i.toNat []) 1) d).w1⟩⟩ := by
  obtain ⟨h0, h1, h2, h3, h4, h5, h6⟩ := hq
  simp only at h0 h1 h2 h3 h4 h5 h6
  have hn := run_next l i h0 h
  rw [← h2, st_go] at hn
  have hm := go_may (k := ri (l.getD i.toNat []) 0) (e := ri (l.getD i.toNat []) 1) h3 h4
  have hw : (goD (ri (l.getD i.toNat []) 0) (ri (l.getD i.toNat []) 1) d).w0.length ≤ d.w0.length + 1 ∧ (goD (ri (l.getD i.toNat []) 0) (ri (l.getD i.toNat []) 1) d).w1.length ≤ d.w1.length + 1 := by
    unfold goD
    split
    · exact do_w _ _ _ (.inl rfl)
    · split
      · exact do_w _ _ _ (.inr rfl)
      · omega
  exact ⟨by simp only; omega, by simp only; omega, hn.symm, hm.1, hm.2, by simp only; omega, by simp only; omega⟩
theorem vd_end (l : List E) (i : Int) (d : DS) (hl : l.length ≤ 1000) (hq : vdQ l ⟨i, d⟩) (h : i = l.length) : dnD l = ⟨d.m0, d.t0, d.b0, d.o0, d.m1, d.t1, d.b1, d.o1, d.w0, d.w1⟩ ∧ dnE l = 0 ∧ dnN l = d.w0.length + d.w1.length ∧ d.w0.length ≤ 1000 ∧ d.w1.length ≤ 1000 := by
  obtain ⟨h0, h1, h2, h3, h4, h5, h6⟩ := hq
  simp only at h0 h1 h2 h5 h6
  exact da_end l i d hl ⟨h0, h1, h2, h5, h6⟩ h
set_option maxHeartbeats 4000000 in
set_option maxRecDepth 100000 in
theorem x_law (a0 : List E) (_ : sized [.one (.sl none (.recs (.int .i64 (.int .i64 (.int .i64 (.int .i64 (.int .i64 .nil))))) a0))]) : Does [(39, c_dance Ws.std), (40, c_do Ps.std), (34, c_awake Ws.std)] Try.f8 [.one (.sl none (.recs (.int .i64 (.int .i64 (.int .i64 (.int .i64 (.int .i64 .nil))))) a0))] [] ⟨True, .sa (B true), [], [Any]⟩ := by
  intro b gv
  have hfs := (FsOk.cons ok_dance (FsOk.cons ok_do (FsOk.cons ok_awake FsOk.nil rfl) rfl) rfl)
  generalize hF : Ps.std = F at hfs ⊢
  generalize hG0 : Ws.std = G0 at hfs ⊢
  generalize hA : Ar.std = A
  generalize hL : Lp _ _ _ = L
  obtain ⟨Z, zq⟩ := z_all
  refine cd_open (lp_mono hL) zq rfl ?_
  repeat' (first
    | (refine z_open zq ?_; try dsimp only)
    | refine cd_seq zq ?_ (lp_mono hL)
    | refine cd_blk zq ?_
    | refine cd_ret ?_
    | refine cd_skip ?_
    | refine cd_exit ?_
    | refine cd_loop ?_
    | refine cd_cond rfl ?_
    | refine cd_condT rfl ?_
    | refine cd_condF rfl ?_
    | (refine Cd.mk ?_; cbv)
    | (refine Ends1.mk ?_; cbv)
    | (refine Fin1.mk ?_; cbv)
    | exact trivial
    | refine And.intro ?_ ?_
    | refine orf fun _ => ?_
    | refine ort fun _ => ?_)
  all_goals first | (show L _ _ _; skip) | (clear hfs hL zq Z; subst hA hF hG0; simp only [Ws.std, Ar.std] at * <;> grind [stdCmp, dnD, dnN, dnE, d00]; done)
  rename_i hx
  have hl : a0.length ≤ 1000 := by
    clear hfs hL zq Z hF hG0
    subst hA
    simp only [Ar.std] at hx
    grind [stdCmp]
  clear hx
  subst hL
  refine loop_z (cx_ok hfs) (vdQ a0) (vdI a0 (G0.w_run a0) (G0.w_n a0) (G0.w_e a0)) (vdM a0) vdR ⟨0, d00⟩ ?_ ?_ ?_
  · exact vd_zero a0
  · cbv
    repeat' (first | exact trivial | exact rfl | refine And.intro ?_ ?_)
  rintro ⟨i, ⟨m0, t0, b0, o0, m1, t1, b1, o1, w0, w1⟩⟩ hq O hO
  have hst := vd_step a0 i _ hl hq
  have hen := vd_end a0 i _ hl hq
  have hmy := vd_may a0 i _ hl hq
  have q0 := hq.1
  have q1 := hq.2.1
  dsimp only at q0 q1 hst hen hmy
  subst hA
  generalize hA : Ar.std = A
  generalize hL : Lp _ _ _ = L
  refine cd_close zq ?_
  repeat' (first
    | (refine z_open zq ?_; try dsimp only)
    | refine cd_seq zq ?_ (lp_mono hL)
    | refine cd_blk zq ?_
    | refine cd_ret ?_
    | refine cd_skip ?_
    | refine cd_exit ?_
    | refine cd_loop ?_
    | refine cd_cond rfl ?_
    | refine cd_condT rfl ?_
    | refine cd_condF rfl ?_
    | (refine Cd.mk ?_; cbv)
    | (refine Ends1.mk ?_; cbv)
    | (refine Fin1.mk ?_; cbv)
    | exact trivial
    | refine And.intro ?_ ?_
    | refine orf fun _ => ?_
    | refine ort fun _ => ?_)
  all_goals (clear hL hfs zq Z hq; subst hA hF hG0 hO; simp only [Ps.std, Ws.std, Ar.std] at * <;> grind [stdCmp, b_add, wr, vdM])
theorem walk (a0 : List E) (A0 : Option Addr) (n0 c0 : Nat) (w : World) (r0 : (SC.sl none (.recs (.int .i64 (.int .i64 (.int .i64 (.int .i64 (.int .i64 .nil))))) a0)).is (G0 w) (.slice A0 n0 c0)) (_ : ∀ y ∈ a0, wfS (.int .i64 (.int .i64 (.int .i64 (.int .i64 (.int .i64 .nil))))) y 0) (_ : a0.length ≤ 140737488355328) : Calls Try.prog 8 #[.slice A0 n0 c0] w (Law.Yes w) :=
  yes_of (FsOk.cons ok_dance (FsOk.cons ok_do (FsOk.cons ok_awake FsOk.nil rfl) rfl) rfl) Try.func8 rfl (vs := [.slice A0 n0 c0]) (by exact ⟨r0, trivial⟩) (lee_le rfl) fun hZ => x_law a0 hZ
theorem own : ownKnob Try.prog.godebug = none := by kernel_rfl
theorem laidOut : laidOutB Try.prog = true := by kernel_rfl
set_option maxRecDepth 100000 in
theorem lifted (os : Os) (started : os.Started) (H : Type) (enc : TypeId × Value → H) :
    ReturnsInHanded {} Try.checked os 8 .any (Rows.vowDancesSpec.pre6 enc Try.prog Try.f8 Rows.vowDancesRow.domain false) (Rows.vowDancesSpec.post enc Try.prog Try.f8 false true false false) := by
  refine returnsInHanded_of_change_sized (C := Try.checked) own started (by kernel_rfl) Try.func8
    (ChangeSpec.witness6 (enc := enc) (C := Try.checked) false ⟨#[], #[.slice none 0 0], []⟩ 8 (by kernel_rfl) (by kernel_rfl) (by kernel_rfl) (by kernel_rfl)) ?_
  intro W base args ds gs before hval0 hW _ hz _
  have hval : ∀ (j : Nat) t v, Try.f8.params[j]? = some t → args[j]? = some v → Value.okWide Try.prog W .any base t v := hval0
  have hW' := hW
  obtain ⟨p, q, hA0, hV, rfl, _, _⟩ := hW
  have hA : DataW.TrodAll enc Try.prog W 0 (fun _ => true) true Try.f8.params.toList args.toList ds p := hA0
  rw [Try.params8] at hA hval
  obtain ⟨v0, d0, rfl, rfl, h0⟩ := trodAll_one hA
  obtain ⟨rfl, rfl⟩ := trodVars_none hV
  obtain ⟨A0, n0, c0, a0, rfl, l0, r0, w0⟩ := sl_any (s := .int .i64 (.int .i64 (.int .i64 (.int .i64 (.int .i64 .nil))))) Try.underlying57 (by kernel_rfl) (by kernel_rfl) (hval 0 57 v0 rfl rfl) h0
  have s0 : a0.length ≤ 140737488355328 := by rw [l0]; exact short_of Try.underlying57 (by decide +kernel) hz (j := 0) rfl rfl h0
  refine (walk a0 A0 n0 c0 W r0 w0 s0).mono fun e W' ⟨he, hb⟩ => ?_
  subst he
  exact ⟨_, rfl, law_post laidOut (by kernel_rfl) (by kernel_rfl) Try.underlying4 rfl hW' rfl hb⟩
theorem proved : Rows.VowDancesSaid :=
  OpenClaim.holds_of_wide 8 Try.f8 rfl rfl rfl rfl rfl rfl rfl ⟨rfl, rfl, rfl, rfl, rfl⟩ rfl rfl rfl rfl rfl (by kernel_rfl) Try.func8 (by kernel_rfl)
    (of_decide_eq_true (by kernel_rfl)) (by unfold Func.isWrapper; first | (rw [if_pos (by decide +kernel)]; kernel_rfl) | (rw [if_neg (by decide +kernel)]; exact ⟨rfl, rfl⟩))
    (fun os started H enc _ => lifted os started H enc)
end Go.Proofs.Ytgfficaonampbaa.VowDances
