/-
  VowTogether: for every input the call tells true, and nothing that was there turns. No condition.
-/
import Derived.Test.YtgfficaonampbaaRows
import Derived.Test.YtgfficaonampbaaLaw
import Derived.Test.YtgfficaonampbaaRyIn
import Derived.Test.YtgfficaonampbaaRyZ
import Derived.Test.YtgfficaonampbaaVoP
import Derived.Test.YtgfficaonampbaaVoI
namespace Go.Proofs.Ytgfficaonampbaa.VowTogether
open Go Go.Proofs.Ytgfficaonampbaa.Ry Go.Proofs.Ytgfficaonampbaa.Law Go.Proofs.Ytgfficaonampbaa.VoP Go.Proofs.Ytgfficaonampbaa.VoI Go.Proofs.Ytgfficaonampbaa.VoR Go.Proofs.Ytgfficaonampbaa.VoD Go.Proofs.Ytgfficaonampbaa.VoW
open Go.ChangeShapes Go.WideShapes Go.ChangeAt Go.Joins Go.RowKit
open Go.Proofs.Ytgfficaonampbaa.VoI
structure XV where
  i : Int
  c : List E
  d : DS
def O1 : E := [.int 2, .int 1, .int 0, .int 0, .int 0]
def O2 : E := [.int 2, .int 2, .int 0, .int 0, .int 0]
def v1Q (l : List E) (y : XV) : Prop := 0 ≤ y.i ∧ y.i ≤ l.length ∧ y.d = runD (l.take y.i.toNat) ∧ VoI.Good y.d
noncomputable def v1I (A : Ar) (l q : List E) (y : XV) : St := stOf Try.f9.ntmps [(0, .sl none (.recs (.int .i64 (.int .i64 (.int .i64 (.int .i64 (.int .i64 .nil))))) l)), (1, .sl none (.recs (.bool .nil) q)), (5, .sl (some (1, 66)) (.recs (.int .i64 (.int .i64 (.int .i64 (.int .i64 (.int .i64 .nil))))) (A.appE [] l))), (6, .ptr 2 0), (7, .val (.int .i64 y.i))] [(1, .tok), (2, .cells 63 [.val (.int .i64 y.d.m0), .val (.bool y.d.t0), .val (.bool y.d.b0), .val (.int .i64 y.d.o0), .val (.int .i64 y.d.m1), .val (.bool y.d.t1), .val (.bool y.d.b1), .val (.int .i64 y.d.o1), .sl none (.ints .i64 y.d.w0), .sl none (.ints .i64 y.d.w1)])] [Any, Any]
def v1M (l : List E) (y : XV) : Nat := l.length - y.i.toNat
def v1R (st : St) : XV := ⟨slotI st 7, [], ⟨valI (cellC st 6 0), valB (cellC st 6 1), valB (cellC st 6 2), valI (cellC st 6 3), valI (cellC st 6 4), valB (cellC st 6 5), valB (cellC st 6 6), valI (cellC st 6 7), valL st.heap (cellC st 6 8), valL st.heap (cellC st 6 9)⟩⟩
def v2Q (l : List E) (y : XV) : Prop := 0 ≤ y.i ∧ y.i + pot y.d ≤ 20 ∧ (y.c.length : Int) = l.length + y.i ∧ y.d = runD y.c ∧ VoI.Good y.d
noncomputable def v2I (l q : List E) (y : XV) : St := stOf Try.f9.ntmps [(0, .sl none (.recs (.int .i64 (.int .i64 (.int .i64 (.int .i64 (.int .i64 .nil))))) l)), (1, .sl none (.recs (.bool .nil) q)), (5, .sl (some (1, 66)) (.recs (.int .i64 (.int .i64 (.int .i64 (.int .i64 (.int .i64 .nil))))) y.c)), (6, .ptr 2 0), (8, .val (.int .i64 y.i))] [(1, .tok), (2, .cells 63 [.val (.int .i64 y.d.m0), .val (.bool y.d.t0), .val (.bool y.d.b0), .val (.int .i64 y.d.o0), .val (.int .i64 y.d.m1), .val (.bool y.d.t1), .val (.bool y.d.b1), .val (.int .i64 y.d.o1), .sl none (.ints .i64 y.d.w0), .sl none (.ints .i64 y.d.w1)])] [Any, Any]
def v2M (y : XV) : Nat := 30 - y.i.toNat
def v2R (st : St) : XV := ⟨slotI st 8, slotR st 5, ⟨valI (cellC st 6 0), valB (cellC st 6 1), valB (cellC st 6 2), valI (cellC st 6 3), valI (cellC st 6 4), valB (cellC st 6 5), valB (cellC st 6 6), valI (cellC st 6 7), valL st.heap (cellC st 6 8), valL st.heap (cellC st 6 9)⟩⟩
theorem tabM : allN (fun a => !(okV a) || mayB ((a % 3 : Nat) : Int) (tB a) (bB a) ((a / 12 : Nat) : Int)) 48 = true := by decide +kernel
theorem good_may {d : DS} (h : VoI.Good d) : may2 d = true := by
  have g := good_pot h
  obtain ⟨i, hi, rfl⟩ := h
  obtain ⟨_, _, ha, hb, _⟩ := okS_eq (cod_ok hi).1
  have h1 := all_of tabM _ (okV_lt ha)
  have h2 := all_of tabM _ (okV_lt hb)
  simp only [ha, hb, Bool.not_true, Bool.false_or] at h1 h2
  have e1 : mayB (toD (cod i)).m0 (toD (cod i)).t0 (toD (cod i)).b0 (toD (cod i)).o0 = true := h1
  have e2 : mayB (toD (cod i)).m1 (toD (cod i)).t1 (toD (cod i)).b1 (toD (cod i)).o1 = true := h2
  unfold may2
  rw [e1, e2]
  simp only [Bool.true_and, decide_eq_true_eq]
  omega
theorem v1_zero (l : List E) : v1Q l ⟨0, [], d00⟩ := ⟨Int.le_refl 0, Int.natCast_nonneg _, rfl, good_zero⟩
theorem v1_step {l : List E} {i : Int} {c : List E} {d : DS} (hl : l.length ≤ 300) (hq : v1Q l ⟨i, c, d⟩) : 0 ≤ i ∧ i ≤ l.length ∧ may2 ⟨d.m0, d.t0, d.b0, d.o0, d.m1, d.t1, d.b1, d.o1, d.w0, d.w1⟩ = true ∧ d.w0.length ≤ 20 ∧ d.w1.length ≤ 20 ∧ (i < l.length → stdBin .add .i64 i 1 = i + 1 ∧ (∀ e d', v1M l ⟨i + 1, e, d'⟩ < v1M l ⟨i, c, d⟩) ∧ ∀ e, v1Q l ⟨i + 1, e, ⟨(goD (ri (l.getD i.toNat []) 0) (ri (l.getD i.toNat []) 1) d).m0, (goD (ri (l.getD i.toNat []) 0) (ri (l.getD i.toNat []) 1) d).t0, (goD (ri (l.getD i.toNat []) 0) (ri (l.getD i.toNat []) 1) d).b0, (goD (ri (l.getD i.toNat []) 0) (ri (l.getD i.toNat []) 1) d).o0, (goD (ri (l.getD i.toNat []) 0) (ri (l.getD i.toNat []) 1) d).m1, (goD (ri (l.getD i.toNat []) 0) (ri (l.getD i.toNat []) 1) d).t1, (goD (ri (l.getD i.toNat []) 0) (ri (l.getD i.toNat []) 1) d).b1, (goD (ri (l.getD i.toNat []) 0) (ri (l.getD i.toNat []) 1) d).o1, (goD (ri (l.getD i.toNat []) 0) (ri (l.getD i.toNat []) 1) d).w0, (goD (ri (l.getD i.toNat []) 0) (ri (l.getD i.toNat []) 1) d).w1⟩⟩) ∧ (¬ i < l.length → v2Q l ⟨0, l, ⟨d.m0, d.t0, d.b0, d.o0, d.m1, d.t1, d.b1, d.o1, d.w0, d.w1⟩⟩) := by
  obtain ⟨h0, h1, h2, h3⟩ := hq
  simp only at h0 h1 h2 h3
  have g := good_pot h3
  refine ⟨h0, h1, good_may h3, g.2.1, g.2.2, fun h => ⟨by rw [b_add, wr _ (by omega) (by omega)], fun _ _ => by simp only [v1M]; omega, fun _ => ⟨by simp only; omega, by simp only; omega, ?_, good_go _ _ h3⟩⟩, fun h => ⟨Int.le_refl 0, ?_, by simp, ?_, h3⟩⟩
  · have hn := run_next l i h0 h
    rw [← h2, st_go] at hn
    exact hn.symm
  · have := g.1
    show (0 : Int) + pot d ≤ 20
    omega
  · have e : l.take i.toNat = l := List.take_of_length_le (by omega)
    rw [e] at h2
    exact h2
theorem run_snoc (c : List E) (y : E) : runD (c ++ [y]) = goD (ri y 0) (ri y 1) (runD c) := by
  unfold runD
  rw [List.foldl_append]
  exact st_go y _
theorem v2_step {l : List E} {i : Int} {c : List E} {d : DS} (hl : l.length ≤ 300) (hq : v2Q l ⟨i, c, d⟩) : 0 ≤ i ∧ i ≤ 20 ∧ i < 700 ∧ c.length ≤ 320 ∧ may2 ⟨d.m0, d.t0, d.b0, d.o0, d.m1, d.t1, d.b1, d.o1, d.w0, d.w1⟩ = true ∧ d.w0.length ≤ 20 ∧ d.w1.length ≤ 20 ∧ stdBin .add .i64 i 1 = i + 1 ∧ (∀ e d', v2M ⟨i + 1, e, d'⟩ < v2M ⟨i, c, d⟩) ∧
    (¬ d.w0.length = 0 → v2Q l ⟨i + 1, c ++ [O1], ⟨(goD 2 1 d).m0, (goD 2 1 d).t0, (goD 2 1 d).b0, (goD 2 1 d).o0, (goD 2 1 d).m1, (goD 2 1 d).t1, (goD 2 1 d).b1, (goD 2 1 d).o1, (goD 2 1 d).w0, (goD 2 1 d).w1⟩⟩) ∧ (¬ d.w1.length = 0 → v2Q l ⟨i + 1, c ++ [O2], ⟨(goD 2 2 d).m0, (goD 2 2 d).t0, (goD 2 2 d).b0, (goD 2 2 d).o0, (goD 2 2 d).m1, (goD 2 2 d).t1, (goD 2 2 d).b1, (goD 2 2 d).o1, (goD 2 2 d).w0, (goD 2 2 d).w1⟩⟩) ∧
    (d.w0.length = 0 → d.w1.length = 0 → dnD c = ⟨d.m0, d.t0, d.b0, d.o0, d.m1, d.t1, d.b1, d.o1, d.w0, d.w1⟩ ∧ dnE c = 0 ∧ dnN c = 0 ∧ d.b0 = d.b1 ∧ ¬ (d.m0 = 1 ∧ d.m1 = 1) ∧ ¬ d.m0 = 2 ∧ ¬ d.m1 = 2 ∧ d.t0 = decide (d.m1 = 1) ∧ d.t1 = decide (d.m0 = 1) ∧ d.o0 = 0 ∧ d.o1 = 0) := by
  obtain ⟨h0, h1, h2, h3, h4⟩ := hq
  simp only at h0 h1 h2 h3 h4
  have g := good_pot h4
  refine ⟨h0, by omega, by omega, by omega, good_may h4, g.2.1, g.2.2, by rw [b_add, wr _ (by omega) (by omega)], fun _ _ => by simp only [v2M]; omega, fun w => ⟨by simp only; omega, ?_, by simp; omega, ?_, good_go 2 1 h4⟩, fun w => ⟨by simp only; omega, ?_, by simp; omega, ?_, good_go 2 2 h4⟩, fun w0 w1 => ?_⟩
  · have := pot_go 1 (.inl ⟨rfl, show 0 < d.w0.length by omega⟩)
    show i + 1 + ((pot (goD 2 1 d) : Nat) : Int) ≤ 20
    omega
  · show goD 2 1 d = _
    rw [h3]
    exact (run_snoc c O1).symm
  · have := pot_go 2 (.inr ⟨rfl, show 0 < d.w1.length by omega⟩)
    show i + 1 + ((pot (goD 2 2 d) : Nat) : Int) ≤ 20
    omega
  · show goD 2 2 d = _
    rw [h3]
    exact (run_snoc c O2).symm
  · have hc : c.length ≤ 1000 := by omega
    have e : dnD c = d := by
      unfold dnD
      rw [if_neg (by omega), h3]
    refine ⟨e, ?_, ?_, good_end h4 w0 w1⟩
    · unfold dnE
      rw [if_neg (by omega)]
    · unfold dnN
      rw [e, w0, w1]
      rfl
set_option maxHeartbeats 4000000 in
set_option maxRecDepth 100000 in
theorem x_law (a0 : List E) (a1 : List E) (_ : sized [.one (.sl none (.recs (.int .i64 (.int .i64 (.int .i64 (.int .i64 (.int .i64 .nil))))) a0)), .one (.sl none (.recs (.bool .nil) a1))]) : Does [(39, c_dance Ws.std), (40, c_do Ps.std), (34, c_awake Ws.std)] Try.f9 [.one (.sl none (.recs (.int .i64 (.int .i64 (.int .i64 (.int .i64 (.int .i64 .nil))))) a0)), .one (.sl none (.recs (.bool .nil) a1))] [] ⟨True, .sa (B true), [], [Any, Any]⟩ := by
  intro b gv
  have hfs := (FsOk.cons ok_dance (FsOk.cons ok_do (FsOk.cons ok_awake FsOk.nil rfl) rfl) rfl)
  generalize hF : Ps.std = F at hfs ⊢
  generalize hG0 : Ws.std = G0 at hfs ⊢
  generalize hA : Ar.std = A
  generalize hL : Lp _ _ _ = L
  obtain ⟨Z, zq⟩ := z_all
  refine cd_open (lp_mono hL) zq rfl ?_
  repeat' (first
    | (refine z_open zq ?_; try dsimp only)
    | refine cd_seq zq ?_ (lp_mono hL)
    | refine cd_blk zq ?_
    | refine cd_ret ?_
    | refine cd_skip ?_
    | refine cd_exit ?_
    | refine cd_loop ?_
    | refine cd_cond rfl ?_
    | refine cd_condT rfl ?_
    | refine cd_condF rfl ?_
    | (refine Cd.mk ?_; cbv)
    | (refine Ends1.mk ?_; cbv)
    | (refine Fin1.mk ?_; cbv)
    | exact trivial
    | refine And.intro ?_ ?_
    | refine orf fun _ => ?_
    | refine ort fun _ => ?_)
  all_goals first | (show L _ _ _; skip) | (clear hfs hL zq Z; subst hA hF hG0; simp only [Ar.std] at * <;> grind [stdCmp]; done)
  rename_i hx
  have hl : a0.length ≤ 300 := by
    clear hfs hL zq Z hF hG0
    subst hA
    simp only [Ar.std] at hx
    grind [stdCmp]
  clear hx
  subst hL
  refine loop_z (cx_ok hfs) (v1Q a0) (v1I A a0 a1) (v1M a0) v1R ⟨0, [], d00⟩ ?_ ?_ ?_
  · exact v1_zero a0
  · cbv
    repeat' (first | exact trivial | exact rfl | refine And.intro ?_ ?_)
  rintro ⟨i, c, ⟨m0, t0, b0, o0, m1, t1, b1, o1, w0, w1⟩⟩ hq O hO
  have hst := v1_step hl hq
  dsimp only at hst
  subst hA
  generalize hA : Ar.std = A
  generalize hL : Lp _ _ _ = L
  refine cd_close zq ?_
  repeat' (first
    | (refine z_open zq ?_; try dsimp only)
    | refine cd_seq zq ?_ (lp_mono hL)
    | refine cd_blk zq ?_
    | refine cd_ret ?_
    | refine cd_skip ?_
    | refine cd_exit ?_
    | refine cd_loop ?_
    | refine cd_cond rfl ?_
    | refine cd_condT rfl ?_
    | refine cd_condF rfl ?_
    | (refine Cd.mk ?_; cbv)
    | (refine Ends1.mk ?_; cbv)
    | (refine Fin1.mk ?_; cbv)
    | exact trivial
    | refine And.intro ?_ ?_
    | refine orf fun _ => ?_
    | refine ort fun _ => ?_)
  all_goals first | (show L _ _ _; skip) | (clear hL hfs zq Z hq; subst hA hF hG0 hO; simp only [Ps.std, Ar.std] at * <;> grind [stdCmp, b_add, wr]; done)
  have hi : ¬ i < a0.length := by
    rename_i hx
    clear hL hfs zq Z hq
    subst hA hF hG0 hO
    simp only [Ar.std] at *
    grind [stdCmp]
  have hz := hst.2.2.2.2.2.2 hi
  clear hst hq hO
  subst hL
  refine loop_z (cx_ok hfs) (v2Q a0) (v2I a0 a1) v2M v2R ⟨0, A.appE [] a0, ⟨m0, t0, b0, o0, m1, t1, b1, o1, w0, w1⟩⟩ ?_ ?_ ?_
  · subst hA
    exact hz
  · cbv
    repeat' (first | exact trivial | exact rfl | refine And.intro ?_ ?_)
  clear hz
  rintro ⟨k, c, ⟨m0, t0, b0, o0, m1, t1, b1, o1, w0, w1⟩⟩ hq U hU
  have hst := v2_step hl hq
  simp only [O1, O2] at hst
  subst hA
  generalize hA : Ar.std = A
  generalize hL : Lp _ _ _ = L
  refine cd_close zq ?_
  repeat' (first
    | (refine z_open zq ?_; try dsimp only)
    | refine cd_seq zq ?_ (lp_mono hL)
    | refine cd_blk zq ?_
    | refine cd_ret ?_
    | refine cd_skip ?_
    | refine cd_exit ?_
    | refine cd_loop ?_
    | refine cd_cond rfl ?_
    | refine cd_condT rfl ?_
    | refine cd_condF rfl ?_
    | (refine Cd.mk ?_; cbv)
    | (refine Ends1.mk ?_; cbv)
    | (refine Fin1.mk ?_; cbv)
    | exact trivial
    | refine And.intro ?_ ?_
    | refine orf fun _ => ?_
    | refine ort fun _ => ?_)
  all_goals (clear hL hfs zq Z hq; subst hA hF hG0 hU; simp only [Ps.std, Ws.std, Ar.std] at * <;> grind [stdCmp, b_add, wr])
theorem walk (a0 : List E) (a1 : List E) (A0 : Option Addr) (n0 c0 : Nat) (A1 : Option Addr) (n1 c1 : Nat) (w : World) (r0 : (SC.sl none (.recs (.int .i64 (.int .i64 (.int .i64 (.int .i64 (.int .i64 .nil))))) a0)).is (G0 w) (.slice A0 n0 c0)) (_ : ∀ y ∈ a0, wfS (.int .i64 (.int .i64 (.int .i64 (.int .i64 (.int .i64 .nil))))) y 0) (_ : a0.length ≤ 140737488355328) (r1 : (SC.sl none (.recs (.bool .nil) a1)).is (G0 w) (.slice A1 n1 c1)) (_ : ∀ y ∈ a1, wfS (.bool .nil) y 0) (_ : a1.length ≤ 140737488355328) : Calls Try.prog 9 #[.slice A0 n0 c0, .slice A1 n1 c1] w (Law.Yes w) :=
  yes_of (FsOk.cons ok_dance (FsOk.cons ok_do (FsOk.cons ok_awake FsOk.nil rfl) rfl) rfl) Try.func9 rfl (vs := [.slice A0 n0 c0, .slice A1 n1 c1]) (by exact ⟨r0, r1, trivial⟩) (lee_le rfl) fun hZ => x_law a0 a1 hZ
theorem own : ownKnob Try.prog.godebug = none := by kernel_rfl
theorem laidOut : laidOutB Try.prog = true := by kernel_rfl
set_option maxRecDepth 100000 in
theorem lifted (os : Os) (started : os.Started) (H : Type) (enc : TypeId × Value → H) :
    ReturnsInHanded {} Try.checked os 9 .any (Rows.vowTogetherSpec.pre6 enc Try.prog Try.f9 Rows.vowTogetherRow.domain false) (Rows.vowTogetherSpec.post enc Try.prog Try.f9 false true false false) := by
  refine returnsInHanded_of_change_sized (C := Try.checked) own started (by kernel_rfl) Try.func9
    (ChangeSpec.witness6 (enc := enc) (C := Try.checked) false ⟨#[], #[.slice none 0 0, .slice none 0 0], []⟩ 8 (by kernel_rfl) (by kernel_rfl) (by kernel_rfl) (by kernel_rfl)) ?_
  intro W base args ds gs before hval0 hW _ hz _
  have hval : ∀ (j : Nat) t v, Try.f9.params[j]? = some t → args[j]? = some v → Value.okWide Try.prog W .any base t v := hval0
  have hW' := hW
  obtain ⟨p, q, hA0, hV, rfl, _, _⟩ := hW
  have hA : DataW.TrodAll enc Try.prog W 0 (fun _ => true) true Try.f9.params.toList args.toList ds p := hA0
  rw [Try.params9] at hA hval
  obtain ⟨v0, v1, d0, d1, p0, p1, rfl, rfl, rfl, h0, h1⟩ := trodAll_two hA
  obtain ⟨rfl, rfl⟩ := trodVars_none hV
  obtain ⟨A0, n0, c0, a0, rfl, l0, r0, w0⟩ := sl_any (s := .int .i64 (.int .i64 (.int .i64 (.int .i64 (.int .i64 .nil))))) Try.underlying57 (by kernel_rfl) (by kernel_rfl) (hval 0 57 v0 rfl rfl) h0
  have s0 : a0.length ≤ 140737488355328 := by rw [l0]; exact short_of Try.underlying57 (by decide +kernel) hz (j := 0) rfl rfl h0
  obtain ⟨A1, n1, c1, a1, rfl, l1, r1, w1⟩ := sl_any (s := .bool .nil) Try.underlying68 (by kernel_rfl) (by kernel_rfl) (hval 1 68 v1 rfl rfl) h1
  have s1 : a1.length ≤ 140737488355328 := by rw [l1]; exact short_of Try.underlying68 (by decide +kernel) hz (j := 1) rfl rfl h1
  refine (walk a0 a1 A0 n0 c0 A1 n1 c1 W r0 w0 s0 r1 w1 s1).mono fun e W' ⟨he, hb⟩ => ?_
  subst he
  exact ⟨_, rfl, law_post laidOut (by kernel_rfl) (by kernel_rfl) Try.underlying4 rfl hW' rfl hb⟩
theorem proved : Rows.VowTogetherSaid :=
  OpenClaim.holds_of_wide 9 Try.f9 rfl rfl rfl rfl rfl rfl rfl ⟨rfl, rfl, rfl, rfl, rfl⟩ rfl rfl rfl rfl rfl (by kernel_rfl) Try.func9 (by kernel_rfl)
    (of_decide_eq_true (by kernel_rfl)) (by unfold Func.isWrapper; first | (rw [if_pos (by decide +kernel)]; kernel_rfl) | (rw [if_neg (by decide +kernel)]; exact ⟨rfl, rfl⟩))
    (fun os started H enc _ => lifted os started H enc)
end Go.Proofs.Ytgfficaonampbaa.VowTogether
