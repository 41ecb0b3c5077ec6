/-
  VowAlone: for every input the call tells true, and nothing that was there turns. No condition.
-/
import Derived.Test.YtgfficaonampbaaRows
import Derived.Test.YtgfficaonampbaaLaw
import Derived.Test.YtgfficaonampbaaRyIn
import Derived.Test.YtgfficaonampbaaRyZ
import Derived.Test.YtgfficaonampbaaVoP
namespace Go.Proofs.Ytgfficaonampbaa.VowAlone
open Go Go.Proofs.Ytgfficaonampbaa.Ry Go.Proofs.Ytgfficaonampbaa.Law Go.Proofs.Ytgfficaonampbaa.VoP Go.Proofs.Ytgfficaonampbaa.VoR Go.Proofs.Ytgfficaonampbaa.VoD Go.Proofs.Ytgfficaonampbaa.VoW
open Go.ChangeShapes Go.WideShapes Go.ChangeAt Go.Joins Go.RowKit
def okO (y : E) : Prop := (ri y 1 = 1 ∧ (ri y 0 = 8 ∨ ri y 0 = 2 ∨ ri y 0 = 5)) ∨ (ri y 1 = 2 ∧ ri y 0 = 2)
def al (l : List E) : Prop := ∀ y ∈ l, okO y
structure XA where
  i : Int
  c : List E
def alQ (l : List E) (y : XA) : Prop := 0 ≤ y.i ∧ y.i ≤ l.length ∧ y.i ≤ 100 ∧ (y.c.length : Int) ≤ 3 * y.i ∧ al y.c
noncomputable def alI (l : List E) (y : XA) : St := stOf Try.f10.ntmps [(0, .sl none (.recs (.bool .nil) l)), (3, .sl (some (1, 66)) (.recs (.int .i64 (.int .i64 (.int .i64 (.int .i64 (.int .i64 .nil))))) y.c)), (4, .val (.int .i64 y.i))] [(1, .tok)] [Any]
def alM (y : XA) : Nat := (100 - y.i).toNat
def alR (st : St) : XA := ⟨slotI st 4, slotR st 3⟩
def O1 : E := [.int 8, .int 1, .int 0, .int 0, .int 0]
def O2 : E := [.int 2, .int 1, .int 0, .int 0, .int 0]
def O3 : E := [.int 5, .int 1, .int 0, .int 0, .int 0]
def O4 : E := [.int 2, .int 2, .int 0, .int 0, .int 0]
theorem al_app {c d : List E} (h : al c) (h2 : al d) : al (c ++ d) := fun y hy => by
  rcases List.mem_append.1 hy with hy | hy
  · exact h y hy
  · exact h2 y hy
theorem al_four : al [O1] ∧ al [O2] ∧ al [O3] ∧ al [O4] := by
  refine ⟨?_, ?_, ?_, ?_⟩ <;> intro y hy <;> rw [List.mem_singleton] at hy <;> subst hy
  · exact .inl ⟨rfl, .inl rfl⟩
  · exact .inl ⟨rfl, .inr (.inl rfl)⟩
  · exact .inl ⟨rfl, .inr (.inr rfl)⟩
  · exact .inr ⟨rfl, rfl⟩
theorem al_zero (l : List E) : alQ l ⟨0, []⟩ := ⟨Int.le_refl 0, Int.natCast_nonneg _, show (0 : Int) ≤ 100 by decide, Int.le_refl 0, fun _ h => by cases h⟩
theorem al_len (l : List E) (i : Int) (c : List E) (hq : alQ l ⟨i, c⟩) : c.length ≤ 300 := by
  obtain ⟨h0, h1, h2, h3, h4⟩ := hq
  simp only at h2 h3
  omega
theorem al_step (l : List E) (i : Int) (c : List E) (hq : alQ l ⟨i, c⟩) : (i < l.length → i < 100 → alQ l ⟨i + 1, c ++ ([O1] ++ [O3])⟩) ∧ (i < l.length → i < 100 → alQ l ⟨i + 1, c ++ ([O1] ++ ([O2] ++ [O3]))⟩) := by
  obtain ⟨h0, h1, h2, h3, h4⟩ := hq
  simp only at h0 h1 h2 h3 h4
  obtain ⟨f1, f2, f3, f4⟩ := al_four
  exact ⟨fun g g' => ⟨by simp only; omega, by simp only; omega, by simp only; omega, by simp; omega, al_app h4 (al_app f1 f3)⟩, fun g g' => ⟨by simp only; omega, by simp only; omega, by simp only; omega, by simp; omega, al_app h4 (al_app f1 (al_app f2 f3))⟩⟩
def amQ (c : List E) (y : XA) : Prop := 0 ≤ y.i ∧ y.i ≤ 400 ∧ (y.c.length : Int) ≤ c.length + 2 * y.i ∧ c.length ≤ 300 ∧ al y.c
noncomputable def amI (y : XA) : St := stOf Try.f10.ntmps [(3, .sl (some (1, 66)) (.recs (.int .i64 (.int .i64 (.int .i64 (.int .i64 (.int .i64 .nil))))) y.c)), (5, .val (.int .i64 y.i))] [(1, .tok)] [Any]
def amM (y : XA) : Nat := (400 - y.i).toNat
def amR (st : St) : XA := ⟨slotI st 5, slotR st 3⟩
theorem am_zero (l : List E) (i : Int) (c : List E) (hq : alQ l ⟨i, c⟩) : amQ c ⟨0, c⟩ := ⟨Int.le_refl 0, show (0 : Int) ≤ 400 by decide, show (c.length : Int) ≤ c.length + 2 * 0 by omega, al_len l i c hq, hq.2.2.2.2⟩
theorem am_len (c : List E) (i : Int) (d : List E) (hq : amQ c ⟨i, d⟩) : d.length ≤ 1100 := by
  obtain ⟨h0, h1, h2, h3, h4⟩ := hq
  simp only at h0 h1 h2
  omega
theorem am_step (c : List E) (i : Int) (d : List E) (hq : amQ c ⟨i, d⟩) (h : i < 400) : amQ c ⟨i + 1, d ++ [O2, O4]⟩ := by
  obtain ⟨h0, h1, h2, h3, h4⟩ := hq
  simp only at h0 h1 h2 h3 h4
  obtain ⟨f1, f2, f3, f4⟩ := al_four
  exact ⟨by simp only; omega, by simp only; omega, by simp; omega, h3, al_app h4 (al_app f2 f4)⟩
/-- The other end never vows. -/
structure Inv (d : DS) : Prop where
  m1 : d.m1 = 0
  b1 : d.b1 = false
  o1 : d.o1 = 0
  b0 : d.b0 = false
  o0 : d.o0 = 0
  t0 : d.t0 = false
  m0 : 0 ≤ d.m0 ∧ d.m0 ≤ 2
  w0 : ∀ x ∈ d.w0, x = 4 ∨ x = 5
  w1 : ∀ x ∈ d.w1, x = 6
theorem hd_mem {w : List Int} (h : ¬ w.length = 0) : w.getD 0 0 ∈ w := by
  cases w with
  | nil => exact absurd rfl h
  | cons x l => exact List.mem_cons_self ..
theorem drop_mem {w : List Int} {x : Int} (h : x ∈ w.drop 1) : x ∈ w := List.mem_of_mem_drop h
theorem inv_step {y : E} {d : DS} (hy : okO y) (h : Inv d) : Inv (stD y d) := by
  obtain ⟨m0, t0, b0, o0, m1, t1, b1, o1, w0, w1⟩ := d
  obtain ⟨h1, h2, h3, h4, h5, h6, h7, h8, h9⟩ := h
  simp only at h1 h2 h3 h4 h5 h6 h7 h8 h9
  subst h1 h2 h3 h4 h5 h6
  have hm : mayB m0 false false 0 = true := by
    unfold mayB
    simp only [Bool.and_eq_true, decide_eq_true_eq]
    exact ⟨⟨h7.1, h7.2, by decide, by decide⟩, by simp⟩
  have hm1 : mayB 0 t1 false 0 = true := by
    cases t1 <;> rfl
  rcases hy with ⟨e1, e | e | e⟩ | ⟨e1, e⟩
  · have es : stD y ⟨m0, false, false, 0, 0, t1, false, 0, w0, w1⟩ = if m0 = 0 then ⟨1, false, false, 0, 0, t1, false, 0, w0 ++ [4], w1⟩ else ⟨m0, false, false, 0, 0, t1, false, 0, w0 ++ [], w1⟩ := by
      unfold stD
      rw [if_pos (.inl e1), e, e1]
      unfold doD on grV
      by_cases g : m0 = 0 <;> simp [hm, g, same, setA, putW] <;> (subst g; simp [hm])
    rw [es]
    split
    · exact ⟨rfl, rfl, rfl, rfl, rfl, rfl, by simp, fun x hx => by rcases List.mem_append.1 hx with q | q; exact h8 x q; simp at q; exact .inl q, h9⟩
    · exact ⟨rfl, rfl, rfl, rfl, rfl, rfl, h7, fun x hx => by rw [List.append_nil] at hx; exact h8 x hx, h9⟩
  · by_cases g : w0.length = 0
    · have es : stD y ⟨m0, false, false, 0, 0, t1, false, 0, w0, w1⟩ = ⟨m0, false, false, 0, 0, t1, false, 0, w0, w1⟩ := by
        unfold stD
        rw [if_pos (.inl e1), e, e1]
        unfold doD
        simp [g]
      rw [es]
      exact ⟨rfl, rfl, rfl, rfl, rfl, rfl, h7, h8, h9⟩
    · have hk := h8 _ (hd_mem g)
      have es : stD y ⟨m0, false, false, 0, 0, t1, false, 0, w0, w1⟩ = if w0.getD 0 0 = 4 then ⟨m0, false, false, 0, 0, true, false, 0, w0.drop 1, w1 ++ []⟩ else ⟨m0, false, false, 0, 0, false, false, 0, w0.drop 1, w1 ++ [6]⟩ := by
        unfold stD
        rw [if_pos (.inl e1), e, e1]
        unfold doD hearD heV
        rcases hk with hk | hk <;> simp only [hk] <;> simp [g, hm1, hvV, setA, putW]
      rw [es]
      split
      · exact ⟨rfl, rfl, rfl, rfl, rfl, rfl, h7, fun x hx => h8 x (drop_mem hx), fun x hx => by rw [List.append_nil] at hx; exact h9 x hx⟩
      · exact ⟨rfl, rfl, rfl, rfl, rfl, rfl, h7, fun x hx => h8 x (drop_mem hx), fun x hx => by rcases List.mem_append.1 hx with q | q; exact h9 x q; simpa using q⟩
  · have es : stD y ⟨m0, false, false, 0, 0, t1, false, 0, w0, w1⟩ = if m0 = 1 then ⟨2, false, false, 0, 0, t1, false, 0, w0 ++ [5], w1⟩ else ⟨m0, false, false, 0, 0, t1, false, 0, w0 ++ [], w1⟩ := by
      unfold stD
      rw [if_pos (.inl e1), e, e1]
      unfold doD on reV
      by_cases g : m0 = 1 <;> simp [hm, g, same, setA, putW] <;> (subst g; simp [hm])
    rw [es]
    split
    · exact ⟨rfl, rfl, rfl, rfl, rfl, rfl, by simp, fun x hx => by rcases List.mem_append.1 hx with q | q; exact h8 x q; simp at q; exact .inr q, h9⟩
    · exact ⟨rfl, rfl, rfl, rfl, rfl, rfl, h7, fun x hx => by rw [List.append_nil] at hx; exact h8 x hx, h9⟩
  · by_cases g : w1.length = 0
    · have es : stD y ⟨m0, false, false, 0, 0, t1, false, 0, w0, w1⟩ = ⟨m0, false, false, 0, 0, t1, false, 0, w0, w1⟩ := by
        unfold stD
        rw [if_pos (.inr e1), e, e1]
        unfold doD
        simp [g]
      rw [es]
      exact ⟨rfl, rfl, rfl, rfl, rfl, rfl, h7, h8, h9⟩
    · have hk := h9 _ (hd_mem g)
      have es : stD y ⟨m0, false, false, 0, 0, t1, false, 0, w0, w1⟩ = if m0 = 2 then ⟨0, false, false, 0, 0, t1, false, 0, w0 ++ [], w1.drop 1⟩ else ⟨m0, false, false, 0, 0, t1, false, 0, w0 ++ [], w1.drop 1⟩ := by
        unfold stD
        rw [if_pos (.inr e1), e, e1]
        unfold doD hearD heV
        simp only [hk]
        by_cases g2 : m0 = 2 <;> simp [g, hm, g2, hfV, same, setA, putW] <;> (subst g2; simp [hm])
      rw [es]
      split
      · exact ⟨rfl, rfl, rfl, rfl, rfl, rfl, by simp, fun x hx => by rw [List.append_nil] at hx; exact h8 x hx, fun x hx => h9 x (drop_mem hx)⟩
      · exact ⟨rfl, rfl, rfl, rfl, rfl, rfl, h7, fun x hx => by rw [List.append_nil] at hx; exact h8 x hx, fun x hx => h9 x (drop_mem hx)⟩
theorem inv_all : ∀ (l : List E) (d : DS), al l → Inv d → Inv (l.foldl (fun d y => stD y d) d)
  | [], _, _, h => h
  | y :: l, d, hl, h => inv_all l _ (fun x hx => hl x (List.mem_cons_of_mem _ hx)) (inv_step (hl y (List.mem_cons_self ..)) h)
theorem inv_run {l : List E} (h : al l) (hl : l.length ≤ 1000) : (dnD l).b0 = false ∧ (dnD l).b1 = false ∧ (dnD l).o0 = 0 ∧ (dnD l).m1 = 0 ∧ (dnD l).o1 = 0 ∧ dnE l = 0 := by
  have hi : Inv (dnD l) := by
    unfold dnD
    rw [if_neg (by omega)]
    exact inv_all l d00 h ⟨rfl, rfl, rfl, rfl, rfl, rfl, by decide, (fun _ h => by cases h), (fun _ h => by cases h)⟩
  refine ⟨hi.b0, hi.b1, hi.o0, hi.m1, hi.o1, ?_⟩
  unfold dnE
  rw [if_neg (by omega)]
theorem am_end (c : List E) (i : Int) (d : List E) (hq : amQ c ⟨i, d⟩) : (¬ (d.length : Int) > 1000 → (dnD d).b0 = false ∧ (dnD d).b1 = false ∧ (dnD d).o0 = 0 ∧ (dnD d).m1 = 0 ∧ (dnD d).o1 = 0 ∧ dnE d = 0) ∧
    ((d.length : Int) > 1000 → (dnD ((d.take (d.length : Int).toNat).drop ((d.length : Int) - 1000).toNat)).b0 = false ∧ (dnD ((d.take (d.length : Int).toNat).drop ((d.length : Int) - 1000).toNat)).b1 = false ∧ (dnD ((d.take (d.length : Int).toNat).drop ((d.length : Int) - 1000).toNat)).o0 = 0 ∧ (dnD ((d.take (d.length : Int).toNat).drop ((d.length : Int) - 1000).toNat)).m1 = 0 ∧ (dnD ((d.take (d.length : Int).toNat).drop ((d.length : Int) - 1000).toNat)).o1 = 0 ∧ dnE ((d.take (d.length : Int).toNat).drop ((d.length : Int) - 1000).toNat) = 0) := by
  obtain ⟨h0, h1, h2, h3, h4⟩ := hq
  simp only at h4
  refine ⟨fun g => inv_run h4 (by omega), fun g => inv_run (fun y hy => h4 y (List.mem_of_mem_take (List.mem_of_mem_drop hy))) ?_⟩
  rw [List.length_drop, List.length_take]
  omega
set_option maxHeartbeats 4000000 in
set_option maxRecDepth 100000 in
theorem x_law (a0 : List E) (_ : sized [.one (.sl none (.recs (.bool .nil) a0))]) : Does [(39, c_dance Ws.std), (34, c_awake Ws.std)] Try.f10 [.one (.sl none (.recs (.bool .nil) a0))] [] ⟨True, .sa (B true), [], [Any]⟩ := by
  intro b gv
  have hfs := (FsOk.cons ok_dance (FsOk.cons ok_awake FsOk.nil rfl) rfl)
  generalize hF : Ps.std = F at hfs ⊢
  generalize hG0 : Ws.std = G0 at hfs ⊢
  generalize hA : Ar.std = A
  generalize hL : Lp _ _ _ = L
  obtain ⟨Z, zq⟩ := z_all
  refine cd_open (lp_mono hL) zq rfl ?_
  repeat' (first
    | (refine z_open zq ?_; try dsimp only)
    | refine cd_seq zq ?_ (lp_mono hL)
    | refine cd_blk zq ?_
    | refine cd_ret ?_
    | refine cd_skip ?_
    | refine cd_exit ?_
    | refine cd_loop ?_
    | refine cd_cond rfl ?_
    | refine cd_condT rfl ?_
    | refine cd_condF rfl ?_
    | (refine Cd.mk ?_; cbv)
    | (refine Ends1.mk ?_; cbv)
    | (refine Fin1.mk ?_; cbv)
    | exact trivial
    | refine And.intro ?_ ?_
    | refine orf fun _ => ?_
    | refine ort fun _ => ?_)
  subst hL
  refine loop_z (cx_ok hfs) (alQ a0) (alI a0) alM alR ⟨0, []⟩ ?_ ?_ ?_
  · exact al_zero a0
  · cbv
    repeat' (first | exact trivial | exact rfl | refine And.intro ?_ ?_)
  rintro ⟨i, c⟩ hq O hO
  have hst := al_step a0 i c hq
  simp only [O1, O2, O3] at hst
  have q0 := hq.1
  have q1 := hq.2.1
  have hn := al_len a0 i c hq
  dsimp only at q0 q1
  subst hA
  generalize hA : Ar.std = A
  generalize hL : Lp _ _ _ = L
  refine cd_close zq ?_
  repeat' (first
    | (refine z_open zq ?_; try dsimp only)
    | refine cd_seq zq ?_ (lp_mono hL)
    | refine cd_blk zq ?_
    | refine cd_ret ?_
    | refine cd_skip ?_
    | refine cd_exit ?_
    | refine cd_loop ?_
    | refine cd_cond rfl ?_
    | refine cd_condT rfl ?_
    | refine cd_condF rfl ?_
    | (refine Cd.mk ?_; cbv)
    | (refine Ends1.mk ?_; cbv)
    | (refine Fin1.mk ?_; cbv)
    | exact trivial
    | refine And.intro ?_ ?_
    | refine orf fun _ => ?_
    | refine ort fun _ => ?_)
  all_goals first | (show L _ _ _; skip) | (clear hL hfs zq Z hq; subst hA hF hG0 hO; simp only [Ar.std, List.nil_append, List.append_assoc] at * <;> grind [stdCmp, b_add, wr, alM]; done)
  clear hst hO
  subst hL
  refine loop_z (cx_ok hfs) (amQ c) amI amM amR ⟨0, c⟩ ?_ ?_ ?_
  · exact am_zero a0 i c hq
  · cbv
    repeat' (first | exact trivial | exact rfl | refine And.intro ?_ ?_)
  rintro ⟨k, d⟩ hq2 U hU
  have hst := am_step c k d hq2
  simp only [O2, O4] at hst
  have hen := am_end c k d hq2
  have k0 := hq2.1
  have k1 := hq2.2.1
  have hn2 := am_len c k d hq2
  dsimp only at k0 k1
  subst hA
  generalize hA : Ar.std = A
  generalize hL : Lp _ _ _ = L
  refine cd_close zq ?_
  repeat' (first
    | (refine z_open zq ?_; try dsimp only)
    | refine cd_seq zq ?_ (lp_mono hL)
    | refine cd_blk zq ?_
    | refine cd_ret ?_
    | refine cd_skip ?_
    | refine cd_exit ?_
    | refine cd_loop ?_
    | refine cd_cond rfl ?_
    | refine cd_condT rfl ?_
    | refine cd_condF rfl ?_
    | (refine Cd.mk ?_; cbv)
    | (refine Ends1.mk ?_; cbv)
    | (refine Fin1.mk ?_; cbv)
    | exact trivial
    | refine And.intro ?_ ?_
    | refine orf fun _ => ?_
    | refine ort fun _ => ?_)
  all_goals (clear hL hfs zq Z hq hq2; subst hA hF hG0 hU; simp only [Ws.std, Ar.std, List.nil_append, List.append_assoc] at * <;> grind [stdCmp, b_add, b_sub, wr, amM])
theorem walk (a0 : List E) (A0 : Option Addr) (n0 c0 : Nat) (w : World) (r0 : (SC.sl none (.recs (.bool .nil) a0)).is (G0 w) (.slice A0 n0 c0)) (_ : ∀ y ∈ a0, wfS (.bool .nil) y 0) (_ : a0.length ≤ 140737488355328) : Calls Try.prog 10 #[.slice A0 n0 c0] w (Law.Yes w) :=
  yes_of (FsOk.cons ok_dance (FsOk.cons ok_awake FsOk.nil rfl) rfl) Try.func10 rfl (vs := [.slice A0 n0 c0]) (by exact ⟨r0, trivial⟩) (lee_le rfl) fun hZ => x_law a0 hZ
theorem own : ownKnob Try.prog.godebug = none := by kernel_rfl
theorem laidOut : laidOutB Try.prog = true := by kernel_rfl
set_option maxRecDepth 100000 in
theorem lifted (os : Os) (started : os.Started) (H : Type) (enc : TypeId × Value → H) :
    ReturnsInHanded {} Try.checked os 10 .any (Rows.vowAloneSpec.pre6 enc Try.prog Try.f10 Rows.vowAloneRow.domain false) (Rows.vowAloneSpec.post enc Try.prog Try.f10 false true false false) := by
  refine returnsInHanded_of_change_sized (C := Try.checked) own started (by kernel_rfl) Try.func10
    (ChangeSpec.witness6 (enc := enc) (C := Try.checked) false ⟨#[], #[.slice none 0 0], []⟩ 8 (by kernel_rfl) (by kernel_rfl) (by kernel_rfl) (by kernel_rfl)) ?_
  intro W base args ds gs before hval0 hW _ hz _
  have hval : ∀ (j : Nat) t v, Try.f10.params[j]? = some t → args[j]? = some v → Value.okWide Try.prog W .any base t v := hval0
  have hW' := hW
  obtain ⟨p, q, hA0, hV, rfl, _, _⟩ := hW
  have hA : DataW.TrodAll enc Try.prog W 0 (fun _ => true) true Try.f10.params.toList args.toList ds p := hA0
  rw [Try.params10] at hA hval
  obtain ⟨v0, d0, rfl, rfl, h0⟩ := trodAll_one hA
  obtain ⟨rfl, rfl⟩ := trodVars_none hV
  obtain ⟨A0, n0, c0, a0, rfl, l0, r0, w0⟩ := sl_any (s := .bool .nil) Try.underlying68 (by kernel_rfl) (by kernel_rfl) (hval 0 68 v0 rfl rfl) h0
  have s0 : a0.length ≤ 140737488355328 := by rw [l0]; exact short_of Try.underlying68 (by decide +kernel) hz (j := 0) rfl rfl h0
  refine (walk a0 A0 n0 c0 W r0 w0 s0).mono fun e W' ⟨he, hb⟩ => ?_
  subst he
  exact ⟨_, rfl, law_post laidOut (by kernel_rfl) (by kernel_rfl) Try.underlying4 rfl hW' rfl hb⟩
theorem proved : Rows.VowAloneSaid :=
  OpenClaim.holds_of_wide 10 Try.f10 rfl rfl rfl rfl rfl rfl rfl ⟨rfl, rfl, rfl, rfl, rfl⟩ rfl rfl rfl rfl rfl (by kernel_rfl) Try.func10 (by kernel_rfl)
    (of_decide_eq_true (by kernel_rfl)) (by unfold Func.isWrapper; first | (rw [if_pos (by decide +kernel)]; kernel_rfl) | (rw [if_neg (by decide +kernel)]; exact ⟨rfl, rfl⟩))
    (fun os started H enc _ => lifted os started H enc)
end Go.Proofs.Ytgfficaonampbaa.VowAlone
