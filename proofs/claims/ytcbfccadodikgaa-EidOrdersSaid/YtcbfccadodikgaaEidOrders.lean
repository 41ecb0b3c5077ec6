/-
  EidOrders: for every three names the call tells true, and nothing that was there turns. No condition.
-/
import Derived.Test.YtcbfccadodikgaaRows
import Derived.Test.YtcbfccadodikgaaEidMore
import Derived.Test.YtcbfccadodikgaaEidAfter
import Derived.IntWalk
namespace Go.Proofs.Ytcbfccadodikgaa.EidOrders
open Go.RowKit Go.Proofs.Ytcbfccadodikgaa.Law Go.Proofs.Ytcbfccadodikgaa.Cmp Go.Proofs.Ytcbfccadodikgaa.Eid Go.Proofs.Ytcbfccadodikgaa.EidMore
open Go.ChangeShapes Go.WideShapes Go.ChangeAt Go.Joins

theorem max_is (e1 r1 e2 r2 : Int) : ((emax e1 r1 e2 r2).1 == e1 && (emax e1 r1 e2 r2).2 == r1) = true ∨ ((emax e1 r1 e2 r2).1 == e1 && (emax e1 r1 e2 r2).2 == r1) = false ∧ ((emax e1 r1 e2 r2).1 == e2 && (emax e1 r1 e2 r2).2 == r2) = true := by
  by_cases h : ecmp e1 r1 e2 r2 < 0
  · rw [emax_lt h]
    cases hb : ((e2, r2).1 == e1 && (e2, r2).2 == r1)
    · exact .inr ⟨rfl, by simp⟩
    · exact .inl rfl
  · rw [emax_ge h]
    exact .inl (by simp)
theorem max_not_less (e1 r1 e2 r2 : Int) : lessB (emax e1 r1 e2 r2).1 (emax e1 r1 e2 r2).2 e1 r1 = false ∧ lessB (emax e1 r1 e2 r2).1 (emax e1 r1 e2 r2).2 e2 r2 = false := by
  have hl := ecmp_lt e1 r1 e2 r2
  unfold lessB
  by_cases h : ecmp e1 r1 e2 r2 < 0
  · rw [emax_lt h]
    simp only [decide_eq_false_iff_not]
    have := hl.1 h
    omega
  · rw [emax_ge h]
    simp only [decide_eq_false_iff_not]
    have : ¬ (e1 < e2 ∨ e1 = e2 ∧ r1 < r2) := fun hh => h (hl.2 hh)
    omega
theorem trans_is (e1 r1 e2 r2 e3 r3 : Int) : 0 < ecmp e1 r1 e2 r2 ∨ ¬ 0 < ecmp e1 r1 e2 r2 ∧ 0 < ecmp e2 r2 e3 r3 ∨ ¬ 0 < ecmp e1 r1 e2 r2 ∧ ¬ 0 < ecmp e2 r2 e3 r3 ∧ ecmp e1 r1 e3 r3 ≤ 0 := by
  have h1 := ecmp_lt e1 r1 e2 r2
  have h2 := ecmp_lt e2 r2 e3 r3
  have h3 := ecmp_lt e1 r1 e3 r3
  have k1 := ecmp_eq0 e1 r1 e2 r2
  have k2 := ecmp_eq0 e2 r2 e3 r3
  have k3 := ecmp_eq0 e1 r1 e3 r3
  generalize ecmp e1 r1 e2 r2 = x at *
  generalize ecmp e2 r2 e3 r3 = y at *
  generalize ecmp e1 r1 e3 r3 = z at *
  by_cases hx : 0 < x
  · exact .inl hx
  · by_cases hy : 0 < y
    · exact .inr (.inl ⟨hx, hy⟩)
    · refine .inr (.inr ⟨hx, hy, ?_⟩)
      have hx' : x < 0 ∨ x = 0 := by omega
      have hy' : y < 0 ∨ y = 0 := by omega
      rw [h1, k1] at hx'
      rw [h2, k2] at hy'
      have : z < 0 ∨ z = 0 := by
        rw [h3, k3]
        omega
      omega

def K (w : World) (e1 r1 e2 r2 e3 r3 : Int) (w' : World) : Prop :=
  w'.cell? ⟨w.heap.size, 0, none⟩ = some (.int .i64 e1) ∧ w'.cell? ⟨w.heap.size, 1, none⟩ = some (.int .i64 r1) ∧ w'.cell? ⟨w.heap.size + 1, 0, none⟩ = some (.int .i64 e2) ∧ w'.cell? ⟨w.heap.size + 1, 1, none⟩ = some (.int .i64 r2) ∧
      w'.cell? ⟨w.heap.size + 1 + 1, 0, none⟩ = some (.int .i64 e3) ∧ w'.cell? ⟨w.heap.size + 1 + 1, 1, none⟩ = some (.int .i64 r3) ∧ Below w.heap.size w w' ∧ w.heap.size + 3 ≤ w'.heap.size
theorem K_start (w : World) (e1 r1 e2 r2 e3 r3 : Int) : K w e1 r1 e2 r2 e3 r3 (((w.alloc (Obj.cells #[Value.int IntKind.i64 e1, Value.int IntKind.i64 r1] 37)).alloc
              (Obj.cells #[Value.int IntKind.i64 e2, Value.int IntKind.i64 r2] 37)).alloc (Obj.cells #[Value.int IntKind.i64 e3, Value.int IntKind.i64 r3] 37)) := by
  refine ⟨by go_simp, by go_simp, by go_simp, by go_simp, by go_simp, by go_simp, (((Below.refl _ _).alloc (Nat.le_refl _) _).alloc (by simp) _).alloc (by simp; omega) _, by simp⟩
theorem K_drew {w w' : World} {e1 r1 e2 r2 e3 r3 : Int} (h : K w e1 r1 e2 r2 e3 r3 w') : K w e1 r1 e2 r2 e3 r3 w'.drew := by
  obtain ⟨h1, h2, h3, h4, h5, h6, h7, h8⟩ := h
  exact ⟨h1, h2, h3, h4, h5, h6, h7.drew, h8⟩
theorem K_call {w w' w'' : World} {e1 r1 e2 r2 e3 r3 : Int} (h : K w e1 r1 e2 r2 e3 r3 w') (hb : Below w'.heap.size w' w'') : K w e1 r1 e2 r2 e3 r3 w'' := by
  obtain ⟨h1, h2, h3, h4, h5, h6, h7, h8⟩ := h
  obtain ⟨hc, _⟩ := bcell hb
  exact ⟨(hc _ _ (by omega)).trans h1, (hc _ _ (by omega)).trans h2, (hc _ _ (by omega)).trans h3, (hc _ _ (by omega)).trans h4, (hc _ _ (by omega)).trans h5, (hc _ _ (by omega)).trans h6,
    h7.trans (hb.mono (by omega)), Nat.le_trans h8 hb.size⟩

set_option maxHeartbeats 1000000 in
theorem walk (e1 r1 e2 r2 e3 r3 : Int) (w : World) :
    Calls Try.prog 5 #[.agg #[.int .i64 e1, .int .i64 r1], .agg #[.int .i64 e2, .int .i64 r2], .agg #[.int .i64 e3, .int .i64 r3]] w (Yes w) := by
  have g1 : (!((chkF e1 r1 == 0) == mayB e1 r1)) = false := by unfold chkF; cases mayB e1 r1 <;> rfl
  have g2 : (!(decide (ecmp e1 r1 e2 r2 < 0) == lessB e1 r1 e2 r2)) = false := by
    have := ecmp_lt e1 r1 e2 r2
    unfold lessB
    simp [this]
  have g3 : (!((ecmp e1 r1 e2 r2 == 0) == (e1 == e2 && r1 == r2))) = false := by
    have := ecmp_eq0 e1 r1 e2 r2
    rw [Bool.not_eq_false', beq_iff_eq, Bool.eq_iff_iff]
    simpa using this
  have g4 : (ecmp e2 r2 e1 r1 != -ecmp e1 r1 e2 r2) = false := by
    rw [ecmp_neg]
    simp
  obtain ⟨g5, g6⟩ := ecmp_bd e1 r1 e2 r2
  have HM := Law.hide (max_is e1 r1 e2 r2)
  have HL := Law.hide (max_not_less e1 r1 e2 r2)
  have HT := Law.hide (trans_is e1 r1 e2 r2 e3 r3)
  have g7 := eq_run e1 r1 e2 r2
  have g9 : decide (ecmp e1 r1 e2 r2 < -1) = false := by simp; omega
  have g10 : decide (1 < ecmp e1 r1 e2 r2) = false := by simp; omega
  have g8 : IntKind.i64.wrap (-ecmp e1 r1 e2 r2) = -ecmp e1 r1 e2 r2 := IntWalk.i64_in _ (by omega)
  go_enter Try.func5, Try.ntmps5
  go_wp2_with fail
  have hk := K_start w e1 r1 e2 r2 e3 r3
  generalize (((w.alloc (Obj.cells #[Value.int IntKind.i64 e1, Value.int IntKind.i64 r1] 37)).alloc
              (Obj.cells #[Value.int IntKind.i64 e2, Value.int IntKind.i64 r2] 37)).alloc (Obj.cells #[Value.int IntKind.i64 e3, Value.int IntKind.i64 r3] 37)) = w0 at *
  go_region_held3 (fun w' => w'.cell? ⟨w.heap.size, 0, none⟩ = some (.int .i64 e1) ∧ w'.cell? ⟨w.heap.size, 1, none⟩ = some (.int .i64 r1) ∧ w'.cell? ⟨w.heap.size + 1, 0, none⟩ = some (.int .i64 e2) ∧ w'.cell? ⟨w.heap.size + 1, 1, none⟩ = some (.int .i64 r2) ∧
      w'.cell? ⟨w.heap.size + 1 + 1, 0, none⟩ = some (.int .i64 e3) ∧ w'.cell? ⟨w.heap.size + 1 + 1, 1, none⟩ = some (.int .i64 r3) ∧ Below w.heap.size w w' ∧ w.heap.size + 3 ≤ w'.heap.size)
    (first | exact K_drew hk | exact K_call (by assumption) (by assumption))
    (first | (go_at_call 24; refine (compare_e _ _ _ _ _).mono ?_; rintro e w1 ⟨rfl, hb⟩))
  rename_i hS
  clear hk
  go_wp2_with fail
  go_region_held3 (fun w' => w'.cell? ⟨w.heap.size, 0, none⟩ = some (.int .i64 e1) ∧ w'.cell? ⟨w.heap.size, 1, none⟩ = some (.int .i64 r1) ∧ w'.cell? ⟨w.heap.size + 1, 0, none⟩ = some (.int .i64 e2) ∧ w'.cell? ⟨w.heap.size + 1, 1, none⟩ = some (.int .i64 r2) ∧
      w'.cell? ⟨w.heap.size + 1 + 1, 0, none⟩ = some (.int .i64 e3) ∧ w'.cell? ⟨w.heap.size + 1 + 1, 1, none⟩ = some (.int .i64 r3) ∧ Below w.heap.size w w' ∧ w.heap.size + 3 ≤ w'.heap.size)
    (first | exact K_drew (by assumption) | exact K_call (by assumption) (by assumption))
    (first
      | (go_at_call 24; refine (compare_e _ _ _ _ _).mono ?_; rintro e w1 ⟨rfl, hb⟩)
      | (go_at_call 25; refine (check_f _ _ _).mono ?_; rintro e w1 ⟨rfl, hb⟩)
      | (go_at_call 26; refine (may_any _ _ _).mono ?_; rintro e w1 ⟨rfl, hb⟩)
      | (go_at_call 27; refine (less_any _ _ _ _ _).mono ?_; rintro e w1 ⟨rfl, hb⟩))
  rename_i hS
  clear g1 g2 g3 g4 g9 g10 g8 g7
  obtain ⟨q1, q2, q3, q4, q5, q6, q7, q8⟩ := hS
  have q9 : w.heap.size < w1.heap.size := by omega
  have q10 : w.heap.size + 1 < w1.heap.size := by omega
  have q11 : w.heap.size + 1 + 1 < w1.heap.size := by omega
  go_wp2_with fail
  refine (max_any _ _ _ _ _).mono ?_
  rintro e w2 ⟨rfl, hb2⟩
  obtain ⟨hc, hf⟩ := bcell hb2
  have hz := hb2.size
  have p1 := (hc _ 0 q9).trans q1
  have p2 := (hc _ 1 q9).trans q2
  have p3 := (hc _ 0 q10).trans q3
  have p4 := (hc _ 1 q10).trans q4
  have p5 := q7.trans (hb2.mono (by omega))
  have p9 : w.heap.size < w2.heap.size := by omega
  have p10 : w.heap.size + 1 < w2.heap.size := by omega
  clear hc hf q1 q2 q3 q4 q5 q6
  have hm := HM.out
  obtain ⟨hl1, hl2⟩ := HL.out
  have ht := HT.out
  have f1 := eq_run (emax e1 r1 e2 r2).1 (emax e1 r1 e2 r2).2 e1 r1
  have f2 := eq_run (emax e1 r1 e2 r2).1 (emax e1 r1 e2 r2).2 e2 r2
  clear HM HL HT
  generalize emax e1 r1 e2 r2 = m at *
  obtain ⟨m1, m2⟩ := m
  rcases hm with hm | ⟨hm, hm2⟩ <;> rcases ht with ht | ⟨ht, ht1⟩ | ⟨ht, ht1, ht2⟩
  all_goals
    go_wp2_with fail
    refine (less_any _ _ _ _ _).mono ?_
    rintro e w3 ⟨rfl, hb3⟩
    obtain ⟨hc3, _⟩ := bcell hb3
    have hz3 := hb3.size
    simp at hz3
    have r3 : w3.cell? ⟨w.heap.size + 1, 0, none⟩ = some (.int .i64 e2) := (hc3 _ _ (by simp; omega)).trans (by go_simp)
    have r4 : w3.cell? ⟨w.heap.size + 1, 1, none⟩ = some (.int .i64 r2) := (hc3 _ _ (by simp; omega)).trans (by go_simp)
    have r5 : w3.cell? ⟨w2.heap.size, 0, none⟩ = some (.int .i64 m1) := (hc3 _ _ (by simp)).trans (by go_simp)
    have r6 : w3.cell? ⟨w2.heap.size, 1, none⟩ = some (.int .i64 m2) := (hc3 _ _ (by simp)).trans (by go_simp)
    have r7 : Below w.heap.size w w3 := (p5.alloc (by omega) _).trans (hb3.mono (by simp; omega))
    clear hc3
    go_wp2_with fail
    refine (less_any _ _ _ _ _).mono ?_
    rintro e w4 ⟨rfl, hb4⟩
    have r8 : Below w.heap.size w w4 := r7.trans (hb4.mono (by omega))
    have hz4 := hb4.size
    go_wp2_with fail
    refine (EidAfter.awake_any _).mono ?_
    rintro e w5 ⟨rfl, hb5⟩
    go_wp2_with fail
    go_ret
    exact ⟨rfl, r8.trans (hb5.mono (by omega))⟩

theorem own : ownKnob Try.prog.godebug = none := by kernel_rfl
theorem laidOut : laidOutB Try.prog = true := by kernel_rfl

set_option maxRecDepth 100000 in
theorem lifted (os : Os) (started : os.Started) (H : Type) (enc : TypeId × Value → H) :
    ReturnsInHanded {} Try.checked os 5 .any (Rows.eidOrdersSpec.pre6 enc Try.prog Try.f5 Rows.eidOrdersRow.domain false) (Rows.eidOrdersSpec.post enc Try.prog Try.f5 false true false false) := by
  refine returnsInHanded_of_change (C := Try.checked) own started (by kernel_rfl) Try.func5
    (ChangeSpec.witness6 (enc := enc) (C := Try.checked) false ⟨#[], #[.agg #[.int .i64 0, .int .i64 0], .agg #[.int .i64 0, .int .i64 0], .agg #[.int .i64 0, .int .i64 0]], []⟩ 8 (by kernel_rfl) (by kernel_rfl) (by kernel_rfl) (by kernel_rfl)) ?_
  intro W base args ds gs before hval0 hW _ _
  have hval : ∀ (j : Nat) t v, Try.f5.params[j]? = some t → args[j]? = some v → Value.okWide Try.prog W .any base t v := hval0
  have hW' := hW
  obtain ⟨p, q, hA0, hV, rfl, _, _⟩ := hW
  have hA : DataW.TrodAll enc Try.prog W 0 (fun _ => true) true Try.f5.params.toList args.toList ds p := hA0
  rw [Try.params5] at hA hval
  obtain ⟨v0, v1, v2, d0, d1, d2, p0, p1, p2, rfl, rfl, rfl, h0, h1, h2⟩ := trodAll_three hA
  obtain ⟨rfl, rfl⟩ := trodVars_none hV
  obtain ⟨c0x0, c0x1, y0x0, y0x1, m0, rfl, rfl, rfl, hy0x0, hy0x1⟩ := open_agg2 Try.underlying37 (by kernel_rfl) (by kernel_rfl) (hval 0 37 v0 rfl rfl) h0
  obtain ⟨a0x0, e0x0, rfl, w0x0⟩ := DataW.trod_int Try.underlying3 hy0x0
  obtain ⟨a0x1, e0x1, rfl, w0x1⟩ := DataW.trod_int Try.underlying3 hy0x1
  simp at e0x0 e0x1
  subst e0x0 e0x1
  obtain ⟨c1x0, c1x1, y1x0, y1x1, m1, rfl, rfl, rfl, hy1x0, hy1x1⟩ := open_agg2 Try.underlying37 (by kernel_rfl) (by kernel_rfl) (hval 1 37 v1 rfl rfl) h1
  obtain ⟨a1x0, e1x0, rfl, w1x0⟩ := DataW.trod_int Try.underlying3 hy1x0
  obtain ⟨a1x1, e1x1, rfl, w1x1⟩ := DataW.trod_int Try.underlying3 hy1x1
  simp at e1x0 e1x1
  subst e1x0 e1x1
  obtain ⟨c2x0, c2x1, y2x0, y2x1, m2, rfl, rfl, rfl, hy2x0, hy2x1⟩ := open_agg2 Try.underlying37 (by kernel_rfl) (by kernel_rfl) (hval 2 37 v2 rfl rfl) h2
  obtain ⟨a2x0, e2x0, rfl, w2x0⟩ := DataW.trod_int Try.underlying3 hy2x0
  obtain ⟨a2x1, e2x1, rfl, w2x1⟩ := DataW.trod_int Try.underlying3 hy2x1
  simp at e2x0 e2x1
  subst e2x0 e2x1
  refine (walk a0x0 a0x1 a1x0 a1x1 a2x0 a2x1 W).mono fun e W' ⟨he, hb⟩ => ?_
  subst he
  exact ⟨_, rfl, law_post laidOut (by kernel_rfl) (by kernel_rfl) Try.underlying4 rfl hW' rfl hb⟩

theorem proved : Rows.EidOrdersSaid :=
  OpenClaim.holds_of_wide 5 Try.f5 rfl rfl rfl rfl rfl rfl rfl ⟨rfl, rfl, rfl, rfl, rfl⟩ rfl rfl rfl rfl rfl (by kernel_rfl) Try.func5 (by kernel_rfl)
    (of_decide_eq_true (by kernel_rfl)) (by unfold Func.isWrapper; first | (rw [if_pos (by decide +kernel)]; kernel_rfl) | (rw [if_neg (by decide +kernel)]; exact ⟨rfl, rfl⟩))
    (fun os started H enc _ => lifted os started H enc)
end Go.Proofs.Ytcbfccadodikgaa.EidOrders
