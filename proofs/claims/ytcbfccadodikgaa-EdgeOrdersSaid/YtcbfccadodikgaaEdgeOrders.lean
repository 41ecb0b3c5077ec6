/-
  EdgeOrders: for every three edges the call tells true, and nothing that was there turns. No condition.
-/
import Derived.Test.YtcbfccadodikgaaRows
import Derived.Test.YtcbfccadodikgaaEdgeCmp
import Derived.Deep.RegionHeld3
import Derived.IntWalk
namespace Go.Proofs.Ytcbfccadodikgaa.EdgeOrders
open Go.RowKit Go.Proofs.Ytcbfccadodikgaa.Law Go.Proofs.Ytcbfccadodikgaa.Node Go.Proofs.Ytcbfccadodikgaa.Cmp Go.Proofs.Ytcbfccadodikgaa.Edge Go.Proofs.Ytcbfccadodikgaa.EdgeCmp
open Go.ChangeShapes Go.WideShapes Go.ChangeAt Go.Joins

def K (w : World) (a b c x y z l m n : Int) (w' : World) : Prop :=
  w'.cell? ⟨w.heap.size, 0, none⟩ = some (.int .i64 a) ∧ w'.cell? ⟨w.heap.size, 1, none⟩ = some (.int .i64 b) ∧ w'.cell? ⟨w.heap.size, 2, none⟩ = some (.int .i64 c) ∧ w'.cell? ⟨w.heap.size + 1, 0, none⟩ = some (.int .i64 x) ∧ w'.cell? ⟨w.heap.size + 1, 1, none⟩ = some (.int .i64 y) ∧ w'.cell? ⟨w.heap.size + 1, 2, none⟩ = some (.int .i64 z) ∧ w'.cell? ⟨w.heap.size + 1 + 1, 0, none⟩ = some (.int .i64 l) ∧ w'.cell? ⟨w.heap.size + 1 + 1, 1, none⟩ = some (.int .i64 m) ∧ w'.cell? ⟨w.heap.size + 1 + 1, 2, none⟩ = some (.int .i64 n) ∧ Below w.heap.size w w' ∧ w.heap.size < w'.heap.size ∧ w.heap.size + 1 < w'.heap.size ∧ w.heap.size + 1 + 1 < w'.heap.size
theorem K_drew {w w' : World} {a b c x y z l m n : Int} (h : K w a b c x y z l m n w') : K w a b c x y z l m n w'.drew := by
  obtain ⟨h0, h1, h2, h3, h4, h5, h6, h7, h8, h9, h10, h11, h12⟩ := h
  exact ⟨h0, h1, h2, h3, h4, h5, h6, h7, h8, h9.drew, h10, h11, h12⟩
theorem K_drewN {w w' : World} {a b c x y z l m n : Int} (h : K w a b c x y z l m n w') (k : Nat) : K w a b c x y z l m n (w'.drewN k) := by
  obtain ⟨h0, h1, h2, h3, h4, h5, h6, h7, h8, h9, h10, h11, h12⟩ := h
  exact ⟨h0, h1, h2, h3, h4, h5, h6, h7, h8, Law.below_drewN h9 k, h10, h11, h12⟩
theorem K_call {w w' w2 : World} {a b c x y z l m n : Int} (h : K w a b c x y z l m n w') (hb : Below w'.heap.size w' w2) : K w a b c x y z l m n w2 := by
  obtain ⟨h0, h1, h2, h3, h4, h5, h6, h7, h8, h9, h10, h11, h12⟩ := h
  exact ⟨((Law.bcell hb).1 _ _ h10).trans h0, ((Law.bcell hb).1 _ _ h10).trans h1, ((Law.bcell hb).1 _ _ h10).trans h2, ((Law.bcell hb).1 _ _ h11).trans h3, ((Law.bcell hb).1 _ _ h11).trans h4, ((Law.bcell hb).1 _ _ h11).trans h5, ((Law.bcell hb).1 _ _ h12).trans h6, ((Law.bcell hb).1 _ _ h12).trans h7, ((Law.bcell hb).1 _ _ h12).trans h8, h9.trans (hb.mono h9.size), Nat.lt_of_lt_of_le h10 hb.size, Nat.lt_of_lt_of_le h11 hb.size, Nat.lt_of_lt_of_le h12 hb.size⟩
theorem K_alloc {w w' : World} {a b c x y z l m n : Int} (h : K w a b c x y z l m n w') (o : Obj) : K w a b c x y z l m n (w'.alloc o) := by
  obtain ⟨h0, h1, h2, h3, h4, h5, h6, h7, h8, h9, h10, h11, h12⟩ := h
  exact ⟨(World.cell?_alloc_lt w' o _ h10).trans h0, (World.cell?_alloc_lt w' o _ h10).trans h1, (World.cell?_alloc_lt w' o _ h10).trans h2, (World.cell?_alloc_lt w' o _ h11).trans h3, (World.cell?_alloc_lt w' o _ h11).trans h4, (World.cell?_alloc_lt w' o _ h11).trans h5, (World.cell?_alloc_lt w' o _ h12).trans h6, (World.cell?_alloc_lt w' o _ h12).trans h7, (World.cell?_alloc_lt w' o _ h12).trans h8, h9.alloc h9.size o, by simp; omega, by simp; omega, by simp; omega⟩

theorem K_start (w : World) (a b c x y z l m n : Int) : K w a b c x y z l m n (((w.alloc (Obj.cells #[Value.int IntKind.i64 a, Value.int IntKind.i64 b, Value.int IntKind.i64 c] 23)).alloc (Obj.cells #[Value.int IntKind.i64 x, Value.int IntKind.i64 y, Value.int IntKind.i64 z] 23)).alloc (Obj.cells #[Value.int IntKind.i64 l, Value.int IntKind.i64 m, Value.int IntKind.i64 n] 23)) := by
  refine ⟨by go_simp, by go_simp, by go_simp, by go_simp, by go_simp, by go_simp, by go_simp, by go_simp, by go_simp, (((Below.refl _ _).alloc (Nat.le_refl _) _).alloc (by simp) _).alloc (by simp; omega) _, by first | (simp; done) | (simp; omega), by first | (simp; done) | (simp; omega), by first | (simp; done) | (simp; omega)⟩

theorem trans_is (a b c x y z l m n : Int) : 0 < cmpF a b c x y z ∨ ¬ 0 < cmpF a b c x y z ∧ 0 < cmpF x y z l m n ∨ ¬ 0 < cmpF a b c x y z ∧ ¬ 0 < cmpF x y z l m n ∧ cmpF a b c l m n ≤ 0 := by
  have h1 := cmpF_gt a b c x y z
  have h2 := cmpF_gt x y z l m n
  have h3 := cmpF_gt a b c l m n
  by_cases hx : 0 < cmpF a b c x y z
  · exact .inl hx
  · by_cases hy : 0 < cmpF x y z l m n
    · exact .inr (.inl ⟨hx, hy⟩)
    · refine .inr (.inr ⟨hx, hy, ?_⟩)
      rw [h1] at hx
      rw [h2] at hy
      have : ¬ 0 < cmpF a b c l m n := by
        rw [h3]
        omega
      omega

set_option maxHeartbeats 1000000 in
theorem walk (a b c x y z l m n : Int) (w : World) : Calls Try.prog 4 #[.agg #[.int .i64 a, .int .i64 b, .int .i64 c], .agg #[.int .i64 x, .int .i64 y, .int .i64 z], .agg #[.int .i64 l, .int .i64 m, .int .i64 n]] w (Yes w) := by
  have g2 : (!(decide (cmpF a b c x y z < 0) == lessE a b c x y z)) = false := by
    have := cmpF_lt a b c x y z
    unfold lessE
    simp [this]
  have g3 : (!((cmpF a b c x y z == 0) == (a == x && (b == y && c == z)))) = false := by
    have := cmpF_eq0 a b c x y z
    rw [Bool.not_eq_false', beq_iff_eq, Bool.eq_iff_iff]
    simpa using this
  have g4 : (cmpF x y z a b c != -cmpF a b c x y z) = false := by
    rw [cmpF_neg]
    simp
  obtain ⟨g5, g6⟩ := cmpF_bd a b c x y z
  have g7 := eq_run a b c x y z
  have g8 : IntKind.i64.wrap (-cmpF a b c x y z) = -cmpF a b c x y z := IntWalk.i64_in _ (by omega)
  have g9 : decide (cmpF a b c x y z < -1) = false := by simp; omega
  have g10 : decide (1 < cmpF a b c x y z) = false := by simp; omega
  have HT := Law.hide (trans_is a b c x y z l m n)
  go_enter Try.func4, Try.ntmps4
  go_wp2_with fail
  have hk := K_start w a b c x y z l m n
  generalize (((w.alloc (Obj.cells #[Value.int IntKind.i64 a, Value.int IntKind.i64 b, Value.int IntKind.i64 c] 23)).alloc (Obj.cells #[Value.int IntKind.i64 x, Value.int IntKind.i64 y, Value.int IntKind.i64 z] 23)).alloc (Obj.cells #[Value.int IntKind.i64 l, Value.int IntKind.i64 m, Value.int IntKind.i64 n] 23)) = w0 at *
  go_region_held3 (fun w' => w'.cell? ⟨w.heap.size, 0, none⟩ = some (.int .i64 a) ∧ w'.cell? ⟨w.heap.size, 1, none⟩ = some (.int .i64 b) ∧ w'.cell? ⟨w.heap.size, 2, none⟩ = some (.int .i64 c) ∧ w'.cell? ⟨w.heap.size + 1, 0, none⟩ = some (.int .i64 x) ∧ w'.cell? ⟨w.heap.size + 1, 1, none⟩ = some (.int .i64 y) ∧ w'.cell? ⟨w.heap.size + 1, 2, none⟩ = some (.int .i64 z) ∧ w'.cell? ⟨w.heap.size + 1 + 1, 0, none⟩ = some (.int .i64 l) ∧ w'.cell? ⟨w.heap.size + 1 + 1, 1, none⟩ = some (.int .i64 m) ∧ w'.cell? ⟨w.heap.size + 1 + 1, 2, none⟩ = some (.int .i64 n) ∧ Below w.heap.size w w' ∧ w.heap.size < w'.heap.size ∧ w.heap.size + 1 < w'.heap.size ∧ w.heap.size + 1 + 1 < w'.heap.size)
    (first | exact K_drew hk | exact K_call (by assumption) (by assumption))
    (first | (go_at_call 22; refine (compare_any _ _ _ _ _ _ _).mono ?_; rintro e w1 ⟨rfl, hb⟩))
  rename_i hS
  clear hk
  have hK : K w a b c x y z l m n w1 := hS
  obtain ⟨q0, q1, q2, q3, q4, q5, q6, q7, q8, q9, q10, q11, q12⟩ := hS
  go_wp2_with fail
  refine (less_any _ _ _ _ _ _ _).mono ?_
  rintro e w2 ⟨rfl, hb2⟩
  have hS := K_call hK hb2
  clear hK q0 q1 q2 q3 q4 q5 q6 q7 q8
  have hK : K w a b c x y z l m n w2 := hS
  obtain ⟨r0, r1, r2, r3, r4, r5, r6, r7, r8, r9, r10, r11, r12⟩ := hS
  go_wp2_with fail
  refine (compare_any _ _ _ _ _ _ _).mono ?_
  rintro e w3 ⟨rfl, hb3⟩
  have hS := K_call hK hb3
  clear hK r0 r1 r2 r3 r4 r5 r6 r7 r8
  obtain ⟨_, _, _, _, _, _, _, _, _, hB, hz, _, _⟩ := hS
  have ht := HT.out
  clear HT
  rcases ht with ht | ⟨ht, ht1⟩ | ⟨ht, ht1, ht2⟩
  all_goals
    go_wp2_with fail
    refine (awake_any _).mono ?_
    rintro e w5 ⟨rfl, hb5⟩
    go_wp2_with fail
    go_ret
    exact ⟨rfl, hB.trans (hb5.mono (by omega))⟩

theorem own : ownKnob Try.prog.godebug = none := by kernel_rfl
theorem laidOut : laidOutB Try.prog = true := by kernel_rfl

set_option maxRecDepth 100000 in
theorem lifted (os : Os) (started : os.Started) (H : Type) (enc : TypeId × Value → H) :
    ReturnsInHanded {} Try.checked os 4 .any (Rows.edgeOrdersSpec.pre6 enc Try.prog Try.f4 Rows.edgeOrdersRow.domain false) (Rows.edgeOrdersSpec.post enc Try.prog Try.f4 false true false false) := by
  refine returnsInHanded_of_change (C := Try.checked) own started (by kernel_rfl) Try.func4
    (ChangeSpec.witness6 (enc := enc) (C := Try.checked) false ⟨#[], #[.agg #[.int .i64 0, .int .i64 0, .int .i64 0], .agg #[.int .i64 0, .int .i64 0, .int .i64 0], .agg #[.int .i64 0, .int .i64 0, .int .i64 0]], []⟩ 8 (by kernel_rfl) (by kernel_rfl) (by kernel_rfl) (by kernel_rfl)) ?_
  intro W base args ds gs before hval0 hW _ _
  have hval : ∀ (j : Nat) t v, Try.f4.params[j]? = some t → args[j]? = some v → Value.okWide Try.prog W .any base t v := hval0
  have hW' := hW
  obtain ⟨p, q, hA0, hV, rfl, _, _⟩ := hW
  have hA : DataW.TrodAll enc Try.prog W 0 (fun _ => true) true Try.f4.params.toList args.toList ds p := hA0
  rw [Try.params4] at hA hval
  obtain ⟨v0, v1, v2, d0, d1, d2, p0, p1, p2, rfl, rfl, rfl, h0, h1, h2⟩ := trodAll_three hA
  obtain ⟨rfl, rfl⟩ := trodVars_none hV
  obtain ⟨c0x0, c0x1, c0x2, y0x0, y0x1, y0x2, m0, rfl, rfl, rfl, hy0x0, hy0x1, hy0x2⟩ := open_agg3 Try.underlying23 (by kernel_rfl) (by kernel_rfl) (hval 0 23 v0 rfl rfl) h0
  obtain ⟨a0x0, e0x0, rfl, w0x0⟩ := DataW.trod_int Try.underlying3 hy0x0
  obtain ⟨a0x1, e0x1, rfl, w0x1⟩ := DataW.trod_int Try.underlying3 hy0x1
  obtain ⟨a0x2, e0x2, rfl, w0x2⟩ := DataW.trod_int Try.underlying3 hy0x2
  simp at e0x0 e0x1 e0x2
  subst e0x0 e0x1 e0x2
  obtain ⟨c1x0, c1x1, c1x2, y1x0, y1x1, y1x2, m1, rfl, rfl, rfl, hy1x0, hy1x1, hy1x2⟩ := open_agg3 Try.underlying23 (by kernel_rfl) (by kernel_rfl) (hval 1 23 v1 rfl rfl) h1
  obtain ⟨a1x0, e1x0, rfl, w1x0⟩ := DataW.trod_int Try.underlying3 hy1x0
  obtain ⟨a1x1, e1x1, rfl, w1x1⟩ := DataW.trod_int Try.underlying3 hy1x1
  obtain ⟨a1x2, e1x2, rfl, w1x2⟩ := DataW.trod_int Try.underlying3 hy1x2
  simp at e1x0 e1x1 e1x2
  subst e1x0 e1x1 e1x2
  obtain ⟨c2x0, c2x1, c2x2, y2x0, y2x1, y2x2, m2, rfl, rfl, rfl, hy2x0, hy2x1, hy2x2⟩ := open_agg3 Try.underlying23 (by kernel_rfl) (by kernel_rfl) (hval 2 23 v2 rfl rfl) h2
  obtain ⟨a2x0, e2x0, rfl, w2x0⟩ := DataW.trod_int Try.underlying3 hy2x0
  obtain ⟨a2x1, e2x1, rfl, w2x1⟩ := DataW.trod_int Try.underlying3 hy2x1
  obtain ⟨a2x2, e2x2, rfl, w2x2⟩ := DataW.trod_int Try.underlying3 hy2x2
  simp at e2x0 e2x1 e2x2
  subst e2x0 e2x1 e2x2
  refine (walk a0x0 a0x1 a0x2 a1x0 a1x1 a1x2 a2x0 a2x1 a2x2 W).mono fun e W' ⟨he, hb⟩ => ?_
  subst he
  exact ⟨_, rfl, law_post laidOut (by kernel_rfl) (by kernel_rfl) Try.underlying4 rfl hW' rfl hb⟩

theorem proved : Rows.EdgeOrdersSaid :=
  OpenClaim.holds_of_wide 4 Try.f4 rfl rfl rfl rfl rfl rfl rfl ⟨rfl, rfl, rfl, rfl, rfl⟩ rfl rfl rfl rfl rfl (by kernel_rfl) Try.func4 (by kernel_rfl)
    (of_decide_eq_true (by kernel_rfl)) (by unfold Func.isWrapper; first | (rw [if_pos (by decide +kernel)]; kernel_rfl) | (rw [if_neg (by decide +kernel)]; exact ⟨rfl, rfl⟩))
    (fun os started H enc _ => lifted os started H enc)
end Go.Proofs.Ytcbfccadodikgaa.EdgeOrders
