/-
  How edges are ordered: what Compare tells, and the reference's Less. No condition.
-/
import Derived.Test.YtcbfccadodikgaaEdge
namespace Go.Proofs.Ytcbfccadodikgaa.EdgeCmp
open Go.RowKit Go.Proofs.Ytcbfccadodikgaa.Law Go.Proofs.Ytcbfccadodikgaa.Node Go.Proofs.Ytcbfccadodikgaa.Cmp Go.Proofs.Ytcbfccadodikgaa.Edge

/-- Edges held against each other, whole. -/
theorem eq_run (a b c x y z : Int) (w : World) : (Op.equalIn 10000 23 (.agg #[.int .i64 a, .int .i64 b, .int .i64 c]) (.agg #[.int .i64 x, .int .i64 y, .int .i64 z])).run Try.prog w = .ok (a == x && (b == y && c == z)) w := by
  cases h : a == x
  · cases h' : b == y
    · go_simp
    · go_simp
  · cases h' : b == y
    · go_simp
    · by_cases h2 : c = z
      · subst h2
        go_simp
      · have h3 : (c == z) = false := bne_ff h2
        go_simp

def cmpF (a b c x y z : Int) : Int := orF [sgn c z, sgn a x, sgn b y]
def lessE (a b c x y z : Int) : Bool := decide (c < z ∨ c = z ∧ (a < x ∨ a = x ∧ b < y))
theorem cmpF_bd (a b c x y z : Int) : -1 ≤ cmpF a b c x y z ∧ cmpF a b c x y z ≤ 1 := by
  unfold cmpF orF orF orF orF
  have := sgn_bd c z
  have := sgn_bd a x
  have := sgn_bd b y
  (repeat' split) <;> omega
theorem cmpF_lt (a b c x y z : Int) : (cmpF a b c x y z < 0) ↔ (c < z ∨ c = z ∧ (a < x ∨ a = x ∧ b < y)) := by
  unfold cmpF orF orF orF orF sgn
  (repeat' split) <;> omega
theorem cmpF_eq0 (a b c x y z : Int) : (cmpF a b c x y z = 0) ↔ (a = x ∧ b = y ∧ c = z) := by
  unfold cmpF orF orF orF orF sgn
  (repeat' split) <;> omega
theorem cmpF_neg (a b c x y z : Int) : cmpF x y z a b c = - cmpF a b c x y z := by
  unfold cmpF orF orF orF orF sgn
  (repeat' split) <;> omega
theorem cmpF_gt (a b c x y z : Int) : (0 < cmpF a b c x y z) ↔ (z < c ∨ z = c ∧ (x < a ∨ x = a ∧ y < b)) := by
  have h := cmpF_lt x y z a b c
  have := cmpF_neg a b c x y z
  omega

set_option maxHeartbeats 400000 in
theorem compare_ne (a b c x y z : Int) (w : World) (hne : (a == x && (b == y && c == z)) = false) : Calls Try.prog 22 #[.agg #[.int .i64 a, .int .i64 b, .int .i64 c], .agg #[.int .i64 x, .int .i64 y, .int .i64 z]] w
    (Makes (.int .i64 (cmpF a b c x y z)) w) := by
  have he := eq_run a b c x y z
  rw [hne] at he
  clear hne
  go_enter Try.func22, Try.ntmps22
  go_wp2
  refine wp_region_still_tail 15 (by kernel_rfl) (by kernel_rfl) ?_
  simp only [List.take_succ_cons, List.take_zero, List.drop_succ_cons, List.drop_zero]
  have hb : Below w.heap.size w (((w.alloc (Obj.cells #[Value.int IntKind.i64 a, Value.int IntKind.i64 b, Value.int IntKind.i64 c] 23)).alloc (Obj.cells #[Value.int IntKind.i64 x, Value.int IntKind.i64 y, Value.int IntKind.i64 z] 23)).drew) := (((Below.refl _ _).alloc (Nat.le_refl _) _).alloc (by simp) _).drew
  have k00 : (((w.alloc (Obj.cells #[Value.int IntKind.i64 a, Value.int IntKind.i64 b, Value.int IntKind.i64 c] 23)).alloc (Obj.cells #[Value.int IntKind.i64 x, Value.int IntKind.i64 y, Value.int IntKind.i64 z] 23)).drew).cell? ⟨w.heap.size, 0, none⟩ = some (.int .i64 a) := by go_simp
  have k01 : (((w.alloc (Obj.cells #[Value.int IntKind.i64 a, Value.int IntKind.i64 b, Value.int IntKind.i64 c] 23)).alloc (Obj.cells #[Value.int IntKind.i64 x, Value.int IntKind.i64 y, Value.int IntKind.i64 z] 23)).drew).cell? ⟨w.heap.size, 1, none⟩ = some (.int .i64 b) := by go_simp
  have k02 : (((w.alloc (Obj.cells #[Value.int IntKind.i64 a, Value.int IntKind.i64 b, Value.int IntKind.i64 c] 23)).alloc (Obj.cells #[Value.int IntKind.i64 x, Value.int IntKind.i64 y, Value.int IntKind.i64 z] 23)).drew).cell? ⟨w.heap.size, 2, none⟩ = some (.int .i64 c) := by go_simp
  have k10 : (((w.alloc (Obj.cells #[Value.int IntKind.i64 a, Value.int IntKind.i64 b, Value.int IntKind.i64 c] 23)).alloc (Obj.cells #[Value.int IntKind.i64 x, Value.int IntKind.i64 y, Value.int IntKind.i64 z] 23)).drew).cell? ⟨w.heap.size + 1, 0, none⟩ = some (.int .i64 x) := by go_simp
  have k11 : (((w.alloc (Obj.cells #[Value.int IntKind.i64 a, Value.int IntKind.i64 b, Value.int IntKind.i64 c] 23)).alloc (Obj.cells #[Value.int IntKind.i64 x, Value.int IntKind.i64 y, Value.int IntKind.i64 z] 23)).drew).cell? ⟨w.heap.size + 1, 1, none⟩ = some (.int .i64 y) := by go_simp
  have k12 : (((w.alloc (Obj.cells #[Value.int IntKind.i64 a, Value.int IntKind.i64 b, Value.int IntKind.i64 c] 23)).alloc (Obj.cells #[Value.int IntKind.i64 x, Value.int IntKind.i64 y, Value.int IntKind.i64 z] 23)).drew).cell? ⟨w.heap.size + 1, 2, none⟩ = some (.int .i64 z) := by go_simp
  change wpStill _ _ (World.drew _) (fun a' => wpList _ _ _ _ a' (World.drew _)) _ _
  generalize (((w.alloc (Obj.cells #[Value.int IntKind.i64 a, Value.int IntKind.i64 b, Value.int IntKind.i64 c] 23)).alloc (Obj.cells #[Value.int IntKind.i64 x, Value.int IntKind.i64 y, Value.int IntKind.i64 z] 23)).drew) = w2 at *
  repeat still_step
  still_call (still_of (cmp_any _ _ _))
  repeat still_step
  still_call (still_of (cmp_any _ _ _))
  repeat still_step
  still_call (still_of (cmp_any _ _ _))
  repeat still_step
  refine wpStill_nil ?_
  have HB := Law.hide hb; clear hb k00 k01 k02 k10 k11 k12
  go_wp2_with fail
  refine (or_any [sgn c z, sgn a x, sgn b y] w2.heap.size _ (by simp) ?_).mono ?_
  · intro i v hx
    match i, hx with
    | 0, hx => simp at hx; subst hx; go_simp
    | 1, hx => simp at hx; subst hx; go_simp
    | 2, hx => simp at hx; subst hx; go_simp
  rintro e w' ⟨rfl, rfl⟩
  go_wp2_with fail
  go_ret
  exact ⟨rfl, HB.out.alloc HB.out.size _⟩
theorem compare_same (a b c : Int) (w : World) : Calls Try.prog 22 #[.agg #[.int .i64 a, .int .i64 b, .int .i64 c], .agg #[.int .i64 a, .int .i64 b, .int .i64 c]] w
    (Makes (.int .i64 0) w) := by
  go_enter Try.func22, Try.ntmps22
  go_wp2
  go_ret
  exact ⟨rfl, ((Below.refl _ _).alloc (Nat.le_refl _) _).alloc (by simp) _⟩
theorem compare_any (a b c x y z : Int) (w : World) : Calls Try.prog 22 #[.agg #[.int .i64 a, .int .i64 b, .int .i64 c], .agg #[.int .i64 x, .int .i64 y, .int .i64 z]] w
    (Makes (.int .i64 (cmpF a b c x y z)) w) := by
  cases h : (a == x && (b == y && c == z))
  · exact compare_ne a b c x y z w h
  · simp only [Bool.and_eq_true, beq_iff_eq] at h
    obtain ⟨rfl, rfl, rfl⟩ := h
    rw [show cmpF a b c a b c = 0 from (cmpF_eq0 a b c a b c).2 ⟨rfl, rfl, rfl⟩]
    exact compare_same a b c w

theorem less_any (a b c x y z : Int) (w : World) : Calls Try.prog 23 #[.agg #[.int .i64 a, .int .i64 b, .int .i64 c], .agg #[.int .i64 x, .int .i64 y, .int .i64 z]] w (Makes (.bool (lessE a b c x y z)) w) := by
  unfold lessE
  by_cases h0 : c = z
  · subst h0
    by_cases h1 : a < x
    · have h2 : (a == x) = false := bne_ff (by omega)
      go_enter Try.func23, Try.ntmps23
      go_wp2
      go_ret
      exact ⟨ret_bool (by simp [h1]), ((Below.refl _ _).alloc (Nat.le_refl _) _).alloc (by simp) _⟩
    · by_cases h2 : a = x
      · subst h2
        by_cases h3 : b < y
        all_goals
          go_enter Try.func23, Try.ntmps23
          go_wp2
          go_ret
          exact ⟨ret_bool (by simp [h3]), ((Below.refl _ _).alloc (Nat.le_refl _) _).alloc (by simp) _⟩
      · have h3 : (a == x) = false := bne_ff h2
        have H := Law.hide h2; clear h2
        go_enter Try.func23, Try.ntmps23
        go_wp2
        go_ret
        exact ⟨ret_bool (by simp [H.out, h1]), ((Below.refl _ _).alloc (Nat.le_refl _) _).alloc (by simp) _⟩
  · have h1 : (c != z) = true := by simpa using h0
    have H := Law.hide h0; clear h0
    by_cases h2 : c < z
    all_goals
      go_enter Try.func23, Try.ntmps23
      go_wp2
      go_ret
      exact ⟨ret_bool (by simp [H.out, h2]), ((Below.refl _ _).alloc (Nat.le_refl _) _).alloc (by simp) _⟩

theorem awake_any (w : World) : Calls Try.prog 20 #[] w (Makes (.bool true) w) := by
  have ho := of_any 3 1 7
  rw [show ofF 3 1 7 = (1, 3, 7, 0) by decide] at ho
  have ht := other_snd 1 3 7
  have HO := Law.hide ho; have HT := Law.hide ht; clear ho ht
  have n1 : nodeB 64 = true := by decide
  have n2 : nodeB 65 = false := by decide
  go_enter Try.func20, Try.ntmps20
  go_wp2_with fail
  refine (HO.out _).mono ?_
  rintro e w1 ⟨rfl, hb⟩
  have hz := hb.size
  unfold Edged
  go_wp2_with (go_at_call 16; refine (node_any _ _).mono ?_; rintro e w' ⟨rfl, rfl⟩)
  refine (HT.out _ (by omega)).mono ?_
  rintro e w2 ⟨rfl, hb2⟩
  go_wp2_with fail
  go_ret
  exact ⟨rfl, (hb.alloc hz _).trans (hb2.mono (by simp; omega))⟩
end Go.Proofs.Ytcbfccadodikgaa.EdgeCmp
