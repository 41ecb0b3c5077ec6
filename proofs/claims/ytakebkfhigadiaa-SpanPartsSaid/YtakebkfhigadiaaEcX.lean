/-
  What edge.Compare tells of two edges, and what it makes of the world: draws and new blocks, nothing else. No condition.
-/
import Derived.Test.YtakebkfhigadiaaCmp
import Derived.StillTailTactics
import Derived.Shelf.SlSortCmp.WholeK
namespace Go.Proofs.Ytakebkfhigadiaa.EcX
open Go.RowKit Go.Proofs.Ytakebkfhigadiaa.Law Go.Proofs.Ytakebkfhigadiaa.Cmp Go.Sort

theorem still_of {P : Program} {f : FuncId} {args : Array Value} {w : World} {v : Value} (h : Calls P f args w fun e w' => e = .returned v ∧ w = w') :
    Calls P f args w fun e w' => e = .returned v ∧ w' = w := h.mono fun _ _ ⟨a, b⟩ => ⟨a, b.symm⟩
theorem bne_ff {a b : Int} (h : a ≠ b) : (a == b) = false := by simpa using h
/-- Edges held against each other, whole. -/
theorem eq_run (a b c x y z : Int) (w : World) : (Op.equalIn 10000 63 (.agg #[.int .i64 a, .int .i64 b, .int .i64 c]) (.agg #[.int .i64 x, .int .i64 y, .int .i64 z])).run Try.prog w = .ok (a == x && (b == y && c == z)) w := by
  cases h : a == x
  · cases h' : b == y
    · go_simp
    · go_simp
  · cases h' : b == y
    · go_simp
    · by_cases h2 : c = z
      · subst h2
        go_simp
      · have h3 : (c == z) = false := bne_ff h2
        go_simp

def cmpF (a b c x y z : Int) : Int := orF [sgn c z, sgn a x, sgn b y]
def lessE (a b c x y z : Int) : Bool := decide (c < z ∨ c = z ∧ (a < x ∨ a = x ∧ b < y))
theorem cmpF_bd (a b c x y z : Int) : -1 ≤ cmpF a b c x y z ∧ cmpF a b c x y z ≤ 1 := by
  unfold cmpF orF orF orF orF
  have := sgn_bd c z
  have := sgn_bd a x
  have := sgn_bd b y
  (repeat' split) <;> omega
theorem cmpF_lt (a b c x y z : Int) : (cmpF a b c x y z < 0) ↔ (c < z ∨ c = z ∧ (a < x ∨ a = x ∧ b < y)) := by
  unfold cmpF orF orF orF orF sgn
  (repeat' split) <;> omega
theorem cmpF_eq0 (a b c x y z : Int) : (cmpF a b c x y z = 0) ↔ (a = x ∧ b = y ∧ c = z) := by
  unfold cmpF orF orF orF orF sgn
  (repeat' split) <;> omega
theorem cmpF_neg (a b c x y z : Int) : cmpF x y z a b c = - cmpF a b c x y z := by
  unfold cmpF orF orF orF orF sgn
  (repeat' split) <;> omega
/-- A world that is w but for draws and blocks behind. -/
def Gr (w w' : World) : Prop := ∃ q os', w' = grow (w.drewN q) os'
theorem Gr.alloc {w w' : World} (h : Gr w w') (o : Obj) : Gr w (w'.alloc o) := by
  obtain ⟨q, os, rfl⟩ := h
  exact ⟨q, os ++ #[o], by rw [alloc_eq_grow, grow_grow]⟩
theorem Gr.drew {w w' : World} (h : Gr w w') : Gr w w'.drew := by
  obtain ⟨q, os, rfl⟩ := h
  exact ⟨q + 1, os, rfl⟩
theorem Gr.refl (w : World) : Gr w w := ⟨0, #[], by rw [grow_empty]; rfl⟩

set_option maxRecDepth 20000 in
set_option maxHeartbeats 400000 in
theorem compare_ne (a b c x y z : Int) (w : World) (hne : (a == x && (b == y && c == z)) = false) : Calls Try.prog 60 #[.agg #[.int .i64 a, .int .i64 b, .int .i64 c], .agg #[.int .i64 x, .int .i64 y, .int .i64 z]] w
    fun e w' => e = .returned (.int .i64 (cmpF a b c x y z)) ∧ Gr w w' := by
  have he := eq_run a b c x y z
  rw [hne] at he
  clear hne
  go_enter Try.func60, Try.ntmps60
  go_wp2
  refine wp_region_still_tail 15 (by kernel_rfl) (by kernel_rfl) ?_
  simp only [List.take_succ_cons, List.take_zero, List.drop_succ_cons, List.drop_zero]
  have hb : Gr w (((w.alloc (Obj.cells #[Value.int IntKind.i64 a, Value.int IntKind.i64 b, Value.int IntKind.i64 c] 63)).alloc (Obj.cells #[Value.int IntKind.i64 x, Value.int IntKind.i64 y, Value.int IntKind.i64 z] 63)).drew) := (((Gr.refl _).alloc _).alloc _).drew
  have k00 : (((w.alloc (Obj.cells #[Value.int IntKind.i64 a, Value.int IntKind.i64 b, Value.int IntKind.i64 c] 63)).alloc (Obj.cells #[Value.int IntKind.i64 x, Value.int IntKind.i64 y, Value.int IntKind.i64 z] 63)).drew).cell? ⟨w.heap.size, 0, none⟩ = some (.int .i64 a) := by go_simp
  have k01 : (((w.alloc (Obj.cells #[Value.int IntKind.i64 a, Value.int IntKind.i64 b, Value.int IntKind.i64 c] 63)).alloc (Obj.cells #[Value.int IntKind.i64 x, Value.int IntKind.i64 y, Value.int IntKind.i64 z] 63)).drew).cell? ⟨w.heap.size, 1, none⟩ = some (.int .i64 b) := by go_simp
  have k02 : (((w.alloc (Obj.cells #[Value.int IntKind.i64 a, Value.int IntKind.i64 b, Value.int IntKind.i64 c] 63)).alloc (Obj.cells #[Value.int IntKind.i64 x, Value.int IntKind.i64 y, Value.int IntKind.i64 z] 63)).drew).cell? ⟨w.heap.size, 2, none⟩ = some (.int .i64 c) := by go_simp
  have k10 : (((w.alloc (Obj.cells #[Value.int IntKind.i64 a, Value.int IntKind.i64 b, Value.int IntKind.i64 c] 63)).alloc (Obj.cells #[Value.int IntKind.i64 x, Value.int IntKind.i64 y, Value.int IntKind.i64 z] 63)).drew).cell? ⟨w.heap.size + 1, 0, none⟩ = some (.int .i64 x) := by go_simp
  have k11 : (((w.alloc (Obj.cells #[Value.int IntKind.i64 a, Value.int IntKind.i64 b, Value.int IntKind.i64 c] 63)).alloc (Obj.cells #[Value.int IntKind.i64 x, Value.int IntKind.i64 y, Value.int IntKind.i64 z] 63)).drew).cell? ⟨w.heap.size + 1, 1, none⟩ = some (.int .i64 y) := by go_simp
  have k12 : (((w.alloc (Obj.cells #[Value.int IntKind.i64 a, Value.int IntKind.i64 b, Value.int IntKind.i64 c] 63)).alloc (Obj.cells #[Value.int IntKind.i64 x, Value.int IntKind.i64 y, Value.int IntKind.i64 z] 63)).drew).cell? ⟨w.heap.size + 1, 2, none⟩ = some (.int .i64 z) := by go_simp
  change wpStill _ _ (World.drew _) (fun a' => wpList _ _ _ _ a' (World.drew _)) _ _
  generalize (((w.alloc (Obj.cells #[Value.int IntKind.i64 a, Value.int IntKind.i64 b, Value.int IntKind.i64 c] 63)).alloc (Obj.cells #[Value.int IntKind.i64 x, Value.int IntKind.i64 y, Value.int IntKind.i64 z] 63)).drew) = w2 at *
  repeat still_step
  still_call (still_of (cmp_any _ _ _))
  repeat still_step
  still_call (still_of (cmp_any _ _ _))
  repeat still_step
  still_call (still_of (cmp_any _ _ _))
  repeat still_step
  refine wpStill_nil ?_
  have HB := Law.hide hb; clear hb k00 k01 k02 k10 k11 k12
  go_wp2_with fail
  refine (or_any [sgn c z, sgn a x, sgn b y] w2.heap.size _ (by simp) ?_).mono ?_
  · intro i v hx
    match i, hx with
    | 0, hx => simp at hx; subst hx; go_simp
    | 1, hx => simp at hx; subst hx; go_simp
    | 2, hx => simp at hx; subst hx; go_simp
  rintro e w' ⟨rfl, rfl⟩
  go_wp2_with fail
  go_ret
  exact ⟨rfl, HB.out.alloc _⟩
theorem compare_same (a b c : Int) (w : World) : Calls Try.prog 60 #[.agg #[.int .i64 a, .int .i64 b, .int .i64 c], .agg #[.int .i64 a, .int .i64 b, .int .i64 c]] w
    fun e w' => e = .returned (.int .i64 0) ∧ Gr w w' := by
  go_enter Try.func60, Try.ntmps60
  go_wp2
  go_ret
  exact ⟨rfl, ((Gr.refl _).alloc _).alloc _⟩
theorem compare_any (a b c x y z : Int) (w : World) : Calls Try.prog 60 #[.agg #[.int .i64 a, .int .i64 b, .int .i64 c], .agg #[.int .i64 x, .int .i64 y, .int .i64 z]] w
    fun e w' => e = .returned (.int .i64 (cmpF a b c x y z)) ∧ Gr w w' := by
  cases h : (a == x && (b == y && c == z))
  · exact compare_ne a b c x y z w h
  · simp only [Bool.and_eq_true, beq_iff_eq] at h
    obtain ⟨rfl, rfl, rfl⟩ := h
    rw [show cmpF a b c a b c = 0 from (cmpF_eq0 a b c a b c).2 ⟨rfl, rfl, rfl⟩]
    exact compare_same a b c w
end Go.Proofs.Ytakebkfhigadiaa.EcX
