
/-
  What edge.Compare tells of two edges, and what it makes of the world: draws and new blocks, nothing else. No condition.
-/
import Derived.Test.YtphbfoafgfnmmaaCmp
import Derived.StillTailTactics
import Derived.Shelf.SlSortCmp.WholeK
namespace Go.Proofs.Ytphbfoafgfnmmaa.EcX
open Go.RowKit Go.Proofs.Ytphbfoafgfnmmaa.Law Go.Proofs.Ytphbfoafgfnmmaa.Cmp Go.Sort

theorem still_of {P : Program} {f : FuncId} {args : Array Value} {w : World} {v : Value} (h : Calls P f args w fun e w' => e = .returned v ∧ w = w') :
    Calls P f args w fun e w' => e = .returned v ∧ w' = w := h.mono fun _ _ ⟨a, b⟩ => ⟨a, b.symm⟩
theorem bne_ff {a b : Int} (h : a ≠ b) : (a == b) = false := by simpa using h
/-- Edges held against each other, whole. -/
theorem eq_run (a b c x y z : Int) (w : World) : (Op.equalIn 10000 48 (.agg #[.int .i64 a, .int .i64 b, .int .i64 c]) (.agg #[.int .i64 x, .int .i64 y, .int .i64 z])).run Try.prog w = .ok (a == x && (b == y && c == z)) w := by
  cases h : a == x
  · cases h' : b == y
    · go_simp
    · go_simp
  · cases h' : b == y
    · go_simp
    · by_cases h2 : c = z
      · subst h2
        go_simp
      · have h3 : (c == z) = false := bne_ff h2
        go_simp

def cmpF (a b c x y z : Int) : Int := orF [sgn c z, sgn a x, sgn b y]
def lessE (a b c x y z : Int) : Bool := decide (c < z ∨ c = z ∧ (a < x ∨ a = x ∧ b < y))
theorem cmpF_bd (a b c x y z : Int) : -1 ≤ cmpF a b c x y z ∧ cmpF a b c x y z ≤ 1 := by
  unfold cmpF orF orF orF orF
  have := sgn_bd c z
  have := sgn_bd a x
  have := sgn_bd b y
  (repeat' split) <;> omega
theorem cmpF_lt (a b c x y z : Int) : (cmpF a b c x y z < 0) ↔ (c < z ∨ c = z ∧ (a < x ∨ a = x ∧ b < y)) := by
  unfold cmpF orF orF orF orF sgn
  (repeat' split) <;> omega
theorem cmpF_eq0 (a b c x y z : Int) : (cmpF a b c x y z = 0) ↔ (a = x ∧ b = y ∧ c = z) := by
  unfold cmpF orF orF orF orF sgn
  (repeat' split) <;> omega
theorem cmpF_neg (a b c x y z : Int) : cmpF x y z a b c = - cmpF a b c x y z := by
  unfold cmpF orF orF orF orF sgn
  (repeat' split) <;> omega
/-- A world that is w but for draws and blocks behind. -/
def Gr (w w' : World) : Prop := ∃ q os', w' = grow (w.drewN q) os'
theorem Gr.alloc {w w' : World} (h : Gr w w') (o : Obj) : Gr w (w'.alloc o) := by
  obtain ⟨q, os, rfl⟩ := h
  exact ⟨q, os ++ #[o], by rw [alloc_eq_grow, grow_grow]⟩
theorem Gr.drew {w w' : World} (h : Gr w w') : Gr w w'.drew := by
  obtain ⟨q, os, rfl⟩ := h
  exact ⟨q + 1, os, rfl⟩
theorem Gr.refl (w : World) : Gr w w := ⟨0, #[], by rw [grow_empty]; rfl⟩

end Go.Proofs.Ytphbfoafgfnmmaa.EcX
