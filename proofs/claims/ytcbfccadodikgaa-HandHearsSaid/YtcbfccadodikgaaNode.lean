/-
  Which numbers are nodes: what the program's and the reference's question tell. No condition. And small lemmas on walks.
-/
import Derived.Test.YtcbfccadodikgaaLaw
import Derived.Test.YtcbfccadodikgaaProg
import Derived.BigFrame
namespace Go.Proofs.Ytcbfccadodikgaa.Node
open Go.RowKit Go.Proofs.Ytcbfccadodikgaa.Law

theorem still_of {P : Program} {f : FuncId} {args : Array Value} {w : World} {v : Value} (h : Calls P f args w fun e w' => e = .returned v ∧ w = w') :
    Calls P f args w fun e w' => e = .returned v ∧ w' = w := h.mono fun _ _ ⟨a, b⟩ => ⟨a, b.symm⟩
theorem bne_ff {a b : Int} (h : a ≠ b) : (a == b) = false := by simpa using h
theorem beq_tt {a b : Int} (h : a = b) : (a == b) = true := by simpa using h

def nodeB (n : Int) : Bool := decide (1 ≤ n ∧ n ≤ 64)
theorem nodeB_iff (n : Int) : nodeB n = true ↔ 1 ≤ n ∧ n ≤ 64 := by simp [nodeB]
theorem nodeB_false (n : Int) : nodeB n = false ↔ n < 1 ∨ 64 < n := by
  rw [Bool.eq_false_iff, ne_eq, nodeB_iff]
  omega

theorem node_any (n : Int) (w : World) : Calls Try.prog 16 #[.int .i64 n] w fun e w' => e = .returned (.bool (nodeB n)) ∧ w = w' := by
  by_cases h1 : 1 ≤ n <;> by_cases h2 : n ≤ 64
  all_goals
    have hb : nodeB n = decide (1 ≤ n ∧ n ≤ 64) := rfl
    simp only [h1, h2, and_true, and_false, decide_true, decide_false] at hb
    have HB := Law.hide hb; clear hb
    go_enter Try.func16, Try.ntmps16
    go_wp2
    go_ret
    exact ⟨ret_bool (by first | (rw [HB.out]; done) | (rw [HB.out]; simp [h1, h2])), rfl⟩
theorem rnode_any (n : Int) (w : World) : Calls Try.prog 17 #[.int .i64 n] w fun e w' => e = .returned (.bool (nodeB n)) ∧ w = w' := by
  by_cases h1 : 1 ≤ n <;> by_cases h2 : n ≤ 64
  all_goals
    have hb : nodeB n = decide (1 ≤ n ∧ n ≤ 64) := rfl
    simp only [h1, h2, and_true, and_false, decide_true, decide_false] at hb
    have HB := Law.hide hb; clear hb
    go_enter Try.func17, Try.ntmps17
    go_wp2
    go_ret
    exact ⟨ret_bool (by first | (rw [HB.out]; done) | (rw [HB.out]; simp [h1, h2])), rfl⟩
end Go.Proofs.Ytcbfccadodikgaa.Node
