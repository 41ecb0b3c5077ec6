/-
  A contract out of two. No condition.
-/
import Derived.Test.YtakebkfhigadiaaRyOp
namespace Go.Proofs.Ytakebkfhigadiaa.Ry
open Go
def orCon (c1 c2 : Con) : Con := fun xs h => match c1 xs h with
  | some p => some p
  | none => c2 xs h
theorem or_ok {f : FuncId} {c1 c2 : Con} (h1 : ConOk Try.prog f c1) (h2 : ConOk Try.prog f c2) : ConOk Try.prog f (orCon c1 c2) := by
  refine ⟨h1.1, fun args h p hc => ?_⟩
  unfold orCon at hc
  split at hc
  · rename_i q hq
    cases hc
    exact h1.2 args h _ hq
  · exact h2.2 args h p hc
theorem or_kp {c1 c2 : Con} (h1 : Keeps c1) (h2 : Keeps c2) : Keeps (orCon c1 c2) := by
  intro args h p hc
  unfold orCon at hc
  split at hc
  · rename_i q hq
    cases hc
    exact h1 args h _ hq
  · exact h2 args h p hc
end Go.Proofs.Ytakebkfhigadiaa.Ry
