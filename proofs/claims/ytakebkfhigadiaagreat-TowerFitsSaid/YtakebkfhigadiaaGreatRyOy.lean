/-
  A slice of any shape that comes in, with each row's length within a machine's memory. No condition.
-/
import Derived.Test.YtakebkfhigadiaaGreatRyOz
namespace Go.Proofs.YtakebkfhigadiaaGreat.Ry
open Go Go.ChangeShapes Go.WideShapes Go.ChangeAt Go.Joins Go.RowKit
theorem sl_anyz {H : Type} {enc : TypeId × Value → H} {P : Program} {W : World} {r : Reach} {b0 : Nat} {t e : TypeId} {s : Sh} {v : Value} {d : DataW H} {p : List MemPlace} (ht : P.underlying t = some (.slice e)) (hs : shZ P 12 t .nil = some (.recs s .nil)) (hv : Value.okWide P W r b0 t v)
    (h : DataW.Trod enc P W 0 (fun _ => true) true t v d p) (hws : ∀ n ∈ d.weights P t, n ≤ reachBytes) : ∃ (A : Option Addr) (n c : Nat) (l : List E), v = .slice A n c ∧ l.length = n ∧ (SC.sl none (.recs s l)).is (G0 W) (.slice A n c) ∧ (∀ y ∈ l, wfZ s y 0) ∧ l.length ≤ 140737488355328 := by
  obtain ⟨A, n, c, rfl⟩ := okWide_slice ht hv
  obtain ⟨fuel, hf⟩ := h
  obtain ⟨ys, h1, h2, h3⟩ := sh_inz 12 hs hf hws
  have h4 := h3 [] [] [] rfl trivial
  obtain ⟨⟨u, us, e1, hrow, _⟩, hwf, hlen, _⟩ := h4
  have ec : (Value.slice A n c).cells.toList = [Value.slice A n c] := rfl
  rw [ec, List.append_nil] at e1
  have e2 : Value.slice A n c = u := by
    have := congrArg List.head? e1
    simpa using this
  subst e2
  have e3 : ([] ++ (ys ++ []) : E) = ys := by simp
  rw [e3] at hrow hwf hlen
  refine ⟨A, n, c, rr ys 0, rfl, ?_, ⟨hrow, trivial⟩, hwf, hlen⟩
  obtain ⟨A', c', e3, _⟩ := hrow
  cases e3
  rfl
end Go.Proofs.YtakebkfhigadiaaGreat.Ry
