/-
  A contract's slices may be nil. No condition.
-/
import Derived.Test.YtnifnfegnfaabaaRyU
namespace Go.Proofs.Ytnifnfegnfaabaa.Ry
open Go

/-- A nil slice, as one that holds nothing: of what kind, the row of kinds tells. -/
def denilA : List (Option Ct) → List SA → List SA
  | some c :: ks, .one (.val (.slice none 0 0)) :: xs => .one (.sl none (empC c)) :: denilA ks xs
  | _ :: ks, x :: xs => x :: denilA ks xs
  | _, xs => xs
def denil (ks : List (Option Ct)) (con : Con) : Con := fun args h => con (denilA ks args) h
theorem emp_is {G : Gm} : ∀ (c : Ct), (SC.sl none (empC c)).is G (.slice none 0 0)
  | .ints _ _ => ⟨⟨none, 0, rfl, Nat.le_refl _, by unfold maxLen; omega, fun h => absurd rfl h⟩, trivial⟩
  | .recs _ _ => ⟨⟨none, 0, rfl, Nat.le_refl _, by unfold maxLen; omega, fun h => absurd rfl h⟩, trivial⟩
theorem denil_is {G : Gm} : ∀ {ks : List (Option Ct)} {xs : List SA} {vs : List Value}, sasIs G xs vs → sasIs G (denilA ks xs) vs
  | [], xs, _, h => by
    cases xs <;> exact h
  | k :: _, [], _, h => by
    cases k <;> exact h
  | k :: ks, x :: xs, [], h => h.elim
  | k :: ks, x :: xs, v :: vs, ⟨h1, h2⟩ => by
    have ih := denil_is (ks := ks) h2
    unfold denilA
    split
    · rename_i heq1 heq2
      cases heq1
      cases heq2
      have hv : v = .slice none 0 0 := h1
      subst hv
      exact ⟨emp_is _, ih⟩
    · rename_i heq1 heq2
      cases heq1
      cases heq2
      exact ⟨h1, ih⟩
    · rename_i hn
      exact absurd rfl (hn _ _ _ _ rfl)
theorem denil_ok {f : FuncId} {con : Con} (ks : List (Option Ct)) (h : ConOk Try.prog f con) : ConOk Try.prog f (denil ks con) :=
  ⟨h.1, fun args h0 p hc hC G vs h1 h2 h3 hv => h.2 (denilA ks args) h0 p hc hC G vs h1 h2 h3 (denil_is hv)⟩
end Go.Proofs.Ytnifnfegnfaabaa.Ry
