/-
  A contract's slices may be nil. No condition.
-/
import Derived.Test.YtakebkfhigadiaaRyU
namespace Go.Proofs.Ytakebkfhigadiaa.Ry
open Go

/-- A nil slice, as one that holds nothing: of what kind, the row of kinds tells. -/
def denilC (c : Ct) : SC → SC
  | .val (.slice none 0 0) => .sl none (empC c)
  | x => x
def denilCs (c : Ct) : List SC → List SC
  | [] => []
  | x :: xs => denilC c x :: denilCs c xs
def denilA : List (Option Ct) → List SA → List SA
  | some c :: ks, .one (.val (.slice none 0 0)) :: xs => .one (.sl none (empC c)) :: denilA ks xs
  | some c :: ks, .agg cs :: xs => .agg (denilCs c cs) :: denilA ks xs
  | _ :: ks, x :: xs => x :: denilA ks xs
  | _, xs => xs
def denil (ks : List (Option Ct)) (con : Con) : Con := fun args h => con (denilA ks args) h
theorem emp_is {G : Gm} : ∀ (c : Ct), (SC.sl none (empC c)).is G (.slice none 0 0)
  | .ints _ _ => ⟨⟨none, 0, rfl, Nat.le_refl _, by unfold maxLen; omega, fun h => absurd rfl h⟩, trivial⟩
  | .recs _ _ => ⟨⟨none, 0, rfl, Nat.le_refl _, by unfold maxLen; omega, fun h => absurd rfl h⟩, trivial⟩
theorem denilC_is {G : Gm} {c : Ct} {x : SC} {v : Value} (h : x.is G v) : (denilC c x).is G v := by
  unfold denilC
  split
  · have hv : v = .slice none 0 0 := h
    rw [hv]
    exact emp_is c
  · exact h
theorem denilCs_is {G : Gm} {c : Ct} : ∀ {xs : List SC} {vs : List Value}, cellsIs G xs vs → cellsIs G (denilCs c xs) vs
  | [], [], _ => trivial
  | _ :: _, _ :: _, ⟨⟨h1, h2⟩, h3⟩ => ⟨⟨denilC_is h1, h2⟩, denilCs_is h3⟩
theorem denil_is {G : Gm} : ∀ {ks : List (Option Ct)} {xs : List SA} {vs : List Value}, sasIs G xs vs → sasIs G (denilA ks xs) vs
  | [], xs, _, h => by
    cases xs <;> exact h
  | k :: _, [], _, h => by
    cases k <;> exact h
  | k :: ks, x :: xs, [], h => h.elim
  | k :: ks, x :: xs, v :: vs, ⟨h1, h2⟩ => by
    have ih := denil_is (ks := ks) h2
    unfold denilA
    split
    · rename_i heq1 heq2
      cases heq1
      cases heq2
      have hv : v = .slice none 0 0 := h1
      subst hv
      exact ⟨emp_is _, ih⟩
    · rename_i heq1 heq2
      cases heq1
      cases heq2
      obtain ⟨us, e, hc⟩ := h1
      exact ⟨⟨us, e, denilCs_is hc⟩, ih⟩
    · rename_i heq1 heq2
      cases heq1
      cases heq2
      exact ⟨h1, ih⟩
    · rename_i hn
      exact absurd rfl (hn _ _ _ _ rfl)
/-- They lead to the same rows of one's own. -/
theorem denilC_owns {c : Ct} {x : SC} {l l' : List SC} (h : ownsC l = ownsC l') : ownsC (denilC c x :: l) = ownsC (x :: l') := by
  unfold denilC
  split
  · exact h
  · cases x <;> first | exact h | exact congrArg (List.cons _) h
theorem denilCs_owns {c : Ct} : ∀ {xs : List SC}, ownsC (denilCs c xs) = ownsC xs
  | [] => rfl
  | _ :: _ => denilC_owns denilCs_owns
theorem denilA_owns : ∀ {ks : List (Option Ct)} {xs : List SA}, (denilA ks xs).flatMap ownsA = xs.flatMap ownsA
  | [], xs => by cases xs <;> rfl
  | k :: _, [] => by cases k <;> rfl
  | k :: ks, x :: xs => by
    have ih := denilA_owns (ks := ks) (xs := xs)
    unfold denilA
    split
    · rename_i heq1 heq2
      cases heq1
      cases heq2
      exact ih
    · rename_i heq1 heq2
      cases heq1
      cases heq2
      simp only [List.flatMap_cons, ih]
      show ownsC (denilCs _ _) ++ _ = ownsC _ ++ _
      rw [denilCs_owns]
    · rename_i heq1 heq2
      cases heq1
      cases heq2
      simp only [List.flatMap_cons, ih]
    · rename_i hn
      exact absurd rfl (hn _ _ _ _ rfl)
theorem denil_owns {ks : List (Option Ct)} {xs : List SA} {h : H} : ownsAll (denilA ks xs) h = ownsAll xs h := by
  unfold ownsAll
  rw [denilA_owns]
theorem denil_ok {f : FuncId} {con : Con} (ks : List (Option Ct)) (h : ConOk Try.prog f con) : ConOk Try.prog f (denil ks con) :=
  ⟨h.1, fun args h0 p hc hC G vs h1 h2 h3 hv => by
    have := h.2 (denilA ks args) h0 p hc hC G vs h1 h2 h3 (denil_is hv)
    rw [denil_owns] at this
    exact this⟩
end Go.Proofs.Ytakebkfhigadiaa.Ry
