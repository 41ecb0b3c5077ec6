/-
  A contract's slices may be nil: cell by cell. No condition.
-/
import Derived.Test.YtakebkfhigadiaaRyN
namespace Go.Proofs.Ytakebkfhigadiaa.Ry
open Go

def dnC : Option Ct → SC → SC
  | some c, x => denilC c x
  | none, x => x
def dnCs : List (Option Ct) → List SC → List SC
  | _, [] => []
  | [], x :: xs => x :: xs
  | k :: ks, x :: xs => dnC k x :: dnCs ks xs
def dn1 : List (Option Ct) → SA → SA
  | k, .agg cs => .agg (dnCs k cs)
  | k :: _, .one x => .one (dnC k x)
  | _, x => x
def dnA : List (List (Option Ct)) → List SA → List SA
  | _, [] => []
  | [], x :: xs => x :: xs
  | k :: ks, x :: xs => dn1 k x :: dnA ks xs
def dnil (ks : List (List (Option Ct))) (con : Con) : Con := fun args h => con (dnA ks args) h
theorem dnC_is {G : Gm} {k : Option Ct} {x : SC} {v : Value} (h : x.is G v) : (dnC k x).is G v := by
  cases k with
  | none => exact h
  | some c => exact denilC_is h
theorem dnCs_is {G : Gm} : ∀ {ks : List (Option Ct)} {xs : List SC} {vs : List Value}, cellsIs G xs vs → cellsIs G (dnCs ks xs) vs
  | ks, [], [], _ => by
    cases ks <;> trivial
  | _, [], _ :: _, h => h.elim
  | _, _ :: _, [], h => h.elim
  | [], _ :: _, _ :: _, h => h
  | _ :: _, _ :: _, _ :: _, ⟨⟨h1, h2⟩, h3⟩ => ⟨⟨dnC_is h1, h2⟩, dnCs_is h3⟩
theorem dn1_is {G : Gm} {k : List (Option Ct)} {x : SA} {v : Value} (h : x.is G v) : (dn1 k x).is G v := by
  cases x with
  | agg cs =>
    obtain ⟨us, e, hc⟩ := h
    exact ⟨us, e, dnCs_is hc⟩
  | one c =>
    cases k with
    | nil => exact h
    | cons a l => exact dnC_is h
  | blob c => cases k <;> exact h
theorem dnA_is {G : Gm} : ∀ {ks : List (List (Option Ct))} {xs : List SA} {vs : List Value}, sasIs G xs vs → sasIs G (dnA ks xs) vs
  | ks, [], [], _ => by
    cases ks <;> trivial
  | _, [], _ :: _, h => h.elim
  | _, _ :: _, [], h => h.elim
  | [], _ :: _, _ :: _, h => h
  | _ :: _, _ :: _, _ :: _, ⟨h1, h2⟩ => ⟨dn1_is h1, dnA_is h2⟩
/-- They lead to the same rows of one's own. -/
theorem dnC_owns {k : Option Ct} {x : SC} {l l' : List SC} (h : ownsC l = ownsC l') : ownsC (dnC k x :: l) = ownsC (x :: l') := by
  cases k with
  | none => cases x <;> first | exact h | exact congrArg (List.cons _) h
  | some c => exact denilC_owns h
theorem dnCs_owns : ∀ {ks : List (Option Ct)} {xs : List SC}, ownsC (dnCs ks xs) = ownsC xs
  | ks, [] => by cases ks <;> rfl
  | [], _ :: _ => rfl
  | _ :: _, _ :: _ => dnC_owns dnCs_owns
theorem dn1_owns {k : List (Option Ct)} {x : SA} : ownsA (dn1 k x) = ownsA x := by
  cases x with
  | agg cs => exact dnCs_owns
  | one c => cases k <;> rfl
  | blob c => cases k <;> rfl
theorem dnA_owns : ∀ {ks : List (List (Option Ct))} {xs : List SA}, (dnA ks xs).flatMap ownsA = xs.flatMap ownsA
  | ks, [] => by cases ks <;> rfl
  | [], _ :: _ => rfl
  | _ :: _, _ :: _ => by
    unfold dnA
    rw [List.flatMap_cons, List.flatMap_cons, dn1_owns, dnA_owns]
theorem dnil_owns {ks : List (List (Option Ct))} {xs : List SA} {h : H} : ownsAll (dnA ks xs) h = ownsAll xs h := by
  unfold ownsAll
  rw [dnA_owns]
theorem dnil_ok {f : FuncId} {con : Con} (ks : List (List (Option Ct))) (h : ConOk Try.prog f con) : ConOk Try.prog f (dnil ks con) :=
  ⟨h.1, fun args h0 p hc hC G vs h1 h2 h3 hv => by
    have := h.2 (dnA ks args) h0 p hc hC G vs h1 h2 h3 (dnA_is hv)
    rw [dnil_owns] at this
    exact this⟩
end Go.Proofs.Ytakebkfhigadiaa.Ry
