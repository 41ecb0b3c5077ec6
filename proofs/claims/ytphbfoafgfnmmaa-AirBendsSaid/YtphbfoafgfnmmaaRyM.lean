/-
  A contract's slices may be nil: cell by cell. No condition.
-/
import Derived.Test.YtphbfoafgfnmmaaRyN
namespace Go.Proofs.Ytphbfoafgfnmmaa.Ry
open Go

def dnC : Option Ct → SC → SC
  | some c, x => denilC c x
  | none, x => x
def dnCs : List (Option Ct) → List SC → List SC
  | _, [] => []
  | [], x :: xs => x :: xs
  | k :: ks, x :: xs => dnC k x :: dnCs ks xs
def dn1 : List (Option Ct) → SA → SA
  | k, .agg cs => .agg (dnCs k cs)
  | k :: _, .one x => .one (dnC k x)
  | _, x => x
def dnA : List (List (Option Ct)) → List SA → List SA
  | _, [] => []
  | [], x :: xs => x :: xs
  | k :: ks, x :: xs => dn1 k x :: dnA ks xs
def dnil (ks : List (List (Option Ct))) (con : Con) : Con := fun args h => con (dnA ks args) h
theorem dnC_is {G : Gm} {k : Option Ct} {x : SC} {v : Value} (h : x.is G v) : (dnC k x).is G v := by
  cases k with
  | none => exact h
  | some c => exact denilC_is h
theorem dnCs_is {G : Gm} : ∀ {ks : List (Option Ct)} {xs : List SC} {vs : List Value}, cellsIs G xs vs → cellsIs G (dnCs ks xs) vs
  | ks, [], [], _ => by
    cases ks <;> trivial
  | _, [], _ :: _, h => h.elim
  | _, _ :: _, [], h => h.elim
  | [], _ :: _, _ :: _, h => h
  | _ :: _, _ :: _, _ :: _, ⟨⟨h1, h2⟩, h3⟩ => ⟨⟨dnC_is h1, h2⟩, dnCs_is h3⟩
theorem dn1_is {G : Gm} {k : List (Option Ct)} {x : SA} {v : Value} (h : x.is G v) : (dn1 k x).is G v := by
  cases x with
  | agg cs =>
    obtain ⟨us, e, hc⟩ := h
    exact ⟨us, e, dnCs_is hc⟩
  | one c =>
    cases k with
    | nil => exact h
    | cons a l => exact dnC_is h
  | blob c => cases k <;> exact h
theorem dnA_is {G : Gm} : ∀ {ks : List (List (Option Ct))} {xs : List SA} {vs : List Value}, sasIs G xs vs → sasIs G (dnA ks xs) vs
  | ks, [], [], _ => by
    cases ks <;> trivial
  | _, [], _ :: _, h => h.elim
  | _, _ :: _, [], h => h.elim
  | [], _ :: _, _ :: _, h => h
  | _ :: _, _ :: _, _ :: _, ⟨h1, h2⟩ => ⟨dn1_is h1, dnA_is h2⟩
theorem dnil_ok {f : FuncId} {con : Con} (ks : List (List (Option Ct))) (h : ConOk Try.prog f con) : ConOk Try.prog f (dnil ks con) :=
  ⟨h.1, fun args h0 p hc hC G vs h1 h2 h3 hv => h.2 (dnA ks args) h0 p hc hC G vs h1 h2 h3 (dnA_is hv)⟩
end Go.Proofs.Ytphbfoafgfnmmaa.Ry
