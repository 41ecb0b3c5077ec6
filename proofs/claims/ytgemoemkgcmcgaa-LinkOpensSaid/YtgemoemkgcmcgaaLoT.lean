/-
  Two ends of a link that tick and hear all that the other one sends: the one way that this goes. No condition.
-/
import Derived.Test.YtgemoemkgcmcgaaLkT
namespace Go.Proofs.Ytgemoemkgcmcgaa.LoT
open Go Go.Proofs.Ytgemoemkgcmcgaa.Ry Go.Proofs.Ytgemoemkgcmcgaa.SeR Go.Proofs.Ytgemoemkgcmcgaa.HaR Go.Proofs.Ytgemoemkgcmcgaa.LiR Go.Proofs.Ytgemoemkgcmcgaa.LkR
/-- A frame's bytes. -/
def byE (f : E) : List Int := CrcR.sealI (FrR.bodyF (ri f 0) (ri f 1) (ri f 2) (ri f 3) (rl f 4))
def fmB (f : E) : Bool := FrR.mayF (ri f 0) (ri f 1) (ri f 2) (ri f 3) (rl f 4) && OctR.byB (rl f 4)
/-- An end, and what it sent while it heard. -/
structure HR where
  k : KN
  o : List E
def hr1 (s : HR) (f : E) : HR := ⟨(hearK s.k (byE f) 99).k, s.o ++ (hearK s.k (byE f) 99).y.f⟩
def hrL (k : KN) (fs : List E) : HR := fs.foldl hr1 ⟨k, []⟩
/-- All is well while frames are heard. -/
def ok1 (s : HR) (f : E) : Bool := kbB s.k && (fmB f && ((hearK s.k (byE f) 99).e == 0 && (!(hearK s.k (byE f) 99).y.d && decide (s.o.length ≤ 1000 ∧ (hearK s.k (byE f) 99).y.f.length ≤ 1000))))
def okL : HR → List E → Bool
  | _, [] => true
  | s, f :: l => ok1 s f && okL (hr1 s f) l
/-- Two ends, and what each one sent. -/
structure PR where
  a : KN
  b : KN
  oa : List E
  ob : List E
def exch (p : PR) : PR := ⟨(hrL p.a p.ob).k, (hrL p.b p.oa).k, (hrL p.a p.ob).o, (hrL p.b p.oa).o⟩
def okX (p : PR) : Bool := okL ⟨p.b, []⟩ p.oa && okL ⟨p.a, []⟩ p.ob
def okT (k : KN) : Bool := kbB k && ((tikK k 99).e == 0 && (!(tikK k 99).y.d && decide ((tikK k 99).y.f.length ≤ 1000)))
def tk2 (a b : KN) : PR := ⟨(tikK a 99).k, (tikK b 99).k, (tikK a 99).y.f, (tikK b 99).y.f⟩
def rd (p : PR) : PR := ⟨(exch (exch (tk2 p.a p.b))).a, (exch (exch (tk2 p.a p.b))).b, [], []⟩
def okR (p : PR) : Bool := okT p.a && (okT p.b && (okX (tk2 p.a p.b) && okX (exch (tk2 p.a p.b))))
def p0 : PR := ⟨(newK 2 5 99).k, (newK 1 5 99).k, [], []⟩
def orb : Nat → PR → PR
  | 0, p => p
  | n + 1, p => orb n (rd p)
/-- The silent ticks of one end: how often its session ends. -/
def sil : Nat → KN → Nat → Nat
  | 0, _, n => n
  | t + 1, k, n => sil t (tikK k 99).k (if (tikK k 99).y.d = true then n + 1 else n)
def okS : Nat → KN → Bool
  | 0, _ => true
  | t + 1, k => kbB k && ((tikK k 99).e == 0 && okS t (tikK k 99).k)
def endB (p : PR) : Bool := decide (p.a.x.c ≠ 0 ∧ p.a.x.c = p.b.x.c) && (okS 14 p.a && (okS 14 p.b && ((List.range 9).all fun q => sil (6 + q) p.a 0 == 1 && sil (6 + q) p.b 0 == 1)))
/-- The first rounds open a session; from then on all goes well, and ends well. -/
def chk : Nat → PR → Bool
  | 0, p => endB p
  | n + 1, p => okR p && (endB p && chk n (rd p))
set_option maxRecDepth 100000 in
theorem first : (okR p0 && (okR (rd p0) && okR (rd (rd p0)))) = true := by decide +kernel
set_option maxRecDepth 100000 in
theorem rest : chk 39 (orb 3 p0) = true := by decide +kernel
theorem orb_next (n : Nat) (p : PR) : orb (n + 1) p = rd (orb n p) := by
  induction n generalizing p with
  | zero => rfl
  | succ n ih => exact ih (rd p)
theorem orb_add (n k : Nat) (p : PR) : orb (n + k) p = orb n (orb k p) := by
  induction n with
  | zero => rw [Nat.zero_add]; rfl
  | succ n ih => rw [show n + 1 + k = n + k + 1 by omega, orb_next, ih, ← orb_next]
theorem chk_all : ∀ (n : Nat) (p : PR), chk n p = true → ∀ k : Nat, k ≤ n → endB (orb k p) = true ∧ (k < n → okR (orb k p) = true)
  | 0, p, h, k, hk => by
    have e : k = 0 := by omega
    subst e
    exact ⟨h, fun g => absurd g (by omega)⟩
  | n + 1, p, h, k, hk => by
    have h : (okR p && (endB p && chk n (rd p))) = true := h
    rw [Bool.and_eq_true, Bool.and_eq_true] at h
    cases k with
    | zero => exact ⟨h.2.1, fun _ => h.1⟩
    | succ k =>
      have := chk_all n (rd p) h.2.2 k (by omega)
      exact ⟨this.1, fun g => this.2 (by omega)⟩
/-- In all rounds that there are, all goes well; behind three of them a session is open, and silence ends it. -/
theorem all_ok (n : Nat) : (n < 42 → okR (orb n p0) = true) ∧ (3 ≤ n → n ≤ 42 → endB (orb n p0) = true) := by
  have h := first
  rw [Bool.and_eq_true, Bool.and_eq_true] at h
  constructor
  · intro hn
    by_cases g : 3 ≤ n
    · have := (chk_all 39 _ rest (n - 3) (by omega)).2 (by omega)
      rw [← orb_add, show n - 3 + 3 = n by omega] at this
      exact this
    · have e : n = 0 ∨ n = 1 ∨ n = 2 := by omega
      rcases e with rfl | rfl | rfl
      · exact h.1
      · exact h.2.1
      · exact h.2.2
  · intro h3 hn
    have := (chk_all 39 _ rest (n - 3) (by omega)).1
    rw [← orb_add, show n - 3 + 3 = n by omega] at this
    exact this
/-- While frames are heard, one behind the other. -/
def hrP (s : HR) (fs : List E) (j : Nat) : HR := (fs.take j).foldl hr1 s
theorem hrP_next (s : HR) (fs : List E) {j : Nat} (h : j < fs.length) : hrP s fs (j + 1) = hr1 (hrP s fs j) (fs.getD j []) := by
  unfold hrP
  rw [List.take_add_one, List.foldl_append, List.getD_eq_getElem?_getD, List.getElem?_eq_getElem h]
  rfl
theorem okL_at : ∀ (fs : List E) (s : HR), okL s fs = true → ∀ j : Nat, j < fs.length → ok1 (hrP s fs j) (fs.getD j []) = true
  | [], _, _, j, hj => absurd hj (Nat.not_lt_zero j)
  | f :: l, s, h, j, hj => by
    have h : (ok1 s f && okL (hr1 s f) l) = true := h
    rw [Bool.and_eq_true] at h
    cases j with
    | zero => exact h.1
    | succ j => exact okL_at l (hr1 s f) h.2 j (by simp only [List.length_cons] at hj; omega)
theorem hrP_end (k : KN) (fs : List E) : hrP ⟨k, []⟩ fs fs.length = hrL k fs := by
  unfold hrP hrL
  rw [List.take_length]
end Go.Proofs.Ytgemoemkgcmcgaa.LoT
