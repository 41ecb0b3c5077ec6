/-
  How far apart bytes are unlike, as bits: the first, the last. No condition.
-/
import Derived.Test.YtdfknpjlapaadaaBeA
namespace Go.Proofs.Ytdfknpjlapaadaa.BeT
open Go Go.Proofs.Ytdfknpjlapaadaa.Ry Go.Proofs.Ytdfknpjlapaadaa.FrR Go.Proofs.Ytdfknpjlapaadaa.FrQ Go.Proofs.Ytdfknpjlapaadaa.FrS Go.Proofs.Ytdfknpjlapaadaa.BeR Go.Proofs.Ytdfknpjlapaadaa.BeA
open Go.Proofs.Ytdfknpjlapaadaa.CrcS (bt)
open Go.Proofs.Ytdfknpjlapaadaa.CrcW (bitAt)

theorem tb : ∀ k : Fin 256, k.val ≠ 0 → bt k.val (8 - tabL.getD k.val 0).toNat = true ∧ (∀ j : Fin 8, (j.val : Int) < 8 - tabL.getD k.val 0 → bt k.val j.val = false) ∧ bt k.val (7 - tabN.getD k.val 0).toNat = true ∧ (∀ j : Fin 8, 7 - tabN.getD k.val 0 < (j.val : Int) → bt k.val j.val = false) := by decide +kernel
theorem tz : ∀ j : Fin 8, bt 0 j.val = false := by decide
theorem tb_of {x : Int} (h : 0 ≤ x ∧ x ≤ 255) (h0 : x ≠ 0) : bt x (8 - ln8 x).toNat = true ∧ (∀ j : Nat, j < 8 → (j : Int) < 8 - ln8 x → bt x j = false) ∧ bt x (7 - nz8 x).toNat = true ∧ (∀ j : Nat, j < 8 → 7 - nz8 x < (j : Int) → bt x j = false) := by
  have := tb ⟨x.toNat, by omega⟩ (show x.toNat ≠ 0 by omega)
  simp only [Int.toNat_of_nonneg h.1] at this
  obtain ⟨h1, h2, h3, h4⟩ := this
  exact ⟨h1, fun j hj => h2 ⟨j, hj⟩, h3, fun j hj => h4 ⟨j, hj⟩⟩
theorem bit_x (a c : List Int) (k : Nat) : bt (xr a c (k / 8)) (k % 8) = (bitAt a k != bitAt c k) := CrcV.mix_xor (a.getD (k / 8) 0) (c.getD (k / 8) 0) (k % 8) (Nat.mod_lt _ (by decide))
theorem eq_of {p q : Bool} (h : (p != q) = false) : p = q := by
  cases p <;> cases q <;> first | rfl | (exact absurd h (by decide))
theorem ne_of {p q : Bool} (h : (p != q) = true) : ¬ p = q := by
  cases p <;> cases q <;> first | (exact absurd h (by decide)) | (exact fun w => absurd w (by decide))
theorem by_zero {a c : List Int} {n : Nat} (h : xr a c n = 0) (k : Nat) (hk : k / 8 = n) : bitAt a k = bitAt c k := by
  refine eq_of ?_
  rw [← bit_x, hk, h]
  exact tz ⟨k % 8, Nat.mod_lt _ (by decide)⟩
theorem by_some {a c : List Int} {n : Nat} (h : xr a c n ≠ 0) :
    ¬ bitAt a (8 * (n : Int) + (8 - ln8 (xr a c n))).toNat = bitAt c (8 * (n : Int) + (8 - ln8 (xr a c n))).toNat ∧ (∀ k : Nat, k / 8 = n → (k : Int) < 8 * n + (8 - ln8 (xr a c n)) → bitAt a k = bitAt c k) ∧
    ¬ bitAt a (8 * (n : Int) + 7 - nz8 (xr a c n)).toNat = bitAt c (8 * (n : Int) + 7 - nz8 (xr a c n)).toNat ∧ (∀ k : Nat, k / 8 = n → 8 * (n : Int) + 7 - nz8 (xr a c n) < k → bitAt a k = bitAt c k) := by
  have hx := xr_in (a.getD n 0) (c.getD n 0)
  have h8 := ln_of hx
  have hp := ln_pos hx h
  obtain ⟨h1, h2, h3, h4⟩ := tb_of hx h
  change bt (xr a c n) (8 - ln8 (xr a c n)).toNat = true at h1
  change bt (xr a c n) (7 - nz8 (xr a c n)).toNat = true at h3
  change 0 ≤ ln8 (xr a c n) ∧ ln8 (xr a c n) ≤ 8 ∧ 0 ≤ nz8 (xr a c n) ∧ nz8 (xr a c n) ≤ 8 at h8
  change 1 ≤ ln8 (xr a c n) ∧ nz8 (xr a c n) ≤ 7 at hp
  refine ⟨?_, fun k hk hlt => ?_, ?_, fun k hk hlt => ?_⟩
  · refine ne_of ?_
    rw [← bit_x]
    have e1 : (8 * (n : Int) + (8 - ln8 (xr a c n))).toNat / 8 = n := by omega
    have e2 : (8 * (n : Int) + (8 - ln8 (xr a c n))).toNat % 8 = (8 - ln8 (xr a c n)).toNat := by omega
    rw [e1, e2]
    exact h1
  · refine eq_of ?_
    rw [← bit_x, hk]
    exact h2 (k % 8) (Nat.mod_lt _ (by decide)) (show ((k % 8 : Nat) : Int) < 8 - ln8 (xr a c n) by omega)
  · refine ne_of ?_
    rw [← bit_x]
    have e1 : (8 * (n : Int) + 7 - nz8 (xr a c n)).toNat / 8 = n := by omega
    have e2 : (8 * (n : Int) + 7 - nz8 (xr a c n)).toNat % 8 = (7 - nz8 (xr a c n)).toNat := by omega
    rw [e1, e2]
    exact h3
  · refine eq_of ?_
    rw [← bit_x, hk]
    exact h4 (k % 8) (Nat.mod_lt _ (by decide)) (show 7 - nz8 (xr a c n) < ((k % 8 : Nat) : Int) by omega)
theorem fr_is (a c : List Int) : ∀ n : Nat, (frI a c n = -1 ∧ ∀ k, k < 8 * n → bitAt a k = bitAt c k) ∨ (0 ≤ frI a c n ∧ frI a c n < 8 * n ∧ ¬ bitAt a (frI a c n).toNat = bitAt c (frI a c n).toNat ∧ ∀ k : Nat, (k : Int) < frI a c n → bitAt a k = bitAt c k)
  | 0 => .inl ⟨rfl, fun k hk => absurd hk (by omega)⟩
  | n + 1 => by
    have ih := fr_is a c n
    have h8 := ln_of (xr_in (a.getD n 0) (c.getD n 0))
    change 0 ≤ ln8 (xr a c n) ∧ ln8 (xr a c n) ≤ 8 ∧ 0 ≤ nz8 (xr a c n) ∧ nz8 (xr a c n) ≤ 8 at h8
    unfold frI
    by_cases hx : xr a c n = 0
    · rw [if_neg (fun q => q.1 hx)]
      rcases ih with ⟨h1, h2⟩ | ⟨h1, h2, h3, h4⟩
      · refine .inl ⟨h1, fun k hk => ?_⟩
        by_cases hk2 : k < 8 * n
        · exact h2 k hk2
        · exact by_zero hx k (by omega)
      · exact .inr ⟨h1, by omega, h3, h4⟩
    · obtain ⟨b1, b2, b3, b4⟩ := by_some hx
      rcases ih with ⟨h1, h2⟩ | ⟨h1, h2, h3, h4⟩
      · have hp := ln_pos (xr_in (a.getD n 0) (c.getD n 0)) hx
        change 1 ≤ ln8 (xr a c n) ∧ nz8 (xr a c n) ≤ 7 at hp
        rw [if_pos ⟨hx, by omega⟩]
        refine .inr ⟨by omega, by omega, b1, fun k hk => ?_⟩
        by_cases hk2 : k < 8 * n
        · exact h2 k hk2
        · exact b2 k (by omega) hk
      · rw [if_neg (fun q => by omega)]
        exact .inr ⟨h1, by omega, h3, h4⟩
theorem to_is (a c : List Int) : ∀ n : Nat, (toI a c n = -1 ∧ ∀ k, k < 8 * n → bitAt a k = bitAt c k) ∨ (0 ≤ toI a c n ∧ toI a c n < 8 * n ∧ ¬ bitAt a (toI a c n).toNat = bitAt c (toI a c n).toNat ∧ ∀ k : Nat, k < 8 * n → toI a c n < k → bitAt a k = bitAt c k)
  | 0 => .inl ⟨rfl, fun k hk => absurd hk (by omega)⟩
  | n + 1 => by
    have ih := to_is a c n
    have h8 := ln_of (xr_in (a.getD n 0) (c.getD n 0))
    change 0 ≤ ln8 (xr a c n) ∧ ln8 (xr a c n) ≤ 8 ∧ 0 ≤ nz8 (xr a c n) ∧ nz8 (xr a c n) ≤ 8 at h8
    unfold toI
    by_cases hx : xr a c n = 0
    · rw [if_neg (fun q => q hx)]
      rcases ih with ⟨h1, h2⟩ | ⟨h1, h2, h3, h4⟩
      · refine .inl ⟨h1, fun k hk => ?_⟩
        by_cases hk2 : k < 8 * n
        · exact h2 k hk2
        · exact by_zero hx k (by omega)
      · refine .inr ⟨h1, by omega, h3, fun k hk hl => ?_⟩
        by_cases hk2 : k < 8 * n
        · exact h4 k hk2 hl
        · exact by_zero hx k (by omega)
    · obtain ⟨b1, b2, b3, b4⟩ := by_some hx
      have hp := ln_pos (xr_in (a.getD n 0) (c.getD n 0)) hx
      change 1 ≤ ln8 (xr a c n) ∧ nz8 (xr a c n) ≤ 7 at hp
      rw [if_pos hx]
      exact .inr ⟨by omega, by omega, b3, fun k hk hl => b4 k (by omega) hl⟩
/-- Two lists of one length: alike; or unlike from one bit to another. -/
theorem un_is {a c : List Int} (hl : a.length = c.length) : (unI a c = 0 ∧ ∀ k, k < 8 * a.length → bitAt a k = bitAt c k) ∨
    ∃ f t : Nat, f ≤ t ∧ t < 8 * a.length ∧ unI a c = (t : Int) - f + 1 ∧ ¬ bitAt a f = bitAt c f ∧ ¬ bitAt a t = bitAt c t ∧ (∀ k, k < f → bitAt a k = bitAt c k) ∧ ∀ k, k < 8 * a.length → t < k → bitAt a k = bitAt c k := by
  unfold unI
  rw [if_neg (fun q => q hl)]
  rcases fr_is a c a.length with ⟨h1, h2⟩ | ⟨h1, h2, h3, h4⟩
  · rw [if_pos (by omega)]
    exact .inl ⟨rfl, h2⟩
  · rw [if_neg (by omega)]
    rcases to_is a c a.length with ⟨g1, g2⟩ | ⟨g1, g2, g3, g4⟩
    · exact absurd (g2 _ (by omega)) h3
    · refine .inr ⟨(frI a c a.length).toNat, (toI a c a.length).toNat, ?_, by omega, by omega, h3, g3, fun k hk => h4 k (by omega), fun k hk hlt => g4 k hk (by omega)⟩
      by_cases q : (frI a c a.length).toNat ≤ (toI a c a.length).toNat
      · exact q
      · exact absurd (g4 (frI a c a.length).toNat (by omega) (by omega)) h3
/-- Two frames are far apart. -/
theorem apart {k s q a : Int} {p : List Int} {k' s' q' a' : Int} {p' : List Int} (h : mayF k s q a p = true) (h' : mayF k' s' q' a' p' = true) (hp : ∀ x ∈ p, 0 ≤ x ∧ x ≤ 255) (hp' : ∀ x ∈ p', 0 ≤ x ∧ x ≤ 255) :
    (smF k s q a p k' s' q' a' p' = true → unI (eF k s q a p) (eF k' s' q' a' p') = 0) ∧ (smF k s q a p k' s' q' a' p' = false → ¬ unI (eF k s q a p) (eF k' s' q' a' p') = 0) ∧ (unI (eF k s q a p) (eF k' s' q' a' p') ≤ 0 ∨ 32 < unI (eF k s q a p) (eF k' s' q' a' p')) := by
  have hb := enc_by (k := k) (s := s) (q := q) (a := a) hp
  have hb' := enc_by (k := k') (s := s') (q := q') (a := a') hp'
  have hs := enc_same h h' hp hp'
  have em : eF k s q a p = bodyF k s q a p ++ CrcR.sum4 (bodyF k s q a p) := rfl
  have em' : eF k' s' q' a' p' = bodyF k' s' q' a' p' ++ CrcR.sum4 (bodyF k' s' q' a' p') := rfl
  rw [← e_is h] at hb hs
  rw [← e_is h'] at hb' hs
  rw [← hs]
  generalize eF k s q a p = x at *
  generalize eF k' s' q' a' p' = y at *
  by_cases hl : x.length = y.length
  · rcases un_is hl with ⟨u1, u2⟩ | ⟨f, t, u1, u2, u3, u4, u5, u6, u7⟩
    · have e : y = x := CrcW.found (a := 0) hl.symm hb hb' em em' fun k hk _ => (u2 k hk).symm
      rw [u1, e, decide_eq_true rfl]
      exact ⟨fun _ => rfl, fun q => absurd q (by decide), .inl (Int.le_refl 0)⟩
    · have hne : ¬ x = y := fun q => u4 (by rw [q])
      rw [decide_eq_false hne, u3]
      refine ⟨fun q => absurd q (by decide), fun _ => by omega, ?_⟩
      by_cases hw : 32 < (t : Int) - f + 1
      · exact .inr hw
      · exfalso
        refine hne (CrcW.found (a := f) hl.symm hb hb' em em' fun k hk hout => ?_).symm
        by_cases g : k < f
        · exact (u6 k g).symm
        · exact (u7 k hk (by omega)).symm
  · have hne : ¬ x = y := fun q => hl (by rw [q])
    have hu : unI x y = -1 := by
      unfold unI
      rw [if_pos hl]
    rw [decide_eq_false hne, hu]
    exact ⟨fun q => absurd q (by decide), fun _ => by decide, .inl (by decide)⟩
end Go.Proofs.Ytdfknpjlapaadaa.BeT
