/-
  numbers in bytes: read back, and in order. No condition.
-/
import Derived.Test.YtakebkfhigadiaaOctP
namespace Go.Proofs.Ytakebkfhigadiaa.OctQ
open Go Go.Proofs.Ytakebkfhigadiaa.Ry Go.Proofs.Ytakebkfhigadiaa.OctR Go.Proofs.Ytakebkfhigadiaa.OctP

def fits (m w : Int) : Bool := decide (0 ≤ m ∧ m ≤ grI w) && isW w
theorem by_mod (m i : Int) (h0 : 0 ≤ m) (hi : 0 ≤ i) (h4 : i < 4) : byI m i = m / 256 ^ i.toNat % 256 := by
  rw [by_is m i h0 hi h4]
  show IntKind.u8.wrap ((m / 256 ^ i.toNat).tmod 256) = _
  have hp : 0 ≤ m / 256 ^ i.toNat := Int.ediv_nonneg h0 (Int.pow_nonneg (by decide))
  rw [Int.tmod_eq_emod_of_nonneg hp]
  unfold IntKind.wrap
  simp [IntKind.bits, IntKind.signed]
theorem num_1 (m : Int) (h : 0 ≤ m) : numL m 1 = [m % 256] := by
  show [byI m (1 - 1 - ((0 : Nat) : Int))] = _
  have := by_mod m 0 h (by decide) (by decide)
  simpa using this
theorem num_2 (m : Int) (h : 0 ≤ m) : numL m 2 = [m / 256 % 256, m % 256] := by
  show [byI m (2 - 1 - ((0 : Nat) : Int)), byI m (2 - 1 - ((1 : Nat) : Int))] = _
  have h0 := by_mod m 0 h (by decide) (by decide)
  have h1 := by_mod m 1 h (by decide) (by decide)
  simp at h0 h1 ⊢
  exact ⟨h1, h0⟩
theorem num_3 (m : Int) (h : 0 ≤ m) : numL m 3 = [m / 65536 % 256, m / 256 % 256, m % 256] := by
  show [byI m (3 - 1 - ((0 : Nat) : Int)), byI m (3 - 1 - ((1 : Nat) : Int)), byI m (3 - 1 - ((2 : Nat) : Int))] = _
  have h0 := by_mod m 0 h (by decide) (by decide)
  have h1 := by_mod m 1 h (by decide) (by decide)
  have h2 := by_mod m 2 h (by decide) (by decide)
  simp at h0 h1 h2 ⊢
  exact ⟨h2, h1, h0⟩
theorem num_4 (m : Int) (h : 0 ≤ m) : numL m 4 = [m / 16777216 % 256, m / 65536 % 256, m / 256 % 256, m % 256] := by
  show [byI m (4 - 1 - ((0 : Nat) : Int)), byI m (4 - 1 - ((1 : Nat) : Int)), byI m (4 - 1 - ((2 : Nat) : Int)), byI m (4 - 1 - ((3 : Nat) : Int))] = _
  have h0 := by_mod m 0 h (by decide) (by decide)
  have h1 := by_mod m 1 h (by decide) (by decide)
  have h2 := by_mod m 2 h (by decide) (by decide)
  have h3 := by_mod m 3 h (by decide) (by decide)
  simp at h0 h1 h2 h3 ⊢
  exact ⟨h3, h2, h1, h0⟩
theorem fits_is {m w : Int} (h : fits m w = true) : 0 ≤ m ∧ (w = 1 ∧ m < 256 ∨ w = 2 ∧ m < 65536 ∨ w = 3 ∧ m < 16777216 ∨ w = 4 ∧ m < 2147483648) := by
  simp only [fits, Bool.and_eq_true, decide_eq_true_eq] at h
  obtain ⟨⟨h0, h1⟩, hw⟩ := h
  have hw := of_decide_eq_true hw
  have : w = 1 ∨ w = 2 ∨ w = 3 ∨ w = 4 := by omega
  refine ⟨h0, ?_⟩
  rcases this with rfl | rfl | rfl | rfl
  · have h1 : m ≤ 255 := h1
    exact .inl ⟨rfl, by omega⟩
  · have h1 : m ≤ 65535 := h1
    exact .inr (.inl ⟨rfl, by omega⟩)
  · have h1 : m ≤ 16777215 := h1
    exact .inr (.inr (.inl ⟨rfl, by omega⟩))
  · have h1 : m ≤ 2147483647 := h1
    exact .inr (.inr (.inr ⟨rfl, by omega⟩))
/-- What the bytes of a number say. -/
theorem num_num {m w : Int} (h : fits m w = true) : numI (numL m w) = m := by
  obtain ⟨h0, hc⟩ := fits_is h
  rcases hc with ⟨rfl, h1⟩ | ⟨rfl, h1⟩ | ⟨rfl, h1⟩ | ⟨rfl, h1⟩
  · rw [num_1 m h0]
    simp only [numI, List.foldl_cons, List.foldl_nil]
    rw [num_one _ _ (by omega) (by omega) (by omega)]
    omega
  · rw [num_2 m h0]
    simp only [numI, List.foldl_cons, List.foldl_nil]
    rw [num_one 0 _ (by omega) (by omega) (by omega), num_one _ _ (by omega) (by omega) (by omega)]
    omega
  · rw [num_3 m h0]
    simp only [numI, List.foldl_cons, List.foldl_nil]
    rw [num_one 0 _ (by omega) (by omega) (by omega), num_one (0 * 256 + _) _ (by omega) (by omega) (by omega), num_one _ _ (by omega) (by omega) (by omega)]
    omega
  · rw [num_4 m h0]
    simp only [numI, List.foldl_cons, List.foldl_nil]
    rw [num_one 0 _ (by omega) (by omega) (by omega), num_one (0 * 256 + _) _ (by omega) (by omega) (by omega), num_one ((0 * 256 + _) * 256 + _) _ (by omega) (by omega) (by omega), num_one _ _ (by omega) (by omega) (by omega)]
    omega
theorem num_lt {m n w : Int} (hm : fits m w = true) (hn : fits n w = true) : ltInts (numL m w) (numL n w) = decide (m < n) := by
  obtain ⟨h0, hc⟩ := fits_is hm
  obtain ⟨g0, gc⟩ := fits_is hn
  rcases hc with ⟨rfl, h1⟩ | ⟨rfl, h1⟩ | ⟨rfl, h1⟩ | ⟨rfl, h1⟩
  · rw [num_1 m h0, num_1 n g0, Bool.eq_iff_iff]
    simp only [ltInts, Bool.or_eq_true, Bool.and_eq_true, decide_eq_true_eq, beq_iff_eq, Bool.false_eq_true, and_false, or_false]
    omega
  · rw [num_2 m h0, num_2 n g0, Bool.eq_iff_iff]
    simp only [ltInts, Bool.or_eq_true, Bool.and_eq_true, decide_eq_true_eq, beq_iff_eq, Bool.false_eq_true, and_false, or_false]
    omega
  · rw [num_3 m h0, num_3 n g0, Bool.eq_iff_iff]
    simp only [ltInts, Bool.or_eq_true, Bool.and_eq_true, decide_eq_true_eq, beq_iff_eq, Bool.false_eq_true, and_false, or_false]
    omega
  · rw [num_4 m h0, num_4 n g0, Bool.eq_iff_iff]
    have em : m = m / 16777216 % 256 * 16777216 + m / 65536 % 256 * 65536 + m / 256 % 256 * 256 + m % 256 := by omega
    have en : n = n / 16777216 % 256 * 16777216 + n / 65536 % 256 * 65536 + n / 256 % 256 * 256 + n % 256 := by omega
    simp only [ltInts, Bool.or_eq_true, Bool.and_eq_true, decide_eq_true_eq, beq_iff_eq, Bool.false_eq_true, and_false, or_false]
    have b1 : 0 ≤ m / 16777216 % 256 ∧ m / 16777216 % 256 < 256 ∧ 0 ≤ m / 65536 % 256 ∧ m / 65536 % 256 < 256 ∧ 0 ≤ m / 256 % 256 ∧ m / 256 % 256 < 256 ∧ 0 ≤ m % 256 ∧ m % 256 < 256 := by omega
    have b2 : 0 ≤ n / 16777216 % 256 ∧ n / 16777216 % 256 < 256 ∧ 0 ≤ n / 65536 % 256 ∧ n / 65536 % 256 < 256 ∧ 0 ≤ n / 256 % 256 ∧ n / 256 % 256 < 256 ∧ 0 ≤ n % 256 ∧ n % 256 < 256 := by omega
    generalize m / 16777216 % 256 = m3 at *
    generalize m / 65536 % 256 = m2 at *
    generalize m / 256 % 256 = m1 at *
    generalize m % 256 = m0 at *
    generalize n / 16777216 % 256 = n3 at *
    generalize n / 65536 % 256 = n2 at *
    generalize n / 256 % 256 = n1 at *
    generalize n % 256 = n0 at *
    omega
theorem num_inj {m n w : Int} (hm : fits m w = true) (hn : fits n w = true) : decide (numL m w = numL n w) = decide (m = n) := by
  rw [Bool.eq_iff_iff, decide_eq_true_eq, decide_eq_true_eq]
  constructor
  · intro h
    have := num_num hm
    rw [h, num_num hn] at this
    exact this.symm
  · rintro rfl
    rfl
theorem byt_id : ∀ {l : List Int}, (∀ x ∈ l, 0 ≤ x ∧ x ≤ 255) → l.map (fun n => ((UInt8.ofNat n.toNat).toNat : Int)) = l
  | [], _ => rfl
  | x :: l, h => by
    have hx := h x (List.mem_cons_self ..)
    rw [List.map_cons, byt_id fun y hy => h y (List.mem_cons_of_mem _ hy)]
    congr 1
    have : x.toNat < 256 := by omega
    simp [UInt8.toNat_ofNat', Nat.mod_eq_of_lt this]
    omega
theorem num_by {m w : Int} (h : fits m w = true) : ∀ x ∈ numL m w, 0 ≤ x ∧ x ≤ 255 := by
  obtain ⟨h0, hc⟩ := fits_is h
  intro x hx
  rcases hc with ⟨rfl, h1⟩ | ⟨rfl, h1⟩ | ⟨rfl, h1⟩ | ⟨rfl, h1⟩
  · rw [num_1 m h0] at hx
    simp at hx
    omega
  · rw [num_2 m h0] at hx
    simp at hx
    omega
  · rw [num_3 m h0] at hx
    simp at hx
    omega
  · rw [num_4 m h0] at hx
    simp at hx
    omega
theorem byt_num {m w : Int} (h : fits m w = true) : (numL m w).map (fun n => ((UInt8.ofNat n.toNat).toNat : Int)) = numL m w := byt_id (num_by h)
/-- What is taken ahead of other bytes. -/
theorem take_num {m w : Int} (h : fits m w = true) (r : List Int) : tkN (numL m w ++ r) 0 w = m ∧ tkE (numL m w ++ r) 0 w = 0 ∧ tkR (numL m w ++ r) 0 w = r := by
  have hl := num_len m w
  have hw : isW w = true := by simp only [fits, Bool.and_eq_true] at h; exact h.2
  have h1 : (numL m w ++ r).take w.toNat = numL m w := by rw [← hl]; simp
  have h2 : (numL m w ++ r).drop w.toNat = r := by rw [← hl]; simp
  have hm : m ≤ grI w := by simp only [fits, Bool.and_eq_true, decide_eq_true_eq] at h; exact h.1.2
  have hb : tkBad (numL m w ++ r) w = false := by
    unfold tkBad
    rw [h1, num_num h]
    simp only [List.length_append, hl, decide_eq_false_iff_not]
    have := of_decide_eq_true hw
    omega
  unfold tkN tkE tkR
  simp [hw, hb, h1, h2, num_num h]
theorem put_num {m w : Int} (h : fits m w = true) : putE m w = 0 ∧ putL [] m w = numL m w := by
  have hw : isW w = true := by simp only [fits, Bool.and_eq_true] at h; exact h.2
  have hm : 0 ≤ m ∧ m ≤ grI w := by simp only [fits, Bool.and_eq_true, decide_eq_true_eq] at h; exact h.1
  have e : putE m w = 0 := by
    unfold putE
    simp [hw]
    omega
  refine ⟨e, ?_⟩
  unfold putL
  rw [e]
  simp [behI]
/-- How a number of a width is drawn from another one. -/
theorem drawn (a k : Int) (ha : 0 ≤ a ∧ a < 4294967296) (hk : 0 ≤ k ∧ k ≤ 255) : isW (stdBin .add .i64 1 (IntKind.i64.wrap (stdBin .rem .u8 k 4))) = true ∧
    fits (stdBin .rem .i64 (IntKind.i64.wrap a) (stdBin .add .i64 (grI (stdBin .add .i64 1 (IntKind.i64.wrap (stdBin .rem .u8 k 4)))) 1)) (stdBin .add .i64 1 (IntKind.i64.wrap (stdBin .rem .u8 k 4))) = true ∧
    ¬ stdBin .add .i64 (grI (stdBin .add .i64 1 (IntKind.i64.wrap (stdBin .rem .u8 k 4)))) 1 = 0 := by
  have e1 : stdBin .rem .u8 k 4 = k % 4 := by rw [b_rem, Int.tmod_eq_emod_of_nonneg hk.1]
  rw [e1, wr (k % 4) (by omega) (by omega), b_add, wr (1 + k % 4) (by omega) (by omega), wr a (by omega) (by omega)]
  have hw : isW (1 + k % 4) = true := decide_eq_true (by omega)
  have hg : 255 ≤ grI (1 + k % 4) ∧ grI (1 + k % 4) ≤ 2147483647 := by
    unfold grI
    repeat' split
    all_goals decide
  rw [b_add, wr _ (by omega) (by omega), b_rem, Int.tmod_eq_emod_of_nonneg ha.1]
  refine ⟨hw, ?_, by omega⟩
  unfold fits
  rw [hw, Bool.and_true]
  have h1 := Int.emod_nonneg a (show grI (1 + k % 4) + 1 ≠ 0 by omega)
  have h2 := Int.emod_lt_of_pos a (show 0 < grI (1 + k % 4) + 1 by omega)
  exact decide_eq_true ⟨h1, by omega⟩

theorem wf32 {a : Int} (h : (Lit.int .u32 a).wf = true) : 0 ≤ a ∧ a < 4294967296 := by
  have h : 0 ≤ a ∧ a ≤ 4294967295 := by simpa [Lit.wf, IntKind.min, IntKind.max, IntKind.signed, IntKind.bits] using h
  omega
end Go.Proofs.Ytakebkfhigadiaa.OctQ
