/-
  The theorem of bursts: sealed bytes of which some bits are turned, all within 32 in a row, are not sealed. No condition.
-/
import Derived.Test.YtgemoemkgcmcgaaCrcB
namespace Go.Proofs.Ytgemoemkgcmcgaa.CrcW
open Go Go.Proofs.Ytgemoemkgcmcgaa.Ry Go.Proofs.Ytgemoemkgcmcgaa.CrcS Go.Proofs.Ytgemoemkgcmcgaa.CrcR Go.Proofs.Ytgemoemkgcmcgaa.CrcT Go.Proofs.Ytgemoemkgcmcgaa.CrcV Go.Proofs.Ytgemoemkgcmcgaa.CrcB

def it (r : BitVec 32) (f : Nat → Bool) : Nat → BitVec 32
  | 0 => r
  | n + 1 => sv (it r f n) (f n)
def bitAt (l : List Int) (k : Nat) : Bool := bt (l.getD (k / 8) 0) (k % 8)
theorem sl_it (v : BitVec 32) (l : List Int) : ∀ i, i ≤ 8 * l.length → it v (bitAt l) i = sn (sl v (l.take (i / 8))) (l.getD (i / 8) 0) (i % 8)
  | 0, _ => by simp [it, sl, sn]
  | i + 1, h => by
    have ih := sl_it v l i (by omega)
    have hi : i / 8 < l.length := by omega
    show sv (it v (bitAt l) i) (bitAt l i) = _
    rw [ih]
    unfold bitAt
    by_cases h7 : i % 8 = 7
    · have e1 : (i + 1) / 8 = i / 8 + 1 := by omega
      have e2 : (i + 1) % 8 = 0 := by omega
      rw [e1, e2, List.take_add_one, h7]
      unfold sl
      rw [List.foldl_append]
      simp [hi, sn, s8]
    · have e1 : (i + 1) / 8 = i / 8 := by omega
      have e2 : (i + 1) % 8 = i % 8 + 1 := by omega
      rw [e1, e2]
      rfl
theorem sl_end (v : BitVec 32) (l : List Int) : sl v l = it v (bitAt l) (8 * l.length) := by
  rw [sl_it v l _ (Nat.le_refl _)]
  have e1 : 8 * l.length / 8 = l.length := by omega
  have e2 : 8 * l.length % 8 = 0 := by omega
  rw [e1, e2]
  simp [sn]
theorem it_lin (u v : BitVec 32) (f g : Nat → Bool) : ∀ n, it (u ^^^ v) (fun i => f i != g i) n = it u f n ^^^ it v g n
  | 0 => rfl
  | n + 1 => by
    show sv (it (u ^^^ v) (fun i => f i != g i) n) (f n != g n) = sv (it u f n) (f n) ^^^ sv (it v g n) (g n)
    rw [it_lin u v f g n, sv_lin]
theorem it_congr {r : BitVec 32} {f g : Nat → Bool} : ∀ {n}, (∀ i, i < n → f i = g i) → it r f n = it r g n
  | 0, _ => rfl
  | n + 1, h => by
    show sv (it r f n) (f n) = sv (it r g n) (g n)
    rw [it_congr fun i hi => h i (by omega), h n (by omega)]
theorem sv_zero : sv 0 false = 0 := by decide
theorem sv_low (v : BitVec 32) (b : Bool) : (sv v b).getLsbD 0 = (v.msb != b) := by
  unfold sv
  have hp : poly.getLsbD 0 = true := by decide
  cases h : (v.msb != b)
  · simp
  · simp [hp]
theorem back {v : BitVec 32} {b : Bool} {j : Nat} (hj : j ≤ 31) (h : sv v b <<< j = 0) : v.msb = b ∧ sv v b = v <<< 1 ∧ v <<< (j + 1) = 0 := by
  have h0 : (sv v b).getLsbD 0 = false := by
    have e : (sv v b <<< j).getLsbD j = false := by rw [h]; simp
    rw [BitVec.getLsbD_shiftLeft] at e
    have hj2 : j < 32 := by omega
    simpa [hj2] using e
  rw [sv_low] at h0
  have hm : v.msb = b := by
    cases hv : v.msb <;> cases b <;> simp_all
  have e1 : sv v b = v <<< 1 := by
    unfold sv
    rw [h0]
    rfl
  refine ⟨hm, e1, ?_⟩
  rw [e1, ← BitVec.shiftLeft_add] at h
  rwa [Nat.add_comm] at h
theorem no_bits {v : BitVec 32} (hm : v.msb = false) (h : v <<< 1 = 0) : v = 0 := by
  apply BitVec.eq_of_getLsbD_eq
  intro i hi
  by_cases h31 : i = 31
  · subst h31
    rw [BitVec.msb_eq_getLsbD_last] at hm
    simpa using hm
  · have e : (v <<< 1).getLsbD (i + 1) = false := by rw [h]; simp
    rw [BitVec.getLsbD_shiftLeft] at e
    have h2 : i + 1 < 32 := by omega
    simpa [h2] using e
theorem tail_zero {f : Nat → Bool} {N M : Nat} (h0 : it 0 f N = 0) (hM : M ≤ N) (hf : ∀ i, M ≤ i → i < N → f i = false) : it 0 f M = 0 := by
  have key : ∀ d, d ≤ N - M → it 0 f (N - d) = 0 := by
    intro d
    induction d with
    | zero => intro _; exact h0
    | succ d ih =>
      intro hd
      have h1 := ih (by omega)
      have e : N - d = (N - (d + 1)) + 1 := by omega
      rw [e] at h1
      have h2 : sv (it 0 f (N - (d + 1))) (f (N - (d + 1))) = 0 := h1
      rw [hf _ (by omega) (by omega)] at h2
      obtain ⟨k1, k2, k3⟩ := back (j := 0) (by omega) (show sv (it 0 f (N - (d + 1))) false <<< 0 = 0 by rw [h2]; rfl)
      exact no_bits k1 k3
  have := key (N - M) (Nat.le_refl _)
  rwa [show N - (N - M) = M by omega] at this
theorem back_all {f : Nat → Bool} {M : Nat} (h0 : it 0 f M = 0) : ∀ j, j ≤ 32 → j ≤ M → it 0 f (M - j) <<< j = 0 ∧ ∀ n, M - j ≤ n → n < M → f n = (it 0 f n).msb ∧ it 0 f (n + 1) = it 0 f n <<< 1
  | 0, _, _ => ⟨by rw [Nat.sub_zero, h0]; rfl, fun n h1 h2 => by omega⟩
  | j + 1, h32, hM => by
    obtain ⟨k1, k2⟩ := back_all h0 j (by omega) (by omega)
    have e : M - j = (M - (j + 1)) + 1 := by omega
    rw [e] at k1
    have k1 : sv (it 0 f (M - (j + 1))) (f (M - (j + 1))) <<< j = 0 := k1
    obtain ⟨q1, q2, q3⟩ := back (by omega) k1
    refine ⟨q3, fun n h1 h2 => ?_⟩
    by_cases hn : n = M - (j + 1)
    · subst hn
      exact ⟨q1.symm, q2⟩
    · exact k2 n (by omega) h2
/-- Bits that are not all off, all within 32 in a row, leave no empty register. -/
theorem window {f : Nat → Bool} {a N : Nat} (h0 : it 0 f N = 0) (hout : ∀ i, i < N → ¬ (a ≤ i ∧ i < a + 32) → f i = false) : ∀ i, i < N → f i = false := by
  have hM := tail_zero (M := min N (a + 32)) h0 (by omega) (fun i h1 h2 => hout i h2 (by omega))
  generalize hMd : min N (a + 32) = M at hM
  obtain ⟨_, hb⟩ := back_all hM (min 32 M) (by omega) (by omega)
  have fwd : ∀ n, n ≤ M → it 0 f n = 0 := by
    intro n
    induction n with
    | zero => intro _; rfl
    | succ n ih =>
      intro hn
      have e := ih (by omega)
      by_cases ha : n < a
      · show sv (it 0 f n) (f n) = 0
        rw [e, hout n (by omega) (by omega)]
        exact sv_zero
      · have := (hb n (by omega) (by omega)).2
        rw [this, e]
        rfl
  intro i hi
  by_cases hw : a ≤ i ∧ i < a + 32
  · have h1 := (hb i (by omega) (by omega)).1
    rw [h1, fwd i (by omega)]
    rfl
  · exact hout i hi hw
theorem it_own (V : BitVec 32) : ∀ k, k ≤ 32 → it V (fun i => !(V.getMsbD i)) k = (V <<< k) ^^^ it 0 (fun _ => true) k
  | 0, _ => by simp [it]
  | k + 1, h => by
    show sv (it V (fun i => !(V.getMsbD i)) k) (!(V.getMsbD k)) = _ ^^^ sv (it 0 (fun _ => true) k) true
    rw [it_own V k (by omega)]
    have e : (!(V.getMsbD k)) = (V.getMsbD k != true) := by cases V.getMsbD k <;> rfl
    rw [e, sv_lin]
    congr 1
    have hm : (V <<< k).msb = V.getMsbD k := by
      rw [BitVec.msb_shiftLeft]
    unfold sv
    rw [hm]
    have : (V.getMsbD k != V.getMsbD k) = false := by cases V.getMsbD k <;> rfl
    rw [this, ← BitVec.shiftLeft_add]
    rfl
theorem bit4 (N : BitVec 32) (k : Nat) (hk : k < 32) : bitAt [((N.toNat / 16777216 : Nat) : Int), ((N.toNat / 65536 % 256 : Nat) : Int), ((N.toNat / 256 % 256 : Nat) : Int), ((N.toNat % 256 : Nat) : Int)] k = N.getMsbD k := by
  have hn := N.isLt
  rw [BitVec.getMsbD, BitVec.getLsbD, Nat.testBit_eq_decide_div_mod_eq]
  generalize N.toNat = n at hn
  have : k = 0 ∨ k = 1 ∨ k = 2 ∨ k = 3 ∨ k = 4 ∨ k = 5 ∨ k = 6 ∨ k = 7 ∨ k = 8 ∨ k = 9 ∨ k = 10 ∨ k = 11 ∨ k = 12 ∨ k = 13 ∨ k = 14 ∨ k = 15 ∨ k = 16 ∨ k = 17 ∨ k = 18 ∨ k = 19 ∨ k = 20 ∨ k = 21 ∨ k = 22 ∨ k = 23 ∨ k = 24 ∨ k = 25 ∨ k = 26 ∨ k = 27 ∨ k = 28 ∨ k = 29 ∨ k = 30 ∨ k = 31 := by omega
  rcases this with rfl | rfl | rfl | rfl | rfl | rfl | rfl | rfl | rfl | rfl | rfl | rfl | rfl | rfl | rfl | rfl | rfl | rfl | rfl | rfl | rfl | rfl | rfl | rfl | rfl | rfl | rfl | rfl | rfl | rfl | rfl | rfl <;> (simp [bitAt, bt]; rw [Bool.eq_iff_iff]; simp only [beq_iff_eq, decide_eq_true_eq]; omega)
/-- What the register is behind sealed bytes. -/
theorem residue (l : List Int) : sl (~~~ 0) (l ++ sum4 l) = it 0 (fun _ => true) 32 := by
  have e0 : sl (~~~ 0) (l ++ sum4 l) = sl (sl (~~~ 0) l) (sum4 l) := by
    unfold sl
    rw [List.foldl_append]
  rw [e0, sl_end]
  have h4 : 8 * (sum4 l).length = 32 := rfl
  rw [h4]
  obtain ⟨n, hn, e1, e2⟩ := sum4_nat l
  have hV : n = (~~~ (sl (~~~ 0) l)).toNat := by
    have : ((moreV 0 l).toNat : Int) = (n : Int) := e1
    unfold moreV at this
    exact_mod_cast this.symm
  rw [e2, hV]
  generalize sl (~~~ 0) l = V
  rw [it_congr (g := fun i => !(V.getMsbD i)) fun i hi => by
    rw [bit4 _ i hi]
    rw [BitVec.getMsbD_not]
    simp [hi]]
  rw [it_own V 32 (Nat.le_refl _)]
  have : V <<< 32 = 0 := by
    apply BitVec.eq_of_getLsbD_eq
    intro i hi
    rw [BitVec.getLsbD_shiftLeft]
    simp [hi]
  rw [this]
  simp
theorem byte_eq {x y : Int} (hx : 0 ≤ x ∧ x ≤ 255) (hy : 0 ≤ y ∧ y ≤ 255) (h : ∀ j, j < 8 → bt x j = bt y j) : x = y := by
  have e0 : x / 128 % 2 = y / 128 % 2 := by
    have h0 := Bool.eq_iff_iff.1 (h 0 (by decide))
    simp only [bt, beq_iff_eq] at h0
    have p : (2 : Int) ^ (7 - 0) = 128 := by decide
    rw [p] at h0
    clear h hx hy
    omega
  have e1 : x / 64 % 2 = y / 64 % 2 := by
    have h1 := Bool.eq_iff_iff.1 (h 1 (by decide))
    simp only [bt, beq_iff_eq] at h1
    have p : (2 : Int) ^ (7 - 1) = 64 := by decide
    rw [p] at h1
    clear h hx hy
    omega
  have e2 : x / 32 % 2 = y / 32 % 2 := by
    have h2 := Bool.eq_iff_iff.1 (h 2 (by decide))
    simp only [bt, beq_iff_eq] at h2
    have p : (2 : Int) ^ (7 - 2) = 32 := by decide
    rw [p] at h2
    clear h hx hy
    omega
  have e3 : x / 16 % 2 = y / 16 % 2 := by
    have h3 := Bool.eq_iff_iff.1 (h 3 (by decide))
    simp only [bt, beq_iff_eq] at h3
    have p : (2 : Int) ^ (7 - 3) = 16 := by decide
    rw [p] at h3
    clear h hx hy
    omega
  have e4 : x / 8 % 2 = y / 8 % 2 := by
    have h4 := Bool.eq_iff_iff.1 (h 4 (by decide))
    simp only [bt, beq_iff_eq] at h4
    have p : (2 : Int) ^ (7 - 4) = 8 := by decide
    rw [p] at h4
    clear h hx hy
    omega
  have e5 : x / 4 % 2 = y / 4 % 2 := by
    have h5 := Bool.eq_iff_iff.1 (h 5 (by decide))
    simp only [bt, beq_iff_eq] at h5
    have p : (2 : Int) ^ (7 - 5) = 4 := by decide
    rw [p] at h5
    clear h hx hy
    omega
  have e6 : x / 2 % 2 = y / 2 % 2 := by
    have h6 := Bool.eq_iff_iff.1 (h 6 (by decide))
    simp only [bt, beq_iff_eq] at h6
    have p : (2 : Int) ^ (7 - 6) = 2 := by decide
    rw [p] at h6
    clear h hx hy
    omega
  have e7 : x / 1 % 2 = y / 1 % 2 := by
    have h7 := Bool.eq_iff_iff.1 (h 7 (by decide))
    simp only [bt, beq_iff_eq] at h7
    have p : (2 : Int) ^ (7 - 7) = 1 := by decide
    rw [p] at h7
    clear h hx hy
    omega
  clear h
  have f1 : x / 128 = y / 128 := by omega
  have f2 : x / 64 = y / 64 := by omega
  have f3 : x / 32 = y / 32 := by omega
  have f4 : x / 16 = y / 16 := by omega
  have f5 : x / 8 = y / 8 := by omega
  have f6 : x / 4 = y / 4 := by omega
  have f7 : x / 2 = y / 2 := by omega
  omega
theorem sealed_is {t : List Int} (ht : ∀ x ∈ t, 0 ≤ x ∧ x ≤ 255) (h4 : ¬ t.length < 4) (h : errI t = 0) : ∃ m, t = m ++ sum4 m := by
  unfold errI at h
  rw [if_neg h4] at h
  split at h
  · rename_i hs
    refine ⟨t.take (t.length - 4), ?_⟩
    have hd : (t.drop (t.length - 4)).length = 4 := by rw [List.length_drop]; omega
    have hm : ∀ x ∈ t.drop (t.length - 4), 0 ≤ x ∧ x ≤ 255 := fun x hx => ht x (List.mem_of_mem_drop hx)
    obtain ⟨a, b, c, d, hx⟩ := four hd
    rw [hx] at hm hs
    have := (sum4_iff (t.take (t.length - 4)) a b c d (hm a (by simp)) (hm b (by simp)) (hm c (by simp)) (hm d (by simp))).2 hs
    rw [this, ← hx, List.take_append_drop]
  · exact absurd h (by decide)
theorem found {s t : List Int} (hl : t.length = s.length) (hs : ∀ x ∈ s, 0 ≤ x ∧ x ≤ 255) (ht : ∀ x ∈ t, 0 ≤ x ∧ x ≤ 255) {m m' : List Int} (es : s = m ++ sum4 m) (et : t = m' ++ sum4 m') {a : Nat}
    (hb : ∀ k, k < 8 * s.length → ¬ (a ≤ k ∧ k < a + 32) → bitAt t k = bitAt s k) : t = s := by
  have r1 := residue m
  have r2 := residue m'
  rw [← es, sl_end] at r1
  rw [← et, sl_end, hl] at r2
  have hz := it_lin (~~~ 0) (~~~ 0) (bitAt t) (bitAt s) (8 * s.length)
  rw [r1, r2] at hz
  have e1 : (~~~ (0 : BitVec 32)) ^^^ ~~~ 0 = 0 := by decide
  rw [e1, BitVec.xor_self] at hz
  have hw := window hz (a := a) (fun i hi ho => by rw [hb i hi ho]; cases bitAt s i <;> rfl)
  apply List.ext_getElem hl
  intro i h1 h2
  refine byte_eq (ht _ (List.getElem_mem h1)) (hs _ (List.getElem_mem h2)) fun j hj => ?_
  have hk := hw (8 * i + j) (by omega)
  have e2 : (8 * i + j) / 8 = i := by omega
  have e3 : (8 * i + j) % 8 = j := by omega
  unfold bitAt at hk
  rw [e2, e3, List.getD_eq_getElem?_getD, List.getD_eq_getElem?_getD, List.getElem?_eq_getElem h1, List.getElem?_eq_getElem h2] at hk
  simp only [Option.getD_some] at hk
  cases hx : bt t[i] j <;> cases hy : bt s[i] j <;> simp_all
theorem one8_off : ∀ r : Fin 8, ∀ j : Fin 8, j ≠ r → (BitVec.ofInt 8 (stdBin .shl .u8 1 (IntKind.u64.wrap (stdBin .sub .i64 7 (r.val : Int))))).getLsbD (7 - j.val) = false := by decide +kernel
theorem one8_bit (x k : Int) (h0 : 0 ≤ k) (j : Nat) (hj : j < 8) (hne : (j : Int) ≠ k % 8) : bt (stdBin .xor .u8 x (one8 k)) j = bt x j := by
  have e1 : stdBin .rem .i64 k 8 = k % 8 := by rw [b_rem, Int.tmod_eq_emod_of_nonneg h0]
  unfold one8
  rw [e1, xor8, bt_bv _ j hj, bt_bv x j hj, of8, BitVec.getLsbD_xor]
  obtain ⟨r, hr⟩ := Int.eq_ofNat_of_zero_le (Int.emod_nonneg k (show (8 : Int) ≠ 0 by decide))
  rw [hr]
  have h8 : r < 8 := by
    have := Int.emod_lt_of_pos k (show (0 : Int) < 8 by decide)
    omega
  have := one8_off ⟨r, h8⟩ ⟨j, hj⟩ (by
    intro e
    have := congrArg Fin.val e
    simp at this
    omega)
  simp only at this
  rw [this]
  simp
theorem bu_bits (l : List Int) (a p : Int) (h0 : 0 ≤ a) : ∀ i k : Nat, ¬ (a ≤ k ∧ (k : Int) < a + i) → bitAt (buN l a p i) k = bitAt l k
  | 0, _, _ => rfl
  | i + 1, k, hk => by
    have ih := bu_bits l a p h0 i k (by omega)
    unfold buN
    split
    · rename_i hc
      have hlen := bu_len l a p i
      unfold bitAt at ih ⊢
      by_cases hq : ((a + i) / 8).toNat = k / 8
      · have hlt : k / 8 < (buN l a p i).length := by omega
        have e : ((buN l a p i).set ((a + i) / 8).toNat (stdBin .xor .u8 ((buN l a p i).getD ((a + i) / 8).toNat 0) (one8 (a + i)))).getD (k / 8) 0 = stdBin .xor .u8 ((buN l a p i).getD (k / 8) 0) (one8 (a + i)) := by
          rw [hq, List.getD_eq_getElem?_getD, List.getElem?_set_self hlt]
          rfl
        rw [e, one8_bit _ _ (by omega) _ (by omega) (by omega)]
        exact ih
      · have e : ((buN l a p i).set ((a + i) / 8).toNat (stdBin .xor .u8 ((buN l a p i).getD ((a + i) / 8).toNat 0) (one8 (a + i)))).getD (k / 8) 0 = (buN l a p i).getD (k / 8) 0 := by
          rw [List.getD_eq_getElem?_getD, List.getElem?_set_ne hq, ← List.getD_eq_getElem?_getD]
        rw [e]
        exact ih
    · exact ih
theorem bu_byte (l : List Int) (a p : Int) (hl : ∀ x ∈ l, 0 ≤ x ∧ x ≤ 255) : ∀ i, ∀ x ∈ buN l a p i, 0 ≤ x ∧ x ≤ 255
  | 0 => hl
  | i + 1 => by
    have ih := bu_byte l a p hl i
    unfold buN
    split
    · intro x hx
      rcases List.mem_or_eq_of_mem_set hx with h | rfl
      · exact ih x h
      · rw [xor8]
        have := (BitVec.ofInt 8 ((buN l a p i).getD ((a + i) / 8).toNat 0) ^^^ BitVec.ofInt 8 (one8 (a + i))).isLt
        omega
    · exact ih
theorem seal_byte (l : List Int) (hl : ∀ x ∈ l, 0 ≤ x ∧ x ≤ 255) : ∀ x ∈ sealI l, 0 ≤ x ∧ x ≤ 255 := by
  intro x hx
  unfold sealI at hx
  rcases List.mem_append.1 hx with h | h
  · exact hl x h
  · exact sum4_byte l x h
/-- A burst in sealed bytes is nothing, or is found. -/
theorem bursts (l : List Int) (a p : Int) (h0 : 0 ≤ a) (hl : ∀ x ∈ l, 0 ≤ x ∧ x ≤ 255) : buL (sealI l) a p = sealI l ∨ errI (buL (sealI l) a p) = 6 := by
  have hlen := bu_len (sealI l) a p 32
  have hsl := seal_len l
  have h4 : ¬ (buN (sealI l) a p 32).length < 4 := by omega
  have hsb := seal_byte l hl
  have hb := bu_byte (sealI l) a p hsb 32
  unfold buL
  by_cases he : errI (buN (sealI l) a p 32) = 0
  · left
    obtain ⟨m', et⟩ := sealed_is hb h4 he
    refine found hlen hsb hb (m := l) rfl et (a := a.toNat) fun k _ hk => bu_bits (sealI l) a p h0 32 k (by omega)
  · right
    unfold errI at he ⊢
    rw [if_neg h4] at he ⊢
    split
    · rename_i h
      rw [if_pos h] at he
      exact absurd rfl he
    · rfl
end Go.Proofs.Ytgemoemkgcmcgaa.CrcW
