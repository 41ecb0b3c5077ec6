/-
  A sum of 32 bits, as bits: what the code's numbers are. No condition.
-/
import Derived.Test.YtakebkfhigadiaaRyU
namespace Go.Proofs.Ytakebkfhigadiaa.CrcS
open Go Go.Proofs.Ytakebkfhigadiaa.Ry

/-- A number of a register. -/
abbrev nv (v : BitVec 32) : Int := (v.toNat : Int)
def poly : BitVec 32 := 0x04C11DB7
/-- A bit goes in. -/
def sv (v : BitVec 32) (b : Bool) : BitVec 32 := if v.msb != b then (v <<< 1) ^^^ poly else v <<< 1
/-- The i-th bit of a byte, the highest first. -/
def bt (x : Int) (i : Nat) : Bool := x / 2 ^ (7 - i) % 2 == 1
def sn (v : BitVec 32) (x : Int) : Nat → BitVec 32
  | 0 => v
  | i + 1 => sv (sn v x i) (bt x i)
def s8 (v : BitVec 32) (x : Int) : BitVec 32 := sn v x 8
def sl (v : BitVec 32) (l : List Int) : BitVec 32 := l.foldl s8 v
def ofB (n : Int) : BitVec 32 := BitVec.ofInt 32 n
def moreV (v : BitVec 32) (l : List Int) : BitVec 32 := ~~~ (sl (~~~ v) l)
def ofI (l : List Int) : Int := nv (moreV 0 l)
/-! ## The code's numbers -/
theorem nv_lt (v : BitVec 32) : 0 ≤ nv v ∧ nv v < 4294967296 := by
  have := v.isLt
  unfold nv
  omega
theorem of_nv (v : BitVec 32) : BitVec.ofInt 32 (nv v) = v := by simp [nv]
theorem nv_inj {a b : BitVec 32} : nv a = nv b ↔ a = b := by
  constructor
  · intro h
    rw [← of_nv a, h, of_nv]
  · rintro rfl; rfl
theorem wr32 (n : Int) : IntKind.u32.wrap n = n % 4294967296 := by
  unfold IntKind.wrap
  simp [IntKind.bits, IntKind.signed]
theorem wr8 (n : Int) : IntKind.u8.wrap n = n % 256 := by
  unfold IntKind.wrap
  simp [IntKind.bits, IntKind.signed]
theorem wr32_nv (v : BitVec 32) : IntKind.u32.wrap (nv v) = nv v := by
  have := nv_lt v
  rw [wr32]
  omega
theorem xor_nv (a b : BitVec 32) : stdBin .xor .u32 (nv a) (nv b) = nv (a ^^^ b) := by
  show bits .xor .u32 (nv a) (nv b) = _
  unfold bits
  show IntKind.u32.wrap (nv (BitVec.ofInt 32 (nv a) ^^^ BitVec.ofInt 32 (nv b))) = _
  rw [of_nv, of_nv, wr32_nv]
theorem or_nv (a b : BitVec 32) : stdBin .or .u32 (nv a) (nv b) = nv (a ||| b) := by
  show bits .or .u32 (nv a) (nv b) = _
  unfold bits
  show IntKind.u32.wrap (nv (BitVec.ofInt 32 (nv a) ||| BitVec.ofInt 32 (nv b))) = _
  rw [of_nv, of_nv, wr32_nv]
theorem xor_poly (a : BitVec 32) : stdBin .xor .u32 (nv a) 79764919 = nv (a ^^^ poly) := xor_nv a poly
theorem not_int (n : Int) : stdBin .xor .u32 4294967295 n = nv (~~~ (ofB n)) := by
  show bits .xor .u32 4294967295 n = _
  unfold bits
  show IntKind.u32.wrap (nv (BitVec.allOnes 32 ^^^ BitVec.ofInt 32 n)) = _
  rw [wr32_nv]
  congr 1
theorem ofB_nv (v : BitVec 32) : ofB (nv v) = v := of_nv v
theorem shl1_nv (v : BitVec 32) : stdBin .shl .u32 (nv v) 1 = nv (v <<< 1) := by
  show IntKind.u32.wrap (nv v * 2 ^ 1) = _
  rw [wr32]
  unfold nv
  rw [BitVec.toNat_shiftLeft, Nat.shiftLeft_eq]
  omega
theorem shr31_nv (v : BitVec 32) : stdBin .shr .u32 (nv v) 31 = if v.msb then 1 else 0 := by
  show (nv v).fdiv (2 ^ 31) = _
  rw [Int.fdiv_eq_ediv_of_nonneg _ (by decide)]
  have := v.isLt
  rw [BitVec.msb_eq_decide]
  unfold nv
  by_cases h : 2 ^ (32 - 1) ≤ v.toNat <;> simp [h] <;> omega
theorem and1 (n : Int) : stdBin .and .u32 n 1 = n % 2 := by
  show bits .and .u32 n 1 = _
  unfold bits
  show IntKind.u32.wrap (nv (BitVec.ofInt 32 n &&& 1#32)) = _
  rw [wr32_nv]
  unfold nv
  rw [BitVec.toNat_and]
  show ((((BitVec.ofInt 32 n).toNat &&& 1 : Nat)) : Int) = _
  rw [Nat.and_one_is_mod, BitVec.toNat_ofInt]
  omega
theorem bit_of (x : Int) (i : Nat) (hi : i < 8) : stdBin .and .u32 (stdBin .shr .u32 (IntKind.u32.wrap x) (stdBin .sub .i64 7 i)) 1 = if bt x i then 1 else 0 := by
  rw [and1]
  have e : stdBin .sub .i64 7 i = ((7 - i : Nat) : Int) := by
    show IntKind.i64.wrap (7 - i) = _
    rw [wr _ (by omega) (by omega)]
    omega
  rw [e]
  show (IntKind.u32.wrap x).fdiv (2 ^ (min (((7 - i : Nat) : Int)).toNat 32)) % 2 = _
  have e2 : min (((7 - i : Nat) : Int)).toNat 32 = 7 - i := by omega
  rw [e2, Int.fdiv_eq_ediv_of_nonneg _ (Int.pow_nonneg (by decide)), wr32]
  unfold bt
  have : i = 0 ∨ i = 1 ∨ i = 2 ∨ i = 3 ∨ i = 4 ∨ i = 5 ∨ i = 6 ∨ i = 7 := by omega
  rcases this with rfl | rfl | rfl | rfl | rfl | rfl | rfl | rfl <;> (simp; split <;> omega)
/-! ## The document's answer: 32 truths, the highest first -/
def mk (f : Nat → Bool) : List E := (List.range 32).map fun j => [D.bool (f j)]
def hi (v : BitVec 32) (j : Nat) : Bool := v.getMsbD j
theorem mk_len (f : Nat → Bool) : (mk f).length = 32 := by simp [mk]
theorem mk_at (f : Nat → Bool) {j : Nat} (h : j < 32) : rb ((mk f).getD j []) 0 = f j := by
  simp [mk, List.getD_eq_getElem?_getD, h, rb]
theorem mk_set (f : Nat → Bool) (i : Nat) (b : Bool) : (mk f).set i [D.bool b] = mk (fun j => if j = i then b else f j) := by
  apply List.ext_getElem
  · simp [mk]
  · intro k h1 h2
    simp only [mk, List.getElem_set, List.getElem_map, List.getElem_range]
    by_cases h : i = k
    · simp [h]
    · have : ¬ k = i := fun e => h e.symm
      simp [h, this]
theorem mk_congr {f g : Nat → Bool} (h : ∀ j, j < 32 → f j = g j) : mk f = mk g := by
  unfold mk
  apply List.map_congr_left
  intro j hj
  rw [h j (List.mem_range.1 hj)]
theorem mk_rep : List.replicate 32 [D.bool false] = mk (fun j => decide (j < 0)) := rfl
/-- After the first i bits. -/
def sb (l : List Int) (i : Nat) : BitVec 32 := sn (sl (~~~ 0) (l.take (i / 8))) (l.getD (i / 8) 0) (i % 8)
theorem sb_step (l : List Int) (i : Nat) (h : i < 8 * l.length) : sb l (i + 1) = sv (sb l i) (bt (l.getD (i / 8) 0) (i % 8)) := by
  unfold sb
  have hi : i / 8 < l.length := by omega
  by_cases h7 : i % 8 = 7
  · have e1 : (i + 1) / 8 = i / 8 + 1 := by omega
    have e2 : (i + 1) % 8 = 0 := by omega
    rw [e1, e2, List.take_add_one, h7]
    unfold sl
    rw [List.foldl_append]
    simp [hi, sn, s8]
  · have e1 : (i + 1) / 8 = i / 8 := by omega
    have e2 : (i + 1) % 8 = i % 8 + 1 := by omega
    rw [e1, e2]
    rfl
theorem sb_zero (l : List Int) : sb l 0 = ~~~ 0 := by simp [sb, sl, sn]
theorem u64_nn (n : Int) : 0 ≤ IntKind.u64.wrap n := by
  unfold IntKind.wrap
  simp [IntKind.bits, IntKind.signed]
  omega
theorem u64_lt (n : Int) : stdCmp .lss (IntKind.u64.wrap n) 0 = false := by
  have := u64_nn n
  simp only [stdCmp, decide_eq_false_iff_not]
  omega
theorem sb_end (l : List Int) : ofI l = nv (~~~ (sb l (8 * l.length))) := by
  unfold ofI moreV sb
  have e1 : 8 * l.length / 8 = l.length := by omega
  have e2 : 8 * l.length % 8 = 0 := by omega
  rw [e1, e2]
  simp [sn]
theorem hi_shl (v : BitVec 32) (j : Nat) (h : j < 32) : hi (v <<< 1) j = if j < 31 then hi v (j + 1) else false := by
  unfold hi
  simp only [BitVec.getMsbD_shiftLeft]
  by_cases h1 : j < 31
  · simp [h1]
  · have : j = 31 := by omega
    subst this
    simp
theorem hi_xor (v w : BitVec 32) (j : Nat) : hi (v ^^^ w) j = (hi v j != hi w j) := by
  unfold hi
  simp
/-- The first i bits, turned, as a number. -/
def up (v : BitVec 32) (i : Nat) : Int := (((~~~ v).toNat >>> (32 - i) : Nat) : Int)
theorem up_step (v : BitVec 32) (i : Nat) (h : i < 32) : up v (i + 1) = up v i * 2 + (if hi v i then 0 else 1) := by
  unfold up
  have e : 32 - i = (32 - (i + 1)) + 1 := by omega
  have hb : hi v i = !(~~~ v).getLsbD (32 - (i + 1)) := by
    have e2 : 32 - (i + 1) = 31 - i := by omega
    have e3 : 31 - i < 32 := by omega
    unfold hi
    rw [BitVec.getMsbD, e2, BitVec.getLsbD_not]
    simp [h, e3]
  rw [hb, e, Nat.shiftRight_succ, BitVec.getLsbD, Nat.testBit]
  generalize (~~~ v).toNat >>> (32 - (i + 1)) = n
  simp only [Nat.one_and_eq_mod_two]
  rcases Nat.mod_two_eq_zero_or_one n with h | h <;> simp [h] <;> omega
theorem wr64 (n : Int) (h0 : 0 ≤ n) (h1 : n < 18446744073709551616) : IntKind.u64.wrap n = n := by
  unfold IntKind.wrap
  simp [IntKind.bits, IntKind.signed]
  omega
theorem poly_bit (k : Int) (h0 : 0 ≤ k) (h1 : k < 32) : stdCmp .eql (stdBin .rem .i64 (stdBin .shr .i64 79764919 (IntKind.u64.wrap (stdBin .sub .i64 31 k))) 2) 1 = hi poly k.toNat := by
  obtain ⟨n, rfl⟩ := Int.eq_ofNat_of_zero_le h0
  have h : ∀ n : Fin 32, stdCmp .eql (stdBin .rem .i64 (stdBin .shr .i64 79764919 (IntKind.u64.wrap (stdBin .sub .i64 31 (n.val : Int)))) 2) 1 = hi poly n.val := by decide +kernel
  exact h ⟨n, by omega⟩
theorem quo8 (i : Int) (h0 : 0 ≤ i) (h1 : i < 9223372036854775807) : stdBin .quo .i64 i 8 = ((i.toNat / 8 : Nat) : Int) := by
  rw [b_quo, Int.tdiv_eq_ediv_of_nonneg h0, wr _ (by omega) (by omega)]
  omega
theorem rem8 (i : Int) (h0 : 0 ≤ i) : stdBin .rem .i64 i 8 = ((i.toNat % 8 : Nat) : Int) := by
  rw [b_rem, Int.tmod_eq_emod_of_nonneg h0]
  omega
theorem bit_ref (x i : Int) (hx : 0 ≤ x) (h0 : 0 ≤ i) : stdCmp .eql (stdBin .rem .u8 (stdBin .shr .u8 x (IntKind.u64.wrap (stdBin .sub .i64 7 (stdBin .rem .i64 i 8)))) 2) 1 = bt x (i.toNat % 8) := by
  rw [rem8 i h0]
  have h8 : i.toNat % 8 < 8 := Nat.mod_lt _ (by decide)
  generalize i.toNat % 8 = m at h8
  have e : stdBin .sub .i64 7 (m : Int) = ((7 - m : Nat) : Int) := by
    rw [b_sub, wr _ (by omega) (by omega)]
    omega
  rw [e, wr64 _ (by omega) (by omega), b_rem]
  show stdCmp .eql ((x.fdiv (2 ^ (min (((7 - m : Nat) : Int)).toNat 8))).tmod 2) 1 = _
  have e2 : min (((7 - m : Nat) : Int)).toNat 8 = 7 - m := by omega
  have hp : (0 : Int) ≤ 2 ^ (7 - m) := Int.pow_nonneg (by decide)
  rw [e2, Int.fdiv_eq_ediv_of_nonneg _ hp, Int.tmod_eq_emod_of_nonneg (Int.ediv_nonneg hx hp)]
  rfl
end Go.Proofs.Ytakebkfhigadiaa.CrcS
