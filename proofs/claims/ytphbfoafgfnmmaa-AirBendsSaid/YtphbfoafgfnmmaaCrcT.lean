/-
  A sum in four bytes, there and back. No condition.
-/
import Derived.Test.YtphbfoafgfnmmaaCrcR
namespace Go.Proofs.Ytphbfoafgfnmmaa.CrcT
open Go Go.Proofs.Ytphbfoafgfnmmaa.Ry Go.Proofs.Ytphbfoafgfnmmaa.CrcS Go.Proofs.Ytphbfoafgfnmmaa.CrcR

theorem or_add (a b i : Nat) (h : b < 2 ^ i) : (a * 2 ^ i) ||| b = a * 2 ^ i + b := by
  have := Nat.shiftLeft_add_eq_or_of_lt h a
  rw [Nat.shiftLeft_eq] at this
  exact this.symm
theorem nv_of (a : Nat) (h : a < 4294967296) : nv (BitVec.ofNat 32 a) = (a : Int) := by
  unfold nv
  rw [BitVec.toNat_ofNat, Nat.mod_eq_of_lt (by omega)]
theorem or_int (a b : Nat) (ha : a < 4294967296) (hb : b < 4294967296) : stdBin .or .u32 (a : Int) (b : Int) = ((a ||| b : Nat) : Int) := by
  rw [← nv_of a ha, ← nv_of b hb, or_nv]
  unfold nv
  rw [BitVec.toNat_or, BitVec.toNat_ofNat, BitVec.toNat_ofNat, Nat.mod_eq_of_lt (by omega), Nat.mod_eq_of_lt (by omega)]
theorem shl24 (d : Nat) (h : d < 256) : stdBin .shl .u32 (IntKind.u32.wrap (d : Int)) 24 = ((d * 2 ^ 24 : Nat) : Int) := by
  show IntKind.u32.wrap (IntKind.u32.wrap (d : Int) * 2 ^ 24) = _
  rw [wr32, wr32]
  omega
theorem shl16 (d : Nat) (h : d < 256) : stdBin .shl .u32 (IntKind.u32.wrap (d : Int)) 16 = ((d * 2 ^ 16 : Nat) : Int) := by
  show IntKind.u32.wrap (IntKind.u32.wrap (d : Int) * 2 ^ 16) = _
  rw [wr32, wr32]
  omega
theorem shl8 (d : Nat) (h : d < 256) : stdBin .shl .u32 (IntKind.u32.wrap (d : Int)) 8 = ((d * 2 ^ 8 : Nat) : Int) := by
  show IntKind.u32.wrap (IntKind.u32.wrap (d : Int) * 2 ^ 8) = _
  rw [wr32, wr32]
  omega
set_option maxRecDepth 100000 in
theorem last_nat (a b c d : Nat) (ha : a < 256) (hb : b < 256) (hc : c < 256) (hd : d < 256) : lastI [(a : Int), b, c, d] = ((a * 16777216 + b * 65536 + c * 256 + d : Nat) : Int) := by
  unfold lastI
  have e0 : List.getD [(a : Int), b, c, d] 0 0 = a := rfl
  have e1 : List.getD [(a : Int), b, c, d] 1 0 = b := rfl
  have e2 : List.getD [(a : Int), b, c, d] 2 0 = c := rfl
  have e3 : List.getD [(a : Int), b, c, d] 3 0 = d := rfl
  have e4 : IntKind.u32.wrap (d : Int) = (d : Int) := by rw [wr32]; omega
  rw [e0, e1, e2, e3, shl24 a ha, shl16 b hb, shl8 c hc, e4, or_int _ _ (by omega) (by omega), or_add a (b * 2 ^ 16) 24 (by omega)]
  have f1 : a * 2 ^ 24 + b * 2 ^ 16 = (a * 2 ^ 8 + b) * 2 ^ 16 := by omega
  rw [f1, or_int _ _ (by omega) (by omega), or_add _ (c * 2 ^ 8) 16 (by omega)]
  have g2 : ∀ x y z : Nat, (x * 256 + y) * 65536 + z * 256 = (x * 65536 + y * 256 + z) * 256 := by
    intro x y z
    simp only [Nat.add_mul, Nat.mul_assoc, Nat.reduceMul, Nat.add_assoc]
  have f2 : (a * 2 ^ 8 + b) * 2 ^ 16 + c * 2 ^ 8 = (a * 65536 + b * 256 + c) * 2 ^ 8 := g2 a b c
  have g3 : ∀ x y z u : Nat, (x * 65536 + y * 256 + z) * 256 + u = x * 16777216 + y * 65536 + z * 256 + u := by
    intro x y z u
    simp only [Nat.add_mul, Nat.mul_assoc, Nat.reduceMul, Nat.add_assoc]
  have f3 : (a * 65536 + b * 256 + c) * 2 ^ 8 + d = a * 16777216 + b * 65536 + c * 256 + d := g3 a b c d
  rw [f2, or_int _ _ (by omega) (by omega), or_add _ d 8 (by omega), f3]
theorem shr_nat (n k : Nat) (hk : k ≤ 32) : stdBin .shr .u32 (n : Int) (k : Int) = ((n / 2 ^ k : Nat) : Int) := by
  show (n : Int).fdiv (2 ^ (min ((k : Int)).toNat 32)) = _
  have e : min ((k : Int)).toNat 32 = k := by omega
  rw [e, Int.fdiv_eq_ediv_of_nonneg _ (Int.pow_nonneg (by decide))]
  simp
theorem sum4_nat (l : List Int) : ∃ n : Nat, n < 4294967296 ∧ ofI l = (n : Int) ∧ sum4 l = [((n / 16777216 : Nat) : Int), ((n / 65536 % 256 : Nat) : Int), ((n / 256 % 256 : Nat) : Int), ((n % 256 : Nat) : Int)] := by
  refine ⟨(moreV 0 l).toNat, (moreV 0 l).isLt, rfl, ?_⟩
  have hn := (moreV 0 l).isLt
  unfold sum4
  have e : ofI l = ((moreV 0 l).toNat : Int) := rfl
  rw [e]
  generalize (moreV 0 l).toNat = n at hn
  have h1 := shr_nat n 24 (by decide)
  have h2 := shr_nat n 16 (by decide)
  have h3 := shr_nat n 8 (by decide)
  have g1 : stdBin .shr .u32 (n : Int) 24 = ((n / 2 ^ 24 : Nat) : Int) := h1
  have g2 : stdBin .shr .u32 (n : Int) 16 = ((n / 2 ^ 16 : Nat) : Int) := h2
  have g3 : stdBin .shr .u32 (n : Int) 8 = ((n / 2 ^ 8 : Nat) : Int) := h3
  rw [g1, g2, g3, wr8, wr8, wr8, wr8]
  have k1 : ((n / 2 ^ 24 : Nat) : Int) % 256 = ((n / 16777216 : Nat) : Int) := by omega
  have k2 : ((n / 2 ^ 16 : Nat) : Int) % 256 = ((n / 65536 % 256 : Nat) : Int) := by omega
  have k3 : ((n / 2 ^ 8 : Nat) : Int) % 256 = ((n / 256 % 256 : Nat) : Int) := by omega
  have k4 : (n : Int) % 256 = ((n % 256 : Nat) : Int) := by omega
  rw [k1, k2, k3, k4]
theorem last_sum4 (l : List Int) : lastI (sum4 l) = ofI l := by
  obtain ⟨n, hn, e1, e2⟩ := sum4_nat l
  rw [e1, e2, last_nat _ _ _ _ (by omega) (by omega) (by omega) (by omega)]
  omega
theorem sum4_len (l : List Int) : (sum4 l).length = 4 := rfl
theorem open_seal (l : List Int) : openI (sealI l) = l ∧ errI (sealI l) = 0 := by
  have h1 : ¬ (l ++ sum4 l).length < 4 := by rw [List.length_append, sum4_len]; omega
  have h2 : (l ++ sum4 l).length - 4 = l.length := by rw [List.length_append, sum4_len]; omega
  have h3 : (l ++ sum4 l).take l.length = l := by simp
  have h4 : (l ++ sum4 l).drop l.length = sum4 l := by simp
  have h5 : ofI l = lastI (sum4 l) := (last_sum4 l).symm
  unfold openI errI sealI
  rw [if_neg h1, if_neg h1, h2, h3, h4, if_pos h5, if_pos h5]
  exact ⟨rfl, rfl⟩
theorem seal_len (l : List Int) : (sealI l).length = l.length + 4 := by
  unfold sealI
  rw [List.length_append, sum4_len]
/-- Four bytes are a sum's if and only if the sum is theirs. -/
theorem sum4_iff (l : List Int) (a b c d : Int) (ha : 0 ≤ a ∧ a ≤ 255) (hb : 0 ≤ b ∧ b ≤ 255) (hc : 0 ≤ c ∧ c ≤ 255) (hd : 0 ≤ d ∧ d ≤ 255) : sum4 l = [a, b, c, d] ↔ ofI l = lastI [a, b, c, d] := by
  constructor
  · intro h
    rw [← h, last_sum4]
  · intro h
    obtain ⟨n, hn, e1, e2⟩ := sum4_nat l
    obtain ⟨a, rfl⟩ := Int.eq_ofNat_of_zero_le ha.1
    obtain ⟨b, rfl⟩ := Int.eq_ofNat_of_zero_le hb.1
    obtain ⟨c, rfl⟩ := Int.eq_ofNat_of_zero_le hc.1
    obtain ⟨d, rfl⟩ := Int.eq_ofNat_of_zero_le hd.1
    rw [last_nat a b c d (by omega) (by omega) (by omega) (by omega), e1] at h
    rw [e2]
    have h1 : n / 16777216 = a := by omega
    have h2 : n / 65536 % 256 = b := by omega
    have h3 : n / 256 % 256 = c := by omega
    have h4 : n % 256 = d := by omega
    rw [h1, h2, h3, h4]
theorem byt_id {l : List Int} (hw : ∀ x ∈ l, 0 ≤ x ∧ x ≤ 255) : l.map (fun n => ((UInt8.ofNat n.toNat).toNat : Int)) = l := by
  have h : l.map (fun n => ((UInt8.ofNat n.toNat).toNat : Int)) = l.map id := by
    apply List.map_congr_left
    intro n hn
    have := hw n hn
    have e : (UInt8.ofNat n.toNat).toNat = n.toNat % 256 := UInt8.toNat_ofNat'
    rw [e]
    simp only [id]
    omega
  rw [h, List.map_id]
theorem sum4_byte (l : List Int) : ∀ x ∈ sum4 l, 0 ≤ x ∧ x ≤ 255 := by
  obtain ⟨n, hn, _, e2⟩ := sum4_nat l
  rw [e2]
  intro x hx
  simp only [List.mem_cons, List.not_mem_nil, or_false] at hx
  omega
theorem four {l : List Int} (h : l.length = 4) : ∃ a b c d, l = [a, b, c, d] := by
  match l, h with
  | [a, b, c, d], _ => exact ⟨a, b, c, d, rfl⟩
theorem good_iff (l : List Int) (h4 : ¬ l.length < 4) (hw : ∀ x ∈ l, 0 ≤ x ∧ x ≤ 255) : goodB l = decide (ofI (l.take (l.length - 4)) = lastI (l.drop (l.length - 4))) := by
  unfold goodB sealI
  rw [if_neg h4, byt_id hw, byt_id (l := l.take (l.length - 4) ++ sum4 (l.take (l.length - 4))) (by
    intro x hx
    rcases List.mem_append.1 hx with h | h
    · exact hw x (List.mem_of_mem_take h)
    · exact sum4_byte _ x h)]
  have e : l.take (l.length - 4) ++ l.drop (l.length - 4) = l := List.take_append_drop _ _
  have hd : (l.drop (l.length - 4)).length = 4 := by rw [List.length_drop]; omega
  have hm : ∀ x ∈ l.drop (l.length - 4), 0 ≤ x ∧ x ≤ 255 := fun x hx => hw x (List.mem_of_mem_drop hx)
  have key : (l.take (l.length - 4) ++ sum4 (l.take (l.length - 4)) = l) ↔ sum4 (l.take (l.length - 4)) = l.drop (l.length - 4) := by
    constructor
    · intro h
      exact List.append_cancel_left (h.trans e.symm)
    · intro h
      rw [h, e]
  rw [decide_eq_decide, key]
  obtain ⟨a, b, c, d, hx⟩ := four hd
  rw [hx] at hm ⊢
  exact sum4_iff _ a b c d (hm a (by simp)) (hm b (by simp)) (hm c (by simp)) (hm d (by simp))
end Go.Proofs.Ytphbfoafgfnmmaa.CrcT
