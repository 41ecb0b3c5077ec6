/-
  What is turned in bytes turns the sum by as much. No condition.
-/
import Derived.Test.YtphbfoafgfnmmaaCrcS
namespace Go.Proofs.Ytphbfoafgfnmmaa.CrcV
open Go Go.Proofs.Ytphbfoafgfnmmaa.Ry Go.Proofs.Ytphbfoafgfnmmaa.CrcS

theorem sv_lin (u v : BitVec 32) (b c : Bool) : sv (u ^^^ v) (b != c) = sv u b ^^^ sv v c := by
  unfold sv
  rw [BitVec.msb_xor, BitVec.shiftLeft_xor_distrib]
  cases u.msb <;> cases v.msb <;> cases b <;> cases c <;> simp <;> (apply BitVec.eq_of_getLsbD_eq; intro i hi; simp only [BitVec.getLsbD_xor]; generalize (u <<< 1).getLsbD i = p; generalize (v <<< 1).getLsbD i = q; generalize poly.getLsbD i = r; revert p q r; decide)
/-- Of three bytes the first has the bits in which the others differ. -/
def Mix (z x y : Int) : Prop := ∀ i, i < 8 → bt z i = (bt x i != bt y i)
theorem sn_lin (u v : BitVec 32) {x y z : Int} (h : Mix z x y) : ∀ i, i ≤ 8 → sn (u ^^^ v) z i = sn u x i ^^^ sn v y i
  | 0, _ => rfl
  | i + 1, hi => by
    show sv (sn (u ^^^ v) z i) (bt z i) = sv (sn u x i) (bt x i) ^^^ sv (sn v y i) (bt y i)
    rw [sn_lin u v h i (by omega), h i (by omega), sv_lin]
theorem sl_lin : ∀ (u v : BitVec 32) (a b c : List Int), a.length = c.length → b.length = c.length → (∀ i, i < c.length → Mix (c.getD i 0) (a.getD i 0) (b.getD i 0)) → sl (u ^^^ v) c = sl u a ^^^ sl v b
  | u, v, [], [], [], _, _, _ => rfl
  | u, v, x :: a, y :: b, z :: c, h1, h2, h3 => by
    show sl (s8 (u ^^^ v) z) c = sl (s8 u x) a ^^^ sl (s8 v y) b
    have e : s8 (u ^^^ v) z = s8 u x ^^^ s8 v y := sn_lin u v (h3 0 (by simp)) 8 (Nat.le_refl _)
    rw [e]
    refine sl_lin _ _ a b c (by simpa using h1) (by simpa using h2) fun i hi => ?_
    have := h3 (i + 1) (by simpa using hi)
    simpa using this
  | _, _, [], _, _ :: _, h1, _, _ => by simp at h1
  | _, _, _ :: _, _, [], h1, _, _ => by simp at h1
  | _, _, _, [], _ :: _, _, h2, _ => by simp at h2
  | _, _, _, _ :: _, [], _, h2, _ => by simp at h2
theorem bt_bv (x : Int) (i : Nat) (h : i < 8) : bt x i = (BitVec.ofInt 8 x).getLsbD (7 - i) := by
  unfold bt
  rw [BitVec.getLsbD, Nat.testBit, BitVec.toNat_ofInt, Nat.one_and_eq_mod_two, Nat.shiftRight_eq_div_pow]
  have : i = 0 ∨ i = 1 ∨ i = 2 ∨ i = 3 ∨ i = 4 ∨ i = 5 ∨ i = 6 ∨ i = 7 := by omega
  rcases this with rfl | rfl | rfl | rfl | rfl | rfl | rfl | rfl <;> (rw [Bool.eq_iff_iff]; simp; omega)
theorem xor8 (x y : Int) : stdBin .xor .u8 x y = ((BitVec.ofInt 8 x ^^^ BitVec.ofInt 8 y).toNat : Int) := by
  show bits .xor .u8 x y = _
  unfold bits
  show IntKind.u8.wrap ((BitVec.ofInt 8 x ^^^ BitVec.ofInt 8 y).toNat : Int) = _
  have := (BitVec.ofInt 8 x ^^^ BitVec.ofInt 8 y).isLt
  rw [wr8]
  omega
theorem of8 (v : BitVec 8) : BitVec.ofInt 8 (v.toNat : Int) = v := by simp
theorem mix_xor (x y : Int) : Mix (stdBin .xor .u8 x y) x y := by
  intro i hi
  rw [xor8, bt_bv _ i hi, bt_bv x i hi, bt_bv y i hi]
  have e : BitVec.ofInt 8 ((BitVec.ofInt 8 x ^^^ BitVec.ofInt 8 y).toNat : Int) = BitVec.ofInt 8 x ^^^ BitVec.ofInt 8 y := of8 _
  rw [e, BitVec.getLsbD_xor]
theorem mix_zero (x : Int) : Mix x 0 x := by
  intro i hi
  have : bt 0 i = false := by simp [bt]
  rw [this]
  cases bt x i <;> rfl
/-- Two rows of bytes, mixed. -/
def mixL (a b : List Int) : List Int := List.zipWith (stdBin .xor .u8) a b
theorem mix_len (a b : List Int) (h : a.length = b.length) : (mixL a b).length = a.length := by
  unfold mixL
  rw [List.length_zipWith]
  omega
theorem mix_at (a b : List Int) (h : a.length = b.length) (i : Nat) (hi : i < a.length) : (mixL a b).getD i 0 = stdBin .xor .u8 (a.getD i 0) (b.getD i 0) := by
  have h2 : i < b.length := by omega
  have h3 : i < (mixL a b).length := by rw [mix_len a b h]; exact hi
  rw [List.getD_eq_getElem?_getD, List.getD_eq_getElem?_getD, List.getD_eq_getElem?_getD, List.getElem?_eq_getElem h3, List.getElem?_eq_getElem hi, List.getElem?_eq_getElem h2]
  simp [mixL]
theorem mix_take (a b : List Int) (h : a.length = b.length) (i : Int) (h0 : 0 ≤ i) (h1 : i < a.length) : (mixL a b).take i.toNat ++ [stdBin .xor .u8 (a.getD i.toNat 0) (b.getD i.toNat 0)] = (mixL a b).take (i + 1).toNat := by
  have e : (i + 1).toNat = i.toNat + 1 := by omega
  have hi : i.toNat < a.length := by omega
  have h3 : i.toNat < (mixL a b).length := by rw [mix_len a b h]; exact hi
  rw [e, List.take_add_one, ← mix_at a b h _ hi, List.getD_eq_getElem?_getD, List.getElem?_eq_getElem h3]
  rfl
theorem turns (a b : List Int) (h : a.length = b.length) : ofI (mixL a b) = stdBin .xor .u32 (stdBin .xor .u32 (ofI a) (ofI b)) (ofI (List.replicate a.length 0)) := by
  have hm := mix_len a b h
  have e1 := sl_lin (~~~ 0) (~~~ 0) a b (mixL a b) hm.symm (by omega) (fun i hi => by rw [mix_at a b h i (by omega)]; exact mix_xor _ _)
  have e2 := sl_lin (~~~ 0) ((~~~ 0) ^^^ (~~~ 0)) (List.replicate a.length 0) (mixL a b) (mixL a b) (by rw [List.length_replicate]; omega) rfl (fun i hi => by
    have : (List.replicate a.length (0 : Int)).getD i 0 = 0 := by simp [List.getD_eq_getElem?_getD, List.getElem?_replicate]; split <;> rfl
    rw [this]
    exact mix_zero _)
  rw [e1] at e2
  have e3 : (~~~ (0 : BitVec 32)) ^^^ ((~~~ 0) ^^^ (~~~ 0)) = ~~~ 0 := by decide
  rw [e3] at e2
  unfold ofI moreV
  rw [xor_nv, xor_nv, e2]
  generalize sl (~~~ 0) a = x
  generalize sl (~~~ 0) b = y
  generalize sl (~~~ 0) (List.replicate a.length 0) = z
  congr 1
  apply BitVec.eq_of_getLsbD_eq
  intro i hi
  simp only [BitVec.getLsbD_not, BitVec.getLsbD_xor, hi, decide_true, Bool.true_and]
  generalize x.getLsbD i = p
  generalize y.getLsbD i = q
  generalize z.getLsbD i = r
  revert p q r
  decide
end Go.Proofs.Ytphbfoafgfnmmaa.CrcV
