
/-
  octet's PutList, the answer's Num and List over the reckoner. No condition.
-/
import Derived.Test.YtakebkfhigadiaaRyZ
import Derived.Test.YtakebkfhigadiaaOctR
namespace Go.Proofs.Ytakebkfhigadiaa.OctP
open Go Go.Proofs.Ytakebkfhigadiaa.Ry Go.Proofs.Ytakebkfhigadiaa.OctR

def plL (b l : List Int) : List Int := if l.length ≤ 65535 then behI b l.length 2 ++ l else []
def plE (l : List Int) : Int := if l.length ≤ 65535 then 0 else 3
def lsL (l : List Int) : List Int := numL l.length 2 ++ l
def sh2 (b l : List Int) : Bool := shB b && shB l
def okN (n w : Int) : Bool := decide (0 ≤ n ∧ n ≤ 9223372036854775807) && isW w
theorem num_len (n w : Int) : (numL n w).length = w.toNat := by simp [numL, numK]
structure XN where
  n : Int
  i : Int
  o : List Int
def rnQ (n w : Int) (y : XN) : Prop := 0 ≤ y.i ∧ y.i ≤ w ∧ y.n = n / 256 ^ y.i.toNat ∧ y.o = numK n y.i y.i.toNat
def rnM (w : Int) (y : XN) : Nat := (w - y.i).toNat
def rnR2 (st : St) : XN := ⟨slotI st 0, slotI st 6, slotL st 5⟩
theorem by_is (n i : Int) (h0 : 0 ≤ n) (hi : 0 ≤ i) (h4 : i < 4) : byI n i = IntKind.u8.wrap (stdBin .rem .i64 (n / 256 ^ i.toNat) 256) := by
  have h : IntKind.u8.bits = 8 := rfl
  unfold byI IntKind.wrap
  have : i = 0 ∨ i = 1 ∨ i = 2 ∨ i = 3 := by omega
  rcases this with rfl | rfl | rfl | rfl
  · show (if IntKind.u8.signed then _ else ((n.fdiv (2 ^ 0)) % 2 ^ 8)) = (if IntKind.u8.signed then _ else ((n / 256 ^ 0).tmod 256) % 2 ^ 8)
    have hs : IntKind.u8.signed = false := rfl
    simp only [hs]
    rw [Int.fdiv_eq_ediv_of_nonneg _ (by decide), Int.tmod_eq_emod_of_nonneg (by omega)]
    simp
  · show (if IntKind.u8.signed then _ else ((n.fdiv (2 ^ 8)) % 2 ^ 8)) = (if IntKind.u8.signed then _ else ((n / 256 ^ 1).tmod 256) % 2 ^ 8)
    have hs : IntKind.u8.signed = false := rfl
    simp only [hs]
    rw [Int.fdiv_eq_ediv_of_nonneg _ (by decide), Int.tmod_eq_emod_of_nonneg (by omega)]
    simp
  · show (if IntKind.u8.signed then _ else ((n.fdiv (2 ^ 16)) % 2 ^ 8)) = (if IntKind.u8.signed then _ else ((n / 256 ^ 2).tmod 256) % 2 ^ 8)
    have hs : IntKind.u8.signed = false := rfl
    simp only [hs]
    rw [Int.fdiv_eq_ediv_of_nonneg _ (by decide), Int.tmod_eq_emod_of_nonneg (by omega)]
    simp
  · show (if IntKind.u8.signed then _ else ((n.fdiv (2 ^ 24)) % 2 ^ 8)) = (if IntKind.u8.signed then _ else ((n / 256 ^ 3).tmod 256) % 2 ^ 8)
    have hs : IntKind.u8.signed = false := rfl
    simp only [hs]
    rw [Int.fdiv_eq_ediv_of_nonneg _ (by decide), Int.tmod_eq_emod_of_nonneg (by omega)]
    simp
theorem rn_step (n w m i : Int) (o : List Int) (hw : okN n w = true) (h0 : 0 ≤ i) (h1 : i < w) (hm : m = n / 256 ^ i.toNat) (ho : o = numK n i i.toNat) :
    o.length ≤ 10 ∧ stdBin .quo .i64 m 256 = n / 256 ^ (i + 1).toNat ∧ IntKind.u8.wrap (stdBin .rem .i64 m 256) :: o = numK n (i + 1) (i + 1).toNat := by
  simp only [okN, Bool.and_eq_true, decide_eq_true_eq] at hw
  obtain ⟨hn, hw⟩ := hw
  have hw := of_decide_eq_true hw
  have e : (i + 1).toNat = i.toNat + 1 := by omega
  refine ⟨by subst ho; simp [numK]; omega, ?_, ?_⟩
  · rw [b_quo, hm, e, Int.pow_succ, ← Int.ediv_ediv_of_nonneg (Int.pow_nonneg (by decide))]
    have hp : 0 ≤ n / 256 ^ i.toNat := Int.ediv_nonneg hn.1 (Int.pow_nonneg (by decide))
    rw [Int.tdiv_eq_ediv_of_nonneg hp]
    have hp2 : n / 256 ^ i.toNat ≤ n := Int.ediv_le_self _ hn.1
    have e256 : ((256 : Nat) : Int) = 256 := rfl
    rw [wr _ (by omega) (by omega)]
  · subst ho hm
    rw [← by_is n i hn.1 h0 (by omega), e]
    unfold numK
    rw [List.range_succ_eq_map, List.map_cons, List.map_map]
    congr 1
    · congr 1
      simp
    · apply List.map_congr_left
      intro j _
      simp only [Function.comp]
      congr 1
      push_cast
      omega

structure Hs where
  h_plL : List Int → List Int → List Int
  h_plE : List Int → Int
  h_ls : List Int → List Int
  h_num : Int → Int → List Int
  h_sh2 : List Int → List Int → Bool
  h_okN : Int → Int → Bool
  h_sh : List Int → Bool
def Hs.std : Hs := ⟨plL, plE, lsL, numL, sh2, okN, shB⟩

def c_rnumc (F : Hs) : Con := fun xs h => match xs, h with
  | [.one (.val (.int .i64 n)), .one (.val (.int .i64 w))], [] => some ⟨F.h_okN n w = true, .sa (.one (.sl (some (1, 5)) (.ints .u8 (F.h_num n w)))), [(1, .tok)], [Any, Any]⟩
  | _, _ => none
def c_plist (F : Hs) : Con := fun xs h => match xs, h with
  | [.one (.sl none (.ints .u8 k)), .one (.sl none (.ints .u8 l))], [] => some ⟨F.h_sh2 k l = true, .tup [Bytes (F.h_plL k l), I (F.h_plE l)], [], [Any, Any]⟩
  | _, _ => none
def c_lsc (F : Hs) : Con := fun xs h => match xs, h with
  | [.one (.sl none (.ints .u8 l))], [] => some ⟨F.h_sh l = true, .sa (Bytes (F.h_ls l)), [], [Any]⟩
  | _, _ => none
end Go.Proofs.Ytakebkfhigadiaa.OctP
