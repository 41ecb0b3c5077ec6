
/-
  bits that are turned within 32 in a row. No condition.
-/
import Derived.Test.YtinjeffkhjcbnaaRyZ
import Derived.Test.YtinjeffkhjcbnaaCrcT
import Derived.Test.YtinjeffkhjcbnaaCrcV
namespace Go.Proofs.Ytinjeffkhjcbnaa.CrcB
open Go Go.Proofs.Ytinjeffkhjcbnaa.Ry Go.Proofs.Ytinjeffkhjcbnaa.CrcS Go.Proofs.Ytinjeffkhjcbnaa.CrcR Go.Proofs.Ytinjeffkhjcbnaa.CrcT Go.Proofs.Ytinjeffkhjcbnaa.CrcV

def pb (p i : Int) : Bool := stdCmp .eql (stdBin .rem .u32 (stdBin .shr .u32 p (IntKind.u64.wrap (stdBin .sub .i64 31 i))) 2) 1
def one8 (k : Int) : Int := stdBin .shl .u8 1 (IntKind.u64.wrap (stdBin .sub .i64 7 (stdBin .rem .i64 k 8)))
def buN (l : List Int) (a p : Int) : Nat → List Int
  | 0 => l
  | i + 1 => if pb p i = true ∧ a + i < 8 * l.length then (buN l a p i).set ((a + i) / 8).toNat (stdBin .xor .u8 ((buN l a p i).getD ((a + i) / 8).toNat 0) (one8 (a + i))) else buN l a p i
def buL (l : List Int) (a p : Int) : List Int := buN l a p 32
def okU (l : List Int) (a : Int) : Bool := decide (0 ≤ a ∧ a ≤ 1000000 ∧ l.length ≤ 1000000)
theorem bu_len (l : List Int) (a p : Int) : ∀ i, (buN l a p i).length = l.length
  | 0 => rfl
  | i + 1 => by
    unfold buN
    split
    · rw [List.length_set, bu_len l a p i]
    · exact bu_len l a p i
structure XU where
  i : Int
  o : List Int
def buQ (l : List Int) (a p : Int) (y : XU) : Prop := 0 ≤ y.i ∧ y.i ≤ 32 ∧ y.o = buN l a p y.i.toNat
def buM (y : XU) : Nat := (32 - y.i).toNat
def buR (st : St) : XU := ⟨slotI st 8, slotL st 7⟩
theorem bu_step (l : List Int) (a p i : Int) (o : List Int) (hok : okU l a = true) (h0 : 0 ≤ i) (h1 : i < 32) (ho : o = buN l a p i.toNat) :
    stdBin .add .i64 a i = a + i ∧ stdBin .mul .i64 8 l.length = 8 * l.length ∧ stdBin .quo .i64 (a + i) 8 = (a + i) / 8 ∧ 0 ≤ a + i ∧ 0 ≤ (a + i) / 8 ∧ o.length = l.length ∧
    (pb p i = true → a + i < 8 * l.length → o.set ((a + i) / 8).toNat (stdBin .xor .u8 (o.getD ((a + i) / 8).toNat 0) (one8 (a + i))) = buN l a p (i + 1).toNat) ∧
    (¬ (pb p i = true ∧ a + i < 8 * l.length) → o = buN l a p (i + 1).toNat) := by
  have hk := of_decide_eq_true hok
  obtain ⟨n, rfl⟩ := Int.eq_ofNat_of_zero_le h0
  have e : ((n : Int) + 1).toNat = n + 1 := by omega
  have hl := bu_len l a p n
  simp only [Int.toNat_natCast] at ho
  refine ⟨by rw [b_add, wr _ (by omega) (by omega)], by rw [b_mul, wr _ (by omega) (by omega)], ?_, by omega, by omega, by rw [ho, hl], fun h2 h3 => ?_, fun h2 => ?_⟩
  · rw [b_quo, Int.tdiv_eq_ediv_of_nonneg (by omega), wr _ (by omega) (by omega)]
  · rw [e]
    show _ = (if pb p n = true ∧ a + n < 8 * l.length then _ else _)
    rw [if_pos ⟨h2, h3⟩, ho]
  · rw [e]
    show _ = (if pb p n = true ∧ a + n < 8 * l.length then _ else _)
    rw [if_neg h2, ho]

structure Bs1 where
  b_bu : List Int → Int → Int → List Int
  b_ok : List Int → Int → Bool
def Bs1.std : Bs1 := ⟨buL, okU⟩

def c_burst (F : Bs1) : Con := fun xs h => match xs, h with
  | [.one (.sl none (.ints .u8 l)), .one (.val (.int .i64 a)), .one (.val (.int .u32 p))], [] => some ⟨F.b_ok l a = true, .sa (Bytes (F.b_bu l a p)), [], [Any, Any, Any]⟩
  | _, _ => none
end Go.Proofs.Ytinjeffkhjcbnaa.CrcB
