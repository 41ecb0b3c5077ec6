
/-
  crc's functions over the reckoner. No condition.
-/
import Derived.Test.YtakebkfhigadiaaCrcS
namespace Go.Proofs.Ytakebkfhigadiaa.CrcR
open Go Go.Proofs.Ytakebkfhigadiaa.Ry Go.Proofs.Ytakebkfhigadiaa.CrcS

def shI (r x : Int) : Int := nv (s8 (ofB r) x)
def moreI (s : Int) (l : List Int) : Int := nv (moreV (ofB s) l)
def isReg (r : Int) : Bool := decide (0 ≤ r ∧ r < 4294967296)
def sum4 (l : List Int) : List Int := [IntKind.u8.wrap (stdBin .shr .u32 (ofI l) 24), IntKind.u8.wrap (stdBin .shr .u32 (ofI l) 16), IntKind.u8.wrap (stdBin .shr .u32 (ofI l) 8), IntKind.u8.wrap (ofI l)]
def lastI (l : List Int) : Int := stdBin .or .u32 (stdBin .or .u32 (stdBin .or .u32 (stdBin .shl .u32 (IntKind.u32.wrap (l.getD 0 0)) 24) (stdBin .shl .u32 (IntKind.u32.wrap (l.getD 1 0)) 16)) (stdBin .shl .u32 (IntKind.u32.wrap (l.getD 2 0)) 8)) (IntKind.u32.wrap (l.getD 3 0))
def sealI (l : List Int) : List Int := l ++ sum4 l
def len4 (l : List Int) : Bool := decide (4 ≤ l.length)
def shortB (l : List Int) : Bool := decide (l.length ≤ 1000000)
def okB (l : List Int) : Bool := decide (l.length ≤ 1000000 ∧ ∀ x ∈ l, 0 ≤ x)
def openI (l : List Int) : List Int := if l.length < 4 then [] else if ofI (l.take (l.length - 4)) = lastI (l.drop (l.length - 4)) then l.take (l.length - 4) else []
def ropenI (l : List Int) : List Int := if l.length < 4 then [] else l.take (l.length - 4)
def goodB (l : List Int) : Bool := if l.length < 4 then false else decide ((sealI (l.take (l.length - 4))).map (fun n => ((UInt8.ofNat n.toNat).toNat : Int)) = l.map (fun n => ((UInt8.ofNat n.toNat).toNat : Int)))
def errI (l : List Int) : Int := if l.length < 4 then 5 else if ofI (l.take (l.length - 4)) = lastI (l.drop (l.length - 4)) then 0 else 6

structure Fs where
  f_sh : Int → Int → Int
  f_more : Int → List Int → Int
  f_of : List Int → Int
  f_reg : Int → Bool
  f_last : List Int → Int
  f_seal : List Int → List Int
  f_len4 : List Int → Bool
  f_short : List Int → Bool
  f_ok : List Int → Bool
  f_ropen : List Int → List Int
  f_good : List Int → Bool
  f_open : List Int → List Int
  f_err : List Int → Int
def Fs.std : Fs := ⟨shI, moreI, ofI, isReg, lastI, sealI, len4, shortB, okB, ropenI, goodB, openI, errI⟩

def c_shift (F : Fs) : Con := fun xs h => match xs, h with
  | [.one (.val (.int .u32 r)), .one (.val (.int .u8 x))], [] => some ⟨F.f_reg r = true, .sa (U32 (F.f_sh r x)), [], [Any, Any]⟩
  | _, _ => none
structure XS where
  i : Int
  r : Int
def shQ (r x : Int) (y : XS) : Prop := 0 ≤ y.i ∧ y.i ≤ 8 ∧ y.r = nv (sn (ofB r) x y.i.toNat)
def shM (y : XS) : Nat := 8 - y.i.toNat
def shRd (st : St) : XS := ⟨slotI st 8, slotI st 0⟩
theorem sh_step (v : BitVec 32) (r x i : Int) (h0 : 0 ≤ i) (h1 : i < 8) (hr : r = nv (sn v x i.toNat)) :
    (stdCmp .neq (stdBin .shr .u32 r 31) (stdBin .and .u32 (stdBin .shr .u32 (IntKind.u32.wrap x) (stdBin .sub .i64 7 i)) 1) = true → stdBin .xor .u32 (stdBin .shl .u32 r 1) 79764919 = nv (sn v x (i + 1).toNat)) ∧
    (stdCmp .neq (stdBin .shr .u32 r 31) (stdBin .and .u32 (stdBin .shr .u32 (IntKind.u32.wrap x) (stdBin .sub .i64 7 i)) 1) = false → stdBin .shl .u32 r 1 = nv (sn v x (i + 1).toNat)) := by
  obtain ⟨n, rfl⟩ := Int.eq_ofNat_of_zero_le h0
  have e : ((n : Int) + 1).toNat = n + 1 := by omega
  simp only [Int.toNat_natCast] at hr
  subst hr
  have hb := bit_of x n (by omega)
  rw [e, hb, shr31_nv, shl1_nv, xor_poly]
  have e3 : sn v x (n + 1) = sv (sn v x n) (bt x n) := rfl
  rw [e3]
  unfold sv
  cases (sn v x n).msb <;> cases bt x n <;> simp [stdCmp]
theorem shI_eq (v : BitVec 32) (x : Int) : shI (nv v) x = nv (s8 v x) := by simp [shI, ofB_nv]
theorem reg_nv {r : Int} (h : isReg r = true) : r = nv (ofB r) := by
  simp only [isReg, decide_eq_true_eq] at h
  unfold nv ofB
  rw [BitVec.toNat_ofInt]
  omega
theorem nv_reg (v : BitVec 32) : isReg (nv v) = true := by simpa [isReg] using nv_lt v
def c_more (F : Fs) : Con := fun xs h => match xs, h with
  | [.one (.val (.int .u32 s)), .one (.sl none (.ints .u8 l))], [] => some ⟨True, .sa (U32 (F.f_more s l)), [], [Any, Any]⟩
  | _, _ => none
def moQ (s : Int) (l : List Int) (y : XS) : Prop := 0 ≤ y.i ∧ y.i ≤ l.length ∧ y.r = nv (sl (~~~ (ofB s)) (l.take y.i.toNat))
def moM (l : List Int) (y : XS) : Nat := l.length - y.i.toNat
def moRd (st : St) : XS := ⟨slotI st 12, slotI st 5⟩
theorem mo_step (v : BitVec 32) (l : List Int) (r i : Int) (h0 : 0 ≤ i) (h1 : i < l.length) (hr : r = nv (sl v (l.take i.toNat))) : isReg r = true ∧ shI r (l.getD i.toNat 0) = nv (sl v (l.take (i + 1).toNat)) := by
  obtain ⟨n, rfl⟩ := Int.eq_ofNat_of_zero_le h0
  have e : ((n : Int) + 1).toNat = n + 1 := by omega
  have h1 : n < l.length := by omega
  simp only [Int.toNat_natCast] at hr ⊢
  rw [e, hr, shI_eq, List.take_add_one]
  refine ⟨nv_reg _, ?_⟩
  unfold sl
  rw [List.foldl_append]
  simp [h1]
theorem mo_end (s : Int) (l : List Int) (r i : Int) (h1 : i = l.length) (hr : r = nv (sl (~~~ (ofB s)) (l.take i.toNat))) : stdBin .xor .u32 4294967295 r = moreI s l := by
  subst h1 hr
  rw [not_int]
  simp [moreI, moreV, ofB_nv]
def c_of (F : Fs) : Con := fun xs h => match xs, h with
  | [.one (.sl none (.ints .u8 l))], [] => some ⟨True, .sa (U32 (F.f_of l)), [], [Any]⟩
  | _, _ => none
theorem awake_is : (ofI [49, 50, 51, 52, 53, 54, 55, 56, 57] == 4236843288) = true := by decide +kernel

def c_awake (_ : Fs) : Con := fun xs h => match xs, h with
  | [], [] => some ⟨True, .sa (B true), [], []⟩
  | _, _ => none
def c_last (F : Fs) : Con := fun xs h => match xs, h with
  | [.one (.sl none (.ints .u8 l))], [] => some ⟨F.f_len4 l = true, .sa (U32 (F.f_last l)), [], [Any]⟩
  | _, _ => none
def c_seal (F : Fs) : Con := fun xs h => match xs, h with
  | [.one (.sl none (.ints .u8 l))], [] => some ⟨F.f_short l = true, .sa (Bytes (F.f_seal l)), [], [Any]⟩
  | _, _ => none
def c_open (F : Fs) : Con := fun xs h => match xs, h with
  | [.one (.sl none (.ints .u8 l))], [] => some ⟨F.f_short l = true, .tup [Bytes (F.f_open l), I (F.f_err l)], [], [Any]⟩
  | _, _ => none
def c_rof (F : Fs) : Con := fun xs h => match xs, h with
  | [.one (.sl none (.ints .u8 l))], [] => some ⟨F.f_ok l = true, .sa (U32 (F.f_of l)), [], [Any]⟩
  | _, _ => none
structure XR where
  i : Int
  L : List E
abbrev own0 : SC := .own 1001000
abbrev row0 (L : List E) : H := [(1001000, .row 4 (.recs (.bool .nil) L))]
def r1Q (y : XR) : Prop := 0 ≤ y.i ∧ y.i ≤ 32 ∧ y.L = mk (fun j => decide (j < y.i.toNat))
def r1M (y : XR) : Nat := 32 - y.i.toNat
def r1R (st : St) : XR := ⟨slotI st 4, slotR st 3⟩
theorem r1_step (L : List E) (i : Int) (h0 : 0 ≤ i) (h1 : i < 32) (hL : L = mk (fun j => decide (j < i.toNat))) : L.length = 32 ∧ L.set i.toNat [D.bool true] = mk (fun j => decide (j < (i + 1).toNat)) := by
  subst hL
  refine ⟨mk_len _, ?_⟩
  rw [mk_set]
  refine mk_congr fun j _ => ?_
  by_cases h : j = i.toNat
  · simp [h]; omega
  · simp only [if_neg h]
    have : j < i.toNat ↔ j < (i + 1).toNat := by omega
    simp [this]
theorem r1_end (L : List E) (i : Int) (h0 : i = 32) (hL : L = mk (fun j => decide (j < i.toNat))) : L = mk (hi (~~~ 0)) := by
  subst h0 hL
  refine mk_congr fun j h => ?_
  have : ((32 : Int).toNat) = 32 := rfl
  have h3 : 31 - j < 32 := by omega
  unfold hi
  rw [BitVec.getMsbD, BitVec.getLsbD_not]
  simp [this, h, h3]
def r2Q (l : List Int) (y : XR) : Prop := 0 ≤ y.i ∧ y.i ≤ 8 * l.length ∧ y.L = mk (hi (sb l y.i.toNat))
def r2M (l : List Int) (y : XR) : Nat := 8 * l.length - y.i.toNat
def r2R (st : St) : XR := ⟨slotI st 5, slotR st 3⟩
structure XT where
  i : Int
  L : List E
  t : Bool
def r3Q (v : BitVec 32) (t : Bool) (y : XT) : Prop := 0 ≤ y.i ∧ y.i ≤ 31 ∧ y.L = mk (fun j => if j < y.i.toNat then hi v (j + 1) else hi v j) ∧ y.t = t
def r3M (y : XT) : Nat := 31 - y.i.toNat
def r3R (st : St) : XT := ⟨slotI st 8, slotR st 3, slotB st 7⟩
def r4Q (v : BitVec 32) (y : XR) : Prop := 0 ≤ y.i ∧ y.i ≤ 32 ∧ y.L = mk (fun j => if j < y.i.toNat then (hi v j != hi poly j) else hi v j)
def r4M (y : XR) : Nat := 32 - y.i.toNat
def r4R (st : St) : XR := ⟨slotI st 9, slotR st 3⟩
structure XN where
  i : Int
  n : Int
def r5Q (v : BitVec 32) (y : XN) : Prop := 0 ≤ y.i ∧ y.i ≤ 32 ∧ y.n = up v y.i.toNat
def r5M (y : XN) : Nat := 32 - y.i.toNat
def r5R (st : St) : XN := ⟨slotI st 11, slotI st 10⟩
theorem r3_step (v : BitVec 32) (L : List E) (i : Int) (h0 : 0 ≤ i) (h1 : i < 31) (hL : L = mk (fun j => if j < i.toNat then hi v (j + 1) else hi v j)) :
    L.length = 32 ∧ L.set i.toNat [D.bool (rb (L.getD (i + 1).toNat []) 0)] = mk (fun j => if j < (i + 1).toNat then hi v (j + 1) else hi v j) := by
  subst hL
  refine ⟨mk_len _, ?_⟩
  rw [mk_at _ (by omega), mk_set]
  refine mk_congr fun j _ => ?_
  grind
theorem r3_end (v : BitVec 32) (L : List E) (i : Int) (h1 : i = 31) (hL : L = mk (fun j => if j < i.toNat then hi v (j + 1) else hi v j)) :
    L.length = 32 ∧ L.set 31 [D.bool false] = mk (hi (v <<< 1)) := by
  subst h1 hL
  refine ⟨mk_len _, ?_⟩
  rw [mk_set]
  refine mk_congr fun j hj => ?_
  rw [hi_shl v j hj]
  have : ((31 : Int).toNat) = 31 := rfl
  grind
theorem r4_step (v : BitVec 32) (L : List E) (i : Int) (h0 : 0 ≤ i) (h1 : i < 32) (hL : L = mk (fun j => if j < i.toNat then (hi v j != hi poly j) else hi v j)) :
    L.length = 32 ∧ (hi poly i.toNat = true → L.set i.toNat [D.bool (!rb (L.getD i.toNat []) 0)] = mk (fun j => if j < (i + 1).toNat then (hi v j != hi poly j) else hi v j)) ∧
    (hi poly i.toNat = false → L = mk (fun j => if j < (i + 1).toNat then (hi v j != hi poly j) else hi v j)) := by
  subst hL
  refine ⟨mk_len _, fun hp => ?_, fun hp => ?_⟩
  · rw [mk_at _ (by omega), mk_set]
    refine mk_congr fun j _ => ?_
    by_cases hj : j = i.toNat
    · subst hj
      have h2 : i.toNat < (i + 1).toNat := by omega
      simp only [if_pos h2, if_true, Nat.lt_irrefl, if_false, hp]
      simp
    · have : j < i.toNat ↔ j < (i + 1).toNat := by omega
      simp [hj, this]
  · refine mk_congr fun j _ => ?_
    by_cases hj : j = i.toNat
    · subst hj
      simp [hp]
    · have : j < i.toNat ↔ j < (i + 1).toNat := by omega
      simp [this]
theorem r4_end (v : BitVec 32) (L : List E) (i : Int) (h1 : i = 32) (hL : L = mk (fun j => if j < i.toNat then (hi v j != hi poly j) else hi v j)) : L = mk (hi (v ^^^ poly)) := by
  subst h1 hL
  refine mk_congr fun j hj => ?_
  rw [hi_xor]
  have : ((32 : Int).toNat) = 32 := rfl
  simp [this, hj]
theorem r5_step (v : BitVec 32) (L : List E) (n i : Int) (h0 : 0 ≤ i) (h1 : i < 32) (hL : L = mk (hi v)) (hn : n = up v i.toNat) :
    L.length = 32 ∧ (rb (L.getD i.toNat []) 0 = true → stdBin .mul .u32 n 2 = up v (i + 1).toNat) ∧ (rb (L.getD i.toNat []) 0 = false → stdBin .add .u32 (stdBin .mul .u32 n 2) 1 = up v (i + 1).toNat) := by
  subst hL hn
  have hu := up_step v i.toNat (by omega)
  have e : (i + 1).toNat = i.toNat + 1 := by omega
  have hlt : ∀ k, 0 ≤ up v k ∧ up v k < 4294967296 := by
    intro k
    unfold up
    have := (~~~ v).isLt
    have h2 : (~~~ v).toNat >>> (32 - k) ≤ (~~~ v).toNat := by rw [Nat.shiftRight_eq_div_pow]; exact Nat.div_le_self _ _
    have h3 : (~~~ v).toNat >>> (32 - k) < 4294967296 := Nat.lt_of_le_of_lt h2 this
    generalize (~~~ v).toNat >>> (32 - k) = m at h3
    omega
  have h2 := hlt (i.toNat + 1)
  have h3 := hlt i.toNat
  refine ⟨mk_len _, ?_, ?_⟩
  all_goals
    rw [mk_at _ (by omega)]
    intro hb
    rw [hb] at hu
    rw [e]
    simp only [b_add, b_mul, wr32]
    simp at hu
    omega
theorem up_end (v : BitVec 32) : up v (32 : Int).toNat = nv (~~~ v) := by
  have : ((32 : Int).toNat) = 32 := rfl
  rw [this]
  unfold up
  simp only [Nat.sub_self, Nat.shiftRight_zero]
theorem r2_side (l : List Int) (L : List E) (i : Int) (h0 : 0 ≤ i) (h1 : i < 8 * l.length) (hlen : l.length ≤ 1000000) (hL : L = mk (hi (sb l i.toNat))) :
    0 ≤ stdBin .quo .i64 i 8 ∧ stdBin .quo .i64 i 8 < l.length ∧ L.length = 32 := by
  have hq := quo8 i h0 (by omega)
  exact ⟨by omega, by omega, by rw [hL]; exact mk_len _⟩
theorem r2_next (l : List Int) (L : List E) (i : Int) (h0 : 0 ≤ i) (h1 : i < 8 * l.length) (hok : okB l = true) (hL : L = mk (hi (sb l i.toNat))) :
    ∀ t : Bool, t = (!(rb (L.getD 0 []) 0 == stdCmp .eql (stdBin .rem .u8 (stdBin .shr .u8 (l.getD (stdBin .quo .i64 i 8).toNat 0) (IntKind.u64.wrap (stdBin .sub .i64 7 (stdBin .rem .i64 i 8)))) 2) 1)) →
      sb l (i + 1).toNat = if t then (sb l i.toNat <<< 1) ^^^ poly else sb l i.toNat <<< 1 := by
  simp only [okB, decide_eq_true_eq] at hok
  have hq := quo8 i h0 (by omega)
  have hi8 : i.toNat / 8 < l.length := by omega
  intro t ht
  have e : (i + 1).toNat = i.toNat + 1 := by omega
  rw [e, sb_step l i.toNat (by omega), ht, hL, mk_at _ (by decide), hq]
  have e2 : (((i.toNat / 8 : Nat) : Int)).toNat = i.toNat / 8 := by omega
  have hx : 0 ≤ l.getD (i.toNat / 8) 0 := by
    rw [List.getD_eq_getElem?_getD, List.getElem?_eq_getElem hi8]
    exact hok.2 _ (List.getElem_mem hi8)
  rw [e2, bit_ref _ i hx h0]
  unfold sv hi
  have : (sb l i.toNat).getMsbD 0 = (sb l i.toNat).msb := by simp [BitVec.msb]
  rw [this]
  cases (sb l i.toNat).msb <;> cases bt (l.getD (i.toNat / 8) 0) (i.toNat % 8) <;> rfl
def c_rseal (F : Fs) : Con := fun xs h => match xs, h with
  | [.one (.sl none (.ints .u8 l))], [] => some ⟨F.f_ok l = true, .sa (Bytes (F.f_seal l)), [], [Any]⟩
  | _, _ => none
def c_ropen (F : Fs) : Con := fun xs h => match xs, h with
  | [.one (.sl none (.ints .u8 l))], [] => some ⟨F.f_ok l = true, .tup [Bytes (F.f_ropen l), B (F.f_good l)], [], [Any]⟩
  | _, _ => none
end Go.Proofs.Ytakebkfhigadiaa.CrcR
