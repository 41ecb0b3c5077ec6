/-
  Frames: written, they are read; what is read is written so; a beginning is no frame. No condition.
-/
import Derived.Test.YtphbfoafgfnmmaaRyZ
import Derived.Test.YtphbfoafgfnmmaaOctR
import Derived.Test.YtphbfoafgfnmmaaCrcR
import Derived.Test.YtphbfoafgfnmmaaRyOp
import Derived.Test.YtphbfoafgfnmmaaCrcB
namespace Go.Proofs.Ytphbfoafgfnmmaa.OctP
open Go Go.Proofs.Ytphbfoafgfnmmaa.Ry Go.Proofs.Ytphbfoafgfnmmaa.OctR

def plL (b l : List Int) : List Int := if l.length ≤ 65535 then behI b l.length 2 ++ l else []
def plE (l : List Int) : Int := if l.length ≤ 65535 then 0 else 3
def lsL (l : List Int) : List Int := numL l.length 2 ++ l
def sh2 (b l : List Int) : Bool := shB b && shB l
def okN (n w : Int) : Bool := decide (0 ≤ n ∧ n ≤ 9223372036854775807) && isW w
theorem num_len (n w : Int) : (numL n w).length = w.toNat := by simp [numL, numK]
structure XN where
  n : Int
  i : Int
  o : List Int
def rnQ (n w : Int) (y : XN) : Prop := 0 ≤ y.i ∧ y.i ≤ w ∧ y.n = n / 256 ^ y.i.toNat ∧ y.o = numK n y.i y.i.toNat
noncomputable def rnI2 (w : Int) (y : XN) : St := stOf Try.f42.ntmps [(0, .val (.int .i64 y.n)), (1, .val (.int .i64 w)), (5, .sl (some (1, 5)) (.ints .u8 y.o)), (6, .val (.int .i64 y.i))] [(1, .tok)] [Any, Any]
def rnM (w : Int) (y : XN) : Nat := (w - y.i).toNat
def rnR2 (st : St) : XN := ⟨slotI st 0, slotI st 6, slotL st 5⟩
theorem by_is (n i : Int) (h0 : 0 ≤ n) (hi : 0 ≤ i) (h4 : i < 4) : byI n i = IntKind.u8.wrap (stdBin .rem .i64 (n / 256 ^ i.toNat) 256) := by
  have h : IntKind.u8.bits = 8 := rfl
  unfold byI IntKind.wrap
  have : i = 0 ∨ i = 1 ∨ i = 2 ∨ i = 3 := by omega
  rcases this with rfl | rfl | rfl | rfl
  · show (if IntKind.u8.signed then _ else ((n.fdiv (2 ^ 0)) % 2 ^ 8)) = (if IntKind.u8.signed then _ else ((n / 256 ^ 0).tmod 256) % 2 ^ 8)
    have hs : IntKind.u8.signed = false := rfl
    simp only [hs]
    rw [Int.fdiv_eq_ediv_of_nonneg _ (by decide), Int.tmod_eq_emod_of_nonneg (by omega)]
    simp
  · show (if IntKind.u8.signed then _ else ((n.fdiv (2 ^ 8)) % 2 ^ 8)) = (if IntKind.u8.signed then _ else ((n / 256 ^ 1).tmod 256) % 2 ^ 8)
    have hs : IntKind.u8.signed = false := rfl
    simp only [hs]
    rw [Int.fdiv_eq_ediv_of_nonneg _ (by decide), Int.tmod_eq_emod_of_nonneg (by omega)]
    simp
  · show (if IntKind.u8.signed then _ else ((n.fdiv (2 ^ 16)) % 2 ^ 8)) = (if IntKind.u8.signed then _ else ((n / 256 ^ 2).tmod 256) % 2 ^ 8)
    have hs : IntKind.u8.signed = false := rfl
    simp only [hs]
    rw [Int.fdiv_eq_ediv_of_nonneg _ (by decide), Int.tmod_eq_emod_of_nonneg (by omega)]
    simp
  · show (if IntKind.u8.signed then _ else ((n.fdiv (2 ^ 24)) % 2 ^ 8)) = (if IntKind.u8.signed then _ else ((n / 256 ^ 3).tmod 256) % 2 ^ 8)
    have hs : IntKind.u8.signed = false := rfl
    simp only [hs]
    rw [Int.fdiv_eq_ediv_of_nonneg _ (by decide), Int.tmod_eq_emod_of_nonneg (by omega)]
    simp
theorem rn_step (n w m i : Int) (o : List Int) (hw : okN n w = true) (h0 : 0 ≤ i) (h1 : i < w) (hm : m = n / 256 ^ i.toNat) (ho : o = numK n i i.toNat) :
    o.length ≤ 10 ∧ stdBin .quo .i64 m 256 = n / 256 ^ (i + 1).toNat ∧ IntKind.u8.wrap (stdBin .rem .i64 m 256) :: o = numK n (i + 1) (i + 1).toNat := by
  simp only [okN, Bool.and_eq_true, decide_eq_true_eq] at hw
  obtain ⟨hn, hw⟩ := hw
  have hw := of_decide_eq_true hw
  have e : (i + 1).toNat = i.toNat + 1 := by omega
  refine ⟨by subst ho; simp [numK]; omega, ?_, ?_⟩
  · rw [b_quo, hm, e, Int.pow_succ, ← Int.ediv_ediv_of_nonneg (Int.pow_nonneg (by decide))]
    have hp : 0 ≤ n / 256 ^ i.toNat := Int.ediv_nonneg hn.1 (Int.pow_nonneg (by decide))
    rw [Int.tdiv_eq_ediv_of_nonneg hp]
    have hp2 : n / 256 ^ i.toNat ≤ n := Int.ediv_le_self _ hn.1
    have e256 : ((256 : Nat) : Int) = 256 := rfl
    rw [wr _ (by omega) (by omega)]
  · subst ho hm
    rw [← by_is n i hn.1 h0 (by omega), e]
    unfold numK
    rw [List.range_succ_eq_map, List.map_cons, List.map_map]
    congr 1
    · congr 1
      simp
    · apply List.map_congr_left
      intro j _
      simp only [Function.comp]
      congr 1
      push_cast
      omega

structure Hs where
  h_plL : List Int → List Int → List Int
  h_plE : List Int → Int
  h_ls : List Int → List Int
  h_num : Int → Int → List Int
  h_sh2 : List Int → List Int → Bool
  h_okN : Int → Int → Bool
  h_sh : List Int → Bool
def Hs.std : Hs := ⟨plL, plE, lsL, numL, sh2, okN, shB⟩

def c_rnumc (F : Hs) : Con := fun xs h => match xs, h with
  | [.one (.val (.int .i64 n)), .one (.val (.int .i64 w))], [] => some ⟨F.h_okN n w = true, .sa (.one (.sl (some (1, 5)) (.ints .u8 (F.h_num n w)))), [(1, .tok)], [Any, Any]⟩
  | _, _ => none
set_option maxRecDepth 100000 in
theorem x_rnumc (n : Int) (w : Int) (hC : Hs.std.h_okN n w = true) : Does [] Try.f42 [.one (.val (.int .i64 n)), .one (.val (.int .i64 w))] [] ⟨Hs.std.h_okN n w = true, .sa (.one (.sl (some (1, 5)) (.ints .u8 (Hs.std.h_num n w)))), [(1, .tok)], [Any, Any]⟩ := by
  intro b gv
  have hfs := FsOk.nil
  generalize hF : Hs.std = F at hC hfs ⊢
  generalize hA : Ar.std = A
  generalize hL : Lp _ _ _ = L
  obtain ⟨Z, zq⟩ := z_all
  refine @cd_open _ _ _ _ _ _ _ (lp_mono hL) _ _ zq rfl ?_
  repeat' (first
    | (refine z_open zq ?_; try dsimp only)
    | refine cd_seq zq ?_ (lp_mono hL)
    | refine cd_blk zq ?_
    | refine cd_ret ?_
    | refine cd_skip ?_
    | refine cd_exit ?_
    | refine cd_loop ?_
    | refine cd_cond rfl ?_
    | refine cd_condT rfl ?_
    | refine cd_condF rfl ?_
    | (refine Cd.mk ?_; cbv)
    | (refine Ends1.mk ?_; cbv)
    | (refine Fin1.mk ?_; cbv)
    | exact trivial
    | refine And.intro ?_ ?_
    | refine orf fun _ => ?_
    | refine ort fun _ => ?_)
  have hk : okN n w = true := by
    subst hF
    exact hC
  have hwk : 1 ≤ w ∧ w ≤ 4 := by
    simp only [okN, Bool.and_eq_true] at hk
    exact of_decide_eq_true hk.2
  subst hL
  refine loop_z (cx_ok hfs) (rnQ n w) (rnI2 w) (rnM w) rnR2 ⟨n, 0, []⟩ ?_ ?_ ?_
  · exact ⟨Int.le_refl 0, by simp only; omega, by simp, by simp [numK]⟩
  · cbv
    repeat' (first | exact trivial | exact rfl | refine And.intro ?_ ?_)
  rintro ⟨m, i, o⟩ ⟨q0, q1, q2, q3⟩ O hO
  dsimp only at q0 q1 q2 q3
  have hst := fun h => rn_step n w m i o hk q0 h q2 q3
  subst hA
  generalize hA : Ar.std = A
  generalize hL : Lp _ _ _ = L
  refine cd_close zq ?_
  repeat' (first
    | (refine z_open zq ?_; try dsimp only)
    | refine cd_seq zq ?_ (lp_mono hL)
    | refine cd_blk zq ?_
    | refine cd_ret ?_
    | refine cd_skip ?_
    | refine cd_exit ?_
    | refine cd_loop ?_
    | refine cd_cond rfl ?_
    | refine cd_condT rfl ?_
    | refine cd_condF rfl ?_
    | (refine Cd.mk ?_; cbv)
    | (refine Ends1.mk ?_; cbv)
    | (refine Fin1.mk ?_; cbv)
    | exact trivial
    | refine And.intro ?_ ?_
    | refine orf fun _ => ?_
    | refine ort fun _ => ?_)
  all_goals (clear hL hfs zq Z; subst hA hF hO; simp only [Hs.std, Ar.std] at * <;> grind [stdCmp, b_add, wr, rnQ, rnM, numL])
theorem ok_rnumc : ConOk Try.prog 42 (c_rnumc Hs.std) := by
  refine con_of FsOk.nil Try.func42 rfl rfl fun xs h p hp => ?_
  unfold c_rnumc at hp
  split at hp
  · cases hp
    exact ⟨lee_le rfl, fun hC _ => @x_rnumc _ _ hC⟩
  · cases hp

def c_plist (F : Hs) : Con := fun xs h => match xs, h with
  | [.one (.sl none (.ints .u8 k)), .one (.sl none (.ints .u8 l))], [] => some ⟨F.h_sh2 k l = true, .tup [Bytes (F.h_plL k l), I (F.h_plE l)], [], [Any, Any]⟩
  | _, _ => none
def c_lsc (F : Hs) : Con := fun xs h => match xs, h with
  | [.one (.sl none (.ints .u8 l))], [] => some ⟨F.h_sh l = true, .sa (Bytes (F.h_ls l)), [], [Any]⟩
  | _, _ => none
end Go.Proofs.Ytphbfoafgfnmmaa.OctP
namespace Go.Proofs.Ytphbfoafgfnmmaa.OctQ
open Go Go.Proofs.Ytphbfoafgfnmmaa.Ry Go.Proofs.Ytphbfoafgfnmmaa.OctR Go.Proofs.Ytphbfoafgfnmmaa.OctP

def fits (m w : Int) : Bool := decide (0 ≤ m ∧ m ≤ grI w) && isW w
theorem by_mod (m i : Int) (h0 : 0 ≤ m) (hi : 0 ≤ i) (h4 : i < 4) : byI m i = m / 256 ^ i.toNat % 256 := by
  rw [by_is m i h0 hi h4]
  show IntKind.u8.wrap ((m / 256 ^ i.toNat).tmod 256) = _
  have hp : 0 ≤ m / 256 ^ i.toNat := Int.ediv_nonneg h0 (Int.pow_nonneg (by decide))
  rw [Int.tmod_eq_emod_of_nonneg hp]
  unfold IntKind.wrap
  simp [IntKind.bits, IntKind.signed]
theorem num_1 (m : Int) (h : 0 ≤ m) : numL m 1 = [m % 256] := by
  show [byI m (1 - 1 - ((0 : Nat) : Int))] = _
  have := by_mod m 0 h (by decide) (by decide)
  simpa using this
theorem num_2 (m : Int) (h : 0 ≤ m) : numL m 2 = [m / 256 % 256, m % 256] := by
  show [byI m (2 - 1 - ((0 : Nat) : Int)), byI m (2 - 1 - ((1 : Nat) : Int))] = _
  have h0 := by_mod m 0 h (by decide) (by decide)
  have h1 := by_mod m 1 h (by decide) (by decide)
  simp at h0 h1 ⊢
  exact ⟨h1, h0⟩
theorem num_3 (m : Int) (h : 0 ≤ m) : numL m 3 = [m / 65536 % 256, m / 256 % 256, m % 256] := by
  show [byI m (3 - 1 - ((0 : Nat) : Int)), byI m (3 - 1 - ((1 : Nat) : Int)), byI m (3 - 1 - ((2 : Nat) : Int))] = _
  have h0 := by_mod m 0 h (by decide) (by decide)
  have h1 := by_mod m 1 h (by decide) (by decide)
  have h2 := by_mod m 2 h (by decide) (by decide)
  simp at h0 h1 h2 ⊢
  exact ⟨h2, h1, h0⟩
theorem num_4 (m : Int) (h : 0 ≤ m) : numL m 4 = [m / 16777216 % 256, m / 65536 % 256, m / 256 % 256, m % 256] := by
  show [byI m (4 - 1 - ((0 : Nat) : Int)), byI m (4 - 1 - ((1 : Nat) : Int)), byI m (4 - 1 - ((2 : Nat) : Int)), byI m (4 - 1 - ((3 : Nat) : Int))] = _
  have h0 := by_mod m 0 h (by decide) (by decide)
  have h1 := by_mod m 1 h (by decide) (by decide)
  have h2 := by_mod m 2 h (by decide) (by decide)
  have h3 := by_mod m 3 h (by decide) (by decide)
  simp at h0 h1 h2 h3 ⊢
  exact ⟨h3, h2, h1, h0⟩
theorem fits_is {m w : Int} (h : fits m w = true) : 0 ≤ m ∧ (w = 1 ∧ m < 256 ∨ w = 2 ∧ m < 65536 ∨ w = 3 ∧ m < 16777216 ∨ w = 4 ∧ m < 2147483648) := by
  simp only [fits, Bool.and_eq_true, decide_eq_true_eq] at h
  obtain ⟨⟨h0, h1⟩, hw⟩ := h
  have hw := of_decide_eq_true hw
  have : w = 1 ∨ w = 2 ∨ w = 3 ∨ w = 4 := by omega
  refine ⟨h0, ?_⟩
  rcases this with rfl | rfl | rfl | rfl
  · have h1 : m ≤ 255 := h1
    exact .inl ⟨rfl, by omega⟩
  · have h1 : m ≤ 65535 := h1
    exact .inr (.inl ⟨rfl, by omega⟩)
  · have h1 : m ≤ 16777215 := h1
    exact .inr (.inr (.inl ⟨rfl, by omega⟩))
  · have h1 : m ≤ 2147483647 := h1
    exact .inr (.inr (.inr ⟨rfl, by omega⟩))
/-- What the bytes of a number say. -/
theorem num_num {m w : Int} (h : fits m w = true) : numI (numL m w) = m := by
  obtain ⟨h0, hc⟩ := fits_is h
  rcases hc with ⟨rfl, h1⟩ | ⟨rfl, h1⟩ | ⟨rfl, h1⟩ | ⟨rfl, h1⟩
  · rw [num_1 m h0]
    simp only [numI, List.foldl_cons, List.foldl_nil]
    rw [num_one _ _ (by omega) (by omega) (by omega)]
    omega
  · rw [num_2 m h0]
    simp only [numI, List.foldl_cons, List.foldl_nil]
    rw [num_one 0 _ (by omega) (by omega) (by omega), num_one _ _ (by omega) (by omega) (by omega)]
    omega
  · rw [num_3 m h0]
    simp only [numI, List.foldl_cons, List.foldl_nil]
    rw [num_one 0 _ (by omega) (by omega) (by omega), num_one (0 * 256 + _) _ (by omega) (by omega) (by omega), num_one _ _ (by omega) (by omega) (by omega)]
    omega
  · rw [num_4 m h0]
    simp only [numI, List.foldl_cons, List.foldl_nil]
    rw [num_one 0 _ (by omega) (by omega) (by omega), num_one (0 * 256 + _) _ (by omega) (by omega) (by omega), num_one ((0 * 256 + _) * 256 + _) _ (by omega) (by omega) (by omega), num_one _ _ (by omega) (by omega) (by omega)]
    omega
theorem num_lt {m n w : Int} (hm : fits m w = true) (hn : fits n w = true) : ltInts (numL m w) (numL n w) = decide (m < n) := by
  obtain ⟨h0, hc⟩ := fits_is hm
  obtain ⟨g0, gc⟩ := fits_is hn
  rcases hc with ⟨rfl, h1⟩ | ⟨rfl, h1⟩ | ⟨rfl, h1⟩ | ⟨rfl, h1⟩
  · rw [num_1 m h0, num_1 n g0, Bool.eq_iff_iff]
    simp only [ltInts, Bool.or_eq_true, Bool.and_eq_true, decide_eq_true_eq, beq_iff_eq, Bool.false_eq_true, and_false, or_false]
    omega
  · rw [num_2 m h0, num_2 n g0, Bool.eq_iff_iff]
    simp only [ltInts, Bool.or_eq_true, Bool.and_eq_true, decide_eq_true_eq, beq_iff_eq, Bool.false_eq_true, and_false, or_false]
    omega
  · rw [num_3 m h0, num_3 n g0, Bool.eq_iff_iff]
    simp only [ltInts, Bool.or_eq_true, Bool.and_eq_true, decide_eq_true_eq, beq_iff_eq, Bool.false_eq_true, and_false, or_false]
    omega
  · rw [num_4 m h0, num_4 n g0, Bool.eq_iff_iff]
    have em : m = m / 16777216 % 256 * 16777216 + m / 65536 % 256 * 65536 + m / 256 % 256 * 256 + m % 256 := by omega
    have en : n = n / 16777216 % 256 * 16777216 + n / 65536 % 256 * 65536 + n / 256 % 256 * 256 + n % 256 := by omega
    simp only [ltInts, Bool.or_eq_true, Bool.and_eq_true, decide_eq_true_eq, beq_iff_eq, Bool.false_eq_true, and_false, or_false]
    have b1 : 0 ≤ m / 16777216 % 256 ∧ m / 16777216 % 256 < 256 ∧ 0 ≤ m / 65536 % 256 ∧ m / 65536 % 256 < 256 ∧ 0 ≤ m / 256 % 256 ∧ m / 256 % 256 < 256 ∧ 0 ≤ m % 256 ∧ m % 256 < 256 := by omega
    have b2 : 0 ≤ n / 16777216 % 256 ∧ n / 16777216 % 256 < 256 ∧ 0 ≤ n / 65536 % 256 ∧ n / 65536 % 256 < 256 ∧ 0 ≤ n / 256 % 256 ∧ n / 256 % 256 < 256 ∧ 0 ≤ n % 256 ∧ n % 256 < 256 := by omega
    generalize m / 16777216 % 256 = m3 at *
    generalize m / 65536 % 256 = m2 at *
    generalize m / 256 % 256 = m1 at *
    generalize m % 256 = m0 at *
    generalize n / 16777216 % 256 = n3 at *
    generalize n / 65536 % 256 = n2 at *
    generalize n / 256 % 256 = n1 at *
    generalize n % 256 = n0 at *
    omega
theorem num_inj {m n w : Int} (hm : fits m w = true) (hn : fits n w = true) : decide (numL m w = numL n w) = decide (m = n) := by
  rw [Bool.eq_iff_iff, decide_eq_true_eq, decide_eq_true_eq]
  constructor
  · intro h
    have := num_num hm
    rw [h, num_num hn] at this
    exact this.symm
  · rintro rfl
    rfl
theorem byt_id : ∀ {l : List Int}, (∀ x ∈ l, 0 ≤ x ∧ x ≤ 255) → l.map (fun n => ((UInt8.ofNat n.toNat).toNat : Int)) = l
  | [], _ => rfl
  | x :: l, h => by
    have hx := h x (List.mem_cons_self ..)
    rw [List.map_cons, byt_id fun y hy => h y (List.mem_cons_of_mem _ hy)]
    congr 1
    have : x.toNat < 256 := by omega
    simp [UInt8.toNat_ofNat', Nat.mod_eq_of_lt this]
    omega
theorem num_by {m w : Int} (h : fits m w = true) : ∀ x ∈ numL m w, 0 ≤ x ∧ x ≤ 255 := by
  obtain ⟨h0, hc⟩ := fits_is h
  intro x hx
  rcases hc with ⟨rfl, h1⟩ | ⟨rfl, h1⟩ | ⟨rfl, h1⟩ | ⟨rfl, h1⟩
  · rw [num_1 m h0] at hx
    simp at hx
    omega
  · rw [num_2 m h0] at hx
    simp at hx
    omega
  · rw [num_3 m h0] at hx
    simp at hx
    omega
  · rw [num_4 m h0] at hx
    simp at hx
    omega
theorem byt_num {m w : Int} (h : fits m w = true) : (numL m w).map (fun n => ((UInt8.ofNat n.toNat).toNat : Int)) = numL m w := byt_id (num_by h)
/-- What is taken ahead of other bytes. -/
theorem take_num {m w : Int} (h : fits m w = true) (r : List Int) : tkN (numL m w ++ r) 0 w = m ∧ tkE (numL m w ++ r) 0 w = 0 ∧ tkR (numL m w ++ r) 0 w = r := by
  have hl := num_len m w
  have hw : isW w = true := by simp only [fits, Bool.and_eq_true] at h; exact h.2
  have h1 : (numL m w ++ r).take w.toNat = numL m w := by rw [← hl]; simp
  have h2 : (numL m w ++ r).drop w.toNat = r := by rw [← hl]; simp
  have hm : m ≤ grI w := by simp only [fits, Bool.and_eq_true, decide_eq_true_eq] at h; exact h.1.2
  have hb : tkBad (numL m w ++ r) w = false := by
    unfold tkBad
    rw [h1, num_num h]
    simp only [List.length_append, hl, decide_eq_false_iff_not]
    have := of_decide_eq_true hw
    omega
  unfold tkN tkE tkR
  simp [hw, hb, h1, h2, num_num h]
theorem put_num {m w : Int} (h : fits m w = true) : putE m w = 0 ∧ putL [] m w = numL m w := by
  have hw : isW w = true := by simp only [fits, Bool.and_eq_true] at h; exact h.2
  have hm : 0 ≤ m ∧ m ≤ grI w := by simp only [fits, Bool.and_eq_true, decide_eq_true_eq] at h; exact h.1
  have e : putE m w = 0 := by
    unfold putE
    simp [hw]
    omega
  refine ⟨e, ?_⟩
  unfold putL
  rw [e]
  simp [behI]
/-- How a number of a width is drawn from another one. -/
theorem drawn (a k : Int) (ha : 0 ≤ a ∧ a < 4294967296) (hk : 0 ≤ k ∧ k ≤ 255) : isW (stdBin .add .i64 1 (IntKind.i64.wrap (stdBin .rem .u8 k 4))) = true ∧
    fits (stdBin .rem .i64 (IntKind.i64.wrap a) (stdBin .add .i64 (grI (stdBin .add .i64 1 (IntKind.i64.wrap (stdBin .rem .u8 k 4)))) 1)) (stdBin .add .i64 1 (IntKind.i64.wrap (stdBin .rem .u8 k 4))) = true ∧
    ¬ stdBin .add .i64 (grI (stdBin .add .i64 1 (IntKind.i64.wrap (stdBin .rem .u8 k 4)))) 1 = 0 := by
  have e1 : stdBin .rem .u8 k 4 = k % 4 := by rw [b_rem, Int.tmod_eq_emod_of_nonneg hk.1]
  rw [e1, wr (k % 4) (by omega) (by omega), b_add, wr (1 + k % 4) (by omega) (by omega), wr a (by omega) (by omega)]
  have hw : isW (1 + k % 4) = true := decide_eq_true (by omega)
  have hg : 255 ≤ grI (1 + k % 4) ∧ grI (1 + k % 4) ≤ 2147483647 := by
    unfold grI
    repeat' split
    all_goals decide
  rw [b_add, wr _ (by omega) (by omega), b_rem, Int.tmod_eq_emod_of_nonneg ha.1]
  refine ⟨hw, ?_, by omega⟩
  unfold fits
  rw [hw, Bool.and_true]
  have h1 := Int.emod_nonneg a (show grI (1 + k % 4) + 1 ≠ 0 by omega)
  have h2 := Int.emod_lt_of_pos a (show 0 < grI (1 + k % 4) + 1 by omega)
  exact decide_eq_true ⟨h1, by omega⟩

theorem wf32 {a : Int} (h : (Lit.int .u32 a).wf = true) : 0 ≤ a ∧ a < 4294967296 := by
  have h : 0 ≤ a ∧ a ≤ 4294967295 := by simpa [Lit.wf, IntKind.min, IntKind.max, IntKind.signed, IntKind.bits] using h
  omega
end Go.Proofs.Ytphbfoafgfnmmaa.OctQ
namespace Go.Proofs.Ytphbfoafgfnmmaa.FrR
open Go Go.Proofs.Ytphbfoafgfnmmaa.Ry Go.Proofs.Ytphbfoafgfnmmaa.OctR Go.Proofs.Ytphbfoafgfnmmaa.OctP Go.Proofs.Ytphbfoafgfnmmaa.OctQ

open Go.Proofs.Ytphbfoafgfnmmaa.CrcR (c_seal c_open c_rseal ok_rseal c_ropen ok_ropen)
/-- A frame, and an error. -/
structure DF where
  k : Int
  s : Int
  q : Int
  a : Int
  p : List Int
  e : Int
def isC (n : Int) : Bool := decide (0 ≤ n ∧ n ≤ 2147483647)
def mayF (k s q a : Int) (p : List Int) : Bool := decide (1 ≤ k ∧ k ≤ 5) && isC s && isC q && isC a && decide (p.length ≤ 16384) && (decide (k = 3) || decide (p.length = 0))
def chF (k s q a : Int) (p : List Int) : Int := if mayF k s q a p = true then 0 else 1
def bodyF (k s q a : Int) (p : List Int) : List Int := numL p.length 2 ++ numL k 1 ++ numL s 4 ++ numL q 4 ++ numL a 4 ++ p
def encF (k s q a : Int) (p : List Int) : List Int := if mayF k s q a p = true then CrcR.sealI (bodyF k s q a p) else []
def zF (e : Int) : DF := ⟨0, 0, 0, 0, [], e⟩
/-- What is read of so many bytes ahead. -/
def rdF (c : List Int) : DF :=
  let r0 := c.take 15
  let n := tkN r0 0 2
  let r1 := tkR r0 0 2
  let e1 := tkE r0 0 2
  let k := tkN r1 e1 1
  let r2 := tkR r1 e1 1
  let e2 := tkE r1 e1 1
  let s := tkN r2 e2 4
  let r3 := tkR r2 e2 4
  let e3 := tkE r2 e2 4
  let q := tkN r3 e3 4
  let r4 := tkR r3 e3 4
  let e4 := tkE r3 e3 4
  let a := tkN r4 e4 4
  let e5 := tkE r4 e4 4
  if e5 = 0 ∧ n = (c.drop 15).length ∧ mayF k s q a (c.drop 15) = true then ⟨k, s, q, a, c.drop 15, 0⟩ else zF 5
def decF (l : List Int) : DF := if 16403 < l.length then zF 3 else if l.length < 19 then zF 5 else if CrcR.errI l = 0 then rdF (CrcR.openI l) else zF (CrcR.errI l)
def smF (k s q a : Int) (p : List Int) (k' s' q' a' : Int) (p' : List Int) : Bool := decide (k = k' ∧ s = s' ∧ q = q' ∧ a = a' ∧ p = p')
def okP (l : List Int) (n w : Int) : Bool := fits n w && shB l
def l15 (l : List Int) : Bool := decide (15 ≤ l.length ∧ l.length ≤ 1000000)
theorem put_ok {l : List Int} {n w : Int} (h : okP l n w = true) : shB l = true ∧ isW w = true ∧ putE n w = 0 ∧ ¬ n < 0 ∧ ¬ grI w < n ∧ 1 ≤ w ∧ w ≤ 4 ∧ l.length ≤ 1000000 := by
  simp only [okP, Bool.and_eq_true] at h
  have h2 := h.1
  simp only [fits, Bool.and_eq_true, decide_eq_true_eq] at h2
  have hw := of_decide_eq_true h2.2
  have hs := of_decide_eq_true h.2
  exact ⟨h.2, h2.2, (put_num h.1).1, by omega, by omega, hw.1, hw.2, hs⟩

structure Rs where
  f_may : Int → Int → Int → Int → List Int → Bool
  f_ch : Int → Int → Int → Int → List Int → Int
  f_enc : Int → Int → Int → Int → List Int → List Int
  f_body : Int → Int → Int → Int → List Int → List Int
  f_rd : List Int → DF
  f_dec : List Int → DF
  f_sm : Int → Int → Int → Int → List Int → Int → Int → Int → Int → List Int → Bool
  f_okP : List Int → Int → Int → Bool
  f_beh : List Int → Int → Int → List Int
  f_15 : List Int → Bool
  f_by : List Int → Bool
  f_isC : Int → Bool
  f_l : List Int → Bool
  f_by2 : List Int → List Int → Bool
def Rs.std : Rs := ⟨mayF, chF, encF, bodyF, rdF, decF, smF, okP, behI, l15, okR, isC, shB, fun p q => byB p && byB q⟩

def c_isC (F : Rs) : Con := fun xs h => match xs, h with
  | [.one (.val (.int .i64 n))], [] => some ⟨True, .sa (B (F.f_isC n)), [], [Any]⟩
  | _, _ => none
def c_check (F : Rs) : Con := fun xs h => match xs, h with
  | [.agg [.val (.int .i64 f_k), .val (.int .i64 f_s), .val (.int .i64 f_q), .val (.int .i64 f_a), .sl none (.ints .u8 f_p)]], [] => some ⟨True, .sa (I (F.f_ch f_k f_s f_q f_a f_p)), [], [Any]⟩
  | _, _ => none
def c_oput (F : Rs) : Con := fun xs h => match xs, h with
  | [.one (.sl none (.ints .u8 l)), .one (.val (.int .i64 n)), .one (.val (.int .i64 w))], [] => some ⟨F.f_okP l n w = true, .tup [.one (.sl (some (0, 5)) (.ints .u8 (F.f_beh l n w))), I 0], [(0, .tok)], [Any, Any, Any]⟩
  | _, _ => none
def c_put (F : Rs) : Con := fun xs h => match xs, h with
  | [.one (.sl none (.ints .u8 l)), .one (.val (.int .i64 n)), .one (.val (.int .i64 w))], [] => some ⟨F.f_okP l n w = true, .sa (.one (.sl (some (0, 5)) (.ints .u8 (F.f_beh l n w)))), [(0, .tok)], [Any, Any, Any]⟩
  | _, _ => none
theorem put5 {k s q a : Int} {p : List Int} (h : mayF k s q a p = true) :
    okP [] p.length 2 = true ∧ okP (behI [] p.length 2) k 1 = true ∧ okP (behI (behI [] p.length 2) k 1) s 4 = true ∧ okP (behI (behI (behI [] p.length 2) k 1) s 4) q 4 = true ∧ okP (behI (behI (behI (behI [] p.length 2) k 1) s 4) q 4) a 4 = true ∧
    behI (behI (behI (behI (behI [] p.length 2) k 1) s 4) q 4) a 4 ++ p = bodyF k s q a p ∧ (bodyF k s q a p).length = 15 + p.length ∧ p.length ≤ 16384 ∧ (behI (behI (behI (behI (behI [] p.length 2) k 1) s 4) q 4) a 4).length = 15 := by
  simp only [mayF, isC, Bool.and_eq_true, decide_eq_true_eq] at h
  obtain ⟨⟨⟨⟨⟨h1, h2⟩, h3⟩, h4⟩, h5⟩, h6⟩ := h
  have e1 : isW 1 = true := rfl
  have e2 : isW 2 = true := rfl
  have e4 : isW 4 = true := rfl
  have g1 : grI 1 = 255 := rfl
  have g2 : grI 2 = 65535 := rfl
  have g4 : grI 4 = 2147483647 := rfl
  have t1 : (1 : Int).toNat = 1 := rfl
  have t2 : (2 : Int).toNat = 2 := rfl
  have t4 : (4 : Int).toNat = 4 := rfl
  simp only [okP, fits, e1, e2, e4, g1, g2, g4, Bool.and_true, Bool.and_eq_true, decide_eq_true_eq, shB, behI, List.length_append, num_len, t1, t2, t4, List.length_nil, bodyF, List.nil_append]
  refine ⟨by omega, by omega, by omega, by omega, by omega, trivial, trivial, by omega, trivial⟩

def c_encode (F : Rs) : Con := fun xs h => match xs, h with
  | [.agg [.val (.int .i64 f_k), .val (.int .i64 f_s), .val (.int .i64 f_q), .val (.int .i64 f_a), .sl none (.ints .u8 f_p)]], [] => some ⟨True, .tup [Bytes (F.f_enc f_k f_s f_q f_a f_p), I (F.f_ch f_k f_s f_q f_a f_p)], [], [Any]⟩
  | _, _ => none
def c_flist (F : Rs) : Con := fun xs h => match xs, h with
  | [.one (.sl none (.ints .u8 l))], [] => some ⟨F.f_l l = true, .sa (Bytes l), [], [Any]⟩
  | _, _ => none
set_option maxRecDepth 100000 in
theorem x_flist (l : List Int) (hC : Rs.std.f_l l = true) : Does [] Try.f60 [.one (.sl none (.ints .u8 l))] [] ⟨Rs.std.f_l l = true, .sa (Bytes l), [], [Any]⟩ := by
  intro b gv
  generalize hF : Rs.std = F at hC ⊢
  generalize hA : Ar.std = A
  generalize hL : Lp _ _ _ = L
  obtain ⟨Z, zq⟩ := z_all
  refine cd_open (lp_mono hL) zq rfl ?_
  repeat' (first
    | (refine z_open zq ?_; try dsimp only)
    | refine cd_seq zq ?_ (lp_mono hL)
    | refine cd_blk zq ?_
    | refine cd_ret ?_
    | refine cd_skip ?_
    | refine cd_exit ?_
    | refine cd_loop ?_
    | refine cd_cond rfl ?_
    | refine cd_condT rfl ?_
    | refine cd_condF rfl ?_
    | (refine Cd.mk ?_; cbv)
    | (refine Ends1.mk ?_; cbv)
    | (refine Fin1.mk ?_; cbv)
    | exact trivial
    | refine And.intro ?_ ?_
    | refine orf fun _ => ?_
    | refine ort fun _ => ?_)
  all_goals
    clear hL zq Z
    subst hF hA
    have hk : l.length ≤ 1000000 := of_decide_eq_true (show decide (l.length ≤ 1000000) = true from hC)
    simp only [Ar.std, List.nil_append] at *
    try (grind)
theorem ok_flist : ConOk Try.prog 60 (c_flist Rs.std) := by
  refine con_of FsOk.nil Try.func60 rfl rfl fun xs h p hp => ?_
  unfold c_flist at hp
  split at hp
  · cases hp
    exact ⟨lee_le rfl, fun hC _ => x_flist _ hC⟩
  · cases hp

def c_read (F : Rs) : Con := fun xs h => match xs, h with
  | [.one (.sl none (.ints .u8 c))], [] => some ⟨F.f_15 c = true, .tup [.agg [.val (.int .i64 (F.f_rd c).k), .val (.int .i64 (F.f_rd c).s), .val (.int .i64 (F.f_rd c).q), .val (.int .i64 (F.f_rd c).a), .sl none (.ints .u8 (F.f_rd c).p)], I (F.f_rd c).e], [], [Any]⟩
  | _, _ => none
def c_decode (F : Rs) : Con := fun xs h => match xs, h with
  | [.one (.sl none (.ints .u8 l))], [] => some ⟨True, .tup [.agg [.val (.int .i64 (F.f_dec l).k), .val (.int .i64 (F.f_dec l).s), .val (.int .i64 (F.f_dec l).q), .val (.int .i64 (F.f_dec l).a), .sl none (.ints .u8 (F.f_dec l).p)], I (F.f_dec l).e], [], [Any]⟩
  | _, _ => none
theorem op_len (l : List Int) (h : CrcR.errI l = 0) : (CrcR.openI l).length + 4 = l.length := by
  unfold CrcR.errI at h
  unfold CrcR.openI
  repeat' split at h
  all_goals first | (exfalso; revert h; decide) | skip
  rw [if_neg (by assumption), if_pos (by assumption), List.length_take]
  omega
end Go.Proofs.Ytphbfoafgfnmmaa.FrR
namespace Go.Proofs.Ytphbfoafgfnmmaa.FrQ
open Go Go.Proofs.Ytphbfoafgfnmmaa.Ry Go.Proofs.Ytphbfoafgfnmmaa.OctR Go.Proofs.Ytphbfoafgfnmmaa.OctP Go.Proofs.Ytphbfoafgfnmmaa.OctQ Go.Proofs.Ytphbfoafgfnmmaa.FrR

open Go.Proofs.Ytphbfoafgfnmmaa.CrcR (c_rseal ok_rseal c_ropen ok_ropen)
def byt (l : List Int) : List Int := l.map fun n => ((UInt8.ofNat n.toNat).toNat : Int)
structure XM where
  i : Int
def rmQ (s q a : Int) (y : XM) : Prop := 0 ≤ y.i ∧ y.i ≤ 3 ∧ (1 ≤ y.i → isC s = true) ∧ (2 ≤ y.i → isC q = true) ∧ (3 ≤ y.i → isC a = true)
noncomputable def rmI (A : Ar) (k s q a : Int) (p : List Int) (y : XM) : St := stOf Try.f22.ntmps [(1, .ptr 1 0), (11, .sl none (.ints .i64 [s, q, a])), (12, .val (.int .i64 (A.lenI [s, q, a]))), (13, .val (.int .i64 y.i))] [(1, .cells 59 [.val (.int .i64 k), .val (.int .i64 s), .val (.int .i64 q), .val (.int .i64 a), .sl none (.ints .u8 p)])] [Any]
def rmM (y : XM) : Nat := (3 - y.i).toNat
def rmR (st : St) : XM := ⟨slotI st 13⟩
theorem rm_step {k s q a : Int} {p : List Int} {i : Int} (hq : rmQ s q a ⟨i⟩) (h : i < 3) : (isC ([s, q, a].getD i.toNat 0) = true → rmQ s q a ⟨i + 1⟩) ∧ (isC ([s, q, a].getD i.toNat 0) = false → mayF k s q a p = false) := by
  obtain ⟨h0, h1, h2, h3, h4⟩ := hq
  simp only at h0 h1 h2 h3 h4
  have : i = 0 ∨ i = 1 ∨ i = 2 := by omega
  rcases this with rfl | rfl | rfl
  · refine ⟨fun q => ⟨by simp only; omega, by simp only; omega, fun _ => q, fun g => by simp only at g; omega, fun g => by simp only at g; omega⟩, fun q => ?_⟩
    have q : isC s = false := q
    unfold mayF
    rw [q]
    simp
  · refine ⟨fun q => ⟨by simp only; omega, by simp only; omega, fun _ => h2 (by omega), fun _ => q, fun g => by simp only at g; omega⟩, fun q' => ?_⟩
    have q' : isC q = false := q'
    unfold mayF
    rw [q']
    simp
  · refine ⟨fun q => ⟨by simp only; omega, by simp only; omega, fun _ => h2 (by omega), fun _ => h3 (by omega), fun _ => q⟩, fun q' => ?_⟩
    have q' : isC a = false := q'
    unfold mayF
    rw [q']
    simp
theorem rm_end {k s q a : Int} {p : List Int} {i : Int} (hq : rmQ s q a ⟨i⟩) (h : ¬ i < 3) : mayF k s q a p = (decide (1 ≤ k ∧ k ≤ 5) && decide (p.length ≤ 16384) && (decide (k = 3) || decide (p.length = 0))) := by
  obtain ⟨h0, h1, h2, h3, h4⟩ := hq
  simp only at h0 h1 h2 h3 h4
  unfold mayF
  rw [h2 (by omega), h3 (by omega), h4 (by omega)]
  simp
/-- What the answer reads: of all the bytes, and written back. -/
def rrF (l c : List Int) : DF :=
  let r1 := tkR c 0 2
  let e1 := tkE c 0 2
  let k := tkN r1 e1 1
  let r2 := tkR r1 e1 1
  let e2 := tkE r1 e1 1
  let s := tkN r2 e2 4
  let r3 := tkR r2 e2 4
  let e3 := tkE r2 e2 4
  let q := tkN r3 e3 4
  let r4 := tkR r3 e3 4
  let e4 := tkE r3 e3 4
  let a := tkN r4 e4 4
  let p := tkR r4 e4 4
  let e5 := tkE r4 e4 4
  if e5 = 0 ∧ mayF k s q a p = true ∧ byt (CrcR.sealI (bodyF k s q a p)) = byt l then ⟨k, s, q, a, p, 0⟩ else zF 5
def rdecF (l : List Int) : DF := if 16403 < l.length then zF 3 else if l.length < 19 then zF 5 else if CrcR.goodB l = true then rrF l (CrcR.ropenI l) else zF 6
theorem by_tk (r : List Int) (e w : Int) (h : byB r = true) : byB (tkR r e w) = true := by
  unfold tkR
  split
  · simp only [byB, decide_eq_true_eq] at *
    exact fun x hx => h x (List.mem_of_mem_drop hx)
  · exact h
theorem by_open (l : List Int) (h : byB l = true) : byB (CrcR.ropenI l) = true := by
  unfold CrcR.ropenI
  split
  · rfl
  · simp only [byB, decide_eq_true_eq] at *
    exact fun x hx => h x (List.mem_of_mem_take hx)
theorem by_crc {l : List Int} (h : byB l = true) (hl : l.length ≤ 16403) : CrcR.okB l = true := by
  have h := of_decide_eq_true h
  exact decide_eq_true ⟨by omega, fun x hx => (h x hx).1⟩
theorem body_ok {k s q a : Int} {p : List Int} (h : mayF k s q a p = true) (hp : byB p = true) : CrcR.okB (bodyF k s q a p) = true ∧ fits k 1 = true ∧ fits s 4 = true ∧ fits q 4 = true ∧ fits a 4 = true ∧ fits p.length 2 = true ∧ (bodyF k s q a p).length = 15 + p.length ∧ okR (bodyF k s q a p) = true := by
  have h5 := put5 h
  simp only [okP, Bool.and_eq_true] at h5
  have n2 := num_by h5.1.1
  have n1 := num_by h5.2.1.1
  have ns := num_by h5.2.2.1.1
  have nq := num_by h5.2.2.2.1.1
  have na := num_by h5.2.2.2.2.1.1
  have hp := of_decide_eq_true hp
  have hb : ∀ x ∈ bodyF k s q a p, 0 ≤ x ∧ x ≤ 255 := by
    intro x hx
    simp only [bodyF, List.mem_append] at hx
    rcases hx with ((((hx | hx) | hx) | hx) | hx) | hx
    · exact n2 x hx
    · exact n1 x hx
    · exact ns x hx
    · exact nq x hx
    · exact na x hx
    · exact hp x hx
  have hl : (bodyF k s q a p).length ≤ 1000000 := by omega
  refine ⟨decide_eq_true ⟨hl, fun x hx => (hb x hx).1⟩, h5.2.1.1, h5.2.2.1.1, h5.2.2.2.1.1, h5.2.2.2.2.1.1, h5.1.1, h5.2.2.2.2.2.2.1, ?_⟩
  unfold okR byB shB
  rw [decide_eq_true hb, decide_eq_true hl]
  rfl

theorem byt_by {p : List Int} (h : byB p = true) : byt p = p := byt_id (of_decide_eq_true h)
theorem okN_of {n w : Int} (h : fits n w = true) : okN n w = true := by
  have hf := fits_is h
  simp only [fits, Bool.and_eq_true] at h
  unfold okN
  rw [h.2, decide_eq_true (by omega)]
  rfl

structure Qs where
  q_may : Int → Int → Int → Int → List Int → Bool
  q_ok : List Int → Bool
  q_dec : List Int → DF
  q_go : Int → Int → Int → Int → List Int → Bool
  q_seal : Int → Int → Int → Int → List Int → List Int
  q_sm : Int → Int → Int → Int → List Int → Int → Int → Int → Int → List Int → Bool
  q_by : List Int → List Int → Bool
  q_eq : List Int → List Int → Bool
def Qs.std : Qs := ⟨mayF, byB, rdecF, fun k s q a p => mayF k s q a p && byB p, fun k s q a p => CrcR.sealI (bodyF k s q a p), smF, fun p q => byB p && byB q, fun p q => decide (p = q)⟩

def c_rmay (F : Qs) : Con := fun xs h => match xs, h with
  | [.agg [.val (.int .i64 f_k), .val (.int .i64 f_s), .val (.int .i64 f_q), .val (.int .i64 f_a), .sl none (.ints .u8 f_p)]], [] => some ⟨True, .sa (B (F.q_may f_k f_s f_q f_a f_p)), [], [Any]⟩
  | _, _ => none
set_option maxHeartbeats 1000000 in
set_option maxRecDepth 100000 in
theorem x_rmay (f_k : Int) (f_s : Int) (f_q : Int) (f_a : Int) (f_p : List Int) : Does [] Try.f22 [.agg [.val (.int .i64 f_k), .val (.int .i64 f_s), .val (.int .i64 f_q), .val (.int .i64 f_a), .sl none (.ints .u8 f_p)]] [] ⟨True, .sa (B (Qs.std.q_may f_k f_s f_q f_a f_p)), [], [Any]⟩ := by
  intro b gv
  have hfs := FsOk.nil
  generalize hF : Qs.std = F at hfs ⊢
  generalize hA : Ar.std = A
  generalize hL : Lp _ _ _ = L
  obtain ⟨Z, zq⟩ := z_all
  refine cd_open (lp_mono hL) zq rfl ?_
  repeat' (first
    | (refine z_open zq ?_; try dsimp only)
    | refine cd_seq zq ?_ (lp_mono hL)
    | refine cd_blk zq ?_
    | refine cd_ret ?_
    | refine cd_skip ?_
    | refine cd_exit ?_
    | refine cd_loop ?_
    | refine cd_cond rfl ?_
    | refine cd_condT rfl ?_
    | refine cd_condF rfl ?_
    | (refine Cd.mk ?_; cbv)
    | (refine Ends1.mk ?_; cbv)
    | (refine Fin1.mk ?_; cbv)
    | exact trivial
    | refine And.intro ?_ ?_
    | refine orf fun _ => ?_
    | refine ort fun _ => ?_)
  subst hL
  refine loop_z (cx_ok hfs) (rmQ f_s f_q f_a) (rmI A f_k f_s f_q f_a f_p) rmM rmR ⟨0⟩ ?_ ?_ ?_
  · exact ⟨Int.le_refl 0, show (0 : Int) ≤ 3 by decide, fun g => absurd g (by simp only; omega), fun g => absurd g (by simp only; omega), fun g => absurd g (by simp only; omega)⟩
  · cbv
    repeat' (first | exact trivial | exact rfl | refine And.intro ?_ ?_)
  rintro ⟨i⟩ hq O hO
  have hst := rm_step (k := f_k) (p := f_p) hq
  have hen := rm_end (k := f_k) (p := f_p) hq
  have q0 := hq.1
  have q1 := hq.2.1
  dsimp only at q0 q1
  subst hA
  generalize hA : Ar.std = A
  generalize hL : Lp _ _ _ = L
  refine cd_close zq ?_
  repeat' (first
    | (refine z_open zq ?_; try dsimp only)
    | refine cd_seq zq ?_ (lp_mono hL)
    | refine cd_blk zq ?_
    | refine cd_ret ?_
    | refine cd_skip ?_
    | refine cd_exit ?_
    | refine cd_loop ?_
    | refine cd_cond rfl ?_
    | refine cd_condT rfl ?_
    | refine cd_condF rfl ?_
    | (refine Cd.mk ?_; cbv)
    | (refine Ends1.mk ?_; cbv)
    | (refine Fin1.mk ?_; cbv)
    | exact trivial
    | refine And.intro ?_ ?_
    | refine orf fun _ => ?_
    | refine ort fun _ => ?_)
  all_goals (clear hL hfs zq Z hq; subst hA hF hO; simp only [Qs.std, Ar.std] at * <;> grind [stdCmp, b_add, wr, rmM, isC])
theorem ok_rmay : ConOk Try.prog 22 (c_rmay Qs.std) := by
  refine con_of FsOk.nil Try.func22 rfl rfl fun xs h p hp => ?_
  unfold c_rmay at hp
  split at hp
  · cases hp
    exact ⟨lee_le rfl, fun _ _ => x_rmay _ _ _ _ _⟩
  · cases hp

def c_rbytes (F : Qs) : Con := fun xs h => match xs, h with
  | [.agg [.val (.int .i64 f_k), .val (.int .i64 f_s), .val (.int .i64 f_q), .val (.int .i64 f_a), .sl none (.ints .u8 f_p)]], [] => some ⟨F.q_go f_k f_s f_q f_a f_p = true, .sa (Bytes (F.q_seal f_k f_s f_q f_a f_p)), [], [Any]⟩
  | _, _ => none
set_option maxHeartbeats 1000000 in
set_option maxRecDepth 100000 in
theorem x_rbytes (f_k : Int) (f_s : Int) (f_q : Int) (f_a : Int) (f_p : List Int) (hC : Qs.std.q_go f_k f_s f_q f_a f_p = true) : Does [(42, c_rnumc Hs.std), (43, c_rseal CrcR.Fs.std)] Try.f23 [.agg [.val (.int .i64 f_k), .val (.int .i64 f_s), .val (.int .i64 f_q), .val (.int .i64 f_a), .sl none (.ints .u8 f_p)]] [] ⟨Qs.std.q_go f_k f_s f_q f_a f_p = true, .sa (Bytes (Qs.std.q_seal f_k f_s f_q f_a f_p)), [], [Any]⟩ := by
  intro b gv
  have hk : mayF f_k f_s f_q f_a f_p = true ∧ byB f_p = true := by
    have h : (mayF f_k f_s f_q f_a f_p && byB f_p) = true := hC
    simpa using h
  have h5 := put5 hk.1
  have h6 := body_ok hk.1 hk.2
  have n1 := okN_of h6.2.1
  have ns := okN_of h6.2.2.1
  have nq := okN_of h6.2.2.2.1
  have na := okN_of h6.2.2.2.2.1
  have np := okN_of h6.2.2.2.2.2.1
  have hfs := (FsOk.cons ok_rnumc (FsOk.cons ok_rseal FsOk.nil rfl) rfl)
  generalize hF : Qs.std = F at hC hfs ⊢
  generalize hG0 : Hs.std = G0 at hC hfs ⊢
  generalize hG1 : CrcR.Fs.std = G1 at hC hfs ⊢
  generalize hA : Ar.std = A
  generalize hL : Lp _ _ _ = L
  obtain ⟨Z, zq⟩ := z_all
  refine cd_open (lp_mono hL) zq rfl ?_
  repeat' (first
    | (refine z_open zq ?_; try dsimp only)
    | refine cd_seq zq ?_ (lp_mono hL)
    | refine cd_blk zq ?_
    | refine cd_ret ?_
    | refine cd_skip ?_
    | refine cd_exit ?_
    | refine cd_loop ?_
    | refine cd_cond rfl ?_
    | refine cd_condT rfl ?_
    | refine cd_condF rfl ?_
    | (refine Cd.mk ?_; cbv)
    | (refine Ends1.mk ?_; cbv)
    | (refine Fin1.mk ?_; cbv)
    | exact trivial
    | refine And.intro ?_ ?_
    | refine orf fun _ => ?_
    | refine ort fun _ => ?_)
  all_goals
    clear hL zq Z hfs
    subst hF hA hG0 hG1
    simp only [Qs.std, Hs.std, CrcR.Fs.std, Ar.std] at *
    try (grind [stdCmp, bodyF, num_len])
theorem ok_rbytes : ConOk Try.prog 23 (c_rbytes Qs.std) := by
  refine con_of (FsOk.cons ok_rnumc (FsOk.cons ok_rseal FsOk.nil rfl) rfl) Try.func23 rfl rfl fun xs h p hp => ?_
  unfold c_rbytes at hp
  split at hp
  · cases hp
    exact ⟨lee_le rfl, fun hC _ => x_rbytes _ _ _ _ _ hC⟩
  · cases hp

def c_rdecode (F : Qs) : Con := fun xs h => match xs, h with
  | [.one (.sl none (.ints .u8 l))], [] => some ⟨F.q_ok l = true, .tup [.agg [.val (.int .i64 (F.q_dec l).k), .val (.int .i64 (F.q_dec l).s), .val (.int .i64 (F.q_dec l).q), .val (.int .i64 (F.q_dec l).a), .sl none (.ints .u8 (F.q_dec l).p)], I (F.q_dec l).e], [], [Any]⟩
  | _, _ => none
set_option maxHeartbeats 4000000 in
set_option maxRecDepth 100000 in
theorem x_rdecode (l : List Int) (hC : Qs.std.q_ok l = true) : Does [(44, c_ropen CrcR.Fs.std), (45, c_rtake Gs.std), (22, c_rmay Qs.std), (23, c_rbytes Qs.std)] Try.f24 [.one (.sl none (.ints .u8 l))] [] ⟨Qs.std.q_ok l = true, .tup [.agg [.val (.int .i64 (Qs.std.q_dec l).k), .val (.int .i64 (Qs.std.q_dec l).s), .val (.int .i64 (Qs.std.q_dec l).q), .val (.int .i64 (Qs.std.q_dec l).a), .sl none (.ints .u8 (Qs.std.q_dec l).p)], I (Qs.std.q_dec l).e], [], [Any]⟩ := by
  intro b gv
  have hl : byB l = true := hC
  have hcr : l.length ≤ 16403 → CrcR.okB l = true := by_crc hl
  have o0 := by_open l hl
  have o1 := by_tk _ 0 2 o0
  have o2 := by_tk _ (tkE (CrcR.ropenI l) 0 2) 1 o1
  have hfs := (FsOk.cons ok_ropen (FsOk.cons ok_rtake (FsOk.cons ok_rmay (FsOk.cons ok_rbytes FsOk.nil rfl) rfl) rfl) rfl)
  generalize hF : Qs.std = F at hC hfs ⊢
  generalize hG0 : Gs.std = G0 at hC hfs ⊢
  generalize hG1 : CrcR.Fs.std = G1 at hC hfs ⊢
  generalize hA : Ar.std = A
  generalize hL : Lp _ _ _ = L
  obtain ⟨Z, zq⟩ := z_all
  refine cd_open (lp_mono hL) zq rfl ?_
  repeat' (first
    | (refine z_open zq ?_; try dsimp only)
    | refine cd_seq zq ?_ (lp_mono hL)
    | refine cd_blk zq ?_
    | refine cd_ret ?_
    | refine cd_skip ?_
    | refine cd_exit ?_
    | refine cd_loop ?_
    | refine cd_cond rfl ?_
    | refine cd_condT rfl ?_
    | refine cd_condF rfl ?_
    | (refine Cd.mk ?_; cbv)
    | (refine Ends1.mk ?_; cbv)
    | (refine Fin1.mk ?_; cbv)
    | exact trivial
    | refine And.intro ?_ ?_
    | refine orf fun _ => ?_
    | refine ort fun _ => ?_)
  all_goals
    clear hL zq Z hfs
    subst hF hA hG0 hG1
    simp only [Qs.std, Gs.std, Fs.std, CrcR.Fs.std, Ar.std] at *
    try (grind [stdCmp, rdecF, rrF, zF, byt, by_tk])
theorem ok_rdecode : ConOk Try.prog 24 (c_rdecode Qs.std) := by
  refine con_of (FsOk.cons ok_ropen (FsOk.cons ok_rtake (FsOk.cons ok_rmay (FsOk.cons ok_rbytes FsOk.nil rfl) rfl) rfl) rfl) Try.func24 rfl rfl fun xs h p hp => ?_
  unfold c_rdecode at hp
  split at hp
  · cases hp
    exact ⟨lee_le rfl, fun hC _ => x_rdecode _ hC⟩
  · cases hp

def c_beq (F : Qs) : Con := fun xs h => match xs, h with
  | [.one (.sl none (.ints .u8 p)), .one (.sl none (.ints .u8 q))], [] => some ⟨F.q_by p q = true, .sa (B (F.q_eq p q)), [], [Any, Any]⟩
  | _, _ => none
set_option maxRecDepth 100000 in
theorem x_beq (p : List Int) (q : List Int) (hC : Qs.std.q_by p q = true) : Does [] Try.f61 [.one (.sl none (.ints .u8 p)), .one (.sl none (.ints .u8 q))] [] ⟨Qs.std.q_by p q = true, .sa (B (Qs.std.q_eq p q)), [], [Any, Any]⟩ := by
  intro b gv
  have hk : byB p = true ∧ byB q = true := by
    have h : (byB p && byB q) = true := hC
    simpa using h
  have e1 := byt_by hk.1
  have e2 := byt_by hk.2
  generalize hF : Qs.std = F at hC ⊢
  generalize hA : Ar.std = A
  generalize hL : Lp _ _ _ = L
  obtain ⟨Z, zq⟩ := z_all
  refine cd_open (lp_mono hL) zq rfl ?_
  repeat' (first
    | (refine z_open zq ?_; try dsimp only)
    | refine cd_seq zq ?_ (lp_mono hL)
    | refine cd_blk zq ?_
    | refine cd_ret ?_
    | refine cd_skip ?_
    | refine cd_exit ?_
    | refine cd_loop ?_
    | refine cd_cond rfl ?_
    | refine cd_condT rfl ?_
    | refine cd_condF rfl ?_
    | (refine Cd.mk ?_; cbv)
    | (refine Ends1.mk ?_; cbv)
    | (refine Fin1.mk ?_; cbv)
    | exact trivial
    | refine And.intro ?_ ?_
    | refine orf fun _ => ?_
    | refine ort fun _ => ?_)
  all_goals
    clear hL zq Z
    subst hF hA
    simp only [Qs.std, Ar.std] at *
    try (grind [byt])
theorem ok_beq : ConOk Try.prog 61 (c_beq Qs.std) := by
  refine con_of FsOk.nil Try.func61 rfl rfl fun xs h p hp => ?_
  unfold c_beq at hp
  split at hp
  · cases hp
    exact ⟨lee_le rfl, fun hC _ => x_beq _ _ hC⟩
  · cases hp

def c_same (F : Qs) : Con := fun xs h => match xs, h with
  | [.agg [.val (.int .i64 x_k), .val (.int .i64 x_s), .val (.int .i64 x_q), .val (.int .i64 x_a), .sl none (.ints .u8 x_p)], .agg [.val (.int .i64 y_k), .val (.int .i64 y_s), .val (.int .i64 y_q), .val (.int .i64 y_a), .sl none (.ints .u8 y_p)]], [] => some ⟨F.q_by x_p y_p = true, .sa (B (F.q_sm x_k x_s x_q x_a x_p y_k y_s y_q y_a y_p)), [], [Any, Any]⟩
  | _, _ => none
def c_rsame (F : Qs) : Con := fun xs h => match xs, h with
  | [.agg [.val (.int .i64 x_k), .val (.int .i64 x_s), .val (.int .i64 x_q), .val (.int .i64 x_a), .sl none (.ints .u8 x_p)], .agg [.val (.int .i64 y_k), .val (.int .i64 y_s), .val (.int .i64 y_q), .val (.int .i64 y_a), .sl none (.ints .u8 y_p)]], [] => some ⟨F.q_by x_p y_p = true, .sa (B (F.q_sm x_k x_s x_q x_a x_p y_k y_s y_q y_a y_p)), [], [Any, Any]⟩
  | _, _ => none
end Go.Proofs.Ytphbfoafgfnmmaa.FrQ
namespace Go.Proofs.Ytphbfoafgfnmmaa.CrcW
open Go Go.Proofs.Ytphbfoafgfnmmaa.Ry Go.Proofs.Ytphbfoafgfnmmaa.CrcS Go.Proofs.Ytphbfoafgfnmmaa.CrcR Go.Proofs.Ytphbfoafgfnmmaa.CrcT Go.Proofs.Ytphbfoafgfnmmaa.CrcV Go.Proofs.Ytphbfoafgfnmmaa.CrcB

def it (r : BitVec 32) (f : Nat → Bool) : Nat → BitVec 32
  | 0 => r
  | n + 1 => sv (it r f n) (f n)
def bitAt (l : List Int) (k : Nat) : Bool := bt (l.getD (k / 8) 0) (k % 8)
theorem sl_it (v : BitVec 32) (l : List Int) : ∀ i, i ≤ 8 * l.length → it v (bitAt l) i = sn (sl v (l.take (i / 8))) (l.getD (i / 8) 0) (i % 8)
  | 0, _ => by simp [it, sl, sn]
  | i + 1, h => by
    have ih := sl_it v l i (by omega)
    have hi : i / 8 < l.length := by omega
    show sv (it v (bitAt l) i) (bitAt l i) = _
    rw [ih]
    unfold bitAt
    by_cases h7 : i % 8 = 7
    · have e1 : (i + 1) / 8 = i / 8 + 1 := by omega
      have e2 : (i + 1) % 8 = 0 := by omega
      rw [e1, e2, List.take_add_one, h7]
      unfold sl
      rw [List.foldl_append]
      simp [hi, sn, s8]
    · have e1 : (i + 1) / 8 = i / 8 := by omega
      have e2 : (i + 1) % 8 = i % 8 + 1 := by omega
      rw [e1, e2]
      rfl
theorem sl_end (v : BitVec 32) (l : List Int) : sl v l = it v (bitAt l) (8 * l.length) := by
  rw [sl_it v l _ (Nat.le_refl _)]
  have e1 : 8 * l.length / 8 = l.length := by omega
  have e2 : 8 * l.length % 8 = 0 := by omega
  rw [e1, e2]
  simp [sn]
theorem it_lin (u v : BitVec 32) (f g : Nat → Bool) : ∀ n, it (u ^^^ v) (fun i => f i != g i) n = it u f n ^^^ it v g n
  | 0 => rfl
  | n + 1 => by
    show sv (it (u ^^^ v) (fun i => f i != g i) n) (f n != g n) = sv (it u f n) (f n) ^^^ sv (it v g n) (g n)
    rw [it_lin u v f g n, sv_lin]
theorem it_congr {r : BitVec 32} {f g : Nat → Bool} : ∀ {n}, (∀ i, i < n → f i = g i) → it r f n = it r g n
  | 0, _ => rfl
  | n + 1, h => by
    show sv (it r f n) (f n) = sv (it r g n) (g n)
    rw [it_congr fun i hi => h i (by omega), h n (by omega)]
theorem sv_zero : sv 0 false = 0 := by decide
theorem sv_low (v : BitVec 32) (b : Bool) : (sv v b).getLsbD 0 = (v.msb != b) := by
  unfold sv
  have hp : poly.getLsbD 0 = true := by decide
  cases h : (v.msb != b)
  · simp
  · simp [hp]
theorem back {v : BitVec 32} {b : Bool} {j : Nat} (hj : j ≤ 31) (h : sv v b <<< j = 0) : v.msb = b ∧ sv v b = v <<< 1 ∧ v <<< (j + 1) = 0 := by
  have h0 : (sv v b).getLsbD 0 = false := by
    have e : (sv v b <<< j).getLsbD j = false := by rw [h]; simp
    rw [BitVec.getLsbD_shiftLeft] at e
    have hj2 : j < 32 := by omega
    simpa [hj2] using e
  rw [sv_low] at h0
  have hm : v.msb = b := by
    cases hv : v.msb <;> cases b <;> simp_all
  have e1 : sv v b = v <<< 1 := by
    unfold sv
    rw [h0]
    rfl
  refine ⟨hm, e1, ?_⟩
  rw [e1, ← BitVec.shiftLeft_add] at h
  rwa [Nat.add_comm] at h
theorem no_bits {v : BitVec 32} (hm : v.msb = false) (h : v <<< 1 = 0) : v = 0 := by
  apply BitVec.eq_of_getLsbD_eq
  intro i hi
  by_cases h31 : i = 31
  · subst h31
    rw [BitVec.msb_eq_getLsbD_last] at hm
    simpa using hm
  · have e : (v <<< 1).getLsbD (i + 1) = false := by rw [h]; simp
    rw [BitVec.getLsbD_shiftLeft] at e
    have h2 : i + 1 < 32 := by omega
    simpa [h2] using e
theorem tail_zero {f : Nat → Bool} {N M : Nat} (h0 : it 0 f N = 0) (hM : M ≤ N) (hf : ∀ i, M ≤ i → i < N → f i = false) : it 0 f M = 0 := by
  have key : ∀ d, d ≤ N - M → it 0 f (N - d) = 0 := by
    intro d
    induction d with
    | zero => intro _; exact h0
    | succ d ih =>
      intro hd
      have h1 := ih (by omega)
      have e : N - d = (N - (d + 1)) + 1 := by omega
      rw [e] at h1
      have h2 : sv (it 0 f (N - (d + 1))) (f (N - (d + 1))) = 0 := h1
      rw [hf _ (by omega) (by omega)] at h2
      obtain ⟨k1, k2, k3⟩ := back (j := 0) (by omega) (show sv (it 0 f (N - (d + 1))) false <<< 0 = 0 by rw [h2]; rfl)
      exact no_bits k1 k3
  have := key (N - M) (Nat.le_refl _)
  rwa [show N - (N - M) = M by omega] at this
theorem back_all {f : Nat → Bool} {M : Nat} (h0 : it 0 f M = 0) : ∀ j, j ≤ 32 → j ≤ M → it 0 f (M - j) <<< j = 0 ∧ ∀ n, M - j ≤ n → n < M → f n = (it 0 f n).msb ∧ it 0 f (n + 1) = it 0 f n <<< 1
  | 0, _, _ => ⟨by rw [Nat.sub_zero, h0]; rfl, fun n h1 h2 => by omega⟩
  | j + 1, h32, hM => by
    obtain ⟨k1, k2⟩ := back_all h0 j (by omega) (by omega)
    have e : M - j = (M - (j + 1)) + 1 := by omega
    rw [e] at k1
    have k1 : sv (it 0 f (M - (j + 1))) (f (M - (j + 1))) <<< j = 0 := k1
    obtain ⟨q1, q2, q3⟩ := back (by omega) k1
    refine ⟨q3, fun n h1 h2 => ?_⟩
    by_cases hn : n = M - (j + 1)
    · subst hn
      exact ⟨q1.symm, q2⟩
    · exact k2 n (by omega) h2
/-- Bits that are not all off, all within 32 in a row, leave no empty register. -/
theorem window {f : Nat → Bool} {a N : Nat} (h0 : it 0 f N = 0) (hout : ∀ i, i < N → ¬ (a ≤ i ∧ i < a + 32) → f i = false) : ∀ i, i < N → f i = false := by
  have hM := tail_zero (M := min N (a + 32)) h0 (by omega) (fun i h1 h2 => hout i h2 (by omega))
  generalize hMd : min N (a + 32) = M at hM
  obtain ⟨_, hb⟩ := back_all hM (min 32 M) (by omega) (by omega)
  have fwd : ∀ n, n ≤ M → it 0 f n = 0 := by
    intro n
    induction n with
    | zero => intro _; rfl
    | succ n ih =>
      intro hn
      have e := ih (by omega)
      by_cases ha : n < a
      · show sv (it 0 f n) (f n) = 0
        rw [e, hout n (by omega) (by omega)]
        exact sv_zero
      · have := (hb n (by omega) (by omega)).2
        rw [this, e]
        rfl
  intro i hi
  by_cases hw : a ≤ i ∧ i < a + 32
  · have h1 := (hb i (by omega) (by omega)).1
    rw [h1, fwd i (by omega)]
    rfl
  · exact hout i hi hw
theorem it_own (V : BitVec 32) : ∀ k, k ≤ 32 → it V (fun i => !(V.getMsbD i)) k = (V <<< k) ^^^ it 0 (fun _ => true) k
  | 0, _ => by simp [it]
  | k + 1, h => by
    show sv (it V (fun i => !(V.getMsbD i)) k) (!(V.getMsbD k)) = _ ^^^ sv (it 0 (fun _ => true) k) true
    rw [it_own V k (by omega)]
    have e : (!(V.getMsbD k)) = (V.getMsbD k != true) := by cases V.getMsbD k <;> rfl
    rw [e, sv_lin]
    congr 1
    have hm : (V <<< k).msb = V.getMsbD k := by
      rw [BitVec.msb_shiftLeft]
    unfold sv
    rw [hm]
    have : (V.getMsbD k != V.getMsbD k) = false := by cases V.getMsbD k <;> rfl
    rw [this, ← BitVec.shiftLeft_add]
    rfl
theorem bit4 (N : BitVec 32) (k : Nat) (hk : k < 32) : bitAt [((N.toNat / 16777216 : Nat) : Int), ((N.toNat / 65536 % 256 : Nat) : Int), ((N.toNat / 256 % 256 : Nat) : Int), ((N.toNat % 256 : Nat) : Int)] k = N.getMsbD k := by
  have hn := N.isLt
  rw [BitVec.getMsbD, BitVec.getLsbD, Nat.testBit_eq_decide_div_mod_eq]
  generalize N.toNat = n at hn
  have : k = 0 ∨ k = 1 ∨ k = 2 ∨ k = 3 ∨ k = 4 ∨ k = 5 ∨ k = 6 ∨ k = 7 ∨ k = 8 ∨ k = 9 ∨ k = 10 ∨ k = 11 ∨ k = 12 ∨ k = 13 ∨ k = 14 ∨ k = 15 ∨ k = 16 ∨ k = 17 ∨ k = 18 ∨ k = 19 ∨ k = 20 ∨ k = 21 ∨ k = 22 ∨ k = 23 ∨ k = 24 ∨ k = 25 ∨ k = 26 ∨ k = 27 ∨ k = 28 ∨ k = 29 ∨ k = 30 ∨ k = 31 := by omega
  rcases this with rfl | rfl | rfl | rfl | rfl | rfl | rfl | rfl | rfl | rfl | rfl | rfl | rfl | rfl | rfl | rfl | rfl | rfl | rfl | rfl | rfl | rfl | rfl | rfl | rfl | rfl | rfl | rfl | rfl | rfl | rfl | rfl <;> (simp [bitAt, bt]; rw [Bool.eq_iff_iff]; simp only [beq_iff_eq, decide_eq_true_eq]; omega)
/-- What the register is behind sealed bytes. -/
theorem residue (l : List Int) : sl (~~~ 0) (l ++ sum4 l) = it 0 (fun _ => true) 32 := by
  have e0 : sl (~~~ 0) (l ++ sum4 l) = sl (sl (~~~ 0) l) (sum4 l) := by
    unfold sl
    rw [List.foldl_append]
  rw [e0, sl_end]
  have h4 : 8 * (sum4 l).length = 32 := rfl
  rw [h4]
  obtain ⟨n, hn, e1, e2⟩ := sum4_nat l
  have hV : n = (~~~ (sl (~~~ 0) l)).toNat := by
    have : ((moreV 0 l).toNat : Int) = (n : Int) := e1
    unfold moreV at this
    exact_mod_cast this.symm
  rw [e2, hV]
  generalize sl (~~~ 0) l = V
  rw [it_congr (g := fun i => !(V.getMsbD i)) fun i hi => by
    rw [bit4 _ i hi]
    rw [BitVec.getMsbD_not]
    simp [hi]]
  rw [it_own V 32 (Nat.le_refl _)]
  have : V <<< 32 = 0 := by
    apply BitVec.eq_of_getLsbD_eq
    intro i hi
    rw [BitVec.getLsbD_shiftLeft]
    simp [hi]
  rw [this]
  simp
theorem byte_eq {x y : Int} (hx : 0 ≤ x ∧ x ≤ 255) (hy : 0 ≤ y ∧ y ≤ 255) (h : ∀ j, j < 8 → bt x j = bt y j) : x = y := by
  have e0 : x / 128 % 2 = y / 128 % 2 := by
    have h0 := Bool.eq_iff_iff.1 (h 0 (by decide))
    simp only [bt, beq_iff_eq] at h0
    have p : (2 : Int) ^ (7 - 0) = 128 := by decide
    rw [p] at h0
    clear h hx hy
    omega
  have e1 : x / 64 % 2 = y / 64 % 2 := by
    have h1 := Bool.eq_iff_iff.1 (h 1 (by decide))
    simp only [bt, beq_iff_eq] at h1
    have p : (2 : Int) ^ (7 - 1) = 64 := by decide
    rw [p] at h1
    clear h hx hy
    omega
  have e2 : x / 32 % 2 = y / 32 % 2 := by
    have h2 := Bool.eq_iff_iff.1 (h 2 (by decide))
    simp only [bt, beq_iff_eq] at h2
    have p : (2 : Int) ^ (7 - 2) = 32 := by decide
    rw [p] at h2
    clear h hx hy
    omega
  have e3 : x / 16 % 2 = y / 16 % 2 := by
    have h3 := Bool.eq_iff_iff.1 (h 3 (by decide))
    simp only [bt, beq_iff_eq] at h3
    have p : (2 : Int) ^ (7 - 3) = 16 := by decide
    rw [p] at h3
    clear h hx hy
    omega
  have e4 : x / 8 % 2 = y / 8 % 2 := by
    have h4 := Bool.eq_iff_iff.1 (h 4 (by decide))
    simp only [bt, beq_iff_eq] at h4
    have p : (2 : Int) ^ (7 - 4) = 8 := by decide
    rw [p] at h4
    clear h hx hy
    omega
  have e5 : x / 4 % 2 = y / 4 % 2 := by
    have h5 := Bool.eq_iff_iff.1 (h 5 (by decide))
    simp only [bt, beq_iff_eq] at h5
    have p : (2 : Int) ^ (7 - 5) = 4 := by decide
    rw [p] at h5
    clear h hx hy
    omega
  have e6 : x / 2 % 2 = y / 2 % 2 := by
    have h6 := Bool.eq_iff_iff.1 (h 6 (by decide))
    simp only [bt, beq_iff_eq] at h6
    have p : (2 : Int) ^ (7 - 6) = 2 := by decide
    rw [p] at h6
    clear h hx hy
    omega
  have e7 : x / 1 % 2 = y / 1 % 2 := by
    have h7 := Bool.eq_iff_iff.1 (h 7 (by decide))
    simp only [bt, beq_iff_eq] at h7
    have p : (2 : Int) ^ (7 - 7) = 1 := by decide
    rw [p] at h7
    clear h hx hy
    omega
  clear h
  have f1 : x / 128 = y / 128 := by omega
  have f2 : x / 64 = y / 64 := by omega
  have f3 : x / 32 = y / 32 := by omega
  have f4 : x / 16 = y / 16 := by omega
  have f5 : x / 8 = y / 8 := by omega
  have f6 : x / 4 = y / 4 := by omega
  have f7 : x / 2 = y / 2 := by omega
  omega
theorem sealed_is {t : List Int} (ht : ∀ x ∈ t, 0 ≤ x ∧ x ≤ 255) (h4 : ¬ t.length < 4) (h : errI t = 0) : ∃ m, t = m ++ sum4 m := by
  unfold errI at h
  rw [if_neg h4] at h
  split at h
  · rename_i hs
    refine ⟨t.take (t.length - 4), ?_⟩
    have hd : (t.drop (t.length - 4)).length = 4 := by rw [List.length_drop]; omega
    have hm : ∀ x ∈ t.drop (t.length - 4), 0 ≤ x ∧ x ≤ 255 := fun x hx => ht x (List.mem_of_mem_drop hx)
    obtain ⟨a, b, c, d, hx⟩ := four hd
    rw [hx] at hm hs
    have := (sum4_iff (t.take (t.length - 4)) a b c d (hm a (by simp)) (hm b (by simp)) (hm c (by simp)) (hm d (by simp))).2 hs
    rw [this, ← hx, List.take_append_drop]
  · exact absurd h (by decide)
theorem found {s t : List Int} (hl : t.length = s.length) (hs : ∀ x ∈ s, 0 ≤ x ∧ x ≤ 255) (ht : ∀ x ∈ t, 0 ≤ x ∧ x ≤ 255) {m m' : List Int} (es : s = m ++ sum4 m) (et : t = m' ++ sum4 m') {a : Nat}
    (hb : ∀ k, k < 8 * s.length → ¬ (a ≤ k ∧ k < a + 32) → bitAt t k = bitAt s k) : t = s := by
  have r1 := residue m
  have r2 := residue m'
  rw [← es, sl_end] at r1
  rw [← et, sl_end, hl] at r2
  have hz := it_lin (~~~ 0) (~~~ 0) (bitAt t) (bitAt s) (8 * s.length)
  rw [r1, r2] at hz
  have e1 : (~~~ (0 : BitVec 32)) ^^^ ~~~ 0 = 0 := by decide
  rw [e1, BitVec.xor_self] at hz
  have hw := window hz (a := a) (fun i hi ho => by rw [hb i hi ho]; cases bitAt s i <;> rfl)
  apply List.ext_getElem hl
  intro i h1 h2
  refine byte_eq (ht _ (List.getElem_mem h1)) (hs _ (List.getElem_mem h2)) fun j hj => ?_
  have hk := hw (8 * i + j) (by omega)
  have e2 : (8 * i + j) / 8 = i := by omega
  have e3 : (8 * i + j) % 8 = j := by omega
  unfold bitAt at hk
  rw [e2, e3, List.getD_eq_getElem?_getD, List.getD_eq_getElem?_getD, List.getElem?_eq_getElem h1, List.getElem?_eq_getElem h2] at hk
  simp only [Option.getD_some] at hk
  cases hx : bt t[i] j <;> cases hy : bt s[i] j <;> simp_all
theorem one8_off : ∀ r : Fin 8, ∀ j : Fin 8, j ≠ r → (BitVec.ofInt 8 (stdBin .shl .u8 1 (IntKind.u64.wrap (stdBin .sub .i64 7 (r.val : Int))))).getLsbD (7 - j.val) = false := by decide +kernel
theorem one8_bit (x k : Int) (h0 : 0 ≤ k) (j : Nat) (hj : j < 8) (hne : (j : Int) ≠ k % 8) : bt (stdBin .xor .u8 x (one8 k)) j = bt x j := by
  have e1 : stdBin .rem .i64 k 8 = k % 8 := by rw [b_rem, Int.tmod_eq_emod_of_nonneg h0]
  unfold one8
  rw [e1, xor8, bt_bv _ j hj, bt_bv x j hj, of8, BitVec.getLsbD_xor]
  obtain ⟨r, hr⟩ := Int.eq_ofNat_of_zero_le (Int.emod_nonneg k (show (8 : Int) ≠ 0 by decide))
  rw [hr]
  have h8 : r < 8 := by
    have := Int.emod_lt_of_pos k (show (0 : Int) < 8 by decide)
    omega
  have := one8_off ⟨r, h8⟩ ⟨j, hj⟩ (by
    intro e
    have := congrArg Fin.val e
    simp at this
    omega)
  simp only at this
  rw [this]
  simp
theorem bu_bits (l : List Int) (a p : Int) (h0 : 0 ≤ a) : ∀ i k : Nat, ¬ (a ≤ k ∧ (k : Int) < a + i) → bitAt (buN l a p i) k = bitAt l k
  | 0, _, _ => rfl
  | i + 1, k, hk => by
    have ih := bu_bits l a p h0 i k (by omega)
    unfold buN
    split
    · rename_i hc
      have hlen := bu_len l a p i
      unfold bitAt at ih ⊢
      by_cases hq : ((a + i) / 8).toNat = k / 8
      · have hlt : k / 8 < (buN l a p i).length := by omega
        have e : ((buN l a p i).set ((a + i) / 8).toNat (stdBin .xor .u8 ((buN l a p i).getD ((a + i) / 8).toNat 0) (one8 (a + i)))).getD (k / 8) 0 = stdBin .xor .u8 ((buN l a p i).getD (k / 8) 0) (one8 (a + i)) := by
          rw [hq, List.getD_eq_getElem?_getD, List.getElem?_set_self hlt]
          rfl
        rw [e, one8_bit _ _ (by omega) _ (by omega) (by omega)]
        exact ih
      · have e : ((buN l a p i).set ((a + i) / 8).toNat (stdBin .xor .u8 ((buN l a p i).getD ((a + i) / 8).toNat 0) (one8 (a + i)))).getD (k / 8) 0 = (buN l a p i).getD (k / 8) 0 := by
          rw [List.getD_eq_getElem?_getD, List.getElem?_set_ne hq, ← List.getD_eq_getElem?_getD]
        rw [e]
        exact ih
    · exact ih
theorem bu_byte (l : List Int) (a p : Int) (hl : ∀ x ∈ l, 0 ≤ x ∧ x ≤ 255) : ∀ i, ∀ x ∈ buN l a p i, 0 ≤ x ∧ x ≤ 255
  | 0 => hl
  | i + 1 => by
    have ih := bu_byte l a p hl i
    unfold buN
    split
    · intro x hx
      rcases List.mem_or_eq_of_mem_set hx with h | rfl
      · exact ih x h
      · rw [xor8]
        have := (BitVec.ofInt 8 ((buN l a p i).getD ((a + i) / 8).toNat 0) ^^^ BitVec.ofInt 8 (one8 (a + i))).isLt
        omega
    · exact ih
theorem seal_byte (l : List Int) (hl : ∀ x ∈ l, 0 ≤ x ∧ x ≤ 255) : ∀ x ∈ sealI l, 0 ≤ x ∧ x ≤ 255 := by
  intro x hx
  unfold sealI at hx
  rcases List.mem_append.1 hx with h | h
  · exact hl x h
  · exact sum4_byte l x h
/-- A burst in sealed bytes is nothing, or is found. -/
theorem bursts (l : List Int) (a p : Int) (h0 : 0 ≤ a) (hl : ∀ x ∈ l, 0 ≤ x ∧ x ≤ 255) : buL (sealI l) a p = sealI l ∨ errI (buL (sealI l) a p) = 6 := by
  have hlen := bu_len (sealI l) a p 32
  have hsl := seal_len l
  have h4 : ¬ (buN (sealI l) a p 32).length < 4 := by omega
  have hsb := seal_byte l hl
  have hb := bu_byte (sealI l) a p hsb 32
  unfold buL
  by_cases he : errI (buN (sealI l) a p 32) = 0
  · left
    obtain ⟨m', et⟩ := sealed_is hb h4 he
    refine found hlen hsb hb (m := l) rfl et (a := a.toNat) fun k _ hk => bu_bits (sealI l) a p h0 32 k (by omega)
  · right
    unfold errI at he ⊢
    rw [if_neg h4] at he ⊢
    split
    · rename_i h
      rw [if_pos h] at he
      exact absurd rfl he
    · rfl
end Go.Proofs.Ytphbfoafgfnmmaa.CrcW
namespace Go.Proofs.Ytphbfoafgfnmmaa.FrS
open Go Go.Proofs.Ytphbfoafgfnmmaa.Ry Go.Proofs.Ytphbfoafgfnmmaa.OctR Go.Proofs.Ytphbfoafgfnmmaa.OctP Go.Proofs.Ytphbfoafgfnmmaa.OctQ Go.Proofs.Ytphbfoafgfnmmaa.FrR Go.Proofs.Ytphbfoafgfnmmaa.FrQ

theorem okR_by' {r : List Int} (h : okR r = true) : byB r = true := by
  simp only [okR, Bool.and_eq_true] at h
  exact h.1
theorem num_back {l : List Int} {w : Int} (hw : w = 1 ∨ w = 2 ∨ w = 4) (hl : (l.length : Int) = w) (hb : ∀ x ∈ l, 0 ≤ x ∧ x ≤ 255) : numL (numI l) w = l := by
  rcases hw with rfl | rfl | rfl
  · match l, hl with
    | [x], _ =>
      have h0 := hb x (by simp)
      have e : numI [x] = x := by
        simp only [numI, List.foldl_cons, List.foldl_nil]
        rw [num_one 0 _ (by omega) (by omega) h0]
        omega
      rw [e, num_1 x h0.1]
      simp only [List.cons.injEq, and_true]
      omega
  · match l, hl with
    | [x, y], _ =>
      have h0 := hb x (by simp)
      have h1 := hb y (by simp)
      have e : numI [x, y] = x * 256 + y := by
        simp only [numI, List.foldl_cons, List.foldl_nil]
        rw [num_one 0 _ (by omega) (by omega) h0, num_one (0 * 256 + _) _ (by omega) (by omega) h1]
        omega
      rw [e, num_2 _ (by omega)]
      simp only [List.cons.injEq, and_true]
      omega
  · match l, hl with
    | [x, y, z, t], _ =>
      have h0 := hb x (by simp)
      have h1 := hb y (by simp)
      have h2 := hb z (by simp)
      have h3 := hb t (by simp)
      have e : numI [x, y, z, t] = ((x * 256 + y) * 256 + z) * 256 + t := by
        simp only [numI, List.foldl_cons, List.foldl_nil]
        rw [num_one 0 _ (by omega) (by omega) h0, num_one (0 * 256 + _) _ (by omega) (by omega) h1, num_one ((0 * 256 + _) * 256 + _) _ (by omega) (by omega) h2, num_one (((0 * 256 + _) * 256 + _) * 256 + _) _ (by omega) (by omega) h3]
        omega
      rw [e, num_4 _ (by omega)]
      simp only [List.cons.injEq, and_true]
      omega
theorem tk_e {r : List Int} {e w : Int} (h : tkE r e w = 0) : e = 0 := by
  unfold tkE at h
  by_cases he : e = 0
  · exact he
  · rw [if_neg he] at h
    exact absurd h he
/-- A step of reading that went well. -/
theorem tk_back {r : List Int} {e w : Int} (hw : w = 1 ∨ w = 2 ∨ w = 4) (hb : ∀ x ∈ r, 0 ≤ x ∧ x ≤ 255) (h : tkE r e w = 0) :
    r = numL (tkN r e w) w ++ tkR r e w ∧ (∀ x ∈ tkR r e w, 0 ≤ x ∧ x ≤ 255) ∧ r.length = w.toNat + (tkR r e w).length := by
  have hW : isW w = true := decide_eq_true (by omega)
  unfold tkE at h
  by_cases he : e = 0
  · subst he
    rw [if_pos rfl, if_pos hW] at h
    by_cases hB : tkBad r w = true
    · rw [if_pos hB] at h
      exact absurd h (by decide)
    · have hB : tkBad r w = false := by simpa using hB
      have h1 : tkN r 0 w = numI (r.take w.toNat) := by
        unfold tkN
        rw [if_pos ⟨rfl, hW, hB⟩]
      have h2 : tkR r 0 w = r.drop w.toNat := by
        unfold tkR
        rw [if_pos ⟨rfl, hW, hB⟩]
      have h3 := of_decide_eq_false hB
      have hl : ((r.take w.toNat).length : Int) = w := by
        rw [List.length_take]
        omega
      have hb1 : ∀ x ∈ r.take w.toNat, 0 ≤ x ∧ x ≤ 255 := fun x hx => hb x (List.mem_of_mem_take hx)
      refine ⟨?_, ?_, ?_⟩
      · rw [h1, h2, num_back hw hl hb1, List.take_append_drop]
      · rw [h2]
        exact fun x hx => hb x (List.mem_of_mem_drop hx)
      · rw [h2, List.length_drop]
        omega
  · rw [if_neg he] at h
    exact absurd h he
def head (k s q a : Int) (n : Nat) (r : List Int) : List Int := numL n 2 ++ (numL k 1 ++ (numL s 4 ++ (numL q 4 ++ (numL a 4 ++ r))))
theorem body_head (k s q a : Int) (p : List Int) : bodyF k s q a p = head k s q a p.length [] ++ p := by simp [bodyF, head]
theorem body_head2 (k s q a : Int) (p : List Int) : bodyF k s q a p = head k s q a p.length p := by simp [bodyF, head]
theorem head_len (k s q a : Int) (n : Nat) (r : List Int) : (head k s q a n r).length = 15 + r.length := by
  have t1 : (1 : Int).toNat = 1 := rfl
  have t2 : (2 : Int).toNat = 2 := rfl
  have t4 : (4 : Int).toNat = 4 := rfl
  simp only [head, List.length_append, num_len, t1, t2, t4]
  omega
/-- What is read ahead of anything. -/
theorem chain {k s q a : Int} {p : List Int} (h : mayF k s q a p = true) (hp : byB p = true) (r : List Int) :
    tkN (head k s q a p.length r) 0 2 = p.length ∧ tkE (head k s q a p.length r) 0 2 = 0 ∧ tkR (head k s q a p.length r) 0 2 = numL k 1 ++ (numL s 4 ++ (numL q 4 ++ (numL a 4 ++ r))) :=
  take_num (body_ok h hp).2.2.2.2.2.1 _
theorem rd_body {k s q a : Int} {p : List Int} (h : mayF k s q a p = true) (hp : byB p = true) : rdF (bodyF k s q a p) = ⟨k, s, q, a, p, 0⟩ := by
  have hb := body_ok h hp
  have ht : (bodyF k s q a p).take 15 = head k s q a p.length [] := by
    rw [body_head, List.take_left' (by rw [head_len]; rfl)]
  have hd : (bodyF k s q a p).drop 15 = p := by
    rw [body_head, List.drop_left' (by rw [head_len]; rfl)]
  obtain ⟨c1, c2, c3⟩ := chain h hp []
  obtain ⟨k1, k2, k3⟩ := take_num hb.2.1 (numL s 4 ++ (numL q 4 ++ (numL a 4 ++ [])))
  obtain ⟨s1, s2, s3⟩ := take_num hb.2.2.1 (numL q 4 ++ (numL a 4 ++ []))
  obtain ⟨q1, q2, q3⟩ := take_num hb.2.2.2.1 (numL a 4 ++ [])
  obtain ⟨a1, a2, a3⟩ := take_num hb.2.2.2.2.1 []
  unfold rdF
  simp only [ht, hd, c1, c2, c3, k1, k2, k3, s1, s2, s3, q1, q2, q3, a1, a2, h, and_self, if_true]
theorem rr_body {k s q a : Int} {p : List Int} (h : mayF k s q a p = true) (hp : byB p = true) : rrF (CrcR.sealI (bodyF k s q a p)) (bodyF k s q a p) = ⟨k, s, q, a, p, 0⟩ := by
  have hb := body_ok h hp
  obtain ⟨c1, c2, c3⟩ := chain h hp p
  obtain ⟨k1, k2, k3⟩ := take_num hb.2.1 (numL s 4 ++ (numL q 4 ++ (numL a 4 ++ p)))
  obtain ⟨s1, s2, s3⟩ := take_num hb.2.2.1 (numL q 4 ++ (numL a 4 ++ p))
  obtain ⟨q1, q2, q3⟩ := take_num hb.2.2.2.1 (numL a 4 ++ p)
  obtain ⟨a1, a2, a3⟩ := take_num hb.2.2.2.2.1 p
  have e := body_head2 k s q a p
  rw [← e] at c2 c3
  unfold rrF
  simp only [c2, c3, k1, k2, k3, s1, s2, s3, q1, q2, q3, a1, a2, a3, h, and_self, if_true]
/-- What is read has been written so. -/
theorem rd_back {c : List Int} (hb : ∀ x ∈ c, 0 ≤ x ∧ x ≤ 255) (h15 : 15 ≤ c.length) : rdF c = zF 5 ∨ ∃ k s q a p, mayF k s q a p = true ∧ (∀ x ∈ p, 0 ≤ x ∧ x ≤ 255) ∧ c = bodyF k s q a p := by
  unfold rdF
  simp only
  split
  · rename_i hc
    obtain ⟨h5, hn, hm⟩ := hc
    have b0 : ∀ x ∈ c.take 15, 0 ≤ x ∧ x ≤ 255 := fun x hx => hb x (List.mem_of_mem_take hx)
    have l0 : (c.take 15).length = 15 := by rw [List.length_take]; omega
    have ed := List.take_append_drop 15 c
    generalize c.take 15 = r0 at *
    generalize c.drop 15 = p at *
    have E4 := tk_e h5
    have E3 := tk_e E4
    have E2 := tk_e E3
    have E1 := tk_e E2
    obtain ⟨x1, b1, n1⟩ := tk_back (.inr (.inl rfl)) b0 E1
    obtain ⟨x2, b2, n2⟩ := tk_back (.inl rfl) b1 E2
    obtain ⟨x3, b3, n3⟩ := tk_back (.inr (.inr rfl)) b2 E3
    obtain ⟨x4, b4, n4⟩ := tk_back (.inr (.inr rfl)) b3 E4
    obtain ⟨x5, b5, n5⟩ := tk_back (.inr (.inr rfl)) b4 h5
    refine .inr ⟨_, _, _, _, p, hm, fun x hx => hb x (by rw [← ed]; exact List.mem_append_right _ hx), ?_⟩
    rw [body_head, ← ed]
    congr 1
    have t1 : (1 : Int).toNat = 1 := rfl
    have t2 : (2 : Int).toNat = 2 := rfl
    have t4 : (4 : Int).toNat = 4 := rfl
    rw [t2] at n1
    rw [t1] at n2
    rw [t4] at n3 n4 n5
    rw [show tkR (tkR (tkR (tkR (tkR r0 0 2) (tkE r0 0 2) 1) (tkE (tkR r0 0 2) (tkE r0 0 2) 1) 4) (tkE (tkR (tkR r0 0 2) (tkE r0 0 2) 1) (tkE (tkR r0 0 2) (tkE r0 0 2) 1) 4) 4) (tkE (tkR (tkR (tkR r0 0 2) (tkE r0 0 2) 1) (tkE (tkR r0 0 2) (tkE r0 0 2) 1) 4) (tkE (tkR (tkR r0 0 2) (tkE r0 0 2) 1) (tkE (tkR r0 0 2) (tkE r0 0 2) 1) 4) 4) 4 = [] from List.eq_nil_of_length_eq_zero (by omega)] at x5
    unfold head
    rw [← x5, ← x4, ← x3, ← x2, ← hn, ← x1]
  · exact .inl rfl
theorem seal_inj {l m : List Int} (h : CrcR.sealI l = CrcR.sealI m) : l = m := by
  have hl := CrcT.open_seal l
  rw [h, (CrcT.open_seal m).1] at hl
  exact hl.1.symm
theorem rr_is {c : List Int} (hb : ∀ x ∈ c, 0 ≤ x ∧ x ≤ 255) (h15 : 15 ≤ c.length) : rrF (CrcR.sealI c) c = rdF c := by
  by_cases h : ∃ k s q a p, mayF k s q a p = true ∧ (∀ x ∈ p, 0 ≤ x ∧ x ≤ 255) ∧ c = bodyF k s q a p
  · obtain ⟨k, s, q, a, p, hm, hp, rfl⟩ := h
    rw [rr_body hm (decide_eq_true hp), rd_body hm (decide_eq_true hp)]
  · rw [(rd_back hb h15).resolve_right h]
    unfold rrF
    simp only
    split
    · rename_i hc
      obtain ⟨h5, hm, he⟩ := hc
      exfalso
      refine h ⟨_, _, _, _, _, hm, ?_, ?_⟩
      · have hB : byB c = true := decide_eq_true hb
        exact of_decide_eq_true (by_tk _ _ _ (by_tk _ _ _ (by_tk _ _ _ (by_tk _ _ _ (by_tk _ _ _ hB)))))
      · have hB : byB c = true := decide_eq_true hb
        have hp := by_tk _ (tkE (tkR (tkR (tkR c 0 2) (tkE c 0 2) 1) (tkE (tkR c 0 2) (tkE c 0 2) 1) 4) (tkE (tkR (tkR c 0 2) (tkE c 0 2) 1) (tkE (tkR c 0 2) (tkE c 0 2) 1) 4) 4) 4 (by_tk _ (tkE (tkR (tkR c 0 2) (tkE c 0 2) 1) (tkE (tkR c 0 2) (tkE c 0 2) 1) 4) 4 (by_tk _ (tkE (tkR c 0 2) (tkE c 0 2) 1) 4 (by_tk _ (tkE c 0 2) 1 (by_tk _ 0 2 hB))))
        have hb2 := (body_ok hm hp).2.2.2.2.2.2.2
        have hs := CrcW.seal_byte _ (of_decide_eq_true (okR_by' hb2))
        have hs2 := CrcW.seal_byte c hb
        rw [byt_by (decide_eq_true hs), byt_by (decide_eq_true hs2)] at he
        exact (seal_inj he).symm
    · rfl
theorem dec_is {l : List Int} (hb : ∀ x ∈ l, 0 ≤ x ∧ x ≤ 255) : rdecF l = decF l := by
  unfold rdecF decF
  by_cases h1 : 16403 < l.length
  · rw [if_pos h1, if_pos h1]
  rw [if_neg h1, if_neg h1]
  by_cases h2 : l.length < 19
  · rw [if_pos h2, if_pos h2]
  rw [if_neg h2, if_neg h2]
  have h4 : ¬ l.length < 4 := by omega
  rw [CrcT.good_iff l h4 hb]
  by_cases hs : CrcS.ofI (l.take (l.length - 4)) = CrcR.lastI (l.drop (l.length - 4))
  · have he : CrcR.errI l = 0 := by
      unfold CrcR.errI
      rw [if_neg h4, if_pos hs]
    obtain ⟨m, rfl⟩ := CrcW.sealed_is hb h4 he
    have hr : CrcR.ropenI (m ++ CrcR.sum4 m) = m := by
      unfold CrcR.ropenI
      rw [if_neg h4, List.length_append, CrcT.sum4_len, Nat.add_sub_cancel, List.take_left' rfl]
    have ho := (CrcT.open_seal m).1
    have e : CrcR.sealI m = m ++ CrcR.sum4 m := rfl
    rw [e] at ho
    rw [if_pos (decide_eq_true hs), if_pos he, hr, ho, ← e]
    refine rr_is (fun x hx => hb x (List.mem_append_left _ hx)) ?_
    rw [List.length_append, CrcT.sum4_len] at h2
    omega
  · have he : CrcR.errI l = 6 := by
      unfold CrcR.errI
      rw [if_neg h4, if_neg hs]
    rw [decide_eq_false hs, he]
    rfl
theorem enc_len {k s q a : Int} {p : List Int} (h : mayF k s q a p = true) : encF k s q a p = CrcR.sealI (bodyF k s q a p) ∧ (encF k s q a p).length = 19 + p.length ∧ p.length ≤ 16384 := by
  have h5 := (put5 h).2.2.2.2.2.2
  have e : encF k s q a p = CrcR.sealI (bodyF k s q a p) := by
    unfold encF
    rw [if_pos h]
  refine ⟨e, ?_, h5.2.1⟩
  rw [e, CrcT.seal_len, h5.1]
  omega
theorem dec_enc {k s q a : Int} {p : List Int} (h : mayF k s q a p = true) (hp : ∀ x ∈ p, 0 ≤ x ∧ x ≤ 255) : decF (encF k s q a p) = ⟨k, s, q, a, p, 0⟩ := by
  obtain ⟨e, hl, h4⟩ := enc_len h
  unfold decF
  rw [if_neg (by omega), if_neg (by omega), e, if_pos (CrcT.open_seal _).2, (CrcT.open_seal _).1]
  exact rd_body h (decide_eq_true hp)
theorem enc_by {k s q a : Int} {p : List Int} (hp : ∀ x ∈ p, 0 ≤ x ∧ x ≤ 255) : ∀ x ∈ encF k s q a p, 0 ≤ x ∧ x ≤ 255 := by
  by_cases h : mayF k s q a p = true
  · rw [(enc_len h).1]
    exact CrcW.seal_byte _ (of_decide_eq_true (okR_by' (body_ok h (decide_eq_true hp)).2.2.2.2.2.2.2))
  · unfold encF
    rw [if_neg h]
    exact fun x hx => (by cases hx)
theorem dec_by {l : List Int} (hb : ∀ x ∈ l, 0 ≤ x ∧ x ≤ 255) : byB (decF l).p = true := by
  have hz : ∀ e, byB (zF e).p = true := fun e => rfl
  unfold decF
  split
  · exact hz _
  split
  · exact hz _
  split
  · unfold rdF
    simp only
    split
    · refine decide_eq_true fun x hx => hb x ?_
      have hx : x ∈ (CrcR.openI l).drop 15 := hx
      have hx := List.mem_of_mem_drop hx
      unfold CrcR.openI at hx
      split at hx
      · cases hx
      split at hx
      · exact List.mem_of_mem_take hx
      · cases hx
    · exact hz _
  · exact hz _
theorem enc_same {k s q a : Int} {p : List Int} {k' s' q' a' : Int} {p' : List Int} (h : mayF k s q a p = true) (h' : mayF k' s' q' a' p' = true) (hp : ∀ x ∈ p, 0 ≤ x ∧ x ≤ 255) (hp' : ∀ x ∈ p', 0 ≤ x ∧ x ≤ 255) :
    decide (encF k s q a p = encF k' s' q' a' p') = smF k s q a p k' s' q' a' p' := by
  unfold smF
  rw [Bool.eq_iff_iff, decide_eq_true_eq, decide_eq_true_eq]
  constructor
  · intro e
    have d := dec_enc h hp
    rw [e, dec_enc h' hp'] at d
    cases d
    exact ⟨rfl, rfl, rfl, rfl, rfl⟩
  · rintro ⟨rfl, rfl, rfl, rfl, rfl⟩
    rfl
/-- A beginning of a frame's bytes. -/
theorem cut {k s q a : Int} {p : List Int} (h : mayF k s q a p = true) (hp : ∀ x ∈ p, 0 ≤ x ∧ x ≤ 255) (n : Nat) (hn : n < (encF k s q a p).length) : decF ((encF k s q a p).take n) = zF 5 ∨ decF ((encF k s q a p).take n) = zF 6 := by
  obtain ⟨e, hl, h4⟩ := enc_len h
  have hL : ((encF k s q a p).take n).length = n := by rw [List.length_take]; omega
  have hb : ∀ x ∈ (encF k s q a p).take n, 0 ≤ x ∧ x ≤ 255 := fun x hx => enc_by hp x (List.mem_of_mem_take hx)
  unfold decF
  rw [if_neg (by omega)]
  by_cases h2 : ((encF k s q a p).take n).length < 19
  · rw [if_pos h2]
    exact .inl rfl
  rw [if_neg h2]
  by_cases he : CrcR.errI ((encF k s q a p).take n) = 0
  · rw [if_pos he]
    obtain ⟨m, hm⟩ := CrcW.sealed_is hb (by omega) he
    have ho : CrcR.openI ((encF k s q a p).take n) = m := by
      rw [hm]
      exact (CrcT.open_seal m).1
    rw [ho]
    have hml : m.length + 4 = n := by
      have := congrArg List.length hm
      rw [hL, List.length_append, CrcT.sum4_len] at this
      exact this.symm
    rcases rd_back (c := m) (fun x hx => hb x (by rw [hm]; exact List.mem_append_left _ hx)) (by omega) with g | ⟨k', s', q', a', p', g1, g2, g3⟩
    · exact .inl g
    · exfalso
      have t2 : (2 : Int).toNat = 2 := rfl
      have f1 : m.take 2 = numL p'.length 2 := by
        rw [g3, body_head2]
        unfold head
        rw [List.take_left' (by rw [num_len, t2])]
      have f2 : m.take 2 = numL p.length 2 := by
        have : m.take 2 = ((encF k s q a p).take n).take 2 := by
          rw [hm, List.take_append_of_le_length (by omega)]
        rw [this, List.take_take, Nat.min_eq_left (by omega), e]
        unfold CrcR.sealI
        rw [body_head2]
        unfold head
        rw [List.append_assoc, List.take_left' (by rw [num_len, t2])]
      have hi := num_inj (body_ok g1 (decide_eq_true g2)).2.2.2.2.2.1 (body_ok h (decide_eq_true hp)).2.2.2.2.2.1
      rw [← f1, f2, decide_eq_true rfl] at hi
      have hi := of_decide_eq_true hi.symm
      have hb' := congrArg List.length g3
      rw [body_head2, head_len] at hb'
      omega
  · rw [if_neg he]
    right
    unfold CrcR.errI at he ⊢
    rw [if_neg (by omega)] at he ⊢
    by_cases hs : CrcS.ofI (((encF k s q a p).take n).take (((encF k s q a p).take n).length - 4)) = CrcR.lastI (((encF k s q a p).take n).drop (((encF k s q a p).take n).length - 4))
    · rw [if_pos hs] at he
      exact absurd rfl he
    · rw [if_neg hs]
end Go.Proofs.Ytphbfoafgfnmmaa.FrS
