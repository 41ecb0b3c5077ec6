/-
  the answer: bits, and how far apart they are unlike. No condition.
-/
import Derived.Test.YtdfknpjlapaadaaBeT
namespace Go.Proofs.Ytdfknpjlapaadaa.BeU
open Go Go.Proofs.Ytdfknpjlapaadaa.Ry Go.Proofs.Ytdfknpjlapaadaa.OctR Go.Proofs.Ytdfknpjlapaadaa.FrR Go.Proofs.Ytdfknpjlapaadaa.FrQ Go.Proofs.Ytdfknpjlapaadaa.FrS Go.Proofs.Ytdfknpjlapaadaa.BeR Go.Proofs.Ytdfknpjlapaadaa.BeA Go.Proofs.Ytdfknpjlapaadaa.BeT

open Go.Proofs.Ytdfknpjlapaadaa.CrcS (bt)
open Go.Proofs.Ytdfknpjlapaadaa.CrcW (bitAt)
def b01 (t : Bool) : Int := if t = true then 1 else 0
def bitN (l : List Int) (n : Nat) : List Int := (List.range n).map fun k => b01 (bitAt l k)
def bitL (l : List Int) : List Int := bitN l (8 * l.length)
def shB (l : List Int) : Bool := byB l && decide (l.length ≤ 100000)
theorem bit_len (l : List Int) (n : Nat) : (bitN l n).length = n := by simp [bitN]
theorem bit_at (l : List Int) (n k : Nat) (h : k < n) : (bitN l n).getD k 0 = b01 (bitAt l k) := by
  rw [List.getD_eq_getElem?_getD, bitN, List.getElem?_map, List.getElem?_range h]
  rfl
theorem b01_inj {p q : Bool} : b01 p = b01 q ↔ p = q := by cases p <;> cases q <;> decide
theorem bit_next (l : List Int) (n : Nat) : bitN l n ++ [b01 (bitAt l n)] = bitN l (n + 1) := by
  unfold bitN
  rw [List.range_succ, List.map_append]
  rfl
theorem bit_val (x k : Int) (hx : 0 ≤ x ∧ x ≤ 255) (h0 : 0 ≤ k) (h7 : k ≤ 7) : stdBin .rem .i64 (stdBin .shr .i64 (IntKind.i64.wrap x) (IntKind.u64.wrap k)) 2 = b01 (bt x (7 - k.toNat)) := by
  have e : (7 - (7 - k.toNat)) = k.toNat := by omega
  rw [CrcS.wr64 _ h0 (by omega), wr x (by omega) (by omega)]
  unfold bt
  rw [e]
  have em : min k.toNat 64 = k.toNat := by omega
  have es : stdBin .shr .i64 x k = x / 2 ^ k.toNat := by
    show x.fdiv (2 ^ (min k.toNat 64)) = _
    rw [em, Int.fdiv_eq_ediv_of_nonneg _ (Int.pow_nonneg (by decide))]
  have hp : 0 ≤ x / 2 ^ k.toNat := Int.ediv_nonneg hx.1 (Int.pow_nonneg (by decide))
  rw [es, b_rem, Int.tmod_eq_emod_of_nonneg hp]
  unfold b01
  have hm : x / 2 ^ k.toNat % 2 = 0 ∨ x / 2 ^ k.toNat % 2 = 1 := by omega
  rcases hm with g | g <;> rw [g] <;> decide
structure XB where
  i : Int
  o : List Int
def biQ (l : List Int) (y : XB) : Prop := 0 ≤ y.i ∧ y.i ≤ l.length ∧ y.o = bitN l (8 * y.i.toNat)
noncomputable def biI (l : List Int) (y : XB) : St := stOf Try.f58.ntmps [(0, .sl none (.ints .u8 l)), (3, .sl (some (1, 3)) (.ints .i64 y.o)), (4, .val (.int .i64 y.i))] [(1, .tok)] [Any]
def biM (l : List Int) (y : XB) : Nat := l.length - y.i.toNat
def biR (st : St) : XB := ⟨slotI st 4, slotL st 3⟩
def bkQ (l : List Int) (i : Int) (y : XB) : Prop := -1 ≤ y.i ∧ y.i ≤ 7 ∧ y.o = bitN l (8 * i.toNat + (7 - y.i).toNat)
noncomputable def bkI (l : List Int) (i : Int) (y : XB) : St := stOf Try.f58.ntmps [(0, .sl none (.ints .u8 l)), (3, .sl (some (1, 3)) (.ints .i64 y.o)), (4, .val (.int .i64 i)), (5, .val (.int .i64 y.i))] [(1, .tok)] [Any]
def bkM (y : XB) : Nat := (y.i + 1).toNat
def bkR (st : St) : XB := ⟨slotI st 5, slotL st 3⟩
theorem bk_zero (l : List Int) (i : Int) (o : List Int) (ho : o = bitN l (8 * i.toNat)) : bkQ l i ⟨7, o⟩ := ⟨show (-1 : Int) ≤ 7 by decide, show (7 : Int) ≤ 7 by decide, ho⟩
theorem bk_step (l : List Int) (i : Int) (h0 : 0 ≤ i) (hi : i < l.length) (hs : shB l = true) (k : Int) (o : List Int) (hq : bkQ l i ⟨k, o⟩) (hk : 0 ≤ k) :
    o.length ≤ 1000000 ∧ bkQ l i ⟨k - 1, o ++ [stdBin .rem .i64 (stdBin .shr .i64 (IntKind.i64.wrap (l.getD i.toNat 0)) (IntKind.u64.wrap k)) 2]⟩ := by
  obtain ⟨q1, q2, q3⟩ := hq
  simp only at q1 q2 q3
  simp only [shB, Bool.and_eq_true] at hs
  have hl := of_decide_eq_true hs.2
  have hx := by_at hs.1 i.toNat
  refine ⟨by rw [q3, bit_len]; omega, by simp only; omega, by simp only; omega, ?_⟩
  simp only
  have e1 : 8 * i.toNat + (7 - (k - 1)).toNat = 8 * i.toNat + (7 - k).toNat + 1 := by omega
  have e2 : bitAt l (8 * i.toNat + (7 - k).toNat) = bt (l.getD i.toNat 0) (7 - k.toNat) := by
    unfold bitAt
    have d1 : (8 * i.toNat + (7 - k).toNat) / 8 = i.toNat := by omega
    have d2 : (8 * i.toNat + (7 - k).toNat) % 8 = 7 - k.toNat := by omega
    rw [d1, d2]
  rw [e1, ← bit_next, e2, bit_val _ k hx hk q2, ← q3]
theorem bk_end (l : List Int) (i : Int) (h0 : 0 ≤ i) (hi : i < l.length) (k : Int) (o : List Int) (hq : bkQ l i ⟨k, o⟩) (hk : ¬ 0 ≤ k) : biQ l ⟨i + 1, o⟩ := by
  obtain ⟨q1, q2, q3⟩ := hq
  simp only at q1 q2 q3
  refine ⟨by simp only; omega, by simp only; omega, ?_⟩
  simp only
  rw [q3]
  congr 1
  omega
structure XL where
  i : Int
def ulQ (a c : List Int) (y : XL) : Prop := 0 ≤ y.i ∧ y.i ≤ 8 * a.length ∧ ∀ j : Nat, (j : Int) < y.i → bitAt a j = bitAt c j
noncomputable def ulI (A : Ar) (x z : List Int) (y : XL) : St := stOf Try.f30.ntmps [(5, .sl none (.ints .i64 x)), (6, .sl none (.ints .i64 z)), (7, .val (.int .i64 y.i)), (8, .val (.int .i64 (A.lenI x)))] [] [Any, Any]
def ulM (a : List Int) (y : XL) : Nat := 8 * a.length - y.i.toNat
def ulR (st : St) : XL := ⟨slotI st 7⟩
theorem ul_step (a c : List Int) (hl : a.length = c.length) (i : Int) (hq : ulQ a c ⟨i⟩) (h : i < 8 * a.length) : (((bitL a).getD i.toNat 0 = (bitL c).getD i.toNat 0) ↔ bitAt a i.toNat = bitAt c i.toNat) ∧ (((bitL a).getD i.toNat 0 = (bitL c).getD i.toNat 0) → ulQ a c ⟨i + 1⟩) := by
  obtain ⟨q1, q2, q3⟩ := hq
  simp only at q1 q2 q3
  have e : ((bitL a).getD i.toNat 0 = (bitL c).getD i.toNat 0) ↔ bitAt a i.toNat = bitAt c i.toNat := by
    unfold bitL
    rw [bit_at _ _ _ (by omega), bit_at _ _ _ (by omega), b01_inj]
  refine ⟨e, fun g => ⟨by simp only; omega, by simp only; omega, fun j hj => ?_⟩⟩
  simp only at hj
  by_cases hji : (j : Int) < i
  · exact q3 j hji
  · have : j = i.toNat := by omega
    rw [this]
    exact e.1 g
def umQ (a c : List Int) (i : Int) (y : XL) : Prop := i ≤ y.i ∧ y.i ≤ 8 * a.length ∧ ∀ j : Nat, j < 8 * a.length → y.i ≤ (j : Int) → bitAt a j = bitAt c j
noncomputable def umI (x z : List Int) (i : Int) (y : XL) : St := stOf Try.f30.ntmps [(5, .sl none (.ints .i64 x)), (6, .sl none (.ints .i64 z)), (7, .val (.int .i64 i)), (8, .val (.int .i64 y.i))] [] [Any, Any]
def umM (i : Int) (y : XL) : Nat := (y.i - i).toNat
def umR (st : St) : XL := ⟨slotI st 8⟩
theorem um_zero (a c : List Int) (i : Int) (hq : ulQ a c ⟨i⟩) : umQ a c i ⟨(bitL a).length⟩ := by
  unfold bitL
  rw [bit_len]
  exact ⟨by have := hq.2.1; simp only at this ⊢; omega, by simp only; omega, fun j h1 h2 => by simp only at h2; omega⟩
theorem um_step (a c : List Int) (hl : a.length = c.length) (i : Int) (h0 : 0 ≤ i) (k : Int) (hq : umQ a c i ⟨k⟩) (h : k > i) : (((bitL a).getD (k - 1).toNat 0 = (bitL c).getD (k - 1).toNat 0) ↔ bitAt a (k - 1).toNat = bitAt c (k - 1).toNat) ∧ (((bitL a).getD (k - 1).toNat 0 = (bitL c).getD (k - 1).toNat 0) → umQ a c i ⟨k - 1⟩) := by
  obtain ⟨q1, q2, q3⟩ := hq
  simp only at q1 q2 q3
  have e : ((bitL a).getD (k - 1).toNat 0 = (bitL c).getD (k - 1).toNat 0) ↔ bitAt a (k - 1).toNat = bitAt c (k - 1).toNat := by
    unfold bitL
    rw [bit_at _ _ _ (by omega), bit_at _ _ _ (by omega), b01_inj]
  refine ⟨e, fun g => ⟨by simp only; omega, by simp only; omega, fun j hj hk => ?_⟩⟩
  simp only at hk
  by_cases hjk : k ≤ (j : Int)
  · exact q3 j hj hjk
  · have : j = (k - 1).toNat := by omega
    rw [this]
    exact e.1 g
theorem um_rng (a c : List Int) (hl : a.length = c.length) (i k : Int) (h0 : 0 ≤ i) (hq : umQ a c i ⟨k⟩) (h : k > i) : stdCmp .geq (k - 1) 0 = true ∧ stdCmp .lss (k - 1) ((bitL a).length : Int) = true ∧ stdCmp .lss (k - 1) ((bitL c).length : Int) = true := by
  obtain ⟨q1, q2, q3⟩ := hq
  simp only at q1 q2
  unfold bitL
  rw [bit_len, bit_len]
  simp only [stdCmp, decide_eq_true_eq]
  omega
theorem um_end (a c : List Int) (hl : a.length = c.length) (i k : Int) (hi : ulQ a c ⟨i⟩) (hq : umQ a c i ⟨k⟩) (h1 : i = 8 * a.length ∨ ¬ bitAt a i.toNat = bitAt c i.toNat) (h2 : k = i ∨ ¬ bitAt a (k - 1).toNat = bitAt c (k - 1).toNat) : k - i = unI a c := by
  obtain ⟨p1, p2, p3⟩ := hi
  obtain ⟨q1, q2, q3⟩ := hq
  simp only at p1 p2 p3 q1 q2 q3
  rcases un_is hl with ⟨u1, u2⟩ | ⟨f, t, u1, u2, u3, u4, u5, u6, u7⟩
  · rw [u1]
    rcases h1 with g | g
    · omega
    · by_cases gi : i < 8 * a.length
      · exact absurd (u2 i.toNat (by omega)) g
      · omega
  · have e1 : i = f := by
      by_cases g : i ≤ f
      · by_cases g2 : i = f
        · exact g2
        · rcases h1 with w | w
          · omega
          · exact absurd (u6 i.toNat (by omega)) w
      · exact absurd (p3 f (by omega)) u4
    have e2 : k = t + 1 := by
      by_cases g : k ≤ t
      · exact absurd (q3 t u2 g) u5
      · by_cases g2 : k = t + 1
        · exact g2
        · rcases h2 with w | w
          · omega
          · exact absurd (u7 (k - 1).toNat (by omega) (by omega)) w
    rw [u3, e1, e2]
    omega

structure Bu where
  u_bit : List Int → List Int
  u_sh : List Int → Bool
  u_un : List Int → List Int → Int
  u_sh2 : List Int → List Int → Bool
def Bu.std : Bu := ⟨bitL, shB, unI, fun a c => shB a && shB c⟩

def c_bits (F : Bu) : Con := fun xs h => match xs, h with
  | [.one (.sl none (.ints .u8 l))], [] => some ⟨F.u_sh l = true, .sa (.one (.sl none (.ints .i64 (F.u_bit l)))), [], [Any]⟩
  | _, _ => none
set_option maxHeartbeats 1000000 in
set_option maxRecDepth 100000 in
theorem x_bits (l : List Int) (hC : Bu.std.u_sh l = true) : Does [] Try.f58 [.one (.sl none (.ints .u8 l))] [] ⟨Bu.std.u_sh l = true, .sa (.one (.sl none (.ints .i64 (Bu.std.u_bit l)))), [], [Any]⟩ := by
  intro b gv
  have hs : shB l = true := hC
  have hl : l.length ≤ 100000 := by
    simp only [shB, Bool.and_eq_true] at hs
    exact of_decide_eq_true hs.2
  have hfs := FsOk.nil
  generalize hF : Bu.std = F at hC hfs ⊢
  generalize hA : Ar.std = A
  generalize hL : Lp _ _ _ = L
  obtain ⟨Z, zq⟩ := z_all
  refine cd_open (lp_mono hL) zq rfl ?_
  repeat' (first
    | (refine z_open zq ?_; try dsimp only)
    | refine cd_seq zq ?_ (lp_mono hL)
    | refine cd_blk zq ?_
    | refine cd_ret ?_
    | refine cd_skip ?_
    | refine cd_exit ?_
    | refine cd_loop ?_
    | refine cd_cond rfl ?_
    | refine cd_condT rfl ?_
    | refine cd_condF rfl ?_
    | (refine Cd.mk ?_; cbv)
    | (refine Ends1.mk ?_; cbv)
    | (refine Fin1.mk ?_; cbv)
    | exact trivial
    | refine And.intro ?_ ?_
    | refine orf fun _ => ?_
    | refine ort fun _ => ?_)
  subst hL
  refine loop_z (cx_ok hfs) (biQ l) (biI l) (biM l) biR ⟨0, []⟩ ?_ ?_ ?_
  · exact ⟨Int.le_refl 0, Int.natCast_nonneg _, rfl⟩
  · cbv
    repeat' (first | exact trivial | exact rfl | refine And.intro ?_ ?_)
  rintro ⟨i, o⟩ ⟨q0, q1, q2⟩ O hO
  dsimp only at q0 q1 q2
  have hen : i = l.length → o = bitL l := fun h => by rw [q2, h, Int.toNat_natCast]; rfl
  subst hA
  generalize hA : Ar.std = A
  generalize hL : Lp _ _ _ = L
  refine cd_close zq ?_
  repeat' (first
    | (refine z_open zq ?_; try dsimp only)
    | refine cd_seq zq ?_ (lp_mono hL)
    | refine cd_blk zq ?_
    | refine cd_ret ?_
    | refine cd_skip ?_
    | refine cd_exit ?_
    | refine cd_loop ?_
    | refine cd_cond rfl ?_
    | refine cd_condT rfl ?_
    | refine cd_condF rfl ?_
    | (refine Cd.mk ?_; cbv)
    | (refine Ends1.mk ?_; cbv)
    | (refine Fin1.mk ?_; cbv)
    | exact trivial
    | refine And.intro ?_ ?_
    | refine orf fun _ => ?_
    | refine ort fun _ => ?_)
  all_goals first | (show L _ _ _; skip) | (clear hL hfs zq Z; subst hA hF hO; simp only [Bu.std, Ar.std] at * <;> grind [stdCmp]; done)
  rename_i hx
  have hi : i < l.length := by
    clear hfs hL zq Z hF hO
    subst hA
    simp only [Ar.std] at hx
    grind [stdCmp]
  clear hx hen
  subst hL
  refine loop_z (cx_ok hfs) (bkQ l i) (bkI l i) bkM bkR ⟨7, o⟩ ?_ ?_ ?_
  · exact bk_zero l i o q2
  · cbv
    repeat' (first | exact trivial | exact rfl | refine And.intro ?_ ?_)
  rintro ⟨k, o2⟩ hq2 O2 hO2
  have hst := bk_step l i q0 hi hs k o2 hq2
  have hen := bk_end l i q0 hi k o2 hq2
  have hu := CrcS.u64_lt k
  have k0 := hq2.1
  have k1 := hq2.2.1
  dsimp only at k0 k1
  subst hA
  generalize hA : Ar.std = A
  generalize hL : Lp _ _ _ = L
  refine cd_close zq ?_
  repeat' (first
    | (refine z_open zq ?_; try dsimp only)
    | refine cd_seq zq ?_ (lp_mono hL)
    | refine cd_blk zq ?_
    | refine cd_ret ?_
    | refine cd_skip ?_
    | refine cd_exit ?_
    | refine cd_loop ?_
    | refine cd_cond rfl ?_
    | refine cd_condT rfl ?_
    | refine cd_condF rfl ?_
    | (refine Cd.mk ?_; cbv)
    | (refine Ends1.mk ?_; cbv)
    | (refine Fin1.mk ?_; cbv)
    | exact trivial
    | refine And.intro ?_ ?_
    | refine orf fun _ => ?_
    | refine ort fun _ => ?_)
  all_goals (clear hL hfs zq Z hq2; subst hA hF hO hO2; simp only [Ar.std] at * <;> grind [stdCmp, b_add, b_sub, wr, biM, bkM])
theorem ok_bits : ConOk Try.prog 58 (c_bits Bu.std) := by
  refine con_of FsOk.nil Try.func58 rfl rfl fun xs h p hp => ?_
  unfold c_bits at hp
  split at hp
  · cases hp
    exact ⟨lee_le rfl, fun hC _ => x_bits _ hC⟩
  · cases hp
end Go.Proofs.Ytdfknpjlapaadaa.BeU
