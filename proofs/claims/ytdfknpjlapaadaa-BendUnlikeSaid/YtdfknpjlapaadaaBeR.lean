/-
  bends over the reckoner. No condition.
-/
import Derived.Test.YtdfknpjlapaadaaFrS
import Derived.Test.YtdfknpjlapaadaaCrcB
namespace Go.Proofs.Ytdfknpjlapaadaa.BeR
open Go Go.Proofs.Ytdfknpjlapaadaa.Ry Go.Proofs.Ytdfknpjlapaadaa.OctR Go.Proofs.Ytdfknpjlapaadaa.FrR Go.Proofs.Ytdfknpjlapaadaa.FrQ Go.Proofs.Ytdfknpjlapaadaa.FrS

open Go.Proofs.Ytdfknpjlapaadaa.CrcB (c_burst ok_burst buL buN)
def tabL : List Int := [0, 1, 2, 2, 3, 3, 3, 3, 4, 4, 4, 4, 4, 4, 4, 4, 5, 5, 5, 5, 5, 5, 5, 5, 5, 5, 5, 5, 5, 5, 5, 5, 6, 6, 6, 6, 6, 6, 6, 6, 6, 6, 6, 6, 6, 6, 6, 6, 6, 6, 6, 6, 6, 6, 6, 6, 6, 6, 6, 6, 6, 6, 6, 6, 7, 7, 7, 7, 7, 7, 7, 7, 7, 7, 7, 7, 7, 7, 7, 7, 7, 7, 7, 7, 7, 7, 7, 7, 7, 7, 7, 7, 7, 7, 7, 7, 7, 7, 7, 7, 7, 7, 7, 7, 7, 7, 7, 7, 7, 7, 7, 7, 7, 7, 7, 7, 7, 7, 7, 7, 7, 7, 7, 7, 7, 7, 7, 7, 8, 8, 8, 8, 8, 8, 8, 8, 8, 8, 8, 8, 8, 8, 8, 8, 8, 8, 8, 8, 8, 8, 8, 8, 8, 8, 8, 8, 8, 8, 8, 8, 8, 8, 8, 8, 8, 8, 8, 8, 8, 8, 8, 8, 8, 8, 8, 8, 8, 8, 8, 8, 8, 8, 8, 8, 8, 8, 8, 8, 8, 8, 8, 8, 8, 8, 8, 8, 8, 8, 8, 8, 8, 8, 8, 8, 8, 8, 8, 8, 8, 8, 8, 8, 8, 8, 8, 8, 8, 8, 8, 8, 8, 8, 8, 8, 8, 8, 8, 8, 8, 8, 8, 8, 8, 8, 8, 8, 8, 8, 8, 8, 8, 8, 8, 8, 8, 8, 8, 8, 8, 8, 8, 8, 8, 8, 8, 8]
def tabN : List Int := [8, 0, 1, 0, 2, 0, 1, 0, 3, 0, 1, 0, 2, 0, 1, 0, 4, 0, 1, 0, 2, 0, 1, 0, 3, 0, 1, 0, 2, 0, 1, 0, 5, 0, 1, 0, 2, 0, 1, 0, 3, 0, 1, 0, 2, 0, 1, 0, 4, 0, 1, 0, 2, 0, 1, 0, 3, 0, 1, 0, 2, 0, 1, 0, 6, 0, 1, 0, 2, 0, 1, 0, 3, 0, 1, 0, 2, 0, 1, 0, 4, 0, 1, 0, 2, 0, 1, 0, 3, 0, 1, 0, 2, 0, 1, 0, 5, 0, 1, 0, 2, 0, 1, 0, 3, 0, 1, 0, 2, 0, 1, 0, 4, 0, 1, 0, 2, 0, 1, 0, 3, 0, 1, 0, 2, 0, 1, 0, 7, 0, 1, 0, 2, 0, 1, 0, 3, 0, 1, 0, 2, 0, 1, 0, 4, 0, 1, 0, 2, 0, 1, 0, 3, 0, 1, 0, 2, 0, 1, 0, 5, 0, 1, 0, 2, 0, 1, 0, 3, 0, 1, 0, 2, 0, 1, 0, 4, 0, 1, 0, 2, 0, 1, 0, 3, 0, 1, 0, 2, 0, 1, 0, 6, 0, 1, 0, 2, 0, 1, 0, 3, 0, 1, 0, 2, 0, 1, 0, 4, 0, 1, 0, 2, 0, 1, 0, 3, 0, 1, 0, 2, 0, 1, 0, 5, 0, 1, 0, 2, 0, 1, 0, 3, 0, 1, 0, 2, 0, 1, 0, 4, 0, 1, 0, 2, 0, 1, 0, 3, 0, 1, 0, 2, 0, 1, 0]
def ln8 (x : Int) : Int := tabL.getD x.toNat 0
def nz8 (x : Int) : Int := tabN.getD x.toNat 0
def isB (x : Int) : Bool := decide (0 ≤ x ∧ x ≤ 255)
def modI (n k : Int) : Int := if k < 1 then 0 else n % k
def modB (k : Int) : Bool := decide (k ≤ 4611686018427387904)
def modP (k : Int) : Bool := decide (1 ≤ k ∧ k ≤ 4611686018427387904)
def firB (l : List Int) (n : Int) : Bool := decide (0 ≤ n ∧ n ≤ l.length ∧ l.length ≤ 1000000)
def firI (l : List Int) (n : Int) : List Int := l.take n.toNat
def cutI (l : List Int) (n : Int) : List Int := l.take (modI n (l.length + 1)).toNat
def brI (l : List Int) (a p : Int) : List Int := buL l (modI a (8 * l.length)) p
def brB (l : List Int) (p : Int) : Bool := decide (l.length ≤ 100000 ∧ 0 ≤ p)
def xr (a c : List Int) (i : Nat) : Int := stdBin .xor .u8 (a.getD i 0) (c.getD i 0)
def frI (a c : List Int) : Nat → Int
  | 0 => -1
  | i + 1 => if xr a c i ≠ 0 ∧ frI a c i < 0 then 8 * i + (8 - ln8 (xr a c i)) else frI a c i
def toI (a c : List Int) : Nat → Int
  | 0 => -1
  | i + 1 => if xr a c i ≠ 0 then 8 * i + 7 - nz8 (xr a c i) else toI a c i
def unI (a c : List Int) : Int := if a.length ≠ c.length then -1 else if frI a c a.length < 0 then 0 else toI a c a.length - frI a c a.length + 1
def unB (a c : List Int) : Bool := decide (a.length ≤ 100000)
def rdB (l : List Int) : Bool := decide ((decF l).e = 0)
theorem ln_in : ∀ k : Fin 256, 0 ≤ tabL.getD k.val 0 ∧ tabL.getD k.val 0 ≤ 8 ∧ 0 ≤ tabN.getD k.val 0 ∧ tabN.getD k.val 0 ≤ 8 := by decide +kernel
theorem ln_pin : ∀ k : Fin 256, k.val ≠ 0 → 1 ≤ tabL.getD k.val 0 ∧ tabN.getD k.val 0 ≤ 7 := by decide +kernel
theorem ln_pos {x : Int} (h : 0 ≤ x ∧ x ≤ 255) (h0 : x ≠ 0) : 1 ≤ ln8 x ∧ nz8 x ≤ 7 := ln_pin ⟨x.toNat, by omega⟩ (show x.toNat ≠ 0 by omega)
theorem ln_of {x : Int} (h : 0 ≤ x ∧ x ≤ 255) : 0 ≤ ln8 x ∧ ln8 x ≤ 8 ∧ 0 ≤ nz8 x ∧ nz8 x ≤ 8 := ln_in ⟨x.toNat, by omega⟩
theorem mod_is {n k : Int} (h : modB k = true) (h1 : ¬ k < 1) : (stdBin .rem .i64 n k < 0 → stdBin .add .i64 (stdBin .rem .i64 n k) k = modI n k) ∧ (¬ stdBin .rem .i64 n k < 0 → stdBin .rem .i64 n k = modI n k) ∧ 0 ≤ modI n k ∧ modI n k < k := by
  have hk := of_decide_eq_true h
  have h2 := Int.emod_nonneg n (show k ≠ 0 by omega)
  have h3 := Int.emod_lt_of_pos n (show 0 < k by omega)
  have ht : n.tmod k = n % k - ((if 0 ≤ n ∨ k ∣ n then 0 else k.natAbs : Nat) : Int) := Int.tmod_eq_emod (a := n) (b := k)
  unfold modI
  rw [if_neg h1, b_rem, b_add]
  have e : (k.natAbs : Int) = k := by omega
  split at ht
  · rw [ht]
    exact ⟨fun q => by omega, fun _ => by omega, h2, h3⟩
  · rw [e] at ht
    rw [ht]
    exact ⟨fun _ => by rw [wr _ (by omega) (by omega)]; omega, fun q => by omega, h2, h3⟩
theorem xr_in (x y : Int) : 0 ≤ stdBin .xor .u8 x y ∧ stdBin .xor .u8 x y ≤ 255 := by
  rw [CrcV.xor8]
  have := (BitVec.ofInt 8 x ^^^ BitVec.ofInt 8 y).isLt
  omega
theorem msk : ∀ r : Fin 8, stdBin .shr .u8 128 (r.val : Int) = stdBin .shl .u8 1 (IntKind.u64.wrap (stdBin .sub .i64 7 (r.val : Int))) := by decide +kernel
theorem msk_is {k : Int} (h : 0 ≤ k) : stdBin .shr .u8 128 (stdBin .rem .i64 k 8) = CrcB.one8 k ∧ ¬ stdBin .rem .i64 k 8 < 0 := by
  rw [CrcB.one8, b_rem, Int.tmod_eq_emod_of_nonneg h]
  have h1 := Int.emod_nonneg k (show (8 : Int) ≠ 0 by decide)
  have h2 := Int.emod_lt_of_pos k (show (0 : Int) < 8 by decide)
  have := msk ⟨(k % 8).toNat, by omega⟩
  simp only [Int.toNat_of_nonneg h1] at this
  exact ⟨this, by omega⟩
theorem pb_is {p i : Int} (hp : 0 ≤ p) (h0 : 0 ≤ i) (h1 : i < 32) : stdBin .sub .i64 31 i = 31 - i ∧ stdCmp .eql (stdBin .and .u32 (stdBin .shr .u32 p (31 - i)) 1) 1 = CrcB.pb p i := by
  have e : stdBin .sub .i64 31 i = 31 - i := by rw [b_sub, wr _ (by omega) (by omega)]
  refine ⟨e, ?_⟩
  unfold CrcB.pb
  rw [e, CrcS.and1, CrcS.wr64 _ (by omega) (by omega)]
  have hs : 0 ≤ stdBin .shr .u32 p (31 - i) := by
    show 0 ≤ p.fdiv _
    rw [Int.fdiv_eq_ediv_of_nonneg _ (Int.pow_nonneg (by decide))]
    exact Int.ediv_nonneg hp (Int.pow_nonneg (by decide))
  rw [b_rem, Int.tmod_eq_emod_of_nonneg hs]

structure Bd where
  b_ln : Int → Int
  b_nz : Int → Int
  b_lz : Int → Int
  b_is : Int → Bool
  b_mod : Int → Int → Int
  b_modB : Int → Bool
  b_modP : Int → Bool
  b_fir : List Int → Int → List Int
  b_firB : List Int → Int → Bool
  b_cut : List Int → Int → List Int
  b_sh : List Int → Bool
  b_br : List Int → Int → Int → List Int
  b_brB : List Int → Int → Bool
  b_un : List Int → List Int → Int
  b_unB : List Int → List Int → Bool
  b_rd : List Int → Bool
  b_by : List Int → Bool
def Bd.std : Bd := ⟨ln8, nz8, fun x => 8 - ln8 x, isB, modI, modB, modP, firI, firB, cutI, fun l => decide (l.length ≤ 100000), brI, brB, unI, unB, rdB, byB⟩

def c_len8 (F : Bd) : Con := fun xs h => match xs, h with
  | [.one (.val (.int .u8 x))], [] => some ⟨F.b_is x = true, .sa (I (F.b_ln x)), [], [Any]⟩
  | _, _ => none
set_option maxRecDepth 100000 in
theorem x_len8 (x : Int) (hC : Bd.std.b_is x = true) : Does [] Try.f78 [.one (.val (.int .u8 x))] [] ⟨Bd.std.b_is x = true, .sa (I (Bd.std.b_ln x)), [], [Any]⟩ := by
  intro b gv
  generalize hF : Bd.std = F at hC ⊢
  generalize hA : Ar.std = A
  generalize hL : Lp _ _ _ = L
  obtain ⟨Z, zq⟩ := z_all
  refine cd_open (lp_mono hL) zq rfl ?_
  repeat' (first
    | (refine z_open zq ?_; try dsimp only)
    | refine cd_seq zq ?_ (lp_mono hL)
    | refine cd_blk zq ?_
    | refine cd_ret ?_
    | refine cd_skip ?_
    | refine cd_exit ?_
    | refine cd_loop ?_
    | refine cd_cond rfl ?_
    | refine cd_condT rfl ?_
    | refine cd_condF rfl ?_
    | (refine Cd.mk ?_; cbv)
    | (refine Ends1.mk ?_; cbv)
    | (refine Fin1.mk ?_; cbv)
    | exact trivial
    | refine And.intro ?_ ?_
    | refine orf fun _ => ?_
    | refine ort fun _ => ?_)
  all_goals
    clear hL zq Z
    subst hF hA
    have hx : 0 ≤ x ∧ x ≤ 255 := of_decide_eq_true (show decide (0 ≤ x ∧ x ≤ 255) = true from hC)
    simp only [Ar.std]
    first
      | (have h8 := ln_of hx; refine congrArg (Value.int .i64) ?_; show IntKind.i64.wrap (ln8 x) = ln8 x; rw [wr _ (by omega) (by omega)])
      | (simp only [stdCmp, List.length_cons, List.length_nil, decide_eq_true_eq]; omega)
theorem ok_len8 : ConOk Try.prog 78 (c_len8 Bd.std) := by
  refine con_of FsOk.nil Try.func78 rfl rfl fun xs h p hp => ?_
  unfold c_len8 at hp
  split at hp
  · cases hp
    exact ⟨lee_le rfl, fun hC _ => x_len8 _ hC⟩
  · cases hp

def c_lz (F : Bd) : Con := fun xs h => match xs, h with
  | [.one (.val (.int .u8 x))], [] => some ⟨F.b_is x = true, .sa (I (F.b_lz x)), [], [Any]⟩
  | _, _ => none
set_option maxRecDepth 100000 in
theorem x_lz (x : Int) (hC : Bd.std.b_is x = true) : Does [(78, c_len8 Bd.std)] Try.f56 [.one (.val (.int .u8 x))] [] ⟨Bd.std.b_is x = true, .sa (I (Bd.std.b_lz x)), [], [Any]⟩ := by
  intro b gv
  generalize hF : Bd.std = F at hC ⊢
  generalize hA : Ar.std = A
  generalize hL : Lp _ _ _ = L
  obtain ⟨Z, zq⟩ := z_all
  refine cd_open (lp_mono hL) zq rfl ?_
  repeat' (first
    | (refine z_open zq ?_; try dsimp only)
    | refine cd_seq zq ?_ (lp_mono hL)
    | refine cd_blk zq ?_
    | refine cd_ret ?_
    | refine cd_skip ?_
    | refine cd_exit ?_
    | refine cd_loop ?_
    | refine cd_cond rfl ?_
    | refine cd_condT rfl ?_
    | refine cd_condF rfl ?_
    | (refine Cd.mk ?_; cbv)
    | (refine Ends1.mk ?_; cbv)
    | (refine Fin1.mk ?_; cbv)
    | exact trivial
    | refine And.intro ?_ ?_
    | refine orf fun _ => ?_
    | refine ort fun _ => ?_)
  all_goals
    clear hL zq Z
    subst hF hA
    have hx : 0 ≤ x ∧ x ≤ 255 := of_decide_eq_true (show decide (0 ≤ x ∧ x ≤ 255) = true from hC)
    have h8 := ln_of hx
    simp only [Bd.std, Ar.std] at *
    grind [b_sub, wr]
theorem ok_lz : ConOk Try.prog 56 (c_lz Bd.std) := by
  refine con_of (FsOk.cons ok_len8 FsOk.nil rfl) Try.func56 rfl rfl fun xs h p hp => ?_
  unfold c_lz at hp
  split at hp
  · cases hp
    exact ⟨lee_le rfl, fun hC _ => x_lz _ hC⟩
  · cases hp

def c_tz (F : Bd) : Con := fun xs h => match xs, h with
  | [.one (.val (.int .u8 x))], [] => some ⟨F.b_is x = true, .sa (I (F.b_nz x)), [], [Any]⟩
  | _, _ => none
set_option maxRecDepth 100000 in
theorem x_tz (x : Int) (hC : Bd.std.b_is x = true) : Does [] Try.f57 [.one (.val (.int .u8 x))] [] ⟨Bd.std.b_is x = true, .sa (I (Bd.std.b_nz x)), [], [Any]⟩ := by
  intro b gv
  generalize hF : Bd.std = F at hC ⊢
  generalize hA : Ar.std = A
  generalize hL : Lp _ _ _ = L
  obtain ⟨Z, zq⟩ := z_all
  refine cd_open (lp_mono hL) zq rfl ?_
  repeat' (first
    | (refine z_open zq ?_; try dsimp only)
    | refine cd_seq zq ?_ (lp_mono hL)
    | refine cd_blk zq ?_
    | refine cd_ret ?_
    | refine cd_skip ?_
    | refine cd_exit ?_
    | refine cd_loop ?_
    | refine cd_cond rfl ?_
    | refine cd_condT rfl ?_
    | refine cd_condF rfl ?_
    | (refine Cd.mk ?_; cbv)
    | (refine Ends1.mk ?_; cbv)
    | (refine Fin1.mk ?_; cbv)
    | exact trivial
    | refine And.intro ?_ ?_
    | refine orf fun _ => ?_
    | refine ort fun _ => ?_)
  all_goals
    clear hL zq Z
    subst hF hA
    have hx : 0 ≤ x ∧ x ≤ 255 := of_decide_eq_true (show decide (0 ≤ x ∧ x ≤ 255) = true from hC)
    have h8 := ln_of hx
    simp only [Ar.std]
    first
      | (refine congrArg (Value.int .i64) ?_; show IntKind.i64.wrap (nz8 x) = nz8 x; rw [wr _ (by omega) (by omega)])
      | (simp only [stdCmp, List.length_cons, List.length_nil, decide_eq_true_eq]; omega)
theorem ok_tz : ConOk Try.prog 57 (c_tz Bd.std) := by
  refine con_of FsOk.nil Try.func57 rfl rfl fun xs h p hp => ?_
  unfold c_tz at hp
  split at hp
  · cases hp
    exact ⟨lee_le rfl, fun hC _ => x_tz _ hC⟩
  · cases hp

def c_mod (F : Bd) : Con := fun xs h => match xs, h with
  | [.one (.val (.int .i64 n)), .one (.val (.int .i64 k))], [] => some ⟨F.b_modB k = true, .sa (I (F.b_mod n k)), [], [Any, Any]⟩
  | _, _ => none
set_option maxRecDepth 100000 in
theorem x_mod (n : Int) (k : Int) (hC : Bd.std.b_modB k = true) : Does [] Try.f54 [.one (.val (.int .i64 n)), .one (.val (.int .i64 k))] [] ⟨Bd.std.b_modB k = true, .sa (I (Bd.std.b_mod n k)), [], [Any, Any]⟩ := by
  intro b gv
  have hk := mod_is (n := n) (show modB k = true from hC)
  generalize hF : Bd.std = F at hC ⊢
  generalize hA : Ar.std = A
  generalize hL : Lp _ _ _ = L
  obtain ⟨Z, zq⟩ := z_all
  refine cd_open (lp_mono hL) zq rfl ?_
  repeat' (first
    | (refine z_open zq ?_; try dsimp only)
    | refine cd_seq zq ?_ (lp_mono hL)
    | refine cd_blk zq ?_
    | refine cd_ret ?_
    | refine cd_skip ?_
    | refine cd_exit ?_
    | refine cd_loop ?_
    | refine cd_cond rfl ?_
    | refine cd_condT rfl ?_
    | refine cd_condF rfl ?_
    | (refine Cd.mk ?_; cbv)
    | (refine Ends1.mk ?_; cbv)
    | (refine Fin1.mk ?_; cbv)
    | exact trivial
    | refine And.intro ?_ ?_
    | refine orf fun _ => ?_
    | refine ort fun _ => ?_)
  all_goals
    clear hL zq Z
    subst hF hA
    simp only [Bd.std, Ar.std] at *
    try (grind [stdCmp, modI])
theorem ok_mod : ConOk Try.prog 54 (c_mod Bd.std) := by
  refine con_of FsOk.nil Try.func54 rfl rfl fun xs h p hp => ?_
  unfold c_mod at hp
  split at hp
  · cases hp
    exact ⟨lee_le rfl, fun hC _ => x_mod _ _ hC⟩
  · cases hp

def c_first (F : Bd) : Con := fun xs h => match xs, h with
  | [.one (.sl none (.ints .u8 l)), .one (.val (.int .i64 n))], [] => some ⟨F.b_firB l n = true, .sa (.one (.own 0)), [(0, .row 5 (.ints .u8 (F.b_fir l n)))], [Any, Any]⟩
  | _, _ => none
set_option maxRecDepth 100000 in
theorem x_first (l : List Int) (n : Int) (hC : Bd.std.b_firB l n = true) : Does [] Try.f53 [.one (.sl none (.ints .u8 l)), .one (.val (.int .i64 n))] [] ⟨Bd.std.b_firB l n = true, .sa (.one (.own 0)), [(0, .row 5 (.ints .u8 (Bd.std.b_fir l n)))], [Any, Any]⟩ := by
  intro b gv
  have hk : 0 ≤ n ∧ n ≤ l.length ∧ l.length ≤ 1000000 := of_decide_eq_true (show decide (0 ≤ n ∧ n ≤ l.length ∧ l.length ≤ 1000000) = true from hC)
  have hd : (List.replicate n.toNat (0 : Int)).drop l.length = [] := by
    apply List.drop_eq_nil_of_le
    rw [List.length_replicate]
    omega
  generalize hF : Bd.std = F at hC ⊢
  generalize hA : Ar.std = A
  generalize hL : Lp _ _ _ = L
  obtain ⟨Z, zq⟩ := z_all
  refine cd_open (lp_mono hL) zq rfl ?_
  repeat' (first
    | (refine z_open zq ?_; try dsimp only)
    | refine cd_seq zq ?_ (lp_mono hL)
    | refine cd_blk zq ?_
    | refine cd_ret ?_
    | refine cd_skip ?_
    | refine cd_exit ?_
    | refine cd_loop ?_
    | refine cd_cond rfl ?_
    | refine cd_condT rfl ?_
    | refine cd_condF rfl ?_
    | (refine Cd.mk ?_; cbv)
    | (refine Ends1.mk ?_; cbv)
    | (refine Fin1.mk ?_; cbv)
    | exact trivial
    | refine And.intro ?_ ?_
    | refine orf fun _ => ?_
    | refine ort fun _ => ?_)
  all_goals
    clear hL zq Z
    subst hF hA
    have e1 : Int.ofNat 1 = 1 := rfl
    simp only [Bd.std, Ar.std, hd, List.length_replicate, List.append_nil, e1] at *
    try (grind [stdCmp, firI])
theorem ok_first : ConOk Try.prog 53 (c_first Bd.std) := by
  refine con_of FsOk.nil Try.func53 rfl rfl fun xs h p hp => ?_
  unfold c_first at hp
  split at hp
  · cases hp
    exact ⟨lee_le rfl, fun hC _ => x_first _ _ hC⟩
  · cases hp

def c_cut (F : Bd) : Con := fun xs h => match xs, h with
  | [.one (.sl none (.ints .u8 l)), .one (.val (.int .i64 n))], [] => some ⟨F.b_sh l = true, .sa (Bytes (F.b_cut l n)), [], [Any, Any]⟩
  | _, _ => none
set_option maxRecDepth 100000 in
theorem x_cut (l : List Int) (n : Int) (hC : Bd.std.b_sh l = true) : Does [(54, c_mod Bd.std), (53, c_first Bd.std)] Try.f25 [.one (.sl none (.ints .u8 l)), .one (.val (.int .i64 n))] [] ⟨Bd.std.b_sh l = true, .sa (Bytes (Bd.std.b_cut l n)), [], [Any, Any]⟩ := by
  intro b gv
  have hk : l.length ≤ 100000 := of_decide_eq_true (show decide (l.length ≤ 100000) = true from hC)
  have hm : 0 ≤ modI n (l.length + 1) ∧ modI n (l.length + 1) < l.length + 1 := (mod_is (n := n) (k := l.length + 1) (decide_eq_true (by omega)) (by omega)).2.2
  generalize hF : Bd.std = F at hC ⊢
  generalize hA : Ar.std = A
  generalize hL : Lp _ _ _ = L
  obtain ⟨Z, zq⟩ := z_all
  refine cd_open (lp_mono hL) zq rfl ?_
  repeat' (first
    | (refine z_open zq ?_; try dsimp only)
    | refine cd_seq zq ?_ (lp_mono hL)
    | refine cd_blk zq ?_
    | refine cd_ret ?_
    | refine cd_skip ?_
    | refine cd_exit ?_
    | refine cd_loop ?_
    | refine cd_cond rfl ?_
    | refine cd_condT rfl ?_
    | refine cd_condF rfl ?_
    | (refine Cd.mk ?_; cbv)
    | (refine Ends1.mk ?_; cbv)
    | (refine Fin1.mk ?_; cbv)
    | exact trivial
    | refine And.intro ?_ ?_
    | refine orf fun _ => ?_
    | refine ort fun _ => ?_)
  all_goals
    clear hL zq Z
    subst hF hA
    have e1 : stdBin .add .i64 (l.length : Int) 1 = l.length + 1 := by rw [b_add, wr _ (by omega) (by omega)]
    simp only [Bd.std, Ar.std, e1] at *
    try (grind [cutI, firI, firB, modB])
theorem ok_cut : ConOk Try.prog 25 (c_cut Bd.std) := by
  refine con_of (FsOk.cons ok_mod (FsOk.cons ok_first FsOk.nil rfl) rfl) Try.func25 rfl rfl fun xs h p hp => ?_
  unfold c_cut at hp
  split at hp
  · cases hp
    exact ⟨lee_le rfl, fun hC _ => x_cut _ _ hC⟩
  · cases hp

structure XB where
  i : Int
  o : List Int
def bdQ (l : List Int) (a p : Int) (y : XB) : Prop := 0 ≤ y.i ∧ y.i ≤ 32 ∧ y.o = buN l a p y.i.toNat
noncomputable def bdI (l : List Int) (a p : Int) (y : XB) : St := stOf Try.f24.ntmps [(0, .sl none (.ints .u8 l)), (1, .val (.int .i64 a)), (2, .val (.int .u32 p)), (7, .own 1), (18, .val (.int .i64 y.i))] [(1, .row 5 (.ints .u8 y.o))] [Any, Any, Any]
def bdM (y : XB) : Nat := (32 - y.i).toNat
def bdR (st : St) : XB := ⟨slotI st 18, slotL st 7⟩
theorem br_mod (l : List Int) (a : Int) : 0 ≤ modI a (8 * l.length) ∧ (0 < l.length → modI a (8 * l.length) < 8 * l.length) ∧ (¬ 0 < l.length → modI a (8 * l.length) = 0) := by
  by_cases h : 0 < l.length
  · unfold modI
    rw [if_neg (by omega)]
    exact ⟨Int.emod_nonneg a (by omega), fun _ => Int.emod_lt_of_pos a (by omega), fun q => absurd h q⟩
  · unfold modI
    rw [if_pos (by omega)]
    exact ⟨Int.le_refl 0, fun q => absurd q h, fun _ => rfl⟩
theorem br_top (l : List Int) (a : Int) (hl : l.length ≤ 100000) : modI a (8 * l.length) ≤ 800000 := by
  obtain ⟨h1, h2, h3⟩ := br_mod l a
  by_cases h : 0 < l.length
  · have := h2 h
    omega
  · rw [h3 h]
    decide

def c_burst2 (F : Bd) : Con := fun xs h => match xs, h with
  | [.one (.sl none (.ints .u8 l)), .one (.val (.int .i64 a)), .one (.val (.int .u32 p))], [] => some ⟨F.b_brB l p = true, .sa (Bytes (F.b_br l a p)), [], [Any, Any, Any]⟩
  | _, _ => none
set_option maxHeartbeats 1000000 in
set_option maxRecDepth 100000 in
theorem x_burst2 (l : List Int) (a : Int) (p : Int) (hC : Bd.std.b_brB l p = true) : Does [(53, c_first Bd.std), (54, c_mod Bd.std)] Try.f24 [.one (.sl none (.ints .u8 l)), .one (.val (.int .i64 a)), .one (.val (.int .u32 p))] [] ⟨Bd.std.b_brB l p = true, .sa (Bytes (Bd.std.b_br l a p)), [], [Any, Any, Any]⟩ := by
  intro b gv
  have hk : l.length ≤ 100000 ∧ 0 ≤ p := of_decide_eq_true (show decide (l.length ≤ 100000 ∧ 0 ≤ p) = true from hC)
  have hm := br_mod l a
  have ht := br_top l a hk.1
  have hfs := (FsOk.cons ok_first (FsOk.cons ok_mod FsOk.nil rfl) rfl)
  generalize hF : Bd.std = F at hC hfs ⊢
  generalize hA : Ar.std = A
  generalize hL : Lp _ _ _ = L
  obtain ⟨Z, zq⟩ := z_all
  refine cd_open (lp_mono hL) zq rfl ?_
  repeat' (first
    | (refine z_open zq ?_; try dsimp only)
    | refine cd_seq zq ?_ (lp_mono hL)
    | refine cd_blk zq ?_
    | refine cd_ret ?_
    | refine cd_skip ?_
    | refine cd_exit ?_
    | refine cd_loop ?_
    | refine cd_cond rfl ?_
    | refine cd_condT rfl ?_
    | refine cd_condF rfl ?_
    | (refine Cd.mk ?_; cbv)
    | (refine Ends1.mk ?_; cbv)
    | (refine Fin1.mk ?_; cbv)
    | exact trivial
    | refine And.intro ?_ ?_
    | refine orf fun _ => ?_
    | refine ort fun _ => ?_)
  all_goals first | (show L _ _ _; skip) | (clear hfs hL zq Z; subst hF hA; simp only [Bd.std, Ar.std] at * <;> grind [b_mul, wr, firB, modB]; done)
  subst hL
  refine loop_z (cx_ok hfs) (bdQ l (modI a (8 * l.length)) p) (bdI l (F.b_mod a (A.bin .mul .i64 8 (A.lenI l))) p) bdM bdR ⟨0, F.b_fir l (A.lenI l)⟩ ?_ ?_ ?_
  · subst hF hA
    refine ⟨Int.le_refl 0, show (0 : Int) ≤ 32 by decide, ?_⟩
    show l.take (l.length : Int).toNat = l
    rw [Int.toNat_natCast, List.take_length]
  · cbv
    repeat' (first | exact trivial | exact rfl | refine And.intro ?_ ?_)
  have en : F.b_mod a (A.bin .mul .i64 8 (A.lenI l)) = modI a (8 * l.length) := by
    subst hF hA
    show modI a (stdBin .mul .i64 8 (l.length : Int)) = _
    rw [b_mul, wr _ (by omega) (by omega)]
  rw [en]
  have hb : brI l a p = buL l (modI a (8 * l.length)) p := rfl
  generalize modI a (8 * l.length) = n at *
  rintro ⟨i, o⟩ ⟨q0, q1, q2⟩ O hO
  dsimp only at q0 q1 q2
  have hn0 := hm.1
  have hok : CrcB.okU l n = true := decide_eq_true ⟨hn0, by omega, by omega⟩
  have hst := fun h => CrcB.bu_step l n p i o hok q0 h q2
  have hen : i = 32 → o = brI l a p := fun h => by subst h; rw [hb]; exact q2
  have hpb := fun h => pb_is hk.2 q0 h
  have hms := msk_is (k := n + i) (by omega)
  have hq8 : stdBin .quo .i64 (n + i) 8 = (n + i) / 8 := by rw [b_quo, Int.tdiv_eq_ediv_of_nonneg (by omega), wr _ (by omega) (by omega)]
  clear hb en
  subst hA
  generalize hA : Ar.std = A
  generalize hL : Lp _ _ _ = L
  refine cd_close zq ?_
  repeat' (first
    | (refine z_open zq ?_; try dsimp only)
    | refine cd_seq zq ?_ (lp_mono hL)
    | refine cd_blk zq ?_
    | refine cd_ret ?_
    | refine cd_skip ?_
    | refine cd_exit ?_
    | refine cd_loop ?_
    | refine cd_cond rfl ?_
    | refine cd_condT rfl ?_
    | refine cd_condF rfl ?_
    | (refine Cd.mk ?_; cbv)
    | (refine Ends1.mk ?_; cbv)
    | (refine Fin1.mk ?_; cbv)
    | exact trivial
    | refine And.intro ?_ ?_
    | refine orf fun _ => ?_
    | refine ort fun _ => ?_)
  all_goals (clear hL hfs zq Z; subst hA hF hO; simp only [Bd.std, Ar.std] at * <;> grind [stdCmp, b_add, b_mul, wr, bdQ, bdM])
theorem ok_burst2 : ConOk Try.prog 24 (c_burst2 Bd.std) := by
  refine con_of (FsOk.cons ok_first (FsOk.cons ok_mod FsOk.nil rfl) rfl) Try.func24 rfl rfl fun xs h p hp => ?_
  unfold c_burst2 at hp
  split at hp
  · cases hp
    exact ⟨lee_le rfl, fun hC _ => x_burst2 _ _ _ hC⟩
  · cases hp

def c_flip (F : Bd) : Con := fun xs h => match xs, h with
  | [.one (.sl none (.ints .u8 l)), .one (.val (.int .i64 a))], [] => some ⟨F.b_sh l = true, .sa (Bytes (F.b_br l a 2147483648)), [], [Any, Any]⟩
  | _, _ => none
set_option maxRecDepth 100000 in
theorem x_flip (l : List Int) (a : Int) (hC : Bd.std.b_sh l = true) : Does [(24, c_burst2 Bd.std)] Try.f26 [.one (.sl none (.ints .u8 l)), .one (.val (.int .i64 a))] [] ⟨Bd.std.b_sh l = true, .sa (Bytes (Bd.std.b_br l a 2147483648)), [], [Any, Any]⟩ := by
  intro b gv
  generalize hF : Bd.std = F at hC ⊢
  generalize hA : Ar.std = A
  generalize hL : Lp _ _ _ = L
  obtain ⟨Z, zq⟩ := z_all
  refine cd_open (lp_mono hL) zq rfl ?_
  repeat' (first
    | (refine z_open zq ?_; try dsimp only)
    | refine cd_seq zq ?_ (lp_mono hL)
    | refine cd_blk zq ?_
    | refine cd_ret ?_
    | refine cd_skip ?_
    | refine cd_exit ?_
    | refine cd_loop ?_
    | refine cd_cond rfl ?_
    | refine cd_condT rfl ?_
    | refine cd_condF rfl ?_
    | (refine Cd.mk ?_; cbv)
    | (refine Ends1.mk ?_; cbv)
    | (refine Fin1.mk ?_; cbv)
    | exact trivial
    | refine And.intro ?_ ?_
    | refine orf fun _ => ?_
    | refine ort fun _ => ?_)
  all_goals
    clear hL zq Z
    subst hF hA
    simp only [Bd.std, Ar.std] at *
    try (grind [brB])
theorem ok_flip : ConOk Try.prog 26 (c_flip Bd.std) := by
  refine con_of (FsOk.cons ok_burst2 FsOk.nil rfl) Try.func26 rfl rfl fun xs h p hp => ?_
  unfold c_flip at hp
  split at hp
  · cases hp
    exact ⟨lee_le rfl, fun hC _ => x_flip _ _ hC⟩
  · cases hp

def c_reads (F : Bd) : Con := fun xs h => match xs, h with
  | [.one (.sl none (.ints .u8 l))], [] => some ⟨True, .sa (B (F.b_rd l)), [], [Any]⟩
  | _, _ => none
set_option maxRecDepth 100000 in
theorem x_reads (l : List Int) : Does [(18, c_decode Rs.std)] Try.f31 [.one (.sl none (.ints .u8 l))] [] ⟨True, .sa (B (Bd.std.b_rd l)), [], [Any]⟩ := by
  intro b gv
  generalize hF : Bd.std = F
  generalize hG0 : Rs.std = G0
  generalize hA : Ar.std = A
  generalize hL : Lp _ _ _ = L
  obtain ⟨Z, zq⟩ := z_all
  refine cd_open (lp_mono hL) zq rfl ?_
  repeat' (first
    | (refine z_open zq ?_; try dsimp only)
    | refine cd_seq zq ?_ (lp_mono hL)
    | refine cd_blk zq ?_
    | refine cd_ret ?_
    | refine cd_skip ?_
    | refine cd_exit ?_
    | refine cd_loop ?_
    | refine cd_cond rfl ?_
    | refine cd_condT rfl ?_
    | refine cd_condF rfl ?_
    | (refine Cd.mk ?_; cbv)
    | (refine Ends1.mk ?_; cbv)
    | (refine Fin1.mk ?_; cbv)
    | exact trivial
    | refine And.intro ?_ ?_
    | refine orf fun _ => ?_
    | refine ort fun _ => ?_)
  all_goals
    clear hL zq Z
    subst hF hA hG0
    simp only [Bd.std, Rs.std, Ar.std] at *
    try (grind [stdCmp, rdB])
theorem ok_reads : ConOk Try.prog 31 (c_reads Bd.std) := by
  refine con_of (FsOk.cons ok_decode FsOk.nil rfl) Try.func31 rfl rfl fun xs h p hp => ?_
  unfold c_reads at hp
  split at hp
  · cases hp
    exact ⟨lee_le rfl, fun _ _ => x_reads _⟩
  · cases hp

structure XU where
  i : Int
  f : Int
  t : Int
def uqQ (a c : List Int) (y : XU) : Prop := 0 ≤ y.i ∧ y.i ≤ a.length ∧ y.f = frI a c y.i.toNat ∧ y.t = toI a c y.i.toNat
noncomputable def uqI (A : Ar) (a c : List Int) (y : XU) : St := stOf Try.f29.ntmps [(0, .sl none (.ints .u8 a)), (1, .sl none (.ints .u8 c)), (5, .val (.int .i64 y.f)), (6, .val (.int .i64 y.t)), (15, .val (.int .i64 (A.lenI a))), (16, .val (.int .i64 y.i))] [] [Any, Any]
def uqM (a : List Int) (y : XU) : Nat := a.length - y.i.toNat
def uqR (st : St) : XU := ⟨slotI st 16, slotI st 5, slotI st 6⟩
theorem fr_in (a c : List Int) : ∀ i : Nat, -1 ≤ frI a c i ∧ frI a c i < 8 * i ∧ -1 ≤ toI a c i ∧ toI a c i < 8 * i ∧ (frI a c i < 0 → frI a c i = -1)
  | 0 => by refine ⟨?_, ?_, ?_, ?_, ?_⟩ <;> simp [frI, toI]
  | i + 1 => by
    have ih := fr_in a c i
    have h8 := ln_of (xr_in (a.getD i 0) (c.getD i 0))
    unfold frI toI
    have hp := ln_pos (xr_in (a.getD i 0) (c.getD i 0))
    unfold xr
    repeat' split
    all_goals omega
theorem uq_step (a c : List Int) (i f t : Int) (hl : a.length ≤ 100000) (h0 : 0 ≤ i) (h : i < a.length) (hf : f = frI a c i.toNat) (ht : t = toI a c i.toNat) :
    isB (stdBin .xor .u8 (a.getD i.toNat 0) (c.getD i.toNat 0)) = true ∧ 0 ≤ ln8 (stdBin .xor .u8 (a.getD i.toNat 0) (c.getD i.toNat 0)) ∧ ln8 (stdBin .xor .u8 (a.getD i.toNat 0) (c.getD i.toNat 0)) ≤ 8 ∧ 0 ≤ nz8 (stdBin .xor .u8 (a.getD i.toNat 0) (c.getD i.toNat 0)) ∧ nz8 (stdBin .xor .u8 (a.getD i.toNat 0) (c.getD i.toNat 0)) ≤ 8 ∧
    (stdBin .xor .u8 (a.getD i.toNat 0) (c.getD i.toNat 0) = 0 → f = frI a c (i + 1).toNat ∧ t = toI a c (i + 1).toNat) ∧
    (¬ stdBin .xor .u8 (a.getD i.toNat 0) (c.getD i.toNat 0) = 0 → (f < 0 → 8 * i + (8 - ln8 (stdBin .xor .u8 (a.getD i.toNat 0) (c.getD i.toNat 0))) = frI a c (i + 1).toNat) ∧ (¬ f < 0 → f = frI a c (i + 1).toNat) ∧ 8 * i + 7 - nz8 (stdBin .xor .u8 (a.getD i.toNat 0) (c.getD i.toNat 0)) = toI a c (i + 1).toNat) := by
  obtain ⟨n, rfl⟩ := Int.eq_ofNat_of_zero_le h0
  have e : ((n : Int) + 1).toNat = n + 1 := by omega
  have hx := xr_in (a.getD n 0) (c.getD n 0)
  have h8 := ln_of hx
  rw [e]
  simp only [Int.toNat_natCast] at *
  unfold frI toI
  unfold xr
  refine ⟨decide_eq_true hx, h8.1, h8.2.1, h8.2.2.1, h8.2.2.2, fun q => ?_, fun q => ⟨fun q2 => ?_, fun q2 => ?_, ?_⟩⟩
  · rw [if_neg (by rw [q]; exact fun w => w.1 rfl), if_neg (by rw [q]; exact fun w => w rfl)]
    exact ⟨hf, ht⟩
  · rw [if_pos ⟨q, by rw [← hf]; exact q2⟩]
  · rw [if_neg (by rw [← hf]; exact fun w => q2 w.2)]
    exact hf
  · rw [if_pos q]
theorem uq_end (a c : List Int) (i f t : Int) (hl : a.length ≤ 100000) (he : a.length = c.length) (h : i = a.length) (hf : f = frI a c i.toNat) (ht : t = toI a c i.toNat) : (f < 0 → unI a c = 0) ∧ (¬ f < 0 → unI a c = t - f + 1) ∧ -1 ≤ f ∧ f ≤ 1000000 ∧ -1 ≤ t ∧ t ≤ 1000000 := by
  subst h
  have := fr_in a c a.length
  rw [Int.toNat_natCast] at hf ht
  unfold unI
  rw [if_neg (fun q => q he), ← hf, ← ht]
  exact ⟨fun q => if_pos q, fun q => if_neg q, by omega, by omega, by omega, by omega⟩

def c_unlike (F : Bd) : Con := fun xs h => match xs, h with
  | [.one (.sl none (.ints .u8 a)), .one (.sl none (.ints .u8 c))], [] => some ⟨F.b_unB a c = true, .sa (I (F.b_un a c)), [], [Any, Any]⟩
  | _, _ => none
set_option maxHeartbeats 1000000 in
set_option maxRecDepth 100000 in
theorem x_unlike (a : List Int) (c : List Int) (hC : Bd.std.b_unB a c = true) : Does [(56, c_lz Bd.std), (57, c_tz Bd.std)] Try.f29 [.one (.sl none (.ints .u8 a)), .one (.sl none (.ints .u8 c))] [] ⟨Bd.std.b_unB a c = true, .sa (I (Bd.std.b_un a c)), [], [Any, Any]⟩ := by
  intro b gv
  have hk : a.length ≤ 100000 := of_decide_eq_true (show decide (a.length ≤ 100000) = true from hC)
  have hfs := (FsOk.cons ok_lz (FsOk.cons ok_tz FsOk.nil rfl) rfl)
  generalize hF : Bd.std = F at hC hfs ⊢
  generalize hA : Ar.std = A
  generalize hL : Lp _ _ _ = L
  obtain ⟨Z, zq⟩ := z_all
  refine cd_open (lp_mono hL) zq rfl ?_
  repeat' (first
    | (refine z_open zq ?_; try dsimp only)
    | refine cd_seq zq ?_ (lp_mono hL)
    | refine cd_blk zq ?_
    | refine cd_ret ?_
    | refine cd_skip ?_
    | refine cd_exit ?_
    | refine cd_loop ?_
    | refine cd_cond rfl ?_
    | refine cd_condT rfl ?_
    | refine cd_condF rfl ?_
    | (refine Cd.mk ?_; cbv)
    | (refine Ends1.mk ?_; cbv)
    | (refine Fin1.mk ?_; cbv)
    | exact trivial
    | refine And.intro ?_ ?_
    | refine orf fun _ => ?_
    | refine ort fun _ => ?_)
  all_goals first | (show L _ _ _; skip) | (clear hfs hL zq Z; subst hF hA; simp only [Bd.std, Ar.std] at * <;> grind [stdCmp, unI]; done)
  rename_i hx
  have he : a.length = c.length := by
    clear hfs hL zq Z hF
    subst hA
    simp only [Ar.std] at hx
    grind [stdCmp]
  clear hx
  subst hL
  refine loop_z (cx_ok hfs) (uqQ a c) (uqI A a c) (uqM a) uqR ⟨0, -1, -1⟩ ?_ ?_ ?_
  · exact ⟨Int.le_refl 0, Int.natCast_nonneg _, rfl, rfl⟩
  · cbv
    repeat' (first | exact trivial | exact rfl | refine And.intro ?_ ?_)
  rintro ⟨i, f, t⟩ ⟨q0, q1, q2, q3⟩ O hO
  dsimp only at q0 q1 q2 q3
  have hst := fun h => uq_step a c i f t hk q0 h q2 q3
  have hen := fun h => uq_end a c i f t hk he h q2 q3
  have hfi := fr_in a c i.toNat
  subst hA
  generalize hA : Ar.std = A
  generalize hL : Lp _ _ _ = L
  refine cd_close zq ?_
  repeat' (first
    | (refine z_open zq ?_; try dsimp only)
    | refine cd_seq zq ?_ (lp_mono hL)
    | refine cd_blk zq ?_
    | refine cd_ret ?_
    | refine cd_skip ?_
    | refine cd_exit ?_
    | refine cd_loop ?_
    | refine cd_cond rfl ?_
    | refine cd_condT rfl ?_
    | refine cd_condF rfl ?_
    | (refine Cd.mk ?_; cbv)
    | (refine Ends1.mk ?_; cbv)
    | (refine Fin1.mk ?_; cbv)
    | exact trivial
    | refine And.intro ?_ ?_
    | refine orf fun _ => ?_
    | refine ort fun _ => ?_)
  all_goals (clear hL hfs zq Z; subst hA hF hO; simp only [Bd.std, Ar.std] at * <;> grind [stdCmp, b_add, b_sub, b_mul, wr, uqQ, uqM])
theorem ok_unlike : ConOk Try.prog 29 (c_unlike Bd.std) := by
  refine con_of (FsOk.cons ok_lz (FsOk.cons ok_tz FsOk.nil rfl) rfl) Try.func29 rfl rfl fun xs h p hp => ?_
  unfold c_unlike at hp
  split at hp
  · cases hp
    exact ⟨lee_le rfl, fun hC _ => x_unlike _ _ hC⟩
  · cases hp

def c_at (F : Bd) : Con := fun xs h => match xs, h with
  | [.one (.val (.int .i64 n)), .one (.val (.int .i64 k))], [] => some ⟨F.b_modP k = true, .sa (I (F.b_mod n k)), [], [Any, Any]⟩
  | _, _ => none
set_option maxRecDepth 100000 in
theorem x_at (n : Int) (k : Int) (hC : Bd.std.b_modP k = true) : Does [] Try.f28 [.one (.val (.int .i64 n)), .one (.val (.int .i64 k))] [] ⟨Bd.std.b_modP k = true, .sa (I (Bd.std.b_mod n k)), [], [Any, Any]⟩ := by
  intro b gv
  have hp : 1 ≤ k ∧ k ≤ 4611686018427387904 := of_decide_eq_true (show decide (1 ≤ k ∧ k ≤ 4611686018427387904) = true from hC)
  have hk := mod_is (n := n) (k := k) (decide_eq_true hp.2) (by omega)
  generalize hF : Bd.std = F at hC ⊢
  generalize hA : Ar.std = A
  generalize hL : Lp _ _ _ = L
  obtain ⟨Z, zq⟩ := z_all
  refine cd_open (lp_mono hL) zq rfl ?_
  repeat' (first
    | (refine z_open zq ?_; try dsimp only)
    | refine cd_seq zq ?_ (lp_mono hL)
    | refine cd_blk zq ?_
    | refine cd_ret ?_
    | refine cd_skip ?_
    | refine cd_exit ?_
    | refine cd_loop ?_
    | refine cd_cond rfl ?_
    | refine cd_condT rfl ?_
    | refine cd_condF rfl ?_
    | (refine Cd.mk ?_; cbv)
    | (refine Ends1.mk ?_; cbv)
    | (refine Fin1.mk ?_; cbv)
    | exact trivial
    | refine And.intro ?_ ?_
    | refine orf fun _ => ?_
    | refine ort fun _ => ?_)
  all_goals
    clear hL zq Z
    subst hF hA
    simp only [Bd.std, Ar.std] at *
    try (grind [stdCmp])
theorem ok_at : ConOk Try.prog 28 (c_at Bd.std) := by
  refine con_of FsOk.nil Try.func28 rfl rfl fun xs h p hp => ?_
  unfold c_at at hp
  split at hp
  · cases hp
    exact ⟨lee_le rfl, fun hC _ => x_at _ _ hC⟩
  · cases hp

def c_rburst (F : Bd) : Con := fun xs h => match xs, h with
  | [.one (.sl none (.ints .u8 l)), .one (.val (.int .i64 a)), .one (.val (.int .u32 p))], [] => some ⟨F.b_sh l = true, .sa (Bytes (F.b_br l a p)), [], [Any, Any, Any]⟩
  | _, _ => none
theorem buN_nil (a p : Int) (h : 0 ≤ a) : ∀ i, buN [] a p i = []
  | 0 => rfl
  | i + 1 => by
    unfold buN
    rw [if_neg (fun q => by have := q.2; simp only [List.length_nil] at this; omega)]
    exact buN_nil a p h i
theorem br_nil (l : List Int) (a p : Int) (h : l.length = 0) : brI l a p = [] := by
  have : l = [] := List.eq_nil_of_length_eq_zero h
  subst this
  exact buN_nil _ p (br_mod [] a).1 32
set_option maxRecDepth 100000 in
theorem x_rburst (l : List Int) (a : Int) (p : Int) (hC : Bd.std.b_sh l = true) : Does [(28, c_at Bd.std), (55, c_burst CrcB.Bs1.std)] Try.f27 [.one (.sl none (.ints .u8 l)), .one (.val (.int .i64 a)), .one (.val (.int .u32 p))] [] ⟨Bd.std.b_sh l = true, .sa (Bytes (Bd.std.b_br l a p)), [], [Any, Any, Any]⟩ := by
  intro b gv
  have hk : l.length ≤ 100000 := of_decide_eq_true (show decide (l.length ≤ 100000) = true from hC)
  have hm := br_mod l a
  have hz := br_nil l a p
  have hfs := (FsOk.cons ok_at (FsOk.cons ok_burst FsOk.nil rfl) rfl)
  generalize hF : Bd.std = F at hC hfs ⊢
  generalize hG0 : CrcB.Bs1.std = G0 at hC hfs ⊢
  generalize hA : Ar.std = A
  generalize hL : Lp _ _ _ = L
  obtain ⟨Z, zq⟩ := z_all
  refine cd_open (lp_mono hL) zq rfl ?_
  repeat' (first
    | (refine z_open zq ?_; try dsimp only)
    | refine cd_seq zq ?_ (lp_mono hL)
    | refine cd_blk zq ?_
    | refine cd_ret ?_
    | refine cd_skip ?_
    | refine cd_exit ?_
    | refine cd_loop ?_
    | refine cd_cond rfl ?_
    | refine cd_condT rfl ?_
    | refine cd_condF rfl ?_
    | (refine Cd.mk ?_; cbv)
    | (refine Ends1.mk ?_; cbv)
    | (refine Fin1.mk ?_; cbv)
    | exact trivial
    | refine And.intro ?_ ?_
    | refine orf fun _ => ?_
    | refine ort fun _ => ?_)
  all_goals
    clear hL zq Z hfs
    subst hF hA hG0
    have e8 : stdBin .mul .i64 8 (l.length : Int) = 8 * l.length := by rw [b_mul, wr _ (by omega) (by omega)]
    simp only [Bd.std, CrcB.Bs1.std, Ar.std, e8] at *
    try (grind [stdCmp, modP, CrcB.okU, brI])
theorem ok_rburst : ConOk Try.prog 27 (c_rburst Bd.std) := by
  refine con_of (FsOk.cons ok_at (FsOk.cons ok_burst FsOk.nil rfl) rfl) Try.func27 rfl rfl fun xs h p hp => ?_
  unfold c_rburst at hp
  split at hp
  · cases hp
    exact ⟨lee_le rfl, fun hC _ => x_rburst _ _ _ hC⟩
  · cases hp

def c_rreads (F : Bd) : Con := fun xs h => match xs, h with
  | [.one (.sl none (.ints .u8 l))], [] => some ⟨F.b_by l = true, .sa (B (F.b_rd l)), [], [Any]⟩
  | _, _ => none
set_option maxRecDepth 100000 in
theorem x_rreads (l : List Int) (hC : Bd.std.b_by l = true) : Does [(21, c_rdecode Qs.std)] Try.f32 [.one (.sl none (.ints .u8 l))] [] ⟨Bd.std.b_by l = true, .sa (B (Bd.std.b_rd l)), [], [Any]⟩ := by
  intro b gv
  have hk := dec_is (of_decide_eq_true (show decide (∀ x ∈ l, 0 ≤ x ∧ x ≤ 255) = true from hC))
  have hfs := (FsOk.cons ok_rdecode FsOk.nil rfl)
  generalize hF : Bd.std = F at hC hfs ⊢
  generalize hG0 : Qs.std = G0 at hC hfs ⊢
  generalize hA : Ar.std = A
  generalize hL : Lp _ _ _ = L
  obtain ⟨Z, zq⟩ := z_all
  refine cd_open (lp_mono hL) zq rfl ?_
  repeat' (first
    | (refine z_open zq ?_; try dsimp only)
    | refine cd_seq zq ?_ (lp_mono hL)
    | refine cd_blk zq ?_
    | refine cd_ret ?_
    | refine cd_skip ?_
    | refine cd_exit ?_
    | refine cd_loop ?_
    | refine cd_cond rfl ?_
    | refine cd_condT rfl ?_
    | refine cd_condF rfl ?_
    | (refine Cd.mk ?_; cbv)
    | (refine Ends1.mk ?_; cbv)
    | (refine Fin1.mk ?_; cbv)
    | exact trivial
    | refine And.intro ?_ ?_
    | refine orf fun _ => ?_
    | refine ort fun _ => ?_)
  all_goals
    clear hL zq Z hfs
    subst hF hA hG0
    simp only [Bd.std, Qs.std, Ar.std] at *
    try (grind [stdCmp, rdB])
theorem ok_rreads : ConOk Try.prog 32 (c_rreads Bd.std) := by
  refine con_of (FsOk.cons ok_rdecode FsOk.nil rfl) Try.func32 rfl rfl fun xs h p hp => ?_
  unfold c_rreads at hp
  split at hp
  · cases hp
    exact ⟨lee_le rfl, fun hC _ => x_rreads _ hC⟩
  · cases hp
end Go.Proofs.Ytdfknpjlapaadaa.BeR
