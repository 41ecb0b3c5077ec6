/-
  Bends over the reckoner: cuts and bursts alone (out of BeR, with no frames). No condition.
-/
import Derived.Test.YtphbfoafgfnmmaaCrcB
namespace Go.Proofs.Ytphbfoafgfnmmaa.BeK
open Go Go.Proofs.Ytphbfoafgfnmmaa.Ry
open Go.Proofs.Ytphbfoafgfnmmaa.CrcB (c_burst ok_burst buL buN)
def modI (n k : Int) : Int := if k < 1 then 0 else n % k
def modB (k : Int) : Bool := decide (k ≤ 4611686018427387904)
def modP (k : Int) : Bool := decide (1 ≤ k ∧ k ≤ 4611686018427387904)
def firB (l : List Int) (n : Int) : Bool := decide (0 ≤ n ∧ n ≤ l.length ∧ l.length ≤ 1000000)
def firI (l : List Int) (n : Int) : List Int := l.take n.toNat
def cutI (l : List Int) (n : Int) : List Int := l.take (modI n (l.length + 1)).toNat
def brI (l : List Int) (a p : Int) : List Int := buL l (modI a (8 * l.length)) p
def brB (l : List Int) (p : Int) : Bool := decide (l.length ≤ 100000 ∧ 0 ≤ p)
theorem mod_is {n k : Int} (h : modB k = true) (h1 : ¬ k < 1) : (stdBin .rem .i64 n k < 0 → stdBin .add .i64 (stdBin .rem .i64 n k) k = modI n k) ∧ (¬ stdBin .rem .i64 n k < 0 → stdBin .rem .i64 n k = modI n k) ∧ 0 ≤ modI n k ∧ modI n k < k := by
  have hk := of_decide_eq_true h
  have h2 := Int.emod_nonneg n (show k ≠ 0 by omega)
  have h3 := Int.emod_lt_of_pos n (show 0 < k by omega)
  have ht : n.tmod k = n % k - ((if 0 ≤ n ∨ k ∣ n then 0 else k.natAbs : Nat) : Int) := Int.tmod_eq_emod (a := n) (b := k)
  unfold modI
  rw [if_neg h1, b_rem, b_add]
  have e : (k.natAbs : Int) = k := by omega
  split at ht
  · rw [ht]
    exact ⟨fun q => by omega, fun _ => by omega, h2, h3⟩
  · rw [e] at ht
    rw [ht]
    exact ⟨fun _ => by rw [wr _ (by omega) (by omega)]; omega, fun q => by omega, h2, h3⟩
theorem msk : ∀ r : Fin 8, stdBin .shr .u8 128 (r.val : Int) = stdBin .shl .u8 1 (IntKind.u64.wrap (stdBin .sub .i64 7 (r.val : Int))) := by decide +kernel
theorem msk_is {k : Int} (h : 0 ≤ k) : stdBin .shr .u8 128 (stdBin .rem .i64 k 8) = CrcB.one8 k ∧ ¬ stdBin .rem .i64 k 8 < 0 := by
  rw [CrcB.one8, b_rem, Int.tmod_eq_emod_of_nonneg h]
  have h1 := Int.emod_nonneg k (show (8 : Int) ≠ 0 by decide)
  have h2 := Int.emod_lt_of_pos k (show (0 : Int) < 8 by decide)
  have := msk ⟨(k % 8).toNat, by omega⟩
  simp only [Int.toNat_of_nonneg h1] at this
  exact ⟨this, by omega⟩
theorem pb_is {p i : Int} (hp : 0 ≤ p) (h0 : 0 ≤ i) (h1 : i < 32) : stdBin .sub .i64 31 i = 31 - i ∧ stdCmp .eql (stdBin .and .u32 (stdBin .shr .u32 p (31 - i)) 1) 1 = CrcB.pb p i := by
  have e : stdBin .sub .i64 31 i = 31 - i := by rw [b_sub, wr _ (by omega) (by omega)]
  refine ⟨e, ?_⟩
  unfold CrcB.pb
  rw [e, CrcS.and1, CrcS.wr64 _ (by omega) (by omega)]
  have hs : 0 ≤ stdBin .shr .u32 p (31 - i) := by
    show 0 ≤ p.fdiv _
    rw [Int.fdiv_eq_ediv_of_nonneg _ (Int.pow_nonneg (by decide))]
    exact Int.ediv_nonneg hp (Int.pow_nonneg (by decide))
  rw [b_rem, Int.tmod_eq_emod_of_nonneg hs]

structure Bd where
  b_mod : Int → Int → Int
  b_modB : Int → Bool
  b_modP : Int → Bool
  b_fir : List Int → Int → List Int
  b_firB : List Int → Int → Bool
  b_cut : List Int → Int → List Int
  b_sh : List Int → Bool
  b_br : List Int → Int → Int → List Int
  b_brB : List Int → Int → Bool
def Bd.std : Bd := ⟨modI, modB, modP, firI, firB, cutI, fun l => decide (l.length ≤ 100000), brI, brB⟩

def c_mod (F : Bd) : Con := fun xs h => match xs, h with
  | [.one (.val (.int .i64 n)), .one (.val (.int .i64 k))], [] => some ⟨F.b_modB k = true, .sa (I (F.b_mod n k)), [], [Any, Any]⟩
  | _, _ => none
set_option maxRecDepth 100000 in
theorem x_mod (n : Int) (k : Int) (hC : Bd.std.b_modB k = true) : Does [] Try.f50 [.one (.val (.int .i64 n)), .one (.val (.int .i64 k))] [] ⟨Bd.std.b_modB k = true, .sa (I (Bd.std.b_mod n k)), [], [Any, Any]⟩ := by
  intro b gv
  have hk := mod_is (n := n) (show modB k = true from hC)
  generalize hF : Bd.std = F at hC ⊢
  generalize hA : Ar.std = A
  generalize hL : Lp _ _ _ = L
  obtain ⟨Z, zq⟩ := z_all
  refine cd_open (lp_mono hL) zq rfl ?_
  repeat' (first
    | (refine z_open zq ?_; try dsimp only)
    | refine cd_seq zq ?_ (lp_mono hL)
    | refine cd_blk zq ?_
    | refine cd_ret ?_
    | refine cd_skip ?_
    | refine cd_exit ?_
    | refine cd_loop ?_
    | refine cd_cond rfl ?_
    | refine cd_condT rfl ?_
    | refine cd_condF rfl ?_
    | (refine Cd.mk ?_; cbv)
    | (refine Ends1.mk ?_; cbv)
    | (refine Fin1.mk ?_; cbv)
    | exact trivial
    | refine And.intro ?_ ?_
    | refine orf fun _ => ?_
    | refine ort fun _ => ?_)
  all_goals
    clear hL zq Z
    subst hF hA
    simp only [Bd.std, Ar.std] at *
    try (grind [stdCmp, modI])
theorem ok_mod : ConOk Try.prog 50 (c_mod Bd.std) := by
  refine con_of FsOk.nil Try.func50 rfl rfl fun xs h p hp => ?_
  unfold c_mod at hp
  split at hp
  · cases hp
    exact ⟨lee_le rfl, fun hC _ => x_mod _ _ hC⟩
  · cases hp

def c_first (F : Bd) : Con := fun xs h => match xs, h with
  | [.one (.sl none (.ints .u8 l)), .one (.val (.int .i64 n))], [] => some ⟨F.b_firB l n = true, .sa (.one (.own 0)), [(0, .row 5 (.ints .u8 (F.b_fir l n)))], [Any, Any]⟩
  | _, _ => none
set_option maxRecDepth 100000 in
theorem x_first (l : List Int) (n : Int) (hC : Bd.std.b_firB l n = true) : Does [] Try.f79 [.one (.sl none (.ints .u8 l)), .one (.val (.int .i64 n))] [] ⟨Bd.std.b_firB l n = true, .sa (.one (.own 0)), [(0, .row 5 (.ints .u8 (Bd.std.b_fir l n)))], [Any, Any]⟩ := by
  intro b gv
  have hk : 0 ≤ n ∧ n ≤ l.length ∧ l.length ≤ 1000000 := of_decide_eq_true (show decide (0 ≤ n ∧ n ≤ l.length ∧ l.length ≤ 1000000) = true from hC)
  have hd : (List.replicate n.toNat (0 : Int)).drop l.length = [] := by
    apply List.drop_eq_nil_of_le
    rw [List.length_replicate]
    omega
  generalize hF : Bd.std = F at hC ⊢
  generalize hA : Ar.std = A
  generalize hL : Lp _ _ _ = L
  obtain ⟨Z, zq⟩ := z_all
  refine cd_open (lp_mono hL) zq rfl ?_
  repeat' (first
    | (refine z_open zq ?_; try dsimp only)
    | refine cd_seq zq ?_ (lp_mono hL)
    | refine cd_blk zq ?_
    | refine cd_ret ?_
    | refine cd_skip ?_
    | refine cd_exit ?_
    | refine cd_loop ?_
    | refine cd_cond rfl ?_
    | refine cd_condT rfl ?_
    | refine cd_condF rfl ?_
    | (refine Cd.mk ?_; cbv)
    | (refine Ends1.mk ?_; cbv)
    | (refine Fin1.mk ?_; cbv)
    | exact trivial
    | refine And.intro ?_ ?_
    | refine orf fun _ => ?_
    | refine ort fun _ => ?_)
  all_goals
    clear hL zq Z
    subst hF hA
    have e1 : Int.ofNat 1 = 1 := rfl
    simp only [Bd.std, Ar.std, hd, List.length_replicate, List.append_nil, e1] at *
    try (grind [stdCmp, firI])
theorem ok_first : ConOk Try.prog 79 (c_first Bd.std) := by
  refine con_of FsOk.nil Try.func79 rfl rfl fun xs h p hp => ?_
  unfold c_first at hp
  split at hp
  · cases hp
    exact ⟨lee_le rfl, fun hC _ => x_first _ _ hC⟩
  · cases hp

def c_cut (F : Bd) : Con := fun xs h => match xs, h with
  | [.one (.sl none (.ints .u8 l)), .one (.val (.int .i64 n))], [] => some ⟨F.b_sh l = true, .sa (Bytes (F.b_cut l n)), [], [Any, Any]⟩
  | _, _ => none
set_option maxRecDepth 100000 in
theorem x_cut (l : List Int) (n : Int) (hC : Bd.std.b_sh l = true) : Does [(50, c_mod Bd.std), (79, c_first Bd.std)] Try.f72 [.one (.sl none (.ints .u8 l)), .one (.val (.int .i64 n))] [] ⟨Bd.std.b_sh l = true, .sa (Bytes (Bd.std.b_cut l n)), [], [Any, Any]⟩ := by
  intro b gv
  have hk : l.length ≤ 100000 := of_decide_eq_true (show decide (l.length ≤ 100000) = true from hC)
  have hm : 0 ≤ modI n (l.length + 1) ∧ modI n (l.length + 1) < l.length + 1 := (mod_is (n := n) (k := l.length + 1) (decide_eq_true (by omega)) (by omega)).2.2
  generalize hF : Bd.std = F at hC ⊢
  generalize hA : Ar.std = A
  generalize hL : Lp _ _ _ = L
  obtain ⟨Z, zq⟩ := z_all
  refine cd_open (lp_mono hL) zq rfl ?_
  repeat' (first
    | (refine z_open zq ?_; try dsimp only)
    | refine cd_seq zq ?_ (lp_mono hL)
    | refine cd_blk zq ?_
    | refine cd_ret ?_
    | refine cd_skip ?_
    | refine cd_exit ?_
    | refine cd_loop ?_
    | refine cd_cond rfl ?_
    | refine cd_condT rfl ?_
    | refine cd_condF rfl ?_
    | (refine Cd.mk ?_; cbv)
    | (refine Ends1.mk ?_; cbv)
    | (refine Fin1.mk ?_; cbv)
    | exact trivial
    | refine And.intro ?_ ?_
    | refine orf fun _ => ?_
    | refine ort fun _ => ?_)
  all_goals
    clear hL zq Z
    subst hF hA
    have e1 : stdBin .add .i64 (l.length : Int) 1 = l.length + 1 := by rw [b_add, wr _ (by omega) (by omega)]
    simp only [Bd.std, Ar.std, e1] at *
    try (grind [cutI, firI, firB, modB])
theorem ok_cut : ConOk Try.prog 72 (c_cut Bd.std) := by
  refine con_of (FsOk.cons ok_mod (FsOk.cons ok_first FsOk.nil rfl) rfl) Try.func72 rfl rfl fun xs h p hp => ?_
  unfold c_cut at hp
  split at hp
  · cases hp
    exact ⟨lee_le rfl, fun hC _ => x_cut _ _ hC⟩
  · cases hp

structure XB where
  i : Int
  o : List Int
def bdQ (l : List Int) (a p : Int) (y : XB) : Prop := 0 ≤ y.i ∧ y.i ≤ 32 ∧ y.o = buN l a p y.i.toNat
noncomputable def bdI (l : List Int) (a p : Int) (y : XB) : St := stOf Try.f73.ntmps [(0, .sl none (.ints .u8 l)), (1, .val (.int .i64 a)), (2, .val (.int .u32 p)), (7, .own 1), (18, .val (.int .i64 y.i))] [(1, .row 5 (.ints .u8 y.o))] [Any, Any, Any]
def bdM (y : XB) : Nat := (32 - y.i).toNat
def bdR (st : St) : XB := ⟨slotI st 18, slotL st 7⟩
theorem br_mod (l : List Int) (a : Int) : 0 ≤ modI a (8 * l.length) ∧ (0 < l.length → modI a (8 * l.length) < 8 * l.length) ∧ (¬ 0 < l.length → modI a (8 * l.length) = 0) := by
  by_cases h : 0 < l.length
  · unfold modI
    rw [if_neg (by omega)]
    exact ⟨Int.emod_nonneg a (by omega), fun _ => Int.emod_lt_of_pos a (by omega), fun q => absurd h q⟩
  · unfold modI
    rw [if_pos (by omega)]
    exact ⟨Int.le_refl 0, fun q => absurd q h, fun _ => rfl⟩
theorem br_top (l : List Int) (a : Int) (hl : l.length ≤ 100000) : modI a (8 * l.length) ≤ 800000 := by
  obtain ⟨h1, h2, h3⟩ := br_mod l a
  by_cases h : 0 < l.length
  · have := h2 h
    omega
  · rw [h3 h]
    decide

def c_burst2 (F : Bd) : Con := fun xs h => match xs, h with
  | [.one (.sl none (.ints .u8 l)), .one (.val (.int .i64 a)), .one (.val (.int .u32 p))], [] => some ⟨F.b_brB l p = true, .sa (Bytes (F.b_br l a p)), [], [Any, Any, Any]⟩
  | _, _ => none
set_option maxHeartbeats 1000000 in
set_option maxRecDepth 100000 in
theorem x_burst2 (l : List Int) (a : Int) (p : Int) (hC : Bd.std.b_brB l p = true) : Does [(79, c_first Bd.std), (50, c_mod Bd.std)] Try.f73 [.one (.sl none (.ints .u8 l)), .one (.val (.int .i64 a)), .one (.val (.int .u32 p))] [] ⟨Bd.std.b_brB l p = true, .sa (Bytes (Bd.std.b_br l a p)), [], [Any, Any, Any]⟩ := by
  intro b gv
  have hk : l.length ≤ 100000 ∧ 0 ≤ p := of_decide_eq_true (show decide (l.length ≤ 100000 ∧ 0 ≤ p) = true from hC)
  have hm := br_mod l a
  have ht := br_top l a hk.1
  have hfs := (FsOk.cons ok_first (FsOk.cons ok_mod FsOk.nil rfl) rfl)
  generalize hF : Bd.std = F at hC hfs ⊢
  generalize hA : Ar.std = A
  generalize hL : Lp _ _ _ = L
  obtain ⟨Z, zq⟩ := z_all
  refine cd_open (lp_mono hL) zq rfl ?_
  repeat' (first
    | (refine z_open zq ?_; try dsimp only)
    | refine cd_seq zq ?_ (lp_mono hL)
    | refine cd_blk zq ?_
    | refine cd_ret ?_
    | refine cd_skip ?_
    | refine cd_exit ?_
    | refine cd_loop ?_
    | refine cd_cond rfl ?_
    | refine cd_condT rfl ?_
    | refine cd_condF rfl ?_
    | (refine Cd.mk ?_; cbv)
    | (refine Ends1.mk ?_; cbv)
    | (refine Fin1.mk ?_; cbv)
    | exact trivial
    | refine And.intro ?_ ?_
    | refine orf fun _ => ?_
    | refine ort fun _ => ?_)
  all_goals first | (show L _ _ _; skip) | (clear hfs hL zq Z; subst hF hA; simp only [Bd.std, Ar.std] at * <;> grind [b_mul, wr, firB, modB]; done)
  subst hL
  refine loop_z (cx_ok hfs) (bdQ l (modI a (8 * l.length)) p) (bdI l (F.b_mod a (A.bin .mul .i64 8 (A.lenI l))) p) bdM bdR ⟨0, F.b_fir l (A.lenI l)⟩ ?_ ?_ ?_
  · subst hF hA
    refine ⟨Int.le_refl 0, show (0 : Int) ≤ 32 by decide, ?_⟩
    show l.take (l.length : Int).toNat = l
    rw [Int.toNat_natCast, List.take_length]
  · cbv
    repeat' (first | exact trivial | exact rfl | refine And.intro ?_ ?_)
  have en : F.b_mod a (A.bin .mul .i64 8 (A.lenI l)) = modI a (8 * l.length) := by
    subst hF hA
    show modI a (stdBin .mul .i64 8 (l.length : Int)) = _
    rw [b_mul, wr _ (by omega) (by omega)]
  rw [en]
  have hb : brI l a p = buL l (modI a (8 * l.length)) p := rfl
  generalize modI a (8 * l.length) = n at *
  rintro ⟨i, o⟩ ⟨q0, q1, q2⟩ O hO
  dsimp only at q0 q1 q2
  have hn0 := hm.1
  have hok : CrcB.okU l n = true := decide_eq_true ⟨hn0, by omega, by omega⟩
  have hst := fun h => CrcB.bu_step l n p i o hok q0 h q2
  have hen : i = 32 → o = brI l a p := fun h => by subst h; rw [hb]; exact q2
  have hpb := fun h => pb_is hk.2 q0 h
  have hms := msk_is (k := n + i) (by omega)
  have hq8 : stdBin .quo .i64 (n + i) 8 = (n + i) / 8 := by rw [b_quo, Int.tdiv_eq_ediv_of_nonneg (by omega), wr _ (by omega) (by omega)]
  clear hb en
  subst hA
  generalize hA : Ar.std = A
  generalize hL : Lp _ _ _ = L
  refine cd_close zq ?_
  repeat' (first
    | (refine z_open zq ?_; try dsimp only)
    | refine cd_seq zq ?_ (lp_mono hL)
    | refine cd_blk zq ?_
    | refine cd_ret ?_
    | refine cd_skip ?_
    | refine cd_exit ?_
    | refine cd_loop ?_
    | refine cd_cond rfl ?_
    | refine cd_condT rfl ?_
    | refine cd_condF rfl ?_
    | (refine Cd.mk ?_; cbv)
    | (refine Ends1.mk ?_; cbv)
    | (refine Fin1.mk ?_; cbv)
    | exact trivial
    | refine And.intro ?_ ?_
    | refine orf fun _ => ?_
    | refine ort fun _ => ?_)
  all_goals (clear hL hfs zq Z; subst hA hF hO; simp only [Bd.std, Ar.std] at * <;> grind [stdCmp, b_add, b_mul, wr, bdQ, bdM])
theorem ok_burst2 : ConOk Try.prog 73 (c_burst2 Bd.std) := by
  refine con_of (FsOk.cons ok_first (FsOk.cons ok_mod FsOk.nil rfl) rfl) Try.func73 rfl rfl fun xs h p hp => ?_
  unfold c_burst2 at hp
  split at hp
  · cases hp
    exact ⟨lee_le rfl, fun hC _ => x_burst2 _ _ _ hC⟩
  · cases hp

def c_at (F : Bd) : Con := fun xs h => match xs, h with
  | [.one (.val (.int .i64 n)), .one (.val (.int .i64 k))], [] => some ⟨F.b_modP k = true, .sa (I (F.b_mod n k)), [], [Any, Any]⟩
  | _, _ => none
set_option maxRecDepth 100000 in
theorem x_at (n : Int) (k : Int) (hC : Bd.std.b_modP k = true) : Does [] Try.f36 [.one (.val (.int .i64 n)), .one (.val (.int .i64 k))] [] ⟨Bd.std.b_modP k = true, .sa (I (Bd.std.b_mod n k)), [], [Any, Any]⟩ := by
  intro b gv
  have hp : 1 ≤ k ∧ k ≤ 4611686018427387904 := of_decide_eq_true (show decide (1 ≤ k ∧ k ≤ 4611686018427387904) = true from hC)
  have hk := mod_is (n := n) (k := k) (decide_eq_true hp.2) (by omega)
  generalize hF : Bd.std = F at hC ⊢
  generalize hA : Ar.std = A
  generalize hL : Lp _ _ _ = L
  obtain ⟨Z, zq⟩ := z_all
  refine cd_open (lp_mono hL) zq rfl ?_
  repeat' (first
    | (refine z_open zq ?_; try dsimp only)
    | refine cd_seq zq ?_ (lp_mono hL)
    | refine cd_blk zq ?_
    | refine cd_ret ?_
    | refine cd_skip ?_
    | refine cd_exit ?_
    | refine cd_loop ?_
    | refine cd_cond rfl ?_
    | refine cd_condT rfl ?_
    | refine cd_condF rfl ?_
    | (refine Cd.mk ?_; cbv)
    | (refine Ends1.mk ?_; cbv)
    | (refine Fin1.mk ?_; cbv)
    | exact trivial
    | refine And.intro ?_ ?_
    | refine orf fun _ => ?_
    | refine ort fun _ => ?_)
  all_goals
    clear hL zq Z
    subst hF hA
    simp only [Bd.std, Ar.std] at *
    try (grind [stdCmp])
theorem ok_at : ConOk Try.prog 36 (c_at Bd.std) := by
  refine con_of FsOk.nil Try.func36 rfl rfl fun xs h p hp => ?_
  unfold c_at at hp
  split at hp
  · cases hp
    exact ⟨lee_le rfl, fun hC _ => x_at _ _ hC⟩
  · cases hp

def c_rburst (F : Bd) : Con := fun xs h => match xs, h with
  | [.one (.sl none (.ints .u8 l)), .one (.val (.int .i64 a)), .one (.val (.int .u32 p))], [] => some ⟨F.b_sh l = true, .sa (Bytes (F.b_br l a p)), [], [Any, Any, Any]⟩
  | _, _ => none
theorem buN_nil (a p : Int) (h : 0 ≤ a) : ∀ i, buN [] a p i = []
  | 0 => rfl
  | i + 1 => by
    unfold buN
    rw [if_neg (fun q => by have := q.2; simp only [List.length_nil] at this; omega)]
    exact buN_nil a p h i
theorem br_nil (l : List Int) (a p : Int) (h : l.length = 0) : brI l a p = [] := by
  have : l = [] := List.eq_nil_of_length_eq_zero h
  subst this
  exact buN_nil _ p (br_mod [] a).1 32
set_option maxRecDepth 100000 in
theorem x_rburst (l : List Int) (a : Int) (p : Int) (hC : Bd.std.b_sh l = true) : Does [(36, c_at Bd.std), (59, c_burst CrcB.Bs1.std)] Try.f37 [.one (.sl none (.ints .u8 l)), .one (.val (.int .i64 a)), .one (.val (.int .u32 p))] [] ⟨Bd.std.b_sh l = true, .sa (Bytes (Bd.std.b_br l a p)), [], [Any, Any, Any]⟩ := by
  intro b gv
  have hk : l.length ≤ 100000 := of_decide_eq_true (show decide (l.length ≤ 100000) = true from hC)
  have hm := br_mod l a
  have hz := br_nil l a p
  have hfs := (FsOk.cons ok_at (FsOk.cons ok_burst FsOk.nil rfl) rfl)
  generalize hF : Bd.std = F at hC hfs ⊢
  generalize hG0 : CrcB.Bs1.std = G0 at hC hfs ⊢
  generalize hA : Ar.std = A
  generalize hL : Lp _ _ _ = L
  obtain ⟨Z, zq⟩ := z_all
  refine cd_open (lp_mono hL) zq rfl ?_
  repeat' (first
    | (refine z_open zq ?_; try dsimp only)
    | refine cd_seq zq ?_ (lp_mono hL)
    | refine cd_blk zq ?_
    | refine cd_ret ?_
    | refine cd_skip ?_
    | refine cd_exit ?_
    | refine cd_loop ?_
    | refine cd_cond rfl ?_
    | refine cd_condT rfl ?_
    | refine cd_condF rfl ?_
    | (refine Cd.mk ?_; cbv)
    | (refine Ends1.mk ?_; cbv)
    | (refine Fin1.mk ?_; cbv)
    | exact trivial
    | refine And.intro ?_ ?_
    | refine orf fun _ => ?_
    | refine ort fun _ => ?_)
  all_goals
    clear hL zq Z hfs
    subst hF hA hG0
    have e8 : stdBin .mul .i64 8 (l.length : Int) = 8 * l.length := by rw [b_mul, wr _ (by omega) (by omega)]
    simp only [Bd.std, CrcB.Bs1.std, Ar.std, e8] at *
    try (grind [stdCmp, modP, CrcB.okU, brI])
theorem ok_rburst : ConOk Try.prog 37 (c_rburst Bd.std) := by
  refine con_of (FsOk.cons ok_at (FsOk.cons ok_burst FsOk.nil rfl) rfl) Try.func37 rfl rfl fun xs h p hp => ?_
  unfold c_rburst at hp
  split at hp
  · cases hp
    exact ⟨lee_le rfl, fun hC _ => x_rburst _ _ _ hC⟩
  · cases hp

end Go.Proofs.Ytphbfoafgfnmmaa.BeK
