/-
  bits that are turned within 32 in a row. No condition.
-/
import Derived.Test.YtphbfoafgfnmmaaRyZ
import Derived.Test.YtphbfoafgfnmmaaCrcT
import Derived.Test.YtphbfoafgfnmmaaCrcV
namespace Go.Proofs.Ytphbfoafgfnmmaa.CrcB
open Go Go.Proofs.Ytphbfoafgfnmmaa.Ry Go.Proofs.Ytphbfoafgfnmmaa.CrcS Go.Proofs.Ytphbfoafgfnmmaa.CrcR Go.Proofs.Ytphbfoafgfnmmaa.CrcT Go.Proofs.Ytphbfoafgfnmmaa.CrcV

def pb (p i : Int) : Bool := stdCmp .eql (stdBin .rem .u32 (stdBin .shr .u32 p (IntKind.u64.wrap (stdBin .sub .i64 31 i))) 2) 1
def one8 (k : Int) : Int := stdBin .shl .u8 1 (IntKind.u64.wrap (stdBin .sub .i64 7 (stdBin .rem .i64 k 8)))
def buN (l : List Int) (a p : Int) : Nat → List Int
  | 0 => l
  | i + 1 => if pb p i = true ∧ a + i < 8 * l.length then (buN l a p i).set ((a + i) / 8).toNat (stdBin .xor .u8 ((buN l a p i).getD ((a + i) / 8).toNat 0) (one8 (a + i))) else buN l a p i
def buL (l : List Int) (a p : Int) : List Int := buN l a p 32
def okU (l : List Int) (a : Int) : Bool := decide (0 ≤ a ∧ a ≤ 1000000 ∧ l.length ≤ 1000000)
theorem bu_len (l : List Int) (a p : Int) : ∀ i, (buN l a p i).length = l.length
  | 0 => rfl
  | i + 1 => by
    unfold buN
    split
    · rw [List.length_set, bu_len l a p i]
    · exact bu_len l a p i
structure XU where
  i : Int
  o : List Int
def buQ (l : List Int) (a p : Int) (y : XU) : Prop := 0 ≤ y.i ∧ y.i ≤ 32 ∧ y.o = buN l a p y.i.toNat
noncomputable def buI (l : List Int) (a p : Int) (y : XU) : St := stOf Try.f59.ntmps [(0, .sl none (.ints .u8 l)), (1, .val (.int .i64 a)), (2, .val (.int .u32 p)), (7, .own 1), (8, .val (.int .i64 y.i))] [(1, .row 5 (.ints .u8 y.o))] [Any, Any, Any]
def buM (y : XU) : Nat := (32 - y.i).toNat
def buR (st : St) : XU := ⟨slotI st 8, slotL st 7⟩
theorem bu_step (l : List Int) (a p i : Int) (o : List Int) (hok : okU l a = true) (h0 : 0 ≤ i) (h1 : i < 32) (ho : o = buN l a p i.toNat) :
    stdBin .add .i64 a i = a + i ∧ stdBin .mul .i64 8 l.length = 8 * l.length ∧ stdBin .quo .i64 (a + i) 8 = (a + i) / 8 ∧ 0 ≤ a + i ∧ 0 ≤ (a + i) / 8 ∧ o.length = l.length ∧
    (pb p i = true → a + i < 8 * l.length → o.set ((a + i) / 8).toNat (stdBin .xor .u8 (o.getD ((a + i) / 8).toNat 0) (one8 (a + i))) = buN l a p (i + 1).toNat) ∧
    (¬ (pb p i = true ∧ a + i < 8 * l.length) → o = buN l a p (i + 1).toNat) := by
  have hk := of_decide_eq_true hok
  obtain ⟨n, rfl⟩ := Int.eq_ofNat_of_zero_le h0
  have e : ((n : Int) + 1).toNat = n + 1 := by omega
  have hl := bu_len l a p n
  simp only [Int.toNat_natCast] at ho
  refine ⟨by rw [b_add, wr _ (by omega) (by omega)], by rw [b_mul, wr _ (by omega) (by omega)], ?_, by omega, by omega, by rw [ho, hl], fun h2 h3 => ?_, fun h2 => ?_⟩
  · rw [b_quo, Int.tdiv_eq_ediv_of_nonneg (by omega), wr _ (by omega) (by omega)]
  · rw [e]
    show _ = (if pb p n = true ∧ a + n < 8 * l.length then _ else _)
    rw [if_pos ⟨h2, h3⟩, ho]
  · rw [e]
    show _ = (if pb p n = true ∧ a + n < 8 * l.length then _ else _)
    rw [if_neg h2, ho]

structure Bs1 where
  b_bu : List Int → Int → Int → List Int
  b_ok : List Int → Int → Bool
def Bs1.std : Bs1 := ⟨buL, okU⟩

def c_burst (F : Bs1) : Con := fun xs h => match xs, h with
  | [.one (.sl none (.ints .u8 l)), .one (.val (.int .i64 a)), .one (.val (.int .u32 p))], [] => some ⟨F.b_ok l a = true, .sa (Bytes (F.b_bu l a p)), [], [Any, Any, Any]⟩
  | _, _ => none
set_option maxHeartbeats 1000000 in
set_option maxRecDepth 100000 in
theorem x_burst (l : List Int) (a : Int) (p : Int) (hC : Bs1.std.b_ok l a = true) : Does [(ownKey 1000, noCon)] Try.f59 [.one (.sl none (.ints .u8 l)), .one (.val (.int .i64 a)), .one (.val (.int .u32 p))] [] ⟨Bs1.std.b_ok l a = true, .sa (Bytes (Bs1.std.b_bu l a p)), [], [Any, Any, Any]⟩ := by
  intro b gv
  have hk : okU l a = true := hC
  have hkk := of_decide_eq_true hk
  have hfs := (FsOk.own (u := 1000) FsOk.nil)
  generalize hF : Bs1.std = F at hC hfs ⊢
  generalize hA : Ar.std = A
  generalize hL : Lp _ _ _ = L
  obtain ⟨Z, zq⟩ := z_all
  refine @cd_open _ _ _ _ _ _ _ (lp_mono hL) _ _ zq rfl ?_
  repeat' (first
    | (refine z_open zq ?_; try dsimp only)
    | refine cd_seq zq ?_ (lp_mono hL)
    | refine cd_blk zq ?_
    | refine cd_ret ?_
    | refine cd_skip ?_
    | refine cd_exit ?_
    | refine cd_loop ?_
    | refine cd_cond rfl ?_
    | refine cd_condT rfl ?_
    | refine cd_condF rfl ?_
    | (refine Cd.mk ?_; cbv)
    | (refine Ends1.mk ?_; cbv)
    | (refine Fin1.mk ?_; cbv)
    | exact trivial
    | refine And.intro ?_ ?_
    | refine orf fun _ => ?_
    | refine ort fun _ => ?_)
  all_goals first | (show L _ _ _; skip) | (clear hfs hL zq Z; subst hF hA; simp only [Ar.std, List.nil_append] at * <;> grind)
  subst hL
  refine loop_z (cx_ok hfs) (buQ l a p) (buI l a p) buM buR ⟨0, A.appI [] l⟩ ?_ ?_ ?_
  · subst hA
    exact ⟨Int.le_refl 0, show (0 : Int) ≤ 32 by decide, rfl⟩
  · cbv
    repeat' (first | exact trivial | exact rfl | refine And.intro ?_ ?_)
  rintro ⟨i, o⟩ ⟨q0, q1, q2⟩ O hO
  dsimp only at q0 q1 q2
  have hst := fun h => bu_step l a p i o hk q0 h q2
  have hen : i = 32 → o = buL l a p := fun h => by subst h; exact q2
  have hu := u64_lt
  have hpb : pb p i = stdCmp .eql (stdBin .rem .u32 (stdBin .shr .u32 p (IntKind.u64.wrap (stdBin .sub .i64 31 i))) 2) 1 := rfl
  have ho8 : ∀ k, one8 k = stdBin .shl .u8 1 (IntKind.u64.wrap (stdBin .sub .i64 7 (stdBin .rem .i64 k 8))) := fun _ => rfl
  subst hA
  generalize hA : Ar.std = A
  generalize hL : Lp _ _ _ = L
  refine cd_close zq ?_
  repeat' (first
    | (refine z_open zq ?_; try dsimp only)
    | refine cd_seq zq ?_ (lp_mono hL)
    | refine cd_blk zq ?_
    | refine cd_ret ?_
    | refine cd_skip ?_
    | refine cd_exit ?_
    | refine cd_loop ?_
    | refine cd_cond rfl ?_
    | refine cd_condT rfl ?_
    | refine cd_condF rfl ?_
    | (refine Cd.mk ?_; cbv)
    | (refine Ends1.mk ?_; cbv)
    | (refine Fin1.mk ?_; cbv)
    | exact trivial
    | refine And.intro ?_ ?_
    | refine orf fun _ => ?_
    | refine ort fun _ => ?_)
  all_goals (clear hL hfs zq Z; subst hA hF hO; simp only [Bs1.std, Ar.std] at * <;> grind [stdCmp, b_add, wr, buQ, buM])
theorem ok_burst : ConOk Try.prog 59 (c_burst Bs1.std) := by
  refine con_of (FsOk.own (u := 1000) FsOk.nil) Try.func59 rfl rfl fun xs h p hp => ?_
  unfold c_burst at hp
  split at hp
  · cases hp
    exact ⟨lee_le rfl, fun hC _ => @x_burst _ _ _ hC⟩
  · cases hp
end Go.Proofs.Ytphbfoafgfnmmaa.CrcB
