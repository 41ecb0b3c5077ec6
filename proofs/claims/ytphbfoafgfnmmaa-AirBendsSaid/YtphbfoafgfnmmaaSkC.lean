/-
  which airs may be. No condition but size.
-/
import Derived.Test.YtphbfoafgfnmmaaSkO
namespace Go.Proofs.Ytphbfoafgfnmmaa.SkC
open Go Go.Proofs.Ytphbfoafgfnmmaa.Ry Go.Proofs.Ytphbfoafgfnmmaa.SkR Go.Proofs.Ytphbfoafgfnmmaa.SkT Go.Proofs.Ytphbfoafgfnmmaa.SkO Go.Proofs.Ytphbfoafgfnmmaa.Cmp Go.Proofs.Ytphbfoafgfnmmaa.EcX

open Go.Proofs.Ytphbfoafgfnmmaa.EgR (c_cmpi ok_cmpi c_ori ok_ori c_echeckall ok_echeckall allE)
def beF (a b c d : Int) : Int := orF [sgn a c, sgn b d]
def outE (l : List E) (k : Nat) : Bool := decide (beF (ri (l.getD k []) 0) (ri (l.getD k []) 1) (ri (l.getD (k - 1) []) 0) (ri (l.getD (k - 1) []) 1) < 0)
def srtB (l : List E) : Bool := decide (∀ k : Nat, k < l.length → 0 < k → outE l k = false)
structure XS where
  i : Int
def isQ (l : List E) (y : XS) : Prop := -1 ≤ y.i ∧ y.i < l.length ∧ (0 ≤ y.i ∨ l.length = 0) ∧ ∀ k : Nat, k < l.length → y.i < k → outE l k = false
def isM (y : XS) : Nat := (y.i + 1).toNat
theorem is_zero {l : List E} (hl : l.length ≤ 1000000) : stdBin .sub .i64 (l.length : Int) 1 = (l.length : Int) - 1 ∧ isQ l ⟨(l.length : Int) - 1⟩ := by
  refine ⟨by rw [b_sub, wr _ (by omega) (by omega)], by simp only; omega, by simp only; omega, by simp only; omega, fun k h1 h2 => ?_⟩
  simp only at h2
  omega
theorem is_step {l : List E} (hl : l.length ≤ 1000000) {i : Int} (hq : isQ l ⟨i⟩) (h : 0 < i) : stdBin .sub .i64 i 1 = i - 1 ∧ (i - 1).toNat = i.toNat - 1 ∧ isM ⟨i - 1⟩ < isM ⟨i⟩ ∧ (¬ beF (ri (l.getD i.toNat []) 0) (ri (l.getD i.toNat []) 1) (ri (l.getD (i - 1).toNat []) 0) (ri (l.getD (i - 1).toNat []) 1) < 0 → isQ l ⟨i - 1⟩) ∧ (beF (ri (l.getD i.toNat []) 0) (ri (l.getD i.toNat []) 1) (ri (l.getD (i - 1).toNat []) 0) (ri (l.getD (i - 1).toNat []) 1) < 0 → srtB l = false) := by
  obtain ⟨h0, h1, h2, h3⟩ := hq
  simp only at h0 h1 h2 h3
  have e : (i - 1).toNat = i.toNat - 1 := by omega
  rw [e]
  refine ⟨by rw [b_sub, wr _ (by omega) (by omega)], rfl, by simp only [isM]; omega, fun g => ⟨by simp only; omega, by simp only; omega, by simp only; omega, fun k a b => ?_⟩, fun g => decide_eq_false fun a => ?_⟩
  · simp only at b
    by_cases c : k = i.toNat
    · subst c
      exact decide_eq_false g
    · exact h3 k a (by omega)
  · have := a i.toNat (by omega) (by omega)
    unfold outE at this
    exact absurd g (of_decide_eq_false this)
theorem is_end {l : List E} {i : Int} (hq : isQ l ⟨i⟩) (h : ¬ 0 < i) : srtB l = true := by
  obtain ⟨h0, h1, h2, h3⟩ := hq
  simp only at h0 h1 h2 h3
  exact decide_eq_true fun k a b => h3 k a (by omega)
noncomputable def isI (l : List E) (y : XS) : St := stOf Try.f30.ntmps [(0, .sl none (.recs (.int .i64 (.int .i64 (.int .i64 .nil))) l)), (1, .val (.func (.func 31) ⟨[]⟩ ⟨[]⟩)), (5, .val (.int .i64 y.i))] [] [Any, Any]
def isR (st : St) : XS := ⟨slotI st 5⟩

structure Sc where
  c_be : Int → Int → Int → Int → Int
  c_s : List E → Bool
  c_l : List E → Bool
def Sc.std : Sc := ⟨beF, srtB, fun l => decide (l.length ≤ 1000000)⟩

def c_byends (F : Sc) : Con := fun xs h => match xs, h with
  | [.agg [.val (.int .i64 x_a), .val (.int .i64 x_b), .val (.int .i64 _)], .agg [.val (.int .i64 y_a), .val (.int .i64 y_b), .val (.int .i64 _)]], [] => some ⟨True, .sa (I (F.c_be x_a x_b y_a y_b)), [], [Any, Any]⟩
  | _, _ => none
set_option maxHeartbeats 2000000 in
set_option maxRecDepth 100000 in
theorem x_byends (x_a : Int) (x_b : Int) (x_w : Int) (y_a : Int) (y_b : Int) (y_w : Int) : Does [(56, c_cmpi EgR.Fs.std), (55, c_ori EgR.Fs.std)] Try.f31 [.agg [.val (.int .i64 x_a), .val (.int .i64 x_b), .val (.int .i64 x_w)], .agg [.val (.int .i64 y_a), .val (.int .i64 y_b), .val (.int .i64 y_w)]] [] ⟨True, .sa (I (Sc.std.c_be x_a x_b y_a y_b)), [], [Any, Any]⟩ := by
  intro b gv
  have hfs := (FsOk.cons ok_cmpi (FsOk.cons ok_ori FsOk.nil rfl) rfl)
  generalize hF : Sc.std = F at hfs ⊢
  generalize hG0 : EgR.Fs.std = G0 at hfs ⊢
  generalize hG1 : SkT.Tb.std = G1 at hfs ⊢
  generalize hA : Ar.std = A
  generalize hL : Lp _ _ _ = L
  obtain ⟨Z, zq⟩ := z_all
  refine @cd_open _ _ _ _ _ _ _ (lp_mono hL) _ _ zq rfl ?_
  repeat' (first
    | (refine z_open zq ?_; try dsimp only)
    | refine cd_seq zq ?_ (lp_mono hL)
    | refine cd_blk zq ?_
    | refine cd_ret ?_
    | refine cd_skip ?_
    | refine cd_exit ?_
    | refine cd_loop ?_
    | refine cd_cond rfl ?_
    | refine cd_condT rfl ?_
    | refine cd_condF rfl ?_
    | (refine Cd.mk ?_; cbv)
    | (refine Ends1.mk ?_; cbv)
    | (refine Fin1.mk ?_; cbv)
    | exact trivial
    | refine And.intro ?_ ?_
    | refine orf fun _ => ?_
    | refine ort fun _ => ?_)
  skip -- hfs
  all_goals (clear hL hfs zq Z; subst hA hF hG0 hG1; simp only [Sc.std, EgR.Fs.std] at * <;> grind [stdCmp, beF]; done)
theorem ok_byends : ConOk Try.prog 31 (c_byends Sc.std) := by
  refine con_of (FsOk.cons ok_cmpi (FsOk.cons ok_ori FsOk.nil rfl) rfl) Try.func31 rfl rfl fun xs h p hp => ?_
  unfold c_byends at hp
  split at hp
  · cases hp
    exact ⟨lee_le rfl, fun _ _ => @x_byends _ _ _ _ _ _⟩
  · cases hp

def c_issorted (F : Sc) : Con := fun xs h => match xs, h with
  | [.one (.sl none (.recs (.int .i64 (.int .i64 (.int .i64 .nil))) l)), .one (.val (.func (.func 31) ⟨[]⟩ ⟨[]⟩))], [] => some ⟨F.c_l l = true, .sa (B (F.c_s l)), [], [Any, Any]⟩
  | _, _ => none
set_option maxHeartbeats 2000000 in
set_option maxRecDepth 100000 in
theorem x_issorted (l : List E) (hC : Sc.std.c_l l = true) : Does [(31, c_byends Sc.std)] Try.f30 [.one (.sl none (.recs (.int .i64 (.int .i64 (.int .i64 .nil))) l)), .one (.val (.func (.func 31) ⟨[]⟩ ⟨[]⟩))] [] ⟨Sc.std.c_l l = true, .sa (B (Sc.std.c_s l)), [], [Any, Any]⟩ := by
  intro b gv
  have hk : l.length ≤ 1000000 := of_decide_eq_true (show decide (l.length ≤ 1000000) = true from hC)
  have hz := is_zero hk
  have hfs := (FsOk.cons ok_byends FsOk.nil rfl)
  generalize hF : Sc.std = F at hC hfs ⊢
  generalize hG0 : EgR.Fs.std = G0 at hC hfs ⊢
  generalize hG1 : SkT.Tb.std = G1 at hC hfs ⊢
  generalize hA : Ar.std = A
  generalize hL : Lp _ _ _ = L
  obtain ⟨Z, zq⟩ := z_all
  refine @cd_open _ _ _ _ _ _ _ (lp_mono hL) _ _ zq rfl ?_
  repeat' (first
    | (refine z_open zq ?_; try dsimp only)
    | refine cd_seq zq ?_ (lp_mono hL)
    | refine cd_blk zq ?_
    | refine cd_ret ?_
    | refine cd_skip ?_
    | refine cd_exit ?_
    | refine cd_loop ?_
    | refine cd_cond rfl ?_
    | refine cd_condT rfl ?_
    | refine cd_condF rfl ?_
    | (refine Cd.mk ?_; cbv)
    | (refine Ends1.mk ?_; cbv)
    | (refine Fin1.mk ?_; cbv)
    | exact trivial
    | refine And.intro ?_ ?_
    | refine orf fun _ => ?_
    | refine ort fun _ => ?_)
  subst hL
  refine loop_z (cx_ok hfs) (isQ l) (isI l) isM isR ⟨A.bin .sub .i64 (A.lenE l) 1⟩ ?_ ?_ ?_
  · subst hA
    have e : Ar.std.bin .sub .i64 (Ar.std.lenE l) 1 = (l.length : Int) - 1 := hz.1
    rw [e]
    exact hz.2
  · cbv
    repeat' (first | exact trivial | exact rfl | refine And.intro ?_ ?_)
  rintro ⟨i⟩ hq O hO
  have hst := fun h => is_step hk hq h
  have hen := fun h => is_end hq h
  have q0 := hq.1
  have q1 := hq.2.1
  dsimp only at q0 q1
  subst hA
  generalize hA : Ar.std = A
  generalize hL : Lp _ _ _ = L
  refine cd_close zq ?_
  repeat' (first
    | (refine z_open zq ?_; try dsimp only)
    | refine cd_seq zq ?_ (lp_mono hL)
    | refine cd_blk zq ?_
    | refine cd_ret ?_
    | refine cd_skip ?_
    | refine cd_exit ?_
    | refine cd_loop ?_
    | refine cd_cond rfl ?_
    | refine cd_condT rfl ?_
    | refine cd_condF rfl ?_
    | (refine Cd.mk ?_; cbv)
    | (refine Ends1.mk ?_; cbv)
    | (refine Fin1.mk ?_; cbv)
    | exact trivial
    | refine And.intro ?_ ?_
    | refine orf fun _ => ?_
    | refine ort fun _ => ?_)
  all_goals (clear hL hfs zq Z hq; subst hA hF hG0 hG1 hO; simp only [Sc.std, Ar.std] at * <;> grind [stdCmp]; done)
theorem ok_issorted : ConOk Try.prog 30 (c_issorted Sc.std) := by
  refine con_of (FsOk.cons ok_byends FsOk.nil rfl) Try.func30 rfl rfl fun xs h p hp => ?_
  unfold c_issorted at hp
  split at hp
  · cases hp
    exact ⟨lee_le rfl, fun hC _ => @x_issorted _ hC⟩
  · cases hp
end Go.Proofs.Ytphbfoafgfnmmaa.SkC
