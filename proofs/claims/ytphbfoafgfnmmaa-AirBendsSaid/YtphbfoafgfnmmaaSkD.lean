/-
  which airs may be: Check. No condition but size.
-/
import Derived.Test.YtphbfoafgfnmmaaSkC
namespace Go.Proofs.Ytphbfoafgfnmmaa.SkD
open Go Go.Proofs.Ytphbfoafgfnmmaa.Ry Go.Proofs.Ytphbfoafgfnmmaa.SkR Go.Proofs.Ytphbfoafgfnmmaa.SkT Go.Proofs.Ytphbfoafgfnmmaa.SkO Go.Proofs.Ytphbfoafgfnmmaa.SkC

open Go.Proofs.Ytphbfoafgfnmmaa.EgR (c_echeckall ok_echeckall allE goodL may1 may_1)
def carL (f T : List E) : Bool := decide (∀ k : Nat, k < f.length → carF T (ri (f.getD k []) 0) (ri (f.getD k []) 1) = true)
def chA (f u : List E) : Int := if allE u = 0 ∧ srtB u = true ∧ f.length ≤ 16384 ∧ carL f (tabF u) = true then 0 else 1
theorem tab_len (l : List E) : (tabF l).length = 4225 := by
  have : ∀ (l M : List E), (l.foldl (fun M y => setF M (ri y 0) (ri y 1) true) M).length = M.length := by
    intro l
    induction l with
    | nil => intro M; rfl
    | cons y l ih =>
      intro M
      rw [List.foldl_cons, ih, set_len]
  unfold tabF
  rw [this, List.length_replicate]
theorem all_lOk {u : List E} (hu : u.length ≤ 1000000) (h : allE u = 0) : lOk u = true := by
  unfold allE at h
  split at h
  · rename_i hg
    unfold goodL at hg
    rw [Bool.and_eq_true] at hg
    have hg := of_decide_eq_true hg.1
    refine decide_eq_true ⟨hu, fun y hy => ?_⟩
    have := may_1 (hg y hy)
    omega
  · cases h
structure XY where
  i : Int
def akQ (f T : List E) (y : XY) : Prop := 0 ≤ y.i ∧ y.i ≤ f.length ∧ ∀ k : Nat, k < y.i → carF T (ri (f.getD k []) 0) (ri (f.getD k []) 1) = true
def akM (f : List E) (y : XY) : Nat := f.length - y.i.toNat
theorem ak_zero (f T : List E) : akQ f T ⟨0⟩ := ⟨Int.le_refl 0, Int.natCast_nonneg _, fun k h => by simp only at h; omega⟩
theorem ak_step {f T : List E} (hl : f.length ≤ 16384) {i : Int} (hq : akQ f T ⟨i⟩) (h : i < f.length) : stdBin .add .i64 i 1 = i + 1 ∧ akM f ⟨i + 1⟩ < akM f ⟨i⟩ ∧ (carF T (ri (f.getD i.toNat []) 0) (ri (f.getD i.toNat []) 1) = true → akQ f T ⟨i + 1⟩) ∧ (carF T (ri (f.getD i.toNat []) 0) (ri (f.getD i.toNat []) 1) = false → carL f T = false) := by
  obtain ⟨h0, h1, h2⟩ := hq
  simp only at h0 h1 h2
  refine ⟨by rw [b_add, wr _ (by omega) (by omega)], by simp only [akM]; omega, fun g => ⟨by simp only; omega, by simp only; omega, fun k a => ?_⟩, fun g => decide_eq_false fun a => ?_⟩
  · simp only at a
    by_cases c : k = i.toNat
    · rw [c]
      exact g
    · exact h2 k (by omega)
  · have := a i.toNat (by omega)
    rw [g] at this
    cases this
theorem ak_end {f T : List E} {i : Int} (hq : akQ f T ⟨i⟩) (h : ¬ i < f.length) : carL f T = true := by
  obtain ⟨h0, h1, h2⟩ := hq
  simp only at h0 h1 h2
  exact decide_eq_true fun k a => h2 k (by omega)
noncomputable def akI (A : Ar) (f T : List E) (y : XY) : St := stOf Try.f12.ntmps [(3, .ptr 1 0), (26, .sl none (.recs (.int .i64 (.int .i64 (.ints .u8 (.bool .nil)))) f)), (27, .val (.int .i64 (A.lenE f))), (28, .val (.int .i64 y.i))] [(1, .row 106 (.recs (.bool .nil) T))] [Any]
def akR (st : St) : XY := ⟨slotI st 28⟩

structure Sd where
  d_c : List E → List E → Int
  d_l : List E → List E → Bool
def Sd.std : Sd := ⟨chA, fun f u => decide (f.length ≤ 1000000 ∧ u.length ≤ 1000000)⟩

def c_acheck (F : Sd) : Con := fun xs h => match xs, h with
  | [.agg [.sl none (.recs (.int .i64 (.int .i64 (.ints .u8 (.bool .nil)))) a_f), .sl none (.recs (.int .i64 (.int .i64 (.int .i64 .nil))) a_u)]], [] => some ⟨F.d_l a_f a_u = true, .sa (I (F.d_c a_f a_u)), [], [Any]⟩
  | _, _ => none
set_option maxHeartbeats 2000000 in
set_option maxRecDepth 100000 in
theorem x_acheck (a_f : List E) (a_u : List E) (hC : Sd.std.d_l a_f a_u = true) : Does [(29, c_echeckall EgR.Fs.std), (30, c_issorted SkC.Sc.std), (32, c_tabof SkT.Tb.std), (33, c_carries SkT.Tb.std), (keepKey 33, noCon)] Try.f12 [.agg [.sl none (.recs (.int .i64 (.int .i64 (.ints .u8 (.bool .nil)))) a_f), .sl none (.recs (.int .i64 (.int .i64 (.int .i64 .nil))) a_u)]] [] ⟨Sd.std.d_l a_f a_u = true, .sa (I (Sd.std.d_c a_f a_u)), [], [Any]⟩ := by
  intro b gv
  have hk : a_f.length ≤ 1000000 ∧ a_u.length ≤ 1000000 := of_decide_eq_true (show decide _ = true from hC)
  have ho := fun h => all_lOk hk.2 h
  have htl := tab_len a_u
  have hfs := (FsOk.cons ok_echeckall (FsOk.cons ok_issorted (FsOk.cons ok_tabof (FsOk.keeps ok_carries kp_carries FsOk.nil) rfl) rfl) rfl)
  generalize hF : Sd.std = F at hC hfs ⊢
  generalize hG0 : EgR.Fs.std = G0 at hC hfs ⊢
  generalize hG1 : SkT.Tb.std = G1 at hC hfs ⊢
  generalize hG2 : SkC.Sc.std = G2 at hC hfs ⊢
  generalize hA : Ar.std = A
  generalize hL : Lp _ _ _ = L
  obtain ⟨Z, zq⟩ := z_all
  refine @cd_open _ _ _ _ _ _ _ (lp_mono hL) _ _ zq rfl ?_
  repeat' (first
    | (refine z_open zq ?_; try dsimp only)
    | refine cd_seq zq ?_ (lp_mono hL)
    | refine cd_blk zq ?_
    | refine cd_ret ?_
    | refine cd_skip ?_
    | refine cd_exit ?_
    | refine cd_loop ?_
    | refine cd_cond rfl ?_
    | refine cd_condT rfl ?_
    | refine cd_condF rfl ?_
    | (refine Cd.mk ?_; cbv)
    | (refine Ends1.mk ?_; cbv)
    | (refine Fin1.mk ?_; cbv)
    | exact trivial
    | refine And.intro ?_ ?_
    | refine orf fun _ => ?_
    | refine ort fun _ => ?_)
  all_goals first | (show L _ _ _; skip) | (clear hL hfs zq Z; subst hA hF hG0 hG1 hG2; simp only [Sd.std, EgR.Fs.std, SkT.Tb.std, SkC.Sc.std, Ar.std] at * <;> grind [stdCmp, chA]; done)
  rename_i hx
  have hle : a_f.length ≤ 16384 := by
    clear hL hfs zq Z
    subst hA hF hG0 hG1 hG2
    simp only [EgR.Fs.std, SkC.Sc.std, Ar.std] at hx
    grind [stdCmp]
  subst hL
  refine loop_z (cx_ok hfs) (akQ a_f (tabF a_u)) (akI A a_f (G1.t_of a_u)) (akM a_f) akR ⟨0⟩ ?_ ?_ ?_
  · exact ak_zero _ _
  · cbv
    repeat' (first | exact trivial | exact rfl | refine And.intro ?_ ?_)
  rintro ⟨i⟩ hq O hO
  have hst := fun h => ak_step hle hq h
  have hen := fun h => ak_end hq h
  have q0 := hq.1
  have q1 := hq.2.1
  dsimp only at q0 q1
  subst hA
  generalize hA : Ar.std = A
  generalize hL : Lp _ _ _ = L
  refine cd_close zq ?_
  repeat' (first
    | (refine z_open zq ?_; try dsimp only)
    | refine cd_seq zq ?_ (lp_mono hL)
    | refine cd_blk zq ?_
    | refine cd_ret ?_
    | refine cd_skip ?_
    | refine cd_exit ?_
    | refine cd_loop ?_
    | refine cd_cond rfl ?_
    | refine cd_condT rfl ?_
    | refine cd_condF rfl ?_
    | (refine Cd.mk ?_; cbv)
    | (refine Ends1.mk ?_; cbv)
    | (refine Fin1.mk ?_; cbv)
    | exact trivial
    | refine And.intro ?_ ?_
    | refine orf fun _ => ?_
    | refine ort fun _ => ?_)
  all_goals (clear hL hfs zq Z hq; subst hA hF hG0 hG1 hG2 hO; simp only [Sd.std, EgR.Fs.std, SkT.Tb.std, SkC.Sc.std, Ar.std] at * <;> grind [stdCmp, chA]; done)
theorem ok_acheck : ConOk Try.prog 12 (c_acheck Sd.std) := by
  refine con_of (FsOk.cons ok_echeckall (FsOk.cons ok_issorted (FsOk.cons ok_tabof (FsOk.keeps ok_carries kp_carries FsOk.nil) rfl) rfl) rfl) Try.func12 rfl rfl fun xs h p hp => ?_
  unfold c_acheck at hp
  split at hp
  · cases hp
    exact ⟨lee_le rfl, fun hC _ => @x_acheck _ _ hC⟩
  · cases hp
end Go.Proofs.Ytphbfoafgfnmmaa.SkD
