
/-
  the answer of inner and outer links, awake. No condition.
-/
import Derived.Test.YtfioaidmgcibaaaGreatViT
import Derived.Test.YtfioaidmgcibaaaGreatViS
namespace Go.Proofs.YtfioaidmgcibaaaGreat.ViQ
open Go Go.Proofs.YtfioaidmgcibaaaGreat.Ry Go.Proofs.YtfioaidmgcibaaaGreat.Cmp Go.Proofs.YtfioaidmgcibaaaGreat.ViR Go.Proofs.YtfioaidmgcibaaaGreat.ViC Go.Proofs.YtfioaidmgcibaaaGreat.ViL Go.Proofs.YtfioaidmgcibaaaGreat.ViT Go.Proofs.YtfioaidmgcibaaaGreat.ViS

theorem fm_le {f : E → List E} {k : Nat} (hf : ∀ y, (f y).length ≤ k) : ∀ l : List E, (l.flatMap f).length ≤ k * l.length
  | [] => Nat.zero_le _
  | y :: l => by
    have := fm_le hf l
    have := hf y
    rw [List.flatMap_cons, List.length_append, List.length_cons, Nat.mul_add]
    omega
theorem rin1_len (y z : E) : (rin1 y z).length ≤ 1 := by unfold rin1; split <;> simp
def rinY (l : List E) (y : E) : List E := l.flatMap (rin1 y)
theorem rinY_len (l : List E) (y : E) : (rinY l y).length ≤ l.length := fm_len (rin1_len y) l
/-- What is gathered behind something. -/
def cpQ (l : List E) (f : E → List E) (o0 : List E) (y : XC) : Prop := 0 ≤ y.i ∧ y.i ≤ l.length ∧ y.o = o0 ++ (l.take y.i.toNat).flatMap f
theorem cp_zero (l : List E) (f : E → List E) (o0 : List E) : cpQ l f o0 ⟨0, o0⟩ := ⟨Int.le_refl 0, Int.natCast_nonneg _, by simp⟩
theorem cp_len {l : List E} {f : E → List E} {o0 : List E} (hf : ∀ y, (f y).length ≤ 1) {i : Int} {o : List E} (hq : cpQ l f o0 ⟨i, o⟩) : o.length ≤ o0.length + l.length := by
  have h := fm_len hf (l.take i.toNat)
  have h2 := hq.2.2
  simp only at h2
  rw [h2, List.length_append]
  rw [List.length_take] at h
  omega
theorem cp_step {l : List E} {f : E → List E} {o0 : List E} (hl : l.length ≤ 1000000) {i : Int} {o : List E} (hq : cpQ l f o0 ⟨i, o⟩) (h : i < l.length) : stdBin .add .i64 i 1 = i + 1 ∧ (∀ p, coM l ⟨i + 1, p⟩ < coM l ⟨i, o⟩) ∧ (f (l.getD i.toNat []) = [] → cpQ l f o0 ⟨i + 1, o⟩) ∧ (∀ e, f (l.getD i.toNat []) = [e] → cpQ l f o0 ⟨i + 1, o ++ [e]⟩) := by
  obtain ⟨h0, h1, h2⟩ := hq
  simp only at h0 h1 h2
  have ht := take_next l i h0 h
  refine ⟨by rw [b_add, wr _ (by omega) (by omega)], fun p => by simp only [coM]; omega, fun g => ⟨by simp only; omega, by simp only; omega, ?_⟩, fun e g => ⟨by simp only; omega, by simp only; omega, ?_⟩⟩
  · simp only
    rw [ht, List.flatMap_append, h2]
    simp [List.flatMap_cons, List.getD_eq_getElem?_getD] at g ⊢
    exact g
  · simp only
    rw [ht, List.flatMap_append, h2]
    simp [List.flatMap_cons, List.getD_eq_getElem?_getD] at g ⊢
    exact g.symm
theorem cp_end {l : List E} {f : E → List E} {o0 : List E} {i : Int} {o : List E} (hq : cpQ l f o0 ⟨i, o⟩) (h : ¬ i < l.length) : o = o0 ++ l.flatMap f := by
  obtain ⟨h0, h1, h2⟩ := hq
  simp only at h0 h1 h2
  have e : i = l.length := by omega
  rw [e, Int.toNat_natCast, List.take_length] at h2
  exact h2
theorem cq_len {l : List E} {f : E → List E} {k : Nat} (hf : ∀ y, (f y).length ≤ k) {i : Int} {o : List E} (hq : coQ l f ⟨i, o⟩) : o.length ≤ k * l.length := by
  have h := fm_le hf (l.take i.toNat)
  have h2 := hq.2.2
  simp only at h2
  rw [h2]
  rw [List.length_take] at h
  have : k * min i.toNat l.length ≤ k * l.length := Nat.mul_le_mul_left k (by omega)
  omega
theorem cq_next {l : List E} {f : E → List E} (hl : l.length ≤ 1000000) {i : Int} {o p : List E} (hq : coQ l f ⟨i, o⟩) (h : i < l.length) (e : p = o ++ f (l.getD i.toNat [])) : stdBin .add .i64 i 1 = i + 1 ∧ coM l ⟨i + 1, p⟩ < coM l ⟨i, o⟩ ∧ coQ l f ⟨i + 1, p⟩ := by
  obtain ⟨h0, h1, h2⟩ := hq
  simp only at h0 h1 h2
  have ht := take_next l i h0 h
  refine ⟨by rw [b_add, wr _ (by omega) (by omega)], by simp only [coM]; omega, by simp only; omega, by simp only; omega, ?_⟩
  simp only
  rw [ht, List.flatMap_append, ← h2, e]
  simp [List.flatMap_cons]
noncomputable def riI (n : List Int) (l : List E) (y : XC) : St := stOf Tryz.f121.ntmps [(1, .ptr 1 0), (3, .sl (some (2, 73)) (.recs (.int .i64 (.int .i64 (.int .i64 (.int .i64 (.bool .nil))))) y.o)), (4, .val (.int .i64 y.i))] [(1, .cells 28 [.sl none (.ints .i64 n), .sl none (.recs (.int .i64 (.int .i64 (.int .i64 (.int .i64 (.bool .nil))))) l)]), (2, .tok)] [Any]
noncomputable def rjI (n : List Int) (l : List E) (i : Int) (y : XC) : St := stOf Tryz.f121.ntmps [(1, .ptr 1 0), (3, .sl (some (2, 73)) (.recs (.int .i64 (.int .i64 (.int .i64 (.int .i64 (.bool .nil))))) y.o)), (4, .val (.int .i64 i)), (5, .val (.int .i64 y.i))] [(1, .cells 28 [.sl none (.ints .i64 n), .sl none (.recs (.int .i64 (.int .i64 (.int .i64 (.int .i64 (.bool .nil))))) l)]), (2, .tok)] [Any]
noncomputable def roI (n : List Int) (l : List E) (y : XC) : St := stOf Tryz.f127.ntmps [(1, .ptr 1 0), (3, .sl (some (2, 73)) (.recs (.int .i64 (.int .i64 (.int .i64 (.int .i64 (.bool .nil))))) y.o)), (4, .val (.int .i64 y.i))] [(1, .cells 28 [.sl none (.ints .i64 n), .sl none (.recs (.int .i64 (.int .i64 (.int .i64 (.int .i64 (.bool .nil))))) l)]), (2, .tok)] [Any]
noncomputable def rbI (l : List E) (y : XC) : St := stOf Tryz.f99.ntmps [(3, .sl none (.recs (.int .i64 (.int .i64 (.int .i64 (.int .i64 (.bool .nil))))) l)), (4, .sl (some (2, 157)) (.recs (.int .i64 (.int .i64 (.int .i64 .nil))) y.o)), (5, .val (.int .i64 y.i))] [(2, .tok)] [Any]
def kE (y : E) : Int × Int × Int := (ri y 0, ri y 1, ri y 2)
def sameE3 (p q : List E) : Bool := decide (p.map kE = q.map kE)
def eE (p q : List E) (i : Nat) : Bool := decide (kE (p.getD i []) = kE (q.getD i []))
theorem nE {p q : List E} (h : p.length ≠ q.length) : sameE3 p q = false := decide_eq_false fun e => h (by have := congrArg List.length e; rw [List.length_map, List.length_map] at this; exact this)
theorem eE_all {p q : List E} (h : p.length = q.length) : allL p.length (eE p q) = sameE3 p q := by
  unfold sameE3
  rw [Bool.eq_iff_iff, all_iff, decide_eq_true_eq]
  constructor
  · intro g
    refine List.ext_getElem (by simp [h]) fun i h1 h2 => ?_
    simp only [List.length_map] at h1 h2
    have := g i h1
    unfold eE at this
    rw [decide_eq_true_eq, at_rec p i h1, at_rec q i h2] at this
    simpa using this
  · intro e i hi
    unfold eE
    rw [decide_eq_true_eq, at_rec p i hi, at_rec q i (by omega)]
    have := congrArg (fun l => l[i]?) e
    simpa [hi, show i < q.length by omega] using this
theorem eE_is (p q : List E) (i : Nat) : eE p q i = decide (ri (p.getD i []) 0 = ri (q.getD i []) 0 ∧ ri (p.getD i []) 1 = ri (q.getD i []) 1 ∧ ri (p.getD i []) 2 = ri (q.getD i []) 2) := by
  unfold eE kE
  simp only [Prod.mk.injEq]
def s5R (st : St) : XI := ⟨slotI st 5⟩
def liV (n : List Int) (l : List E) : Bool := decide (n.length ≤ 70 ∧ l.length ≤ 200)
def awL : List E := [[D.int 1, D.int 2, D.int 0, D.int 5, D.bool false], [D.int 2, D.int 1, D.int 0, D.int 5, D.bool false], [D.int 2, D.int 3, D.int 0, D.int 1, D.bool false]]
theorem aw_may : mayV [1, 2] awL = true := by decide +kernel
theorem aw_in : inV [1, 2] awL = [[D.int 1, D.int 2, D.int 0, D.int 5, D.bool false]] := by
  unfold inV
  rw [if_pos aw_may, ← in_eq aw_may]
  rfl
theorem aw_ou : ouV [1, 2] awL = [[D.int 2, D.int 3, D.int 0, D.int 1, D.bool false]] := by
  unfold ouV
  rw [if_pos aw_may]
  rfl
theorem aw_ch : chV [1, 2] awL = 0 := if_pos aw_may

structure Vm where
  m_in : List E → List E
  m_ou : List Int → List E → List E
  m_bo : List E → List E
  m_a : Int → Int → Int
  m_b : Int → Int → Int
  m_s : List E → List E → Bool
  m_li : List Int → List E → Bool
  m_ok : List E → Bool
  m_ov : List Int → List E → Bool
  m_o2 : List E → List E → Bool
def Vm.std : Vm := ⟨rinF, ouF, fun l => boF (rinF l), edA, edB, sameE3, liV, fun l => decide (l.length ≤ 1000), fun n l => decide (n.length ≤ 1000000 ∧ l.length ≤ 1000000), fun p q => decide (p.length ≤ 1000000 ∧ q.length ≤ 1000000)⟩

def c_rinner (F : Vm) : Con := fun xs h => match xs, h with
  | [.agg [.sl none (.ints .i64 _), .sl none (.recs (.int .i64 (.int .i64 (.int .i64 (.int .i64 (.bool .nil))))) v_l)]], [] => some ⟨F.m_ok v_l = true, .sa (.one (.sl none (.recs (.int .i64 (.int .i64 (.int .i64 (.int .i64 (.bool .nil))))) (F.m_in v_l)))), [], [Any]⟩
  | _, _ => none
set_option cbv.maxSteps 4000000 in
set_option maxHeartbeats 4000000 in
set_option maxRecDepth 100000 in
theorem x_rinner (v_n : List Int) (v_l : List E) (hC : Vm.std.m_ok v_l = true) : Does [] Tryz.f121 [.agg [.sl none (.ints .i64 v_n), .sl none (.recs (.int .i64 (.int .i64 (.int .i64 (.int .i64 (.bool .nil))))) v_l)]] [] ⟨Vm.std.m_ok v_l = true, .sa (.one (.sl none (.recs (.int .i64 (.int .i64 (.int .i64 (.int .i64 (.bool .nil))))) (Vm.std.m_in v_l)))), [], [Any]⟩ := by
  intro b gv
  have hk : v_l.length ≤ 1000 := of_decide_eq_true (show decide (v_l.length ≤ 1000) = true from hC)
  have hfs := FsOk.nil
  generalize hF : Vm.std = F at hC hfs ⊢
  generalize hG0 : ViR.Vs.std = G0 at hC hfs ⊢
  generalize hG1 : ViL.Vl.std = G1 at hC hfs ⊢
  generalize hA : Ar.std = A
  generalize hL : Lp _ _ _ = L
  obtain ⟨Z, zq⟩ := z_all
  refine cd_open (lp_mono hL) zq rfl ?_
  repeat' (first
    | (refine z_open zq ?_; try dsimp only)
    | refine cd_seq zq ?_ (lp_mono hL)
    | refine cd_blk zq ?_
    | refine cd_ret ?_
    | refine cd_skip ?_
    | refine cd_exit ?_
    | refine cd_loop ?_
    | refine cd_cond rfl ?_
    | refine cd_condT rfl ?_
    | refine cd_condF rfl ?_
    | (refine Cd.mk ?_; cbv)
    | (refine Ends1.mk ?_; cbv)
    | (refine Fin1.mk ?_; cbv)
    | exact trivial
    | refine And.intro ?_ ?_
    | refine orf fun _ => ?_
    | refine ort fun _ => ?_)
  subst hL
  refine loop_z (cx_ok hfs) (coQ v_l (rinY v_l)) (riI v_n v_l) (coM v_l) (coR 4 3) ⟨0, []⟩ ?_ ?_ ?_
  · exact co_zero _ _
  · cbv
    repeat' (first | exact trivial | exact rfl | refine And.intro ?_ ?_)
  rintro ⟨i, o⟩ hq O hO
  have hlen := cq_len (rinY_len v_l) hq
  have hlen : o.length ≤ 1000000 := Nat.le_trans hlen (Nat.le_trans (Nat.mul_le_mul hk hk) (by decide))
  have hnx := fun h p e => cq_next (p := p) (by omega) hq h e
  have hen : ¬ i < v_l.length → o = rinF v_l := fun h => co_end hq h
  have q0 := hq.1
  have q1 := hq.2.1
  dsimp only at q0 q1
  subst hA
  generalize hA : Ar.std = A
  generalize hL : Lp _ _ _ = L
  refine cd_close zq ?_
  repeat' (first
    | (refine z_open zq ?_; try dsimp only)
    | refine cd_seq zq ?_ (lp_mono hL)
    | refine cd_blk zq ?_
    | refine cd_ret ?_
    | refine cd_skip ?_
    | refine cd_exit ?_
    | refine cd_loop ?_
    | refine cd_cond rfl ?_
    | refine cd_condT rfl ?_
    | refine cd_condF rfl ?_
    | (refine Cd.mk ?_; cbv)
    | (refine Ends1.mk ?_; cbv)
    | (refine Fin1.mk ?_; cbv)
    | exact trivial
    | refine And.intro ?_ ?_
    | refine orf fun _ => ?_
    | refine ort fun _ => ?_)
  all_goals first | (show L _ _ _; skip) | (clear hL hfs zq Z hq hnx; subst hA hF hG0 hG1 hO; simp only [Vm.std, Ar.std] at * <;> grind [stdCmp, rinF, rinY]; done)
  rename_i hx
  have hi : i < v_l.length := by
    clear hL hfs zq Z hF hG0 hG1 hO hnx hen
    subst hA
    simp only [Ar.std] at hx
    grind [stdCmp]
  clear hx hen
  subst hL
  refine loop_z (cx_ok hfs) (cpQ v_l (rin1 (v_l.getD i.toNat [])) o) (rjI v_n v_l i) (coM v_l) (coR 5 3) ⟨0, o⟩ ?_ ?_ ?_
  · exact cp_zero _ _ _
  · cbv
    repeat' (first | exact trivial | exact rfl | refine And.intro ?_ ?_)
  rintro ⟨j, p⟩ hq2 O2 hO2
  have hst := fun h => cp_step (by omega) hq2 h
  have hle2 := cp_len (rin1_len _) hq2
  have hne := fun h => hnx hi p (cp_end hq2 h)
  have k0 := hq2.1
  have k1 := hq2.2.1
  dsimp only at k0 k1 hst
  have hin : rin1 (v_l.getD i.toNat []) (v_l.getD j.toNat []) = if ri (v_l.getD i.toNat []) 0 < ri (v_l.getD i.toNat []) 1 ∧ ri (v_l.getD i.toNat []) 0 = ri (v_l.getD j.toNat []) 1 ∧ ri (v_l.getD i.toNat []) 1 = ri (v_l.getD j.toNat []) 0 ∧ ri (v_l.getD i.toNat []) 2 = ri (v_l.getD j.toNat []) 2 ∧ ri (v_l.getD i.toNat []) 3 = ri (v_l.getD j.toNat []) 3 then [[D.int (ri (v_l.getD i.toNat []) 0), D.int (ri (v_l.getD i.toNat []) 1), D.int (ri (v_l.getD i.toNat []) 2), D.int (ri (v_l.getD i.toNat []) 3), D.bool (rb (v_l.getD i.toNat []) 4 && rb (v_l.getD j.toNat []) 4)]] else [] := rfl
  subst hA
  generalize hA : Ar.std = A
  generalize hL : Lp _ _ _ = L
  refine cd_close zq ?_
  repeat' (first
    | (refine z_open zq ?_; try dsimp only)
    | refine cd_seq zq ?_ (lp_mono hL)
    | refine cd_blk zq ?_
    | refine cd_ret ?_
    | refine cd_skip ?_
    | refine cd_exit ?_
    | refine cd_loop ?_
    | refine cd_cond rfl ?_
    | refine cd_condT rfl ?_
    | refine cd_condF rfl ?_
    | (refine Cd.mk ?_; cbv)
    | (refine Ends1.mk ?_; cbv)
    | (refine Fin1.mk ?_; cbv)
    | exact trivial
    | refine And.intro ?_ ?_
    | refine orf fun _ => ?_
    | refine ort fun _ => ?_)
  all_goals (clear hL hfs zq Z hq hq2 hnx; subst hA hF hG0 hG1 hO hO2; simp only [Vm.std, Ar.std] at * <;> grind [stdCmp]; done)
theorem ok_rinner : ConOk Tryz.prog 121 (c_rinner Vm.std) := by
  refine con_of FsOk.nil Tryz.func121 rfl rfl fun xs h p hp => ?_
  unfold c_rinner at hp
  split at hp
  · cases hp
    exact ⟨lee_le rfl, fun hC _ => x_rinner _ _ hC⟩
  · cases hp

def c_router (F : Vm) : Con := fun xs h => match xs, h with
  | [.agg [.sl none (.ints .i64 v_n), .sl none (.recs (.int .i64 (.int .i64 (.int .i64 (.int .i64 (.bool .nil))))) v_l)]], [] => some ⟨F.m_ov v_n v_l = true, .sa (.one (.sl none (.recs (.int .i64 (.int .i64 (.int .i64 (.int .i64 (.bool .nil))))) (F.m_ou v_n v_l)))), [], [Any]⟩
  | _, _ => none
set_option cbv.maxSteps 4000000 in
set_option maxHeartbeats 4000000 in
set_option maxRecDepth 100000 in
theorem x_router (v_n : List Int) (v_l : List E) (hC : Vm.std.m_ov v_n v_l = true) : Does [(96, c_rin ViR.Vs.std)] Tryz.f127 [.agg [.sl none (.ints .i64 v_n), .sl none (.recs (.int .i64 (.int .i64 (.int .i64 (.int .i64 (.bool .nil))))) v_l)]] [] ⟨Vm.std.m_ov v_n v_l = true, .sa (.one (.sl none (.recs (.int .i64 (.int .i64 (.int .i64 (.int .i64 (.bool .nil))))) (Vm.std.m_ou v_n v_l)))), [], [Any]⟩ := by
  intro b gv
  have hk : v_n.length ≤ 1000000 ∧ v_l.length ≤ 1000000 := of_decide_eq_true (show decide (v_n.length ≤ 1000000 ∧ v_l.length ≤ 1000000) = true from hC)
  have hfs := (FsOk.cons ok_rin FsOk.nil rfl)
  generalize hF : Vm.std = F at hC hfs ⊢
  generalize hG0 : ViR.Vs.std = G0 at hC hfs ⊢
  generalize hG1 : ViL.Vl.std = G1 at hC hfs ⊢
  generalize hA : Ar.std = A
  generalize hL : Lp _ _ _ = L
  obtain ⟨Z, zq⟩ := z_all
  refine cd_open (lp_mono hL) zq rfl ?_
  repeat' (first
    | (refine z_open zq ?_; try dsimp only)
    | refine cd_seq zq ?_ (lp_mono hL)
    | refine cd_blk zq ?_
    | refine cd_ret ?_
    | refine cd_skip ?_
    | refine cd_exit ?_
    | refine cd_loop ?_
    | refine cd_cond rfl ?_
    | refine cd_condT rfl ?_
    | refine cd_condF rfl ?_
    | (refine Cd.mk ?_; cbv)
    | (refine Ends1.mk ?_; cbv)
    | (refine Fin1.mk ?_; cbv)
    | exact trivial
    | refine And.intro ?_ ?_
    | refine orf fun _ => ?_
    | refine ort fun _ => ?_)
  subst hL
  refine loop_z (cx_ok hfs) (coQ v_l (ou1 v_n)) (roI v_n v_l) (coM v_l) (coR 4 3) ⟨0, []⟩ ?_ ?_ ?_
  · exact co_zero _ _
  · cbv
    repeat' (first | exact trivial | exact rfl | refine And.intro ?_ ?_)
  rintro ⟨i, o⟩ hq O hO
  have hst := fun h => co_step hk.2 hq h
  have hlen := co_len (ou1_len v_n) hq
  have hen := fun h => co_end hq h
  have q0 := hq.1
  have q1 := hq.2.1
  dsimp only at q0 q1 hst
  have hin : ou1 v_n (v_l.getD i.toNat []) = if v_n.contains (ri (v_l.getD i.toNat []) 1) = true then [] else [[D.int (ri (v_l.getD i.toNat []) 0), D.int (ri (v_l.getD i.toNat []) 1), D.int (ri (v_l.getD i.toNat []) 2), D.int (ri (v_l.getD i.toNat []) 3), D.bool (rb (v_l.getD i.toNat []) 4)]] := rfl
  subst hA
  generalize hA : Ar.std = A
  generalize hL : Lp _ _ _ = L
  refine cd_close zq ?_
  repeat' (first
    | (refine z_open zq ?_; try dsimp only)
    | refine cd_seq zq ?_ (lp_mono hL)
    | refine cd_blk zq ?_
    | refine cd_ret ?_
    | refine cd_skip ?_
    | refine cd_exit ?_
    | refine cd_loop ?_
    | refine cd_cond rfl ?_
    | refine cd_condT rfl ?_
    | refine cd_condF rfl ?_
    | (refine Cd.mk ?_; cbv)
    | (refine Ends1.mk ?_; cbv)
    | (refine Fin1.mk ?_; cbv)
    | exact trivial
    | refine And.intro ?_ ?_
    | refine orf fun _ => ?_
    | refine ort fun _ => ?_)
  all_goals (clear hL hfs zq Z hq; subst hA hF hG0 hG1 hO; simp only [Vm.std, ViR.Vs.std, Ar.std] at * <;> grind [stdCmp, ouF]; done)
theorem ok_router : ConOk Tryz.prog 127 (c_router Vm.std) := by
  refine con_of (FsOk.cons ok_rin FsOk.nil rfl) Tryz.func127 rfl rfl fun xs h p hp => ?_
  unfold c_router at hp
  split at hp
  · cases hp
    exact ⟨lee_le rfl, fun hC _ => x_router _ _ hC⟩
  · cases hp

def c_redge (F : Vm) : Con := fun xs h => match xs, h with
  | [.agg [.val (.int .i64 k_n), .val (.int .i64 k_p), .val (.int .i64 k_w), .val (.int .i64 _), .val (.bool _)]], [] => some ⟨True, .sa (.agg [.val (.int .i64 (F.m_a k_n k_p)), .val (.int .i64 (F.m_b k_n k_p)), .val (.int .i64 k_w)]), [], [Any]⟩
  | _, _ => none
set_option cbv.maxSteps 4000000 in
set_option maxHeartbeats 4000000 in
set_option maxRecDepth 100000 in
theorem x_redge (k_n : Int) (k_p : Int) (k_w : Int) (k_s : Int) (k_m : Bool) : Does [] Tryz.f122 [.agg [.val (.int .i64 k_n), .val (.int .i64 k_p), .val (.int .i64 k_w), .val (.int .i64 k_s), .val (.bool k_m)]] [] ⟨True, .sa (.agg [.val (.int .i64 (Vm.std.m_a k_n k_p)), .val (.int .i64 (Vm.std.m_b k_n k_p)), .val (.int .i64 k_w)]), [], [Any]⟩ := by
  intro b gv
  have hfs := FsOk.nil
  generalize hF : Vm.std = F at hfs ⊢
  generalize hG0 : ViR.Vs.std = G0 at hfs ⊢
  generalize hG1 : ViL.Vl.std = G1 at hfs ⊢
  generalize hA : Ar.std = A
  generalize hL : Lp _ _ _ = L
  obtain ⟨Z, zq⟩ := z_all
  refine cd_open (lp_mono hL) zq rfl ?_
  repeat' (first
    | (refine z_open zq ?_; try dsimp only)
    | refine cd_seq zq ?_ (lp_mono hL)
    | refine cd_blk zq ?_
    | refine cd_ret ?_
    | refine cd_skip ?_
    | refine cd_exit ?_
    | refine cd_loop ?_
    | refine cd_cond rfl ?_
    | refine cd_condT rfl ?_
    | refine cd_condF rfl ?_
    | (refine Cd.mk ?_; cbv)
    | (refine Ends1.mk ?_; cbv)
    | (refine Fin1.mk ?_; cbv)
    | exact trivial
    | refine And.intro ?_ ?_
    | refine orf fun _ => ?_
    | refine ort fun _ => ?_)
  all_goals
    clear hL zq Z
    try clear hfs
    subst hA hF hG0 hG1
    simp only [Vm.std, Ar.std] at *
    try (grind [stdCmp, edA, edB])
theorem ok_redge : ConOk Tryz.prog 122 (c_redge Vm.std) := by
  refine con_of FsOk.nil Tryz.func122 rfl rfl fun xs h p hp => ?_
  unfold c_redge at hp
  split at hp
  · cases hp
    exact ⟨lee_le rfl, fun _ _ => x_redge _ _ _ _ _⟩
  · cases hp

def c_rbound (F : Vm) : Con := fun xs h => match xs, h with
  | [.agg [.sl none (.ints .i64 _), .sl none (.recs (.int .i64 (.int .i64 (.int .i64 (.int .i64 (.bool .nil))))) v_l)]], [] => some ⟨F.m_ok v_l = true, .sa (.one (.sl none (.recs (.int .i64 (.int .i64 (.int .i64 .nil))) (F.m_bo v_l)))), [], [Any]⟩
  | _, _ => none
set_option cbv.maxSteps 4000000 in
set_option maxHeartbeats 4000000 in
set_option maxRecDepth 100000 in
theorem x_rbound (v_n : List Int) (v_l : List E) (hC : Vm.std.m_ok v_l = true) : Does [(121, c_rinner Vm.std), (122, c_redge Vm.std)] Tryz.f99 [.agg [.sl none (.ints .i64 v_n), .sl none (.recs (.int .i64 (.int .i64 (.int .i64 (.int .i64 (.bool .nil))))) v_l)]] [] ⟨Vm.std.m_ok v_l = true, .sa (.one (.sl none (.recs (.int .i64 (.int .i64 (.int .i64 .nil))) (Vm.std.m_bo v_l)))), [], [Any]⟩ := by
  intro b gv
  have hk : v_l.length ≤ 1000 := of_decide_eq_true (show decide (v_l.length ≤ 1000) = true from hC)
  have hil : (rinF v_l).length ≤ 1000000 := Nat.le_trans (fm_le (rinY_len v_l) v_l) (Nat.le_trans (Nat.mul_le_mul hk hk) (by decide))
  have hfs := (FsOk.cons ok_rinner (FsOk.cons ok_redge FsOk.nil rfl) rfl)
  generalize hF : Vm.std = F at hC hfs ⊢
  generalize hG0 : ViR.Vs.std = G0 at hC hfs ⊢
  generalize hG1 : ViL.Vl.std = G1 at hC hfs ⊢
  generalize hA : Ar.std = A
  generalize hL : Lp _ _ _ = L
  obtain ⟨Z, zq⟩ := z_all
  refine cd_open (lp_mono hL) zq rfl ?_
  repeat' (first
    | (refine z_open zq ?_; try dsimp only)
    | refine cd_seq zq ?_ (lp_mono hL)
    | refine cd_blk zq ?_
    | refine cd_ret ?_
    | refine cd_skip ?_
    | refine cd_exit ?_
    | refine cd_loop ?_
    | refine cd_cond rfl ?_
    | refine cd_condT rfl ?_
    | refine cd_condF rfl ?_
    | (refine Cd.mk ?_; cbv)
    | (refine Ends1.mk ?_; cbv)
    | (refine Fin1.mk ?_; cbv)
    | exact trivial
    | refine And.intro ?_ ?_
    | refine orf fun _ => ?_
    | refine ort fun _ => ?_)
  all_goals first | (show L _ _ _; skip) | (clear hL hfs zq Z; subst hA hF hG0 hG1; simp only [Vm.std] at * <;> grind [stdCmp]; done)
  subst hL
  refine loop_z (cx_ok hfs) (coQ (rinF v_l) bo1) (rbI (F.m_in v_l)) (coM (rinF v_l)) (coR 5 4) ⟨0, []⟩ ?_ ?_ ?_
  · exact co_zero _ _
  · cbv
    repeat' (first | exact trivial | exact rfl | refine And.intro ?_ ?_)
  rintro ⟨i, o⟩ hq O hO
  have hst := fun h => co_step hil hq h
  have hlen := co_len bo1_len hq
  have hen := fun h => co_end hq h
  have q0 := hq.1
  have q1 := hq.2.1
  dsimp only at q0 q1 hst
  have hin : bo1 ((rinF v_l).getD i.toNat []) = if rb ((rinF v_l).getD i.toNat []) 4 = true then [[D.int (edA (ri ((rinF v_l).getD i.toNat []) 0) (ri ((rinF v_l).getD i.toNat []) 1)), D.int (edB (ri ((rinF v_l).getD i.toNat []) 0) (ri ((rinF v_l).getD i.toNat []) 1)), D.int (ri ((rinF v_l).getD i.toNat []) 2)]] else [] := rfl
  subst hA
  generalize hA : Ar.std = A
  generalize hL : Lp _ _ _ = L
  refine cd_close zq ?_
  repeat' (first
    | (refine z_open zq ?_; try dsimp only)
    | refine cd_seq zq ?_ (lp_mono hL)
    | refine cd_blk zq ?_
    | refine cd_ret ?_
    | refine cd_skip ?_
    | refine cd_exit ?_
    | refine cd_loop ?_
    | refine cd_cond rfl ?_
    | refine cd_condT rfl ?_
    | refine cd_condF rfl ?_
    | (refine Cd.mk ?_; cbv)
    | (refine Ends1.mk ?_; cbv)
    | (refine Fin1.mk ?_; cbv)
    | exact trivial
    | refine And.intro ?_ ?_
    | refine orf fun _ => ?_
    | refine ort fun _ => ?_)
  all_goals (clear hL hfs zq Z hq; subst hA hF hG0 hG1 hO; simp only [Vm.std, Ar.std] at * <;> grind [stdCmp, boF]; done)
theorem ok_rbound : ConOk Tryz.prog 99 (c_rbound Vm.std) := by
  refine con_of (FsOk.cons ok_rinner (FsOk.cons ok_redge FsOk.nil rfl) rfl) Tryz.func99 rfl rfl fun xs h p hp => ?_
  unfold c_rbound at hp
  split at hp
  · cases hp
    exact ⟨lee_le rfl, fun hC _ => x_rbound _ _ hC⟩
  · cases hp

def c_resame (F : Vm) : Con := fun xs h => match xs, h with
  | [.one (.sl none (.recs (.int .i64 (.int .i64 (.int .i64 .nil))) p)), .one (.sl none (.recs (.int .i64 (.int .i64 (.int .i64 .nil))) q))], [] => some ⟨F.m_o2 p q = true, .sa (B (F.m_s p q)), [], [Any, Any]⟩
  | _, _ => none
def c_vlight (F : Vm) : Con := fun xs h => match xs, h with
  | [.agg [.sl none (.ints .i64 v_n), .sl none (.recs (.int .i64 (.int .i64 (.int .i64 (.int .i64 (.bool .nil))))) v_l)]], [] => some ⟨True, .sa (B (F.m_li v_n v_l)), [], [Any]⟩
  | _, _ => none
def c_vawake (_ : Vm) : Con := fun xs h => match xs, h with
  | [], [] => some ⟨True, .sa (B true), [], []⟩
  | _, _ => none
end Go.Proofs.YtfioaidmgcibaaaGreat.ViQ
