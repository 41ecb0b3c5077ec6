/-
  the answer: which link is up, which airs may be, a flight more. No condition but size.
-/
import Derived.Test.YtphbfoafgfnmmaaSkS
namespace Go.Proofs.Ytphbfoafgfnmmaa.SkQ
open Go Go.Proofs.Ytphbfoafgfnmmaa.Ry Go.Proofs.Ytphbfoafgfnmmaa.SkR Go.Proofs.Ytphbfoafgfnmmaa.SkS

open Go.Proofs.Ytphbfoafgfnmmaa.EgR (c_rcheck ok_rcheck allE)
def isX (a b : Int) (y : E) : Bool := decide (ri y 0 = a ∧ ri y 1 = b ∨ ri y 0 = b ∧ ri y 1 = a)
def upN (l : List E) (a b : Int) : Nat := l.findIdx (isX a b)
def upX (l : List E) (a b : Int) : Int := if upN l a b < l.length then (upN l a b : Int) else -1
structure XI where
  i : Int
def uxQ (l : List E) (a b : Int) (y : XI) : Prop := 0 ≤ y.i ∧ y.i ≤ l.length ∧ ∀ k : Nat, k < y.i → isX a b (l.getD k []) = false
def uxM (l : List E) (y : XI) : Nat := l.length - y.i.toNat
theorem ux_zero (l : List E) (a b : Int) : uxQ l a b ⟨0⟩ := ⟨Int.le_refl 0, Int.natCast_nonneg _, fun k h => by simp only at h; omega⟩
theorem ux_step {l : List E} (hl : l.length ≤ 1000000) {a b i : Int} (hq : uxQ l a b ⟨i⟩) (h : i < l.length) : stdBin .add .i64 i 1 = i + 1 ∧ uxM l ⟨i + 1⟩ < uxM l ⟨i⟩ ∧
    (¬ (ri (l.getD i.toNat []) 0 = a ∧ ri (l.getD i.toNat []) 1 = b ∨ ri (l.getD i.toNat []) 0 = b ∧ ri (l.getD i.toNat []) 1 = a) → uxQ l a b ⟨i + 1⟩) ∧ (ri (l.getD i.toNat []) 0 = a ∧ ri (l.getD i.toNat []) 1 = b ∨ ri (l.getD i.toNat []) 0 = b ∧ ri (l.getD i.toNat []) 1 = a → upX l a b = i) := by
  obtain ⟨h0, h1, h2⟩ := hq
  simp only at h0 h1 h2
  have hi : i.toNat < l.length := by omega
  have hg : l.getD i.toNat [] = l[i.toNat] := by rw [List.getD_eq_getElem?_getD, List.getElem?_eq_getElem hi]; rfl
  refine ⟨by rw [b_add, wr _ (by omega) (by omega)], by simp only [uxM]; omega, fun g => ⟨by simp only; omega, by simp only; omega, fun k hk => ?_⟩, fun g => ?_⟩
  · simp only at hk
    by_cases c : k = i.toNat
    · rw [c]
      exact decide_eq_false g
    · exact h2 k (by omega)
  · have e : upN l a b = i.toNat := (List.findIdx_eq hi).2 ⟨by rw [← hg]; exact decide_eq_true g, fun j hj => by
      have := h2 j (by omega)
      have hj2 : j < l.length := by omega
      rw [List.getD_eq_getElem?_getD, List.getElem?_eq_getElem hj2] at this
      exact this⟩
    unfold upX
    rw [e, if_pos hi]
    omega
theorem ux_end {l : List E} {a b i : Int} (hq : uxQ l a b ⟨i⟩) (h : ¬ i < l.length) : upX l a b = -1 := by
  obtain ⟨h0, h1, h2⟩ := hq
  simp only at h0 h1 h2
  have e : upN l a b = l.length := List.findIdx_eq_length_of_false fun y hy => by
    obtain ⟨k, hk, rfl⟩ := List.getElem_of_mem hy
    have := h2 k (by omega)
    rw [List.getD_eq_getElem?_getD, List.getElem?_eq_getElem hk] at this
    exact this
  unfold upX
  rw [e, if_neg (Nat.lt_irrefl _)]
theorem ux_in (l : List E) (a b : Int) : -1 ≤ upX l a b ∧ upX l a b < l.length := by
  unfold upX
  split <;> omega
def oR (u : List E) (k : Nat) : Bool := decide (ri (u.getD (k - 1) []) 0 > ri (u.getD k []) 0 ∨ ri (u.getD (k - 1) []) 0 = ri (u.getD k []) 0 ∧ ri (u.getD (k - 1) []) 1 > ri (u.getD k []) 1)
def ordB (u : List E) : Bool := decide (∀ k : Nat, k < u.length → 0 < k → oR u k = false)
def fupB (f u : List E) : Bool := decide (∀ k : Nat, k < f.length → 0 ≤ upX u (ri (f.getD k []) 0) (ri (f.getD k []) 1))
def mayA (f u : List E) : Bool := decide (allE u = 0 ∧ f.length ≤ 16384) && (ordB u && fupB f u)
def odQ (u : List E) (y : XI) : Prop := 1 ≤ y.i ∧ (y.i ≤ u.length ∨ y.i = 1) ∧ ∀ k : Nat, k < y.i → 0 < k → k < u.length → oR u k = false
theorem od_zero (u : List E) : odQ u ⟨1⟩ := ⟨Int.le_refl 1, .inr rfl, fun k h h0 => by simp only at h; omega⟩
theorem od_step {u : List E} (hl : u.length ≤ 1000000) {i : Int} (hq : odQ u ⟨i⟩) (h : i < u.length) : stdBin .add .i64 i 1 = i + 1 ∧ stdBin .sub .i64 i 1 = i - 1 ∧ (i - 1).toNat = i.toNat - 1 ∧ 1 ≤ i ∧ uxM u ⟨i + 1⟩ < uxM u ⟨i⟩ ∧
    (¬ (ri (u.getD (i.toNat - 1) []) 0 > ri (u.getD i.toNat []) 0 ∨ ri (u.getD (i.toNat - 1) []) 0 = ri (u.getD i.toNat []) 0 ∧ ri (u.getD (i.toNat - 1) []) 1 > ri (u.getD i.toNat []) 1) → odQ u ⟨i + 1⟩) ∧ (ri (u.getD (i.toNat - 1) []) 0 > ri (u.getD i.toNat []) 0 ∨ ri (u.getD (i.toNat - 1) []) 0 = ri (u.getD i.toNat []) 0 ∧ ri (u.getD (i.toNat - 1) []) 1 > ri (u.getD i.toNat []) 1 → ordB u = false) := by
  obtain ⟨h0, h1, h2⟩ := hq
  simp only at h0 h1 h2
  refine ⟨by rw [b_add, wr _ (by omega) (by omega)], by rw [b_sub, wr _ (by omega) (by omega)], by omega, h0, by simp only [uxM]; omega, fun g => ⟨by simp only; omega, by simp only; omega, fun k hk k0 k1 => ?_⟩, fun g => decide_eq_false fun a => ?_⟩
  · simp only at hk
    by_cases c : k = i.toNat
    · rw [c]
      exact decide_eq_false g
    · exact h2 k (by omega) k0 k1
  · have := a i.toNat (by omega) (by omega)
    exact absurd g (of_decide_eq_false this)
theorem od_end {u : List E} {i : Int} (hq : odQ u ⟨i⟩) (h : ¬ i < u.length) : ordB u = true := by
  obtain ⟨h0, h1, h2⟩ := hq
  simp only at h0 h1 h2
  exact decide_eq_true fun k a b => h2 k (by omega) b a
def fuQ (f u : List E) (y : XI) : Prop := 0 ≤ y.i ∧ y.i ≤ f.length ∧ ∀ k : Nat, k < y.i → 0 ≤ upX u (ri (f.getD k []) 0) (ri (f.getD k []) 1)
theorem fu_zero (f u : List E) : fuQ f u ⟨0⟩ := ⟨Int.le_refl 0, Int.natCast_nonneg _, fun k h => by simp only at h; omega⟩
theorem fu_step {f u : List E} (hl : f.length ≤ 16384) {i : Int} (hq : fuQ f u ⟨i⟩) (h : i < f.length) : stdBin .add .i64 i 1 = i + 1 ∧ uxM f ⟨i + 1⟩ < uxM f ⟨i⟩ ∧ (¬ upX u (ri (f.getD i.toNat []) 0) (ri (f.getD i.toNat []) 1) < 0 → fuQ f u ⟨i + 1⟩) ∧ (upX u (ri (f.getD i.toNat []) 0) (ri (f.getD i.toNat []) 1) < 0 → fupB f u = false) := by
  obtain ⟨h0, h1, h2⟩ := hq
  simp only at h0 h1 h2
  refine ⟨by rw [b_add, wr _ (by omega) (by omega)], by simp only [uxM]; omega, fun g => ⟨by simp only; omega, by simp only; omega, fun k hk => ?_⟩, fun g => decide_eq_false fun a => ?_⟩
  · simp only at hk
    by_cases c : k = i.toNat
    · rw [c]
      omega
    · exact h2 k (by omega)
  · have := a i.toNat (by omega)
    omega
theorem fu_end {f u : List E} {i : Int} (hq : fuQ f u ⟨i⟩) (h : ¬ i < f.length) : fupB f u = true := by
  obtain ⟨h0, h1, h2⟩ := hq
  simp only at h0 h1 h2
  exact decide_eq_true fun k a => h2 k (by omega)
def putX (f u : List E) (a b : Int) (l : List Int) (x : Bool) : List E := if 0 ≤ upX u a b ∧ f.length < 16384 then f ++ [[.int a, .int b, .ints l, .bool x]] else f
noncomputable def uxI (f u : List E) (a b : Int) (y : XI) : St := stOf Try.f19.ntmps [(1, .val (.int .i64 a)), (2, .val (.int .i64 b)), (3, .ptr 1 0), (7, .val (.int .i64 y.i))] [(1, .cells 25 [.sl none (.recs (.int .i64 (.int .i64 (.ints .u8 (.bool .nil)))) f), .sl none (.recs (.int .i64 (.int .i64 (.int .i64 .nil))) u)])] [Any, Any, Any]
def uxR (st : St) : XI := ⟨slotI st 7⟩
noncomputable def odI (f u : List E) (y : XI) : St := stOf Try.f11.ntmps [(1, .ptr 1 0), (3, .val (.int .i64 y.i))] [(1, .cells 25 [.sl none (.recs (.int .i64 (.int .i64 (.ints .u8 (.bool .nil)))) f), .sl none (.recs (.int .i64 (.int .i64 (.int .i64 .nil))) u)])] [Any]
def odR (st : St) : XI := ⟨slotI st 3⟩
noncomputable def fuI (f u : List E) (y : XI) : St := stOf Try.f11.ntmps [(1, .ptr 1 0), (6, .val (.int .i64 y.i))] [(1, .cells 25 [.sl none (.recs (.int .i64 (.int .i64 (.ints .u8 (.bool .nil)))) f), .sl none (.recs (.int .i64 (.int .i64 (.int .i64 .nil))) u)])] [Any]
def fuR (st : St) : XI := ⟨slotI st 6⟩

structure Sq where
  q_x : List E → Int → Int → Int
  q_m : List E → List E → Bool
  q_p : List E → List E → Int → Int → List Int → Bool → List E
  q_l : List E → Bool
  q_o : List E → List E → Bool
  q_k : List E → List E → List Int → Bool
def Sq.std : Sq := ⟨upX, mayA, putX, fun l => decide (l.length ≤ 1000000), fun f u => decide (f.length ≤ 1000000 ∧ u.length ≤ 1000000), fun f u l => decide (f.length ≤ 1000000 ∧ u.length ≤ 1000000 ∧ l.length ≤ 1000000000)⟩

def c_rup (F : Sq) : Con := fun xs h => match xs, h with
  | [.agg [.sl none (.recs (.int .i64 (.int .i64 (.ints .u8 (.bool .nil)))) _), .sl none (.recs (.int .i64 (.int .i64 (.int .i64 .nil))) v_u)], .one (.val (.int .i64 x)), .one (.val (.int .i64 z))], [] => some ⟨F.q_l v_u = true, .sa (I (F.q_x v_u x z)), [], [Any, Any, Any]⟩
  | _, _ => none
set_option maxHeartbeats 2000000 in
set_option maxRecDepth 100000 in
theorem x_rup (v_f : List E) (v_u : List E) (x : Int) (z : Int) (hC : Sq.std.q_l v_u = true) : Does [] Try.f19 [.agg [.sl none (.recs (.int .i64 (.int .i64 (.ints .u8 (.bool .nil)))) v_f), .sl none (.recs (.int .i64 (.int .i64 (.int .i64 .nil))) v_u)], .one (.val (.int .i64 x)), .one (.val (.int .i64 z))] [] ⟨Sq.std.q_l v_u = true, .sa (I (Sq.std.q_x v_u x z)), [], [Any, Any, Any]⟩ := by
  intro b gv
  have hk : v_u.length ≤ 1000000 := of_decide_eq_true (show decide (v_u.length ≤ 1000000) = true from hC)
  have hfs := FsOk.nil
  generalize hF : Sq.std = F at hC hfs ⊢
  generalize hG0 : EgR.Fs.std = G0 at hC hfs ⊢
  generalize hA : Ar.std = A
  generalize hL : Lp _ _ _ = L
  obtain ⟨Z, zq⟩ := z_all
  refine @cd_open _ _ _ _ _ _ _ (lp_mono hL) _ _ zq rfl ?_
  repeat' (first
    | (refine z_open zq ?_; try dsimp only)
    | refine cd_seq zq ?_ (lp_mono hL)
    | refine cd_blk zq ?_
    | refine cd_ret ?_
    | refine cd_skip ?_
    | refine cd_exit ?_
    | refine cd_loop ?_
    | refine cd_cond rfl ?_
    | refine cd_condT rfl ?_
    | refine cd_condF rfl ?_
    | (refine Cd.mk ?_; cbv)
    | (refine Ends1.mk ?_; cbv)
    | (refine Fin1.mk ?_; cbv)
    | exact trivial
    | refine And.intro ?_ ?_
    | refine orf fun _ => ?_
    | refine ort fun _ => ?_)
  skip -- hfs
  subst hL
  refine loop_z (cx_ok hfs) (uxQ v_u x z) (uxI v_f v_u x z) (uxM v_u) uxR ⟨0⟩ ?_ ?_ ?_
  · exact ux_zero _ _ _
  · cbv
    repeat' (first | exact trivial | exact rfl | refine And.intro ?_ ?_)
  rintro ⟨i⟩ hq O hO
  have hst := fun h => ux_step hk hq h
  have hen := fun h => ux_end hq h
  have q1 := hq.2.1
  dsimp only at q1
  have q0 := hq.1
  dsimp only at q0
  subst hA
  generalize hA : Ar.std = A
  generalize hL : Lp _ _ _ = L
  refine cd_close zq ?_
  repeat' (first
    | (refine z_open zq ?_; try dsimp only)
    | refine cd_seq zq ?_ (lp_mono hL)
    | refine cd_blk zq ?_
    | refine cd_ret ?_
    | refine cd_skip ?_
    | refine cd_exit ?_
    | refine cd_loop ?_
    | refine cd_cond rfl ?_
    | refine cd_condT rfl ?_
    | refine cd_condF rfl ?_
    | (refine Cd.mk ?_; cbv)
    | (refine Ends1.mk ?_; cbv)
    | (refine Fin1.mk ?_; cbv)
    | exact trivial
    | refine And.intro ?_ ?_
    | refine orf fun _ => ?_
    | refine ort fun _ => ?_)
  all_goals (clear hL hfs zq Z hq; subst hA hF hG0 hO; simp only [Sq.std, Ar.std] at * <;> grind [stdCmp]; done)
theorem ok_rup : ConOk Try.prog 19 (c_rup Sq.std) := by
  refine con_of FsOk.nil Try.func19 rfl rfl fun xs h p hp => ?_
  unfold c_rup at hp
  split at hp
  · cases hp
    exact ⟨lee_le rfl, fun hC _ => @x_rup _ _ _ _ hC⟩
  · cases hp

def c_rmay (F : Sq) : Con := fun xs h => match xs, h with
  | [.agg [.sl none (.recs (.int .i64 (.int .i64 (.ints .u8 (.bool .nil)))) v_f), .sl none (.recs (.int .i64 (.int .i64 (.int .i64 .nil))) v_u)]], [] => some ⟨F.q_o v_f v_u = true, .sa (B (F.q_m v_f v_u)), [], [Any]⟩
  | _, _ => none
set_option maxHeartbeats 2000000 in
set_option maxRecDepth 100000 in
theorem x_rmay (v_f : List E) (v_u : List E) (hC : Sq.std.q_o v_f v_u = true) : Does [(28, c_rcheck EgR.Fs.std), (19, c_rup Sq.std)] Try.f11 [.agg [.sl none (.recs (.int .i64 (.int .i64 (.ints .u8 (.bool .nil)))) v_f), .sl none (.recs (.int .i64 (.int .i64 (.int .i64 .nil))) v_u)]] [] ⟨Sq.std.q_o v_f v_u = true, .sa (B (Sq.std.q_m v_f v_u)), [], [Any]⟩ := by
  intro b gv
  have hk : v_f.length ≤ 1000000 ∧ v_u.length ≤ 1000000 := of_decide_eq_true (show decide _ = true from hC)
  have hfs := (FsOk.cons ok_rcheck (FsOk.cons ok_rup FsOk.nil rfl) rfl)
  generalize hF : Sq.std = F at hC hfs ⊢
  generalize hG0 : EgR.Fs.std = G0 at hC hfs ⊢
  generalize hA : Ar.std = A
  generalize hL : Lp _ _ _ = L
  obtain ⟨Z, zq⟩ := z_all
  refine @cd_open _ _ _ _ _ _ _ (lp_mono hL) _ _ zq rfl ?_
  repeat' (first
    | (refine z_open zq ?_; try dsimp only)
    | refine cd_seq zq ?_ (lp_mono hL)
    | refine cd_blk zq ?_
    | refine cd_ret ?_
    | refine cd_skip ?_
    | refine cd_exit ?_
    | refine cd_loop ?_
    | refine cd_cond rfl ?_
    | refine cd_condT rfl ?_
    | refine cd_condF rfl ?_
    | (refine Cd.mk ?_; cbv)
    | (refine Ends1.mk ?_; cbv)
    | (refine Fin1.mk ?_; cbv)
    | exact trivial
    | refine And.intro ?_ ?_
    | refine orf fun _ => ?_
    | refine ort fun _ => ?_)
  all_goals first | (show L _ _ _; skip) | (clear hL hfs zq Z; subst hA hF hG0; simp only [Sq.std, EgR.Fs.std, Ar.std] at * <;> grind [stdCmp, mayA]; done)
  rename_i hx
  have hle : allE v_u = 0 ∧ v_f.length ≤ 16384 := by
    clear hL hfs zq Z
    subst hA hF hG0
    simp only [EgR.Fs.std, Ar.std] at hx
    grind [stdCmp]
  clear hx
  subst hL
  refine loop_z (cx_ok hfs) (odQ v_u) (odI v_f v_u) (uxM v_u) odR ⟨1⟩ ?_ ?_ ?_
  · exact od_zero _
  · cbv
    repeat' (first | exact trivial | exact rfl | refine And.intro ?_ ?_)
  rintro ⟨i⟩ hq O hO
  have hst := fun h => od_step hk.2 hq h
  have hen := fun h => od_end hq h
  have q0 := hq.1
  dsimp only at q0
  subst hA
  generalize hA : Ar.std = A
  generalize hL : Lp _ _ _ = L
  refine cd_close zq ?_
  repeat' (first
    | (refine z_open zq ?_; try dsimp only)
    | refine cd_seq zq ?_ (lp_mono hL)
    | refine cd_blk zq ?_
    | refine cd_ret ?_
    | refine cd_skip ?_
    | refine cd_exit ?_
    | refine cd_loop ?_
    | refine cd_cond rfl ?_
    | refine cd_condT rfl ?_
    | refine cd_condF rfl ?_
    | (refine Cd.mk ?_; cbv)
    | (refine Ends1.mk ?_; cbv)
    | (refine Fin1.mk ?_; cbv)
    | exact trivial
    | refine And.intro ?_ ?_
    | refine orf fun _ => ?_
    | refine ort fun _ => ?_)
  all_goals first | (show L _ _ _; skip) | (clear hL hfs zq Z hq; subst hA hF hG0 hO; simp only [Sq.std, Ar.std] at *; (try (have e2 := (hst (by grind [stdCmp])).2.2.1)); (try simp only [e2] at *) <;> grind [stdCmp, mayA]; done)
  rename_i hx
  have hen2 : ordB v_u = true := hen (by
    clear hL hfs zq Z hq hst hen hO
    subst hA
    simp only [Ar.std] at hx
    grind [stdCmp])
  clear hx hst hen hO
  subst hL
  refine loop_z (cx_ok hfs) (fuQ v_f v_u) (fuI v_f v_u) (uxM v_f) fuR ⟨0⟩ ?_ ?_ ?_
  · exact fu_zero _ _
  · cbv
    repeat' (first | exact trivial | exact rfl | refine And.intro ?_ ?_)
  rintro ⟨k⟩ hq2 O2 hO2
  have hst := fun h => fu_step hle.2 hq2 h
  have hen := fun h => fu_end hq2 h
  have q1 := hq2.2.1
  dsimp only at q1
  have q0 := hq2.1
  dsimp only at q0
  subst hA
  generalize hA : Ar.std = A
  generalize hL : Lp _ _ _ = L
  refine cd_close zq ?_
  repeat' (first
    | (refine z_open zq ?_; try dsimp only)
    | refine cd_seq zq ?_ (lp_mono hL)
    | refine cd_blk zq ?_
    | refine cd_ret ?_
    | refine cd_skip ?_
    | refine cd_exit ?_
    | refine cd_loop ?_
    | refine cd_cond rfl ?_
    | refine cd_condT rfl ?_
    | refine cd_condF rfl ?_
    | (refine Cd.mk ?_; cbv)
    | (refine Ends1.mk ?_; cbv)
    | (refine Fin1.mk ?_; cbv)
    | exact trivial
    | refine And.intro ?_ ?_
    | refine orf fun _ => ?_
    | refine ort fun _ => ?_)
  all_goals (clear hL hfs zq Z hq2; subst hA hF hG0 hO2; simp only [Sq.std, Ar.std] at * <;> grind [stdCmp, mayA]; done)
theorem ok_rmay : ConOk Try.prog 11 (c_rmay Sq.std) := by
  refine con_of (FsOk.cons ok_rcheck (FsOk.cons ok_rup FsOk.nil rfl) rfl) Try.func11 rfl rfl fun xs h p hp => ?_
  unfold c_rmay at hp
  split at hp
  · cases hp
    exact ⟨lee_le rfl, fun hC _ => @x_rmay _ _ hC⟩
  · cases hp

def c_rput (F : Sq) : Con := fun xs h => match xs, h with
  | [.agg [.sl none (.recs (.int .i64 (.int .i64 (.ints .u8 (.bool .nil)))) v_f), .sl none (.recs (.int .i64 (.int .i64 (.int .i64 .nil))) v_u)], .agg [.val (.int .i64 g_a), .val (.int .i64 g_b), .sl none (.ints .u8 g_l), .val (.bool g_x)]], [] => some ⟨F.q_k v_f v_u g_l = true, .sa (.agg [.sl none (.recs (.int .i64 (.int .i64 (.ints .u8 (.bool .nil)))) (F.q_p v_f v_u g_a g_b g_l g_x)), .sl none (.recs (.int .i64 (.int .i64 (.int .i64 .nil))) v_u)]), [], [Any, Any]⟩
  | _, _ => none
set_option maxHeartbeats 2000000 in
set_option maxRecDepth 100000 in
theorem x_rput (v_f : List E) (v_u : List E) (g_a : Int) (g_b : Int) (g_l : List Int) (g_x : Bool) (hC : Sq.std.q_k v_f v_u g_l = true) : Does [(19, c_rup Sq.std)] Try.f21 [.agg [.sl none (.recs (.int .i64 (.int .i64 (.ints .u8 (.bool .nil)))) v_f), .sl none (.recs (.int .i64 (.int .i64 (.int .i64 .nil))) v_u)], .agg [.val (.int .i64 g_a), .val (.int .i64 g_b), .sl none (.ints .u8 g_l), .val (.bool g_x)]] [] ⟨Sq.std.q_k v_f v_u g_l = true, .sa (.agg [.sl none (.recs (.int .i64 (.int .i64 (.ints .u8 (.bool .nil)))) (Sq.std.q_p v_f v_u g_a g_b g_l g_x)), .sl none (.recs (.int .i64 (.int .i64 (.int .i64 .nil))) v_u)]), [], [Any, Any]⟩ := by
  intro b gv
  have hk : v_f.length ≤ 1000000 ∧ v_u.length ≤ 1000000 ∧ g_l.length ≤ 1000000000 := of_decide_eq_true (show decide _ = true from hC)
  have hfs := (FsOk.cons ok_rup FsOk.nil rfl)
  generalize hF : Sq.std = F at hC hfs ⊢
  generalize hG0 : EgR.Fs.std = G0 at hC hfs ⊢
  generalize hA : Ar.std = A
  generalize hL : Lp _ _ _ = L
  obtain ⟨Z, zq⟩ := z_all
  refine @cd_open _ _ _ _ _ _ _ (lp_mono hL) _ _ zq rfl ?_
  repeat' (first
    | (refine z_open zq ?_; try dsimp only)
    | refine cd_seq zq ?_ (lp_mono hL)
    | refine cd_blk zq ?_
    | refine cd_ret ?_
    | refine cd_skip ?_
    | refine cd_exit ?_
    | refine cd_loop ?_
    | refine cd_cond rfl ?_
    | refine cd_condT rfl ?_
    | refine cd_condF rfl ?_
    | (refine Cd.mk ?_; cbv)
    | (refine Ends1.mk ?_; cbv)
    | (refine Fin1.mk ?_; cbv)
    | exact trivial
    | refine And.intro ?_ ?_
    | refine orf fun _ => ?_
    | refine ort fun _ => ?_)
  skip -- hfs
  all_goals (clear hL hfs zq Z; subst hA hF hG0; simp only [Sq.std, Ar.std, List.nil_append] at * <;> grind [stdCmp, putX]; done)
theorem ok_rput : ConOk Try.prog 21 (c_rput Sq.std) := by
  refine con_of (FsOk.cons ok_rup FsOk.nil rfl) Try.func21 rfl rfl fun xs h p hp => ?_
  unfold c_rput at hp
  split at hp
  · cases hp
    exact ⟨lee_le rfl, fun hC _ => @x_rput _ _ _ _ _ _ hC⟩
  · cases hp
end Go.Proofs.Ytphbfoafgfnmmaa.SkQ
