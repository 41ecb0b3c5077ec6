/-
  what the answer makes of joins. No condition.
-/
import Derived.Test.YtgfficaonampbaaJoN
import Derived.Test.YtgfficaonampbaaJoC
namespace Go.Proofs.Ytgfficaonampbaa.JoU
open Go Go.Proofs.Ytgfficaonampbaa.Ry Go.Proofs.Ytgfficaonampbaa.JoS Go.Proofs.Ytgfficaonampbaa.JoR Go.Proofs.Ytgfficaonampbaa.JoW Go.Proofs.Ytgfficaonampbaa.JoN Go.Proofs.Ytgfficaonampbaa.JoC

def inB (W : List Int) (a : Int) : Bool := decide (1 ≤ a ∧ a < W.length)
def rB (W : List Int) (a b : Int) : Bool := decide ((1 ≤ a ∧ a < W.length) ∧ (1 ≤ b ∧ b < W.length) ∧ ¬ ix W a = ix W b)
def rJ (W : List Int) (lo hi : Int) (k : Nat) : List Int := (List.range k).map fun i : Nat => if 0 < (i : Int) ∧ ix W i = hi then lo else ix W i
def rU (W : List Int) (a b : Int) : List Int := if rB W a b = true then rJ W (if ix W b < ix W a then ix W b else ix W a) (if ix W b < ix W a then ix W a else ix W b) W.length else W
def cN (W : List Int) (r : Int → Int) (k : Nat) : Int := (((List.range k).countP fun i : Nat => decide (1 ≤ (i : Int) ∧ ix W i = r i) : Nat) : Int)
def rS (W : List Int) : Int := cN W id W.length
def rZ (W : List Int) (a : Int) : Int := if inB W a = true then cN W (fun _ => ix W a) W.length else 0
def ioN (i : Int) : List Int := (List.range i.toNat).map fun j : Nat => (j : Int)
def sameB (u : List Int) (a d : Int) : Bool := decide (¬ lstI u a = 0 ∧ lstI u a = lstI (lstU u a) d)
def sameU (u : List Int) (a d : Int) : List Int := if lstI u a = 0 then lstU u a else lstU (lstU u a) d
theorem ix_getD (W : List Int) (i : Int) : W.getD i.toNat 0 = ix W i := rfl
structure XA where
  i : Int
  o : List Int
def nQ (n : Int) (y : XA) : Prop := 1 ≤ y.i ∧ y.i ≤ n + 1 ∧ y.o = ioN y.i
def nM (n : Int) (y : XA) : Nat := (n + 1 - y.i).toNat
noncomputable def nI (n : Int) (y : XA) : St := stOf Try.f20.ntmps [(0, .val (.int .i64 n)), (3, .sl (some (1, 3)) (.ints .i64 y.o)), (4, .val (.int .i64 y.i))] [(1, .tok)] [Any]
def nR (st : St) : XA := ⟨slotI st 4, slotL st 3⟩
theorem n_step {n i : Int} {o : List Int} (hn : n ≤ 60) (hq : nQ n ⟨i, o⟩) (h : i ≤ n) : stdBin .add .i64 i 1 = i + 1 ∧ o.length ≤ 100 ∧ nQ n ⟨i + 1, o ++ [i]⟩ := by
  obtain ⟨h0, h1, h2⟩ := hq
  simp only at h0 h1 h2
  refine ⟨by rw [b_add, wr _ (by omega) (by omega)], by rw [h2]; simp [ioN]; omega, by simp only; omega, by simp only; omega, ?_⟩
  have e : (i + 1).toNat = i.toNat + 1 := by omega
  simp only [ioN]
  rw [h2, e, List.range_succ, List.map_append]
  simp [ioN]
  omega
theorem n_end {n i : Int} {o : List Int} (hq : nQ n ⟨i, o⟩) (h : ¬ i ≤ n) : o = iota n := by
  obtain ⟨h0, h1, h2⟩ := hq
  simp only at h0 h1 h2
  have e : i = n + 1 := by omega
  rw [h2, e]
  rfl
def uQ (W : List Int) (lo hi : Int) (y : XA) : Prop := 0 ≤ y.i ∧ y.i ≤ W.length ∧ y.o = rJ W lo hi y.i.toNat
def uM (W : List Int) (y : XA) : Nat := W.length - y.i.toNat
noncomputable def uI (W : List Int) (lo hi : Int) (y : XA) : St := stOf Try.f21.ntmps [(0, .sl none (.ints .i64 W)), (8, .val (.int .i64 lo)), (9, .val (.int .i64 hi)), (10, .sl (some (1, 3)) (.ints .i64 y.o)), (11, .val (.int .i64 y.i))] [(1, .tok)] [Any, Any, Any]
def uR (st : St) : XA := ⟨slotI st 11, slotL st 10⟩
theorem u_step {W : List Int} {lo hi i : Int} {o : List Int} (hl : W.length ≤ 5000) (hq : uQ W lo hi ⟨i, o⟩) (h : i < W.length) : stdBin .add .i64 i 1 = i + 1 ∧ o.length ≤ 5000 ∧ (0 < i ∧ ix W i = hi → uQ W lo hi ⟨i + 1, o ++ [lo]⟩) ∧ (¬ (0 < i ∧ ix W i = hi) → uQ W lo hi ⟨i + 1, o ++ [ix W i]⟩) := by
  obtain ⟨h0, h1, h2⟩ := hq
  simp only at h0 h1 h2
  have e : (i + 1).toNat = i.toNat + 1 := by omega
  have e2 : ((i.toNat : Nat) : Int) = i := by omega
  refine ⟨by rw [b_add, wr _ (by omega) (by omega)], by rw [h2]; simp [rJ]; omega, fun g => ⟨by simp only; omega, by simp only; omega, ?_⟩, fun g => ⟨by simp only; omega, by simp only; omega, ?_⟩⟩
  · simp only [rJ]
    rw [h2, e, List.range_succ, List.map_append, List.map_cons, List.map_nil, e2, if_pos g]
    rfl
  · simp only [rJ]
    rw [h2, e, List.range_succ, List.map_append, List.map_cons, List.map_nil, e2, if_neg g]
    rfl
theorem u_end {W : List Int} {lo hi i : Int} {o : List Int} (hq : uQ W lo hi ⟨i, o⟩) (h : ¬ i < W.length) : o = rJ W lo hi W.length := by
  obtain ⟨h0, h1, h2⟩ := hq
  simp only at h0 h1 h2
  rw [h2]
  congr 1
  omega
structure XC where
  i : Int
  n : Int
def sQ (W : List Int) (r : Int → Int) (y : XC) : Prop := 1 ≤ y.i ∧ (y.i ≤ W.length ∨ y.i = 1) ∧ y.n = cN W r y.i.toNat
def sM (W : List Int) (y : XC) : Nat := W.length - y.i.toNat
noncomputable def sI (W : List Int) (y : XC) : St := stOf Try.f22.ntmps [(0, .sl none (.ints .i64 W)), (3, .val (.int .i64 y.n)), (4, .val (.int .i64 y.i))] [] [Any]
def sR (st : St) : XC := ⟨slotI st 4, slotI st 3⟩
noncomputable def zI (W : List Int) (a : Int) (y : XC) : St := stOf Try.f25.ntmps [(0, .sl none (.ints .i64 W)), (1, .val (.int .i64 a)), (5, .val (.int .i64 y.n)), (6, .val (.int .i64 y.i))] [] [Any, Any]
def zR (st : St) : XC := ⟨slotI st 6, slotI st 5⟩
theorem c_zero (W : List Int) (r : Int → Int) : sQ W r ⟨1, 0⟩ := ⟨Int.le_refl 1, .inr rfl, by simp [cN, List.range_succ]⟩
theorem c_step {W : List Int} {r : Int → Int} {i n : Int} (hl : W.length ≤ 5000) (hq : sQ W r ⟨i, n⟩) (h : i < W.length) : stdBin .add .i64 i 1 = i + 1 ∧ stdBin .add .i64 n 1 = n + 1 ∧ (ix W i = r i → sQ W r ⟨i + 1, n + 1⟩) ∧ (¬ ix W i = r i → sQ W r ⟨i + 1, n⟩) := by
  obtain ⟨h0, h1, h2⟩ := hq
  simp only at h0 h1 h2
  have e : (i + 1).toNat = i.toNat + 1 := by omega
  have e2 : ((i.toNat : Nat) : Int) = i := by omega
  have hn : 0 ≤ n ∧ n ≤ 5000 := by
    rw [h2]
    unfold cN
    have := List.countP_le_length (p := fun i : Nat => decide (1 ≤ (i : Int) ∧ ix W i = r i)) (l := List.range i.toNat)
    rw [List.length_range] at this
    omega
  have hs : cN W r (i + 1).toNat = cN W r i.toNat + (if ix W i = r i then 1 else 0) := by
    unfold cN
    rw [e, List.range_succ, List.countP_append, List.countP_cons, List.countP_nil, e2]
    by_cases g : ix W i = r i
    · rw [if_pos g, if_pos (decide_eq_true ⟨h0, g⟩)]
      omega
    · rw [if_neg g, if_neg (by rw [decide_eq_true_eq]; exact fun w => g w.2)]
      omega
  refine ⟨by rw [b_add, wr _ (by omega) (by omega)], by rw [b_add, wr _ (by omega) (by omega)], fun g => ⟨by simp only; omega, by simp only; omega, ?_⟩, fun g => ⟨by simp only; omega, by simp only; omega, ?_⟩⟩
  · simp only
    rw [hs, if_pos g, h2]
  · simp only
    rw [hs, if_neg g, h2]
    omega
theorem c_end {W : List Int} {r : Int → Int} {i n : Int} (hW : 1 ≤ W.length) (hq : sQ W r ⟨i, n⟩) (h : ¬ i < W.length) : n = cN W r W.length := by
  obtain ⟨h0, h1, h2⟩ := hq
  simp only at h0 h1 h2
  rw [h2]
  congr 1
  omega
def zQ (W : List Int) (a : Int) (y : XC) : Prop := sQ W (fun _ => ix W a) y ∧ (inB W a = false → y.n = 0)
theorem z_step {W : List Int} {a i n : Int} (hl : W.length ≤ 5000) (hq : zQ W a ⟨i, n⟩) (hb : inB W a = true) (h : i < W.length) : stdBin .add .i64 i 1 = i + 1 ∧ stdBin .add .i64 n 1 = n + 1 ∧ (ix W i = ix W a → zQ W a ⟨i + 1, n + 1⟩) ∧ (¬ ix W i = ix W a → zQ W a ⟨i + 1, n⟩) := by
  have hf : ∀ P : Prop, inB W a = false → P := fun P w => by rw [hb] at w; cases w
  obtain ⟨h1, h2, h3, h4⟩ := c_step hl hq.1 h
  exact ⟨h1, h2, fun g => ⟨h3 g, hf _⟩, fun g => ⟨h4 g, hf _⟩⟩
theorem z_end {W : List Int} {a i n : Int} (hW : 1 ≤ W.length) (hq : zQ W a ⟨i, n⟩) (h : i < W.length → inB W a = false) : n = rZ W a := by
  unfold rZ
  cases g : inB W a with
  | true =>
    rw [if_pos rfl]
    exact c_end hW hq.1 fun w => by rw [h w] at g; cases g
  | false => exact hq.2 g
def okW (W : List Int) : Bool := decide (1 ≤ W.length ∧ W.length ≤ 5000)

structure Qs where
  q_n : Int → Bool
  q_io : Int → List Int
  q_in : List Int → Int → Bool
  q_B : List Int → Int → Int → Bool
  q_U : List Int → Int → Int → List Int
  q_S : List Int → Int
  q_Z : List Int → Int → Int
  q_ok : List Int → Bool
  q_same : List Int → Int → Int → Bool
  q_sU : List Int → Int → Int → List Int
  q_okU : List Int → Bool
  q_bad : Int → Bool
def Qs.std : Qs := ⟨fun n => decide (0 ≤ n ∧ n ≤ 60), iota, inB, rB, rU, rS, rZ, okW, sameB, sameU, okU, fun n => !vN n⟩

def c_rnew (F : Qs) : Con := fun xs h => match xs, h with
  | [.one (.val (.int .i64 n))], [] => some ⟨F.q_n n = true, .sa (.one (.sl none (.ints .i64 (F.q_io n)))), [], [Any]⟩
  | _, _ => none
set_option maxHeartbeats 1000000 in
set_option maxRecDepth 100000 in
theorem x_rnew (n : Int) (hC : Qs.std.q_n n = true) : Does [] Try.f20 [.one (.val (.int .i64 n))] [] ⟨Qs.std.q_n n = true, .sa (.one (.sl none (.ints .i64 (Qs.std.q_io n)))), [], [Any]⟩ := by
  intro b gv
  have hn := of_decide_eq_true (show decide (0 ≤ n ∧ n ≤ 60) = true from hC)
  have hfs := FsOk.nil
  generalize hF : Qs.std = F at hC hfs ⊢
  generalize hA : Ar.std = A
  generalize hL : Lp _ _ _ = L
  obtain ⟨Z, zq⟩ := z_all
  refine cd_open (lp_mono hL) zq rfl ?_
  repeat' (first
    | (refine z_open zq ?_; try dsimp only)
    | refine cd_seq zq ?_ (lp_mono hL)
    | refine cd_blk zq ?_
    | refine cd_ret ?_
    | refine cd_skip ?_
    | refine cd_exit ?_
    | refine cd_loop ?_
    | refine cd_cond rfl ?_
    | refine cd_condT rfl ?_
    | refine cd_condF rfl ?_
    | (refine Cd.mk ?_; cbv)
    | (refine Ends1.mk ?_; cbv)
    | (refine Fin1.mk ?_; cbv)
    | exact trivial
    | refine And.intro ?_ ?_
    | refine orf fun _ => ?_
    | refine ort fun _ => ?_)
  subst hL
  refine loop_z (cx_ok hfs) (nQ n) (nI n) (nM n) nR ⟨1, [0]⟩ ?_ ?_ ?_
  · exact ⟨Int.le_refl 1, by simp only; omega, rfl⟩
  · cbv
    repeat' (first | exact trivial | exact rfl | refine And.intro ?_ ?_)
  rintro ⟨i, o⟩ hq O hO
  have hst := fun h => n_step hn.2 hq h
  have hen := fun h => n_end hq h
  have q0 := hq.1
  have q1 := hq.2.1
  dsimp only at q0 q1
  subst hA
  generalize hA : Ar.std = A
  generalize hL : Lp _ _ _ = L
  refine cd_close zq ?_
  repeat' (first
    | (refine z_open zq ?_; try dsimp only)
    | refine cd_seq zq ?_ (lp_mono hL)
    | refine cd_blk zq ?_
    | refine cd_ret ?_
    | refine cd_skip ?_
    | refine cd_exit ?_
    | refine cd_loop ?_
    | refine cd_cond rfl ?_
    | refine cd_condT rfl ?_
    | refine cd_condF rfl ?_
    | (refine Cd.mk ?_; cbv)
    | (refine Ends1.mk ?_; cbv)
    | (refine Fin1.mk ?_; cbv)
    | exact trivial
    | refine And.intro ?_ ?_
    | refine orf fun _ => ?_
    | refine ort fun _ => ?_)
  all_goals (clear hL hfs zq Z hq; subst hA hF hO; simp only [Qs.std, Ar.std, ix_getD] at * <;> grind [stdCmp, nM])
theorem ok_rnew : ConOk Try.prog 20 (c_rnew Qs.std) := by
  refine con_of FsOk.nil Try.func20 rfl rfl fun xs h p hp => ?_
  unfold c_rnew at hp
  split at hp
  · cases hp
    exact ⟨lee_le rfl, fun hC _ => x_rnew _ hC⟩
  · cases hp

def c_rhas (F : Qs) : Con := fun xs h => match xs, h with
  | [.one (.sl none (.ints .i64 l)), .one (.val (.int .i64 a))], [] => some ⟨True, .sa (B (F.q_in l a)), [], [Any, Any]⟩
  | _, _ => none
set_option maxRecDepth 100000 in
theorem x_rhas (l : List Int) (a : Int) : Does [] Try.f23 [.one (.sl none (.ints .i64 l)), .one (.val (.int .i64 a))] [] ⟨True, .sa (B (Qs.std.q_in l a)), [], [Any, Any]⟩ := by
  intro b gv
  generalize hF : Qs.std = F
  generalize hA : Ar.std = A
  generalize hL : Lp _ _ _ = L
  obtain ⟨Z, zq⟩ := z_all
  refine cd_open (lp_mono hL) zq rfl ?_
  repeat' (first
    | (refine z_open zq ?_; try dsimp only)
    | refine cd_seq zq ?_ (lp_mono hL)
    | refine cd_blk zq ?_
    | refine cd_ret ?_
    | refine cd_skip ?_
    | refine cd_exit ?_
    | refine cd_loop ?_
    | refine cd_cond rfl ?_
    | refine cd_condT rfl ?_
    | refine cd_condF rfl ?_
    | (refine Cd.mk ?_; cbv)
    | (refine Ends1.mk ?_; cbv)
    | (refine Fin1.mk ?_; cbv)
    | exact trivial
    | refine And.intro ?_ ?_
    | refine orf fun _ => ?_
    | refine ort fun _ => ?_)
  all_goals (clear hL zq Z; subst hF hA; simp only [Qs.std, Ar.std] at * <;> grind [stdCmp, inB])
theorem ok_rhas : ConOk Try.prog 23 (c_rhas Qs.std) := by
  refine con_of FsOk.nil Try.func23 rfl rfl fun xs h p hp => ?_
  unfold c_rhas at hp
  split at hp
  · cases hp
    exact ⟨lee_le rfl, fun _ _ => x_rhas _ _⟩
  · cases hp

def c_runite (F : Qs) : Con := fun xs h => match xs, h with
  | [.one (.sl none (.ints .i64 l)), .one (.val (.int .i64 a)), .one (.val (.int .i64 d))], [] => some ⟨F.q_ok l = true, .tup [.one (.sl none (.ints .i64 (F.q_U l a d))), B (F.q_B l a d)], [], [Any, Any, Any]⟩
  | _, _ => none
set_option maxHeartbeats 2000000 in
set_option maxRecDepth 100000 in
theorem x_runite (l : List Int) (a : Int) (d : Int) (hC : Qs.std.q_ok l = true) : Does [(23, c_rhas Qs.std)] Try.f21 [.one (.sl none (.ints .i64 l)), .one (.val (.int .i64 a)), .one (.val (.int .i64 d))] [] ⟨Qs.std.q_ok l = true, .tup [.one (.sl none (.ints .i64 (Qs.std.q_U l a d))), B (Qs.std.q_B l a d)], [], [Any, Any, Any]⟩ := by
  intro b gv
  have hk := of_decide_eq_true (show decide (1 ≤ l.length ∧ l.length ≤ 5000) = true from hC)
  have hfs := (FsOk.cons ok_rhas FsOk.nil rfl)
  generalize hF : Qs.std = F at hC hfs ⊢
  generalize hA : Ar.std = A
  generalize hL : Lp _ _ _ = L
  obtain ⟨Z, zq⟩ := z_all
  refine cd_open (lp_mono hL) zq rfl ?_
  repeat' (first
    | (refine z_open zq ?_; try dsimp only)
    | refine cd_seq zq ?_ (lp_mono hL)
    | refine cd_blk zq ?_
    | refine cd_ret ?_
    | refine cd_skip ?_
    | refine cd_exit ?_
    | refine cd_loop ?_
    | refine cd_cond rfl ?_
    | refine cd_condT rfl ?_
    | refine cd_condF rfl ?_
    | (refine Cd.mk ?_; cbv)
    | (refine Ends1.mk ?_; cbv)
    | (refine Fin1.mk ?_; cbv)
    | exact trivial
    | refine And.intro ?_ ?_
    | refine orf fun _ => ?_
    | refine ort fun _ => ?_)
  all_goals first | (show L _ _ _; skip) | (clear hL zq Z hfs; subst hF hA; simp only [Qs.std, Ar.std, ix_getD] at *; grind [stdCmp, inB, rB, rU]; done)
  · rename_i hx1 hx2
    have hv : rB l a d = true ∧ ix l d < ix l a := by
      clear hL zq Z hfs
      subst hF hA
      simp only [Qs.std, Ar.std, ix_getD] at hx1 hx2
      grind [stdCmp, inB, rB]
    subst hL
    refine loop_z (cx_ok hfs) (uQ l (ix l d) (ix l a)) (uI l (A.atI l d) (A.atI l a)) (uM l) uR ⟨0, []⟩ ?_ ?_ ?_
    · exact ⟨Int.le_refl 0, Int.natCast_nonneg _, rfl⟩
    · cbv
      repeat' (first | exact trivial | exact rfl | refine And.intro ?_ ?_)
    rintro ⟨i, o⟩ hq O hO
    have hst := fun h => u_step hk.2 hq h
    have hen := fun h => u_end hq h
    have hU : rU l a d = rJ l (ix l d) (ix l a) l.length := by unfold rU; rw [if_pos hv.1, if_pos hv.2, if_pos hv.2]
    have q0 := hq.1
    have q1 := hq.2.1
    dsimp only at q0 q1
    subst hA
    generalize hA : Ar.std = A
    generalize hL : Lp _ _ _ = L
    refine cd_close zq ?_
    repeat' (first
      | (refine z_open zq ?_; try dsimp only)
      | refine cd_seq zq ?_ (lp_mono hL)
      | refine cd_blk zq ?_
      | refine cd_ret ?_
      | refine cd_skip ?_
      | refine cd_exit ?_
      | refine cd_loop ?_
      | refine cd_cond rfl ?_
      | refine cd_condT rfl ?_
      | refine cd_condF rfl ?_
      | (refine Cd.mk ?_; cbv)
      | (refine Ends1.mk ?_; cbv)
      | (refine Fin1.mk ?_; cbv)
      | exact trivial
      | refine And.intro ?_ ?_
      | refine orf fun _ => ?_
      | refine ort fun _ => ?_)
    all_goals (clear hL hfs zq Z hq; subst hA hF hO; simp only [Qs.std, Ar.std, ix_getD] at * <;> grind [stdCmp, uM])
  · rename_i hx1 hx2
    have hv : rB l a d = true ∧ ¬ ix l d < ix l a := by
      clear hL zq Z hfs
      subst hF hA
      simp only [Qs.std, Ar.std, ix_getD] at hx1 hx2
      grind [stdCmp, inB, rB]
    subst hL
    refine loop_z (cx_ok hfs) (uQ l (ix l a) (ix l d)) (uI l (A.atI l a) (A.atI l d)) (uM l) uR ⟨0, []⟩ ?_ ?_ ?_
    · exact ⟨Int.le_refl 0, Int.natCast_nonneg _, rfl⟩
    · cbv
      repeat' (first | exact trivial | exact rfl | refine And.intro ?_ ?_)
    rintro ⟨i, o⟩ hq O hO
    have hst := fun h => u_step hk.2 hq h
    have hen := fun h => u_end hq h
    have hU : rU l a d = rJ l (ix l a) (ix l d) l.length := by unfold rU; rw [if_pos hv.1, if_neg hv.2, if_neg hv.2]
    have q0 := hq.1
    have q1 := hq.2.1
    dsimp only at q0 q1
    subst hA
    generalize hA : Ar.std = A
    generalize hL : Lp _ _ _ = L
    refine cd_close zq ?_
    repeat' (first
      | (refine z_open zq ?_; try dsimp only)
      | refine cd_seq zq ?_ (lp_mono hL)
      | refine cd_blk zq ?_
      | refine cd_ret ?_
      | refine cd_skip ?_
      | refine cd_exit ?_
      | refine cd_loop ?_
      | refine cd_cond rfl ?_
      | refine cd_condT rfl ?_
      | refine cd_condF rfl ?_
      | (refine Cd.mk ?_; cbv)
      | (refine Ends1.mk ?_; cbv)
      | (refine Fin1.mk ?_; cbv)
      | exact trivial
      | refine And.intro ?_ ?_
      | refine orf fun _ => ?_
      | refine ort fun _ => ?_)
    all_goals (clear hL hfs zq Z hq; subst hA hF hO; simp only [Qs.std, Ar.std, ix_getD] at * <;> grind [stdCmp, uM])
theorem ok_runite : ConOk Try.prog 21 (c_runite Qs.std) := by
  refine con_of (FsOk.cons ok_rhas FsOk.nil rfl) Try.func21 rfl rfl fun xs h p hp => ?_
  unfold c_runite at hp
  split at hp
  · cases hp
    exact ⟨lee_le rfl, fun hC _ => x_runite _ _ _ hC⟩
  · cases hp

def c_rsets (F : Qs) : Con := fun xs h => match xs, h with
  | [.one (.sl none (.ints .i64 l))], [] => some ⟨F.q_ok l = true, .sa (I (F.q_S l)), [], [Any]⟩
  | _, _ => none
set_option maxHeartbeats 1000000 in
set_option maxRecDepth 100000 in
theorem x_rsets (l : List Int) (hC : Qs.std.q_ok l = true) : Does [] Try.f22 [.one (.sl none (.ints .i64 l))] [] ⟨Qs.std.q_ok l = true, .sa (I (Qs.std.q_S l)), [], [Any]⟩ := by
  intro b gv
  have hk := of_decide_eq_true (show decide (1 ≤ l.length ∧ l.length ≤ 5000) = true from hC)
  have hfs := FsOk.nil
  generalize hF : Qs.std = F at hC hfs ⊢
  generalize hA : Ar.std = A
  generalize hL : Lp _ _ _ = L
  obtain ⟨Z, zq⟩ := z_all
  refine cd_open (lp_mono hL) zq rfl ?_
  repeat' (first
    | (refine z_open zq ?_; try dsimp only)
    | refine cd_seq zq ?_ (lp_mono hL)
    | refine cd_blk zq ?_
    | refine cd_ret ?_
    | refine cd_skip ?_
    | refine cd_exit ?_
    | refine cd_loop ?_
    | refine cd_cond rfl ?_
    | refine cd_condT rfl ?_
    | refine cd_condF rfl ?_
    | (refine Cd.mk ?_; cbv)
    | (refine Ends1.mk ?_; cbv)
    | (refine Fin1.mk ?_; cbv)
    | exact trivial
    | refine And.intro ?_ ?_
    | refine orf fun _ => ?_
    | refine ort fun _ => ?_)
  subst hL
  refine loop_z (cx_ok hfs) (sQ l id) (sI l) (sM l) sR ⟨1, 0⟩ ?_ ?_ ?_
  · exact c_zero l id
  · cbv
    repeat' (first | exact trivial | exact rfl | refine And.intro ?_ ?_)
  rintro ⟨i, n⟩ hq O hO
  have hst := fun h => c_step (r := id) hk.2 hq h
  have hen := fun h => c_end hk.1 hq h
  have q0 := hq.1
  dsimp only [id] at q0 hst
  subst hA
  generalize hA : Ar.std = A
  generalize hL : Lp _ _ _ = L
  refine cd_close zq ?_
  repeat' (first
    | (refine z_open zq ?_; try dsimp only)
    | refine cd_seq zq ?_ (lp_mono hL)
    | refine cd_blk zq ?_
    | refine cd_ret ?_
    | refine cd_skip ?_
    | refine cd_exit ?_
    | refine cd_loop ?_
    | refine cd_cond rfl ?_
    | refine cd_condT rfl ?_
    | refine cd_condF rfl ?_
    | (refine Cd.mk ?_; cbv)
    | (refine Ends1.mk ?_; cbv)
    | (refine Fin1.mk ?_; cbv)
    | exact trivial
    | refine And.intro ?_ ?_
    | refine orf fun _ => ?_
    | refine ort fun _ => ?_)
  all_goals (clear hL hfs zq Z hq; subst hA hF hO; simp only [Qs.std, Ar.std, ix_getD] at * <;> grind [stdCmp, sM, rS])
theorem ok_rsets : ConOk Try.prog 22 (c_rsets Qs.std) := by
  refine con_of FsOk.nil Try.func22 rfl rfl fun xs h p hp => ?_
  unfold c_rsets at hp
  split at hp
  · cases hp
    exact ⟨lee_le rfl, fun hC _ => x_rsets _ hC⟩
  · cases hp

def c_rsize (F : Qs) : Con := fun xs h => match xs, h with
  | [.one (.sl none (.ints .i64 l)), .one (.val (.int .i64 a))], [] => some ⟨F.q_ok l = true, .sa (I (F.q_Z l a)), [], [Any, Any]⟩
  | _, _ => none
set_option maxHeartbeats 1000000 in
set_option maxRecDepth 100000 in
theorem x_rsize (l : List Int) (a : Int) (hC : Qs.std.q_ok l = true) : Does [(23, c_rhas Qs.std)] Try.f25 [.one (.sl none (.ints .i64 l)), .one (.val (.int .i64 a))] [] ⟨Qs.std.q_ok l = true, .sa (I (Qs.std.q_Z l a)), [], [Any, Any]⟩ := by
  intro b gv
  have hk := of_decide_eq_true (show decide (1 ≤ l.length ∧ l.length ≤ 5000) = true from hC)
  have hfs := (FsOk.cons ok_rhas FsOk.nil rfl)
  generalize hF : Qs.std = F at hC hfs ⊢
  generalize hA : Ar.std = A
  generalize hL : Lp _ _ _ = L
  obtain ⟨Z, zq⟩ := z_all
  refine cd_open (lp_mono hL) zq rfl ?_
  repeat' (first
    | (refine z_open zq ?_; try dsimp only)
    | refine cd_seq zq ?_ (lp_mono hL)
    | refine cd_blk zq ?_
    | refine cd_ret ?_
    | refine cd_skip ?_
    | refine cd_exit ?_
    | refine cd_loop ?_
    | refine cd_cond rfl ?_
    | refine cd_condT rfl ?_
    | refine cd_condF rfl ?_
    | (refine Cd.mk ?_; cbv)
    | (refine Ends1.mk ?_; cbv)
    | (refine Fin1.mk ?_; cbv)
    | exact trivial
    | refine And.intro ?_ ?_
    | refine orf fun _ => ?_
    | refine ort fun _ => ?_)
  subst hL
  refine loop_z (cx_ok hfs) (zQ l a) (zI l a) (sM l) zR ⟨1, 0⟩ ?_ ?_ ?_
  · exact ⟨c_zero l _, fun _ => rfl⟩
  · cbv
    repeat' (first | exact trivial | exact rfl | refine And.intro ?_ ?_)
  rintro ⟨i, n⟩ hq O hO
  have hst := fun hb h => z_step hk.2 hq hb h
  have hen := fun h => z_end hk.1 hq h
  have q0 := hq.1.1
  have hia : inB l a = true → 0 ≤ a ∧ a < l.length := fun h => by have := of_decide_eq_true h; omega
  dsimp only at q0
  subst hA
  generalize hA : Ar.std = A
  generalize hL : Lp _ _ _ = L
  refine cd_close zq ?_
  repeat' (first
    | (refine z_open zq ?_; try dsimp only)
    | refine cd_seq zq ?_ (lp_mono hL)
    | refine cd_blk zq ?_
    | refine cd_ret ?_
    | refine cd_skip ?_
    | refine cd_exit ?_
    | refine cd_loop ?_
    | refine cd_cond rfl ?_
    | refine cd_condT rfl ?_
    | refine cd_condF rfl ?_
    | (refine Cd.mk ?_; cbv)
    | (refine Ends1.mk ?_; cbv)
    | (refine Fin1.mk ?_; cbv)
    | exact trivial
    | refine And.intro ?_ ?_
    | refine orf fun _ => ?_
    | refine ort fun _ => ?_)
  all_goals (clear hL hfs zq Z hq; subst hA hF hO; simp only [Qs.std, Ar.std, ix_getD] at * <;> grind [stdCmp, sM])
theorem ok_rsize : ConOk Try.prog 25 (c_rsize Qs.std) := by
  refine con_of (FsOk.cons ok_rhas FsOk.nil rfl) Try.func25 rfl rfl fun xs h p hp => ?_
  unfold c_rsize at hp
  split at hp
  · cases hp
    exact ⟨lee_le rfl, fun hC _ => x_rsize _ _ hC⟩
  · cases hp

def c_same (F : Qs) : Con := fun xs h => match xs, h with
  | [.one (.ptr 0 0), .one (.val (.int .i64 a)), .one (.val (.int .i64 d))], [(0, .cells 42 [.own 1, .own 2, .val (.int .i64 s)]), (1, .row 3 (.ints .i64 u)), (2, .row 3 (.ints .i64 z))] => some ⟨F.q_okU u = true, .sa (B (F.q_same u a d)), [(0, .cells 42 [.own 1, .own 2, .val (.int .i64 s)]), (1, .row 3 (.ints .i64 (F.q_sU u a d))), (2, .row 3 (.ints .i64 z))], [.one (.ptr 0 0), Any, Any]⟩
  | _, _ => none
set_option maxHeartbeats 1000000 in
set_option maxRecDepth 100000 in
theorem x_same (a : Int) (d : Int) (s : Int) (u : List Int) (z : List Int) (hC : Qs.std.q_okU u = true) : Does [(18, c_least JoR.Fs.std)] Try.f26 [.one (.ptr 0 0), .one (.val (.int .i64 a)), .one (.val (.int .i64 d))] [(0, .cells 42 [.own 1, .own 2, .val (.int .i64 s)]), (1, .row 3 (.ints .i64 u)), (2, .row 3 (.ints .i64 z))] ⟨Qs.std.q_okU u = true, .sa (B (Qs.std.q_same u a d)), [(0, .cells 42 [.own 1, .own 2, .val (.int .i64 s)]), (1, .row 3 (.ints .i64 (Qs.std.q_sU u a d))), (2, .row 3 (.ints .i64 z))], [.one (.ptr 0 0), Any, Any]⟩ := by
  intro b gv
  have k1 := lst_ok a (show okU u = true from hC)
  have hfs := (FsOk.cons ok_least FsOk.nil rfl)
  generalize hF : Qs.std = F at hC hfs ⊢
  generalize hG0 : JoR.Fs.std = G0 at hC hfs ⊢
  generalize hA : Ar.std = A
  generalize hL : Lp _ _ _ = L
  obtain ⟨Z, zq⟩ := z_all
  refine cd_open (lp_mono hL) zq rfl ?_
  repeat' (first
    | (refine z_open zq ?_; try dsimp only)
    | refine cd_seq zq ?_ (lp_mono hL)
    | refine cd_blk zq ?_
    | refine cd_ret ?_
    | refine cd_skip ?_
    | refine cd_exit ?_
    | refine cd_loop ?_
    | refine cd_cond rfl ?_
    | refine cd_condT rfl ?_
    | refine cd_condF rfl ?_
    | (refine Cd.mk ?_; cbv)
    | (refine Ends1.mk ?_; cbv)
    | (refine Fin1.mk ?_; cbv)
    | exact trivial
    | refine And.intro ?_ ?_
    | refine orf fun _ => ?_
    | refine ort fun _ => ?_)
  all_goals
    clear hL zq Z hfs
    subst hF hA hG0
    simp only [Qs.std, JoR.Fs.std, Ar.std] at *
    try (grind [stdCmp, sameB, sameU])
theorem ok_same : ConOk Try.prog 26 (c_same Qs.std) := by
  refine con_of (FsOk.cons ok_least FsOk.nil rfl) Try.func26 rfl rfl fun xs h p hp => ?_
  unfold c_same at hp
  split at hp
  · cases hp
    exact ⟨lee_le rfl, fun hC _ => x_same _ _ _ _ _ hC⟩
  · cases hp

def c_newbad (F : Qs) : Con := fun xs h => match xs, h with
  | [.one (.val (.int .i64 n))], [] => some ⟨F.q_bad n = true, .tup [.one (.val (.pointer none)), I 1], [], [Any]⟩
  | _, _ => none
set_option maxHeartbeats 1000000 in
set_option maxRecDepth 100000 in
theorem x_newbad (n : Int) (hC : Qs.std.q_bad n = true) : Does [] Try.f15 [.one (.val (.int .i64 n))] [] ⟨Qs.std.q_bad n = true, .tup [.one (.val (.pointer none)), I 1], [], [Any]⟩ := by
  intro b gv
  have hv : (!vN n) = true := hC
  generalize hF : Qs.std = F at hC ⊢
  generalize hA : Ar.std = A
  generalize hL : Lp _ _ _ = L
  obtain ⟨Z, zq⟩ := z_all
  refine cd_open (lp_mono hL) zq rfl ?_
  repeat' (first
    | (refine z_open zq ?_; try dsimp only)
    | refine cd_seq zq ?_ (lp_mono hL)
    | refine cd_blk zq ?_
    | refine cd_ret ?_
    | refine cd_skip ?_
    | refine cd_exit ?_
    | refine cd_loop ?_
    | refine cd_cond rfl ?_
    | refine cd_condT rfl ?_
    | refine cd_condF rfl ?_
    | (refine Cd.mk ?_; cbv)
    | (refine Ends1.mk ?_; cbv)
    | (refine Fin1.mk ?_; cbv)
    | exact trivial
    | refine And.intro ?_ ?_
    | refine orf fun _ => ?_
    | refine ort fun _ => ?_)
  all_goals first | (show L _ _ _; exfalso; clear hL zq Z; subst hF hA; simp only [Ar.std] at *; grind [stdCmp, vN]) | (clear hL zq Z; subst hF hA; simp only [Qs.std, Ar.std] at * <;> grind [stdCmp, vN]; done)
theorem ok_newbad : ConOk Try.prog 15 (c_newbad Qs.std) := by
  refine con_of FsOk.nil Try.func15 rfl rfl fun xs h p hp => ?_
  unfold c_newbad at hp
  split at hp
  · cases hp
    exact ⟨lee_le rfl, fun hC _ => x_newbad _ hC⟩
  · cases hp
end Go.Proofs.Ytgfficaonampbaa.JoU
