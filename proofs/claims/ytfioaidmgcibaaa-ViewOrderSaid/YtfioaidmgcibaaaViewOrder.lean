/-
  ViewOrder: for every input the call tells true, and nothing that was there turns. No condition.
-/
import Derived.Test.YtfioaidmgcibaaaRows
import Derived.Test.YtfioaidmgcibaaaLaw
import Derived.Test.YtfioaidmgcibaaaRyIn
import Derived.Test.YtfioaidmgcibaaaRyZ
import Derived.Test.YtfioaidmgcibaaaRyOp
import Derived.Test.YtfioaidmgcibaaaMgT
namespace Go.Proofs.Ytfioaidmgcibaaa.ViewOrder
open Go Go.Proofs.Ytfioaidmgcibaaa.Ry Go.Proofs.Ytfioaidmgcibaaa.Law Go.Proofs.Ytfioaidmgcibaaa.MgT Go.Proofs.Ytfioaidmgcibaaa.Cmp Go.Proofs.Ytfioaidmgcibaaa.ViR Go.Proofs.Ytfioaidmgcibaaa.ViC Go.Proofs.Ytfioaidmgcibaaa.ViS Go.Proofs.Ytfioaidmgcibaaa.ViL Go.Proofs.Ytfioaidmgcibaaa.ViT Go.Proofs.Ytfioaidmgcibaaa.ViQ Go.Proofs.Ytfioaidmgcibaaa.ViM Go.Proofs.Ytfioaidmgcibaaa.MgR
open Go.ChangeShapes Go.WideShapes Go.ChangeAt Go.Joins Go.RowKit
structure XG where
  i : Int
def gM (l : List E) (y : XG) : Nat := l.length - y.i.toNat
def gQ (l : List E) (y : XG) : Prop := 0 ≤ y.i ∧ y.i ≤ l.length
def gR (n : Nat) (st : St) : XG := ⟨slotI st n⟩
theorem g_step {l : List E} (hl : l.length ≤ 1000000) {i : Int} (hq : gQ l ⟨i⟩) (h : i < l.length) : stdBin .add .i64 i 1 = i + 1 ∧ gM l ⟨i + 1⟩ < gM l ⟨i⟩ ∧ gQ l ⟨i + 1⟩ := by
  obtain ⟨h0, h1⟩ := hq
  simp only at h0 h1
  exact ⟨by rw [b_add, wr _ (by omega) (by omega)], by simp only [gM]; omega, by simp only; omega, by simp only; omega⟩
noncomputable def voI (p q : List E) (y : XG) : St := stOf Try.f4.ntmps [(15, .sl none (.recs (.int .i64 (.int .i64 (.int .i64 (.int .i64 (.bool .nil))))) p)), (17, .sl none (.recs (.int .i64 (.int .i64 (.int .i64 (.int .i64 (.bool .nil))))) q)), (19, .val (.int .i64 y.i))] [] [Any, Any, Any]
structure XW where
  n : Int
  b : Bool
noncomputable def vwI (p q : List E) (i : Int) (y : XW) : St := stOf Try.f4.ntmps [(15, .sl none (.recs (.int .i64 (.int .i64 (.int .i64 (.int .i64 (.bool .nil))))) p)), (17, .sl none (.recs (.int .i64 (.int .i64 (.int .i64 (.int .i64 (.bool .nil))))) q)), (19, .val (.int .i64 i)), (20, .val (.bool y.b)), (21, .val (.int .i64 y.n))] [] [Any, Any, Any]
def wR (st : St) : XW := ⟨slotI st 21, slotB st 20⟩
def wQ (q : List E) (a : E) (y : XW) : Prop := 0 ≤ y.n ∧ y.n ≤ q.length ∧ ∀ j : Nat, j < y.n → kT (q.getD j []) = kT a → y.b = true
def wM (q : List E) (y : XW) : Nat := q.length - y.n.toNat
theorem w_zero (q : List E) (a : E) : wQ q a ⟨0, false⟩ := ⟨Int.le_refl 0, Int.natCast_nonneg _, fun j hj => by simp only at hj; omega⟩
theorem w_step {q : List E} {a : E} (hl : q.length ≤ 1000000) (hm : a ∈ q) {n : Int} {b : Bool} (h : wQ q a ⟨n, b⟩) : 0 ≤ n ∧ n ≤ q.length ∧ (n < q.length → stdBin .add .i64 n 1 = n + 1 ∧ (∀ b', wM q ⟨n + 1, b'⟩ < wM q ⟨n, b⟩) ∧
    ∀ b', (b = true → b' = true) → ((ri (q.getD n.toNat []) 0 = ri a 0 ∧ ri (q.getD n.toNat []) 1 = ri a 1 ∧ ri (q.getD n.toNat []) 2 = ri a 2 ∧ ri (q.getD n.toNat []) 3 = ri a 3 ∧ rb (q.getD n.toNat []) 4 = rb a 4) → b' = true) → wQ q a ⟨n + 1, b'⟩) ∧ (¬ n < q.length → b = true) := by
  obtain ⟨h0, h1, h2⟩ := h
  simp only at h0 h1 h2
  refine ⟨h0, h1, fun c => ⟨by rw [b_add, wr _ (by omega) (by omega)], fun b' => by simp only [wM]; omega, fun b' g1 g2 => ⟨by simp only; omega, by simp only; omega, fun j hj e => ?_⟩⟩, fun c => ?_⟩
  · simp only at hj ⊢
    by_cases z : j = n.toNat
    · rw [z] at e
      unfold kT at e
      simp only [Prod.mk.injEq] at e
      exact g2 e
    · exact g1 (h2 j (by omega) e)
  · obtain ⟨j, hj, rfl⟩ := List.getElem_of_mem hm
    exact h2 j (by omega) (by rw [at_rec q _ hj])
set_option maxHeartbeats 4000000 in
set_option cbv.maxSteps 4000000 in
set_option maxRecDepth 100000 in
theorem x_law (a0 : E) (a1 : E) (a2 : E) (_ : sized [.agg (shCells Ar.std (.ints .i64 (.recs (.int .i64 (.int .i64 (.int .i64 (.int .i64 (.bool .nil))))) .nil)) a0 0 2), .agg (shCells Ar.std (.ints .i64 (.recs (.int .i64 (.int .i64 (.int .i64 (.int .i64 (.bool .nil))))) .nil)) a1 0 2), .agg (shCells Ar.std (.ints .i64 (.recs (.int .i64 (.int .i64 (.int .i64 (.int .i64 (.bool .nil))))) .nil)) a2 0 2)]) : Does [(11, c_vlight Vm.std), (13, c_merge MgR.Mg.std), (17, c_rvsame ViS.Vq.std), (19, c_inner ViL.Vl.std), (12, c_vawake Vm.std)] Try.f4 [.agg (shCells Ar.std (.ints .i64 (.recs (.int .i64 (.int .i64 (.int .i64 (.int .i64 (.bool .nil))))) .nil)) a0 0 2), .agg (shCells Ar.std (.ints .i64 (.recs (.int .i64 (.int .i64 (.int .i64 (.int .i64 (.bool .nil))))) .nil)) a1 0 2), .agg (shCells Ar.std (.ints .i64 (.recs (.int .i64 (.int .i64 (.int .i64 (.int .i64 (.bool .nil))))) .nil)) a2 0 2)] [] ⟨True, .sa (B true), [], [Any, Any, Any]⟩ := by
  intro b gv
  have f0 : meE (rl a0 0) (rr a0 1) (rl a1 0) (rr a1 1) = 0 → meE (rl a1 0) (rr a1 1) (rl a2 0) (rr a2 1) = 0 → meE (meN (rl a0 0) (rr a0 1) (rl a1 0) (rr a1 1)) (meL (rl a0 0) (rr a0 1) (rl a1 0) (rr a1 1)) (rl a2 0) (rr a2 1) = meE (rl a0 0) (rr a0 1) (meN (rl a1 0) (rr a1 1) (rl a2 0) (rr a2 1)) (meL (rl a1 0) (rr a1 1) (rl a2 0) (rr a2 1)) ∧ meN (meN (rl a0 0) (rr a0 1) (rl a1 0) (rr a1 1)) (meL (rl a0 0) (rr a0 1) (rl a1 0) (rr a1 1)) (rl a2 0) (rr a2 1) = meN (rl a0 0) (rr a0 1) (meN (rl a1 0) (rr a1 1) (rl a2 0) (rr a2 1)) (meL (rl a1 0) (rr a1 1) (rl a2 0) (rr a2 1)) ∧ meL (meN (rl a0 0) (rr a0 1) (rl a1 0) (rr a1 1)) (meL (rl a0 0) (rr a0 1) (rl a1 0) (rr a1 1)) (rl a2 0) (rr a2 1) = meL (rl a0 0) (rr a0 1) (meN (rl a1 0) (rr a1 1) (rl a2 0) (rr a2 1)) (meL (rl a1 0) (rr a1 1) (rl a2 0) (rr a2 1)) ∧ meE (rl a1 0) (rr a1 1) (rl a0 0) (rr a0 1) = 0 ∧ meN (rl a1 0) (rr a1 1) (rl a0 0) (rr a0 1) = (meN (rl a0 0) (rr a0 1) (rl a1 0) (rr a1 1)) ∧ meL (rl a1 0) (rr a1 1) (rl a0 0) (rr a0 1) = (meL (rl a0 0) (rr a0 1) (rl a1 0) (rr a1 1)) ∧ mayV (rl a0 0) (rr a0 1) = true ∧ mayV (meN (rl a0 0) (rr a0 1) (rl a1 0) (rr a1 1)) (meL (rl a0 0) (rr a0 1) (rl a1 0) (rr a1 1)) = true ∧ ∀ y, y ∈ (rr a0 1) → y ∈ (meL (rl a0 0) (rr a0 1) (rl a1 0) (rr a1 1)) := fun h g => me_three (me_0.1 h) (me_0.1 g)
  have f1 : ∀ n l, sameV n l n l = true := fun n l => by unfold sameV sameI sameK; rw [decide_eq_true rfl, decide_eq_true rfl]; rfl
  have f2 : liV (rl a0 0) (rr a0 1) = true → (rl a0 0).length ≤ 70 ∧ (rr a0 1).length ≤ 200 := fun h => of_decide_eq_true h
  have f3 : liV (rl a1 0) (rr a1 1) = true → (rl a1 0).length ≤ 70 ∧ (rr a1 1).length ≤ 200 := fun h => of_decide_eq_true h
  have f4 : liV (rl a2 0) (rr a2 1) = true → (rl a2 0).length ≤ 70 ∧ (rr a2 1).length ≤ 200 := fun h => of_decide_eq_true h
  have l0 := me_len (rl a0 0) (rl a1 0) (rr a0 1) (rr a1 1)
  have l1 := me_len (rl a1 0) (rl a2 0) (rr a1 1) (rr a2 1)
  have l2 := me_len (meN (rl a0 0) (rr a0 1) (rl a1 0) (rr a1 1)) (rl a2 0) (meL (rl a0 0) (rr a0 1) (rl a1 0) (rr a1 1)) (rr a2 1)
  have l3 := me_len (rl a0 0) (meN (rl a1 0) (rr a1 1) (rl a2 0) (rr a2 1)) (rr a0 1) (meL (rl a1 0) (rr a1 1) (rl a2 0) (rr a2 1))
  have l4 := me_len (rl a1 0) (rl a0 0) (rr a1 1) (rr a0 1)
  have c0 : mayV (rl a0 0) (rr a0 1) = true → chV (rl a0 0) (rr a0 1) = 0 ∧ inV (rl a0 0) (rr a0 1) = inF (rr a0 1) := fun h => ⟨if_pos h, if_pos h⟩
  have c1 : mayV (meN (rl a0 0) (rr a0 1) (rl a1 0) (rr a1 1)) (meL (rl a0 0) (rr a0 1) (rl a1 0) (rr a1 1)) = true → chV (meN (rl a0 0) (rr a0 1) (rl a1 0) (rr a1 1)) (meL (rl a0 0) (rr a0 1) (rl a1 0) (rr a1 1)) = 0 ∧ inV (meN (rl a0 0) (rr a0 1) (rl a1 0) (rr a1 1)) (meL (rl a0 0) (rr a0 1) (rl a1 0) (rr a1 1)) = inF (meL (rl a0 0) (rr a0 1) (rl a1 0) (rr a1 1)) := fun h => ⟨if_pos h, if_pos h⟩
  have i0 := in_len (rr a0 1)
  have i1 := in_len (meL (rl a0 0) (rr a0 1) (rl a1 0) (rr a1 1))
  have hfs := (FsOk.cons ok_vlight (FsOk.cons ok_merge (FsOk.cons ok_rvsame (FsOk.cons ok_inner (FsOk.cons ok_vawake FsOk.nil rfl) rfl) rfl) rfl) rfl)
  generalize hF : ViQ.Vm.std = F at hfs ⊢
  generalize hG0 : ViC.Vc.std = G0 at hfs ⊢
  generalize hG1 : ViS.Vq.std = G1 at hfs ⊢
  generalize hG2 : ViL.Vl.std = G2 at hfs ⊢
  generalize hG3 : MgR.Mg.std = G3 at hfs ⊢
  generalize hG4 : ViM.Vg.std = G4 at hfs ⊢
  generalize hA : Ar.std = A
  generalize hL : Lp _ _ _ = L
  obtain ⟨Z, zq⟩ := z_all
  refine cd_open (lp_mono hL) zq rfl ?_
  repeat' (first
    | (refine z_open zq ?_; try dsimp only)
    | refine cd_seq zq ?_ (lp_mono hL)
    | refine cd_blk zq ?_
    | refine cd_ret ?_
    | refine cd_skip ?_
    | refine cd_exit ?_
    | refine cd_loop ?_
    | refine cd_cond rfl ?_
    | refine cd_condT rfl ?_
    | refine cd_condF rfl ?_
    | (refine Cd.mk ?_; cbv)
    | (refine Ends1.mk ?_; cbv)
    | (refine Fin1.mk ?_; cbv)
    | exact trivial
    | refine And.intro ?_ ?_
    | refine orf fun _ => ?_
    | refine ort fun _ => ?_)
  all_goals first | (show L _ _ _; skip) | (clear hL hfs zq Z; subst hA hF hG0 hG1 hG2 hG3 hG4; simp only [ViQ.Vm.std, ViS.Vq.std, ViL.Vl.std, MgR.Mg.std, Ar.std] at * <;> grind [stdCmp]; done)
  rename_i hx1 hx2 hx3 hx4
  have hv : liV (rl a0 0) (rr a0 1) = true ∧ liV (rl a1 0) (rr a1 1) = true ∧ liV (rl a2 0) (rr a2 1) = true ∧ meE (rl a0 0) (rr a0 1) (rl a1 0) (rr a1 1) = 0 ∧ meE (rl a1 0) (rr a1 1) (rl a2 0) (rr a2 1) = 0 := by
    clear hL hfs zq Z f0 f1
    subst hA hF hG0 hG1 hG2 hG3 hG4
    simp only [ViQ.Vm.std, ViS.Vq.std, ViL.Vl.std, MgR.Mg.std, Ar.std] at *
    grind [stdCmp]
  clear hx1 hx2 hx3 hx4
  obtain ⟨v0, v1, v2, v3, v4⟩ := hv
  obtain ⟨_, _, _, _, _, _, m0, m1, ms⟩ := f0 v3 v4
  obtain ⟨a0', a1'⟩ := f2 v0
  obtain ⟨b0', b1'⟩ := f3 v1
  obtain ⟨_, cA⟩ := c0 m0
  obtain ⟨_, cB⟩ := c1 m1
  have hmem : ∀ t, t ∈ inV (rl a0 0) (rr a0 1) → t ∈ inV (meN (rl a0 0) (rr a0 1) (rl a1 0) (rr a1 1)) (meL (rl a0 0) (rr a0 1) (rl a1 0) (rr a1 1)) := fun t ht => in_part m0 m1 ms ht
  have g0 : (inV (rl a0 0) (rr a0 1)).length ≤ 200 := by rw [cA]; omega
  have g1 : (inV (meN (rl a0 0) (rr a0 1) (rl a1 0) (rr a1 1)) (meL (rl a0 0) (rr a0 1) (rl a1 0) (rr a1 1))).length ≤ 400 := by rw [cB]; omega
  clear f0 f1 f2 f3 f4 l0 l1 l2 l3 l4 c0 c1 i0 i1 cA cB ms
  subst hL
  refine loop_z (cx_ok hfs) (gQ (inV (rl a0 0) (rr a0 1))) (voI (G2.l_in (A.rl a0 0) (A.rr a0 1)) (G2.l_in (G3.m_n (A.rl a0 0) (A.rr a0 1) (A.rl a1 0) (A.rr a1 1)) (G3.m_l (A.rl a0 0) (A.rr a0 1) (A.rl a1 0) (A.rr a1 1)))) (gM (inV (rl a0 0) (rr a0 1))) (gR 19) ⟨0⟩ ?_ ?_ ?_
  · exact ⟨Int.le_refl 0, Int.natCast_nonneg _⟩
  · cbv
    repeat' (first | exact trivial | exact rfl | refine And.intro ?_ ?_)
  rintro ⟨i⟩ hq O hO
  have hst := fun h => g_step (by omega) hq h
  have q0 := hq.1
  have q1 := hq.2
  dsimp only at q0 q1
  subst hA
  generalize hA : Ar.std = A
  generalize hL : Lp _ _ _ = L
  refine cd_close zq ?_
  repeat' (first
    | (refine z_open zq ?_; try dsimp only)
    | refine cd_seq zq ?_ (lp_mono hL)
    | refine cd_blk zq ?_
    | refine cd_ret ?_
    | refine cd_skip ?_
    | refine cd_exit ?_
    | refine cd_loop ?_
    | refine cd_cond rfl ?_
    | refine cd_condT rfl ?_
    | refine cd_condF rfl ?_
    | (refine Cd.mk ?_; cbv)
    | (refine Ends1.mk ?_; cbv)
    | (refine Fin1.mk ?_; cbv)
    | exact trivial
    | refine And.intro ?_ ?_
    | refine orf fun _ => ?_
    | refine ort fun _ => ?_)
  all_goals first | (show L _ _ _; skip) | (clear hL hfs zq Z hq hmem; subst hA hF hG0 hG1 hG2 hG3 hG4 hO; simp only [ViQ.Vm.std, ViC.Vc.std, ViS.Vq.std, ViL.Vl.std, MgR.Mg.std, ViM.Vg.std, Ar.std, List.nil_append] at * <;> grind [stdCmp]; done)
  rename_i hx
  have hi : i < (inV (rl a0 0) (rr a0 1)).length := by
    clear hL hfs zq Z hst hmem
    subst hA hF hG0 hG1 hG2 hG3 hG4
    simp only [ViL.Vl.std, Ar.std] at *
    grind [stdCmp]
  clear hx
  have hst := hst hi
  have hmem := hmem _ (pl_mem q0 hi)
  subst hL
  refine loop_z (cx_ok hfs) (wQ (inV (meN (rl a0 0) (rr a0 1) (rl a1 0) (rr a1 1)) (meL (rl a0 0) (rr a0 1) (rl a1 0) (rr a1 1))) ((inV (rl a0 0) (rr a0 1)).getD i.toNat [])) (vwI (G2.l_in (A.rl a0 0) (A.rr a0 1)) (G2.l_in (G3.m_n (A.rl a0 0) (A.rr a0 1) (A.rl a1 0) (A.rr a1 1)) (G3.m_l (A.rl a0 0) (A.rr a0 1) (A.rl a1 0) (A.rr a1 1))) i) (wM (inV (meN (rl a0 0) (rr a0 1) (rl a1 0) (rr a1 1)) (meL (rl a0 0) (rr a0 1) (rl a1 0) (rr a1 1)))) wR ⟨0, false⟩ ?_ ?_ ?_
  · exact w_zero _ _
  · cbv
    repeat' (first | exact trivial | exact rfl | refine And.intro ?_ ?_)
  rintro ⟨n, b⟩ hq2 O2 hO2
  have hs2 := w_step (by omega) hmem hq2
  subst hA
  generalize hA : Ar.std = A
  generalize hL : Lp _ _ _ = L
  refine cd_close zq ?_
  repeat' (first
    | (refine z_open zq ?_; try dsimp only)
    | refine cd_seq zq ?_ (lp_mono hL)
    | refine cd_blk zq ?_
    | refine cd_ret ?_
    | refine cd_skip ?_
    | refine cd_exit ?_
    | refine cd_loop ?_
    | refine cd_cond rfl ?_
    | refine cd_condT rfl ?_
    | refine cd_condF rfl ?_
    | (refine Cd.mk ?_; cbv)
    | (refine Ends1.mk ?_; cbv)
    | (refine Fin1.mk ?_; cbv)
    | exact trivial
    | refine And.intro ?_ ?_
    | refine orf fun _ => ?_
    | refine ort fun _ => ?_)
  all_goals (clear hL hfs zq Z hq hq2 hmem; subst hA hF hG0 hG1 hG2 hG3 hG4 hO hO2; simp only [ViL.Vl.std, MgR.Mg.std, Ar.std] at * <;> grind [stdCmp])
theorem walk (a0 : E) (a1 : E) (a2 : E) (v0 : Value) (v1 : Value) (v2 : Value) (w : World) (r0 : (SA.agg (shCells Ar.std (.ints .i64 (.recs (.int .i64 (.int .i64 (.int .i64 (.int .i64 (.bool .nil))))) .nil)) a0 0 2)).is (G0 w) v0) (_ : wfS (.ints .i64 (.recs (.int .i64 (.int .i64 (.int .i64 (.int .i64 (.bool .nil))))) .nil)) a0 0) (r1 : (SA.agg (shCells Ar.std (.ints .i64 (.recs (.int .i64 (.int .i64 (.int .i64 (.int .i64 (.bool .nil))))) .nil)) a1 0 2)).is (G0 w) v1) (_ : wfS (.ints .i64 (.recs (.int .i64 (.int .i64 (.int .i64 (.int .i64 (.bool .nil))))) .nil)) a1 0) (r2 : (SA.agg (shCells Ar.std (.ints .i64 (.recs (.int .i64 (.int .i64 (.int .i64 (.int .i64 (.bool .nil))))) .nil)) a2 0 2)).is (G0 w) v2) (_ : wfS (.ints .i64 (.recs (.int .i64 (.int .i64 (.int .i64 (.int .i64 (.bool .nil))))) .nil)) a2 0) : Calls Try.prog 4 #[v0, v1, v2] w (Law.Yes w) :=
  yes_of (FsOk.cons ok_vlight (FsOk.cons ok_merge (FsOk.cons ok_rvsame (FsOk.cons ok_inner (FsOk.cons ok_vawake FsOk.nil rfl) rfl) rfl) rfl) rfl) Try.func4 rfl (vs := [v0, v1, v2]) (by exact ⟨r0, r1, r2, trivial⟩) (lee_le rfl) fun hZ => x_law a0 a1 a2 hZ
theorem own : ownKnob Try.prog.godebug = none := by kernel_rfl
theorem laidOut : laidOutB Try.prog = true := by kernel_rfl
set_option maxRecDepth 100000 in
theorem lifted (os : Os) (started : os.Started) (H : Type) (enc : TypeId × Value → H) :
    ReturnsInHanded {} Try.checked os 4 .any (Rows.viewOrderSpec.pre6 enc Try.prog Try.f4 Rows.viewOrderRow.domain false) (Rows.viewOrderSpec.post enc Try.prog Try.f4 false true false false) := by
  refine returnsInHanded_of_change_sized (C := Try.checked) own started (by kernel_rfl) Try.func4
    (ChangeSpec.witness6 (enc := enc) (C := Try.checked) false ⟨#[], #[.agg #[.slice none 0 0, .slice none 0 0], .agg #[.slice none 0 0, .slice none 0 0], .agg #[.slice none 0 0, .slice none 0 0]], []⟩ 8 (by kernel_rfl) (by kernel_rfl) (by kernel_rfl) (by kernel_rfl)) ?_
  intro W base args ds gs before hval0 hW _ hz _
  have hval : ∀ (j : Nat) t v, Try.f4.params[j]? = some t → args[j]? = some v → Value.okWide Try.prog W .any base t v := hval0
  have hW' := hW
  obtain ⟨p, q, hA0, hV, rfl, _, _⟩ := hW
  have hA : DataW.TrodAll enc Try.prog W 0 (fun _ => true) true Try.f4.params.toList args.toList ds p := hA0
  rw [Try.params4] at hA hval
  obtain ⟨v0, v1, v2, d0, d1, d2, p0, p1, p2, rfl, rfl, rfl, h0, h1, h2⟩ := trodAll_three hA
  obtain ⟨rfl, rfl⟩ := trodVars_none hV
  obtain ⟨a0, r0, w0⟩ := agg_any (s := .ints .i64 (.recs (.int .i64 (.int .i64 (.int .i64 (.int .i64 (.bool .nil))))) .nil)) (by rw [Try.underlying25]) (by kernel_rfl) (by kernel_rfl) (hval 0 25 v0 rfl rfl) h0
  obtain ⟨a1, r1, w1⟩ := agg_any (s := .ints .i64 (.recs (.int .i64 (.int .i64 (.int .i64 (.int .i64 (.bool .nil))))) .nil)) (by rw [Try.underlying25]) (by kernel_rfl) (by kernel_rfl) (hval 1 25 v1 rfl rfl) h1
  obtain ⟨a2, r2, w2⟩ := agg_any (s := .ints .i64 (.recs (.int .i64 (.int .i64 (.int .i64 (.int .i64 (.bool .nil))))) .nil)) (by rw [Try.underlying25]) (by kernel_rfl) (by kernel_rfl) (hval 2 25 v2 rfl rfl) h2
  refine (walk a0 a1 a2 v0 v1 v2 W r0 w0 r1 w1 r2 w2).mono fun e W' ⟨he, hb⟩ => ?_
  subst he
  exact ⟨_, rfl, law_post laidOut (by kernel_rfl) (by kernel_rfl) Try.underlying4 rfl hW' rfl hb⟩
theorem proved : Rows.ViewOrderSaid :=
  OpenClaim.holds_of_wide 4 Try.f4 rfl rfl rfl rfl rfl rfl rfl ⟨rfl, rfl, rfl, rfl, rfl⟩ rfl rfl rfl rfl rfl (by kernel_rfl) Try.func4 (by kernel_rfl)
    (of_decide_eq_true (by kernel_rfl)) (by unfold Func.isWrapper; first | (rw [if_pos (by decide +kernel)]; kernel_rfl) | (rw [if_neg (by decide +kernel)]; exact ⟨rfl, rfl⟩))
    (fun os started H enc _ => lifted os started H enc)
end Go.Proofs.Ytfioaidmgcibaaa.ViewOrder
