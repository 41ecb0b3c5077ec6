
/-
  all that is behind a node; all that is linked. No condition.
-/
import Derived.Test.YtfioaidmgcibaaaTrQ
namespace Go.Proofs.Ytfioaidmgcibaaa.TrD
open Go Go.Proofs.Ytfioaidmgcibaaa.Ry Go.Proofs.Ytfioaidmgcibaaa.So Go.Proofs.Ytfioaidmgcibaaa.JoS Go.Proofs.Ytfioaidmgcibaaa.EcX Go.Proofs.Ytfioaidmgcibaaa.EgR Go.Proofs.Ytfioaidmgcibaaa.EgL Go.Proofs.Ytfioaidmgcibaaa.SpR Go.Proofs.Ytfioaidmgcibaaa.SpQ Go.Proofs.Ytfioaidmgcibaaa.SpK Go.Proofs.Ytfioaidmgcibaaa.SpT Go.Proofs.Ytfioaidmgcibaaa.SpL Go.Proofs.Ytfioaidmgcibaaa.SpN Go.Proofs.Ytfioaidmgcibaaa.TrK Go.Proofs.Ytfioaidmgcibaaa.TrB Go.Proofs.Ytfioaidmgcibaaa.TrR Go.Proofs.Ytfioaidmgcibaaa.TrC Go.Proofs.Ytfioaidmgcibaaa.TrQ

theorem lk_mem {h : List Int} {n : Int} : n ∈ lkF h 65 ↔ 0 ≤ n ∧ n < 65 ∧ ¬ h.getD n.toNat 0 = 0 := by
  unfold lkF
  rw [List.mem_map]
  constructor
  · rintro ⟨i, hi, rfl⟩
    obtain ⟨h1, h2⟩ := List.mem_filter.1 hi
    have := List.mem_range.1 h1
    exact ⟨by omega, by omega, of_decide_eq_true h2⟩
  · rintro ⟨h0, h1, h2⟩
    exact ⟨n.toNat, List.mem_filter.2 ⟨List.mem_range.2 (by omega), decide_eq_true h2⟩, by omega⟩
/-- Whoever has hops to an end has a way there. -/
theorem lk_way {l : List E} {a r n : Int} (h : rtE l a r = 0) (hn : n ∈ lkF (twH l r) 65) : nod n ∧ rtE l n r = 0 ∧ okW (twH l r) n = true ∧ (wF 65 (twH l r) n).length ≤ 64 ∧ Cn (l.map trE) n r := by
  obtain ⟨na, nb, h1, f, c, w, g, _, lw, ck⟩ := rt_0 h
  obtain ⟨k0, k1, k2⟩ := lk_mem.1 hn
  have z := (tw_ok f nb).1.z0
  have n0 : nod n := by
    unfold nod
    by_cases e : n = 0
    · rw [e] at k2
      exact absurd z k2
    · omega
  have cx := (hop_iff f nb n0).1 k2
  obtain ⟨_, w2, _, w4⟩ := hop_way f nb cx
  obtain ⟨c1, c2, c3⟩ := ck_0 ck
  have ckn : ckF l n r = 0 := by
    unfold ckF
    rw [if_pos ⟨(node_iff n).2 n0, c2, c3⟩]
  refine ⟨n0, ?_, ?_, w4, cn_symm cx⟩
  · unfold rtE
    rw [if_pos ckn, if_neg k2]
  · unfold okW
    rw [w2, decide_eq_true (tw_len f nb)]
    rfl
def blP (l : List E) (r a : Int) (n : Int) : Bool := con (wF 65 (twH l r) n) a
def blF (l : List E) (r a : Int) : List Int := if rtE l a r = 0 then (lkF (twH l r) 65).filter (blP l r a) else []
structure XL where
  i : Int
  o : List Int
def blQ (l : List E) (r a : Int) (y : XL) : Prop := 0 ≤ y.i ∧ y.i ≤ (lkF (twH l r) 65).length ∧ y.o = ((lkF (twH l r) 65).take y.i.toNat).filter (blP l r a)
def blM (l : List E) (r : Int) (y : XL) : Nat := (lkF (twH l r) 65).length - y.i.toNat
noncomputable def blI (A : Ar) (a : Int) (h q : List Int) (y : XL) : St := stOf Try.f80.ntmps [(2, .val (.int .i64 a)), (8, .ptr 1 0), (10, .sl (some (2, 3)) (.ints .i64 y.o)), (24, .sl none (.ints .i64 q)), (25, .val (.int .i64 (A.lenI q))), (26, .val (.int .i64 y.i))] [(1, .row 139 (.ints .i64 h)), (2, .tok)] [Any, Any, Any]
def blR (st : St) : XL := ⟨slotI st 26, rdS st 10⟩
theorem tki (n : List Int) (i : Int) (h0 : 0 ≤ i) (h : i < n.length) : n.take (i + 1).toNat = n.take i.toNat ++ [n.getD i.toNat 0] := by
  have e : (i + 1).toNat = i.toNat + 1 := by omega
  have hi : i.toNat < n.length := by omega
  rw [e, List.take_add_one, List.getD_eq_getElem?_getD, List.getElem?_eq_getElem hi]
  rfl
theorem bl_step {l : List E} {r a : Int} (h : rtE l a r = 0) {i : Int} {o : List Int} (hq : blQ l r a ⟨i, o⟩) : 0 ≤ i ∧ i ≤ (lkF (twH l r) 65).length ∧ o.length ≤ 65 ∧ (i < (lkF (twH l r) 65).length → stdBin .add .i64 i 1 = i + 1 ∧ (∀ p, blM l r ⟨i + 1, p⟩ < blM l r ⟨i, o⟩) ∧ okW (twH l r) ((lkF (twH l r) 65).getD i.toNat 0) = true ∧ (wF 65 (twH l r) ((lkF (twH l r) 65).getD i.toNat 0)).length ≤ 64 ∧
    (con (wF 65 (twH l r) ((lkF (twH l r) 65).getD i.toNat 0)) a = true → blQ l r a ⟨i + 1, o ++ [(lkF (twH l r) 65).getD i.toNat 0]⟩) ∧ (con (wF 65 (twH l r) ((lkF (twH l r) 65).getD i.toNat 0)) a = false → blQ l r a ⟨i + 1, o⟩)) ∧ (¬ i < (lkF (twH l r) 65).length → o = blF l r a) := by
  obtain ⟨h0, h1, h2⟩ := hq
  simp only at h0 h1 h2
  have g := lk_len (twH l r) 65
  have g2 := List.length_filter_le (blP l r a) ((lkF (twH l r) 65).take i.toNat)
  rw [List.length_take] at g2
  have nx : ∀ k : i < (lkF (twH l r) 65).length, ((lkF (twH l r) 65).take (i + 1).toNat).filter (blP l r a) = o ++ if blP l r a ((lkF (twH l r) 65).getD i.toNat 0) = true then [(lkF (twH l r) 65).getD i.toNat 0] else [] := fun k => by
    rw [tki _ i h0 k, List.filter_append, ← h2, List.filter_cons, List.filter_nil]
  refine ⟨h0, h1, by rw [h2]; omega, fun k => ?_, fun k => ?_⟩
  · have hm := gd_mem (m := lkF (twH l r) 65) (i := i.toNat) (by omega)
    obtain ⟨_, _, w1, w2, _⟩ := lk_way h hm
    refine ⟨by rw [b_add, wr _ (by omega) (by omega)], fun p => by simp only [blM]; omega, w1, w2, fun c => ⟨by simp only; omega, by simp only; omega, ?_⟩, fun c => ⟨by simp only; omega, by simp only; omega, ?_⟩⟩
    · simp only
      rw [nx k, if_pos (show blP l r a _ = true from c)]
    · simp only
      rw [nx k, if_neg (show ¬ blP l r a _ = true by unfold blP; rw [c]; decide), List.append_nil]
  · have e : i = (lkF (twH l r) 65).length := by omega
    rw [e, Int.toNat_natCast, List.take_length] at h2
    unfold blF
    rw [if_pos h]
    exact h2
/-- The answer's: all that one is linked to. -/
def lnQ0 (l : List E) (a : Int) (k : Nat) : List Int := ((List.range k).filter fun j => decide (1 ≤ j) && rb ((reaB l a).getD j []) 0).map fun j : Nat => (j : Int)
def lnR (l : List E) (a : Int) : List Int := lnQ0 l a 65
def lnQ (l : List E) (a : Int) (y : XL) : Prop := 1 ≤ y.i ∧ y.i ≤ 65 ∧ y.o = lnQ0 l a y.i.toNat
def lnM (y : XL) : Nat := 65 - y.i.toNat
def lnRd (st : St) : XL := ⟨slotI st 7, rdS st 6⟩
theorem ln_len (l : List E) (a : Int) (k : Nat) : (lnQ0 l a k).length ≤ k := by
  unfold lnQ0
  rw [List.length_map]
  have := List.length_filter_le (fun j => decide (1 ≤ j) && rb ((reaB l a).getD j []) 0) (List.range k)
  rw [List.length_range] at this
  exact this
theorem ln_step {l : List E} {a : Int} {i : Int} {o : List Int} (hq : lnQ l a ⟨i, o⟩) : 1 ≤ i ∧ i ≤ 65 ∧ o.length ≤ 65 ∧ (i ≤ 64 → stdBin .add .i64 i 1 = i + 1 ∧ (∀ p, lnM ⟨i + 1, p⟩ < lnM ⟨i, o⟩) ∧ (rb ((reaB l a).getD i.toNat []) 0 = true → lnQ l a ⟨i + 1, o ++ [i]⟩) ∧ (rb ((reaB l a).getD i.toNat []) 0 = false → lnQ l a ⟨i + 1, o⟩)) ∧ (¬ i ≤ 64 → o = lnR l a) := by
  obtain ⟨h0, h1, h2⟩ := hq
  simp only at h0 h1 h2
  have g := ln_len l a i.toNat
  have s2 : (i + 1).toNat = i.toNat + 1 := by omega
  have nx : lnQ0 l a (i + 1).toNat = o ++ if rb ((reaB l a).getD i.toNat []) 0 = true then [i] else [] := by
    rw [s2, h2]
    unfold lnQ0
    rw [List.range_succ, List.filter_append, List.map_append, List.filter_cons, List.filter_nil, decide_eq_true (show 1 ≤ i.toNat by omega), Bool.true_and]
    congr 1
    split
    · show [((i.toNat : Nat) : Int)] = [i]
      rw [Int.toNat_of_nonneg (by omega)]
    · rfl
  refine ⟨h0, h1, by rw [h2]; omega, fun k => ⟨by rw [b_add, wr _ (by omega) (by omega)], fun p => by simp only [lnM]; omega, fun c => ⟨by simp only; omega, by simp only; omega, ?_⟩, fun c => ⟨by simp only; omega, by simp only; omega, ?_⟩⟩, fun k => ?_⟩
  · simp only
    rw [nx, if_pos c]
  · simp only
    rw [nx, if_neg (by rw [c]; decide), List.append_nil]
  · have e : i = 65 := by omega
    rw [h2, e]
    rfl
/-- Both are the same. -/
theorem ln_lk {l : List E} (f : Fo (l.map trE)) {a : Int} (ha : nod a) : lnR l a = lkF (twH l a) 65 := by
  unfold lnR lnQ0 lkF
  congr 1
  refine List.filter_congr fun j hj => ?_
  have hj := List.mem_range.1 hj
  have z := (tw_ok f ha).1.z0
  by_cases e : j = 0
  · subst e
    rw [decide_eq_false (show ¬ 1 ≤ 0 by omega), Bool.false_and]
    exact (decide_eq_false (fun k => k z)).symm
  · rw [decide_eq_true (show 1 ≤ j by omega), Bool.true_and, Bool.eq_iff_iff, decide_eq_true_eq]
    have nj : nod j := by unfold nod; omega
    have a1 := rea_iff (l := l) (fun y hy => f.ok _ (List.mem_map_of_mem hy)) ha nj
    have a2 := hop_iff f ha nj
    rw [Int.toNat_natCast] at a1
    rw [a1, ← a2]
    exact Iff.rfl
theorem lk_self {l : List E} (f : Fo (l.map trE)) {a : Int} (ha : nod a) : a ∈ lkF (twH l a) 65 := by
  have := (hop_iff f ha ha).2 .refl
  unfold nod at ha
  exact lk_mem.2 ⟨by omega, by omega, this⟩
/-- Of a node itself all is behind it that it is linked to. -/
theorem bl_self {l : List E} {a : Int} (h : rtE l a a = 0) : blF l a a = lkF (twH l a) 65 := by
  unfold blF
  rw [if_pos h, List.filter_eq_self]
  intro n hn
  obtain ⟨na, nb, h1, f, c, w, g, _, lw, ck⟩ := rt_0 h
  obtain ⟨n0, _, _, _, cn⟩ := lk_way h hn
  obtain ⟨w1, _, _, _⟩ := hop_way f nb (cn_symm cn)
  exact decide_eq_true (way_end w1)
theorem rt_self {l : List E} {a : Int} (h : ckF l a a = 0) : rtE l a a = 0 := by
  obtain ⟨h1, h2, h3⟩ := ck_0 h
  obtain ⟨f1, f2, f3⟩ := for_fo h3
  have na := (node_iff a).1 h1
  unfold rtE
  rw [if_pos h, if_neg ((hop_iff f2 na na).2 .refl)]

structure Td where
  d_bl : List E → Int → Int → List Int
  d_ok : List E → Bool
  d_ln : List E → Int → List Int
  d_in : List E → Bool
  d_rt : List E → Int → Int → Int
def Td.std : Td := ⟨blF, fun l => decide (l.length ≤ 1000000), lnR, inR, rtE⟩

def c_below (F : Td) : Con := fun xs h => match xs, h with
  | [.one (.sl none (.recs (.int .i64 (.int .i64 (.int .i64 .nil))) l)), .one (.val (.int .i64 r)), .one (.val (.int .i64 a))], [] => some ⟨F.d_ok l = true, .tup [.one (.sl none (.ints .i64 (F.d_bl l r a))), I (F.d_rt l a r)], [], [Any, Any, Any]⟩
  | _, _ => none
set_option cbv.maxSteps 4000000 in
set_option maxHeartbeats 4000000 in
set_option maxRecDepth 100000 in
theorem x_below (l : List E) (r : Int) (a : Int) (hC : Td.std.d_ok l = true) : Does [(106, c_route TrR.Tr.std), (107, c_linked TrR.Tr.std), (108, c_way TrR.Tr.std), (105, c_contains TrR.Tr.std)] Try.f80 [.one (.sl none (.recs (.int .i64 (.int .i64 (.int .i64 .nil))) l)), .one (.val (.int .i64 r)), .one (.val (.int .i64 a))] [] ⟨Td.std.d_ok l = true, .tup [.one (.sl none (.ints .i64 (Td.std.d_bl l r a))), I (Td.std.d_rt l a r)], [], [Any, Any, Any]⟩ := by
  intro b gv
  have h65 := rt_len (l := l) (a := a) (b := r)
  have h0 := fun h => (hv_0 (l := l) (a := a) (b := r) h).1
  have hbl : ¬ rtE l a r = 0 → blF l r a = [] := fun h => if_neg h
  have hfs := (FsOk.cons ok_route (FsOk.cons TrR.ok_linked (FsOk.cons ok_way (FsOk.cons ok_contains FsOk.nil rfl) rfl) rfl) rfl)
  generalize hF : Td.std = F at hC hfs ⊢
  generalize hG0 : TrR.Tr.std = G0 at hC hfs ⊢
  generalize hG1 : SpQ.Sq.std = G1 at hC hfs ⊢
  generalize hA : Ar.std = A
  generalize hL : Lp _ _ _ = L
  obtain ⟨Z, zq⟩ := z_all
  refine cd_open (lp_mono hL) zq rfl ?_
  repeat' (first
    | (refine z_open zq ?_; try dsimp only)
    | refine cd_seq zq ?_ (lp_mono hL)
    | refine cd_blk zq ?_
    | refine cd_ret ?_
    | refine cd_skip ?_
    | refine cd_exit ?_
    | refine cd_loop ?_
    | refine cd_cond rfl ?_
    | refine cd_condT rfl ?_
    | refine cd_condF rfl ?_
    | (refine Cd.mk ?_; cbv)
    | (refine Ends1.mk ?_; cbv)
    | (refine Fin1.mk ?_; cbv)
    | exact trivial
    | refine And.intro ?_ ?_
    | refine orf fun _ => ?_
    | refine ort fun _ => ?_)
  all_goals first | (show L _ _ _; skip) | (clear hL hfs zq Z; subst hA hF hG0 hG1; simp only [Td.std, TrR.Tr.std, Ar.std] at * <;> grind [stdCmp]; done)
  rename_i hx
  have hr : rtE l a r = 0 := by
    clear hL hfs zq Z h0 h65 hbl
    subst hA hF hG0 hG1
    simp only [Td.std, TrR.Tr.std, Ar.std] at *
    grind [stdCmp]
  clear hx
  have h1 := h0 hr
  have hlk := lk_len (twH l r) 65
  subst hL
  refine loop_z (cx_ok hfs) (blQ l r a) (blI A a (G0.t_rh l a r) (G0.t_lk (G0.t_rh l a r))) (blM l r) blR ⟨0, []⟩ ?_ ?_ ?_
  · exact ⟨Int.le_refl 0, Int.natCast_nonneg _, rfl⟩
  · cbv
    repeat' (first | exact trivial | exact rfl | refine And.intro ?_ ?_)
  rintro ⟨i, o⟩ hq O hO
  have hst := bl_step hr hq
  subst hA
  generalize hA : Ar.std = A
  generalize hL : Lp _ _ _ = L
  refine cd_close zq ?_
  repeat' (first
    | (refine z_open zq ?_; try dsimp only)
    | refine cd_seq zq ?_ (lp_mono hL)
    | refine cd_blk zq ?_
    | refine cd_ret ?_
    | refine cd_skip ?_
    | refine cd_exit ?_
    | refine cd_loop ?_
    | refine cd_cond rfl ?_
    | refine cd_condT rfl ?_
    | refine cd_condF rfl ?_
    | (refine Cd.mk ?_; cbv)
    | (refine Ends1.mk ?_; cbv)
    | (refine Fin1.mk ?_; cbv)
    | exact trivial
    | refine And.intro ?_ ?_
    | refine orf fun _ => ?_
    | refine ort fun _ => ?_)
  all_goals (clear hL hfs zq Z hq; subst hA hF hG0 hG1 hO; simp only [Td.std, TrR.Tr.std, Ar.std] at * <;> grind [stdCmp]; done)
theorem ok_below : ConOk Try.prog 80 (c_below Td.std) := by
  refine con_of (FsOk.cons ok_route (FsOk.cons TrR.ok_linked (FsOk.cons ok_way (FsOk.cons ok_contains FsOk.nil rfl) rfl) rfl) rfl) Try.func80 rfl rfl fun xs h p hp => ?_
  unfold c_below at hp
  split at hp
  · cases hp
    exact ⟨lee_le rfl, fun hC _ => x_below _ _ _ hC⟩
  · cases hp

def c_rlnk (F : Td) : Con := fun xs h => match xs, h with
  | [.one (.sl none (.recs (.int .i64 (.int .i64 (.int .i64 .nil))) l)), .one (.val (.int .i64 a))], [] => some ⟨F.d_in l = true, .sa (.one (.sl none (.ints .i64 (F.d_ln l a)))), [], [Any, Any]⟩
  | _, _ => none
end Go.Proofs.Ytfioaidmgcibaaa.TrD
