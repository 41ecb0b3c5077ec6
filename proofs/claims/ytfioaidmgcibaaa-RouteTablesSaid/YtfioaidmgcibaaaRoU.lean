/-
  tables of routes. No condition.
-/
import Derived.Test.YtfioaidmgcibaaaRoT
namespace Go.Proofs.Ytfioaidmgcibaaa.RoU
open Go Go.Proofs.Ytfioaidmgcibaaa.Ry Go.Proofs.Ytfioaidmgcibaaa.So Go.Proofs.Ytfioaidmgcibaaa.JoS Go.Proofs.Ytfioaidmgcibaaa.EcX Go.Proofs.Ytfioaidmgcibaaa.EgR Go.Proofs.Ytfioaidmgcibaaa.EgL Go.Proofs.Ytfioaidmgcibaaa.SpR Go.Proofs.Ytfioaidmgcibaaa.SpQ Go.Proofs.Ytfioaidmgcibaaa.SpK Go.Proofs.Ytfioaidmgcibaaa.SpT Go.Proofs.Ytfioaidmgcibaaa.SpL Go.Proofs.Ytfioaidmgcibaaa.SpN Go.Proofs.Ytfioaidmgcibaaa.TrK Go.Proofs.Ytfioaidmgcibaaa.TrB Go.Proofs.Ytfioaidmgcibaaa.TrR Go.Proofs.Ytfioaidmgcibaaa.TrC Go.Proofs.Ytfioaidmgcibaaa.TrQ Go.Proofs.Ytfioaidmgcibaaa.TrD Go.Proofs.Ytfioaidmgcibaaa.RoR Go.Proofs.Ytfioaidmgcibaaa.RoT

open Go.Proofs.Ytfioaidmgcibaaa.ViR (mayV)
open Go.Proofs.Ytfioaidmgcibaaa.ViL (boV boF)
def tb1 (k : List E) (a : Int) (q : List Int) : List E := (q.filter fun t => !decide (t = a)).map fun t => [D.int t, D.int (nxB k a t)]
def tbB (n : List Int) (l : List E) (a : Int) : List E := if tfE n l a a = 0 then tb1 (boV n l) a (lkF (twH (boV n l) a) 65) else []
structure XT where
  i : Int
  o : List E
def tbQ (k : List E) (a : Int) (q : List Int) (y : XT) : Prop := 0 ≤ y.i ∧ y.i ≤ q.length ∧ y.o = tb1 k a (q.take y.i.toNat)
def tbM (q : List Int) (y : XT) : Nat := q.length - y.i.toNat
noncomputable def tbI (A : Ar) (k : List E) (a : Int) (q : List Int) (y : XT) : St := stOf Try.f39.ntmps [(1, .val (.int .i64 a)), (6, .sl none (.recs (.int .i64 (.int .i64 (.int .i64 .nil))) k)), (10, .sl (some (2, 71)) (.recs (.int .i64 (.int .i64 .nil)) y.o)), (32, .sl none (.ints .i64 q)), (33, .val (.int .i64 (A.lenI q))), (34, .val (.int .i64 y.i))] [(2, .tok)] [Any, Any]
def tbR (st : St) : XT := ⟨slotI st 34, ctR (match slotC st 10 with | .sl _ c => c | _ => .recs .nil [])⟩
theorem tb_len (k : List E) (a : Int) (q : List Int) : (tb1 k a q).length ≤ q.length := by
  unfold tb1
  rw [List.length_map]
  exact List.length_filter_le _ _
theorem tb_step {k : List E} {a : Int} {q : List Int} (hl : q.length ≤ 65) {i : Int} {o : List E} (hq : tbQ k a q ⟨i, o⟩) : 0 ≤ i ∧ i ≤ q.length ∧ o.length ≤ 65 ∧ (i < q.length → stdBin .add .i64 i 1 = i + 1 ∧ (∀ p, tbM q ⟨i + 1, p⟩ < tbM q ⟨i, o⟩) ∧ (q.getD i.toNat 0 = a → tbQ k a q ⟨i + 1, o⟩) ∧ (¬ q.getD i.toNat 0 = a → tbQ k a q ⟨i + 1, o ++ [[D.int (q.getD i.toNat 0), D.int (nxB k a (q.getD i.toNat 0))]]⟩)) ∧ (¬ i < q.length → o = tb1 k a q) := by
  obtain ⟨h0, h1, h2⟩ := hq
  simp only at h0 h1 h2
  have g := tb_len k a (q.take i.toNat)
  rw [← h2, List.length_take] at g
  have nx : ∀ z : i < q.length, tb1 k a (q.take (i + 1).toNat) = o ++ if q.getD i.toNat 0 = a then [] else [[D.int (q.getD i.toNat 0), D.int (nxB k a (q.getD i.toNat 0))]] := fun z => by
    unfold tb1 at h2 ⊢
    rw [tki q i h0 z, List.filter_append, List.map_append, ← h2, List.filter_cons, List.filter_nil]
    congr 1
    by_cases e : q.getD i.toNat 0 = a
    · rw [if_pos e, decide_eq_true e]
      rfl
    · rw [if_neg e, decide_eq_false e]
      rfl
  refine ⟨h0, h1, by omega, fun z => ⟨by rw [b_add, wr _ (by omega) (by omega)], fun p => by simp only [tbM]; omega, fun e => ⟨by simp only; omega, by simp only; omega, ?_⟩, fun e => ⟨by simp only; omega, by simp only; omega, ?_⟩⟩, fun z => ?_⟩
  · simp only
    rw [nx z, if_pos e, List.append_nil]
  · simp only
    rw [nx z, if_neg e]
  · have e : i = q.length := by omega
    rw [e, Int.toNat_natCast, List.take_length] at h2
    exact h2
/-- The table, node by node. -/
def tq (h : List Int) (a : Int) (k : Nat) : List Int := (lkF h k).filter fun t => !decide (t = a)
theorem lk_succ (h : List Int) (k : Nat) : lkF h (k + 1) = lkF h k ++ if h.getD k 0 = 0 then [] else [(k : Int)] := by
  unfold lkF
  rw [List.range_succ, List.filter_append, List.map_append, List.filter_cons, List.filter_nil]
  congr 1
  by_cases g : h.getD k 0 = 0
  · rw [if_pos g, decide_eq_false (fun q => q g)]
    rfl
  · rw [if_neg g, decide_eq_true g]
    rfl
theorem tq_succ (h : List Int) (a : Int) (k : Nat) : tq h a (k + 1) = tq h a k ++ if h.getD k 0 = 0 ∨ (k : Int) = a then [] else [(k : Int)] := by
  unfold tq
  rw [lk_succ, List.filter_append]
  congr 1
  by_cases g : h.getD k 0 = 0
  · rw [if_pos g, if_pos (.inl g)]
    rfl
  · rw [if_neg g, List.filter_cons, List.filter_nil]
    by_cases e : (k : Int) = a
    · rw [if_neg (by simp [e]), if_pos (.inr e)]
    · rw [if_pos (by simp [e]), if_neg (fun z => z.elim g e)]
theorem tq_pre (h : List Int) (a : Int) (k : Nat) : ∀ d, tq h a k <+: tq h a (k + d)
  | 0 => List.prefix_refl _
  | d + 1 => (tq_pre h a k d).trans (by
    rw [← Nat.add_assoc, tq_succ]
    exact List.prefix_append _ _)
structure XR where
  t : Int
  x : Int
def rtQ (n : List Int) (l : List E) (a : Int) (y : XR) : Prop := 1 ≤ y.t ∧ y.t ≤ 65 ∧ y.x = (tq (twH (boV n l) a) a y.t.toNat).length
def rtM (y : XR) : Nat := 65 - y.t.toNat
theorem rt_zero {n : List Int} {l : List E} {a : Int} (h : tfE n l a a = 0) : rtQ n l a ⟨1, 0⟩ := by
  obtain ⟨na, f, _⟩ := ld_mem h
  have z : (twH (boV n l) a).getD 0 0 = 0 := (tw_ok f na).1.z0
  refine ⟨Int.le_refl 1, (by show (1 : Int) ≤ 65; decide), ?_⟩
  show (0 : Int) = ((tq (twH (boV n l) a) a 1).length : Int)
  rw [show (1 : Nat) = 0 + 1 from rfl, tq_succ, if_pos (.inl z)]
  rfl
theorem tb_tq {n : List Int} {l : List E} {a : Int} (h : tfE n l a a = 0) : tbB n l a = (tq (twH (boV n l) a) a 65).map fun t => [D.int t, D.int (nxB (boV n l) a t)] := if_pos h
theorem rt_step {n : List Int} {l : List E} {a : Int} (h : tfE n l a a = 0) {t at_ : Int} (hq : rtQ n l a ⟨t, at_⟩) : 1 ≤ t ∧ t ≤ 65 ∧ 0 ≤ at_ ∧ at_ ≤ (tbB n l a).length ∧ (tbB n l a).length ≤ 65 ∧ (t ≤ 64 → stdBin .add .i64 t 1 = t + 1 ∧ stdBin .add .i64 at_ 1 = at_ + 1 ∧ (∀ x, rtM ⟨t + 1, x⟩ < rtM ⟨t, at_⟩) ∧
    (¬ hpE n l a t = 0 ∨ t = a → rtQ n l a ⟨t + 1, at_⟩) ∧ (hpE n l a t = 0 → ¬ t = a → at_ < (tbB n l a).length ∧ ri ((tbB n l a).getD at_.toNat []) 0 = t ∧ ri ((tbB n l a).getD at_.toNat []) 1 = hpN n l a t ∧ rtQ n l a ⟨t + 1, at_ + 1⟩)) ∧ (¬ t ≤ 64 → at_ = (tbB n l a).length) := by
  obtain ⟨h0, h1, h2⟩ := hq
  simp only at h0 h1 h2
  have e := tb_tq h
  have le : (tbB n l a).length = (tq (twH (boV n l) a) a 65).length := by rw [e, List.length_map]
  have le2 : (tbB n l a).length ≤ 65 := by
    rw [le]
    unfold tq
    exact Nat.le_trans (List.length_filter_le _ _) (lk_len _ _)
  have pre : ∀ k, k ≤ 65 → tq (twH (boV n l) a) a k <+: tq (twH (boV n l) a) a 65 := fun k hk => by
    have := tq_pre (twH (boV n l) a) a k (65 - k)
    rwa [show k + (65 - k) = 65 by omega] at this
  have p1 := (pre t.toNat (by omega)).length_le
  obtain ⟨na, f, _⟩ := ld_mem h
  refine ⟨h0, h1, by omega, by omega, le2, fun k => ?_, fun k => ?_⟩
  · have nt : nod t := by unfold nod; omega
    have t0 := tf_mk h na nt (tf_0 h).2.2.2.2
    have he : hpE n l a t = rtE (boV n l) a t := if_pos t0
    have hN : hpN n l a t = nxB (boV n l) a t := if_pos t0
    have key : hpE n l a t = 0 ↔ ¬ (twH (boV n l) a).getD t.toNat 0 = 0 := by
      rw [he, TrX.rt_mk (tf_ck t0), lk_iff (fun y hy => f.ok _ (List.mem_map_of_mem hy))]
      have := hop_iff f na nt
      constructor
      · intro q
        exact this.2 q.2.2
      · intro q
        exact ⟨na, nt, this.1 q⟩
    have s2 : (t + 1).toNat = t.toNat + 1 := by omega
    have ct : ((t.toNat : Nat) : Int) = t := by omega
    refine ⟨by rw [b_add, wr _ (by omega) (by omega)], by rw [b_add, wr _ (by omega) (by omega)], fun x => by simp only [rtM]; omega, fun q => ⟨by simp only; omega, by simp only; omega, ?_⟩, fun q ne => ?_⟩
    · simp only
      rw [s2, tq_succ, if_pos (q.elim (fun z => .inl (Classical.not_not.1 fun w => z (key.2 w))) fun z => .inr (by rw [ct]; exact z)), List.append_nil]
      exact h2
    · have nx : tq (twH (boV n l) a) a (t.toNat + 1) = tq (twH (boV n l) a) a t.toNat ++ [t] := by
        rw [tq_succ, if_neg (fun z => z.elim (key.1 q) fun z => ne (by rw [← ct]; exact z)), ct]
      have p2 := pre (t.toNat + 1) (by omega)
      rw [nx] at p2
      obtain ⟨r, er⟩ := p2
      have hat : at_.toNat = (tq (twH (boV n l) a) a t.toNat).length := by omega
      have hlt : at_.toNat < (tbB n l a).length := by
        rw [le, ← er, List.length_append, List.length_append, List.length_singleton]
        omega
      have hg : (tbB n l a).getD at_.toNat [] = [D.int t, D.int (nxB (boV n l) a t)] := by
        rw [List.getD_eq_getElem?_getD, e, List.getElem?_map, ← er, List.append_assoc, hat, List.getElem?_append_right (Nat.le_refl _)]
        simp
      rw [hg]
      refine ⟨by omega, rfl, hN.symm, by simp only; omega, by simp only; omega, ?_⟩
      simp only
      rw [s2, nx, List.length_append, List.length_singleton, h2]
      rfl
  · have : t = 65 := by omega
    rw [le, h2, this]
    rfl
/-- Leaders. -/
theorem lk_inc (h : List Int) : ∀ k, (lkF h k).Pairwise (· < ·) ∧ ∀ x ∈ lkF h k, x < k
  | 0 => ⟨by simp [lkF], by simp [lkF]⟩
  | k + 1 => by
    obtain ⟨i1, i2⟩ := lk_inc h k
    rw [lk_succ]
    split
    · rw [List.append_nil]
      exact ⟨i1, fun x hx => by have := i2 x hx; omega⟩
    · refine ⟨List.pairwise_append.2 ⟨i1, by simp, fun x hx y hy => by rw [List.mem_singleton] at hy; rw [hy]; exact i2 x hx⟩, fun x hx => ?_⟩
      rcases List.mem_append.1 hx with hx | hx
      · have := i2 x hx
        omega
      · rw [List.mem_singleton] at hx
        omega
theorem ld_le {n : List Int} {l : List E} {a : Int} (h : tfE n l a a = 0) {x : Int} (hx : x ∈ lkF (twH (boV n l) a) 65) : ldN n l a ≤ x ∧ tfE n l x x = 0 ∧ ldN n l x = ldN n l a := by
  obtain ⟨na, f, m, nm, c, e⟩ := ld_mem h
  obtain ⟨nx, cx⟩ := (lk_cn f na x).1 hx
  have t1 := tf_mk h na nx (tf_0 h).2.2.2.2
  have r := (TrX.rt_mk (tf_ck t1)).2 ((lk_iff (fun y hy => f.ok _ (List.mem_map_of_mem hy)) a x).2 ⟨na, nx, cx⟩)
  obtain ⟨_, _, _, _, _, w, _, _, _, _⟩ := rt_0 r
  have xn := way_n (fun e he => in_n (tf_0 h).1 he) w (tf_0 h).2.2.2.2 x (way_end w)
  have t2 := tf_mk h nx nx xn
  refine ⟨?_, t2, ?_⟩
  · rw [e]
    have inc := (lk_inc (twH (boV n l) a) 65).1
    generalize lkF (twH (boV n l) a) 65 = q at *
    cases q with
    | nil => cases hx
    | cons y q =>
      rcases List.mem_cons.1 hx with rfl | hx
      · exact Int.le_refl _
      · exact Int.le_of_lt ((List.pairwise_cons.1 inc).1 x hx)
  · obtain ⟨_, _, _, _, _, e2⟩ := ld_mem t2
    rw [e, e2, lk_same2 f na nx cx]
theorem leads_ok {n : List Int} {l : List E} {a : Int} (h : tfE n l a a = 0) : tfE n l (ldN n l a) (ldN n l a) = 0 ∧ ldN n l (ldN n l a) = ldN n l a ∧ ldN n l a ≤ a ∧ (∀ i, i < (tbB n l a).length → tfE n l (ri ((tbB n l a).getD i []) 0) (ri ((tbB n l a).getD i []) 0) = 0 ∧ ldN n l (ri ((tbB n l a).getD i []) 0) = ldN n l a ∧ ldN n l a ≤ ri ((tbB n l a).getD i []) 0 ∧ ¬ ri ((tbB n l a).getD i []) 0 = a) ∧ (tbB n l a).length ≤ 65 := by
  obtain ⟨na, f, m, nm, c, e⟩ := ld_mem h
  obtain ⟨l1, l2, l3⟩ := ld_le h m
  have et := tb_tq h
  refine ⟨l2, l3, (ld_le h (lk_self f na)).1, fun i hi => ?_, ?_⟩
  · rw [et, List.length_map] at hi
    have hg : (tbB n l a).getD i [] = [D.int (tq (twH (boV n l) a) a 65)[i], D.int (nxB (boV n l) a (tq (twH (boV n l) a) a 65)[i])] := by
      rw [et, List.getD_eq_getElem?_getD, List.getElem?_map, List.getElem?_eq_getElem hi]
      rfl
    rw [hg]
    have mx : (tq (twH (boV n l) a) a 65)[i] ∈ tq (twH (boV n l) a) a 65 := List.getElem_mem hi
    unfold tq at mx
    obtain ⟨m1, m2⟩ := List.mem_filter.1 mx
    have ne : ¬ (tq (twH (boV n l) a) a 65)[i] = a := by
      intro q
      unfold tq at q
      simp [q] at m2
    obtain ⟨k1, k2, k3⟩ := ld_le h m1
    exact ⟨k2, k3, k1, ne⟩
  · rw [et, List.length_map]
    unfold tq
    exact Nat.le_trans (List.length_filter_le _ _) (lk_len _ _)

structure Ru where
  u_tb : List Int → List E → Int → List E
  u_ok : List Int → List E → Bool
  u_tf : List Int → List E → Int → Int
def Ru.std : Ru := ⟨tbB, okV, fun n l a => tfE n l a a⟩

def c_table (F : Ru) : Con := fun xs h => match xs, h with
  | [.agg [.sl none (.ints .i64 v_n), .sl none (.recs (.int .i64 (.int .i64 (.int .i64 (.int .i64 (.bool .nil))))) v_l)], .one (.val (.int .i64 a))], [] => some ⟨F.u_ok v_n v_l = true, .tup [.one (.sl none (.recs (.int .i64 (.int .i64 .nil)) (F.u_tb v_n v_l a))), I (F.u_tf v_n v_l a)], [], [Any, Any]⟩
  | _, _ => none
set_option cbv.maxSteps 4000000 in
set_option maxHeartbeats 4000000 in
set_option maxRecDepth 100000 in
theorem x_table (v_n : List Int) (v_l : List E) (a : Int) (hC : Ru.std.u_ok v_n v_l = true) : Does [(79, c_treeof RoR.Ro.std), (80, c_below TrD.Td.std), (81, c_tnext TrR.Tr.std)] Try.f39 [.agg [.sl none (.ints .i64 v_n), .sl none (.recs (.int .i64 (.int .i64 (.int .i64 (.int .i64 (.bool .nil))))) v_l)], .one (.val (.int .i64 a))] [] ⟨Ru.std.u_ok v_n v_l = true, .tup [.one (.sl none (.recs (.int .i64 (.int .i64 .nil)) (Ru.std.u_tb v_n v_l a))), I (Ru.std.u_tf v_n v_l a)], [], [Any, Any]⟩ := by
  intro b gv
  have hk : v_n.length ≤ 70 ∧ v_l.length ≤ 60 := of_decide_eq_true (show decide (v_n.length ≤ 70 ∧ v_l.length ≤ 60) = true from hC)
  have hk1 : okV v_n v_l = true := hC
  have hb := fun h => (bnd_all (n := v_n) (l := v_l) h (by omega)).2.2
  have h2 : tfE v_n v_l a a = 0 → tfL v_n v_l a a = boV v_n v_l := fun h => if_pos h
  have h3 := fun h => tf_ld (n := v_n) (l := v_l) (a := a) h
  have h4 : ¬ tfE v_n v_l a a = 0 → tbB v_n v_l a = [] := fun h => if_neg h
  have h5 := fun h => (tf_0 (n := v_n) (l := v_l) (a := a) (d := a) h).1
  have hfs := (FsOk.cons ok_treeof (FsOk.cons ok_below (FsOk.cons ok_tnext FsOk.nil rfl) rfl) rfl)
  generalize hF : Ru.std = F at hC hfs ⊢
  generalize hG0 : RoR.Ro.std = G0 at hC hfs ⊢
  generalize hG1 : TrD.Td.std = G1 at hC hfs ⊢
  generalize hG2 : TrR.Tr.std = G2 at hC hfs ⊢
  generalize hA : Ar.std = A
  generalize hL : Lp _ _ _ = L
  obtain ⟨Z, zq⟩ := z_all
  refine cd_open (lp_mono hL) zq rfl ?_
  repeat' (first
    | (refine z_open zq ?_; try dsimp only)
    | refine cd_seq zq ?_ (lp_mono hL)
    | refine cd_blk zq ?_
    | refine cd_ret ?_
    | refine cd_skip ?_
    | refine cd_exit ?_
    | refine cd_loop ?_
    | refine cd_cond rfl ?_
    | refine cd_condT rfl ?_
    | refine cd_condF rfl ?_
    | (refine Cd.mk ?_; cbv)
    | (refine Ends1.mk ?_; cbv)
    | (refine Fin1.mk ?_; cbv)
    | exact trivial
    | refine And.intro ?_ ?_
    | refine orf fun _ => ?_
    | refine ort fun _ => ?_)
  all_goals first | (show L _ _ _; skip) | (clear hL hfs zq Z; subst hA hF hG0 hG1 hG2; simp only [Ru.std, RoR.Ro.std, TrD.Td.std, Ar.std] at * <;> grind [stdCmp]; done)
  rename_i hx
  have ht : tfE v_n v_l a a = 0 := by
    clear hL hfs zq Z h2 h3 h4 h5 hb
    subst hA hF hG0 hG1 hG2
    simp only [Ru.std, RoR.Ro.std, Ar.std] at *
    grind [stdCmp]
  clear hx
  have e1 := h2 ht
  obtain ⟨_, e2, _, e3, e4⟩ := h3 ht
  have e5 := hb (h5 ht)
  have e6 : tbB v_n v_l a = tb1 (boV v_n v_l) a (lkF (twH (boV v_n v_l) a) 65) := if_pos ht
  clear h2 h3 h4 h5 hb
  subst hL
  refine loop_z (cx_ok hfs) (tbQ (boV v_n v_l) a (lkF (twH (boV v_n v_l) a) 65)) (tbI A (G0.o_tfL v_n v_l a a) a (G1.d_bl (G0.o_tfL v_n v_l a a) a a)) (tbM (lkF (twH (boV v_n v_l) a) 65)) tbR ⟨0, []⟩ ?_ ?_ ?_
  · exact ⟨Int.le_refl 0, Int.natCast_nonneg _, rfl⟩
  · cbv
    repeat' (first | exact trivial | exact rfl | refine And.intro ?_ ?_)
  rintro ⟨i, o⟩ hq O hO
  have hst := tb_step e4 hq
  subst hA
  generalize hA : Ar.std = A
  generalize hL : Lp _ _ _ = L
  refine cd_close zq ?_
  repeat' (first
    | (refine z_open zq ?_; try dsimp only)
    | refine cd_seq zq ?_ (lp_mono hL)
    | refine cd_blk zq ?_
    | refine cd_ret ?_
    | refine cd_skip ?_
    | refine cd_exit ?_
    | refine cd_loop ?_
    | refine cd_cond rfl ?_
    | refine cd_condT rfl ?_
    | refine cd_condF rfl ?_
    | (refine Cd.mk ?_; cbv)
    | (refine Ends1.mk ?_; cbv)
    | (refine Fin1.mk ?_; cbv)
    | exact trivial
    | refine And.intro ?_ ?_
    | refine orf fun _ => ?_
    | refine ort fun _ => ?_)
  all_goals (clear hL hfs zq Z hq; subst hA hF hG0 hG1 hG2 hO; simp only [Ru.std, RoR.Ro.std, TrD.Td.std, TrR.Tr.std, Ar.std] at * <;> grind [stdCmp]; done)
theorem ok_table : ConOk Try.prog 39 (c_table Ru.std) := by
  refine con_of (FsOk.cons ok_treeof (FsOk.cons ok_below (FsOk.cons ok_tnext FsOk.nil rfl) rfl) rfl) Try.func39 rfl rfl fun xs h p hp => ?_
  unfold c_table at hp
  split at hp
  · cases hp
    exact ⟨lee_le rfl, fun hC _ => x_table _ _ _ hC⟩
  · cases hp
end Go.Proofs.Ytfioaidmgcibaaa.RoU
