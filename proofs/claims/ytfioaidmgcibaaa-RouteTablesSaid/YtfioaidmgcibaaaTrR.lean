
/-
  ways over the reckoner. No condition.
-/
import Derived.Test.YtfioaidmgcibaaaTrB
namespace Go.Proofs.Ytfioaidmgcibaaa.TrR
open Go Go.Proofs.Ytfioaidmgcibaaa.Ry Go.Proofs.Ytfioaidmgcibaaa.So Go.Proofs.Ytfioaidmgcibaaa.JoS Go.Proofs.Ytfioaidmgcibaaa.EgR Go.Proofs.Ytfioaidmgcibaaa.SpR Go.Proofs.Ytfioaidmgcibaaa.SpK Go.Proofs.Ytfioaidmgcibaaa.SpT Go.Proofs.Ytfioaidmgcibaaa.SpN Go.Proofs.Ytfioaidmgcibaaa.TrK Go.Proofs.Ytfioaidmgcibaaa.TrB

def stA (n : Nat) (ss : List (Nat × SC)) (vs : List (Nat × SA)) (h : H) (gs : List SA) : St :=
  ⟨vs.foldl (fun l p => l.set p.1 ⟨none, .sa p.2⟩) (stOf n ss h gs).slots, h, gs⟩
def rdI (st : St) (s : Nat) : List Int := match hget st.heap (match slotC st s with | .ptr n _ => n | _ => 0) with | some (.row _ (.ints _ l)) => l | _ => []
def rdS (st : St) (s : Nat) : List Int := match slotC st s with | .sl _ (.ints _ l) => l | _ => []
theorem for_fo {l : List E} (h : forB l = true) : allE l = 0 ∧ Fo (l.map trE) ∧ l.length ≤ 512 := by
  unfold forB at h
  rw [Bool.and_eq_true, decide_eq_true_eq] at h
  obtain ⟨h1, h2⟩ := h
  obtain ⟨g1, g2⟩ := (all_iff l).1 h1
  refine ⟨h1, ⟨g1, (for_frs l j0_ok rel_0 fun y hy => ?_).1 h2⟩, g2⟩
  have := may_T (g1.1 _ (List.mem_map_of_mem hy))
  exact ⟨this.1, this.2.1⟩
theorem fo_for {l : List E} (h : allE l = 0) (f : Fo (l.map trE)) : forB l = true := by
  unfold forB
  rw [Bool.and_eq_true, decide_eq_true_eq]
  exact ⟨h, (for_frs l j0_ok rel_0 fun y hy => f.ok _ (List.mem_map_of_mem hy)).2 f.frs⟩
structure XB where
  i : Int
  h : List Int
  m : List Int
def toQ (l : List E) (e : Int) (y : XB) : Prop := 0 ≤ y.i ∧ y.i ≤ y.m.length ∧ BI (l.map trE) e ⟨y.h, y.m⟩ ∧ bsG l (65 - y.i.toNat) y.i.toNat ⟨y.h, y.m⟩ = twS l e
def toM (y : XB) : Nat := 65 - y.i.toNat
noncomputable def toI (A : Ar) (l : List E) (y : XB) : St := stOf Try.f138.ntmps [(0, .sl none (.recs (.int .i64 (.int .i64 (.int .i64 .nil))) l)), (4, .ptr 1 0), (5, .ptr 2 0), (6, .sl (some (3, 3)) (.ints .i64 y.m)), (7, .val (.int .i64 y.i))] [(1, .row 139 (.ints .i64 (A.repI 65))), (2, .row 139 (.ints .i64 y.h)), (3, .tok)] [Any, Any]
def toR (st : St) : XB := ⟨slotI st 7, rdI st 5, rdS st 6⟩
def tiQ (l : List E) (c : Int) (s : BT) (y : XB) : Prop := 0 ≤ y.i ∧ y.i ≤ l.length ∧ (⟨y.h, y.m⟩ : BT) = bsP (l.take y.i.toNat) c s
def tiM (l : List E) (y : XB) : Nat := l.length - y.i.toNat
noncomputable def tiI (A : Ar) (l : List E) (i : Int) (y : XB) : St := stOf Try.f138.ntmps [(0, .sl none (.recs (.int .i64 (.int .i64 (.int .i64 .nil))) l)), (4, .ptr 1 0), (5, .ptr 2 0), (6, .sl (some (3, 3)) (.ints .i64 y.m)), (7, .val (.int .i64 i)), (22, .sl none (.recs (.int .i64 (.int .i64 (.int .i64 .nil))) l)), (23, .val (.int .i64 (A.lenE l))), (24, .val (.int .i64 y.i))] [(1, .row 139 (.ints .i64 (A.repI 65))), (2, .row 139 (.ints .i64 y.h)), (3, .tok)] [Any, Any]
def tiR (st : St) : XB := ⟨slotI st 24, rdI st 5, rdS st 6⟩
theorem to_zero {l : List E} {e : Int} (he : nod e) : toQ l e ⟨0, (List.replicate 65 0).set e.toNat e, [e]⟩ := ⟨Int.le_refl 0, Int.natCast_nonneg _, bi_0 _ he, rfl⟩
theorem ti_zero (l : List E) (c : Int) (h m : List Int) : tiQ l c ⟨h, m⟩ ⟨0, h, m⟩ := ⟨Int.le_refl 0, Int.natCast_nonneg _, rfl⟩
theorem gd_app {m t : List Int} {i : Nat} (h : i < m.length) : (m ++ t).getD i 0 = m.getD i 0 := by
  rw [List.getD_eq_getElem?_getD, List.getD_eq_getElem?_getD, List.getElem?_append_left h]
theorem gd_mem {m : List Int} {i : Nat} (h : i < m.length) : m.getD i 0 ∈ m := by
  rw [List.getD_eq_getElem?_getD, List.getElem?_eq_getElem h]
  exact List.getElem_mem h
theorem ti_step {l : List E} (f : Fo (l.map trE)) (hl : l.length ≤ 512) {e i : Int} {h0 m0 : List Int} (hq : toQ l e ⟨i, h0, m0⟩) (hi : i < m0.length) {k : Int} {h m : List Int} (hk : tiQ l (m0.getD i.toNat 0) ⟨h0, m0⟩ ⟨k, h, m⟩) :
    h.length = 65 ∧ m.length ≤ 64 ∧ i < m.length ∧ (k < l.length → stdBin .add .i64 k 1 = k + 1 ∧ 0 ≤ othE (ri (l.getD k.toNat []) 0) (ri (l.getD k.toNat []) 1) (m.getD i.toNat 0) ∧ othE (ri (l.getD k.toNat []) 0) (ri (l.getD k.toNat []) 1) (m.getD i.toNat 0) < 65 ∧
      (∀ h' m', tiM l ⟨k + 1, h', m'⟩ < tiM l ⟨k, h, m⟩) ∧
      (¬ othE (ri (l.getD k.toNat []) 0) (ri (l.getD k.toNat []) 1) (m.getD i.toNat 0) = 0 ∧ h.getD (othE (ri (l.getD k.toNat []) 0) (ri (l.getD k.toNat []) 1) (m.getD i.toNat 0)).toNat 0 = 0 → tiQ l (m0.getD i.toNat 0) ⟨h0, m0⟩ ⟨k + 1, h.set (othE (ri (l.getD k.toNat []) 0) (ri (l.getD k.toNat []) 1) (m.getD i.toNat 0)).toNat (m.getD i.toNat 0), m ++ [othE (ri (l.getD k.toNat []) 0) (ri (l.getD k.toNat []) 1) (m.getD i.toNat 0)]⟩) ∧
      (¬ (¬ othE (ri (l.getD k.toNat []) 0) (ri (l.getD k.toNat []) 1) (m.getD i.toNat 0) = 0 ∧ h.getD (othE (ri (l.getD k.toNat []) 0) (ri (l.getD k.toNat []) 1) (m.getD i.toNat 0)).toNat 0 = 0) → tiQ l (m0.getD i.toNat 0) ⟨h0, m0⟩ ⟨k + 1, h, m⟩)) ∧
    (¬ k < l.length → stdBin .add .i64 i 1 = i + 1 ∧ toQ l e ⟨i + 1, h, m⟩ ∧ (∀ h' m', toM ⟨i + 1, h', m'⟩ < toM ⟨i, h0, m0⟩)) := by
  obtain ⟨q0, q1, q2, q3⟩ := hq
  obtain ⟨k0, k1, k2⟩ := hk
  simp only at q0 q1 q2 q3 k0 k1 k2
  have hm0 : i.toNat < m0.length := by omega
  have hc := gd_mem hm0
  have l0 := bi_len q2
  simp only at l0
  obtain ⟨b1, ⟨t, b2⟩, _⟩ := bi_P f.ok (l := l.take k.toNat) q2 hc fun y hy => List.mem_map_of_mem (List.mem_of_mem_take hy)
  rw [← k2] at b1 b2
  simp only at b2
  have eg : m.getD i.toNat 0 = m0.getD i.toNat 0 := by rw [b2]; exact gd_app hm0
  have l1 := bi_len b1
  simp only at l1
  refine ⟨b1.len, l1, by rw [b2, List.length_append]; omega, fun g => ?_, fun g => ?_⟩
  · have hy := pl_mem k0 g
    have en : 0 ≤ ot (l.getD k.toNat []) (m0.getD i.toNat 0) ∧ ot (l.getD k.toNat []) (m0.getD i.toNat 0) < 65 := by
      by_cases z : ot (l.getD k.toNat []) (m0.getD i.toNat 0) = 0
      · rw [z]
        omega
      · have := (en_nod (f.ok _ (List.mem_map_of_mem hy)) (ot_en z)).2
        unfold nod at this
        omega
    have nx : bsP (l.take (k + 1).toNat) (m0.getD i.toNat 0) ⟨h0, m0⟩ = bs1 (m0.getD i.toNat 0) ⟨h, m⟩ (l.getD k.toNat []) := by
      rw [take_next l k k0 g]
      unfold bsP at k2 ⊢
      rw [List.foldl_append, ← k2]
      rfl
    rw [eg]
    refine ⟨by rw [b_add, wr _ (by omega) (by omega)], en.1, en.2, fun _ _ => by simp only [tiM]; omega, fun z => ⟨by simp only; omega, by simp only; omega, ?_⟩, fun z => ⟨by simp only; omega, by simp only; omega, ?_⟩⟩
    · simp only
      rw [nx]
      exact (if_pos z).symm
    · simp only
      rw [nx]
      exact (if_neg z).symm
  · have e : k = l.length := by omega
    rw [e, Int.toNat_natCast, List.take_length] at k2
    have s1 : 65 - i.toNat = (65 - (i + 1).toNat) + 1 := by omega
    have s2 : (i + 1).toNat = i.toNat + 1 := by omega
    rw [s1, bsG, if_pos hm0, ← k2] at q3
    refine ⟨by rw [b_add, wr _ (by omega) (by omega)], ⟨by simp only; omega, by simp only; rw [b2, List.length_append]; omega, b1, ?_⟩, fun _ _ => by simp only [toM]; omega⟩
    simp only
    rw [s2] at q3 ⊢
    exact q3
theorem to_end {l : List E} {e i : Int} {h m : List Int} (hq : toQ l e ⟨i, h, m⟩) : h.length = 65 ∧ m.length ≤ 64 ∧ (¬ i < m.length → h = twH l e) := by
  obtain ⟨q0, q1, q2, q3⟩ := hq
  simp only at q0 q1 q2 q3
  have l1 := bi_len q2
  simp only at l1
  refine ⟨q2.len, l1, fun g => ?_⟩
  show h = (twS l e).h
  rw [← q3]
  have s1 : 65 - i.toNat = (64 - i.toNat) + 1 := by omega
  rw [s1, bsG, if_neg (by simp only; omega)]
def okTw (l : List E) (e : Int) : Bool := forB l && nodB e
/-- The way by hops. -/
structure XY where
  a : Int
  o : List Int
def okW (h : List Int) (n : Int) : Bool := decide (h.length = 65) && wok 65 h n
def wyQ (h : List Int) (a : Int) (y : XY) : Prop := 1 ≤ y.o.length ∧ y.o.length ≤ 65 ∧ wok (66 - y.o.length) h y.a = true ∧ y.o ++ (wF (66 - y.o.length) h y.a).drop 1 = wF 65 h a
def wyM (y : XY) : Nat := 65 - y.o.length
noncomputable def wyI (h : List Int) (y : XY) : St := stOf Try.f108.ntmps [(2, .ptr 1 0), (1, .val (.int .i64 y.a)), (5, .sl (some (2, 3)) (.ints .i64 y.o))] [(1, .row 139 (.ints .i64 h)), (2, .tok)] [Any, Any]
def wyR (st : St) : XY := ⟨slotI st 1, rdS st 5⟩
theorem wy_zero {h : List Int} {a : Int} (hw : wok 65 h a = true) : wyQ h a ⟨a, [a]⟩ := ⟨by simp, by simp, hw, by
  show [a] ++ (wF 65 h a).drop 1 = wF 65 h a
  unfold wF
  rfl⟩
theorem wy_step {h : List Int} {a n : Int} {o : List Int} (hq : wyQ h a ⟨n, o⟩) : 0 ≤ n ∧ n < 65 ∧ o.length ≤ 65 ∧ (¬ h.getD n.toNat 0 = n → wyQ h a ⟨h.getD n.toNat 0, o ++ [h.getD n.toNat 0]⟩ ∧ (∀ x, wyM ⟨h.getD n.toNat 0, o ++ [x]⟩ < wyM ⟨n, o⟩)) ∧ (h.getD n.toNat 0 = n → o = wF 65 h a) := by
  obtain ⟨q0, q1, q2, q3⟩ := hq
  simp only at q0 q1 q2 q3
  have s1 : 66 - o.length = (65 - o.length) + 1 := by omega
  rw [s1, wok, Bool.and_eq_true, decide_eq_true_eq, Bool.or_eq_true, decide_eq_true_eq] at q2
  rw [s1, wF] at q3
  refine ⟨q2.1.1, q2.1.2, q1, fun g => ?_, fun g => ?_⟩
  · have k := q2.2.resolve_left g
    rw [if_neg (show ¬ ix h n = n from g)] at q3
    have pos : 0 < 65 - o.length := by
      cases e : 65 - o.length with
      | zero => rw [e] at k; cases k
      | succ n => omega
    have s2 : 66 - (o ++ [h.getD n.toNat 0]).length = 65 - o.length := by rw [List.length_append, List.length_singleton]; omega
    refine ⟨⟨by simp, by simp only [List.length_append, List.length_singleton]; omega, by simp only; rw [s2]; exact k, ?_⟩, fun x => by simp only [wyM, List.length_append, List.length_singleton]; omega⟩
    simp only
    rw [s2, ← q3]
    obtain ⟨j, e⟩ : ∃ j, 65 - o.length = j + 1 := ⟨64 - o.length, by omega⟩
    rw [e, wF]
    simp
  · rw [if_pos (show ix h n = n from g)] at q3
    simpa using q3
/-- The nodes that have hops. -/
def lkF (h : List Int) (n : Nat) : List Int := ((List.range n).filter fun i => decide (¬ h.getD i 0 = 0)).map fun i : Nat => (i : Int)
structure XLk where
  i : Int
  o : List Int
def lkQ (h : List Int) (y : XLk) : Prop := 0 ≤ y.i ∧ y.i ≤ 65 ∧ y.o = lkF h y.i.toNat
def lkM (y : XLk) : Nat := 65 - y.i.toNat
noncomputable def lkI (h : List Int) (y : XLk) : St := stA Try.f107.ntmps [(3, .sl (some (2, 3)) (.ints .i64 y.o)), (7, .val (.int .i64 y.i))] [(6, .blob (.ints .i64 h))] [(2, .tok)] [Any]
def lkRd (st : St) : XLk := ⟨slotI st 7, rdS st 3⟩
theorem lk_len (h : List Int) (n : Nat) : (lkF h n).length ≤ n := by
  unfold lkF
  rw [List.length_map]
  have := List.length_filter_le (fun i => decide (¬ h.getD i 0 = 0)) (List.range n)
  rw [List.length_range] at this
  exact this
theorem lk_step {h : List Int} {i : Int} {o : List Int} (hq : lkQ h ⟨i, o⟩) : o.length ≤ 65 ∧ (i < 65 → stdBin .add .i64 i 1 = i + 1 ∧ (∀ p, lkM ⟨i + 1, p⟩ < lkM ⟨i, o⟩) ∧ (h.getD i.toNat 0 = 0 → lkQ h ⟨i + 1, o⟩) ∧ (¬ h.getD i.toNat 0 = 0 → lkQ h ⟨i + 1, o ++ [i]⟩)) ∧ (¬ i < 65 → o = lkF h 65) := by
  obtain ⟨q0, q1, q2⟩ := hq
  simp only at q0 q1 q2
  have := lk_len h i.toNat
  have s2 : (i + 1).toNat = i.toNat + 1 := by omega
  have nx : lkF h (i + 1).toNat = lkF h i.toNat ++ if h.getD i.toNat 0 = 0 then [] else [i] := by
    rw [s2]
    unfold lkF
    rw [List.range_succ, List.filter_append, List.map_append, List.filter_cons, List.filter_nil]
    congr 1
    by_cases g : h.getD i.toNat 0 = 0
    · rw [if_pos g, decide_eq_false (fun k => k g)]
      rfl
    · rw [if_neg g, decide_eq_true g]
      show [((i.toNat : Nat) : Int)] = [i]
      rw [Int.toNat_of_nonneg q0]
  refine ⟨by rw [q2]; omega, fun g => ⟨by rw [b_add, wr _ (by omega) (by omega)], fun p => by simp only [lkM]; omega, fun z => ⟨by simp only; omega, by simp only; omega, ?_⟩, fun z => ⟨by simp only; omega, by simp only; omega, ?_⟩⟩, fun g => ?_⟩
  · simp only
    rw [nx, if_pos z, List.append_nil]
    exact q2
  · simp only
    rw [nx, if_neg z, q2]
  · have e : i = 65 := by omega
    rw [q2, e]
    rfl
def ckF (l : List E) (a b : Int) : Int := if nodB a = true ∧ nodB b = true ∧ forB l = true then 0 else 1
def rtE (l : List E) (a b : Int) : Int := if ckF l a b = 0 then (if (twH l b).getD a.toNat 0 = 0 then 9 else 0) else 1
def rtH (l : List E) (a b : Int) : List Int := if rtE l a b = 0 then twH l b else List.replicate 65 0
def wyB (l : List E) (a b : Int) : List Int := if rtE l a b = 0 then wF 65 (twH l b) a else []
def nxB (l : List E) (a b : Int) : Int := if rtE l a b = 0 then (twH l b).getD a.toNat 0 else 0
theorem ck_0 {l : List E} {a b : Int} (h : ckF l a b = 0) : nodB a = true ∧ nodB b = true ∧ forB l = true := by
  unfold ckF at h
  split at h
  · assumption
  · cases h
theorem ck_or (l : List E) (a b : Int) : ckF l a b = 0 ∨ ckF l a b = 1 := by
  unfold ckF
  split
  · exact .inl rfl
  · exact .inr rfl
theorem node_iff (n : Int) : nodB n = true ↔ nod n := by
  unfold nodB nod
  rw [decide_eq_true_eq]
theorem ck_tw {l : List E} {a b : Int} (h : ckF l a b = 0) : okTw l b = true ∧ (twH l b).length = 65 ∧ 0 ≤ a ∧ a < 65 := by
  obtain ⟨h1, h2, h3⟩ := ck_0 h
  have n := (node_iff a).1 h1
  unfold nod at n
  refine ⟨by unfold okTw; rw [h2, h3]; rfl, tw_len (for_fo h3).2.1 ((node_iff b).1 h2), by omega, by omega⟩
/-- What there is, if there is a way. -/
theorem rt_0 {l : List E} {a b : Int} (h : rtE l a b = 0) : nod a ∧ nod b ∧ allE l = 0 ∧ Fo (l.map trE) ∧ Cn (l.map trE) a b ∧ Wy (l.map trE) b a (wF 65 (twH l b) a) ∧ Fol (twH l b) a (wF 65 (twH l b) a) ∧ okW (twH l b) a = true ∧ (wF 65 (twH l b) a).length ≤ 64 ∧ ckF l a b = 0 := by
  unfold rtE at h
  split at h
  · rename_i c
    obtain ⟨h1, h2, h3⟩ := ck_0 c
    have na := (node_iff a).1 h1
    have nb := (node_iff b).1 h2
    obtain ⟨f1, f2, f3⟩ := for_fo h3
    split at h
    · cases h
    · rename_i g
      have cn := (hop_iff f2 nb na).1 g
      obtain ⟨w1, w2, w3, w4⟩ := hop_way f2 nb cn
      refine ⟨na, nb, f1, f2, cn_symm cn, w1, w3, ?_, w4, c⟩
      unfold okW
      rw [w2, decide_eq_true (tw_len f2 nb)]
      rfl
  · cases h
theorem rt_len {l : List E} {a b : Int} : (rtH l a b).length = 65 := by
  unfold rtH
  split
  · rename_i h
    exact (ck_tw (rt_0 h).2.2.2.2.2.2.2.2.2).2.1
  · exact List.length_replicate
def con (l : List Int) (x : Int) : Bool := decide (x ∈ l)
def idxF (l : List Int) (x : Int) : Int := if x ∈ l then (l.idxOf x : Int) else -1
structure XN where
  i : Int
def ixQ (l : List Int) (x : Int) (y : XN) : Prop := 0 ≤ y.i ∧ y.i ≤ l.length ∧ ∀ j : Nat, j < y.i → ¬ l.getD j 0 = x
def ixM (l : List Int) (y : XN) : Nat := l.length - y.i.toNat
noncomputable def ixI (A : Ar) (l : List Int) (x : Int) (y : XN) : St := stOf Try.f136.ntmps [(0, .sl none (.ints .i64 l)), (1, .val (.int .i64 x)), (7, .val (.int .i64 (A.lenI l))), (8, .val (.int .i64 y.i))] [] [Any, Any]
def ixR (st : St) : XN := ⟨slotI st 8⟩
theorem ix_step {l : List Int} {x i : Int} (hl : l.length ≤ 1000000) (hq : ixQ l x ⟨i⟩) : (i < l.length → stdBin .add .i64 i 1 = i + 1 ∧ ixM l ⟨i + 1⟩ < ixM l ⟨i⟩ ∧ (x = l.getD i.toNat 0 → idxF l x = i) ∧ (¬ x = l.getD i.toNat 0 → ixQ l x ⟨i + 1⟩)) ∧ (¬ i < l.length → idxF l x = -1) := by
  obtain ⟨q0, q1, q2⟩ := hq
  simp only at q0 q1 q2
  refine ⟨fun g => ⟨by rw [b_add, wr _ (by omega) (by omega)], by simp only [ixM]; omega, fun e => ?_, fun e => ⟨by simp only; omega, by simp only; omega, fun j hj => ?_⟩⟩, fun g => ?_⟩
  · have hi : i.toNat < l.length := by omega
    have hx : x ∈ l := by rw [e]; exact gd_mem hi
    unfold idxF
    rw [if_pos hx]
    have a : l.idxOf x = i.toNat := by
      have k1 := List.idxOf_lt_length_of_mem hx
      have k2 : l[l.idxOf x] = x := List.getElem_idxOf k1
      refine Nat.le_antisymm ?_ ?_
      · refine Classical.byContradiction fun n => ?_
        have := List.not_of_lt_findIdx (p := (· == x)) (xs := l) (i := i.toNat) (show i.toNat < l.idxOf x by omega)
        rw [List.getD_eq_getElem?_getD, List.getElem?_eq_getElem hi, Option.getD_some] at e
        simp [← e] at this
      · refine Classical.byContradiction fun n => ?_
        have := q2 (l.idxOf x) (by omega)
        rw [List.getD_eq_getElem?_getD, List.getElem?_eq_getElem k1, Option.getD_some] at this
        exact this k2
    rw [a, Int.toNat_of_nonneg q0]
  · simp only at hj
    by_cases z : j = i.toNat
    · rw [z]
      exact fun k => e k.symm
    · exact q2 j (by omega)
  · unfold idxF
    rw [if_neg]
    intro hx
    obtain ⟨j, hj, e⟩ := List.getElem_of_mem hx
    have := q2 j (by omega)
    rw [List.getD_eq_getElem?_getD, List.getElem?_eq_getElem hj, Option.getD_some] at this
    exact this e
theorem idx_con (l : List Int) (x : Int) : decide (idxF l x ≥ 0) = con l x := by
  unfold idxF con
  split
  · rename_i h
    rw [decide_eq_true h, decide_eq_true (by omega)]
  · rename_i h
    rw [decide_eq_false h, decide_eq_false (by omega)]

structure Tr where
  t_tw : List E → Int → List Int
  t_okt : List E → Int → Bool
  t_w : List Int → Int → List Int
  t_okw : List Int → Int → Bool
  t_lk : List Int → List Int
  t_ok65 : List Int → Bool
  t_ck : List E → Int → Int → Int
  t_rt : List E → Int → Int → Int
  t_rh : List E → Int → Int → List Int
  t_wy : List E → Int → Int → List Int
  t_nx : List E → Int → Int → Int
  t_con : List Int → Int → Bool
  t_idx : List Int → Int → Int
  t_oki : List Int → Bool
  t_ok : List E → Bool
def Tr.std : Tr := ⟨twH, okTw, wF 65, okW, fun h => lkF h 65, fun h => decide (h.length = 65), ckF, rtE, rtH, wyB, nxB, con, idxF, fun l => decide (l.length ≤ 1000000), fun l => decide (l.length ≤ 1000000)⟩

def c_toward (F : Tr) : Con := fun xs h => match xs, h with
  | [.one (.sl none (.recs (.int .i64 (.int .i64 (.int .i64 .nil))) l)), .one (.val (.int .i64 e))], [] => some ⟨F.t_okt l e = true, .sa (.blob (.ints .i64 (F.t_tw l e))), [], [Any, Any]⟩
  | _, _ => none
set_option cbv.maxSteps 4000000 in
set_option maxHeartbeats 4000000 in
set_option maxRecDepth 100000 in
theorem x_toward (l : List E) (e : Int) (hC : Tr.std.t_okt l e = true) : Does [(148, c_other EgR.Fs.std)] Try.f138 [.one (.sl none (.recs (.int .i64 (.int .i64 (.int .i64 .nil))) l)), .one (.val (.int .i64 e))] [] ⟨Tr.std.t_okt l e = true, .sa (.blob (.ints .i64 (Tr.std.t_tw l e))), [], [Any, Any]⟩ := by
  intro b gv
  have hk : forB l = true ∧ nodB e = true := by
    have h : okTw l e = true := hC
    unfold okTw at h
    rw [Bool.and_eq_true] at h
    exact h
  obtain ⟨f1, f2, f3⟩ := for_fo hk.1
  have he := (node_iff e).1 hk.2
  have he2 : 1 ≤ e ∧ e ≤ 64 := he
  have hfs := (FsOk.cons ok_other FsOk.nil rfl)
  generalize hF : Tr.std = F at hC hfs ⊢
  generalize hG0 : EgR.Fs.std = G0 at hC hfs ⊢
  generalize hG1 : SpR.Sp.std = G1 at hC hfs ⊢
  generalize hA : Ar.std = A
  generalize hL : Lp _ _ _ = L
  obtain ⟨Z, zq⟩ := z_all
  refine cd_open (lp_mono hL) zq rfl ?_
  repeat' (first
    | (refine z_open zq ?_; try dsimp only)
    | refine cd_seq zq ?_ (lp_mono hL)
    | refine cd_blk zq ?_
    | refine cd_ret ?_
    | refine cd_skip ?_
    | refine cd_exit ?_
    | refine cd_loop ?_
    | refine cd_cond rfl ?_
    | refine cd_condT rfl ?_
    | refine cd_condF rfl ?_
    | (refine Cd.mk ?_; cbv)
    | (refine Ends1.mk ?_; cbv)
    | (refine Fin1.mk ?_; cbv)
    | exact trivial
    | refine And.intro ?_ ?_
    | refine orf fun _ => ?_
    | refine ort fun _ => ?_)
  all_goals first | (show L _ _ _; skip) | (clear hL hfs zq Z; subst hA hF hG0 hG1; simp only [Tr.std, Ar.std] at * <;> grind [stdCmp]; done)
  subst hL
  refine loop_z (cx_ok hfs) (toQ l e) (toI A l) (toM) toR ⟨0, A.setI (A.repI 65) e e, [e]⟩ ?_ ?_ ?_
  · (subst hA; exact to_zero he)
  · cbv
    repeat' (first | exact trivial | exact rfl | refine And.intro ?_ ?_)
  rintro ⟨i, h0, m0⟩ hq O hO
  have hen := to_end hq
  have q0 := hq.1
  have q1 := hq.2.1
  dsimp only at q0 q1
  subst hA
  generalize hA : Ar.std = A
  generalize hL : Lp _ _ _ = L
  refine cd_close zq ?_
  repeat' (first
    | (refine z_open zq ?_; try dsimp only)
    | refine cd_seq zq ?_ (lp_mono hL)
    | refine cd_blk zq ?_
    | refine cd_ret ?_
    | refine cd_skip ?_
    | refine cd_exit ?_
    | refine cd_loop ?_
    | refine cd_cond rfl ?_
    | refine cd_condT rfl ?_
    | refine cd_condF rfl ?_
    | (refine Cd.mk ?_; cbv)
    | (refine Ends1.mk ?_; cbv)
    | (refine Fin1.mk ?_; cbv)
    | exact trivial
    | refine And.intro ?_ ?_
    | refine orf fun _ => ?_
    | refine ort fun _ => ?_)
  all_goals first | (show L _ _ _; skip) | (clear hL hfs zq Z hq; subst hA hF hG0 hG1 hO; simp only [Tr.std, Ar.std] at * <;> grind [stdCmp]; done)
  rename_i hx
  have hi : i < m0.length := by
    clear hL hfs zq Z hF hG0 hG1 hO hen
    subst hA
    simp only [Ar.std] at hx
    grind [stdCmp]
  clear hx hen
  subst hL
  refine loop_z (cx_ok hfs) (tiQ l (m0.getD i.toNat 0) ⟨h0, m0⟩) (tiI A l i) (tiM l) tiR ⟨0, h0, m0⟩ ?_ ?_ ?_
  · exact ti_zero _ _ _ _
  · cbv
    repeat' (first | exact trivial | exact rfl | refine And.intro ?_ ?_)
  rintro ⟨k, h, m⟩ hq2 O2 hO2
  have hst := ti_step f2 f3 hq hi hq2
  have k0 := hq2.1
  have k1 := hq2.2.1
  dsimp only at k0 k1
  subst hA
  generalize hA : Ar.std = A
  generalize hL : Lp _ _ _ = L
  refine cd_close zq ?_
  repeat' (first
    | (refine z_open zq ?_; try dsimp only)
    | refine cd_seq zq ?_ (lp_mono hL)
    | refine cd_blk zq ?_
    | refine cd_ret ?_
    | refine cd_skip ?_
    | refine cd_exit ?_
    | refine cd_loop ?_
    | refine cd_cond rfl ?_
    | refine cd_condT rfl ?_
    | refine cd_condF rfl ?_
    | (refine Cd.mk ?_; cbv)
    | (refine Ends1.mk ?_; cbv)
    | (refine Fin1.mk ?_; cbv)
    | exact trivial
    | refine And.intro ?_ ?_
    | refine orf fun _ => ?_
    | refine ort fun _ => ?_)
  all_goals (clear hL hfs zq Z hq hq2; subst hA hF hG0 hG1 hO hO2; simp only [Tr.std, EgR.Fs.std, Ar.std] at * <;> grind [stdCmp]; done)
theorem ok_toward : ConOk Try.prog 138 (c_toward Tr.std) := by
  refine con_of (FsOk.cons ok_other FsOk.nil rfl) Try.func138 rfl rfl fun xs h p hp => ?_
  unfold c_toward at hp
  split at hp
  · cases hp
    exact ⟨lee_le rfl, fun hC _ => x_toward _ _ hC⟩
  · cases hp

def c_way (F : Tr) : Con := fun xs h => match xs, h with
  | [.blob (.ints .i64 h), .one (.val (.int .i64 n))], [] => some ⟨F.t_okw h n = true, .sa (.one (.sl none (.ints .i64 (F.t_w h n)))), [], [Any, Any]⟩
  | _, _ => none
set_option cbv.maxSteps 4000000 in
set_option maxHeartbeats 4000000 in
set_option maxRecDepth 100000 in
theorem x_way (h : List Int) (n : Int) (hC : Tr.std.t_okw h n = true) : Does [] Try.f108 [.blob (.ints .i64 h), .one (.val (.int .i64 n))] [] ⟨Tr.std.t_okw h n = true, .sa (.one (.sl none (.ints .i64 (Tr.std.t_w h n)))), [], [Any, Any]⟩ := by
  intro b gv
  have hk : h.length = 65 ∧ wok 65 h n = true := by
    have g : okW h n = true := hC
    unfold okW at g
    rw [Bool.and_eq_true, decide_eq_true_eq] at g
    exact g
  have hk1 := hk.1
  have hfs := FsOk.nil
  generalize hF : Tr.std = F at hC hfs ⊢
  generalize hG0 : EgR.Fs.std = G0 at hC hfs ⊢
  generalize hG1 : SpR.Sp.std = G1 at hC hfs ⊢
  generalize hA : Ar.std = A
  generalize hL : Lp _ _ _ = L
  obtain ⟨Z, zq⟩ := z_all
  refine cd_open (lp_mono hL) zq rfl ?_
  repeat' (first
    | (refine z_open zq ?_; try dsimp only)
    | refine cd_seq zq ?_ (lp_mono hL)
    | refine cd_blk zq ?_
    | refine cd_ret ?_
    | refine cd_skip ?_
    | refine cd_exit ?_
    | refine cd_loop ?_
    | refine cd_cond rfl ?_
    | refine cd_condT rfl ?_
    | refine cd_condF rfl ?_
    | (refine Cd.mk ?_; cbv)
    | (refine Ends1.mk ?_; cbv)
    | (refine Fin1.mk ?_; cbv)
    | exact trivial
    | refine And.intro ?_ ?_
    | refine orf fun _ => ?_
    | refine ort fun _ => ?_)
  all_goals first | (show L _ _ _; skip) | (clear hL hfs zq Z; subst hA hF hG0 hG1; simp only [Tr.std, EgR.Fs.std, SpR.Sp.std, Ar.std, List.nil_append] at * <;> grind [stdCmp]; done)
  subst hL
  refine loop_z (cx_ok hfs) (wyQ h n) (wyI h) (wyM) wyR ⟨n, [n]⟩ ?_ ?_ ?_
  · exact wy_zero hk.2
  · cbv
    repeat' (first | exact trivial | exact rfl | refine And.intro ?_ ?_)
  rintro ⟨c, o⟩ hq O hO
  have hst := wy_step hq
  subst hA
  generalize hA : Ar.std = A
  generalize hL : Lp _ _ _ = L
  refine cd_close zq ?_
  repeat' (first
    | (refine z_open zq ?_; try dsimp only)
    | refine cd_seq zq ?_ (lp_mono hL)
    | refine cd_blk zq ?_
    | refine cd_ret ?_
    | refine cd_skip ?_
    | refine cd_exit ?_
    | refine cd_loop ?_
    | refine cd_cond rfl ?_
    | refine cd_condT rfl ?_
    | refine cd_condF rfl ?_
    | (refine Cd.mk ?_; cbv)
    | (refine Ends1.mk ?_; cbv)
    | (refine Fin1.mk ?_; cbv)
    | exact trivial
    | refine And.intro ?_ ?_
    | refine orf fun _ => ?_
    | refine ort fun _ => ?_)
  all_goals (clear hL hfs zq Z hq; subst hA hF hG0 hG1 hO; simp only [Tr.std, Ar.std] at * <;> grind [stdCmp]; done)
theorem ok_way : ConOk Try.prog 108 (c_way Tr.std) := by
  refine con_of FsOk.nil Try.func108 rfl rfl fun xs h p hp => ?_
  unfold c_way at hp
  split at hp
  · cases hp
    exact ⟨lee_le rfl, fun hC _ => x_way _ _ hC⟩
  · cases hp

def c_linked (F : Tr) : Con := fun xs h => match xs, h with
  | [.blob (.ints .i64 h)], [] => some ⟨F.t_ok65 h = true, .sa (.one (.sl none (.ints .i64 (F.t_lk h)))), [], [Any]⟩
  | _, _ => none
set_option cbv.maxSteps 4000000 in
set_option maxHeartbeats 4000000 in
set_option maxRecDepth 100000 in
theorem x_linked (h : List Int) (hC : Tr.std.t_ok65 h = true) : Does [] Try.f107 [.blob (.ints .i64 h)] [] ⟨Tr.std.t_ok65 h = true, .sa (.one (.sl none (.ints .i64 (Tr.std.t_lk h)))), [], [Any]⟩ := by
  intro b gv
  have hk : h.length = 65 := of_decide_eq_true (show decide (h.length = 65) = true from hC)
  have hfs := FsOk.nil
  generalize hF : Tr.std = F at hC hfs ⊢
  generalize hG0 : EgR.Fs.std = G0 at hC hfs ⊢
  generalize hG1 : SpR.Sp.std = G1 at hC hfs ⊢
  generalize hA : Ar.std = A
  generalize hL : Lp _ _ _ = L
  obtain ⟨Z, zq⟩ := z_all
  refine cd_open (lp_mono hL) zq rfl ?_
  repeat' (first
    | (refine z_open zq ?_; try dsimp only)
    | refine cd_seq zq ?_ (lp_mono hL)
    | refine cd_blk zq ?_
    | refine cd_ret ?_
    | refine cd_skip ?_
    | refine cd_exit ?_
    | refine cd_loop ?_
    | refine cd_cond rfl ?_
    | refine cd_condT rfl ?_
    | refine cd_condF rfl ?_
    | (refine Cd.mk ?_; cbv)
    | (refine Ends1.mk ?_; cbv)
    | (refine Fin1.mk ?_; cbv)
    | exact trivial
    | refine And.intro ?_ ?_
    | refine orf fun _ => ?_
    | refine ort fun _ => ?_)
  all_goals first | (show L _ _ _; skip) | (clear hL hfs zq Z; subst hA hF hG0 hG1; simp only [Tr.std, Ar.std] at * <;> grind [stdCmp]; done)
  subst hL
  refine loop_z (cx_ok hfs) (lkQ h) (lkI h) (lkM) lkRd ⟨0, []⟩ ?_ ?_ ?_
  · exact ⟨Int.le_refl 0, by decide, rfl⟩
  · cbv
    repeat' (first | exact trivial | exact rfl | refine And.intro ?_ ?_)
  rintro ⟨i, o⟩ hq O hO
  have hst := lk_step hq
  have q0 := hq.1
  have q1 := hq.2.1
  dsimp only at q0 q1
  subst hA
  generalize hA : Ar.std = A
  generalize hL : Lp _ _ _ = L
  refine cd_close zq ?_
  repeat' (first
    | (refine z_open zq ?_; try dsimp only)
    | refine cd_seq zq ?_ (lp_mono hL)
    | refine cd_blk zq ?_
    | refine cd_ret ?_
    | refine cd_skip ?_
    | refine cd_exit ?_
    | refine cd_loop ?_
    | refine cd_cond rfl ?_
    | refine cd_condT rfl ?_
    | refine cd_condF rfl ?_
    | (refine Cd.mk ?_; cbv)
    | (refine Ends1.mk ?_; cbv)
    | (refine Fin1.mk ?_; cbv)
    | exact trivial
    | refine And.intro ?_ ?_
    | refine orf fun _ => ?_
    | refine ort fun _ => ?_)
  all_goals (clear hL hfs zq Z hq; subst hA hF hG0 hG1 hO; simp only [Tr.std, Ar.std] at * <;> grind [stdCmp]; done)
theorem ok_linked : ConOk Try.prog 107 (c_linked Tr.std) := by
  refine con_of FsOk.nil Try.func107 rfl rfl fun xs h p hp => ?_
  unfold c_linked at hp
  split at hp
  · cases hp
    exact ⟨lee_le rfl, fun hC _ => x_linked _ hC⟩
  · cases hp

def c_tcheck (F : Tr) : Con := fun xs h => match xs, h with
  | [.one (.sl none (.recs (.int .i64 (.int .i64 (.int .i64 .nil))) l)), .one (.val (.int .i64 a)), .one (.val (.int .i64 d))], [] => some ⟨F.t_ok l = true, .sa (I (F.t_ck l a d)), [], [Any, Any, Any]⟩
  | _, _ => none
set_option cbv.maxSteps 4000000 in
set_option maxHeartbeats 4000000 in
set_option maxRecDepth 100000 in
theorem x_tcheck (l : List E) (a : Int) (d : Int) (hC : Tr.std.t_ok l = true) : Does [(54, c_node EgR.Fs.std), (64, c_forest SpR.Sp.std)] Try.f137 [.one (.sl none (.recs (.int .i64 (.int .i64 (.int .i64 .nil))) l)), .one (.val (.int .i64 a)), .one (.val (.int .i64 d))] [] ⟨Tr.std.t_ok l = true, .sa (I (Tr.std.t_ck l a d)), [], [Any, Any, Any]⟩ := by
  intro b gv
  have hfs := (FsOk.cons ok_node (FsOk.cons ok_forest FsOk.nil rfl) rfl)
  generalize hF : Tr.std = F at hC hfs ⊢
  generalize hG0 : EgR.Fs.std = G0 at hC hfs ⊢
  generalize hG1 : SpR.Sp.std = G1 at hC hfs ⊢
  generalize hA : Ar.std = A
  generalize hL : Lp _ _ _ = L
  obtain ⟨Z, zq⟩ := z_all
  refine cd_open (lp_mono hL) zq rfl ?_
  repeat' (first
    | (refine z_open zq ?_; try dsimp only)
    | refine cd_seq zq ?_ (lp_mono hL)
    | refine cd_blk zq ?_
    | refine cd_ret ?_
    | refine cd_skip ?_
    | refine cd_exit ?_
    | refine cd_loop ?_
    | refine cd_cond rfl ?_
    | refine cd_condT rfl ?_
    | refine cd_condF rfl ?_
    | (refine Cd.mk ?_; cbv)
    | (refine Ends1.mk ?_; cbv)
    | (refine Fin1.mk ?_; cbv)
    | exact trivial
    | refine And.intro ?_ ?_
    | refine orf fun _ => ?_
    | refine ort fun _ => ?_)
  all_goals
    clear hL zq Z
    try clear hfs
    subst hA hF hG0 hG1
    simp only [Tr.std, EgR.Fs.std, SpR.Sp.std, Ar.std] at *
    try (grind [stdCmp, ckF])
theorem ok_tcheck : ConOk Try.prog 137 (c_tcheck Tr.std) := by
  refine con_of (FsOk.cons ok_node (FsOk.cons ok_forest FsOk.nil rfl) rfl) Try.func137 rfl rfl fun xs h p hp => ?_
  unfold c_tcheck at hp
  split at hp
  · cases hp
    exact ⟨lee_le rfl, fun hC _ => x_tcheck _ _ _ hC⟩
  · cases hp

def c_route (F : Tr) : Con := fun xs h => match xs, h with
  | [.one (.sl none (.recs (.int .i64 (.int .i64 (.int .i64 .nil))) l)), .one (.val (.int .i64 a)), .one (.val (.int .i64 d))], [] => some ⟨F.t_ok l = true, .tup [.blob (.ints .i64 (F.t_rh l a d)), I (F.t_rt l a d)], [], [Any, Any, Any]⟩
  | _, _ => none
set_option cbv.maxSteps 4000000 in
set_option maxHeartbeats 4000000 in
set_option maxRecDepth 100000 in
theorem x_route (l : List E) (a : Int) (d : Int) (hC : Tr.std.t_ok l = true) : Does [(137, c_tcheck Tr.std), (138, c_toward Tr.std)] Try.f106 [.one (.sl none (.recs (.int .i64 (.int .i64 (.int .i64 .nil))) l)), .one (.val (.int .i64 a)), .one (.val (.int .i64 d))] [] ⟨Tr.std.t_ok l = true, .tup [.blob (.ints .i64 (Tr.std.t_rh l a d)), I (Tr.std.t_rt l a d)], [], [Any, Any, Any]⟩ := by
  intro b gv
  have h1 := fun h => ck_tw (l := l) (a := a) (b := d) h
  have h2 := ck_or l a d
  have hfs := (FsOk.cons ok_tcheck (FsOk.cons ok_toward FsOk.nil rfl) rfl)
  generalize hF : Tr.std = F at hC hfs ⊢
  generalize hG0 : EgR.Fs.std = G0 at hC hfs ⊢
  generalize hG1 : SpR.Sp.std = G1 at hC hfs ⊢
  generalize hA : Ar.std = A
  generalize hL : Lp _ _ _ = L
  obtain ⟨Z, zq⟩ := z_all
  refine cd_open (lp_mono hL) zq rfl ?_
  repeat' (first
    | (refine z_open zq ?_; try dsimp only)
    | refine cd_seq zq ?_ (lp_mono hL)
    | refine cd_blk zq ?_
    | refine cd_ret ?_
    | refine cd_skip ?_
    | refine cd_exit ?_
    | refine cd_loop ?_
    | refine cd_cond rfl ?_
    | refine cd_condT rfl ?_
    | refine cd_condF rfl ?_
    | (refine Cd.mk ?_; cbv)
    | (refine Ends1.mk ?_; cbv)
    | (refine Fin1.mk ?_; cbv)
    | exact trivial
    | refine And.intro ?_ ?_
    | refine orf fun _ => ?_
    | refine ort fun _ => ?_)
  all_goals
    clear hL zq Z
    try clear hfs
    subst hA hF hG0 hG1
    simp only [Tr.std, Ar.std] at *
    try (grind [stdCmp, rtE, rtH, okTw])
theorem ok_route : ConOk Try.prog 106 (c_route Tr.std) := by
  refine con_of (FsOk.cons ok_tcheck (FsOk.cons ok_toward FsOk.nil rfl) rfl) Try.func106 rfl rfl fun xs h p hp => ?_
  unfold c_route at hp
  split at hp
  · cases hp
    exact ⟨lee_le rfl, fun hC _ => x_route _ _ _ hC⟩
  · cases hp

def c_tway (F : Tr) : Con := fun xs h => match xs, h with
  | [.one (.sl none (.recs (.int .i64 (.int .i64 (.int .i64 .nil))) l)), .one (.val (.int .i64 a)), .one (.val (.int .i64 d))], [] => some ⟨F.t_ok l = true, .tup [.one (.sl none (.ints .i64 (F.t_wy l a d))), I (F.t_rt l a d)], [], [Any, Any, Any]⟩
  | _, _ => none
def c_tnext (F : Tr) : Con := fun xs h => match xs, h with
  | [.one (.sl none (.recs (.int .i64 (.int .i64 (.int .i64 .nil))) l)), .one (.val (.int .i64 a)), .one (.val (.int .i64 d))], [] => some ⟨F.t_ok l = true, .tup [I (F.t_nx l a d), I (F.t_rt l a d)], [], [Any, Any, Any]⟩
  | _, _ => none
set_option cbv.maxSteps 4000000 in
set_option maxHeartbeats 4000000 in
set_option maxRecDepth 100000 in
theorem x_tnext (l : List E) (a : Int) (d : Int) (hC : Tr.std.t_ok l = true) : Does [(106, c_route Tr.std)] Try.f81 [.one (.sl none (.recs (.int .i64 (.int .i64 (.int .i64 .nil))) l)), .one (.val (.int .i64 a)), .one (.val (.int .i64 d))] [] ⟨Tr.std.t_ok l = true, .tup [I (Tr.std.t_nx l a d), I (Tr.std.t_rt l a d)], [], [Any, Any, Any]⟩ := by
  intro b gv
  have h1 := rt_len (l := l) (a := a) (b := d)
  have h2 : rtE l a d = 0 → 0 ≤ a ∧ a < 65 := fun h => (ck_tw (rt_0 h).2.2.2.2.2.2.2.2.2).2.2
  have hfs := (FsOk.cons ok_route FsOk.nil rfl)
  generalize hF : Tr.std = F at hC hfs ⊢
  generalize hG0 : EgR.Fs.std = G0 at hC hfs ⊢
  generalize hG1 : SpR.Sp.std = G1 at hC hfs ⊢
  generalize hA : Ar.std = A
  generalize hL : Lp _ _ _ = L
  obtain ⟨Z, zq⟩ := z_all
  refine cd_open (lp_mono hL) zq rfl ?_
  repeat' (first
    | (refine z_open zq ?_; try dsimp only)
    | refine cd_seq zq ?_ (lp_mono hL)
    | refine cd_blk zq ?_
    | refine cd_ret ?_
    | refine cd_skip ?_
    | refine cd_exit ?_
    | refine cd_loop ?_
    | refine cd_cond rfl ?_
    | refine cd_condT rfl ?_
    | refine cd_condF rfl ?_
    | (refine Cd.mk ?_; cbv)
    | (refine Ends1.mk ?_; cbv)
    | (refine Fin1.mk ?_; cbv)
    | exact trivial
    | refine And.intro ?_ ?_
    | refine orf fun _ => ?_
    | refine ort fun _ => ?_)
  all_goals
    clear hL zq Z
    try clear hfs
    subst hA hF hG0 hG1
    simp only [Tr.std, Ar.std] at *
    try (grind [stdCmp, nxB, rtH])
theorem ok_tnext : ConOk Try.prog 81 (c_tnext Tr.std) := by
  refine con_of (FsOk.cons ok_route FsOk.nil rfl) Try.func81 rfl rfl fun xs h p hp => ?_
  unfold c_tnext at hp
  split at hp
  · cases hp
    exact ⟨lee_le rfl, fun hC _ => x_tnext _ _ _ hC⟩
  · cases hp

def c_index (F : Tr) : Con := fun xs h => match xs, h with
  | [.one (.sl none (.ints .i64 l)), .one (.val (.int .i64 x))], [] => some ⟨F.t_oki l = true, .sa (I (F.t_idx l x)), [], [Any, Any]⟩
  | _, _ => none
set_option cbv.maxSteps 4000000 in
set_option maxHeartbeats 4000000 in
set_option maxRecDepth 100000 in
theorem x_index (l : List Int) (x : Int) (hC : Tr.std.t_oki l = true) : Does [] Try.f136 [.one (.sl none (.ints .i64 l)), .one (.val (.int .i64 x))] [] ⟨Tr.std.t_oki l = true, .sa (I (Tr.std.t_idx l x)), [], [Any, Any]⟩ := by
  intro b gv
  have hk : l.length ≤ 1000000 := of_decide_eq_true (show decide (l.length ≤ 1000000) = true from hC)
  have hfs := FsOk.nil
  generalize hF : Tr.std = F at hC hfs ⊢
  generalize hG0 : EgR.Fs.std = G0 at hC hfs ⊢
  generalize hG1 : SpR.Sp.std = G1 at hC hfs ⊢
  generalize hA : Ar.std = A
  generalize hL : Lp _ _ _ = L
  obtain ⟨Z, zq⟩ := z_all
  refine cd_open (lp_mono hL) zq rfl ?_
  repeat' (first
    | (refine z_open zq ?_; try dsimp only)
    | refine cd_seq zq ?_ (lp_mono hL)
    | refine cd_blk zq ?_
    | refine cd_ret ?_
    | refine cd_skip ?_
    | refine cd_exit ?_
    | refine cd_loop ?_
    | refine cd_cond rfl ?_
    | refine cd_condT rfl ?_
    | refine cd_condF rfl ?_
    | (refine Cd.mk ?_; cbv)
    | (refine Ends1.mk ?_; cbv)
    | (refine Fin1.mk ?_; cbv)
    | exact trivial
    | refine And.intro ?_ ?_
    | refine orf fun _ => ?_
    | refine ort fun _ => ?_)
  subst hL
  refine loop_z (cx_ok hfs) (ixQ l x) (ixI A l x) (ixM l) ixR ⟨0⟩ ?_ ?_ ?_
  · exact ⟨Int.le_refl 0, Int.natCast_nonneg _, fun j hj => by simp only at hj; omega⟩
  · cbv
    repeat' (first | exact trivial | exact rfl | refine And.intro ?_ ?_)
  rintro ⟨i⟩ hq O hO
  have hst := ix_step hk hq
  have q0 := hq.1
  have q1 := hq.2.1
  dsimp only at q0 q1
  subst hA
  generalize hA : Ar.std = A
  generalize hL : Lp _ _ _ = L
  refine cd_close zq ?_
  repeat' (first
    | (refine z_open zq ?_; try dsimp only)
    | refine cd_seq zq ?_ (lp_mono hL)
    | refine cd_blk zq ?_
    | refine cd_ret ?_
    | refine cd_skip ?_
    | refine cd_exit ?_
    | refine cd_loop ?_
    | refine cd_cond rfl ?_
    | refine cd_condT rfl ?_
    | refine cd_condF rfl ?_
    | (refine Cd.mk ?_; cbv)
    | (refine Ends1.mk ?_; cbv)
    | (refine Fin1.mk ?_; cbv)
    | exact trivial
    | refine And.intro ?_ ?_
    | refine orf fun _ => ?_
    | refine ort fun _ => ?_)
  all_goals (clear hL hfs zq Z hq; subst hA hF hG0 hG1 hO; simp only [Tr.std, Ar.std] at * <;> grind [stdCmp]; done)
theorem ok_index : ConOk Try.prog 136 (c_index Tr.std) := by
  refine con_of FsOk.nil Try.func136 rfl rfl fun xs h p hp => ?_
  unfold c_index at hp
  split at hp
  · cases hp
    exact ⟨lee_le rfl, fun hC _ => x_index _ _ hC⟩
  · cases hp

def c_contains (F : Tr) : Con := fun xs h => match xs, h with
  | [.one (.sl none (.ints .i64 l)), .one (.val (.int .i64 x))], [] => some ⟨F.t_oki l = true, .sa (B (F.t_con l x)), [], [Any, Any]⟩
  | _, _ => none
set_option cbv.maxSteps 4000000 in
set_option maxHeartbeats 4000000 in
set_option maxRecDepth 100000 in
theorem x_contains (l : List Int) (x : Int) (hC : Tr.std.t_oki l = true) : Does [(136, c_index Tr.std)] Try.f105 [.one (.sl none (.ints .i64 l)), .one (.val (.int .i64 x))] [] ⟨Tr.std.t_oki l = true, .sa (B (Tr.std.t_con l x)), [], [Any, Any]⟩ := by
  intro b gv
  have h1 := idx_con l x
  have hfs := (FsOk.cons ok_index FsOk.nil rfl)
  generalize hF : Tr.std = F at hC hfs ⊢
  generalize hG0 : EgR.Fs.std = G0 at hC hfs ⊢
  generalize hG1 : SpR.Sp.std = G1 at hC hfs ⊢
  generalize hA : Ar.std = A
  generalize hL : Lp _ _ _ = L
  obtain ⟨Z, zq⟩ := z_all
  refine cd_open (lp_mono hL) zq rfl ?_
  repeat' (first
    | (refine z_open zq ?_; try dsimp only)
    | refine cd_seq zq ?_ (lp_mono hL)
    | refine cd_blk zq ?_
    | refine cd_ret ?_
    | refine cd_skip ?_
    | refine cd_exit ?_
    | refine cd_loop ?_
    | refine cd_cond rfl ?_
    | refine cd_condT rfl ?_
    | refine cd_condF rfl ?_
    | (refine Cd.mk ?_; cbv)
    | (refine Ends1.mk ?_; cbv)
    | (refine Fin1.mk ?_; cbv)
    | exact trivial
    | refine And.intro ?_ ?_
    | refine orf fun _ => ?_
    | refine ort fun _ => ?_)
  all_goals
    clear hL zq Z
    try clear hfs
    subst hA hF hG0 hG1
    simp only [Tr.std, Ar.std] at *
    try (grind [stdCmp])
theorem ok_contains : ConOk Try.prog 105 (c_contains Tr.std) := by
  refine con_of (FsOk.cons ok_index FsOk.nil rfl) Try.func105 rfl rfl fun xs h p hp => ?_
  unfold c_contains at hp
  split at hp
  · cases hp
    exact ⟨lee_le rfl, fun hC _ => x_contains _ _ hC⟩
  · cases hp
end Go.Proofs.Ytfioaidmgcibaaa.TrR
