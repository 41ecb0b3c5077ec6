/-
  both sides of an edge; the answer of all behind a node. No condition.
-/
import Derived.Test.YtamkgdiknlpooaaTrD
import Derived.Test.YtamkgdiknlpooaaTrX
import Derived.Test.YtamkgdiknlpooaaCtE
namespace Go.Proofs.Ytamkgdiknlpooaa.TrE
open Go Go.Proofs.Ytamkgdiknlpooaa.Ry Go.Proofs.Ytamkgdiknlpooaa.So Go.Proofs.Ytamkgdiknlpooaa.JoS Go.Proofs.Ytamkgdiknlpooaa.EcX Go.Proofs.Ytamkgdiknlpooaa.EgR Go.Proofs.Ytamkgdiknlpooaa.EgL Go.Proofs.Ytamkgdiknlpooaa.SpR Go.Proofs.Ytamkgdiknlpooaa.SpQ Go.Proofs.Ytamkgdiknlpooaa.SpK Go.Proofs.Ytamkgdiknlpooaa.SpT Go.Proofs.Ytamkgdiknlpooaa.SpL Go.Proofs.Ytamkgdiknlpooaa.SpN Go.Proofs.Ytamkgdiknlpooaa.TrK Go.Proofs.Ytamkgdiknlpooaa.TrB Go.Proofs.Ytamkgdiknlpooaa.TrR Go.Proofs.Ytamkgdiknlpooaa.TrC Go.Proofs.Ytamkgdiknlpooaa.TrQ Go.Proofs.Ytamkgdiknlpooaa.TrX Go.Proofs.Ytamkgdiknlpooaa.TrD

open Go.Proofs.Ytamkgdiknlpooaa.CtE (c_cat ok_cat catF)
open Go.Proofs.Ytamkgdiknlpooaa.TrW (c_rway ok_rway)
def ixE (l : List E) (c : T) : Int := if c ∈ l.map trE then ((l.map trE).idxOf c : Int) else -1
structure XN where
  i : Int
def ieQ (l : List E) (c : T) (y : XN) : Prop := 0 ≤ y.i ∧ y.i ≤ l.length ∧ ∀ j : Nat, j < y.i → ¬ trE (l.getD j []) = c
def ieM (l : List E) (y : XN) : Nat := l.length - y.i.toNat
noncomputable def ieI (A : Ar) (l : List E) (a b w : Int) (y : XN) : St := stOf Try.f71.ntmps [(0, .sl none (.recs (.int .i64 (.int .i64 (.int .i64 .nil))) l)), (3, .ptr 1 0), (7, .val (.int .i64 (A.lenE l))), (8, .val (.int .i64 y.i))] [(1, .cells 36 [.val (.int .i64 a), .val (.int .i64 b), .val (.int .i64 w)])] [Any, Any]
def ieR (st : St) : XN := ⟨slotI st 8⟩
theorem ie_step {l : List E} {a b w : Int} (hl : l.length ≤ 1000000) {i : Int} (hq : ieQ l (a, b, w) ⟨i⟩) : 0 ≤ i ∧ i ≤ l.length ∧ (i < l.length → stdBin .add .i64 i 1 = i + 1 ∧ ieM l ⟨i + 1⟩ < ieM l ⟨i⟩ ∧ (a = ri (l.getD i.toNat []) 0 ∧ b = ri (l.getD i.toNat []) 1 ∧ w = ri (l.getD i.toNat []) 2 → ixE l (a, b, w) = i) ∧ (¬ (a = ri (l.getD i.toNat []) 0 ∧ b = ri (l.getD i.toNat []) 1 ∧ w = ri (l.getD i.toNat []) 2) → ieQ l (a, b, w) ⟨i + 1⟩)) ∧ (¬ i < l.length → ixE l (a, b, w) = -1) := by
  obtain ⟨q0, q1, q2⟩ := hq
  simp only at q0 q1 q2
  have at' : ∀ j (h : j < l.length), (l.map trE)[j]'(by simpa using h) = trE (l.getD j []) := fun j h => by
    rw [List.getElem_map, List.getD_eq_getElem?_getD, List.getElem?_eq_getElem h]
    rfl
  refine ⟨q0, q1, fun g => ⟨by rw [b_add, wr _ (by omega) (by omega)], by simp only [ieM]; omega, fun e => ?_, fun e => ⟨by simp only; omega, by simp only; omega, fun j hj => ?_⟩⟩, fun g => ?_⟩
  · have hi : i.toNat < l.length := by omega
    have he : trE (l.getD i.toNat []) = (a, b, w) := (tr_is _ _ _ _).2 ⟨e.1.symm, e.2.1.symm, e.2.2.symm⟩
    have hx : (a, b, w) ∈ l.map trE := by rw [← he]; exact List.mem_map_of_mem (pl_mem q0 g)
    unfold ixE
    rw [if_pos hx]
    have k1 := List.idxOf_lt_length_of_mem hx
    have k2 : (l.map trE)[(l.map trE).idxOf (a, b, w)] = (a, b, w) := List.getElem_idxOf k1
    have k3 : (l.map trE).idxOf (a, b, w) < l.length := by simpa using k1
    rw [at' _ k3] at k2
    have e1 : ¬ (l.map trE).idxOf (a, b, w) < i.toNat := fun n => q2 _ (by omega) k2
    have e2 : ¬ i.toNat < (l.map trE).idxOf (a, b, w) := fun n => by
      have := List.not_of_lt_findIdx (p := (· == (a, b, w))) (xs := l.map trE) (i := i.toNat) n
      have hh : (l.map trE)[i.toNat]'(by simpa using hi) = (a, b, w) := by rw [at' _ hi]; exact he
      simp only [hh] at this
      simp at this
    omega
  · simp only at hj
    by_cases z : j = i.toNat
    · rw [z]
      exact fun k => e (by have := (tr_is _ _ _ _).1 k; exact ⟨this.1.symm, this.2.1.symm, this.2.2.symm⟩)
    · exact q2 j (by omega)
  · unfold ixE
    rw [if_neg]
    intro hx
    obtain ⟨j, hj, e⟩ := List.getElem_of_mem hx
    have hj2 : j < l.length := by simpa using hj
    rw [at' j hj2] at e
    exact q2 j (by omega) e
/-- Edges but the one at a place. -/
def cuE (l : List E) (i : Int) : List E := l.take i.toNat ++ l.drop (i + 1).toNat
theorem ix_ok {l : List E} {c : T} (h : ¬ ixE l c < 0) : c ∈ l.map trE ∧ 0 ≤ ixE l c ∧ ixE l c < l.length ∧ trE (l.getD (ixE l c).toNat []) = c := by
  unfold ixE at *
  split at h
  · rename_i q
    rw [if_pos q]
    have k1 := List.idxOf_lt_length_of_mem q
    have k2 : (l.map trE)[(l.map trE).idxOf c] = c := List.getElem_idxOf k1
    have k3 : (l.map trE).idxOf c < l.length := by simpa using k1
    refine ⟨q, by omega, by omega, ?_⟩
    rw [List.getElem_map] at k2
    rw [Int.toNat_natCast, List.getD_eq_getElem?_getD, List.getElem?_eq_getElem k3]
    exact k2
  · omega
theorem ix_in {l : List E} {c : T} : ixE l c < 0 ↔ c ∉ l.map trE := by
  unfold ixE
  split
  · rename_i q
    exact ⟨fun k => by omega, fun k => absurd q k⟩
  · rename_i q
    exact ⟨fun _ => q, fun _ => by omega⟩
theorem cu_ok {l : List E} {c : T} (f : forB l = true) (h : ¬ ixE l c < 0) : forB (cuE l (ixE l c)) = true ∧ Fo ((cuE l (ixE l c)).map trE) ∧ (∀ y, y ∈ (cuE l (ixE l c)).map trE ↔ y ∈ wo (l.map trE) c) ∧ (cuE l (ixE l c)).length ≤ l.length := by
  obtain ⟨f1, f2, f3⟩ := for_fo f
  obtain ⟨x1, x2, x3, x4⟩ := ix_ok h
  generalize ixE l c = i at *
  have hi : i.toNat < l.length := by omega
  have e2 : (i + 1).toNat = i.toNat + 1 := by omega
  have d := (drop_ok f1 i.toNat hi).1
  unfold cuE
  rw [e2]
  have em : (l.take i.toNat ++ l.drop (i.toNat + 1)).map trE = (l.map trE).take i.toNat ++ (l.map trE).drop (i.toNat + 1) := by rw [List.map_append, List.map_take, List.map_drop]
  have il : i.toNat < (l.map trE).length := by rw [List.length_map]; exact hi
  have cx : (l.map trE)[i.toNat] = c := by
    rw [List.getElem_map]
    rw [List.getD_eq_getElem?_getD, List.getElem?_eq_getElem hi] at x4
    exact x4
  have mm : ∀ y, y ∈ (l.take i.toNat ++ l.drop (i.toNat + 1)).map trE ↔ y ∈ wo (l.map trE) c := fun y => by
    rw [em, one_less (goodT_nd f2.good) i.toNat il y, mem_wo, cx]
  have sub : ((l.take i.toNat ++ l.drop (i.toNat + 1)).map trE).Sublist (l.map trE) := by
    rw [em]
    conv => rhs; rw [← List.take_append_drop i.toNat (l.map trE)]
    exact (List.Sublist.refl _).append (List.drop_sublist_drop_left _ (Nat.le_succ _))
  have fo := f2.sub sub
  refine ⟨fo_for d fo, fo, mm, ?_⟩
  have := sub.length_le
  simpa using this
theorem but_fo {l : List E} (f : Fo (l.map trE)) (c : T) : Fo ((butF l c).map trE) ∧ (butF l c).map trE = wo (l.map trE) c := by
  have e : (butF l c).map trE = wo (l.map trE) c := but_map l c
  rw [e]
  exact ⟨f.sub List.filter_sublist, rfl⟩
/-- Linked nodes hang on what edges there are alone. -/
theorem lk_ext {l k : List E} (f : Fo (l.map trE)) (g : Fo (k.map trE)) {a : Int} (ha : nod a) (h : ∀ y, y ∈ l.map trE ↔ y ∈ k.map trE) : lkF (twH l a) 65 = lkF (twH k a) 65 := by
  unfold lkF
  congr 1
  refine List.filter_congr fun j hj => ?_
  have hj := List.mem_range.1 hj
  rw [decide_eq_decide]
  by_cases e : j = 0
  · subst e
    have z1 : (twH l a).getD 0 0 = 0 := (tw_ok f ha).1.z0
    have z2 : (twH k a).getD 0 0 = 0 := (tw_ok g ha).1.z0
    rw [z1, z2]
  · have nj : nod (j : Int) := by unfold nod; omega
    have h1 := hop_iff f ha nj
    have h2 := hop_iff g ha nj
    have h3 := cn_same h a (j : Int)
    exact h1.trans (h3.trans h2.symm)
def sdE (l : List E) (c : T) (a : Int) : Int := if ckF l a a = 0 then (if ixE l c < 0 then 4 else 0) else 1
def sdF (l : List E) (c : T) (a : Int) : List Int := if sdE l c a = 0 then lkF (twH (cuE l (ixE l c)) a) 65 else []
theorem sd_0 {l : List E} {c : T} {a : Int} (h : sdE l c a = 0) : ckF l a a = 0 ∧ ¬ ixE l c < 0 := by
  unfold sdE at h
  split at h
  · rename_i q
    split at h
    · cases h
    · rename_i q2
      exact ⟨q, q2⟩
  · cases h
theorem sd_ln {l : List E} {c : T} {a : Int} (h : sdE l c a = 0) : sdF l c a = lnR (butF l c) a ∧ sdF l c a = lkF (twH (butF l c) a) 65 := by
  obtain ⟨ck, ix⟩ := sd_0 h
  obtain ⟨h1, h2, h3⟩ := ck_0 ck
  obtain ⟨f1, f2, f3⟩ := for_fo h3
  have na := (node_iff a).1 h1
  obtain ⟨_, c2, c3, _⟩ := cu_ok h3 ix
  obtain ⟨b1, b2⟩ := but_fo f2 c
  have e : sdF l c a = lkF (twH (cuE l (ixE l c)) a) 65 := if_pos h
  have k := lk_ext c2 b1 na (fun y => by rw [c3 y, b2])
  rw [e, k]
  exact ⟨(ln_lk b1 na).symm, rfl⟩
theorem cu_cat (l : List E) (i : Int) : catF [[D.recs (l.take i.toNat)], [D.recs (l.drop (i + 1).toNat)]] = cuE l i := by
  unfold catF cuE
  simp [rr]
/-- The answer's all behind a node. -/
def rbP (l : List E) (r a : Int) (j : Nat) : Bool := decide (1 ≤ j) && (lkR l r j && con (wyB l r j) a)
def rbQ0 (l : List E) (r a : Int) (k : Nat) : List Int := ((List.range k).filter (rbP l r a)).map fun j : Nat => (j : Int)
def rbB (l : List E) (r a : Int) : List Int := rbQ0 l r a 65
structure XL2 where
  i : Int
  o : List Int
def rbQ (l : List E) (r a : Int) (y : XL2) : Prop := 1 ≤ y.i ∧ y.i ≤ 65 ∧ y.o = rbQ0 l r a y.i.toNat
def rbM (y : XL2) : Nat := 65 - y.i.toNat
noncomputable def rbI (l : List E) (r a : Int) (y : XL2) : St := stOf Try.f50.ntmps [(0, .sl none (.recs (.int .i64 (.int .i64 (.int .i64 .nil))) l)), (1, .val (.int .i64 r)), (2, .val (.int .i64 a)), (7, .sl (some (1, 3)) (.ints .i64 y.o)), (8, .val (.int .i64 y.i))] [(1, .tok)] [Any, Any, Any]
def rbRd (st : St) : XL2 := ⟨slotI st 8, rdS st 7⟩
noncomputable def rcI (l : List E) (r a n : Int) (w : List Int) (y : XL2) : St := stOf Try.f50.ntmps [(0, .sl none (.recs (.int .i64 (.int .i64 (.int .i64 .nil))) l)), (1, .val (.int .i64 r)), (2, .val (.int .i64 a)), (7, .sl (some (1, 3)) (.ints .i64 y.o)), (8, .val (.int .i64 n)), (9, .sl none (.ints .i64 w)), (10, .val (.int .i64 y.i))] [(1, .tok)] [Any, Any, Any]
def rcRd (st : St) : XL2 := ⟨slotI st 10, rdS st 7⟩
def rcQ (w : List Int) (a n : Int) (o0 : List Int) (y : XL2) : Prop := 0 ≤ y.i ∧ y.i ≤ w.length ∧ y.o = o0 ++ if a ∈ w.take y.i.toNat then [n] else []
def rcM (w : List Int) (y : XL2) : Nat := w.length - y.i.toNat
theorem rb_len (l : List E) (r a : Int) (k : Nat) : (rbQ0 l r a k).length ≤ k := by
  unfold rbQ0
  rw [List.length_map]
  have := List.length_filter_le (rbP l r a) (List.range k)
  rw [List.length_range] at this
  exact this
theorem rb_step {l : List E} {r a : Int} (h : ckF l r a = 0) {i : Int} {o : List Int} (hq : rbQ l r a ⟨i, o⟩) : 1 ≤ i ∧ i ≤ 65 ∧ o.length ≤ 65 ∧ (i ≤ 64 → stdBin .add .i64 i 1 = i + 1 ∧ (∀ p, rbM ⟨i + 1, p⟩ < rbM ⟨i, o⟩) ∧ (lkR l r i = false → rbQ l r a ⟨i + 1, o⟩) ∧ (lkR l r i = true → rtE l r i = 0 ∧ (wyB l r i).length ≤ 64 ∧ (wyB l r i).Nodup ∧ ∀ p, p = (o ++ if a ∈ wyB l r i then [i] else []) → rbQ l r a ⟨i + 1, p⟩)) ∧ (¬ i ≤ 64 → o = rbB l r a) := by
  obtain ⟨h0, h1, h2⟩ := hq
  simp only at h0 h1 h2
  have g := rb_len l r a i.toNat
  have s2 : (i + 1).toNat = i.toNat + 1 := by omega
  have ci : ((i.toNat : Nat) : Int) = i := by omega
  have nx : rbQ0 l r a (i + 1).toNat = o ++ if rbP l r a i.toNat = true then [i] else [] := by
    rw [s2, h2]
    unfold rbQ0
    rw [List.range_succ, List.filter_append, List.map_append, List.filter_cons, List.filter_nil]
    congr 1
    split
    · show [((i.toNat : Nat) : Int)] = [i]
      rw [ci]
    · rfl
  have hp : rbP l r a i.toNat = (lkR l r i && con (wyB l r i) a) := by
    unfold rbP
    rw [decide_eq_true (show 1 ≤ i.toNat by omega), Bool.true_and, ci]
  refine ⟨h0, h1, by rw [h2]; omega, fun k => ⟨by rw [b_add, wr _ (by omega) (by omega)], fun p => by simp only [rbM]; omega, fun c => ⟨by simp only; omega, by simp only; omega, ?_⟩, fun c => ?_⟩, fun k => ?_⟩
  · simp only
    rw [nx, hp, c]
    simp
  · obtain ⟨c1, c2, c3⟩ := ck_0 h
    have ni : nod i := by unfold nod; omega
    have ck : ckF l r i = 0 := by
      unfold ckF
      rw [if_pos ⟨c1, (node_iff i).2 ni, c3⟩]
    have r0 := (rt_mk ck).2 c
    obtain ⟨_, _, _, _, _, w, _, _, lw, _⟩ := rt_0 r0
    have e : wyB l r i = wF 65 (twH l i) r := if_pos r0
    rw [← e] at w lw
    refine ⟨r0, lw, way_nd w, fun p hp2 => ⟨by simp only; omega, by simp only; omega, ?_⟩⟩
    simp only
    rw [nx, hp, c, hp2, Bool.true_and]
    unfold con
    congr 1
    by_cases z : a ∈ wyB l r i
    · rw [if_pos z, if_pos (decide_eq_true z)]
    · rw [if_neg z, if_neg (by rw [decide_eq_true_eq]; exact z)]
  · have e : i = 65 := by omega
    rw [h2, e]
    rfl
theorem rc_step {w : List Int} {a n : Int} {o0 : List Int} (hl : w.length ≤ 64) (hn : w.Nodup) (ho : o0.length ≤ 65) {i : Int} {o : List Int} (hq : rcQ w a n o0 ⟨i, o⟩) : 0 ≤ i ∧ i ≤ w.length ∧ o.length ≤ 66 ∧ (i < w.length → stdBin .add .i64 i 1 = i + 1 ∧ (∀ p, rcM w ⟨i + 1, p⟩ < rcM w ⟨i, o⟩) ∧ (w.getD i.toNat 0 = a → rcQ w a n o0 ⟨i + 1, o ++ [n]⟩) ∧ (¬ w.getD i.toNat 0 = a → rcQ w a n o0 ⟨i + 1, o⟩)) ∧ (¬ i < w.length → o = o0 ++ if a ∈ w then [n] else []) := by
  obtain ⟨h0, h1, h2⟩ := hq
  simp only at h0 h1 h2
  refine ⟨h0, h1, by rw [h2, List.length_append]; split <;> simp <;> omega, fun k => ?_, fun k => ?_⟩
  · have hi : i.toNat < w.length := by omega
    have t := tki w i h0 k
    have nin : w.getD i.toNat 0 ∉ w.take i.toNat := fun q => by
      obtain ⟨j, hj, e⟩ := List.getElem_of_mem q
      rw [List.length_take] at hj
      have ej : w.getD j 0 = w.getD i.toNat 0 := by
        rw [List.getElem_take] at e
        rw [List.getD_eq_getElem?_getD, List.getElem?_eq_getElem (by omega)]
        exact e
      have := nd_ix hn (by omega) hi ej
      omega
    refine ⟨by rw [b_add, wr _ (by omega) (by omega)], fun p => by simp only [rcM]; omega, fun e => ⟨by simp only; omega, by simp only; omega, ?_⟩, fun e => ⟨by simp only; omega, by simp only; omega, ?_⟩⟩
    · simp only
      rw [e] at nin t
      rw [t, if_pos (by simp), h2, if_neg nin, List.append_nil]
    · simp only
      rw [t, h2]
      congr 1
      have : a ∈ w.take i.toNat ++ [w.getD i.toNat 0] ↔ a ∈ w.take i.toNat := by
        rw [List.mem_append, List.mem_singleton]
        exact ⟨fun z => z.elim id fun z => absurd z.symm e, .inl⟩
      by_cases z : a ∈ w.take i.toNat
      · rw [if_pos z, if_pos (this.2 z)]
      · rw [if_neg z, if_neg (fun q => z (this.1 q))]
  · have e : i = w.length := by omega
    rw [h2, e, Int.toNat_natCast, List.take_length]
theorem rb_bl {l : List E} {r a : Int} (h : rtE l a r = 0) : rbB l r a = blF l r a := by
  obtain ⟨na, nb, h1, f, c, w, g, _, lw, ck⟩ := rt_0 h
  unfold blF
  rw [if_pos h]
  unfold rbB rbQ0 lkF
  rw [List.filter_map, List.filter_filter]
  congr 1
  refine List.filter_congr fun j hj => ?_
  have hj := List.mem_range.1 hj
  obtain ⟨c1, c2, c3⟩ := ck_0 ck
  by_cases e : j = 0
  · subst e
    have z : (twH l r).getD 0 0 = 0 := (tw_ok f nb).1.z0
    have k1 : rbP l r a 0 = false := rfl
    rw [k1, decide_eq_false (fun q => q z), Bool.and_false]
  · have nj : nod (j : Int) := by unfold nod; omega
    have k := hop_iff f nb nj
    have k2 : (twH l r).getD j 0 = ix (twH l r) (j : Int) := by
      show _ = (twH l r).getD (Int.toNat (j : Int)) 0
      rw [Int.toNat_natCast]
    unfold rbP
    rw [decide_eq_true (show 1 ≤ j by omega), Bool.true_and, Bool.eq_iff_iff, Bool.and_eq_true, Bool.and_eq_true, decide_eq_true_eq, k2, show (¬ ix (twH l r) (j : Int) = 0) = (ix (twH l r) (j : Int) ≠ 0) from rfl, k, lk_iff (fun y hy => f.ok _ (List.mem_map_of_mem hy))]
    have key : Cn (l.map trE) r j → (con (wyB l r j) a = true ↔ blP l r a j = true) := fun cn => by
      have ckj : ckF l r j = 0 := by
        unfold ckF
        rw [if_pos ⟨c2, (node_iff _).2 nj, c3⟩]
      have r0 := (rt_mk ckj).2 ((lk_iff (fun y hy => f.ok _ (List.mem_map_of_mem hy)) r j).2 ⟨nb, nj, cn⟩)
      obtain ⟨rb0, eb⟩ := rt_back r0
      have e2 : wyB l j r = wF 65 (twH l r) j := if_pos rb0
      unfold blP con
      rw [decide_eq_true_eq, decide_eq_true_eq, ← e2, eb, List.mem_reverse]
    show _ ↔ blP l r a j = true ∧ _
    constructor
    · rintro ⟨⟨_, _, cn⟩, q⟩
      exact ⟨(key cn).1 q, cn⟩
    · rintro ⟨q, cn⟩
      exact ⟨⟨nb, nj, cn⟩, (key cn).2 q⟩

structure Te where
  e_ix : List E → Int → Int → Int → Int
  e_ok : List E → Bool
  e_sd : List E → Int → Int → Int → Int → List Int
  e_sde : List E → Int → Int → Int → Int → Int
  e_rs : List E → Int → Int → Int → Int → List Int
  e_in : List E → Bool
  e_rb : List E → Int → Int → List Int
  e_okb : List E → Int → Int → Bool
def Te.std : Te := ⟨fun l a b w => ixE l (a, b, w), fun l => decide (l.length ≤ 1000000), fun l a b w n => sdF l (a, b, w) n, fun l a b w n => sdE l (a, b, w) n, fun l a b w n => lnR (butF l (a, b, w)) n, inR, rbB, fun l r a => decide (ckF l r a = 0 ∧ l.length ≤ 512)⟩

def c_indexe (F : Te) : Con := fun xs h => match xs, h with
  | [.one (.sl none (.recs (.int .i64 (.int .i64 (.int .i64 .nil))) l)), .agg [.val (.int .i64 c_a), .val (.int .i64 c_b), .val (.int .i64 c_w)]], [] => some ⟨F.e_ok l = true, .sa (I (F.e_ix l c_a c_b c_w)), [], [Any, Any]⟩
  | _, _ => none
set_option cbv.maxSteps 4000000 in
set_option maxHeartbeats 4000000 in
set_option maxRecDepth 100000 in
theorem x_indexe (l : List E) (c_a : Int) (c_b : Int) (c_w : Int) (hC : Te.std.e_ok l = true) : Does [] Try.f71 [.one (.sl none (.recs (.int .i64 (.int .i64 (.int .i64 .nil))) l)), .agg [.val (.int .i64 c_a), .val (.int .i64 c_b), .val (.int .i64 c_w)]] [] ⟨Te.std.e_ok l = true, .sa (I (Te.std.e_ix l c_a c_b c_w)), [], [Any, Any]⟩ := by
  intro b gv
  have hk : l.length ≤ 1000000 := of_decide_eq_true (show decide (l.length ≤ 1000000) = true from hC)
  have hfs := FsOk.nil
  generalize hF : Te.std = F at hC hfs ⊢
  generalize hG0 : TrR.Tr.std = G0 at hC hfs ⊢
  generalize hG1 : TrQ.Tq.std = G1 at hC hfs ⊢
  generalize hG2 : TrD.Td.std = G2 at hC hfs ⊢
  generalize hG3 : TrW.Tw.std = G3 at hC hfs ⊢
  generalize hG4 : SpQ.Sq.std = G4 at hC hfs ⊢
  generalize hG5 : CtE.Cs.std = G5 at hC hfs ⊢
  generalize hA : Ar.std = A
  generalize hL : Lp _ _ _ = L
  obtain ⟨Z, zq⟩ := z_all
  refine cd_open (lp_mono hL) zq rfl ?_
  repeat' (first
    | (refine z_open zq ?_; try dsimp only)
    | refine cd_seq zq ?_ (lp_mono hL)
    | refine cd_blk zq ?_
    | refine cd_ret ?_
    | refine cd_skip ?_
    | refine cd_exit ?_
    | refine cd_loop ?_
    | refine cd_cond rfl ?_
    | refine cd_condT rfl ?_
    | refine cd_condF rfl ?_
    | (refine Cd.mk ?_; cbv)
    | (refine Ends1.mk ?_; cbv)
    | (refine Fin1.mk ?_; cbv)
    | exact trivial
    | refine And.intro ?_ ?_
    | refine orf fun _ => ?_
    | refine ort fun _ => ?_)
  subst hL
  refine loop_z (cx_ok hfs) (ieQ l (c_a, c_b, c_w)) (ieI A l c_a c_b c_w) (ieM l) ieR ⟨0⟩ ?_ ?_ ?_
  · exact ⟨Int.le_refl 0, Int.natCast_nonneg _, fun j hj => by simp only at hj; omega⟩
  · cbv
    repeat' (first | exact trivial | exact rfl | refine And.intro ?_ ?_)
  rintro ⟨i⟩ hq O hO
  have hst := ie_step hk hq
  subst hA
  generalize hA : Ar.std = A
  generalize hL : Lp _ _ _ = L
  refine cd_close zq ?_
  repeat' (first
    | (refine z_open zq ?_; try dsimp only)
    | refine cd_seq zq ?_ (lp_mono hL)
    | refine cd_blk zq ?_
    | refine cd_ret ?_
    | refine cd_skip ?_
    | refine cd_exit ?_
    | refine cd_loop ?_
    | refine cd_cond rfl ?_
    | refine cd_condT rfl ?_
    | refine cd_condF rfl ?_
    | (refine Cd.mk ?_; cbv)
    | (refine Ends1.mk ?_; cbv)
    | (refine Fin1.mk ?_; cbv)
    | exact trivial
    | refine And.intro ?_ ?_
    | refine orf fun _ => ?_
    | refine ort fun _ => ?_)
  all_goals (clear hL hfs zq Z hq; subst hA hF hG0 hG1 hG2 hG3 hG4 hG5 hO; simp only [Te.std, Ar.std] at * <;> grind [stdCmp]; done)
theorem ok_indexe : ConOk Try.prog 71 (c_indexe Te.std) := by
  refine con_of FsOk.nil Try.func71 rfl rfl fun xs h p hp => ?_
  unfold c_indexe at hp
  split at hp
  · cases hp
    exact ⟨lee_le rfl, fun hC _ => x_indexe _ _ _ _ hC⟩
  · cases hp

def c_side (F : Te) : Con := fun xs h => match xs, h with
  | [.one (.sl none (.recs (.int .i64 (.int .i64 (.int .i64 .nil))) l)), .agg [.val (.int .i64 c_a), .val (.int .i64 c_b), .val (.int .i64 c_w)], .one (.val (.int .i64 a))], [] => some ⟨F.e_ok l = true, .tup [.one (.sl none (.ints .i64 (F.e_sd l c_a c_b c_w a))), I (F.e_sde l c_a c_b c_w a)], [], [Any, Any, Any]⟩
  | _, _ => none
set_option cbv.maxSteps 4000000 in
set_option maxHeartbeats 4000000 in
set_option maxRecDepth 100000 in
theorem x_side (l : List E) (c_a : Int) (c_b : Int) (c_w : Int) (a : Int) (hC : Te.std.e_ok l = true) : Does [(70, c_tcheck TrR.Tr.std), (71, c_indexe Te.std), (73, c_cat CtE.Cs.std), (72, c_toward TrR.Tr.std), (74, c_linked TrR.Tr.std)] Try.f46 [.one (.sl none (.recs (.int .i64 (.int .i64 (.int .i64 .nil))) l)), .agg [.val (.int .i64 c_a), .val (.int .i64 c_b), .val (.int .i64 c_w)], .one (.val (.int .i64 a))] [] ⟨Te.std.e_ok l = true, .tup [.one (.sl none (.ints .i64 (Te.std.e_sd l c_a c_b c_w a))), I (Te.std.e_sde l c_a c_b c_w a)], [], [Any, Any, Any]⟩ := by
  intro b gv
  have hk : l.length ≤ 1000000 := of_decide_eq_true (show decide (l.length ≤ 1000000) = true from hC)
  have h1 := ck_or l a a
  have h2 : ckF l a a = 0 → ¬ ixE l (c_a, c_b, c_w) < 0 → okTw (cuE l (ixE l (c_a, c_b, c_w))) a = true ∧ (twH (cuE l (ixE l (c_a, c_b, c_w))) a).length = 65 ∧ (cuE l (ixE l (c_a, c_b, c_w))).length ≤ 1000000 ∧ 0 ≤ ixE l (c_a, c_b, c_w) ∧ ixE l (c_a, c_b, c_w) < l.length ∧ stdBin .add .i64 (ixE l (c_a, c_b, c_w)) 1 = ixE l (c_a, c_b, c_w) + 1 := fun h k => by
    obtain ⟨c1, c2, c3, c4⟩ := cu_ok (c := (c_a, c_b, c_w)) (ck_0 h).2.2 k
    obtain ⟨x1, x2, x3, x4⟩ := ix_ok k
    refine ⟨by unfold okTw; rw [c1, (ck_0 h).1]; rfl, tw_len c2 ((node_iff a).1 (ck_0 h).1), by omega, x2, x3, by rw [b_add, wr _ (by omega) (by omega)]⟩
  have h3 : ckF l a a = 0 → ¬ ixE l (c_a, c_b, c_w) < 0 → catF [[D.recs (List.drop (Int.toNat 0) (List.take (ixE l (c_a, c_b, c_w)).toNat l))], [D.recs (List.drop (stdBin .add .i64 (ixE l (c_a, c_b, c_w)) 1).toNat (List.take (l.length : Int).toNat l))]] = cuE l (ixE l (c_a, c_b, c_w)) := fun h k => by
    rw [(h2 h k).2.2.2.2.2, Int.toNat_natCast, List.take_length]
    exact cu_cat l _
  have hfs := (FsOk.cons ok_tcheck (FsOk.cons ok_indexe (FsOk.cons ok_cat (FsOk.cons ok_toward (FsOk.cons TrR.ok_linked FsOk.nil rfl) rfl) rfl) rfl) rfl)
  generalize hF : Te.std = F at hC hfs ⊢
  generalize hG0 : TrR.Tr.std = G0 at hC hfs ⊢
  generalize hG1 : TrQ.Tq.std = G1 at hC hfs ⊢
  generalize hG2 : TrD.Td.std = G2 at hC hfs ⊢
  generalize hG3 : TrW.Tw.std = G3 at hC hfs ⊢
  generalize hG4 : SpQ.Sq.std = G4 at hC hfs ⊢
  generalize hG5 : CtE.Cs.std = G5 at hC hfs ⊢
  generalize hA : Ar.std = A
  generalize hL : Lp _ _ _ = L
  obtain ⟨Z, zq⟩ := z_all
  refine cd_open (lp_mono hL) zq rfl ?_
  repeat' (first
    | (refine z_open zq ?_; try dsimp only)
    | refine cd_seq zq ?_ (lp_mono hL)
    | refine cd_blk zq ?_
    | refine cd_ret ?_
    | refine cd_skip ?_
    | refine cd_exit ?_
    | refine cd_loop ?_
    | refine cd_cond rfl ?_
    | refine cd_condT rfl ?_
    | refine cd_condF rfl ?_
    | (refine Cd.mk ?_; cbv)
    | (refine Ends1.mk ?_; cbv)
    | (refine Fin1.mk ?_; cbv)
    | exact trivial
    | refine And.intro ?_ ?_
    | refine orf fun _ => ?_
    | refine ort fun _ => ?_)
  all_goals
    clear hL zq Z
    try clear hfs
    subst hA hF hG0 hG1 hG2 hG3 hG4 hG5
    simp only [Te.std, TrR.Tr.std, CtE.Cs.std, Ar.std] at *
    try (grind [stdCmp, sdE, sdF])
theorem ok_side : ConOk Try.prog 46 (c_side Te.std) := by
  refine con_of (FsOk.cons ok_tcheck (FsOk.cons ok_indexe (FsOk.cons ok_cat (FsOk.cons ok_toward (FsOk.cons TrR.ok_linked FsOk.nil rfl) rfl) rfl) rfl) rfl) Try.func46 rfl rfl fun xs h p hp => ?_
  unfold c_side at hp
  split at hp
  · cases hp
    exact ⟨lee_le rfl, fun hC _ => x_side _ _ _ _ _ hC⟩
  · cases hp

def c_rside (F : Te) : Con := fun xs h => match xs, h with
  | [.one (.sl none (.recs (.int .i64 (.int .i64 (.int .i64 .nil))) l)), .agg [.val (.int .i64 c_a), .val (.int .i64 c_b), .val (.int .i64 c_w)], .one (.val (.int .i64 a))], [] => some ⟨F.e_in l = true, .sa (.one (.sl none (.ints .i64 (F.e_rs l c_a c_b c_w a)))), [], [Any, Any, Any]⟩
  | _, _ => none
set_option cbv.maxSteps 4000000 in
set_option maxHeartbeats 4000000 in
set_option maxRecDepth 100000 in
theorem x_rside (l : List E) (c_a : Int) (c_b : Int) (c_w : Int) (a : Int) (hC : Te.std.e_in l = true) : Does [(69, c_without TrQ.Tq.std), (52, c_rlnk TrD.Td.std)] Try.f48 [.one (.sl none (.recs (.int .i64 (.int .i64 (.int .i64 .nil))) l)), .agg [.val (.int .i64 c_a), .val (.int .i64 c_b), .val (.int .i64 c_w)], .one (.val (.int .i64 a))] [] ⟨Te.std.e_in l = true, .sa (.one (.sl none (.ints .i64 (Te.std.e_rs l c_a c_b c_w a)))), [], [Any, Any, Any]⟩ := by
  intro b gv
  have hk : inR l = true := hC
  have hk1 := (inR_iff.1 hk).1
  have h1 := in_but hk (c_a, c_b, c_w)
  have hfs := (FsOk.cons ok_without (FsOk.cons ok_rlnk FsOk.nil rfl) rfl)
  generalize hF : Te.std = F at hC hfs ⊢
  generalize hG0 : TrR.Tr.std = G0 at hC hfs ⊢
  generalize hG1 : TrQ.Tq.std = G1 at hC hfs ⊢
  generalize hG2 : TrD.Td.std = G2 at hC hfs ⊢
  generalize hG3 : TrW.Tw.std = G3 at hC hfs ⊢
  generalize hG4 : SpQ.Sq.std = G4 at hC hfs ⊢
  generalize hG5 : CtE.Cs.std = G5 at hC hfs ⊢
  generalize hA : Ar.std = A
  generalize hL : Lp _ _ _ = L
  obtain ⟨Z, zq⟩ := z_all
  refine cd_open (lp_mono hL) zq rfl ?_
  repeat' (first
    | (refine z_open zq ?_; try dsimp only)
    | refine cd_seq zq ?_ (lp_mono hL)
    | refine cd_blk zq ?_
    | refine cd_ret ?_
    | refine cd_skip ?_
    | refine cd_exit ?_
    | refine cd_loop ?_
    | refine cd_cond rfl ?_
    | refine cd_condT rfl ?_
    | refine cd_condF rfl ?_
    | (refine Cd.mk ?_; cbv)
    | (refine Ends1.mk ?_; cbv)
    | (refine Fin1.mk ?_; cbv)
    | exact trivial
    | refine And.intro ?_ ?_
    | refine orf fun _ => ?_
    | refine ort fun _ => ?_)
  all_goals
    clear hL zq Z
    try clear hfs
    subst hA hF hG0 hG1 hG2 hG3 hG4 hG5
    simp only [Te.std, TrQ.Tq.std, TrD.Td.std] at *
    try (grind [stdCmp])
theorem ok_rside : ConOk Try.prog 48 (c_rside Te.std) := by
  refine con_of (FsOk.cons ok_without (FsOk.cons ok_rlnk FsOk.nil rfl) rfl) Try.func48 rfl rfl fun xs h p hp => ?_
  unfold c_rside at hp
  split at hp
  · cases hp
    exact ⟨lee_le rfl, fun hC _ => x_rside _ _ _ _ _ hC⟩
  · cases hp

def c_rbelow (F : Te) : Con := fun xs h => match xs, h with
  | [.one (.sl none (.recs (.int .i64 (.int .i64 (.int .i64 .nil))) l)), .one (.val (.int .i64 r)), .one (.val (.int .i64 a))], [] => some ⟨F.e_okb l r a = true, .sa (.one (.sl none (.ints .i64 (F.e_rb l r a)))), [], [Any, Any, Any]⟩
  | _, _ => none
set_option cbv.maxSteps 4000000 in
set_option maxHeartbeats 4000000 in
set_option maxRecDepth 100000 in
theorem x_rbelow (l : List E) (r : Int) (a : Int) (hC : Te.std.e_okb l r a = true) : Does [(34, c_rlinked SpQ.Sq.std), (43, c_rway TrW.Tw.std)] Try.f50 [.one (.sl none (.recs (.int .i64 (.int .i64 (.int .i64 .nil))) l)), .one (.val (.int .i64 r)), .one (.val (.int .i64 a))] [] ⟨Te.std.e_okb l r a = true, .sa (.one (.sl none (.ints .i64 (Te.std.e_rb l r a)))), [], [Any, Any, Any]⟩ := by
  intro b gv
  have hk : ckF l r a = 0 ∧ l.length ≤ 512 := of_decide_eq_true (show decide (ckF l r a = 0 ∧ l.length ≤ 512) = true from hC)
  have hin : inR l = true := in_R (all_good (for_fo (ck_0 hk.1).2.2).1) (by omega)
  have hfs := (FsOk.cons ok_rlinked (FsOk.cons ok_rway FsOk.nil rfl) rfl)
  generalize hF : Te.std = F at hC hfs ⊢
  generalize hG0 : TrR.Tr.std = G0 at hC hfs ⊢
  generalize hG1 : TrQ.Tq.std = G1 at hC hfs ⊢
  generalize hG2 : TrD.Td.std = G2 at hC hfs ⊢
  generalize hG3 : TrW.Tw.std = G3 at hC hfs ⊢
  generalize hG4 : SpQ.Sq.std = G4 at hC hfs ⊢
  generalize hG5 : CtE.Cs.std = G5 at hC hfs ⊢
  generalize hA : Ar.std = A
  generalize hL : Lp _ _ _ = L
  obtain ⟨Z, zq⟩ := z_all
  refine cd_open (lp_mono hL) zq rfl ?_
  repeat' (first
    | (refine z_open zq ?_; try dsimp only)
    | refine cd_seq zq ?_ (lp_mono hL)
    | refine cd_blk zq ?_
    | refine cd_ret ?_
    | refine cd_skip ?_
    | refine cd_exit ?_
    | refine cd_loop ?_
    | refine cd_cond rfl ?_
    | refine cd_condT rfl ?_
    | refine cd_condF rfl ?_
    | (refine Cd.mk ?_; cbv)
    | (refine Ends1.mk ?_; cbv)
    | (refine Fin1.mk ?_; cbv)
    | exact trivial
    | refine And.intro ?_ ?_
    | refine orf fun _ => ?_
    | refine ort fun _ => ?_)
  subst hL
  refine loop_z (cx_ok hfs) (rbQ l r a) (rbI l r a) (rbM) rbRd ⟨1, []⟩ ?_ ?_ ?_
  · exact ⟨Int.le_refl 1, (by show (1 : Int) ≤ 65; decide), rfl⟩
  · cbv
    repeat' (first | exact trivial | exact rfl | refine And.intro ?_ ?_)
  rintro ⟨i, o⟩ hq O hO
  have hst := rb_step hk.1 hq
  subst hA
  generalize hA : Ar.std = A
  generalize hL : Lp _ _ _ = L
  refine cd_close zq ?_
  repeat' (first
    | (refine z_open zq ?_; try dsimp only)
    | refine cd_seq zq ?_ (lp_mono hL)
    | refine cd_blk zq ?_
    | refine cd_ret ?_
    | refine cd_skip ?_
    | refine cd_exit ?_
    | refine cd_loop ?_
    | refine cd_cond rfl ?_
    | refine cd_condT rfl ?_
    | refine cd_condF rfl ?_
    | (refine Cd.mk ?_; cbv)
    | (refine Ends1.mk ?_; cbv)
    | (refine Fin1.mk ?_; cbv)
    | exact trivial
    | refine And.intro ?_ ?_
    | refine orf fun _ => ?_
    | refine ort fun _ => ?_)
  all_goals first | (show L _ _ _; skip) | (clear hL hfs zq Z hq; subst hA hF hG0 hG1 hG2 hG3 hG4 hG5 hO; simp only [Te.std, TrW.Tw.std, SpQ.Sq.std, Ar.std] at * <;> grind [stdCmp]; done)
  rename_i hx1 hx2
  have hi : i ≤ 64 ∧ lkR l r i = true := by
    clear hL hfs zq Z hO hst hC hq hk hin
    subst hA hF hG0 hG1 hG2 hG3 hG4 hG5
    simp only [SpQ.Sq.std, Ar.std] at *
    grind [stdCmp]
  clear hx1 hx2
  obtain ⟨s1, s2, s3, s4, s5⟩ := hst
  obtain ⟨t1, t2, t3, t4⟩ := s4 hi.1
  obtain ⟨u1, u2, u3, u4⟩ := t4 hi.2
  clear s4 s5 t3 t4
  subst hL
  refine loop_z (cx_ok hfs) (rcQ (wyB l r i) a i o) (rcI l r a i (G3.w_wy l r i)) (rcM (wyB l r i)) rcRd ⟨0, o⟩ ?_ ?_ ?_
  · exact ⟨Int.le_refl 0, Int.natCast_nonneg _, by simp⟩
  · cbv
    repeat' (first | exact trivial | exact rfl | refine And.intro ?_ ?_)
  rintro ⟨j, p⟩ hq2 O2 hO2
  have hs2 := rc_step u2 u3 s3 hq2
  have hnx := fun h => u4 p (hs2.2.2.2.2 h)
  subst hA
  generalize hA : Ar.std = A
  generalize hL : Lp _ _ _ = L
  refine cd_close zq ?_
  repeat' (first
    | (refine z_open zq ?_; try dsimp only)
    | refine cd_seq zq ?_ (lp_mono hL)
    | refine cd_blk zq ?_
    | refine cd_ret ?_
    | refine cd_skip ?_
    | refine cd_exit ?_
    | refine cd_loop ?_
    | refine cd_cond rfl ?_
    | refine cd_condT rfl ?_
    | refine cd_condF rfl ?_
    | (refine Cd.mk ?_; cbv)
    | (refine Ends1.mk ?_; cbv)
    | (refine Fin1.mk ?_; cbv)
    | exact trivial
    | refine And.intro ?_ ?_
    | refine orf fun _ => ?_
    | refine ort fun _ => ?_)
  all_goals (clear hL hfs zq Z hq hq2 u3 u4; subst hA hF hG0 hG1 hG2 hG3 hG4 hG5 hO hO2; simp only [Te.std, TrW.Tw.std, Ar.std] at * <;> grind [stdCmp]; done)
theorem ok_rbelow : ConOk Try.prog 50 (c_rbelow Te.std) := by
  refine con_of (FsOk.cons ok_rlinked (FsOk.cons ok_rway FsOk.nil rfl) rfl) Try.func50 rfl rfl fun xs h p hp => ?_
  unfold c_rbelow at hp
  split at hp
  · cases hp
    exact ⟨lee_le rfl, fun hC _ => x_rbelow _ _ _ hC⟩
  · cases hp
end Go.Proofs.Ytamkgdiknlpooaa.TrE
