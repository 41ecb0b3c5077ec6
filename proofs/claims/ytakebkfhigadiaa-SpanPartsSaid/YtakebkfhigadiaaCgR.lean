
/-
  the nodes of a graph, part by part, as the document has them. No condition.
-/
import Derived.Test.YtakebkfhigadiaaSpQ
namespace Go.Proofs.Ytakebkfhigadiaa.CgR
open Go Go.Proofs.Ytakebkfhigadiaa.Ry Go.Proofs.Ytakebkfhigadiaa.EgR Go.Proofs.Ytakebkfhigadiaa.SpR Go.Proofs.Ytakebkfhigadiaa.SpQ

def upN (k : Nat) : List Int := (List.range k).map fun i : Nat => (i : Int) + 1
theorem up_next (k : Nat) : upN (k + 1) = upN k ++ [(k : Int) + 1] := by
  unfold upN
  rw [List.range_succ, List.map_append]
  rfl
theorem up_len (k : Nat) : (upN k).length = k := by
  unfold upN
  rw [List.length_map, List.length_range]
theorem up_mem {k : Nat} {x : Int} : x ∈ upN k ↔ 1 ≤ x ∧ x ≤ k := by
  unfold upN
  rw [List.mem_map]
  constructor
  · rintro ⟨i, hi, rfl⟩
    rw [List.mem_range] at hi
    omega
  · rintro ⟨h0, h1⟩
    exact ⟨(x - 1).toNat, List.mem_range.2 (by omega), by omega⟩
theorem up_lt (k : Nat) : (upN k).Pairwise (· < ·) := by
  unfold upN
  rw [List.pairwise_map]
  exact List.pairwise_lt_range.imp fun h => by omega
def hasN (l : List E) (n : Int) : Bool := l.any fun y => decide (ri y 0 = n ∨ ri y 1 = n)
def ndS (l : List E) : List Int := (upN 64).filter (hasN l)
structure XN where
  i : Int
  o : List Int
structure XB where
  k : Int
  b : Bool
def n1Q (l : List E) (y : XN) : Prop := 1 ≤ y.i ∧ y.i ≤ 65 ∧ y.o = (upN (y.i - 1).toNat).filter (hasN l)
def n1M (y : XN) : Nat := 65 - y.i.toNat
def n1R (st : St) : XN := ⟨slotI st 4, ctL (match slotC st 3 with | .sl _ c => c | _ => .ints .i64 [])⟩
def n2Q (l : List E) (n : Int) (y : XB) : Prop := 0 ≤ y.k ∧ y.k ≤ l.length ∧ y.b = hasN (l.take y.k.toNat) n
def n2M (l : List E) (y : XB) : Nat := l.length - y.k.toNat
def slotB (st : St) (n : Nat) : Bool := match slotC st n with | .val (.bool b) => b | .tf b => b | _ => false
def n2R (st : St) : XB := ⟨slotI st 6, slotB st 5⟩
theorem n1_len {l : List E} {i : Int} {o : List Int} (hq : n1Q l ⟨i, o⟩) : o.length ≤ 64 := by
  obtain ⟨h0, h1, h2⟩ := hq
  simp only at h0 h1 h2
  have : o.length ≤ (upN (i - 1).toNat).length := by rw [h2]; exact List.length_filter_le ..
  rw [up_len] at this
  omega
theorem n1_step {l : List E} {i : Int} {o : List Int} (hq : n1Q l ⟨i, o⟩) (h : i ≤ 64) : stdBin .add .i64 i 1 = i + 1 ∧ (∀ p, n1M ⟨i + 1, p⟩ < n1M ⟨i, o⟩) ∧ (hasN l i = true → n1Q l ⟨i + 1, o ++ [i]⟩) ∧ (hasN l i = false → n1Q l ⟨i + 1, o⟩) := by
  obtain ⟨h0, h1, h2⟩ := hq
  simp only at h0 h1 h2
  have e : (i + 1 - 1).toNat = (i - 1).toNat + 1 := by omega
  have e2 : (((i - 1).toNat : Nat) : Int) + 1 = i := by omega
  refine ⟨by rw [b_add, wr _ (by omega) (by omega)], fun p => by simp only [n1M]; omega, fun g => ⟨by simp only; omega, by simp only; omega, ?_⟩, fun g => ⟨by simp only; omega, by simp only; omega, ?_⟩⟩
  · simp only
    rw [e, up_next, List.filter_append, e2, ← h2, List.filter_cons_of_pos g]
    rfl
  · simp only
    rw [e, up_next, List.filter_append, e2, ← h2, List.filter_cons_of_neg (by rw [g]; decide)]
    simp
theorem n1_end {l : List E} {i : Int} {o : List Int} (hq : n1Q l ⟨i, o⟩) (h : ¬ i ≤ 64) : o = ndS l := by
  obtain ⟨h0, h1, h2⟩ := hq
  simp only at h0 h1 h2
  rw [h2, show (i - 1).toNat = 64 by omega]
  rfl
theorem n2_step {l : List E} {n : Int} (hl : l.length ≤ 1000000) {k : Int} {b : Bool} (hq : n2Q l n ⟨k, b⟩) : 0 ≤ k ∧ k ≤ l.length ∧ (k < l.length → stdBin .add .i64 k 1 = k + 1 ∧ (∀ c, n2M l ⟨k + 1, c⟩ < n2M l ⟨k, b⟩) ∧ (b = true → n2Q l n ⟨k + 1, true⟩) ∧ (∀ c : Bool, b = false → (c = true ↔ ri (l.getD k.toNat []) 0 = n ∨ ri (l.getD k.toNat []) 1 = n) → n2Q l n ⟨k + 1, c⟩)) ∧ (¬ k < l.length → b = hasN l n) := by
  obtain ⟨h0, h1, h2⟩ := hq
  simp only at h0 h1 h2
  refine ⟨h0, h1, fun h => ?_, fun h => ?_⟩
  · have hx : hasN (l.take (k + 1).toNat) n = (hasN (l.take k.toNat) n || decide (ri (l.getD k.toNat []) 0 = n ∨ ri (l.getD k.toNat []) 1 = n)) := by
      rw [take_next l k h0 h]
      unfold hasN
      rw [List.any_append]
      simp only [List.any_cons, List.any_nil, Bool.or_false]
    refine ⟨by rw [b_add, wr _ (by omega) (by omega)], fun c => by simp only [n2M]; omega, fun g => ⟨by simp only; omega, by simp only; omega, ?_⟩, fun c g hc => ⟨by simp only; omega, by simp only; omega, ?_⟩⟩
    · simp only
      rw [hx, ← h2, g]
      rfl
    · simp only
      rw [hx, ← h2, g, Bool.false_or, Bool.eq_iff_iff, hc, decide_eq_true_eq]
  · rw [h2, List.take_of_length_le (by omega)]
/-! ## Parts -/
def inSt (M : List E) (k : Int) : List E := M.set k.toNat [D.bool true]
def inA (n : List Int) : List E := n.foldl inSt zer
def inPk (n : List Int) (l : List E) (m k : Int) : Bool := rb ((inA n).getD k.toNat []) 0 && rb ((reaB l m).getD k.toNat []) 0
def paP (n : List Int) (l : List E) (m : Int) : List Int := (upN 64).filter (inPk n l m)
def paS (n : List Int) (l : List E) : Nat → List E × List E
  | 0 => ([], zer)
  | k + 1 => if rb ((inA n).getD (k + 1) []) 0 = true ∧ ¬ rb ((paS n l k).2.getD (k + 1) []) 0 = true then ((paS n l k).1 ++ [[D.ints (paP n l ((k : Int) + 1))]], (paP n l ((k : Int) + 1)).foldl inSt (paS n l k).2) else paS n l k
def paO (n : List Int) (l : List E) : List E := (paS n l 64).1
def inI (n : List Int) : Bool := decide (n.length ≤ 1000000 ∧ ∀ x ∈ n, 0 ≤ x ∧ x < 65)
theorem fo_len : ∀ (n : List Int) (M : List E), (n.foldl inSt M).length = M.length
  | [], _ => rfl
  | x :: n, M => by
    show (n.foldl inSt (inSt M x)).length = _
    rw [fo_len n, inSt, List.length_set]
theorem zer_len : zer.length = 65 := by rw [zer, List.length_replicate]
theorem inA_len (n : List Int) : (inA n).length = 65 := by rw [inA, fo_len, zer_len]
theorem paS_len (n : List Int) (l : List E) : ∀ k, (paS n l k).2.length = 65 ∧ (paS n l k).1.length ≤ k
  | 0 => ⟨zer_len, Nat.le_refl 0⟩
  | k + 1 => by
    have := paS_len n l k
    unfold paS
    split
    · exact ⟨by rw [fo_len]; exact this.1, by rw [List.length_append]; simp; omega⟩
    · exact ⟨this.1, by omega⟩
structure XK where
  k : Int
  M : List E
def q1Q (n : List Int) (y : XK) : Prop := 0 ≤ y.k ∧ y.k ≤ n.length ∧ y.M = (n.take y.k.toNat).foldl inSt zer
def q1M (n : List Int) (y : XK) : Nat := n.length - y.k.toNat
noncomputable def q1I (A : Ar) (n : List Int) (l : List E) (y : XK) : St := stOf Try.f11.ntmps [(0, .sl none (.ints .i64 n)), (1, .sl none (.recs (.int .i64 (.int .i64 (.int .i64 .nil))) l)), (5, .ptr 1 0), (6, .ptr 2 0), (7, .val (.int .i64 y.k))] [(1, .row 66 (.recs (.bool .nil) (y.M))), (2, .row 66 (.recs (.bool .nil) (A.repE 65 [D.bool false])))] [Any, Any]
def q1R (st : St) : XK := ⟨slotI st 7, rdA st 5⟩
theorem q1_step {n : List Int} (hn : inI n = true) {k : Int} {M : List E} (hq : q1Q n ⟨k, M⟩) : 0 ≤ k ∧ k ≤ n.length ∧ M.length = 65 ∧ (k < n.length → stdBin .add .i64 k 1 = k + 1 ∧ 0 ≤ n.getD k.toNat 0 ∧ n.getD k.toNat 0 < 65 ∧ (∀ c, q1M n ⟨k + 1, c⟩ < q1M n ⟨k, M⟩) ∧ q1Q n ⟨k + 1, M.set (n.getD k.toNat 0).toNat [D.bool true]⟩) ∧ (¬ k < n.length → M = inA n) := by
  obtain ⟨h0, h1, h2⟩ := hq
  obtain ⟨n1, n2⟩ := of_decide_eq_true (show decide (n.length ≤ 1000000 ∧ ∀ x ∈ n, 0 ≤ x ∧ x < 65) = true from hn)
  simp only at h0 h1 h2
  refine ⟨h0, h1, by rw [h2, fo_len, zer_len], fun h => ?_, fun h => ?_⟩
  · have hi : k.toNat < n.length := by omega
    have eg : n.getD k.toNat 0 = n[k.toNat] := by rw [List.getD_eq_getElem?_getD, List.getElem?_eq_getElem hi]; rfl
    have hm := n2 (n.getD k.toNat 0) (by rw [eg]; exact List.getElem_mem hi)
    refine ⟨by rw [b_add, wr _ (by omega) (by omega)], hm.1, hm.2, fun c => by simp only [q1M]; omega, by simp only; omega, by simp only; omega, ?_⟩
    simp only
    rw [show (k + 1).toNat = k.toNat + 1 by omega, List.take_add_one, List.foldl_append, ← h2, eg, List.getElem?_eq_getElem hi]
    rfl
  · rw [h2, List.take_of_length_le (by omega)]
    rfl
structure XP where
  i : Int
  o : List E
  M : List E
def q2Q (n : List Int) (l : List E) (y : XP) : Prop := 1 ≤ y.i ∧ y.i ≤ 65 ∧ y.o = (paS n l (y.i - 1).toNat).1 ∧ y.M = (paS n l (y.i - 1).toNat).2
def q2M (y : XP) : Nat := 65 - y.i.toNat
noncomputable def q2I (n : List Int) (l I0 : List E) (y : XP) : St := stOf Try.f11.ntmps [(0, .sl none (.ints .i64 n)), (1, .sl none (.recs (.int .i64 (.int .i64 (.int .i64 .nil))) l)), (5, .ptr 1 0), (6, .ptr 2 0), (8, .sl (some (3, 22)) (.recs (.ints .i64 .nil) y.o)), (9, .val (.int .i64 y.i))] [(1, .row 66 (.recs (.bool .nil) (I0))), (2, .row 66 (.recs (.bool .nil) (y.M))), (3, .tok)] [Any, Any]
def q2R (st : St) : XP := ⟨slotI st 9, ctR (match slotC st 8 with | .sl _ c => c | _ => .recs .nil []), rdA st 6⟩
structure XI3 where
  k : Int
  p : List Int
  M : List E
def q3Q (n : List Int) (l : List E) (m : Int) (M0 : List E) (y : XI3) : Prop := 1 ≤ y.k ∧ y.k ≤ 65 ∧ y.p = (upN (y.k - 1).toNat).filter (inPk n l m) ∧ y.M = y.p.foldl inSt M0
def q3M (y : XI3) : Nat := 65 - y.k.toNat
noncomputable def q3I (n : List Int) (l I0 o R : List E) (m : Int) (y : XI3) : St := stOf Try.f11.ntmps [(0, .sl none (.ints .i64 n)), (1, .sl none (.recs (.int .i64 (.int .i64 (.int .i64 .nil))) l)), (5, .ptr 1 0), (6, .ptr 2 0), (8, .sl (some (3, 22)) (.recs (.ints .i64 .nil) o)), (9, .val (.int .i64 m)), (10, .ptr 4 0), (11, .sl (some (5, 3)) (.ints .i64 y.p)), (12, .val (.int .i64 y.k))] [(1, .row 66 (.recs (.bool .nil) (I0))), (2, .row 66 (.recs (.bool .nil) (y.M))), (3, .tok), (4, .row 66 (.recs (.bool .nil) (R))), (5, .tok)] [Any, Any]
def q3R (st : St) : XI3 := ⟨slotI st 12, ctL (match slotC st 11 with | .sl _ c => c | _ => .ints .i64 []), rdA st 6⟩
theorem q2_all {n : List Int} {l : List E} {i : Int} {o M : List E} (hq : q2Q n l ⟨i, o, M⟩) : 1 ≤ i ∧ i ≤ 65 ∧ M.length = 65 ∧ o.length ≤ 64 ∧ (inA n).length = 65 ∧ (i ≤ 64 → stdBin .add .i64 i 1 = i + 1 ∧ (∀ p N, q2M ⟨i + 1, p, N⟩ < q2M ⟨i, o, M⟩) ∧ (¬ (rb ((inA n).getD i.toNat []) 0 = true ∧ ¬ rb (M.getD i.toNat []) 0 = true) → q2Q n l ⟨i + 1, o, M⟩)) ∧ (¬ i ≤ 64 → o = paO n l) := by
  obtain ⟨h0, h1, h2, h3⟩ := hq
  simp only at h0 h1 h2 h3
  have hl := paS_len n l (i - 1).toNat
  refine ⟨h0, h1, by rw [h3]; exact hl.1, by rw [h2]; omega, inA_len n, fun h => ⟨by rw [b_add, wr _ (by omega) (by omega)], fun p N => by simp only [q2M]; omega, fun g => ?_⟩, fun h => ?_⟩
  · have e : paS n l (i + 1 - 1).toNat = paS n l (i - 1).toNat := by
      rw [show (i + 1 - 1).toNat = (i - 1).toNat + 1 by omega]
      conv => lhs; unfold paS
      rw [show (i - 1).toNat + 1 = i.toNat by omega, ← h3, if_neg g]
    exact ⟨by simp only; omega, by simp only; omega, by simp only; rw [e]; exact h2, by simp only; rw [e]; exact h3⟩
  · rw [h2, show (i - 1).toNat = 64 by omega]
    rfl
theorem q3_all {n : List Int} {l : List E} {i : Int} {o M0 : List E} (ho : q2Q n l ⟨i, o, M0⟩) (hi : i ≤ 64) (hg : rb ((inA n).getD i.toNat []) 0 = true ∧ ¬ rb (M0.getD i.toNat []) 0 = true) {k : Int} {p : List Int} {M : List E} (hq : q3Q n l i M0 ⟨k, p, M⟩) : 1 ≤ k ∧ k ≤ 65 ∧ M.length = 65 ∧ p.length ≤ 64 ∧ (k ≤ 64 → stdBin .add .i64 k 1 = k + 1 ∧ (∀ c N, q3M ⟨k + 1, c, N⟩ < q3M ⟨k, p, M⟩) ∧ (rb ((inA n).getD k.toNat []) 0 = true → rb ((reaB l i).getD k.toNat []) 0 = true → q3Q n l i M0 ⟨k + 1, p ++ [k], M.set k.toNat [D.bool true]⟩) ∧ (¬ (rb ((inA n).getD k.toNat []) 0 = true ∧ rb ((reaB l i).getD k.toNat []) 0 = true) → q3Q n l i M0 ⟨k + 1, p, M⟩)) ∧ (¬ k ≤ 64 → q2Q n l ⟨i + 1, o ++ [[D.ints p]], M⟩) := by
  obtain ⟨p0, p1, p2, p3⟩ := ho
  obtain ⟨h0, h1, h2, h3⟩ := hq
  simp only at h0 h1 h2 h3 p0 p1 p2 p3
  have hl := paS_len n l (i - 1).toNat
  have pl : p.length ≤ (upN (k - 1).toNat).length := by rw [h2]; exact List.length_filter_le ..
  rw [up_len] at pl
  have e2 : (((k - 1).toNat : Nat) : Int) + 1 = k := by omega
  refine ⟨h0, h1, by rw [h3, fo_len, p3]; exact hl.1, by omega, fun h => ⟨by rw [b_add, wr _ (by omega) (by omega)], fun c N => by simp only [q3M]; omega, fun g1 g2 => ?_, fun g => ?_⟩, fun h => ?_⟩
  · have g : inPk n l i k = true := by unfold inPk; rw [g1, g2]; rfl
    refine ⟨by simp only; omega, by simp only; omega, ?_, ?_⟩
    · simp only
      rw [show (k + 1 - 1).toNat = (k - 1).toNat + 1 by omega, up_next, List.filter_append, e2, ← h2, List.filter_cons_of_pos g]
      rfl
    · simp only
      rw [List.foldl_append, ← h3]
      rfl
  · have g : inPk n l i k = false := by
      unfold inPk
      rw [Bool.and_eq_false_iff, ← Bool.not_eq_true, ← Bool.not_eq_true]
      exact Decidable.not_and_iff_or_not.1 g
    refine ⟨by simp only; omega, by simp only; omega, ?_, h3⟩
    simp only
    rw [show (k + 1 - 1).toNat = (k - 1).toNat + 1 by omega, up_next, List.filter_append, e2, ← h2, List.filter_cons_of_neg (by rw [g]; decide)]
    simp
  · have ep : p = paP n l i := by
      rw [h2, show (k - 1).toNat = 64 by omega]
      rfl
    have e : paS n l (i + 1 - 1).toNat = ((paS n l (i - 1).toNat).1 ++ [[D.ints (paP n l i)]], (paP n l i).foldl inSt (paS n l (i - 1).toNat).2) := by
      rw [show (i + 1 - 1).toNat = (i - 1).toNat + 1 by omega]
      conv => lhs; unfold paS
      rw [show (((i - 1).toNat : Nat) : Int) + 1 = i by omega, show (i - 1).toNat + 1 = i.toNat by omega, ← p3, if_pos hg]
    exact ⟨by simp only; omega, by simp only; omega, by simp only; rw [e, ← p2, ep], by simp only; rw [e, ← p3, ← ep, h3]⟩
/-! ## Is an edge among some? -/
def hsB (l : List E) (a b w : Int) : Bool := l.any fun z => decide (ri z 0 = a ∧ ri z 1 = b ∧ ri z 2 = w)
structure XI where
  i : Int
def hsQ (l : List E) (a b w : Int) (y : XI) : Prop := 0 ≤ y.i ∧ y.i ≤ l.length ∧ hsB l a b w = hsB (l.drop y.i.toNat) a b w
def hsM (l : List E) (y : XI) : Nat := l.length - y.i.toNat
def hsR (st : St) : XI := ⟨slotI st 5⟩
theorem hs_step {l : List E} {a b w : Int} (hl : l.length ≤ 1000000) {i : Int} (hq : hsQ l a b w ⟨i⟩) : 0 ≤ i ∧ i ≤ l.length ∧ (i < l.length → stdBin .add .i64 i 1 = i + 1 ∧ hsM l ⟨i + 1⟩ < hsM l ⟨i⟩ ∧ ((ri (l.getD i.toNat []) 0 = a ∧ ri (l.getD i.toNat []) 1 = b ∧ ri (l.getD i.toNat []) 2 = w) → hsB l a b w = true) ∧ (¬ (ri (l.getD i.toNat []) 0 = a ∧ ri (l.getD i.toNat []) 1 = b ∧ ri (l.getD i.toNat []) 2 = w) → hsQ l a b w ⟨i + 1⟩)) ∧ (¬ i < l.length → hsB l a b w = false) := by
  obtain ⟨h0, h1, h2⟩ := hq
  simp only at h0 h1 h2
  refine ⟨h0, h1, fun h => ?_, fun h => ?_⟩
  · have hi : i.toNat < l.length := by omega
    have eg : l.getD i.toNat [] = l[i.toNat] := by rw [List.getD_eq_getElem?_getD, List.getElem?_eq_getElem hi]; rfl
    have ed : l.drop i.toNat = l[i.toNat] :: l.drop (i.toNat + 1) := List.drop_eq_getElem_cons hi
    have hx : hsB (l.drop i.toNat) a b w = (decide (ri (l.getD i.toNat []) 0 = a ∧ ri (l.getD i.toNat []) 1 = b ∧ ri (l.getD i.toNat []) 2 = w) || hsB (l.drop (i.toNat + 1)) a b w) := by
      rw [ed, eg]
      rfl
    refine ⟨by rw [b_add, wr _ (by omega) (by omega)], by simp only [hsM]; omega, fun g => ?_, fun g => ⟨by simp only; omega, by simp only; omega, ?_⟩⟩
    · rw [h2, hx, decide_eq_true g]
      rfl
    · simp only
      rw [h2, hx, decide_eq_false g, Bool.false_or, show (i + 1).toNat = i.toNat + 1 by omega]
  · rw [h2, List.drop_of_length_le (by omega)]
    rfl

structure Cg where
  g_nd : List E → List Int
  g_pa : List Int → List E → List E
  g_hs : List E → Int → Int → Int → Bool
  g_ok : List E → Bool
  g_in : List Int → List E → Bool
def Cg.std : Cg := ⟨ndS, paO, hsB, fun l => decide (l.length ≤ 1000000), fun n l => inI n && inR l⟩

def c_rnodes (F : Cg) : Con := fun xs h => match xs, h with
  | [.one (.sl none (.recs (.int .i64 (.int .i64 (.int .i64 .nil))) l))], [] => some ⟨F.g_ok l = true, .sa (.one (.sl none (.ints .i64 (F.g_nd l)))), [], [Any]⟩
  | _, _ => none
def c_rparts (F : Cg) : Con := fun xs h => match xs, h with
  | [.one (.sl none (.ints .i64 n)), .one (.sl none (.recs (.int .i64 (.int .i64 (.int .i64 .nil))) l))], [] => some ⟨F.g_in n l = true, .sa (.one (.sl none (.recs (.ints .i64 .nil) (F.g_pa n l)))), [], [Any, Any]⟩
  | _, _ => none
set_option cbv.maxSteps 4000000 in
set_option maxHeartbeats 4000000 in
set_option maxRecDepth 100000 in
theorem x_rparts (n : List Int) (l : List E) (hC : Cg.std.g_in n l = true) : Does [(26, c_reach SpQ.Sq.std)] Try.f11 [.one (.sl none (.ints .i64 n)), .one (.sl none (.recs (.int .i64 (.int .i64 (.int .i64 .nil))) l))] [] ⟨Cg.std.g_in n l = true, .sa (.one (.sl none (.recs (.ints .i64 .nil) (Cg.std.g_pa n l)))), [], [Any, Any]⟩ := by
  intro b gv
  obtain ⟨hn, hl⟩ : inI n = true ∧ inR l = true := by
    have := hC
    simp only [Cg.std, Bool.and_eq_true] at this
    exact this
  have hn1 := (of_decide_eq_true (show decide (n.length ≤ 1000000 ∧ ∀ x ∈ n, 0 ≤ x ∧ x < 65) = true from hn)).1
  have hrl := rea_len l
  have hfs := (FsOk.cons ok_reach FsOk.nil rfl)
  generalize hF : Cg.std = F at hC hfs ⊢
  generalize hG0 : SpQ.Sq.std = G0 at hC hfs ⊢
  generalize hA : Ar.std = A
  generalize hL : Lp _ _ _ = L
  obtain ⟨Z, zq⟩ := z_all
  refine @cd_open _ _ _ _ _ _ _ (lp_mono hL) _ _ zq rfl ?_
  repeat' (first
    | (refine z_open zq ?_; try dsimp only)
    | refine cd_seq zq ?_ (lp_mono hL)
    | refine cd_blk zq ?_
    | refine cd_ret ?_
    | refine cd_skip ?_
    | refine cd_exit ?_
    | refine cd_loop ?_
    | refine cd_cond rfl ?_
    | refine cd_condT rfl ?_
    | refine cd_condF rfl ?_
    | (refine Cd.mk ?_; cbv)
    | (refine Ends1.mk ?_; cbv)
    | (refine Fin1.mk ?_; cbv)
    | exact trivial
    | refine And.intro ?_ ?_
    | refine orf fun _ => ?_
    | refine ort fun _ => ?_)
  all_goals first | (show L _ _ _; skip) | (clear hL hfs zq Z; subst hA hF hG0; simp only [Cg.std, Ar.std] at * <;> grind [stdCmp]; done)
  subst hL
  refine loop_z (cx_ok hfs) (q1Q n) (q1I A n l) (q1M n) q1R ⟨0, A.repE 65 [D.bool false]⟩ ?_ ?_ ?_
  · subst hA; exact ⟨Int.le_refl 0, Int.natCast_nonneg _, rfl⟩
  · cbv
    repeat' (first | exact trivial | exact rfl | refine And.intro ?_ ?_)
  rintro ⟨j, N⟩ hq O hO
  have hst := q1_step hn hq
  subst hA
  generalize hA : Ar.std = A
  generalize hL : Lp _ _ _ = L
  refine cd_close zq ?_
  repeat' (first
    | (refine z_open zq ?_; try dsimp only)
    | refine cd_seq zq ?_ (lp_mono hL)
    | refine cd_blk zq ?_
    | refine cd_ret ?_
    | refine cd_skip ?_
    | refine cd_exit ?_
    | refine cd_loop ?_
    | refine cd_cond rfl ?_
    | refine cd_condT rfl ?_
    | refine cd_condF rfl ?_
    | (refine Cd.mk ?_; cbv)
    | (refine Ends1.mk ?_; cbv)
    | (refine Fin1.mk ?_; cbv)
    | exact trivial
    | refine And.intro ?_ ?_
    | refine orf fun _ => ?_
    | refine ort fun _ => ?_)
  all_goals first | (show L _ _ _; skip) | (clear hL hfs zq Z hq; subst hA hF hG0 hO; simp only [Cg.std, Ar.std] at * <;> grind [stdCmp]; done)
  rename_i hx
  have hN : N = inA n := by
    have h := hst.2.2.2.2
    clear hL hfs zq Z hq hst
    subst hA hF hG0 hO
    simp only [Cg.std, Ar.std] at *
    grind [stdCmp]
  clear hx hst hq hO
  subst hL
  refine loop_z (cx_ok hfs) (q2Q n l) (q2I n l N) (q2M) q2R ⟨1, [], A.repE 65 [D.bool false]⟩ ?_ ?_ ?_
  · subst hA; exact ⟨Int.le_refl 1, show (1 : Int) ≤ 65 by decide, rfl, rfl⟩
  · cbv
    repeat' (first | exact trivial | exact rfl | refine And.intro ?_ ?_)
  rintro ⟨i, o, M0⟩ hq U hU
  have hst := q2_all hq
  rw [← hN] at hst
  subst hA
  generalize hA : Ar.std = A
  generalize hL : Lp _ _ _ = L
  refine cd_close zq ?_
  repeat' (first
    | (refine z_open zq ?_; try dsimp only)
    | refine cd_seq zq ?_ (lp_mono hL)
    | refine cd_blk zq ?_
    | refine cd_ret ?_
    | refine cd_skip ?_
    | refine cd_exit ?_
    | refine cd_loop ?_
    | refine cd_cond rfl ?_
    | refine cd_condT rfl ?_
    | refine cd_condF rfl ?_
    | (refine Cd.mk ?_; cbv)
    | (refine Ends1.mk ?_; cbv)
    | (refine Fin1.mk ?_; cbv)
    | exact trivial
    | refine And.intro ?_ ?_
    | refine orf fun _ => ?_
    | refine ort fun _ => ?_)
  all_goals first | (show L _ _ _; skip) | (clear hL hfs zq Z hq; subst hA hF hG0 hU; simp only [Cg.std, SpQ.Sq.std, Ar.std] at * <;> grind [stdCmp]; done)
  rename_i hx1 hx2
  have hi : i ≤ 64 ∧ rb (N.getD i.toNat []) 0 = true ∧ ¬ rb (M0.getD i.toNat []) 0 = true := by
    clear hL hfs zq Z hq hst
    subst hA hF hG0 hU
    simp only [Cg.std, Ar.std] at *
    grind [stdCmp]
  clear hx1 hx2
  subst hL
  refine loop_z (cx_ok hfs) (q3Q n l i M0) (q3I n l N o (G0.r_rea l i) i) (q3M) q3R ⟨1, [], M0⟩ ?_ ?_ ?_
  · exact ⟨Int.le_refl 1, show (1 : Int) ≤ 65 by decide, rfl, rfl⟩
  · cbv
    repeat' (first | exact trivial | exact rfl | refine And.intro ?_ ?_)
  rintro ⟨k, p, M⟩ hq3 V hV
  have hs3 := q3_all hq hi.1 (by rw [← hN]; exact hi.2) hq3
  rw [← hN] at hs3
  subst hA
  generalize hA : Ar.std = A
  generalize hL : Lp _ _ _ = L
  refine cd_close zq ?_
  repeat' (first
    | (refine z_open zq ?_; try dsimp only)
    | refine cd_seq zq ?_ (lp_mono hL)
    | refine cd_blk zq ?_
    | refine cd_ret ?_
    | refine cd_skip ?_
    | refine cd_exit ?_
    | refine cd_loop ?_
    | refine cd_cond rfl ?_
    | refine cd_condT rfl ?_
    | refine cd_condF rfl ?_
    | (refine Cd.mk ?_; cbv)
    | (refine Ends1.mk ?_; cbv)
    | (refine Fin1.mk ?_; cbv)
    | exact trivial
    | refine And.intro ?_ ?_
    | refine orf fun _ => ?_
    | refine ort fun _ => ?_)
  all_goals (clear hL hfs zq Z hq hq3; subst hA hF hG0 hU hV; simp only [Cg.std, SpQ.Sq.std, Ar.std] at * <;> grind [stdCmp]; done)
theorem ok_rparts : ConOk Try.prog 11 (c_rparts Cg.std) := by
  refine con_of (FsOk.cons ok_reach FsOk.nil rfl) Try.func11 rfl rfl fun xs h p hp => ?_
  unfold c_rparts at hp
  split at hp
  · cases hp
    exact ⟨lee_le rfl, fun hC _ => @x_rparts _ _ hC⟩
  · cases hp

def c_lhas (F : Cg) : Con := fun xs h => match xs, h with
  | [.one (.sl none (.recs (.int .i64 (.int .i64 (.int .i64 .nil))) l)), .agg [.val (.int .i64 e_a), .val (.int .i64 e_b), .val (.int .i64 e_w)]], [] => some ⟨F.g_ok l = true, .sa (B (F.g_hs l e_a e_b e_w)), [], [Any, Any]⟩
  | _, _ => none
end Go.Proofs.Ytakebkfhigadiaa.CgR
