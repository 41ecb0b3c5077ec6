/-
  Sets that only grow together, as lists: up leads from a number to a lesser one of its set; what the document tells is each number's least. No condition.
-/
import Derived.Test.YtodglgdenjjjgaaRyZ
namespace Go.Proofs.Ytodglgdenjjjgaa.JoS
open Go Go.Proofs.Ytodglgdenjjjgaa.Ry

abbrev ix (l : List Int) (i : Int) : Int := l.getD i.toNat 0
theorem ix_set (l : List Int) (i j v : Int) (hi : 0 ≤ i) (hj : 0 ≤ j) (hl : j < l.length) : ix (l.set j.toNat v) i = if i = j then v else ix l i := by
  unfold ix
  rw [List.getD_eq_getElem?_getD, List.getD_eq_getElem?_getD]
  by_cases h : i = j
  · subst h
    rw [List.getElem?_set_self (by omega)]
    simp
  · rw [List.getElem?_set_ne (by omega)]
    simp [h]
/-- The document's sets: each number's least. -/
structure WOk (W : List Int) : Prop where
  pos : 1 ≤ W.length
  lo : ∀ i : Int, 1 ≤ i → i < W.length → 1 ≤ ix W i
  hi : ∀ i : Int, 1 ≤ i → i < W.length → ix W i ≤ i
  fix : ∀ i : Int, 1 ≤ i → i < W.length → ix W (ix W i) = ix W i
/-- What leads up does so within the sets. -/
structure Up (u W : List Int) : Prop where
  len : u.length = W.length
  lo : ∀ i : Int, 1 ≤ i → i < W.length → 1 ≤ ix u i
  hi : ∀ i : Int, 1 ≤ i → i < W.length → ix u i ≤ i
  w : ∀ i : Int, 1 ≤ i → i < W.length → ix W (ix u i) = ix W i
  fix : ∀ i : Int, 1 ≤ i → i < W.length → (ix u i = i ↔ ix W i = i)
theorem up_two {u W : List Int} (h : Up u W) {a : Int} (h1 : 1 ≤ a) (h2 : a < W.length) (hne : ix u a ≠ a) : 1 ≤ ix u (ix u a) ∧ ix u (ix u a) < a ∧ ix W (ix u (ix u a)) = ix W a ∧ Up (u.set a.toNat (ix u (ix u a))) W := by
  have l1 := h.lo a h1 h2
  have l2 := h.hi a h1 h2
  have l3 := h.lo (ix u a) l1 (by omega)
  have l4 := h.hi (ix u a) l1 (by omega)
  have l5 := (h.w (ix u a) l1 (by omega)).trans (h.w a h1 h2)
  refine ⟨l3, by omega, l5, by rw [List.length_set]; exact h.len, fun i i1 i2 => ?_, fun i i1 i2 => ?_, fun i i1 i2 => ?_, fun i i1 i2 => ?_⟩ <;>
    rw [ix_set _ _ _ _ (by omega) (by omega) (by rw [h.len]; exact h2)] <;> split
  · exact l3
  · exact h.lo i i1 i2
  · omega
  · exact h.hi i i1 i2
  · rename_i e
    rw [e]
    exact l5
  · exact h.w i i1 i2
  · rename_i e
    subst e
    have : ¬ ix W i = i := fun q => hne ((h.fix i h1 h2).2 q)
    constructor
    · intro q; omega
    · intro q; exact absurd q this
  · exact h.fix i i1 i2
/-- The way up, cut short as it is gone. -/
def lsN : Nat → List Int → Int → List Int
  | 0, u, _ => u
  | k + 1, u, a => if ix u a = a then u else lsN k (u.set a.toNat (ix u (ix u a))) (ix u (ix u a))
def lsU (u : List Int) (a : Int) : List Int := lsN a.toNat u a
theorem ls_more {W : List Int} : ∀ (k j : Nat) (u : List Int) (a : Int), Up u W → 1 ≤ a → a < W.length → a ≤ k → a ≤ j → lsN k u a = lsN j u a
  | 0, _, _, _, _, h1, _, h3, _ => by omega
  | _, 0, _, _, _, h1, _, _, h4 => by omega
  | k + 1, j + 1, u, a, h, h1, h2, h3, h4 => by
    unfold lsN
    split
    · rfl
    · rename_i hne
      obtain ⟨q1, q2, _, q4⟩ := up_two h h1 h2 hne
      exact ls_more k j _ _ q4 q1 (by omega) (by omega) (by omega)
theorem ls_up {W : List Int} : ∀ (k : Nat) (u : List Int) (a : Int), Up u W → 1 ≤ a → a < W.length → Up (lsN k u a) W
  | 0, _, _, h, _, _ => h
  | k + 1, u, a, h, h1, h2 => by
    unfold lsN
    split
    · exact h
    · rename_i hne
      obtain ⟨q1, q2, _, q4⟩ := up_two h h1 h2 hne
      exact ls_up k _ _ q4 q1 (by omega)
/-- Whether a number is one of them. -/
def has (n : Int) (a : Int) : Bool := decide (1 ≤ a ∧ a < n)
/-- How often a number is a least one. -/
def cnt (W : List Int) (r : Int) : Nat := (W.drop 1).countP fun x => decide (x = r)
/-- Sets are joined. -/
def join (W : List Int) (lo hi : Int) : List Int := W.map fun x => if x = hi then lo else x
theorem ix_map (W : List Int) (f : Int → Int) (i : Int) (h0 : 0 ≤ i) (h : i < W.length) : ix (W.map f) i = f (ix W i) := by
  unfold ix
  rw [List.getD_eq_getElem?_getD, List.getD_eq_getElem?_getD, List.getElem?_map, List.getElem?_eq_getElem (by omega)]
  rfl
theorem join_up {u W : List Int} (hu : Up u W) (hw : WOk W) {lo hi : Int} (h1 : 1 ≤ lo) (h2 : lo < hi) (h3 : hi < W.length) (flo : ix W lo = lo) (fhi : ix W hi = hi) : Up (u.set hi.toNat lo) (join W lo hi) ∧ WOk (join W lo hi) := by
  have hlen : (join W lo hi).length = W.length := by unfold join; rw [List.length_map]
  have hix : ∀ i : Int, 0 ≤ i → i < W.length → ix (join W lo hi) i = if ix W i = hi then lo else ix W i := fun i h0 h => ix_map W _ i h0 h
  have jlo : ix (join W lo hi) lo = lo := by
    rw [hix lo (by omega) (by omega), flo]
    split <;> omega
  refine ⟨⟨by rw [List.length_set, hlen]; exact hu.len, fun i i1 i2 => ?_, fun i i1 i2 => ?_, fun i i1 i2 => ?_, fun i i1 i2 => ?_⟩, ⟨by rw [hlen]; exact hw.pos, fun i i1 i2 => ?_, fun i i1 i2 => ?_, fun i i1 i2 => ?_⟩⟩
  · rw [hlen] at i2
    rw [ix_set _ _ _ _ (by omega) (by omega) (by rw [hu.len]; exact h3)]
    split
    · exact h1
    · exact hu.lo i i1 i2
  · rw [hlen] at i2
    rw [ix_set _ _ _ _ (by omega) (by omega) (by rw [hu.len]; exact h3)]
    split
    · omega
    · exact hu.hi i i1 i2
  · rw [hlen] at i2
    rw [ix_set _ _ _ _ (by omega) (by omega) (by rw [hu.len]; exact h3)]
    split
    · rename_i e
      subst e
      rw [jlo, hix i (by omega) i2, fhi]
      simp
    · have l1 := hu.lo i i1 i2
      have l2 := hu.hi i i1 i2
      rw [hix _ (by omega) (by omega), hix i (by omega) i2, hu.w i i1 i2]
  · rw [hlen] at i2
    rw [ix_set _ _ _ _ (by omega) (by omega) (by rw [hu.len]; exact h3), hix i (by omega) i2]
    have l1 := hw.hi i i1 i2
    split
    · rename_i e
      subst e
      rw [fhi]
      simp
    · rename_i e
      have f := hu.fix i i1 i2
      split
      · rename_i e2
        constructor
        · intro q
          have := f.1 q
          omega
        · intro q
          omega
      · exact f
  · rw [hlen] at i2
    rw [hix i (by omega) i2]
    split
    · exact h1
    · exact hw.lo i i1 i2
  · rw [hlen] at i2
    have := hw.hi i i1 i2
    rw [hix i (by omega) i2]
    split
    · omega
    · exact this
  · rw [hlen] at i2
    have l1 := hw.lo i i1 i2
    have l2 := hw.hi i i1 i2
    have l3 := hw.fix i i1 i2
    rw [hix i (by omega) i2]
    split
    · exact jlo
    · rename_i e
      rw [hix _ (by omega) (by omega), l3, if_neg e]
/-- How many sets there are. -/
def sets (W : List Int) : Nat := (List.range W.length).countP fun i : Nat => decide (1 ≤ (i : Int) ∧ ix W i = i)
/-- How many numbers a set has. -/
def size (W : List Int) (r : Int) : Nat := (List.range W.length).countP fun i : Nat => decide (1 ≤ (i : Int) ∧ ix W i = r)
theorem countP_split {α : Type} (p q r : α → Bool) (l : List α) (h : ∀ x ∈ l, p x = (q x || r x)) (h2 : ∀ x ∈ l, ¬ (q x = true ∧ r x = true)) : l.countP p = l.countP q + l.countP r := by
  induction l with
  | nil => rfl
  | cons x l ih =>
    have ih := ih (fun y hy => h y (List.mem_cons_of_mem _ hy)) (fun y hy => h2 y (List.mem_cons_of_mem _ hy))
    have e := h x (List.mem_cons_self ..)
    have e2 := h2 x (List.mem_cons_self ..)
    rw [List.countP_cons, List.countP_cons, List.countP_cons, ih, e]
    cases hq : q x <;> cases hr : r x <;> simp_all <;> omega
theorem join_size {W : List Int} {lo hi : Int} (h1 : 1 ≤ lo) (h2 : lo < hi) (r : Int) : size (join W lo hi) r = if r = lo then size W lo + size W hi else if r = hi then 0 else size W r := by
  have hlen : (join W lo hi).length = W.length := by unfold join; rw [List.length_map]
  have hix : ∀ i : Nat, i < W.length → ix (join W lo hi) i = if ix W i = hi then lo else ix W i := fun i h => ix_map W _ i (by omega) (by omega)
  unfold size
  rw [hlen]
  split
  · rename_i e
    subst e
    refine countP_split _ _ _ _ (fun i hi' => ?_) (fun i hi' => ?_)
    · rw [hix i (List.mem_range.1 hi'), Bool.eq_iff_iff]
      simp only [decide_eq_true_eq, Bool.or_eq_true]
      split <;> omega
    · simp only [decide_eq_true_eq]
      omega
  · rename_i e
    split
    · rename_i e2
      subst e2
      rw [List.countP_eq_zero]
      intro i hi'
      rw [hix i (List.mem_range.1 hi')]
      simp only [decide_eq_true_eq]
      split <;> omega
    · rename_i e2
      apply List.countP_congr
      intro i hi'
      rw [hix i (List.mem_range.1 hi')]
      simp only [decide_eq_true_eq]
      split <;> omega
theorem join_sets {W : List Int} (hw : WOk W) {lo hi : Int} (h1 : 1 ≤ lo) (h2 : lo < hi) (h3 : hi < W.length) (fhi : ix W hi = hi) : sets (join W lo hi) + 1 = sets W := by
  have hlen : (join W lo hi).length = W.length := by unfold join; rw [List.length_map]
  have hix : ∀ i : Nat, i < W.length → ix (join W lo hi) i = if ix W i = hi then lo else ix W i := fun i h => ix_map W _ i (by omega) (by omega)
  unfold sets
  rw [hlen]
  have one : (List.range W.length).countP (fun i : Nat => decide ((i : Int) = hi)) = 1 := by
    have e : (List.range W.length).countP (fun i : Nat => decide ((i : Int) = hi)) = (List.range W.length).count hi.toNat := by
      unfold List.count
      apply List.countP_congr
      intro i _
      simp only [decide_eq_true_eq, beq_iff_eq]
      omega
    rw [e, List.count_range]
    have : hi.toNat < W.length := by omega
    simp [this]
  rw [← one]
  refine (countP_split _ _ _ _ (fun i hi' => ?_) (fun i hi' => ?_)).symm
  · rw [hix i (List.mem_range.1 hi'), Bool.eq_iff_iff]
    simp only [decide_eq_true_eq, Bool.or_eq_true]
    have hb : 1 ≤ (i : Int) → ix W i ≤ i := fun q => hw.hi i q (by have := List.mem_range.1 hi'; omega)
    by_cases hz : (i : Int) = hi
    · rw [hz, fhi]
      simp
      omega
    · split <;> omega
  · rw [hix i (List.mem_range.1 hi')]
    simp only [decide_eq_true_eq]
    rintro ⟨q1, q2⟩
    rw [q2, fhi] at q1
    simp at q1
    omega
end Go.Proofs.Ytodglgdenjjjgaa.JoS
