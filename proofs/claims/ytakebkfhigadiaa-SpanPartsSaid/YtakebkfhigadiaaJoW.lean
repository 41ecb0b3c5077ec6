
/-
  What joinings keep, and what sizes make up. No condition.
-/
import Derived.Test.YtakebkfhigadiaaRyZ
import Derived.Test.YtakebkfhigadiaaRyOp
namespace Go.Proofs.Ytakebkfhigadiaa.JoS
open Go Go.Proofs.Ytakebkfhigadiaa.Ry

abbrev ix (l : List Int) (i : Int) : Int := l.getD i.toNat 0
theorem ix_set (l : List Int) (i j v : Int) (hi : 0 ≤ i) (hj : 0 ≤ j) (hl : j < l.length) : ix (l.set j.toNat v) i = if i = j then v else ix l i := by
  unfold ix
  rw [List.getD_eq_getElem?_getD, List.getD_eq_getElem?_getD]
  by_cases h : i = j
  · subst h
    rw [List.getElem?_set_self (by omega)]
    simp
  · rw [List.getElem?_set_ne (by omega)]
    simp [h]
/-- The document's sets: each number's least. -/
structure WOk (W : List Int) : Prop where
  pos : 1 ≤ W.length
  lo : ∀ i : Int, 1 ≤ i → i < W.length → 1 ≤ ix W i
  hi : ∀ i : Int, 1 ≤ i → i < W.length → ix W i ≤ i
  fix : ∀ i : Int, 1 ≤ i → i < W.length → ix W (ix W i) = ix W i
/-- What leads up does so within the sets. -/
structure Up (u W : List Int) : Prop where
  len : u.length = W.length
  lo : ∀ i : Int, 1 ≤ i → i < W.length → 1 ≤ ix u i
  hi : ∀ i : Int, 1 ≤ i → i < W.length → ix u i ≤ i
  w : ∀ i : Int, 1 ≤ i → i < W.length → ix W (ix u i) = ix W i
  fix : ∀ i : Int, 1 ≤ i → i < W.length → (ix u i = i ↔ ix W i = i)
theorem up_two {u W : List Int} (h : Up u W) {a : Int} (h1 : 1 ≤ a) (h2 : a < W.length) (hne : ix u a ≠ a) : 1 ≤ ix u (ix u a) ∧ ix u (ix u a) < a ∧ ix W (ix u (ix u a)) = ix W a ∧ Up (u.set a.toNat (ix u (ix u a))) W := by
  have l1 := h.lo a h1 h2
  have l2 := h.hi a h1 h2
  have l3 := h.lo (ix u a) l1 (by omega)
  have l4 := h.hi (ix u a) l1 (by omega)
  have l5 := (h.w (ix u a) l1 (by omega)).trans (h.w a h1 h2)
  refine ⟨l3, by omega, l5, by rw [List.length_set]; exact h.len, fun i i1 i2 => ?_, fun i i1 i2 => ?_, fun i i1 i2 => ?_, fun i i1 i2 => ?_⟩ <;>
    rw [ix_set _ _ _ _ (by omega) (by omega) (by rw [h.len]; exact h2)] <;> split
  · exact l3
  · exact h.lo i i1 i2
  · omega
  · exact h.hi i i1 i2
  · rename_i e
    rw [e]
    exact l5
  · exact h.w i i1 i2
  · rename_i e
    subst e
    have : ¬ ix W i = i := fun q => hne ((h.fix i h1 h2).2 q)
    constructor
    · intro q; omega
    · intro q; exact absurd q this
  · exact h.fix i i1 i2
/-- The way up, cut short as it is gone. -/
def lsN : Nat → List Int → Int → List Int
  | 0, u, _ => u
  | k + 1, u, a => if ix u a = a then u else lsN k (u.set a.toNat (ix u (ix u a))) (ix u (ix u a))
def lsU (u : List Int) (a : Int) : List Int := lsN a.toNat u a
theorem ls_more {W : List Int} : ∀ (k j : Nat) (u : List Int) (a : Int), Up u W → 1 ≤ a → a < W.length → a ≤ k → a ≤ j → lsN k u a = lsN j u a
  | 0, _, _, _, _, h1, _, h3, _ => by omega
  | _, 0, _, _, _, h1, _, _, h4 => by omega
  | k + 1, j + 1, u, a, h, h1, h2, h3, h4 => by
    unfold lsN
    split
    · rfl
    · rename_i hne
      obtain ⟨q1, q2, _, q4⟩ := up_two h h1 h2 hne
      exact ls_more k j _ _ q4 q1 (by omega) (by omega) (by omega)
theorem ls_up {W : List Int} : ∀ (k : Nat) (u : List Int) (a : Int), Up u W → 1 ≤ a → a < W.length → Up (lsN k u a) W
  | 0, _, _, h, _, _ => h
  | k + 1, u, a, h, h1, h2 => by
    unfold lsN
    split
    · exact h
    · rename_i hne
      obtain ⟨q1, q2, _, q4⟩ := up_two h h1 h2 hne
      exact ls_up k _ _ q4 q1 (by omega)
/-- Whether a number is one of them. -/
def has (n : Int) (a : Int) : Bool := decide (1 ≤ a ∧ a < n)
/-- How often a number is a least one. -/
def cnt (W : List Int) (r : Int) : Nat := (W.drop 1).countP fun x => decide (x = r)
/-- Sets are joined. -/
def join (W : List Int) (lo hi : Int) : List Int := W.map fun x => if x = hi then lo else x
theorem ix_map (W : List Int) (f : Int → Int) (i : Int) (h0 : 0 ≤ i) (h : i < W.length) : ix (W.map f) i = f (ix W i) := by
  unfold ix
  rw [List.getD_eq_getElem?_getD, List.getD_eq_getElem?_getD, List.getElem?_map, List.getElem?_eq_getElem (by omega)]
  rfl
theorem join_up {u W : List Int} (hu : Up u W) (hw : WOk W) {lo hi : Int} (h1 : 1 ≤ lo) (h2 : lo < hi) (h3 : hi < W.length) (flo : ix W lo = lo) (fhi : ix W hi = hi) : Up (u.set hi.toNat lo) (join W lo hi) ∧ WOk (join W lo hi) := by
  have hlen : (join W lo hi).length = W.length := by unfold join; rw [List.length_map]
  have hix : ∀ i : Int, 0 ≤ i → i < W.length → ix (join W lo hi) i = if ix W i = hi then lo else ix W i := fun i h0 h => ix_map W _ i h0 h
  have jlo : ix (join W lo hi) lo = lo := by
    rw [hix lo (by omega) (by omega), flo]
    split <;> omega
  refine ⟨⟨by rw [List.length_set, hlen]; exact hu.len, fun i i1 i2 => ?_, fun i i1 i2 => ?_, fun i i1 i2 => ?_, fun i i1 i2 => ?_⟩, ⟨by rw [hlen]; exact hw.pos, fun i i1 i2 => ?_, fun i i1 i2 => ?_, fun i i1 i2 => ?_⟩⟩
  · rw [hlen] at i2
    rw [ix_set _ _ _ _ (by omega) (by omega) (by rw [hu.len]; exact h3)]
    split
    · exact h1
    · exact hu.lo i i1 i2
  · rw [hlen] at i2
    rw [ix_set _ _ _ _ (by omega) (by omega) (by rw [hu.len]; exact h3)]
    split
    · omega
    · exact hu.hi i i1 i2
  · rw [hlen] at i2
    rw [ix_set _ _ _ _ (by omega) (by omega) (by rw [hu.len]; exact h3)]
    split
    · rename_i e
      subst e
      rw [jlo, hix i (by omega) i2, fhi]
      simp
    · have l1 := hu.lo i i1 i2
      have l2 := hu.hi i i1 i2
      rw [hix _ (by omega) (by omega), hix i (by omega) i2, hu.w i i1 i2]
  · rw [hlen] at i2
    rw [ix_set _ _ _ _ (by omega) (by omega) (by rw [hu.len]; exact h3), hix i (by omega) i2]
    have l1 := hw.hi i i1 i2
    split
    · rename_i e
      subst e
      rw [fhi]
      simp
    · rename_i e
      have f := hu.fix i i1 i2
      split
      · rename_i e2
        constructor
        · intro q
          have := f.1 q
          omega
        · intro q
          omega
      · exact f
  · rw [hlen] at i2
    rw [hix i (by omega) i2]
    split
    · exact h1
    · exact hw.lo i i1 i2
  · rw [hlen] at i2
    have := hw.hi i i1 i2
    rw [hix i (by omega) i2]
    split
    · omega
    · exact this
  · rw [hlen] at i2
    have l1 := hw.lo i i1 i2
    have l2 := hw.hi i i1 i2
    have l3 := hw.fix i i1 i2
    rw [hix i (by omega) i2]
    split
    · exact jlo
    · rename_i e
      rw [hix _ (by omega) (by omega), l3, if_neg e]
/-- How many sets there are. -/
def sets (W : List Int) : Nat := (List.range W.length).countP fun i : Nat => decide (1 ≤ (i : Int) ∧ ix W i = i)
/-- How many numbers a set has. -/
def size (W : List Int) (r : Int) : Nat := (List.range W.length).countP fun i : Nat => decide (1 ≤ (i : Int) ∧ ix W i = r)
theorem countP_split {α : Type} (p q r : α → Bool) (l : List α) (h : ∀ x ∈ l, p x = (q x || r x)) (h2 : ∀ x ∈ l, ¬ (q x = true ∧ r x = true)) : l.countP p = l.countP q + l.countP r := by
  induction l with
  | nil => rfl
  | cons x l ih =>
    have ih := ih (fun y hy => h y (List.mem_cons_of_mem _ hy)) (fun y hy => h2 y (List.mem_cons_of_mem _ hy))
    have e := h x (List.mem_cons_self ..)
    have e2 := h2 x (List.mem_cons_self ..)
    rw [List.countP_cons, List.countP_cons, List.countP_cons, ih, e]
    cases hq : q x <;> cases hr : r x <;> simp_all <;> omega
theorem join_size {W : List Int} {lo hi : Int} (h1 : 1 ≤ lo) (h2 : lo < hi) (r : Int) : size (join W lo hi) r = if r = lo then size W lo + size W hi else if r = hi then 0 else size W r := by
  have hlen : (join W lo hi).length = W.length := by unfold join; rw [List.length_map]
  have hix : ∀ i : Nat, i < W.length → ix (join W lo hi) i = if ix W i = hi then lo else ix W i := fun i h => ix_map W _ i (by omega) (by omega)
  unfold size
  rw [hlen]
  split
  · rename_i e
    subst e
    refine countP_split _ _ _ _ (fun i hi' => ?_) (fun i hi' => ?_)
    · rw [hix i (List.mem_range.1 hi'), Bool.eq_iff_iff]
      simp only [decide_eq_true_eq, Bool.or_eq_true]
      split <;> omega
    · simp only [decide_eq_true_eq]
      omega
  · rename_i e
    split
    · rename_i e2
      subst e2
      rw [List.countP_eq_zero]
      intro i hi'
      rw [hix i (List.mem_range.1 hi')]
      simp only [decide_eq_true_eq]
      split <;> omega
    · rename_i e2
      apply List.countP_congr
      intro i hi'
      rw [hix i (List.mem_range.1 hi')]
      simp only [decide_eq_true_eq]
      split <;> omega
theorem join_sets {W : List Int} (hw : WOk W) {lo hi : Int} (h1 : 1 ≤ lo) (h2 : lo < hi) (h3 : hi < W.length) (fhi : ix W hi = hi) : sets (join W lo hi) + 1 = sets W := by
  have hlen : (join W lo hi).length = W.length := by unfold join; rw [List.length_map]
  have hix : ∀ i : Nat, i < W.length → ix (join W lo hi) i = if ix W i = hi then lo else ix W i := fun i h => ix_map W _ i (by omega) (by omega)
  unfold sets
  rw [hlen]
  have one : (List.range W.length).countP (fun i : Nat => decide ((i : Int) = hi)) = 1 := by
    have e : (List.range W.length).countP (fun i : Nat => decide ((i : Int) = hi)) = (List.range W.length).count hi.toNat := by
      unfold List.count
      apply List.countP_congr
      intro i _
      simp only [decide_eq_true_eq, beq_iff_eq]
      omega
    rw [e, List.count_range]
    have : hi.toNat < W.length := by omega
    simp [this]
  rw [← one]
  refine (countP_split _ _ _ _ (fun i hi' => ?_) (fun i hi' => ?_)).symm
  · rw [hix i (List.mem_range.1 hi'), Bool.eq_iff_iff]
    simp only [decide_eq_true_eq, Bool.or_eq_true]
    have hb : 1 ≤ (i : Int) → ix W i ≤ i := fun q => hw.hi i q (by have := List.mem_range.1 hi'; omega)
    by_cases hz : (i : Int) = hi
    · rw [hz, fhi]
      simp
      omega
    · split <;> omega
  · rw [hix i (List.mem_range.1 hi')]
    simp only [decide_eq_true_eq]
    rintro ⟨q1, q2⟩
    rw [q2, fhi] at q1
    simp at q1
    omega
end Go.Proofs.Ytakebkfhigadiaa.JoS
namespace Go.Proofs.Ytakebkfhigadiaa.JoR
open Go Go.Proofs.Ytakebkfhigadiaa.Ry Go.Proofs.Ytakebkfhigadiaa.JoS

def Va (u : List Int) : Prop := ∀ i : Int, 1 ≤ i → i < u.length → 1 ≤ ix u i ∧ ix u i ≤ i
def okU (u : List Int) : Bool := decide (1 ≤ u.length ∧ u.length ≤ 5000) && (List.range u.length).all fun i : Nat => decide (i = 0) || decide (1 ≤ ix u i ∧ ix u i ≤ i)
theorem okU_iff {u : List Int} : okU u = true ↔ (1 ≤ u.length ∧ u.length ≤ 5000) ∧ Va u := by
  unfold okU Va
  simp only [Bool.and_eq_true, decide_eq_true_eq, List.all_eq_true, Bool.or_eq_true, List.mem_range]
  refine and_congr_right fun _ => ⟨fun h i h1 h2 => ?_, fun h i hi => ?_⟩
  · have := h i.toNat (by omega)
    have e : ((i.toNat : Nat) : Int) = i := by omega
    rw [e] at this
    omega
  · by_cases h0 : i = 0
    · exact .inl h0
    · exact .inr (h i (by omega) (by omega))
theorem va_two {u : List Int} (h : Va u) {a : Int} (h1 : 1 ≤ a) (h2 : a < u.length) (hne : ix u a ≠ a) : 1 ≤ ix u (ix u a) ∧ ix u (ix u a) < a ∧ Va (u.set a.toNat (ix u (ix u a))) := by
  obtain ⟨l1, l2⟩ := h a h1 h2
  obtain ⟨l3, l4⟩ := h (ix u a) l1 (by omega)
  refine ⟨l3, by omega, fun i i1 i2 => ?_⟩
  rw [List.length_set] at i2
  rw [ix_set _ _ _ _ (by omega) (by omega) h2]
  split
  · omega
  · exact h i i1 i2
def lsA : Nat → List Int → Int → Int
  | 0, _, a => a
  | k + 1, u, a => if ix u a = a then a else lsA k (u.set a.toNat (ix u (ix u a))) (ix u (ix u a))
theorem ls_same : ∀ (k j : Nat) (u : List Int) (a : Int), Va u → 1 ≤ a → a < u.length → a ≤ k → a ≤ j → lsN k u a = lsN j u a ∧ lsA k u a = lsA j u a
  | 0, _, _, _, _, h1, _, h3, _ => by omega
  | _, 0, _, _, _, h1, _, _, h4 => by omega
  | k + 1, j + 1, u, a, h, h1, h2, h3, h4 => by
    unfold lsN lsA
    split
    · exact ⟨rfl, rfl⟩
    · rename_i hne
      obtain ⟨q1, q2, q4⟩ := va_two h h1 h2 hne
      exact ls_same k j _ _ q4 q1 (by rw [List.length_set]; omega) (by omega) (by omega)
theorem ls_va : ∀ (k : Nat) (u : List Int) (a : Int), Va u → 1 ≤ a → a < u.length → Va (lsN k u a) ∧ (lsN k u a).length = u.length
  | 0, _, _, h, _, _ => ⟨h, rfl⟩
  | k + 1, u, a, h, h1, h2 => by
    unfold lsN
    split
    · exact ⟨h, rfl⟩
    · rename_i hne
      obtain ⟨q1, q2, q4⟩ := va_two h h1 h2 hne
      have := ls_va k _ _ q4 q1 (by rw [List.length_set]; omega)
      rw [List.length_set] at this
      exact this
theorem ls_le : ∀ (k : Nat) (u : List Int) (a : Int), Va u → 1 ≤ a → a < u.length → 1 ≤ lsA k u a ∧ lsA k u a ≤ a
  | 0, _, _, _, h1, _ => ⟨h1, Int.le_refl _⟩
  | k + 1, u, a, h, h1, h2 => by
    unfold lsA
    split
    · exact ⟨h1, Int.le_refl _⟩
    · rename_i hne
      obtain ⟨q1, q2, q4⟩ := va_two h h1 h2 hne
      have := ls_le k _ _ q4 q1 (by rw [List.length_set]; omega)
      omega
def hasB (u : List Int) (a : Int) : Bool := decide (1 ≤ a ∧ a < u.length)
def lstI (u : List Int) (a : Int) : Int := if hasB u a = true then lsA a.toNat u a else 0
def lstU (u : List Int) (a : Int) : List Int := if hasB u a = true then lsN a.toNat u a else u
theorem lst_ok {u : List Int} (a : Int) (h : okU u = true) : okU (lstU u a) = true ∧ (lstU u a).length = u.length ∧ 0 ≤ lstI u a ∧ lstI u a < u.length := by
  obtain ⟨h1, h2⟩ := okU_iff.1 h
  unfold lstU lstI
  split
  · rename_i hb
    have hb := of_decide_eq_true hb
    obtain ⟨k1, k2⟩ := ls_va a.toNat u a h2 hb.1 hb.2
    have := ls_le a.toNat u a h2 hb.1 hb.2
    exact ⟨okU_iff.2 ⟨by omega, k1⟩, k2, by omega, by omega⟩
  · exact ⟨h, rfl, by omega, by omega⟩
def unX (u : List Int) (a _b : Int) : Int := lstI u a
def unY (u : List Int) (a b : Int) : Int := lstI (lstU u a) b
def unW (u : List Int) (a b : Int) : List Int := lstU (lstU u a) b
def unB (u : List Int) (a b : Int) : Bool := decide (unX u a b ≠ 0 ∧ unY u a b ≠ 0 ∧ unX u a b ≠ unY u a b)
def unLo (u : List Int) (a b : Int) : Int := if unY u a b < unX u a b then unY u a b else unX u a b
def unHi (u : List Int) (a b : Int) : Int := if unX u a b < unY u a b then unY u a b else unX u a b
def unU (u : List Int) (a b : Int) : List Int := if unB u a b = true then (unW u a b).set (unHi u a b).toNat (unLo u a b) else unW u a b
def unZ (u z : List Int) (a b : Int) : List Int := if unB u a b = true then z.set (unLo u a b).toNat (stdBin .add .i64 (ix z (unLo u a b)) (ix z (unHi u a b))) else z
def unS (u : List Int) (s : Int) (a b : Int) : Int := if unB u a b = true then stdBin .sub .i64 s 1 else s
def okZ (u z : List Int) : Bool := okU u && decide (z.length = u.length)
def szI (u z : List Int) (a : Int) : Int := if lstI u a = 0 then 0 else ix z (lstI u a)
structure XL where
  u : List Int
  a : Int
def leQ (u0 : List Int) (a0 : Int) (y : XL) : Prop := Va y.u ∧ y.u.length = u0.length ∧ 1 ≤ y.a ∧ y.a < u0.length ∧ lsN y.a.toNat y.u y.a = lsN a0.toNat u0 a0 ∧ lsA y.a.toNat y.u y.a = lsA a0.toNat u0 a0
theorem lsN_s (k : Nat) (u : List Int) (a : Int) : lsN (k + 1) u a = if ix u a = a then u else lsN k (u.set a.toNat (ix u (ix u a))) (ix u (ix u a)) := rfl
theorem lsA_s (k : Nat) (u : List Int) (a : Int) : lsA (k + 1) u a = if ix u a = a then a else lsA k (u.set a.toNat (ix u (ix u a))) (ix u (ix u a)) := rfl
def leM (y : XL) : Nat := y.a.toNat
theorem le_step {u0 : List Int} {a0 : Int} {u : List Int} {a : Int} (h : leQ u0 a0 ⟨u, a⟩) : (¬ ix u a = a → leQ u0 a0 ⟨u.set a.toNat (ix u (ix u a)), ix u (ix u a)⟩ ∧ ix u (ix u a) < a ∧ ix (u.set a.toNat (ix u (ix u a))) a = ix u (ix u a)) ∧ (ix u a = a → u = lsN a0.toNat u0 a0 ∧ a = lsA a0.toNat u0 a0) ∧ 0 ≤ ix u a ∧ ix u a < u.length ∧ 0 ≤ ix u (ix u a) ∧ ix u (ix u a) < u.length := by
  obtain ⟨h1, h2, h3, h4, h5, h6⟩ := h
  simp only at h1 h2 h3 h4 h5 h6
  have l1 := h1 a h3 (by omega)
  have l2 := h1 (ix u a) l1.1 (by omega)
  refine ⟨fun hne => ?_, fun he => ?_, by omega, by omega, by omega, by omega⟩
  · obtain ⟨q1, q2, q4⟩ := va_two h1 h3 (by omega) hne
    have e : a.toNat = (a.toNat - 1) + 1 := by omega
    have f5 : lsN a.toNat u a = lsN (a.toNat - 1) (u.set a.toNat (ix u (ix u a))) (ix u (ix u a)) := by
      have h := lsN_s (a.toNat - 1) u a
      rw [← e, if_neg hne] at h
      exact h
    have f6 : lsA a.toNat u a = lsA (a.toNat - 1) (u.set a.toNat (ix u (ix u a))) (ix u (ix u a)) := by
      have h := lsA_s (a.toNat - 1) u a
      rw [← e, if_neg hne] at h
      exact h
    have g := ls_same (ix u (ix u a)).toNat (a.toNat - 1) (u.set a.toNat (ix u (ix u a))) (ix u (ix u a)) q4 q1 (by rw [List.length_set]; omega) (by omega) (by omega)
    refine ⟨⟨q4, by simp only [List.length_set]; exact h2, q1, by simp only; omega, ?_, ?_⟩, q2, ?_⟩
    · exact (g.1.trans f5.symm).trans h5
    · exact (g.2.trans f6.symm).trans h6
    · rw [ix_set _ _ _ _ (by omega) (by omega) (by omega)]
      simp
  · have e : a.toNat = (a.toNat - 1) + 1 := by omega
    have g5 := lsN_s (a.toNat - 1) u a
    have g6 := lsA_s (a.toNat - 1) u a
    rw [← e, if_pos he] at g5 g6
    exact ⟨g5.symm.trans h5, g6.symm.trans h6⟩

noncomputable def leI (s : Int) (z : List Int) (y : XL) : St := stOf Try.f39.ntmps [(0, .ptr 1 0), (1, .val (.int .i64 y.a))] [(1, .cells 117 [.own 2, .own 3, .val (.int .i64 s)]), (2, .row 3 (.ints .i64 y.u)), (3, .row 3 (.ints .i64 z))] [.one (.ptr 1 0), Any]
def leR (st : St) : XL := ⟨valL st.heap (cellC st 0 0), slotI st 1⟩

structure Fs where
  j_ok : List Int → Bool
  j_okz : List Int → List Int → Bool
  j_I : List Int → Int → Int
  j_U : List Int → Int → List Int
  j_B : List Int → Int → Int → Bool
  j_uU : List Int → Int → Int → List Int
  j_uZ : List Int → List Int → Int → Int → List Int
  j_uS : List Int → Int → Int → Int → Int
  j_sz : List Int → List Int → Int → Int
def Fs.std : Fs := ⟨okU, okZ, lstI, lstU, unB, unU, unZ, unS, szI⟩

def c_least (F : Fs) : Con := fun xs h => match xs, h with
  | [.one (.ptr 0 0), .one (.val (.int .i64 a))], [(0, .cells 117 [.own 1, .own 2, .val (.int .i64 s)]), (1, .row 3 (.ints .i64 u)), (2, .row 3 (.ints .i64 z))] => some ⟨F.j_ok u = true, .sa (I (F.j_I u a)), [(0, .cells 117 [.own 1, .own 2, .val (.int .i64 s)]), (1, .row 3 (.ints .i64 (F.j_U u a))), (2, .row 3 (.ints .i64 z))], [.one (.ptr 0 0), Any]⟩
  | _, _ => none
set_option maxHeartbeats 1000000 in
set_option maxRecDepth 100000 in
theorem x_least (a : Int) (s : Int) (u : List Int) (z : List Int) (hC : Fs.std.j_ok u = true) : Does [] Try.f39 [.one (.ptr 0 0), .one (.val (.int .i64 a))] [(0, .cells 117 [.own 1, .own 2, .val (.int .i64 s)]), (1, .row 3 (.ints .i64 u)), (2, .row 3 (.ints .i64 z))] ⟨Fs.std.j_ok u = true, .sa (I (Fs.std.j_I u a)), [(0, .cells 117 [.own 1, .own 2, .val (.int .i64 s)]), (1, .row 3 (.ints .i64 (Fs.std.j_U u a))), (2, .row 3 (.ints .i64 z))], [.one (.ptr 0 0), Any]⟩ := by
  intro b gv
  have hk := okU_iff.1 (show okU u = true from hC)
  have hfs := FsOk.nil
  generalize hF : Fs.std = F at hC hfs ⊢
  generalize hA : Ar.std = A
  generalize hL : Lp _ _ _ = L
  obtain ⟨Z, zq⟩ := z_all
  refine cd_open (lp_mono hL) zq rfl ?_
  repeat' (first
    | (refine z_open zq ?_; try dsimp only)
    | refine cd_seq zq ?_ (lp_mono hL)
    | refine cd_blk zq ?_
    | refine cd_ret ?_
    | refine cd_skip ?_
    | refine cd_exit ?_
    | refine cd_loop ?_
    | refine cd_cond rfl ?_
    | refine cd_condT rfl ?_
    | refine cd_condF rfl ?_
    | (refine Cd.mk ?_; cbv)
    | (refine Ends1.mk ?_; cbv)
    | (refine Fin1.mk ?_; cbv)
    | exact trivial
    | refine And.intro ?_ ?_
    | refine orf fun _ => ?_
    | refine ort fun _ => ?_)
  all_goals first | (show L _ _ _; skip) | (clear hfs hL zq Z; subst hF hA; simp only [Fs.std, Ar.std] at * <;> grind [stdCmp, lstI, lstU, hasB])
  rename_i hx
  have hb : 1 ≤ a ∧ a < u.length := by
    clear hfs hL zq Z
    subst hF hA
    simp only [Ar.std] at hx
    grind [stdCmp]
  have hu : lstU u a = lsN a.toNat u a ∧ lstI u a = lsA a.toNat u a := by
    have : hasB u a = true := decide_eq_true hb
    unfold lstU lstI
    rw [if_pos this, if_pos this]
    exact ⟨rfl, rfl⟩
  subst hL
  refine loop_z (cx_ok hfs) (leQ u a) (leI s z) leM leR ⟨u, a⟩ ?_ ?_ ?_
  · exact ⟨hk.2, rfl, hb.1, hb.2, rfl, rfl⟩
  · cbv
    repeat' (first | exact trivial | exact rfl | refine And.intro ?_ ?_)
  rintro ⟨v, c⟩ hq O hO
  have hst := le_step hq
  have hq2 := hq.2.1
  have hq3 := hq.2.2.1
  have hq4 := hq.2.2.2.1
  simp only at hq2 hq3 hq4
  subst hA
  generalize hA : Ar.std = A
  generalize hL : Lp _ _ _ = L
  refine cd_close zq ?_
  repeat' (first
    | (refine z_open zq ?_; try dsimp only)
    | refine cd_seq zq ?_ (lp_mono hL)
    | refine cd_blk zq ?_
    | refine cd_ret ?_
    | refine cd_skip ?_
    | refine cd_exit ?_
    | refine cd_loop ?_
    | refine cd_cond rfl ?_
    | refine cd_condT rfl ?_
    | refine cd_condF rfl ?_
    | (refine Cd.mk ?_; cbv)
    | (refine Ends1.mk ?_; cbv)
    | (refine Fin1.mk ?_; cbv)
    | exact trivial
    | refine And.intro ?_ ?_
    | refine orf fun _ => ?_
    | refine ort fun _ => ?_)
  all_goals (clear hL hfs zq Z; subst hA hF hO; simp only [Fs.std, Ar.std] at * <;> grind [stdCmp, leM])
theorem ok_least : ConOk Try.prog 39 (c_least Fs.std) := by
  refine con_of FsOk.nil Try.func39 rfl rfl fun xs h p hp => ?_
  unfold c_least at hp
  split at hp
  · cases hp
    exact ⟨lee_le rfl, fun hC _ => x_least _ _ _ _ hC⟩
  · cases hp

def c_unite (F : Fs) : Con := fun xs h => match xs, h with
  | [.one (.ptr 0 0), .one (.val (.int .i64 a)), .one (.val (.int .i64 d))], [(0, .cells 117 [.own 1, .own 2, .val (.int .i64 s)]), (1, .row 3 (.ints .i64 u)), (2, .row 3 (.ints .i64 z))] => some ⟨F.j_okz u z = true, .sa (B (F.j_B u a d)), [(0, .cells 117 [.own 1, .own 2, .val (.int .i64 (F.j_uS u s a d))]), (1, .row 3 (.ints .i64 (F.j_uU u a d))), (2, .row 3 (.ints .i64 (F.j_uZ u z a d)))], [.one (.ptr 0 0), Any, Any]⟩
  | _, _ => none
set_option maxHeartbeats 2000000 in
set_option maxRecDepth 100000 in
theorem x_unite (a : Int) (d : Int) (s : Int) (u : List Int) (z : List Int) (hC : Fs.std.j_okz u z = true) : Does [(39, c_least Fs.std)] Try.f41 [.one (.ptr 0 0), .one (.val (.int .i64 a)), .one (.val (.int .i64 d))] [(0, .cells 117 [.own 1, .own 2, .val (.int .i64 s)]), (1, .row 3 (.ints .i64 u)), (2, .row 3 (.ints .i64 z))] ⟨Fs.std.j_okz u z = true, .sa (B (Fs.std.j_B u a d)), [(0, .cells 117 [.own 1, .own 2, .val (.int .i64 (Fs.std.j_uS u s a d))]), (1, .row 3 (.ints .i64 (Fs.std.j_uU u a d))), (2, .row 3 (.ints .i64 (Fs.std.j_uZ u z a d)))], [.one (.ptr 0 0), Any, Any]⟩ := by
  intro b gv
  have hk : okU u = true ∧ z.length = u.length := by
    have h : okZ u z = true := hC
    simpa [okZ] using h
  have k1 := lst_ok a hk.1
  have k2 := lst_ok d k1.1
  have hfs := (FsOk.cons ok_least FsOk.nil rfl)
  generalize hF : Fs.std = F at hC hfs ⊢
  generalize hA : Ar.std = A
  generalize hL : Lp _ _ _ = L
  obtain ⟨Z, zq⟩ := z_all
  refine cd_open (lp_mono hL) zq rfl ?_
  repeat' (first
    | (refine z_open zq ?_; try dsimp only)
    | refine cd_seq zq ?_ (lp_mono hL)
    | refine cd_blk zq ?_
    | refine cd_ret ?_
    | refine cd_skip ?_
    | refine cd_exit ?_
    | refine cd_loop ?_
    | refine cd_cond rfl ?_
    | refine cd_condT rfl ?_
    | refine cd_condF rfl ?_
    | (refine Cd.mk ?_; cbv)
    | (refine Ends1.mk ?_; cbv)
    | (refine Fin1.mk ?_; cbv)
    | exact trivial
    | refine And.intro ?_ ?_
    | refine orf fun _ => ?_
    | refine ort fun _ => ?_)
  all_goals
    clear hL zq Z hfs
    subst hF hA
    simp only [Fs.std, Ar.std] at *
    try (grind [stdCmp, unB, unX, unY, unLo, unHi, unU, unZ, unS, unW])
theorem ok_unite : ConOk Try.prog 41 (c_unite Fs.std) := by
  refine con_of (FsOk.cons ok_least FsOk.nil rfl) Try.func41 rfl rfl fun xs h p hp => ?_
  unfold c_unite at hp
  split at hp
  · cases hp
    exact ⟨lee_le rfl, fun hC _ => x_unite _ _ _ _ _ hC⟩
  · cases hp

def c_sets (_ : Fs) : Con := fun xs h => match xs, h with
  | [.one (.ptr 0 0)], [(0, .cells 117 [.own 1, .own 2, .val (.int .i64 s)]), (1, .row 3 (.ints .i64 u)), (2, .row 3 (.ints .i64 z))] => some ⟨True, .sa (I s), [(0, .cells 117 [.own 1, .own 2, .val (.int .i64 s)]), (1, .row 3 (.ints .i64 u)), (2, .row 3 (.ints .i64 z))], [.one (.ptr 0 0)]⟩
  | _, _ => none
theorem kp_sets : Keeps (c_sets Fs.std) := by
  intro xs h p hp
  unfold c_sets at hp
  split at hp
  · cases hp
    rfl
  · cases hp

def c_sizef (F : Fs) : Con := fun xs h => match xs, h with
  | [.one (.ptr 0 0), .one (.val (.int .i64 a))], [(0, .cells 117 [.own 1, .own 2, .val (.int .i64 s)]), (1, .row 3 (.ints .i64 u)), (2, .row 3 (.ints .i64 z))] => some ⟨F.j_okz u z = true, .sa (I (F.j_sz u z a)), [(0, .cells 117 [.own 1, .own 2, .val (.int .i64 s)]), (1, .row 3 (.ints .i64 (F.j_U u a))), (2, .row 3 (.ints .i64 z))], [.one (.ptr 0 0), Any]⟩
  | _, _ => none
end Go.Proofs.Ytakebkfhigadiaa.JoR
namespace Go.Proofs.Ytakebkfhigadiaa.JoW
open Go Go.Proofs.Ytakebkfhigadiaa.Ry Go.Proofs.Ytakebkfhigadiaa.JoS Go.Proofs.Ytakebkfhigadiaa.JoR

theorem up_va {u W : List Int} (h : Up u W) : Va u := fun i i1 i2 => ⟨h.lo i i1 (by rw [← h.len]; exact i2), h.hi i i1 (by rw [← h.len]; exact i2)⟩
theorem up_ok {u W : List Int} (h : Up u W) (hw : WOk W) (hl : W.length ≤ 5000) : okU u = true := okU_iff.2 ⟨⟨by rw [h.len]; exact hw.pos, by rw [h.len]; exact hl⟩, up_va h⟩
theorem ls_w {W : List Int} : ∀ (k : Nat) (u : List Int) (a : Int), Up u W → 1 ≤ a → a < W.length → a ≤ k → lsA k u a = ix W a
  | 0, _, _, _, h1, _, h3 => by omega
  | k + 1, u, a, h, h1, h2, h3 => by
    rw [lsA_s]
    split
    · rename_i e
      exact ((h.fix a h1 h2).1 e).symm
    · rename_i hne
      obtain ⟨q1, q2, q3, q4⟩ := up_two h h1 h2 hne
      rw [ls_w k _ _ q4 q1 (by omega) (by omega), q3]
def lw (W : List Int) (a : Int) : Int := if 1 ≤ a ∧ a < W.length then ix W a else 0
theorem lst_w {u W : List Int} (h : Up u W) (a : Int) : lstI u a = lw W a ∧ Up (lstU u a) W := by
  unfold lstI lstU lw JoR.hasB
  rw [h.len]
  by_cases hb : 1 ≤ a ∧ a < W.length
  · rw [decide_eq_true hb, if_pos rfl, if_pos rfl, if_pos hb]
    exact ⟨ls_w _ _ _ h hb.1 hb.2 (by omega), ls_up _ _ _ h hb.1 hb.2⟩
  · rw [decide_eq_false hb, if_neg hb]
    exact ⟨rfl, h⟩
structure JInv (W : List Int) (s : Int) (u z : List Int) : Prop where
  up : Up u W
  ok : WOk W
  zl : z.length = W.length
  s : s = sets W
  z : ∀ r : Int, 1 ≤ r → r < W.length → ix W r = r → ix z r = size W r
theorem sets_le (W : List Int) : sets W ≤ W.length := by
  unfold sets
  have := List.countP_le_length (p := fun i : Nat => decide (1 ≤ (i : Int) ∧ ix W i = i)) (l := List.range W.length)
  simpa using this
theorem size_le (W : List Int) (r : Int) : size W r ≤ W.length := by
  unfold size
  have := List.countP_le_length (p := fun i : Nat => decide (1 ≤ (i : Int) ∧ ix W i = r)) (l := List.range W.length)
  simpa using this
/-- What a joining makes of the document's sets. -/
def uniW (W : List Int) (a b : Int) : List Int :=
  if lw W a ≠ 0 ∧ lw W b ≠ 0 ∧ lw W a ≠ lw W b then join W (if lw W b < lw W a then lw W b else lw W a) (if lw W a < lw W b then lw W b else lw W a) else W
theorem uni_len (W : List Int) (a b : Int) : (uniW W a b).length = W.length := by
  unfold uniW join
  split
  · rw [List.length_map]
  · rfl
theorem lw_root {W : List Int} (hw : WOk W) {a : Int} (h : lw W a ≠ 0) : 1 ≤ lw W a ∧ lw W a < W.length ∧ ix W (lw W a) = lw W a := by
  unfold lw at h ⊢
  split
  · rename_i hb
    have := hw.lo a hb.1 hb.2
    have := hw.hi a hb.1 hb.2
    exact ⟨by omega, by omega, hw.fix a hb.1 hb.2⟩
  · rename_i hb
    rw [if_neg hb] at h
    exact absurd rfl h
theorem jinv_unite {W : List Int} {s : Int} {u z : List Int} (h : JInv W s u z) (hl : W.length ≤ 5000) (a b : Int) :
    JInv (uniW W a b) (unS u s a b) (unU u a b) (unZ u z a b) ∧ (unB u a b = decide (lw W a ≠ 0 ∧ lw W b ≠ 0 ∧ lw W a ≠ lw W b)) ∧ unS u s a b = if unB u a b = true then s - 1 else s := by
  obtain ⟨h1, h2, h3, h4, h5⟩ := h
  obtain ⟨k1, k2⟩ := lst_w h1 a
  obtain ⟨k3, k4⟩ := lst_w k2 b
  have hs := sets_le W
  have hB : unB u a b = decide (lw W a ≠ 0 ∧ lw W b ≠ 0 ∧ lw W a ≠ lw W b) := by unfold unB unX unY; rw [k1, k3]
  have hS : unS u s a b = if unB u a b = true then s - 1 else s := by
    unfold unS
    split
    · rw [b_sub, wr _ (by omega) (by omega)]
    · rfl
  refine ⟨?_, hB, hS⟩
  by_cases hc : lw W a ≠ 0 ∧ lw W b ≠ 0 ∧ lw W a ≠ lw W b
  · rw [decide_eq_true hc] at hB
    obtain ⟨a1, a2, a3⟩ := lw_root h2 hc.1
    obtain ⟨b1, b2, b3⟩ := lw_root h2 hc.2.1
    have hlo : unLo u a b = if lw W b < lw W a then lw W b else lw W a := by unfold unLo unX unY; rw [k1, k3]
    have hhi : unHi u a b = if lw W a < lw W b then lw W b else lw W a := by unfold unHi unX unY; rw [k1, k3]
    have key : ∀ lo hi : Int, unLo u a b = lo → unHi u a b = hi → 1 ≤ lo → lo < hi → hi < W.length → ix W lo = lo → ix W hi = hi → JInv (join W lo hi) (unS u s a b) (unU u a b) (unZ u z a b) := by
      intro lo hi elo ehi l1 l2 l3 l4 l5
      obtain ⟨j1, j2⟩ := join_up k4 h2 l1 l2 l3 l4 l5
      have hlen : (join W lo hi).length = W.length := by unfold join; rw [List.length_map]
      have hst := join_sets h2 l1 l2 l3 l5
      refine ⟨?_, j2, ?_, ?_, fun r r1 r2 r3 => ?_⟩
      · unfold unU
        rw [if_pos hB, elo, ehi]
        exact j1
      · unfold unZ
        rw [if_pos hB, List.length_set, hlen, h3]
      · rw [hS, if_pos hB, h4]
        omega
      · rw [hlen] at r2
        have zlo := h5 lo l1 (by omega) l4
        have zhi := h5 hi (by omega) l3 l5
        have s1 := size_le W lo
        have s2 := size_le W hi
        have hne : r ≠ hi := by
          rintro rfl
          have e : ix (join W lo r) r = if ix W r = r then lo else ix W r := ix_map W _ r (by omega) (by omega)
          rw [e, if_pos l5] at r3
          omega
        unfold unZ
        rw [if_pos hB, elo, ehi, join_size l1 l2, ix_set _ _ _ _ (by omega) (by omega) (by rw [h3]; omega), zlo, zhi, b_add, wr _ (by omega) (by omega)]
        by_cases hr : r = lo
        · rw [if_pos hr, if_pos hr]
          omega
        · rw [if_neg hr, if_neg hr, if_neg hne]
          have e : ix (join W lo hi) r = if ix W r = hi then lo else ix W r := ix_map W _ r (by omega) (by omega)
          rw [e] at r3
          split at r3
          · omega
          · exact h5 r r1 r2 r3
    unfold uniW
    rw [if_pos hc]
    by_cases hab : lw W a < lw W b
    · have n : ¬ lw W b < lw W a := by omega
      rw [if_neg n] at hlo ⊢
      rw [if_pos hab] at hhi ⊢
      exact key _ _ hlo hhi a1 hab b2 a3 b3
    · have n : lw W b < lw W a := by omega
      rw [if_pos n] at hlo ⊢
      rw [if_neg hab] at hhi ⊢
      exact key _ _ hlo hhi b1 n a2 b3 a3
  · rw [decide_eq_false hc] at hB
    have hBf : ¬ unB u a b = true := by rw [hB]; decide
    unfold uniW unU unZ
    rw [if_neg hc, if_neg hBf, if_neg hBf, hS, if_neg hBf]
    exact ⟨k4, h2, h3, h4, h5⟩
/-! ## What sizes make up -/
def acc (W : List Int) (l : List Nat) : Nat → Nat
  | 0 => 0
  | k + 1 => acc W l k + if 1 ≤ (k : Int) ∧ ix W k = k then l.countP (fun i : Nat => decide (1 ≤ (i : Int) ∧ ix W i = k)) else 0
theorem acc_cons (W : List Int) (l : List Nat) (j : Nat) (hj : 1 ≤ (j : Int) → 1 ≤ ix W j ∧ ix W (ix W j) = ix W j) : ∀ k, acc W (j :: l) k = acc W l k + if 1 ≤ (j : Int) ∧ ix W j < k then 1 else 0
  | 0 => by
    unfold acc
    have : ¬ (1 ≤ (j : Int) ∧ ix W j < ((0 : Nat) : Int)) := fun h => by have := hj h.1; omega
    rw [if_neg this]
  | k + 1 => by
    unfold acc
    rw [acc_cons W l j hj k, List.countP_cons]
    by_cases h1 : 1 ≤ (j : Int)
    · obtain ⟨g1, g2⟩ := hj h1
      by_cases hk : ix W j = k
      · have r1 : 1 ≤ (k : Int) ∧ ix W k = k := by
          rw [← hk]
          exact ⟨g1, g2⟩
        have d : decide (1 ≤ (j : Int) ∧ ix W j = (k : Int)) = true := decide_eq_true ⟨h1, hk⟩
        have n1 : ¬ (1 ≤ (j : Int) ∧ ix W j < (k : Int)) := by omega
        have n2 : 1 ≤ (j : Int) ∧ ix W j < ((k + 1 : Nat) : Int) := by omega
        rw [if_pos r1, if_pos r1, d, if_neg n1, if_pos n2]
        simp
        omega
      · have d : decide (1 ≤ (j : Int) ∧ ix W j = (k : Int)) = false := decide_eq_false fun h => hk h.2
        rw [d]
        have e : (1 ≤ (j : Int) ∧ ix W j < (k : Int)) ↔ (1 ≤ (j : Int) ∧ ix W j < ((k + 1 : Nat) : Int)) := by omega
        by_cases hq : 1 ≤ (j : Int) ∧ ix W j < (k : Int)
        · rw [if_pos hq, if_pos (e.1 hq)]
          split <;> simp <;> omega
        · rw [if_neg hq, if_neg fun h => hq (e.2 h)]
          split <;> simp
    · have d : decide (1 ≤ (j : Int) ∧ ix W j = (k : Int)) = false := decide_eq_false fun h => h1 h.1
      have n1 : ¬ (1 ≤ (j : Int) ∧ ix W j < (k : Int)) := fun h => h1 h.1
      have n2 : ¬ (1 ≤ (j : Int) ∧ ix W j < ((k + 1 : Nat) : Int)) := fun h => h1 h.1
      rw [d, if_neg n1, if_neg n2]
      split <;> simp
theorem acc_nil (W : List Int) : ∀ k, acc W [] k = 0
  | 0 => rfl
  | k + 1 => by
    unfold acc
    rw [acc_nil W k]
    split <;> simp
theorem acc_list (W : List Int) (hw : WOk W) : ∀ l : List Nat, (∀ j ∈ l, j < W.length) → acc W l W.length = l.countP fun j : Nat => decide (1 ≤ (j : Int))
  | [], _ => by rw [acc_nil]; rfl
  | j :: l, h => by
    have hj := h j (List.mem_cons_self ..)
    rw [acc_cons W l j (fun g => ⟨hw.lo j g (by omega), hw.fix j g (by omega)⟩), acc_list W hw l fun i hi => h i (List.mem_cons_of_mem _ hi), List.countP_cons]
    by_cases g : 1 ≤ (j : Int)
    · have := hw.hi j g (by omega)
      rw [if_pos ⟨g, by omega⟩, decide_eq_true g]
      simp
    · rw [if_neg fun q => g q.1, decide_eq_false g]
      simp
theorem count_pos : ∀ n : Nat, (List.range n).countP (fun j : Nat => decide (1 ≤ (j : Int))) = n - 1
  | 0 => rfl
  | n + 1 => by
    rw [List.range_succ, List.countP_append, count_pos n]
    simp only [List.countP_cons, List.countP_nil]
    by_cases h : 1 ≤ (n : Int)
    · rw [decide_eq_true h]
      simp
      omega
    · rw [decide_eq_false h]
      simp
      omega
theorem acc_all (W : List Int) (hw : WOk W) : acc W (List.range W.length) W.length = W.length - 1 := by
  rw [acc_list W hw _ fun j hj => List.mem_range.1 hj, count_pos]
theorem acc_le (W : List Int) (l : List Nat) : ∀ k, acc W l k ≤ k * l.length
  | 0 => by simp [acc]
  | k + 1 => by
    unfold acc
    have := acc_le W l k
    have h2 := List.countP_le_length (p := fun i : Nat => decide (1 ≤ (i : Int) ∧ ix W i = k)) (l := l)
    rw [Nat.succ_mul]
    split <;> omega
/-! ## At the beginning -/
def iota (n : Int) : List Int := (List.range (n + 1).toNat).map fun j : Nat => (j : Int)
def ones (n : Int) : List Int := List.replicate (n + 1).toNat 1
theorem iota_ix (n i : Int) (h0 : 0 ≤ i) (h : i ≤ n) : ix (iota n) i = i := by
  unfold ix iota
  rw [List.getD_eq_getElem?_getD, List.getElem?_map, List.getElem?_range (by omega)]
  simp
  omega
theorem iota_len (n : Int) : (iota n).length = (n + 1).toNat := by simp [iota]
theorem jinv_new (n : Int) (h : 0 ≤ n) : JInv (iota n) n (iota n) (ones n) := by
  have hl := iota_len n
  have hi : ∀ i : Int, 1 ≤ i → i < (iota n).length → ix (iota n) i = i := fun i h1 h2 => iota_ix n i (by omega) (by omega)
  refine ⟨⟨rfl, fun i h1 h2 => by rw [hi i h1 h2]; exact h1, fun i h1 h2 => by rw [hi i h1 h2]; exact Int.le_refl _, fun i h1 h2 => by rw [hi i h1 h2, hi i h1 h2], fun i h1 h2 => Iff.rfl⟩,
    ⟨by omega, fun i h1 h2 => by rw [hi i h1 h2]; exact h1, fun i h1 h2 => by rw [hi i h1 h2]; exact Int.le_refl _, fun i h1 h2 => by rw [hi i h1 h2, hi i h1 h2]⟩, by simp [ones, hl], ?_, fun r r1 r2 r3 => ?_⟩
  · unfold sets
    have e : (List.range (iota n).length).countP (fun i : Nat => decide (1 ≤ (i : Int) ∧ ix (iota n) i = i)) = (List.range (iota n).length).countP (fun j : Nat => decide (1 ≤ (j : Int))) := by
      apply List.countP_congr
      intro i hi'
      have := List.mem_range.1 hi'
      simp only [decide_eq_true_eq]
      exact ⟨fun q => q.1, fun q => ⟨q, hi i q (by omega)⟩⟩
    rw [e, count_pos, hl]
    omega
  · have e1 : ix (ones n) r = 1 := by
      unfold ix ones
      rw [List.getD_eq_getElem?_getD, List.getElem?_replicate, if_pos (by omega)]
      rfl
    rw [e1]
    unfold size
    have e : (List.range (iota n).length).countP (fun i : Nat => decide (1 ≤ (i : Int) ∧ ix (iota n) i = r)) = (List.range (iota n).length).count r.toNat := by
      unfold List.count
      apply List.countP_congr
      intro i hi'
      have := List.mem_range.1 hi'
      simp only [decide_eq_true_eq, beq_iff_eq]
      constructor
      · intro q
        rw [hi i q.1 (by omega)] at q
        omega
      · intro q
        subst q
        have e2 : ((r.toNat : Nat) : Int) = r := by omega
        rw [e2]
        exact ⟨r1, r3⟩
    rw [e, List.count_range]
    have : r.toNat < (iota n).length := by omega
    simp [this]
end Go.Proofs.Ytakebkfhigadiaa.JoW
