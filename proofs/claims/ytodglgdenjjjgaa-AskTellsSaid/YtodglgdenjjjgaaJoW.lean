/-
  What joinings keep, and what sizes make up. No condition.
-/
import Derived.Test.YtodglgdenjjjgaaJoR
namespace Go.Proofs.Ytodglgdenjjjgaa.JoW
open Go Go.Proofs.Ytodglgdenjjjgaa.Ry Go.Proofs.Ytodglgdenjjjgaa.JoS Go.Proofs.Ytodglgdenjjjgaa.JoR

theorem up_va {u W : List Int} (h : Up u W) : Va u := fun i i1 i2 => ⟨h.lo i i1 (by rw [← h.len]; exact i2), h.hi i i1 (by rw [← h.len]; exact i2)⟩
theorem up_ok {u W : List Int} (h : Up u W) (hw : WOk W) (hl : W.length ≤ 5000) : okU u = true := okU_iff.2 ⟨⟨by rw [h.len]; exact hw.pos, by rw [h.len]; exact hl⟩, up_va h⟩
theorem ls_w {W : List Int} : ∀ (k : Nat) (u : List Int) (a : Int), Up u W → 1 ≤ a → a < W.length → a ≤ k → lsA k u a = ix W a
  | 0, _, _, _, h1, _, h3 => by omega
  | k + 1, u, a, h, h1, h2, h3 => by
    rw [lsA_s]
    split
    · rename_i e
      exact ((h.fix a h1 h2).1 e).symm
    · rename_i hne
      obtain ⟨q1, q2, q3, q4⟩ := up_two h h1 h2 hne
      rw [ls_w k _ _ q4 q1 (by omega) (by omega), q3]
def lw (W : List Int) (a : Int) : Int := if 1 ≤ a ∧ a < W.length then ix W a else 0
theorem lst_w {u W : List Int} (h : Up u W) (a : Int) : lstI u a = lw W a ∧ Up (lstU u a) W := by
  unfold lstI lstU lw JoR.hasB
  rw [h.len]
  by_cases hb : 1 ≤ a ∧ a < W.length
  · rw [decide_eq_true hb, if_pos rfl, if_pos rfl, if_pos hb]
    exact ⟨ls_w _ _ _ h hb.1 hb.2 (by omega), ls_up _ _ _ h hb.1 hb.2⟩
  · rw [decide_eq_false hb, if_neg hb]
    exact ⟨rfl, h⟩
structure JInv (W : List Int) (s : Int) (u z : List Int) : Prop where
  up : Up u W
  ok : WOk W
  zl : z.length = W.length
  s : s = sets W
  z : ∀ r : Int, 1 ≤ r → r < W.length → ix W r = r → ix z r = size W r
theorem sets_le (W : List Int) : sets W ≤ W.length := by
  unfold sets
  have := List.countP_le_length (p := fun i : Nat => decide (1 ≤ (i : Int) ∧ ix W i = i)) (l := List.range W.length)
  simpa using this
theorem size_le (W : List Int) (r : Int) : size W r ≤ W.length := by
  unfold size
  have := List.countP_le_length (p := fun i : Nat => decide (1 ≤ (i : Int) ∧ ix W i = r)) (l := List.range W.length)
  simpa using this
/-- What a joining makes of the document's sets. -/
def uniW (W : List Int) (a b : Int) : List Int :=
  if lw W a ≠ 0 ∧ lw W b ≠ 0 ∧ lw W a ≠ lw W b then join W (if lw W b < lw W a then lw W b else lw W a) (if lw W a < lw W b then lw W b else lw W a) else W
theorem uni_len (W : List Int) (a b : Int) : (uniW W a b).length = W.length := by
  unfold uniW join
  split
  · rw [List.length_map]
  · rfl
theorem lw_root {W : List Int} (hw : WOk W) {a : Int} (h : lw W a ≠ 0) : 1 ≤ lw W a ∧ lw W a < W.length ∧ ix W (lw W a) = lw W a := by
  unfold lw at h ⊢
  split
  · rename_i hb
    have := hw.lo a hb.1 hb.2
    have := hw.hi a hb.1 hb.2
    exact ⟨by omega, by omega, hw.fix a hb.1 hb.2⟩
  · rename_i hb
    rw [if_neg hb] at h
    exact absurd rfl h
theorem jinv_unite {W : List Int} {s : Int} {u z : List Int} (h : JInv W s u z) (hl : W.length ≤ 5000) (a b : Int) :
    JInv (uniW W a b) (unS u s a b) (unU u a b) (unZ u z a b) ∧ (unB u a b = decide (lw W a ≠ 0 ∧ lw W b ≠ 0 ∧ lw W a ≠ lw W b)) ∧ unS u s a b = if unB u a b = true then s - 1 else s := by
  obtain ⟨h1, h2, h3, h4, h5⟩ := h
  obtain ⟨k1, k2⟩ := lst_w h1 a
  obtain ⟨k3, k4⟩ := lst_w k2 b
  have hs := sets_le W
  have hB : unB u a b = decide (lw W a ≠ 0 ∧ lw W b ≠ 0 ∧ lw W a ≠ lw W b) := by unfold unB unX unY; rw [k1, k3]
  have hS : unS u s a b = if unB u a b = true then s - 1 else s := by
    unfold unS
    split
    · rw [b_sub, wr _ (by omega) (by omega)]
    · rfl
  refine ⟨?_, hB, hS⟩
  by_cases hc : lw W a ≠ 0 ∧ lw W b ≠ 0 ∧ lw W a ≠ lw W b
  · rw [decide_eq_true hc] at hB
    obtain ⟨a1, a2, a3⟩ := lw_root h2 hc.1
    obtain ⟨b1, b2, b3⟩ := lw_root h2 hc.2.1
    have hlo : unLo u a b = if lw W b < lw W a then lw W b else lw W a := by unfold unLo unX unY; rw [k1, k3]
    have hhi : unHi u a b = if lw W a < lw W b then lw W b else lw W a := by unfold unHi unX unY; rw [k1, k3]
    have key : ∀ lo hi : Int, unLo u a b = lo → unHi u a b = hi → 1 ≤ lo → lo < hi → hi < W.length → ix W lo = lo → ix W hi = hi → JInv (join W lo hi) (unS u s a b) (unU u a b) (unZ u z a b) := by
      intro lo hi elo ehi l1 l2 l3 l4 l5
      obtain ⟨j1, j2⟩ := join_up k4 h2 l1 l2 l3 l4 l5
      have hlen : (join W lo hi).length = W.length := by unfold join; rw [List.length_map]
      have hst := join_sets h2 l1 l2 l3 l5
      refine ⟨?_, j2, ?_, ?_, fun r r1 r2 r3 => ?_⟩
      · unfold unU
        rw [if_pos hB, elo, ehi]
        exact j1
      · unfold unZ
        rw [if_pos hB, List.length_set, hlen, h3]
      · rw [hS, if_pos hB, h4]
        omega
      · rw [hlen] at r2
        have zlo := h5 lo l1 (by omega) l4
        have zhi := h5 hi (by omega) l3 l5
        have s1 := size_le W lo
        have s2 := size_le W hi
        have hne : r ≠ hi := by
          rintro rfl
          have e : ix (join W lo r) r = if ix W r = r then lo else ix W r := ix_map W _ r (by omega) (by omega)
          rw [e, if_pos l5] at r3
          omega
        unfold unZ
        rw [if_pos hB, elo, ehi, join_size l1 l2, ix_set _ _ _ _ (by omega) (by omega) (by rw [h3]; omega), zlo, zhi, b_add, wr _ (by omega) (by omega)]
        by_cases hr : r = lo
        · rw [if_pos hr, if_pos hr]
          omega
        · rw [if_neg hr, if_neg hr, if_neg hne]
          have e : ix (join W lo hi) r = if ix W r = hi then lo else ix W r := ix_map W _ r (by omega) (by omega)
          rw [e] at r3
          split at r3
          · omega
          · exact h5 r r1 r2 r3
    unfold uniW
    rw [if_pos hc]
    by_cases hab : lw W a < lw W b
    · have n : ¬ lw W b < lw W a := by omega
      rw [if_neg n] at hlo ⊢
      rw [if_pos hab] at hhi ⊢
      exact key _ _ hlo hhi a1 hab b2 a3 b3
    · have n : lw W b < lw W a := by omega
      rw [if_pos n] at hlo ⊢
      rw [if_neg hab] at hhi ⊢
      exact key _ _ hlo hhi b1 n a2 b3 a3
  · rw [decide_eq_false hc] at hB
    have hBf : ¬ unB u a b = true := by rw [hB]; decide
    unfold uniW unU unZ
    rw [if_neg hc, if_neg hBf, if_neg hBf, hS, if_neg hBf]
    exact ⟨k4, h2, h3, h4, h5⟩
/-! ## What sizes make up -/
def acc (W : List Int) (l : List Nat) : Nat → Nat
  | 0 => 0
  | k + 1 => acc W l k + if 1 ≤ (k : Int) ∧ ix W k = k then l.countP (fun i : Nat => decide (1 ≤ (i : Int) ∧ ix W i = k)) else 0
theorem acc_cons (W : List Int) (l : List Nat) (j : Nat) (hj : 1 ≤ (j : Int) → 1 ≤ ix W j ∧ ix W (ix W j) = ix W j) : ∀ k, acc W (j :: l) k = acc W l k + if 1 ≤ (j : Int) ∧ ix W j < k then 1 else 0
  | 0 => by
    unfold acc
    have : ¬ (1 ≤ (j : Int) ∧ ix W j < ((0 : Nat) : Int)) := fun h => by have := hj h.1; omega
    rw [if_neg this]
  | k + 1 => by
    unfold acc
    rw [acc_cons W l j hj k, List.countP_cons]
    by_cases h1 : 1 ≤ (j : Int)
    · obtain ⟨g1, g2⟩ := hj h1
      by_cases hk : ix W j = k
      · have r1 : 1 ≤ (k : Int) ∧ ix W k = k := by
          rw [← hk]
          exact ⟨g1, g2⟩
        have d : decide (1 ≤ (j : Int) ∧ ix W j = (k : Int)) = true := decide_eq_true ⟨h1, hk⟩
        have n1 : ¬ (1 ≤ (j : Int) ∧ ix W j < (k : Int)) := by omega
        have n2 : 1 ≤ (j : Int) ∧ ix W j < ((k + 1 : Nat) : Int) := by omega
        rw [if_pos r1, if_pos r1, d, if_neg n1, if_pos n2]
        simp
        omega
      · have d : decide (1 ≤ (j : Int) ∧ ix W j = (k : Int)) = false := decide_eq_false fun h => hk h.2
        rw [d]
        have e : (1 ≤ (j : Int) ∧ ix W j < (k : Int)) ↔ (1 ≤ (j : Int) ∧ ix W j < ((k + 1 : Nat) : Int)) := by omega
        by_cases hq : 1 ≤ (j : Int) ∧ ix W j < (k : Int)
        · rw [if_pos hq, if_pos (e.1 hq)]
          split <;> simp <;> omega
        · rw [if_neg hq, if_neg fun h => hq (e.2 h)]
          split <;> simp
    · have d : decide (1 ≤ (j : Int) ∧ ix W j = (k : Int)) = false := decide_eq_false fun h => h1 h.1
      have n1 : ¬ (1 ≤ (j : Int) ∧ ix W j < (k : Int)) := fun h => h1 h.1
      have n2 : ¬ (1 ≤ (j : Int) ∧ ix W j < ((k + 1 : Nat) : Int)) := fun h => h1 h.1
      rw [d, if_neg n1, if_neg n2]
      split <;> simp
theorem acc_nil (W : List Int) : ∀ k, acc W [] k = 0
  | 0 => rfl
  | k + 1 => by
    unfold acc
    rw [acc_nil W k]
    split <;> simp
theorem acc_list (W : List Int) (hw : WOk W) : ∀ l : List Nat, (∀ j ∈ l, j < W.length) → acc W l W.length = l.countP fun j : Nat => decide (1 ≤ (j : Int))
  | [], _ => by rw [acc_nil]; rfl
  | j :: l, h => by
    have hj := h j (List.mem_cons_self ..)
    rw [acc_cons W l j (fun g => ⟨hw.lo j g (by omega), hw.fix j g (by omega)⟩), acc_list W hw l fun i hi => h i (List.mem_cons_of_mem _ hi), List.countP_cons]
    by_cases g : 1 ≤ (j : Int)
    · have := hw.hi j g (by omega)
      rw [if_pos ⟨g, by omega⟩, decide_eq_true g]
      simp
    · rw [if_neg fun q => g q.1, decide_eq_false g]
      simp
theorem count_pos : ∀ n : Nat, (List.range n).countP (fun j : Nat => decide (1 ≤ (j : Int))) = n - 1
  | 0 => rfl
  | n + 1 => by
    rw [List.range_succ, List.countP_append, count_pos n]
    simp only [List.countP_cons, List.countP_nil]
    by_cases h : 1 ≤ (n : Int)
    · rw [decide_eq_true h]
      simp
      omega
    · rw [decide_eq_false h]
      simp
      omega
theorem acc_all (W : List Int) (hw : WOk W) : acc W (List.range W.length) W.length = W.length - 1 := by
  rw [acc_list W hw _ fun j hj => List.mem_range.1 hj, count_pos]
theorem acc_le (W : List Int) (l : List Nat) : ∀ k, acc W l k ≤ k * l.length
  | 0 => by simp [acc]
  | k + 1 => by
    unfold acc
    have := acc_le W l k
    have h2 := List.countP_le_length (p := fun i : Nat => decide (1 ≤ (i : Int) ∧ ix W i = k)) (l := l)
    rw [Nat.succ_mul]
    split <;> omega
/-! ## At the beginning -/
def iota (n : Int) : List Int := (List.range (n + 1).toNat).map fun j : Nat => (j : Int)
def ones (n : Int) : List Int := List.replicate (n + 1).toNat 1
theorem iota_ix (n i : Int) (h0 : 0 ≤ i) (h : i ≤ n) : ix (iota n) i = i := by
  unfold ix iota
  rw [List.getD_eq_getElem?_getD, List.getElem?_map, List.getElem?_range (by omega)]
  simp
  omega
theorem iota_len (n : Int) : (iota n).length = (n + 1).toNat := by simp [iota]
theorem jinv_new (n : Int) (h : 0 ≤ n) : JInv (iota n) n (iota n) (ones n) := by
  have hl := iota_len n
  have hi : ∀ i : Int, 1 ≤ i → i < (iota n).length → ix (iota n) i = i := fun i h1 h2 => iota_ix n i (by omega) (by omega)
  refine ⟨⟨rfl, fun i h1 h2 => by rw [hi i h1 h2]; exact h1, fun i h1 h2 => by rw [hi i h1 h2]; exact Int.le_refl _, fun i h1 h2 => by rw [hi i h1 h2, hi i h1 h2], fun i h1 h2 => Iff.rfl⟩,
    ⟨by omega, fun i h1 h2 => by rw [hi i h1 h2]; exact h1, fun i h1 h2 => by rw [hi i h1 h2]; exact Int.le_refl _, fun i h1 h2 => by rw [hi i h1 h2, hi i h1 h2]⟩, by simp [ones, hl], ?_, fun r r1 r2 r3 => ?_⟩
  · unfold sets
    have e : (List.range (iota n).length).countP (fun i : Nat => decide (1 ≤ (i : Int) ∧ ix (iota n) i = i)) = (List.range (iota n).length).countP (fun j : Nat => decide (1 ≤ (j : Int))) := by
      apply List.countP_congr
      intro i hi'
      have := List.mem_range.1 hi'
      simp only [decide_eq_true_eq]
      exact ⟨fun q => q.1, fun q => ⟨q, hi i q (by omega)⟩⟩
    rw [e, count_pos, hl]
    omega
  · have e1 : ix (ones n) r = 1 := by
      unfold ix ones
      rw [List.getD_eq_getElem?_getD, List.getElem?_replicate, if_pos (by omega)]
      rfl
    rw [e1]
    unfold size
    have e : (List.range (iota n).length).countP (fun i : Nat => decide (1 ≤ (i : Int) ∧ ix (iota n) i = r)) = (List.range (iota n).length).count r.toNat := by
      unfold List.count
      apply List.countP_congr
      intro i hi'
      have := List.mem_range.1 hi'
      simp only [decide_eq_true_eq, beq_iff_eq]
      constructor
      · intro q
        rw [hi i q.1 (by omega)] at q
        omega
      · intro q
        subst q
        have e2 : ((r.toNat : Nat) : Int) = r := by omega
        rw [e2]
        exact ⟨r1, r3⟩
    rw [e, List.count_range]
    have : r.toNat < (iota n).length := by omega
    simp [this]
end Go.Proofs.Ytodglgdenjjjgaa.JoW
