/-
  Layer 12's other functions, and what names' order is in the reference: what they tell. No condition.
-/
import Derived.Test.YtcbfccadodikgaaEid
import Derived.Deep.RegionHeld3
namespace Go.Proofs.Ytcbfccadodikgaa.EidMore
open Go.RowKit Go.Proofs.Ytcbfccadodikgaa.Law Go.Proofs.Ytcbfccadodikgaa.Cmp Go.Proofs.Ytcbfccadodikgaa.Eid

/-- How names are ordered. -/
def ecmp (e1 r1 e2 r2 : Int) : Int := orF [sgn e1 e2, sgn r1 r2]
def mayB (e r : Int) : Bool := decide (e = 0 ∧ r = 0 ∨ 1 ≤ e ∧ e ≤ 2147483647 ∧ 1 ≤ r ∧ r ≤ 64)
def lessB (e1 r1 e2 r2 : Int) : Bool := decide (e1 < e2 ∨ e1 = e2 ∧ r1 < r2)
theorem ecmp_bd (e1 r1 e2 r2 : Int) : -1 ≤ ecmp e1 r1 e2 r2 ∧ ecmp e1 r1 e2 r2 ≤ 1 := by
  unfold ecmp orF orF orF
  have := sgn_bd e1 e2
  have := sgn_bd r1 r2
  (repeat' split) <;> omega
theorem ecmp_lt (e1 r1 e2 r2 : Int) : (ecmp e1 r1 e2 r2 < 0) ↔ (e1 < e2 ∨ e1 = e2 ∧ r1 < r2) := by
  unfold ecmp orF orF orF sgn
  (repeat' split) <;> omega
theorem ecmp_eq0 (e1 r1 e2 r2 : Int) : (ecmp e1 r1 e2 r2 = 0) ↔ (e1 = e2 ∧ r1 = r2) := by
  unfold ecmp orF orF orF sgn
  (repeat' split) <;> omega
theorem ecmp_neg (e1 r1 e2 r2 : Int) : ecmp e2 r2 e1 r1 = - ecmp e1 r1 e2 r2 := by
  unfold ecmp orF orF orF sgn
  (repeat' split) <;> omega


theorem bne_ff {a b : Int} (h : a ≠ b) : (a == b) = false := by simpa using h
theorem bne_ff' {a b : Int} (h : a ≠ b) : (a == b) = false := by simpa using h
/-- Names held against each other, whole. -/
theorem eq_run (e1 r1 e2 r2 : Int) (w : World) : (Op.equalIn 10000 37 (.agg #[.int .i64 e1, .int .i64 r1]) (.agg #[.int .i64 e2, .int .i64 r2])).run Try.prog w = .ok (e1 == e2 && r1 == r2) w := by
  cases h : e1 == e2
  · go_simp
  · by_cases h' : r1 = r2
    · subst h'
      go_simp
    · have h2 : (r1 == r2) = false := bne_ff' h'
      go_simp
theorem check_zero (w : World) : Calls Try.prog 25 #[.agg #[.int .i64 0, .int .i64 0]] w (Makes (.int .i64 0) w) := by
  go_enter Try.func25, Try.ntmps25
  go_wp2
  go_ret
  exact ⟨rfl, (Below.refl _ _).alloc (Nat.le_refl _) _⟩
theorem check_else (e r : Int) (w : World) (h : ¬ (e = 0 ∧ r = 0)) (k : Int) (hk : k = if 1 ≤ e ∧ e ≤ 2147483647 ∧ nodeB r = true then 0 else 1) :
    Calls Try.prog 25 #[.agg #[.int .i64 e, .int .i64 r]] w (Makes (.int .i64 k) w) := by
  have hx : e = 0 ∧ (r == 0) = false ∨ (e == 0) = false := by
    by_cases h0 : e = 0
    · exact .inl ⟨h0, bne_ff fun h1 => h ⟨h0, h1⟩⟩
    · exact .inr (bne_ff h0)
  clear h
  have hk' : 1 ≤ e ∧ e ≤ 2147483647 ∧ nodeB r = true ∧ k = 0 ∨ e < 1 ∧ k = 1 ∨ 1 ≤ e ∧ 2147483647 < e ∧ k = 1 ∨ 1 ≤ e ∧ e ≤ 2147483647 ∧ nodeB r = false ∧ k = 1 := by
    by_cases h1 : 1 ≤ e <;> by_cases h2 : e ≤ 2147483647 <;> cases hb : nodeB r <;> simp [h1, h2, hb] at hk ⊢ <;> omega
  clear hk
  rcases hx with ⟨rfl, hx⟩ | hx
  · rcases hk' with ⟨h1, h2, h3, rfl⟩ | ⟨h1, rfl⟩ | ⟨h1, h2, rfl⟩ | ⟨h1, h2, h3, rfl⟩
    · omega
    · clear h1
      go_enter Try.func25, Try.ntmps25
      go_wp2
      go_ret
      exact ⟨rfl, (Below.refl _ _).alloc (Nat.le_refl _) _⟩
    · omega
    · omega
  · rcases hk' with ⟨h1, h2, h3, rfl⟩ | ⟨h1, rfl⟩ | ⟨h1, h2, rfl⟩ | ⟨h1, h2, h3, rfl⟩
    all_goals
      go_enter Try.func25, Try.ntmps25
      go_wp2_with (go_at_call 16; refine (node_any _ _).mono ?_; rintro e w' ⟨rfl, rfl⟩)
      go_ret
      exact ⟨rfl, (Below.refl _ _).alloc (Nat.le_refl _) _⟩
theorem check_any (e r : Int) (w : World) : Calls Try.prog 25 #[.agg #[.int .i64 e, .int .i64 r]] w (Makes (.int .i64 (if mayB e r = true then 0 else 1)) w) := by
  by_cases h : e = 0 ∧ r = 0
  · obtain ⟨rfl, rfl⟩ := h
    exact check_zero w
  · refine check_else e r w h _ ?_
    have : mayB e r = true ↔ 1 ≤ e ∧ e ≤ 2147483647 ∧ nodeB r = true := by
      unfold mayB nodeB
      simp only [decide_eq_true_eq]
      omega
    by_cases hm : mayB e r = true
    · rw [if_pos hm, if_pos (this.1 hm)]
    · rw [if_neg hm, if_neg (fun hh => hm (this.2 hh))]

def chkF (e r : Int) : Int := if mayB e r = true then 0 else 1
theorem check_f (e r : Int) (w : World) : Calls Try.prog 25 #[.agg #[.int .i64 e, .int .i64 r]] w (Makes (.int .i64 (chkF e r)) w) := check_any e r w

theorem may_any (e r : Int) (w : World) : Calls Try.prog 26 #[.agg #[.int .i64 e, .int .i64 r]] w (Makes (.bool (mayB e r)) w) := by
  have hm : mayB e r = decide (e = 0 ∧ r = 0 ∨ 1 ≤ e ∧ e ≤ 2147483647 ∧ nodeB r = true) := by
    unfold mayB nodeB
    simp only [decide_eq_true_eq]
  rw [hm]
  clear hm
  by_cases h0 : e = 0
  · subst h0
    by_cases h1 : r = 0
    · subst h1
      go_enter Try.func26, Try.ntmps26
      go_wp2
      go_ret
      exact ⟨rfl, (Below.refl _ _).alloc (Nat.le_refl _) _⟩
    · have h2 : (r == 0) = false := bne_ff h1
      have H := Law.hide h1; clear h1
      go_enter Try.func26, Try.ntmps26
      go_wp2
      go_ret
      exact ⟨ret_bool (by simp [H.out]), (Below.refl _ _).alloc (Nat.le_refl _) _⟩
  · have h2 : (e == 0) = false := bne_ff h0
    have H := Law.hide h0; clear h0
    by_cases h3 : 1 ≤ e
    · by_cases h4 : e ≤ 2147483647
      · cases hb : nodeB r
        all_goals
          go_enter Try.func26, Try.ntmps26
          go_wp2_with (go_at_call 17; refine (rnode_any _ _).mono ?_; rintro e w' ⟨rfl, rfl⟩)
          go_ret
          exact ⟨ret_bool (by simp [H.out, h3, h4, hb]), (Below.refl _ _).alloc (Nat.le_refl _) _⟩
      · go_enter Try.func26, Try.ntmps26
        go_wp2
        go_ret
        exact ⟨ret_bool (by simp [H.out, show ¬ e ≤ 2147483647 by omega]), (Below.refl _ _).alloc (Nat.le_refl _) _⟩
    · go_enter Try.func26, Try.ntmps26
      go_wp2
      go_ret
      exact ⟨ret_bool (by simp [H.out, show ¬ 1 ≤ e by omega]), (Below.refl _ _).alloc (Nat.le_refl _) _⟩

theorem less_any (e1 r1 e2 r2 : Int) (w : World) : Calls Try.prog 27 #[.agg #[.int .i64 e1, .int .i64 r1], .agg #[.int .i64 e2, .int .i64 r2]] w (Makes (.bool (lessB e1 r1 e2 r2)) w) := by
  unfold lessB
  by_cases h0 : e1 < e2
  · go_enter Try.func27, Try.ntmps27
    go_wp2
    go_ret
    exact ⟨ret_bool (by simp [h0]), ((Below.refl _ _).alloc (Nat.le_refl _) _).alloc (by simp) _⟩
  · by_cases h1 : e1 = e2
    · subst h1
      by_cases h2 : r1 < r2
      all_goals
        go_enter Try.func27, Try.ntmps27
        go_wp2
        go_ret
        exact ⟨ret_bool (by simp [h2]), ((Below.refl _ _).alloc (Nat.le_refl _) _).alloc (by simp) _⟩
    · have h2 : (e1 == e2) = false := bne_ff h1
      have H := Law.hide h1; clear h1
      go_enter Try.func27, Try.ntmps27
      go_wp2
      go_ret
      exact ⟨ret_bool (by simp [H.out, h0]), ((Below.refl _ _).alloc (Nat.le_refl _) _).alloc (by simp) _⟩

def emax (e1 r1 e2 r2 : Int) : Int × Int := if ecmp e1 r1 e2 r2 < 0 then (e2, r2) else (e1, r1)
theorem emax_lt {e1 r1 e2 r2 : Int} (h : ecmp e1 r1 e2 r2 < 0) : emax e1 r1 e2 r2 = (e2, r2) := if_pos h
theorem emax_ge {e1 r1 e2 r2 : Int} (h : ¬ ecmp e1 r1 e2 r2 < 0) : emax e1 r1 e2 r2 = (e1, r1) := if_neg h
theorem compare_e (e1 r1 e2 r2 : Int) (w : World) : Calls Try.prog 24 #[.agg #[.int .i64 e1, .int .i64 r1], .agg #[.int .i64 e2, .int .i64 r2]] w
    (Makes (.int .i64 (ecmp e1 r1 e2 r2)) w) := compare_any e1 r1 e2 r2 w

theorem max_any (e1 r1 e2 r2 : Int) (w : World) : Calls Try.prog 28 #[.agg #[.int .i64 e1, .int .i64 r1], .agg #[.int .i64 e2, .int .i64 r2]] w
    (Makes (.agg #[.int .i64 (emax e1 r1 e2 r2).1, .int .i64 (emax e1 r1 e2 r2).2]) w) := by
  by_cases h : ecmp e1 r1 e2 r2 < 0
  · rw [emax_lt h]
    go_enter Try.func28, Try.ntmps28
    go_wp2_with (go_at_call 24; refine (compare_e _ _ _ _ _).mono ?_; rintro e w1 ⟨rfl, hb⟩; obtain ⟨hc, hf⟩ := bcell hb; have hz : w.heap.size + 2 < w1.heap.size := by (have := hb.size; simp at this; omega))
    refine bodyPost_ret (v := .agg #[.int .i64 e2, .int .i64 r2]) (by simp [results, Try.results28, go_sem, hc]) rfl ⟨rfl, ?_⟩
    exact (((((Below.refl _ _).alloc (Nat.le_refl _) _).alloc (by simp) _).alloc (by simp; omega) _).trans (hb.mono (by simp; omega))).setCell (by simp; omega) _ |>.setCell (by simp; omega) _
  · rw [emax_ge h]
    go_enter Try.func28, Try.ntmps28
    go_wp2_with (go_at_call 24; refine (compare_e _ _ _ _ _).mono ?_; rintro e w1 ⟨rfl, hb⟩; obtain ⟨hc, hf⟩ := bcell hb; have hz : w.heap.size + 2 < w1.heap.size := by (have := hb.size; simp at this; omega))
    refine bodyPost_ret (v := .agg #[.int .i64 e1, .int .i64 r1]) (by simp [results, Try.results28, go_sem, hc]) rfl ⟨rfl, ?_⟩
    exact (((((Below.refl _ _).alloc (Nat.le_refl _) _).alloc (by simp) _).alloc (by simp; omega) _).trans (hb.mono (by simp; omega))).setCell (by simp; omega) _ |>.setCell (by simp; omega) _
end Go.Proofs.Ytcbfccadodikgaa.EidMore
