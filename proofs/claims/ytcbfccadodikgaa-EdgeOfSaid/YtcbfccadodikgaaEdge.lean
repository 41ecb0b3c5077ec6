/-
  Layer 5's functions on one or two edges: what they tell. No condition.
-/
import Derived.Test.YtcbfccadodikgaaNode
import Derived.Test.YtcbfccadodikgaaCmp
import Derived.StillTailTactics
namespace Go.Proofs.Ytcbfccadodikgaa.Edge
open Go.RowKit Go.Proofs.Ytcbfccadodikgaa.Law Go.Proofs.Ytcbfccadodikgaa.Node Go.Proofs.Ytcbfccadodikgaa.Cmp

def mayE (a b c : Int) : Bool := decide (1 ≤ a ∧ a ≤ 64 ∧ 1 ≤ b ∧ b ≤ 64 ∧ a < b ∧ 0 ≤ c ∧ c ≤ 2147483647)
def echkF (a b c : Int) : Int := if mayE a b c = true then 0 else 1
theorem echkF_tt {a b c : Int} (h : mayE a b c = true) : echkF a b c = 0 := by simp [echkF, h]
theorem echkF_ff {a b c : Int} (h : mayE a b c = false) : echkF a b c = 1 := by simp [echkF, h]

theorem check_cases (a b c : Int) : mayE a b c = true ∧ nodeB a = true ∧ nodeB b = true ∧ a < b ∧ 0 ≤ c ∧ c ≤ 2147483647 ∨ mayE a b c = false ∧ nodeB a = false ∨ mayE a b c = false ∧ nodeB a = true ∧ nodeB b = false ∨
    mayE a b c = false ∧ nodeB a = true ∧ nodeB b = true ∧ b ≤ a ∨ mayE a b c = false ∧ nodeB a = true ∧ nodeB b = true ∧ a < b ∧ c < 0 ∨ mayE a b c = false ∧ nodeB a = true ∧ nodeB b = true ∧ a < b ∧ 0 ≤ c ∧ 2147483647 < c := by
  simp only [nodeB_iff, nodeB_false, mayE, decide_eq_true_eq, decide_eq_false_iff_not]
  omega

theorem check_any (a b c : Int) (w : World) : Calls Try.prog 18 #[.agg #[.int .i64 a, .int .i64 b, .int .i64 c]] w (Makes (.int .i64 (echkF a b c)) w) := by
  rcases check_cases a b c with ⟨h0, h1, h2, h3, h4, h5⟩ | ⟨h0, h1⟩ | ⟨h0, h1, h2⟩ | ⟨h0, h1, h2, h3⟩ | ⟨h0, h1, h2, h3, h4⟩ | ⟨h0, h1, h2, h3, h4, h5⟩
  all_goals
    have H0 := Law.hide h0; clear h0
    go_enter Try.func18, Try.ntmps18
    go_wp2_with (go_at_call 16; refine (node_any _ _).mono ?_; rintro e w' ⟨rfl, rfl⟩)
    go_ret
    exact ⟨ret_int (by simp [echkF, H0.out]), (Below.refl _ _).alloc (Nat.le_refl _) _⟩


theorem may_any (a b c : Int) (w : World) : Calls Try.prog 19 #[.agg #[.int .i64 a, .int .i64 b, .int .i64 c]] w (Makes (.bool (mayE a b c)) w) := by
  rcases check_cases a b c with ⟨h0, h1, h2, h3, h4, h5⟩ | ⟨h0, h1⟩ | ⟨h0, h1, h2⟩ | ⟨h0, h1, h2, h3⟩ | ⟨h0, h1, h2, h3, h4⟩ | ⟨h0, h1, h2, h3, h4, h5⟩
  all_goals
    have H0 := Law.hide h0; clear h0
    go_enter Try.func19, Try.ntmps19
    go_wp2_with (go_at_call 17; refine (rnode_any _ _).mono ?_; rintro e w' ⟨rfl, rfl⟩)
    go_ret
    exact ⟨ret_bool (by first | (simp [H0.out]; done) | (simp [H0.out]; omega)), (Below.refl _ _).alloc (Nat.le_refl _) _⟩


/-- The other end. -/
theorem other_fst (a b c : Int) (w : World) : Calls Try.prog 21 #[.agg #[.int .i64 a, .int .i64 b, .int .i64 c], .int .i64 a] w (Makes (.int .i64 b) w) := by
  go_enter Try.func21, Try.ntmps21
  go_wp2
  go_ret
  exact ⟨rfl, (Below.refl _ _).alloc (Nat.le_refl _) _⟩
theorem other_snd (a b c : Int) (w : World) (h : b ≠ a) : Calls Try.prog 21 #[.agg #[.int .i64 a, .int .i64 b, .int .i64 c], .int .i64 b] w (Makes (.int .i64 a) w) := by
  have h1 : (b == a) = false := bne_ff h
  clear h
  go_enter Try.func21, Try.ntmps21
  go_wp2
  go_ret
  exact ⟨rfl, (Below.refl _ _).alloc (Nat.le_refl _) _⟩
theorem other_none (a b c n : Int) (w : World) (h : n ≠ a) (h' : n ≠ b) : Calls Try.prog 21 #[.agg #[.int .i64 a, .int .i64 b, .int .i64 c], .int .i64 n] w (Makes (.int .i64 0) w) := by
  have h1 : (n == a) = false := bne_ff h
  have h2 : (n == b) = false := bne_ff h'
  clear h h'
  go_enter Try.func21, Try.ntmps21
  go_wp2
  go_ret
  exact ⟨rfl, (Below.refl _ _).alloc (Nat.le_refl _) _⟩
def otherF (a b n : Int) : Int := if n = a then b else if n = b then a else 0
theorem other_any (a b c n : Int) (w : World) : Calls Try.prog 21 #[.agg #[.int .i64 a, .int .i64 b, .int .i64 c], .int .i64 n] w (Makes (.int .i64 (otherF a b n)) w) := by
  by_cases h : n = a
  · subst h
    rw [show otherF n b n = b by simp [otherF]]
    exact other_fst n b c w
  · by_cases h' : n = b
    · subst h'
      rw [show otherF a n n = a by simp [otherF, h]]
      exact other_snd a n c w h
    · rw [show otherF a b n = 0 by simp [otherF, h, h']]
      exact other_none a b c n w h h'

/-- The edge of two nodes: its ends in order, and why not. -/
def ofF (a b c : Int) : Int × Int × Int × Int :=
  if a ≤ b then (if mayE a b c = true then (a, b, c, 0) else (0, 0, 0, 1)) else (if mayE b a c = true then (b, a, c, 0) else (0, 0, 0, 1))
def Edged (x : Int × Int × Int × Int) : Value := .tuple #[.agg #[.int .i64 x.1, .int .i64 x.2.1, .int .i64 x.2.2.1], .int .i64 x.2.2.2]
theorem mayE_eq (a c : Int) : mayE a a c = false := by
  simp only [mayE, decide_eq_false_iff_not]
  omega
theorem of_lt (a b c : Int) (w : World) (hab : a < b ∨ b < a) : Calls Try.prog 15 #[.int .i64 a, .int .i64 b, .int .i64 c] w (Makes (Edged (ofF a b c)) w) := by
  rcases hab with hab | hab
  · cases hm : mayE a b c
    all_goals
      have hc := check_any a b c
      first
        | (rw [echkF_ff hm] at hc; rw [show ofF a b c = (0, 0, 0, 1) by simp [ofF, hm]; omega])
        | (rw [echkF_tt hm] at hc; rw [show ofF a b c = (a, b, c, 0) by simp [ofF, hm]; omega])
      have HC := Law.hide hc
      clear hc hm
      go_enter Try.func15, Try.ntmps15
      go_wp2_with fail
      refine (HC.out _).mono ?_
      rintro e w1 ⟨rfl, hb⟩
      obtain ⟨hcell, hf⟩ := bcell hb
      have hz : w.heap.size + 1 < w1.heap.size := by (have := hb.size; simp at this; omega)
      have hz1 : w.heap.size < w1.heap.size := by omega
      have r1 : w1.cell? ⟨w.heap.size, 0, none⟩ = some (.int .i64 0) := (hcell _ _ (by simp; omega)).trans (by go_simp)
      have r2 : w1.cell? ⟨w.heap.size, 1, none⟩ = some (.int .i64 0) := (hcell _ _ (by simp; omega)).trans (by go_simp)
      have r3 : w1.cell? ⟨w.heap.size, 2, none⟩ = some (.int .i64 0) := (hcell _ _ (by simp; omega)).trans (by go_simp)
      have r4 : w1.cell? ⟨w.heap.size + 1, 0, none⟩ = some (.int .i64 a) := (hcell _ _ (by simp)).trans (by go_simp)
      have r5 : w1.cell? ⟨w.heap.size + 1, 1, none⟩ = some (.int .i64 b) := (hcell _ _ (by simp)).trans (by go_simp)
      have r6 : w1.cell? ⟨w.heap.size + 1, 2, none⟩ = some (.int .i64 c) := (hcell _ _ (by simp)).trans (by go_simp)
      have f1 : ∀ o, w1.frozen? ⟨w.heap.size, o, none⟩ = false := fun o => (hf _ _ (by simp; omega)).trans (by go_simp)
      have HB := Law.hide (((Below.refl w.heap.size w).alloc (Nat.le_refl _) _).alloc (by simp) _ |>.trans (hb.mono (by simp; omega)))
      clear hcell hf hb
      go_wp2_with fail
      first
        | exact bodyPost_ret (v := Edged (0, 0, 0, 1)) (by simp [results, Try.results15, go_sem, Edged, r1, r2, r3]) rfl ⟨rfl, ((HB.out.setCell (by simp) _).setCell (by simp) _).setCell (by simp) _⟩
        | exact bodyPost_ret (v := Edged (a, b, c, 0)) (by simp [results, Try.results15, go_sem, Edged, r1, r2, r3]) rfl ⟨rfl, ((HB.out.setCell (by simp) _).setCell (by simp) _).setCell (by simp) _⟩
  · cases hm : mayE b a c
    all_goals
      have hc := check_any b a c
      first
        | (rw [echkF_ff hm] at hc; rw [show ofF a b c = (0, 0, 0, 1) by simp [ofF, hm]; omega])
        | (rw [echkF_tt hm] at hc; rw [show ofF a b c = (b, a, c, 0) by simp [ofF, hm]; omega])
      have HC := Law.hide hc
      clear hc hm
      go_enter Try.func15, Try.ntmps15
      go_wp2_with fail
      refine (HC.out _).mono ?_
      rintro e w1 ⟨rfl, hb⟩
      obtain ⟨hcell, hf⟩ := bcell hb
      have hz : w.heap.size + 1 < w1.heap.size := by (have := hb.size; simp at this; omega)
      have hz1 : w.heap.size < w1.heap.size := by omega
      have r1 : w1.cell? ⟨w.heap.size, 0, none⟩ = some (.int .i64 0) := (hcell _ _ (by simp; omega)).trans (by go_simp)
      have r2 : w1.cell? ⟨w.heap.size, 1, none⟩ = some (.int .i64 0) := (hcell _ _ (by simp; omega)).trans (by go_simp)
      have r3 : w1.cell? ⟨w.heap.size, 2, none⟩ = some (.int .i64 0) := (hcell _ _ (by simp; omega)).trans (by go_simp)
      have r4 : w1.cell? ⟨w.heap.size + 1, 0, none⟩ = some (.int .i64 b) := (hcell _ _ (by simp)).trans (by go_simp)
      have r5 : w1.cell? ⟨w.heap.size + 1, 1, none⟩ = some (.int .i64 a) := (hcell _ _ (by simp)).trans (by go_simp)
      have r6 : w1.cell? ⟨w.heap.size + 1, 2, none⟩ = some (.int .i64 c) := (hcell _ _ (by simp)).trans (by go_simp)
      have f1 : ∀ o, w1.frozen? ⟨w.heap.size, o, none⟩ = false := fun o => (hf _ _ (by simp; omega)).trans (by go_simp)
      have HB := Law.hide (((Below.refl w.heap.size w).alloc (Nat.le_refl _) _).alloc (by simp) _ |>.trans (hb.mono (by simp; omega)))
      clear hcell hf hb
      go_wp2_with fail
      first
        | exact bodyPost_ret (v := Edged (0, 0, 0, 1)) (by simp [results, Try.results15, go_sem, Edged, r1, r2, r3]) rfl ⟨rfl, ((HB.out.setCell (by simp) _).setCell (by simp) _).setCell (by simp) _⟩
        | exact bodyPost_ret (v := Edged (b, a, c, 0)) (by simp [results, Try.results15, go_sem, Edged, r1, r2, r3]) rfl ⟨rfl, ((HB.out.setCell (by simp) _).setCell (by simp) _).setCell (by simp) _⟩
theorem of_eq (a c : Int) (w : World) : Calls Try.prog 15 #[.int .i64 a, .int .i64 a, .int .i64 c] w (Makes (Edged (ofF a a c)) w) := by
  have hc := check_any a a c
  rw [echkF_ff (mayE_eq a c)] at hc
  rw [show ofF a a c = (0, 0, 0, 1) by simp [ofF, mayE_eq]]
  have HC := Law.hide hc
  clear hc
  go_enter Try.func15, Try.ntmps15
  go_wp2_with fail
  refine (HC.out _).mono ?_
  rintro e w1 ⟨rfl, hb⟩
  obtain ⟨hcell, hf⟩ := bcell hb
  have hz : w.heap.size + 1 < w1.heap.size := by (have := hb.size; simp at this; omega)
  have hz1 : w.heap.size < w1.heap.size := by omega
  have r1 : w1.cell? ⟨w.heap.size, 0, none⟩ = some (.int .i64 0) := (hcell _ _ (by simp; omega)).trans (by go_simp)
  have r2 : w1.cell? ⟨w.heap.size, 1, none⟩ = some (.int .i64 0) := (hcell _ _ (by simp; omega)).trans (by go_simp)
  have r3 : w1.cell? ⟨w.heap.size, 2, none⟩ = some (.int .i64 0) := (hcell _ _ (by simp; omega)).trans (by go_simp)
  have f1 : ∀ o, w1.frozen? ⟨w.heap.size, o, none⟩ = false := fun o => (hf _ _ (by simp; omega)).trans (by go_simp)
  have HB := Law.hide (((Below.refl w.heap.size w).alloc (Nat.le_refl _) _).alloc (by simp) _ |>.trans (hb.mono (by simp; omega)))
  clear hcell hf hb
  go_wp2_with fail
  exact bodyPost_ret (v := Edged (0, 0, 0, 1)) (by simp [results, Try.results15, go_sem, Edged, r1, r2, r3]) rfl ⟨rfl, ((HB.out.setCell (by simp) _).setCell (by simp) _).setCell (by simp) _⟩
theorem of_any (a b c : Int) (w : World) : Calls Try.prog 15 #[.int .i64 a, .int .i64 b, .int .i64 c] w (Makes (Edged (ofF a b c)) w) := by
  by_cases h : a = b
  · subst h
    exact of_eq a c w
  · exact of_lt a b c w (by omega)
end Go.Proofs.Ytcbfccadodikgaa.Edge
