/-
  Layer 18's functions: what they tell. No condition.
-/
import Derived.Test.YtcbfccadodikgaaNode
import Derived.StillTailTactics
import Derived.IntWalk
import Derived.RegionTactic
import Derived.BigRegion
import Derived.ChangeAlike
namespace Go.Proofs.Ytcbfccadodikgaa.Beat
open Go.RowKit Go.Proofs.Ytcbfccadodikgaa.Law Go.Proofs.Ytcbfccadodikgaa.Node

def mayT (q s : Int) : Bool := decide (0 ≤ q ∧ q ≤ 5 ∧ 0 ≤ s ∧ s ≤ 1)
theorem mayT_iff (q s : Int) : mayT q s = true ↔ 0 ≤ q ∧ q ≤ 5 ∧ 0 ≤ s ∧ s ≤ 1 := by simp [mayT]
theorem may_cases (q s : Int) : mayT q s = true ∧ 0 ≤ q ∧ q ≤ 5 ∧ 0 ≤ s ∧ s ≤ 1 ∨ mayT q s = false ∧ q < 0 ∨ mayT q s = false ∧ 0 ≤ q ∧ 5 < q ∨ mayT q s = false ∧ 0 ≤ q ∧ q ≤ 5 ∧ s < 0 ∨ mayT q s = false ∧ 0 ≤ q ∧ q ≤ 5 ∧ 0 ≤ s ∧ 1 < s := by
  simp only [mayT, decide_eq_true_eq, decide_eq_false_iff_not]
  omega
def chkT (q s : Int) : Int := if mayT q s = true then 0 else 1
theorem chkT_tt {q s : Int} (h : mayT q s = true) : chkT q s = 0 := by simp [chkT, h]
theorem chkT_ff {q s : Int} (h : mayT q s = false) : chkT q s = 1 := by simp [chkT, h]

theorem check_any (q s : Int) (w : World) : Calls Try.prog 35 #[.agg #[.int .i64 q, .int .i64 s]] w (Makes (.int .i64 (chkT q s)) w) := by
  rcases may_cases q s with ⟨h0, h1, h2, h3, h4⟩ | ⟨h0, h1⟩ | ⟨h0, h1, h2⟩ | ⟨h0, h1, h2, h3⟩ | ⟨h0, h1, h2, h3, h4⟩
  all_goals
    have H0 := Law.hide h0; clear h0
    go_enter Try.func35, Try.ntmps35
    go_wp2
    go_ret
    exact ⟨ret_int (by simp [chkT, H0.out]), (Below.refl _ _).alloc (Nat.le_refl _) _⟩
theorem may_any (q s : Int) (w : World) : Calls Try.prog 34 #[.agg #[.int .i64 q, .int .i64 s]] w (Makes (.bool (mayT q s)) w) := by
  rcases may_cases q s with ⟨h0, h1, h2, h3, h4⟩ | ⟨h0, h1⟩ | ⟨h0, h1, h2⟩ | ⟨h0, h1, h2, h3⟩ | ⟨h0, h1, h2, h3, h4⟩
  all_goals
    have H0 := Law.hide h0; clear h0
    go_enter Try.func34, Try.ntmps34
    go_wp2
    go_ret
    exact ⟨ret_bool (by first | (simp [H0.out]; done) | (simp [H0.out]; omega)), (Below.refl _ _).alloc (Nat.le_refl _) _⟩

/-- A beat behind a tick. -/
def nextQ (q : Int) : Int := if q = 5 then 0 else q + 1
def nextS (s : Int) : Int := if s = 1 then 0 else s + 1
def Ticked (q s : Int) : Value := .tuple #[.agg #[.int .i64 (nextQ q), .int .i64 (nextS s)], .bool (decide (s = 1)), .bool (decide (q = 5)), .int .i64 0]
def Ticked3 (q s : Int) : Value := .tuple #[.agg #[.int .i64 (nextQ q), .int .i64 (nextS s)], .bool (decide (s = 1)), .bool (decide (q = 5))]
def NotTicked : Value := .tuple #[.agg #[.int .i64 0, .int .i64 0], .bool false, .bool false, .int .i64 1]

theorem tick_no (q s : Int) (w : World) (h : mayT q s = false) : Calls Try.prog 33 #[.agg #[.int .i64 q, .int .i64 s]] w (Makes NotTicked w) := by
  have hc := check_any q s
  rw [chkT_ff h] at hc
  have HC := Law.hide hc; clear hc h
  go_enter Try.func33, Try.ntmps33
  go_wp2_with fail
  refine (HC.out _).mono ?_
  rintro e w1 ⟨rfl, hb⟩
  obtain ⟨hc, hf⟩ := bcell hb
  have hz : w.heap.size + 1 < w1.heap.size := by (have := hb.size; simp at this; omega)
  go_wp2_with fail
  exact bodyPost_ret (v := NotTicked) (by simp [results, Try.results33, go_sem, hc, NotTicked]) rfl
    ⟨rfl, ((((Below.refl _ _).alloc (Nat.le_refl _) _).alloc (by simp) _).trans (hb.mono (by simp; omega))).setCell (by simp) _ |>.setCell (by simp) _⟩

set_option maxHeartbeats 400000 in
theorem tick_ok (q s : Int) (w : World) (h : mayT q s = true) : Calls Try.prog 33 #[.agg #[.int .i64 q, .int .i64 s]] w (Makes (Ticked q s) w) := by
  have hc := check_any q s
  rw [chkT_tt h] at hc
  have HC := Law.hide hc; clear hc
  obtain ⟨h1, h2, h3, h4⟩ := (mayT_iff q s).1 h
  clear h
  have hs : s = 0 ∨ s = 1 := by omega
  have hq : q = 5 ∨ (q + 1) % 6 = q + 1 ∧ (q + 1 == 0) = false ∧ q ≠ 5 := by
    by_cases h : q = 5
    · exact .inl h
    · exact .inr ⟨by omega, bne_ff (by omega), h⟩
  rcases hs with rfl | rfl <;> rcases hq with rfl | ⟨hq1, hq2, hq3⟩
  · skip
    go_enter Try.func33, Try.ntmps33
    go_wp2_with fail
    refine (HC.out _).mono ?_
    rintro e w1 ⟨rfl, hb⟩
    obtain ⟨hc, hf⟩ := bcell hb
    have hz : w.heap.size + 1 < w1.heap.size := by (have := hb.size; simp at this; omega)
    have hz1 : w.heap.size < w1.heap.size := by omega
    have k1 : w1.cell? ⟨w.heap.size, 0, none⟩ = some (.int .i64 5) := (hc _ _ (by simp; omega)).trans (by go_simp)
    have k2 : w1.cell? ⟨w.heap.size, 1, none⟩ = some (.int .i64 0) := (hc _ _ (by simp; omega)).trans (by go_simp)
    have k3 : w1.cell? ⟨w.heap.size + 1, 0, none⟩ = some (.int .i64 0) := (hc _ _ (by simp)).trans (by go_simp)
    have k4 : w1.cell? ⟨w.heap.size + 1, 1, none⟩ = some (.int .i64 0) := (hc _ _ (by simp)).trans (by go_simp)
    have k5 : ∀ o, w1.frozen? ⟨w.heap.size, o, none⟩ = false := fun o => (hf _ _ (by simp; omega)).trans (by go_simp)
    have k6 : ∀ o, w1.frozen? ⟨w.heap.size + 1, o, none⟩ = false := fun o => (hf _ _ (by simp)).trans (by go_simp)
    have HB := Law.hide (((((Below.refl w.heap.size w).alloc (Nat.le_refl _) _).alloc (by simp) _).trans (hb.mono (by simp; omega))).setCell (p := ⟨w.heap.size, 1, none⟩) (by simp) (Value.int .i64 (1)) |>.setCell (p := ⟨w.heap.size, 0, none⟩) (by simp) (Value.int .i64 (0)))
    clear hc hf hb HC
    go_wp2_with fail
    have r1 : ((w1.setCell ⟨w.heap.size, 1, none⟩ (Value.int .i64 (1))).setCell ⟨w.heap.size, 0, none⟩ (Value.int .i64 (0))).cell? ⟨w.heap.size, 0, none⟩ = some (.int .i64 (0)) := by go_simp
    have r2 : ((w1.setCell ⟨w.heap.size, 1, none⟩ (Value.int .i64 (1))).setCell ⟨w.heap.size, 0, none⟩ (Value.int .i64 (0))).cell? ⟨w.heap.size, 1, none⟩ = some (.int .i64 (1)) := by go_simp
    have r3 : ((w1.setCell ⟨w.heap.size, 1, none⟩ (Value.int .i64 (1))).setCell ⟨w.heap.size, 0, none⟩ (Value.int .i64 (0))).cell? ⟨w.heap.size + 1, 0, none⟩ = some (.int .i64 0) := by go_simp
    have r4 : ((w1.setCell ⟨w.heap.size, 1, none⟩ (Value.int .i64 (1))).setCell ⟨w.heap.size, 0, none⟩ (Value.int .i64 (0))).cell? ⟨w.heap.size + 1, 1, none⟩ = some (.int .i64 0) := by go_simp
    have r5 : ∀ o, ((w1.setCell ⟨w.heap.size, 1, none⟩ (Value.int .i64 (1))).setCell ⟨w.heap.size, 0, none⟩ (Value.int .i64 (0))).frozen? ⟨w.heap.size + 1, o, none⟩ = false := fun o => by go_simp
    clear k1 k2 k3 k4 k5 k6
    generalize ((w1.setCell ⟨w.heap.size, 1, none⟩ (Value.int .i64 (1))).setCell ⟨w.heap.size, 0, none⟩ (Value.int .i64 (0))) = w2 at *
    go_region
    go_wp2
    exact bodyPost_ret (v := Ticked (5) (0)) (by simp [results, Try.results33, go_sem, r1, r2, r3, r4, Ticked, nextQ, nextS]) rfl ⟨rfl, ((HB.out.setCell (by simp) _).setCell (by simp) _).drew⟩
  · have H3 := Law.hide hq3; clear hq3
    go_enter Try.func33, Try.ntmps33
    go_wp2_with fail
    refine (HC.out _).mono ?_
    rintro e w1 ⟨rfl, hb⟩
    obtain ⟨hc, hf⟩ := bcell hb
    have hz : w.heap.size + 1 < w1.heap.size := by (have := hb.size; simp at this; omega)
    have hz1 : w.heap.size < w1.heap.size := by omega
    have k1 : w1.cell? ⟨w.heap.size, 0, none⟩ = some (.int .i64 q) := (hc _ _ (by simp; omega)).trans (by go_simp)
    have k2 : w1.cell? ⟨w.heap.size, 1, none⟩ = some (.int .i64 0) := (hc _ _ (by simp; omega)).trans (by go_simp)
    have k3 : w1.cell? ⟨w.heap.size + 1, 0, none⟩ = some (.int .i64 0) := (hc _ _ (by simp)).trans (by go_simp)
    have k4 : w1.cell? ⟨w.heap.size + 1, 1, none⟩ = some (.int .i64 0) := (hc _ _ (by simp)).trans (by go_simp)
    have k5 : ∀ o, w1.frozen? ⟨w.heap.size, o, none⟩ = false := fun o => (hf _ _ (by simp; omega)).trans (by go_simp)
    have k6 : ∀ o, w1.frozen? ⟨w.heap.size + 1, o, none⟩ = false := fun o => (hf _ _ (by simp)).trans (by go_simp)
    have HB := Law.hide (((((Below.refl w.heap.size w).alloc (Nat.le_refl _) _).alloc (by simp) _).trans (hb.mono (by simp; omega))).setCell (p := ⟨w.heap.size, 1, none⟩) (by simp) (Value.int .i64 (1)) |>.setCell (p := ⟨w.heap.size, 0, none⟩) (by simp) (Value.int .i64 (q + 1)))
    clear hc hf hb HC
    go_wp2_with fail
    have r1 : ((w1.setCell ⟨w.heap.size, 1, none⟩ (Value.int .i64 (1))).setCell ⟨w.heap.size, 0, none⟩ (Value.int .i64 (q + 1))).cell? ⟨w.heap.size, 0, none⟩ = some (.int .i64 (q + 1)) := by go_simp
    have r2 : ((w1.setCell ⟨w.heap.size, 1, none⟩ (Value.int .i64 (1))).setCell ⟨w.heap.size, 0, none⟩ (Value.int .i64 (q + 1))).cell? ⟨w.heap.size, 1, none⟩ = some (.int .i64 (1)) := by go_simp
    have r3 : ((w1.setCell ⟨w.heap.size, 1, none⟩ (Value.int .i64 (1))).setCell ⟨w.heap.size, 0, none⟩ (Value.int .i64 (q + 1))).cell? ⟨w.heap.size + 1, 0, none⟩ = some (.int .i64 0) := by go_simp
    have r4 : ((w1.setCell ⟨w.heap.size, 1, none⟩ (Value.int .i64 (1))).setCell ⟨w.heap.size, 0, none⟩ (Value.int .i64 (q + 1))).cell? ⟨w.heap.size + 1, 1, none⟩ = some (.int .i64 0) := by go_simp
    have r5 : ∀ o, ((w1.setCell ⟨w.heap.size, 1, none⟩ (Value.int .i64 (1))).setCell ⟨w.heap.size, 0, none⟩ (Value.int .i64 (q + 1))).frozen? ⟨w.heap.size + 1, o, none⟩ = false := fun o => by go_simp
    clear k1 k2 k3 k4 k5 k6
    generalize ((w1.setCell ⟨w.heap.size, 1, none⟩ (Value.int .i64 (1))).setCell ⟨w.heap.size, 0, none⟩ (Value.int .i64 (q + 1))) = w2 at *
    go_region
    go_wp2
    exact bodyPost_ret (v := Ticked (q) (0)) (by simp [results, Try.results33, go_sem, r1, r2, r3, r4, Ticked, nextQ, nextS, H3.out]) rfl ⟨rfl, ((HB.out.setCell (by simp) _).setCell (by simp) _).drew⟩
  · skip
    go_enter Try.func33, Try.ntmps33
    go_wp2_with fail
    refine (HC.out _).mono ?_
    rintro e w1 ⟨rfl, hb⟩
    obtain ⟨hc, hf⟩ := bcell hb
    have hz : w.heap.size + 1 < w1.heap.size := by (have := hb.size; simp at this; omega)
    have hz1 : w.heap.size < w1.heap.size := by omega
    have k1 : w1.cell? ⟨w.heap.size, 0, none⟩ = some (.int .i64 5) := (hc _ _ (by simp; omega)).trans (by go_simp)
    have k2 : w1.cell? ⟨w.heap.size, 1, none⟩ = some (.int .i64 1) := (hc _ _ (by simp; omega)).trans (by go_simp)
    have k3 : w1.cell? ⟨w.heap.size + 1, 0, none⟩ = some (.int .i64 0) := (hc _ _ (by simp)).trans (by go_simp)
    have k4 : w1.cell? ⟨w.heap.size + 1, 1, none⟩ = some (.int .i64 0) := (hc _ _ (by simp)).trans (by go_simp)
    have k5 : ∀ o, w1.frozen? ⟨w.heap.size, o, none⟩ = false := fun o => (hf _ _ (by simp; omega)).trans (by go_simp)
    have k6 : ∀ o, w1.frozen? ⟨w.heap.size + 1, o, none⟩ = false := fun o => (hf _ _ (by simp)).trans (by go_simp)
    have HB := Law.hide (((((Below.refl w.heap.size w).alloc (Nat.le_refl _) _).alloc (by simp) _).trans (hb.mono (by simp; omega))).setCell (p := ⟨w.heap.size, 1, none⟩) (by simp) (Value.int .i64 (0)) |>.setCell (p := ⟨w.heap.size, 0, none⟩) (by simp) (Value.int .i64 (0)))
    clear hc hf hb HC
    go_wp2_with fail
    have r1 : ((w1.setCell ⟨w.heap.size, 1, none⟩ (Value.int .i64 (0))).setCell ⟨w.heap.size, 0, none⟩ (Value.int .i64 (0))).cell? ⟨w.heap.size, 0, none⟩ = some (.int .i64 (0)) := by go_simp
    have r2 : ((w1.setCell ⟨w.heap.size, 1, none⟩ (Value.int .i64 (0))).setCell ⟨w.heap.size, 0, none⟩ (Value.int .i64 (0))).cell? ⟨w.heap.size, 1, none⟩ = some (.int .i64 (0)) := by go_simp
    have r3 : ((w1.setCell ⟨w.heap.size, 1, none⟩ (Value.int .i64 (0))).setCell ⟨w.heap.size, 0, none⟩ (Value.int .i64 (0))).cell? ⟨w.heap.size + 1, 0, none⟩ = some (.int .i64 0) := by go_simp
    have r4 : ((w1.setCell ⟨w.heap.size, 1, none⟩ (Value.int .i64 (0))).setCell ⟨w.heap.size, 0, none⟩ (Value.int .i64 (0))).cell? ⟨w.heap.size + 1, 1, none⟩ = some (.int .i64 0) := by go_simp
    have r5 : ∀ o, ((w1.setCell ⟨w.heap.size, 1, none⟩ (Value.int .i64 (0))).setCell ⟨w.heap.size, 0, none⟩ (Value.int .i64 (0))).frozen? ⟨w.heap.size + 1, o, none⟩ = false := fun o => by go_simp
    clear k1 k2 k3 k4 k5 k6
    generalize ((w1.setCell ⟨w.heap.size, 1, none⟩ (Value.int .i64 (0))).setCell ⟨w.heap.size, 0, none⟩ (Value.int .i64 (0))) = w2 at *
    go_region
    go_wp2
    exact bodyPost_ret (v := Ticked (5) (1)) (by simp [results, Try.results33, go_sem, r1, r2, r3, r4, Ticked, nextQ, nextS]) rfl ⟨rfl, ((HB.out.setCell (by simp) _).setCell (by simp) _).drew⟩
  · have H3 := Law.hide hq3; clear hq3
    go_enter Try.func33, Try.ntmps33
    go_wp2_with fail
    refine (HC.out _).mono ?_
    rintro e w1 ⟨rfl, hb⟩
    obtain ⟨hc, hf⟩ := bcell hb
    have hz : w.heap.size + 1 < w1.heap.size := by (have := hb.size; simp at this; omega)
    have hz1 : w.heap.size < w1.heap.size := by omega
    have k1 : w1.cell? ⟨w.heap.size, 0, none⟩ = some (.int .i64 q) := (hc _ _ (by simp; omega)).trans (by go_simp)
    have k2 : w1.cell? ⟨w.heap.size, 1, none⟩ = some (.int .i64 1) := (hc _ _ (by simp; omega)).trans (by go_simp)
    have k3 : w1.cell? ⟨w.heap.size + 1, 0, none⟩ = some (.int .i64 0) := (hc _ _ (by simp)).trans (by go_simp)
    have k4 : w1.cell? ⟨w.heap.size + 1, 1, none⟩ = some (.int .i64 0) := (hc _ _ (by simp)).trans (by go_simp)
    have k5 : ∀ o, w1.frozen? ⟨w.heap.size, o, none⟩ = false := fun o => (hf _ _ (by simp; omega)).trans (by go_simp)
    have k6 : ∀ o, w1.frozen? ⟨w.heap.size + 1, o, none⟩ = false := fun o => (hf _ _ (by simp)).trans (by go_simp)
    have HB := Law.hide (((((Below.refl w.heap.size w).alloc (Nat.le_refl _) _).alloc (by simp) _).trans (hb.mono (by simp; omega))).setCell (p := ⟨w.heap.size, 1, none⟩) (by simp) (Value.int .i64 (0)) |>.setCell (p := ⟨w.heap.size, 0, none⟩) (by simp) (Value.int .i64 (q + 1)))
    clear hc hf hb HC
    go_wp2_with fail
    have r1 : ((w1.setCell ⟨w.heap.size, 1, none⟩ (Value.int .i64 (0))).setCell ⟨w.heap.size, 0, none⟩ (Value.int .i64 (q + 1))).cell? ⟨w.heap.size, 0, none⟩ = some (.int .i64 (q + 1)) := by go_simp
    have r2 : ((w1.setCell ⟨w.heap.size, 1, none⟩ (Value.int .i64 (0))).setCell ⟨w.heap.size, 0, none⟩ (Value.int .i64 (q + 1))).cell? ⟨w.heap.size, 1, none⟩ = some (.int .i64 (0)) := by go_simp
    have r3 : ((w1.setCell ⟨w.heap.size, 1, none⟩ (Value.int .i64 (0))).setCell ⟨w.heap.size, 0, none⟩ (Value.int .i64 (q + 1))).cell? ⟨w.heap.size + 1, 0, none⟩ = some (.int .i64 0) := by go_simp
    have r4 : ((w1.setCell ⟨w.heap.size, 1, none⟩ (Value.int .i64 (0))).setCell ⟨w.heap.size, 0, none⟩ (Value.int .i64 (q + 1))).cell? ⟨w.heap.size + 1, 1, none⟩ = some (.int .i64 0) := by go_simp
    have r5 : ∀ o, ((w1.setCell ⟨w.heap.size, 1, none⟩ (Value.int .i64 (0))).setCell ⟨w.heap.size, 0, none⟩ (Value.int .i64 (q + 1))).frozen? ⟨w.heap.size + 1, o, none⟩ = false := fun o => by go_simp
    clear k1 k2 k3 k4 k5 k6
    generalize ((w1.setCell ⟨w.heap.size, 1, none⟩ (Value.int .i64 (0))).setCell ⟨w.heap.size, 0, none⟩ (Value.int .i64 (q + 1))) = w2 at *
    go_region
    go_wp2
    exact bodyPost_ret (v := Ticked (q) (1)) (by simp [results, Try.results33, go_sem, r1, r2, r3, r4, Ticked, nextQ, nextS, H3.out]) rfl ⟨rfl, ((HB.out.setCell (by simp) _).setCell (by simp) _).drew⟩

theorem rtick_ok (q s : Int) (w : World) (h : mayT q s = true) : Calls Try.prog 37 #[.agg #[.int .i64 q, .int .i64 s]] w (Makes (Ticked3 q s) w) := by
  obtain ⟨h1, h2, h3, h4⟩ := (mayT_iff q s).1 h
  clear h
  have hs : s = 0 ∨ s = 1 := by omega
  have hq : q = 5 ∨ (q + 1 == 6) = false ∧ q ≠ 5 := by
    by_cases h : q = 5
    · exact .inl h
    · exact .inr ⟨bne_ff (by omega), h⟩
  rcases hs with rfl | rfl <;> rcases hq with rfl | ⟨hq1, hq3⟩
  · skip
    go_enter Try.func37, Try.ntmps37
    go_wp2
    exact bodyPost_ret (v := Ticked3 (5) (0)) (by simp [results, Try.results37, go_sem, Ticked3, nextQ, nextS]) rfl ⟨rfl, by repeat (first | exact ((Below.refl _ _).alloc (Nat.le_refl _) _).alloc (by simp) _ | refine Below.setCell ?_ (by simp) _)⟩
  · have H3 := Law.hide hq3; clear hq3
    go_enter Try.func37, Try.ntmps37
    go_wp2
    exact bodyPost_ret (v := Ticked3 (q) (0)) (by simp [results, Try.results37, go_sem, Ticked3, nextQ, nextS, H3.out]) rfl ⟨rfl, by repeat (first | exact ((Below.refl _ _).alloc (Nat.le_refl _) _).alloc (by simp) _ | refine Below.setCell ?_ (by simp) _)⟩
  · skip
    go_enter Try.func37, Try.ntmps37
    go_wp2
    exact bodyPost_ret (v := Ticked3 (5) (1)) (by simp [results, Try.results37, go_sem, Ticked3, nextQ, nextS]) rfl ⟨rfl, by repeat (first | exact ((Below.refl _ _).alloc (Nat.le_refl _) _).alloc (by simp) _ | refine Below.setCell ?_ (by simp) _)⟩
  · have H3 := Law.hide hq3; clear hq3
    go_enter Try.func37, Try.ntmps37
    go_wp2
    exact bodyPost_ret (v := Ticked3 (q) (1)) (by simp [results, Try.results37, go_sem, Ticked3, nextQ, nextS, H3.out]) rfl ⟨rfl, by repeat (first | exact ((Below.refl _ _).alloc (Nat.le_refl _) _).alloc (by simp) _ | refine Below.setCell ?_ (by simp) _)⟩

def Heard (q s : Int) : Value := .tuple #[.agg #[.int .i64 0, .int .i64 s], .int .i64 0]
def NotHeard : Value := .tuple #[.agg #[.int .i64 0, .int .i64 0], .int .i64 1]
theorem heard_no (q s : Int) (w : World) (h : mayT q s = false) : Calls Try.prog 32 #[.agg #[.int .i64 q, .int .i64 s]] w (Makes NotHeard w) := by
  have hc := check_any q s
  rw [chkT_ff h] at hc
  have HC := Law.hide hc; clear hc h
  go_enter Try.func32, Try.ntmps32
  go_wp2_with fail
  refine (HC.out _).mono ?_
  rintro e w1 ⟨rfl, hb⟩
  obtain ⟨hc, hf⟩ := bcell hb
  have hz : w.heap.size + 1 < w1.heap.size := by (have := hb.size; simp at this; omega)
  go_wp2_with fail
  exact bodyPost_ret (v := NotHeard) (by simp [results, Try.results32, go_sem, hc, NotHeard]) rfl
    ⟨rfl, ((((Below.refl _ _).alloc (Nat.le_refl _) _).alloc (by simp) _).trans (hb.mono (by simp; omega))).setCell (by simp) _ |>.setCell (by simp) _⟩
theorem heard_ok (q s : Int) (w : World) (h : mayT q s = true) : Calls Try.prog 32 #[.agg #[.int .i64 q, .int .i64 s]] w (Makes (Heard q s) w) := by
  have hc := check_any q s
  rw [chkT_tt h] at hc
  have HC := Law.hide hc; clear hc h
  go_enter Try.func32, Try.ntmps32
  go_wp2_with fail
  refine (HC.out _).mono ?_
  rintro e w1 ⟨rfl, hb⟩
  obtain ⟨hc, hf⟩ := bcell hb
  have hz : w.heap.size + 1 < w1.heap.size := by (have := hb.size; simp at this; omega)
  have hz1 : w.heap.size < w1.heap.size := by omega
  have k1 : w1.cell? ⟨w.heap.size, 0, none⟩ = some (.int .i64 q) := (hc _ _ (by simp; omega)).trans (by go_simp)
  have k2 : w1.cell? ⟨w.heap.size, 1, none⟩ = some (.int .i64 s) := (hc _ _ (by simp; omega)).trans (by go_simp)
  have k3 : w1.cell? ⟨w.heap.size + 1, 0, none⟩ = some (.int .i64 0) := (hc _ _ (by simp)).trans (by go_simp)
  have k4 : w1.cell? ⟨w.heap.size + 1, 1, none⟩ = some (.int .i64 0) := (hc _ _ (by simp)).trans (by go_simp)
  have k5 : ∀ o, w1.frozen? ⟨w.heap.size, o, none⟩ = false := fun o => (hf _ _ (by simp; omega)).trans (by go_simp)
  have k6 : ∀ o, w1.frozen? ⟨w.heap.size + 1, o, none⟩ = false := fun o => (hf _ _ (by simp)).trans (by go_simp)
  have HB := Law.hide ((((Below.refl w.heap.size w).alloc (Nat.le_refl _) _).alloc (by simp) _).trans (hb.mono (by simp; omega)))
  clear hc hf hb
  go_wp2_with fail
  exact bodyPost_ret (v := Heard q s) (by simp [results, Try.results32, go_sem, k3, k4, Heard]) rfl
    ⟨rfl, ((HB.out.setCell (by simp) _).setCell (by simp) _).setCell (by simp) _⟩
end Go.Proofs.Ytcbfccadodikgaa.Beat
