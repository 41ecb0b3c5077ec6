/-
  Layer 16's functions: which ends there are, and what each step makes of one. No condition.
-/
import Derived.Test.YtcbfccadodikgaaNode
import Derived.RegionTactic
import Derived.BigRegion
import Derived.ChangeAlike
namespace Go.Proofs.Ytcbfccadodikgaa.Hand
open Go.RowKit Go.Proofs.Ytcbfccadodikgaa.Law Go.Proofs.Ytcbfccadodikgaa.Node

def openB (l c p : Int) (o : Bool) : Bool := c == l && (c != 0 && (p == 0 && !o))
def openingB (l c p : Int) (o : Bool) : Bool := c == 0 && (decide (l < p) && (decide (p ≤ 2147483647) && !o))
def overB (c p : Int) (o : Bool) : Bool := c == 0 && (p == 0 && o)
def limitB (n : Int) : Bool := decide (1 ≤ n) && decide (n ≤ 2147483647)

theorem isOpen_any (l c p : Int) (o : Bool) (w : World) : Calls Try.prog 54 #[.agg #[.int .i64 l, .int .i64 c, .int .i64 p, .bool o]] w (Makes (.bool (c == l && (c != 0 && (p == 0 && !o)))) w) := by
  cases h0 : c == l
  · skip
    go_enter Try.func54, Try.ntmps54
    go_wp2
    go_ret
    exact ⟨ret_bool (by first | rfl | (simp; done) | (simp [h0]; done) | (simp [h0]; intros; omega)), (Below.refl _ _).alloc (Nat.le_refl _) _⟩
  · skip
    cases h1 : c != 0
    · skip
      go_enter Try.func54, Try.ntmps54
      go_wp2
      go_ret
      exact ⟨ret_bool (by first | rfl | (simp; done) | (simp [h0, h1]; done) | (simp [h0, h1]; intros; omega)), (Below.refl _ _).alloc (Nat.le_refl _) _⟩
    · skip
      cases h2 : p == 0
      · skip
        go_enter Try.func54, Try.ntmps54
        go_wp2
        go_ret
        exact ⟨ret_bool (by first | rfl | (simp; done) | (simp [h0, h1, h2]; done) | (simp [h0, h1, h2]; intros; omega)), (Below.refl _ _).alloc (Nat.le_refl _) _⟩
      · skip
        go_enter Try.func54, Try.ntmps54
        go_wp2
        go_ret
        exact ⟨ret_bool (by first | rfl | (simp; done) | (simp [h0, h1, h2]; done) | (simp [h0, h1, h2]; intros; omega)), (Below.refl _ _).alloc (Nat.le_refl _) _⟩

theorem isOpening_any (l c p : Int) (o : Bool) (w : World) : Calls Try.prog 55 #[.agg #[.int .i64 l, .int .i64 c, .int .i64 p, .bool o]] w (Makes (.bool (c == 0 && (decide (l < p) && (decide (p ≤ 2147483647) && !o)))) w) := by
  cases h0 : c == 0
  · skip
    go_enter Try.func55, Try.ntmps55
    go_wp2
    go_ret
    exact ⟨ret_bool (by first | rfl | (simp; done) | (simp [h0]; done) | (simp [h0]; intros; omega)), (Below.refl _ _).alloc (Nat.le_refl _) _⟩
  · skip
    by_cases h1 : l < p
    rotate_left
    · skip
      go_enter Try.func55, Try.ntmps55
      go_wp2
      go_ret
      exact ⟨ret_bool (by first | rfl | (simp; done) | (simp [h0, h1]; done) | (simp [h0, h1]; intros; omega)), (Below.refl _ _).alloc (Nat.le_refl _) _⟩
    · skip
      by_cases h2 : p ≤ 2147483647
      rotate_left
      · skip
        go_enter Try.func55, Try.ntmps55
        go_wp2
        go_ret
        exact ⟨ret_bool (by first | rfl | (simp; done) | (simp [h0, h1, h2]; done) | (simp [h0, h1, h2]; intros; omega)), (Below.refl _ _).alloc (Nat.le_refl _) _⟩
      · skip
        go_enter Try.func55, Try.ntmps55
        go_wp2
        go_ret
        exact ⟨ret_bool (by first | rfl | (simp; done) | (simp [h0, h1, h2]; done) | (simp [h0, h1, h2]; intros; omega)), (Below.refl _ _).alloc (Nat.le_refl _) _⟩

theorem isOver_any (l c p : Int) (o : Bool) (w : World) : Calls Try.prog 56 #[.agg #[.int .i64 l, .int .i64 c, .int .i64 p, .bool o]] w (Makes (.bool (c == 0 && (p == 0 && o))) w) := by
  cases h0 : c == 0
  · skip
    go_enter Try.func56, Try.ntmps56
    go_wp2
    go_ret
    exact ⟨ret_bool (by first | rfl | (simp; done) | (simp [h0]; done) | (simp [h0]; intros; omega)), (Below.refl _ _).alloc (Nat.le_refl _) _⟩
  · skip
    cases h1 : p == 0
    · skip
      go_enter Try.func56, Try.ntmps56
      go_wp2
      go_ret
      exact ⟨ret_bool (by first | rfl | (simp; done) | (simp [h0, h1]; done) | (simp [h0, h1]; intros; omega)), (Below.refl _ _).alloc (Nat.le_refl _) _⟩
    · skip
      go_enter Try.func56, Try.ntmps56
      go_wp2
      go_ret
      exact ⟨ret_bool (by first | rfl | (simp; done) | (simp [h0, h1]; done) | (simp [h0, h1]; intros; omega)), (Below.refl _ _).alloc (Nat.le_refl _) _⟩

theorem limit_any (n : Int) (w : World) : Calls Try.prog 53 #[.int .i64 n] w fun e w' => e = .returned (.bool (limitB n)) ∧ w = w' := by
  by_cases h1 : 1 ≤ n <;> by_cases h2 : n ≤ 2147483647
  all_goals
    go_enter Try.func53, Try.ntmps53
    go_wp2
    go_ret
    exact ⟨ret_bool (by first | (simp [limitB, h1, h2]; done) | (simp [limitB]; omega)), rfl⟩
theorem rlimit_any (n : Int) (w : World) : Calls Try.prog 43 #[.int .i64 n] w fun e w' => e = .returned (.bool (limitB n)) ∧ w = w' := by
  by_cases h1 : 1 ≤ n <;> by_cases h2 : n ≤ 2147483647
  all_goals
    go_enter Try.func43, Try.ntmps43
    go_wp2
    go_ret
    exact ⟨ret_bool (by first | (simp [limitB, h1, h2]; done) | (simp [limitB]; omega)), rfl⟩

def HandV (l c p : Int) (o : Bool) : Value := .agg #[.int .i64 l, .int .i64 c, .int .i64 p, .bool o]
def HandE (l c p : Int) (o : Bool) (e : Int) : Value := .tuple #[HandV l c p o, .int .i64 e]
theorem isOpen (l c p : Int) (o : Bool) (w : World) : Calls Try.prog 54 #[.agg #[.int .i64 l, .int .i64 c, .int .i64 p, .bool o]] w (Makes (.bool (openB l c p o)) w) := isOpen_any l c p o w
theorem isOpening (l c p : Int) (o : Bool) (w : World) : Calls Try.prog 55 #[.agg #[.int .i64 l, .int .i64 c, .int .i64 p, .bool o]] w (Makes (.bool (openingB l c p o)) w) := isOpening_any l c p o w
theorem isOver (l c p : Int) (o : Bool) (w : World) : Calls Try.prog 56 #[.agg #[.int .i64 l, .int .i64 c, .int .i64 p, .bool o]] w (Makes (.bool (overB c p o)) w) := isOver_any l c p o w

def mayH (l c p : Int) (o : Bool) : Bool := decide (0 ≤ l) && (decide (l ≤ 2147483647) && (openB l c p o || (openingB l c p o || overB c p o)))
def chkH (l c p : Int) (o : Bool) : Int := if mayH l c p o = true then 0 else 1
theorem chkH_tt {l c p : Int} {o : Bool} (h : mayH l c p o = true) : chkH l c p o = 0 := by simp [chkH, h]
theorem chkH_ff {l c p : Int} {o : Bool} (h : mayH l c p o = false) : chkH l c p o = 1 := by simp [chkH, h]
theorem may_cases (l c p : Int) (o : Bool) : l < 0 ∧ mayH l c p o = false ∨ 0 ≤ l ∧ 2147483647 < l ∧ mayH l c p o = false ∨ 0 ≤ l ∧ l ≤ 2147483647 ∧ openB l c p o = true ∧ mayH l c p o = true ∨
    0 ≤ l ∧ l ≤ 2147483647 ∧ openB l c p o = false ∧ openingB l c p o = true ∧ mayH l c p o = true ∨ 0 ≤ l ∧ l ≤ 2147483647 ∧ openB l c p o = false ∧ openingB l c p o = false ∧ overB c p o = true ∧ mayH l c p o = true ∨
    0 ≤ l ∧ l ≤ 2147483647 ∧ openB l c p o = false ∧ openingB l c p o = false ∧ overB c p o = false ∧ mayH l c p o = false := by
  unfold mayH
  by_cases h1 : 0 ≤ l
  · by_cases h2 : l ≤ 2147483647
    · cases openB l c p o <;> cases openingB l c p o <;> cases overB c p o <;> simp [h1, h2]
    · simp [h1, h2]; omega
  · simp [h1]; omega

theorem check_any (l c p : Int) (o : Bool) (w : World) : Calls Try.prog 41 #[.agg #[.int .i64 l, .int .i64 c, .int .i64 p, .bool o]] w (Makes (.int .i64 (chkH l c p o)) w) := by
  rcases may_cases l c p o with ⟨h1, h0⟩ | ⟨h1, h2, h0⟩ | ⟨h1, h2, h3, h0⟩ | ⟨h1, h2, h3, h4, h0⟩ | ⟨h1, h2, h3, h4, h5, h0⟩ | ⟨h1, h2, h3, h4, h5, h0⟩
  all_goals
    first
      | rw [chkH_tt h0]
      | rw [chkH_ff h0]
    clear h0
    go_enter Try.func41, Try.ntmps41
    go_wp2_with fail
    first
      | (go_ret; exact ⟨rfl, (Below.refl _ _).alloc (Nat.le_refl _) _⟩)
      | skip
  all_goals
    refine (isOpen _ _ _ _ _).mono ?_
    rintro e w1 ⟨rfl, hb⟩
    have k1 := ((Kept.start w).new4 67 (.int .i64 l) (.int .i64 c) (.int .i64 p) (.bool o)).call hb
    clear hb
    obtain ⟨⟨za, ca⟩, ra⟩ := k1.head
    obtain ⟨⟨zb, cb⟩, rb⟩ := ra.head
    obtain ⟨⟨zc, cc⟩, rc⟩ := rb.head
    obtain ⟨⟨zd, cd⟩, rd⟩ := rc.head
    go_wp2_with fail
    first
      | (go_ret; exact ⟨rfl, k1.1⟩)
      | skip
  all_goals
    refine (isOpening _ _ _ _ _).mono ?_
    rintro e w2 ⟨rfl, hb⟩
    have k2 := k1.call hb
    clear hb za ca zb cb zc cc zd cd ra rb rc rd
    obtain ⟨⟨za, ca⟩, ra⟩ := k2.head
    obtain ⟨⟨zb, cb⟩, rb⟩ := ra.head
    obtain ⟨⟨zc, cc⟩, rc⟩ := rb.head
    obtain ⟨⟨zd, cd⟩, rd⟩ := rc.head
    go_wp2_with fail
    first
      | (go_ret; exact ⟨rfl, k2.1⟩)
      | skip
  all_goals
    refine (isOver _ _ _ _ _).mono ?_
    rintro e w3 ⟨rfl, hb⟩
    have k3 := k2.call hb
    go_wp2_with fail
    go_ret
    exact ⟨rfl, k3.1⟩

theorem mayH_over (l c p : Int) : mayH l c p true = (decide (0 ≤ l) && (decide (l ≤ 2147483647) && (c == 0 && p == 0))) := by
  rw [Bool.eq_iff_iff]
  simp [mayH, openB, openingB, overB]
theorem mayH_open (l c p : Int) (h : c ≠ 0) : mayH l c p false = (decide (0 ≤ l) && (decide (l ≤ 2147483647) && (c == l && p == 0))) := by
  rw [Bool.eq_iff_iff]
  simp [mayH, openB, openingB, overB, h]
theorem mayH_opening (l p : Int) : mayH l 0 p false = (decide (0 ≤ l) && (decide (l ≤ 2147483647) && (decide (l < p) && decide (p ≤ 2147483647)))) := by
  rw [Bool.eq_iff_iff]
  simp [mayH, openB, openingB, overB]
theorem may_any (l c p : Int) (o : Bool) (w : World) : Calls Try.prog 42 #[.agg #[.int .i64 l, .int .i64 c, .int .i64 p, .bool o]] w (Makes (.bool (mayH l c p o)) w) := by
  by_cases h1 : 0 ≤ l
  · by_cases h2 : l ≤ 2147483647
    · cases o
      · by_cases h3 : c = 0
        · subst h3
          rw [mayH_opening]
          have h4 : ¬ l < p ∨ l < p ∧ p ≤ 2147483647 ∨ l < p ∧ ¬ p ≤ 2147483647 := by omega
          rcases h4 with h4 | ⟨h4, h5⟩ | ⟨h4, h5⟩
          all_goals
            go_enter Try.func42, Try.ntmps42
            go_wp2
            go_ret
            exact ⟨ret_bool (by first | rfl | (simp; done) | (simp; omega)), (Below.refl _ _).alloc (Nat.le_refl _) _⟩
        · rw [mayH_open l c p h3]
          have h4 : (c != 0) = true := by simpa using h3
          clear h3
          cases h5 : c == l <;> cases h6 : p == 0
          all_goals
            go_enter Try.func42, Try.ntmps42
            go_wp2
            go_ret
            exact ⟨ret_bool (by first | rfl | (simp; done) | (simp; omega)), (Below.refl _ _).alloc (Nat.le_refl _) _⟩
      · rw [mayH_over]
        cases h5 : c == 0 <;> cases h6 : p == 0
        all_goals
          go_enter Try.func42, Try.ntmps42
          go_wp2
          go_ret
          exact ⟨ret_bool (by first | rfl | (simp; done) | (simp; omega)), (Below.refl _ _).alloc (Nat.le_refl _) _⟩
    · go_enter Try.func42, Try.ntmps42
      go_wp2
      go_ret
      exact ⟨ret_bool (by simp [mayH]; omega), (Below.refl _ _).alloc (Nat.le_refl _) _⟩
  · go_enter Try.func42, Try.ntmps42
    go_wp2
    go_ret
    exact ⟨ret_bool (by simp [mayH]; omega), (Below.refl _ _).alloc (Nat.le_refl _) _⟩

theorem new_bad (last limit : Int) (w : World) (h : ¬ (0 ≤ last ∧ last ≤ 2147483647 ∧ limitB limit = true)) : Calls Try.prog 39 #[.int .i64 last, .int .i64 limit] w (Makes (HandE 0 0 0 false 1) w) := by
  have hn : last < 0 ∨ 0 ≤ last ∧ 2147483647 < last ∨ 0 ≤ last ∧ last ≤ 2147483647 ∧ limitB limit = false := by
    by_cases h1 : 0 ≤ last
    · by_cases h2 : last ≤ 2147483647
      · exact .inr (.inr ⟨h1, h2, by simpa [h1, h2] using h⟩)
      · exact .inr (.inl ⟨h1, by omega⟩)
    · exact .inl (by omega)
  clear h
  rcases hn with h1 | ⟨h1, h2⟩ | ⟨h1, h2, h3⟩
  all_goals
    go_enter Try.func39, Try.ntmps39
    go_wp2_with (go_at_call 53; refine (limit_any _ _).mono ?_; rintro e w' ⟨rfl, rfl⟩)
    exact bodyPost_ret (v := HandE 0 0 0 false 1) (by simp [results, Try.results39, go_sem, HandE, HandV]) rfl ⟨rfl, by repeat (first | exact (Below.refl _ _).alloc (Nat.le_refl _) _ | refine Below.setCell ?_ (by simp) _)⟩
theorem new_over (last limit : Int) (w : World) (h1 : 0 ≤ last) (h2 : last ≤ 2147483647) (h3 : limitB limit = true) (h4 : limit ≤ last) : Calls Try.prog 39 #[.int .i64 last, .int .i64 limit] w (Makes (HandE last 0 0 true 0) w) := by
  go_enter Try.func39, Try.ntmps39
  go_wp2_with (go_at_call 53; refine (limit_any _ _).mono ?_; rintro e w' ⟨rfl, rfl⟩)
  exact bodyPost_ret (v := HandE last 0 0 true 0) (by simp [results, Try.results39, go_sem, HandE, HandV]) rfl ⟨rfl, by repeat (first | exact (Below.refl _ _).alloc (Nat.le_refl _) _ | refine Below.setCell ?_ (by simp) _)⟩
theorem new_ok (last limit : Int) (w : World) (h1 : 0 ≤ last) (h2 : last ≤ 2147483647) (h3 : limitB limit = true) (h4 : last < limit) : Calls Try.prog 39 #[.int .i64 last, .int .i64 limit] w (Makes (HandE last 0 (last + 1) false 0) w) := by
  go_enter Try.func39, Try.ntmps39
  go_wp2_with (go_at_call 53; refine (limit_any _ _).mono ?_; rintro e w' ⟨rfl, rfl⟩)
  exact bodyPost_ret (v := HandE last 0 (last + 1) false 0) (by simp [results, Try.results39, go_sem, HandE, HandV]) rfl ⟨rfl, by repeat (first | exact (Below.refl _ _).alloc (Nat.le_refl _) _ | refine Below.setCell ?_ (by simp) _)⟩

theorem rnew_over (last limit : Int) (w : World) (h1 : 0 ≤ last) (h2 : last ≤ 2147483647) (h4 : limit ≤ last) : Calls Try.prog 44 #[.int .i64 last, .int .i64 limit] w (Makes (HandV last 0 0 true) w) := by
  go_enter Try.func44, Try.ntmps44
  go_wp2
  exact bodyPost_ret (v := HandV last 0 0 true) (by simp [results, Try.results44, go_sem, HandV]) rfl ⟨rfl, by repeat (first | exact (Below.refl _ _).alloc (Nat.le_refl _) _ | refine Below.setCell ?_ (by simp) _)⟩
theorem rnew_ok (last limit : Int) (w : World) (h1 : 0 ≤ last) (h2 : last ≤ 2147483647) (h4 : last < limit) : Calls Try.prog 44 #[.int .i64 last, .int .i64 limit] w (Makes (HandV last 0 (last + 1) false) w) := by
  go_enter Try.func44, Try.ntmps44
  go_wp2
  exact bodyPost_ret (v := HandV last 0 (last + 1) false) (by simp [results, Try.results44, go_sem, HandV]) rfl ⟨rfl, by repeat (first | exact (Below.refl _ _).alloc (Nat.le_refl _) _ | refine Below.setCell ?_ (by simp) _)⟩
end Go.Proofs.Ytcbfccadodikgaa.Hand
