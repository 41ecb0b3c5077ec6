/-
  Layer 16's steps, by the shape of an end (over, opening, open, none): what each makes of it, and the reference's. No condition.
-/
import Derived.Test.YtcbfccadodikgaaHand
import Derived.Test.YtcbfccadodikgaaHeld
namespace Go.Proofs.Ytcbfccadodikgaa.HandSteps
open Go.RowKit Go.Proofs.Ytcbfccadodikgaa.Law Go.Proofs.Ytcbfccadodikgaa.Node Go.Proofs.Ytcbfccadodikgaa.Hand

/-- An end that may be has one of three shapes. -/
theorem shapes (l c p : Int) (o : Bool) (h : mayH l c p o = true) : (c = 0 ∧ p = 0 ∧ o = true ∧ 0 ≤ l ∧ l ≤ 2147483647) ∨ (c = 0 ∧ o = false ∧ 0 ≤ l ∧ l < p ∧ p ≤ 2147483647) ∨ (c = l ∧ p = 0 ∧ o = false ∧ 1 ≤ l ∧ l ≤ 2147483647) := by
  simp only [mayH, openB, openingB, overB, Bool.and_eq_true, Bool.or_eq_true, decide_eq_true_eq, beq_iff_eq, bne_iff_ne, Bool.not_eq_true'] at h
  obtain ⟨h1, h2, h3⟩ := h
  rcases h3 with ⟨a, b, d, e⟩ | ⟨a, b, d, e⟩ | ⟨a, b, d⟩
  · exact .inr (.inr ⟨a, d, e, by omega, h2⟩)
  · exact .inr (.inl ⟨a, e, h1, b, d⟩)
  · exact .inl ⟨a, b, d, h1, h2⟩
theorem facts_over (l : Int) (h0 : 0 ≤ l) (h1 : l ≤ 2147483647) : mayH l 0 0 true = true ∧ openB l 0 0 true = false ∧ openingB l 0 0 true = false ∧ overB 0 0 true = true := by
  simp [mayH, openB, openingB, overB]
  omega
theorem facts_opening (l p : Int) (h0 : 0 ≤ l) (h1 : l < p) (h2 : p ≤ 2147483647) : mayH l 0 p false = true ∧ openB l 0 p false = false ∧ openingB l 0 p false = true ∧ overB 0 p false = false := by
  simp [mayH, openB, openingB, overB]
  omega
theorem facts_open (l : Int) (h0 : 1 ≤ l) (h1 : l ≤ 2147483647) : mayH l l 0 false = true ∧ openB l l 0 false = true ∧ openingB l l 0 false = false ∧ overB l 0 false = false := by
  simp [mayH, openB, openingB, overB]
  omega

def HandQ (l c p : Int) (o a b : Bool) (e : Int) : Value := .tuple #[HandV l c p o, .bool a, .bool b, .int .i64 e]
def HandQ3 (l c p : Int) (o a b : Bool) : Value := .tuple #[HandV l c p o, .bool a, .bool b]
def HandW (l c p : Int) (o a : Bool) (e : Int) : Value := .tuple #[HandV l c p o, .bool a, .int .i64 e]
def HandW2 (l c p : Int) (o a : Bool) : Value := .tuple #[HandV l c p o, .bool a]
theorem check_tt (l c p : Int) (o : Bool) (h : mayH l c p o = true) (w : World) : Calls Try.prog 41 #[.agg #[.int .i64 l, .int .i64 c, .int .i64 p, .bool o]] w (Makes (.int .i64 0) w) := by
  have := check_any l c p o w
  rwa [chkH_tt h] at this
theorem check_ff (l c p : Int) (o : Bool) (h : mayH l c p o = false) (w : World) : Calls Try.prog 41 #[.agg #[.int .i64 l, .int .i64 c, .int .i64 p, .bool o]] w (Makes (.int .i64 1) w) := by
  have := check_any l c p o w
  rwa [chkH_ff h] at this
theorem close_bad (l c p : Int) (o : Bool) (n : Int) (w : World) (h : mayH l c p o = false) : Calls Try.prog 40 #[.agg #[.int .i64 (l), .int .i64 (c), .int .i64 (p), .bool o], .int .i64 n] w (Makes (HandE 0 0 0 false 1) w) := by
  have H := Law.hide h; clear h
  go_enter Try.func40, Try.ntmps40
  go_wp2_with fail
  refine (check_ff _ _ _ _ H.out _).mono ?_
  rintro e kw0 ⟨rfl, hb⟩
  have k0 := (((Held.start w).at4 (w.heap.size) (by simp) 67 (.int .i64 (l)) (.int .i64 (c)) (.int .i64 (p)) (.bool o)).at4 (w.heap.size + 1) (by simp) 67 (.int .i64 (0)) (.int .i64 (0)) (.int .i64 (0)) (.bool false)).call hb
  clear hb
  obtain ⟨zk0_0, ck0_0, fk0_0, rk0_0⟩ := k0.head
  obtain ⟨zk0_1, ck0_1, fk0_1, rk0_1⟩ := rk0_0.head
  obtain ⟨zk0_2, ck0_2, fk0_2, rk0_2⟩ := rk0_1.head
  obtain ⟨zk0_3, ck0_3, fk0_3, rk0_3⟩ := rk0_2.head
  obtain ⟨zk0_4, ck0_4, fk0_4, rk0_4⟩ := rk0_3.head
  obtain ⟨zk0_5, ck0_5, fk0_5, rk0_5⟩ := rk0_4.head
  obtain ⟨zk0_6, ck0_6, fk0_6, rk0_6⟩ := rk0_5.head
  obtain ⟨zk0_7, ck0_7, fk0_7, rk0_7⟩ := rk0_6.head
  go_wp2_with fail
  exact bodyPost_ret (v := HandE 0 0 0 false 1) (by simp [results, Try.results40, go_sem, HandE, HandV, HandQ, HandQ3, HandW, HandW2, ck0_0, ck0_1, ck0_2, ck0_3]) rfl ⟨rfl, ((((k0.1).setCell (by simp) _).setCell (by simp) _).setCell (by simp) _).setCell (by simp) _⟩
theorem close_nolimit (l c p : Int) (o : Bool) (n : Int) (w : World) (h : mayH l c p o = true) (hn : limitB n = false) : Calls Try.prog 40 #[.agg #[.int .i64 (l), .int .i64 (c), .int .i64 (p), .bool o], .int .i64 n] w (Makes (HandE 0 0 0 false 1) w) := by
  have H := Law.hide h; clear h
  go_enter Try.func40, Try.ntmps40
  go_wp2_with fail
  refine (check_tt _ _ _ _ H.out _).mono ?_
  rintro e kw0 ⟨rfl, hb⟩
  have k0 := (((Held.start w).at4 (w.heap.size) (by simp) 67 (.int .i64 (l)) (.int .i64 (c)) (.int .i64 (p)) (.bool o)).at4 (w.heap.size + 1) (by simp) 67 (.int .i64 (0)) (.int .i64 (0)) (.int .i64 (0)) (.bool false)).call hb
  clear hb
  obtain ⟨zk0_0, ck0_0, fk0_0, rk0_0⟩ := k0.head
  obtain ⟨zk0_1, ck0_1, fk0_1, rk0_1⟩ := rk0_0.head
  obtain ⟨zk0_2, ck0_2, fk0_2, rk0_2⟩ := rk0_1.head
  obtain ⟨zk0_3, ck0_3, fk0_3, rk0_3⟩ := rk0_2.head
  obtain ⟨zk0_4, ck0_4, fk0_4, rk0_4⟩ := rk0_3.head
  obtain ⟨zk0_5, ck0_5, fk0_5, rk0_5⟩ := rk0_4.head
  obtain ⟨zk0_6, ck0_6, fk0_6, rk0_6⟩ := rk0_5.head
  obtain ⟨zk0_7, ck0_7, fk0_7, rk0_7⟩ := rk0_6.head
  go_wp2_with fail
  refine (limit_any _ _).mono ?_
  rintro e kw1 ⟨rfl, rfl⟩
  go_wp2_with fail
  exact bodyPost_ret (v := HandE 0 0 0 false 1) (by simp [results, Try.results40, go_sem, HandE, HandV, HandQ, HandQ3, HandW, HandW2, ck0_0, ck0_1, ck0_2, ck0_3]) rfl ⟨rfl, ((((k0.1).setCell (by simp) _).setCell (by simp) _).setCell (by simp) _).setCell (by simp) _⟩
theorem hello_bad (l c p : Int) (o : Bool) (q n : Int) (w : World) (h : mayH l c p o = false) : Calls Try.prog 47 #[.agg #[.int .i64 (l), .int .i64 (c), .int .i64 (p), .bool o], .int .i64 q, .int .i64 n] w (Makes (HandQ 0 0 0 false false false 1) w) := by
  have H := Law.hide h; clear h
  go_enter Try.func47, Try.ntmps47
  go_wp2_with fail
  refine (check_ff _ _ _ _ H.out _).mono ?_
  rintro e kw0 ⟨rfl, hb⟩
  have k0 := (((Held.start w).at4 (w.heap.size) (by simp) 67 (.int .i64 (l)) (.int .i64 (c)) (.int .i64 (p)) (.bool o)).at4 (w.heap.size + 1) (by simp) 67 (.int .i64 (0)) (.int .i64 (0)) (.int .i64 (0)) (.bool false)).call hb
  clear hb
  obtain ⟨zk0_0, ck0_0, fk0_0, rk0_0⟩ := k0.head
  obtain ⟨zk0_1, ck0_1, fk0_1, rk0_1⟩ := rk0_0.head
  obtain ⟨zk0_2, ck0_2, fk0_2, rk0_2⟩ := rk0_1.head
  obtain ⟨zk0_3, ck0_3, fk0_3, rk0_3⟩ := rk0_2.head
  obtain ⟨zk0_4, ck0_4, fk0_4, rk0_4⟩ := rk0_3.head
  obtain ⟨zk0_5, ck0_5, fk0_5, rk0_5⟩ := rk0_4.head
  obtain ⟨zk0_6, ck0_6, fk0_6, rk0_6⟩ := rk0_5.head
  obtain ⟨zk0_7, ck0_7, fk0_7, rk0_7⟩ := rk0_6.head
  go_wp2_with fail
  exact bodyPost_ret (v := HandQ 0 0 0 false false false 1) (by simp [results, Try.results47, go_sem, HandE, HandV, HandQ, HandQ3, HandW, HandW2, ck0_0, ck0_1, ck0_2, ck0_3]) rfl ⟨rfl, ((((k0.1).setCell (by simp) _).setCell (by simp) _).setCell (by simp) _).setCell (by simp) _⟩
theorem hello_nolimit (l c p : Int) (o : Bool) (q n : Int) (w : World) (h : mayH l c p o = true) (hn : limitB n = false) : Calls Try.prog 47 #[.agg #[.int .i64 (l), .int .i64 (c), .int .i64 (p), .bool o], .int .i64 q, .int .i64 n] w (Makes (HandQ 0 0 0 false false false 1) w) := by
  have H := Law.hide h; clear h
  go_enter Try.func47, Try.ntmps47
  go_wp2_with fail
  refine (check_tt _ _ _ _ H.out _).mono ?_
  rintro e kw0 ⟨rfl, hb⟩
  have k0 := (((Held.start w).at4 (w.heap.size) (by simp) 67 (.int .i64 (l)) (.int .i64 (c)) (.int .i64 (p)) (.bool o)).at4 (w.heap.size + 1) (by simp) 67 (.int .i64 (0)) (.int .i64 (0)) (.int .i64 (0)) (.bool false)).call hb
  clear hb
  obtain ⟨zk0_0, ck0_0, fk0_0, rk0_0⟩ := k0.head
  obtain ⟨zk0_1, ck0_1, fk0_1, rk0_1⟩ := rk0_0.head
  obtain ⟨zk0_2, ck0_2, fk0_2, rk0_2⟩ := rk0_1.head
  obtain ⟨zk0_3, ck0_3, fk0_3, rk0_3⟩ := rk0_2.head
  obtain ⟨zk0_4, ck0_4, fk0_4, rk0_4⟩ := rk0_3.head
  obtain ⟨zk0_5, ck0_5, fk0_5, rk0_5⟩ := rk0_4.head
  obtain ⟨zk0_6, ck0_6, fk0_6, rk0_6⟩ := rk0_5.head
  obtain ⟨zk0_7, ck0_7, fk0_7, rk0_7⟩ := rk0_6.head
  go_wp2_with fail
  refine (limit_any _ _).mono ?_
  rintro e kw1 ⟨rfl, rfl⟩
  go_wp2_with fail
  exact bodyPost_ret (v := HandQ 0 0 0 false false false 1) (by simp [results, Try.results47, go_sem, HandE, HandV, HandQ, HandQ3, HandW, HandW2, ck0_0, ck0_1, ck0_2, ck0_3]) rfl ⟨rfl, ((((k0.1).setCell (by simp) _).setCell (by simp) _).setCell (by simp) _).setCell (by simp) _⟩
theorem welcome_bad (l c p : Int) (o : Bool) (q : Int) (w : World) (h : mayH l c p o = false) : Calls Try.prog 48 #[.agg #[.int .i64 (l), .int .i64 (c), .int .i64 (p), .bool o], .int .i64 q] w (Makes (HandW 0 0 0 false false 1) w) := by
  have H := Law.hide h; clear h
  go_enter Try.func48, Try.ntmps48
  go_wp2_with fail
  refine (check_ff _ _ _ _ H.out _).mono ?_
  rintro e kw0 ⟨rfl, hb⟩
  have k0 := (((Held.start w).at4 (w.heap.size) (by simp) 67 (.int .i64 (l)) (.int .i64 (c)) (.int .i64 (p)) (.bool o)).at4 (w.heap.size + 1) (by simp) 67 (.int .i64 (0)) (.int .i64 (0)) (.int .i64 (0)) (.bool false)).call hb
  clear hb
  obtain ⟨zk0_0, ck0_0, fk0_0, rk0_0⟩ := k0.head
  obtain ⟨zk0_1, ck0_1, fk0_1, rk0_1⟩ := rk0_0.head
  obtain ⟨zk0_2, ck0_2, fk0_2, rk0_2⟩ := rk0_1.head
  obtain ⟨zk0_3, ck0_3, fk0_3, rk0_3⟩ := rk0_2.head
  obtain ⟨zk0_4, ck0_4, fk0_4, rk0_4⟩ := rk0_3.head
  obtain ⟨zk0_5, ck0_5, fk0_5, rk0_5⟩ := rk0_4.head
  obtain ⟨zk0_6, ck0_6, fk0_6, rk0_6⟩ := rk0_5.head
  obtain ⟨zk0_7, ck0_7, fk0_7, rk0_7⟩ := rk0_6.head
  go_wp2_with fail
  exact bodyPost_ret (v := HandW 0 0 0 false false 1) (by simp [results, Try.results48, go_sem, HandE, HandV, HandQ, HandQ3, HandW, HandW2, ck0_0, ck0_1, ck0_2, ck0_3]) rfl ⟨rfl, ((((k0.1).setCell (by simp) _).setCell (by simp) _).setCell (by simp) _).setCell (by simp) _⟩
theorem close_over (l : Int) (n : Int) (w : World) (h0 : 0 ≤ l) (h1 : l ≤ 2147483647) (hn : limitB n = true) : Calls Try.prog 40 #[.agg #[.int .i64 (l), .int .i64 (0), .int .i64 (0), .bool true], .int .i64 n] w (Makes (HandE l 0 0 true 0) w) := by
  obtain ⟨fc, fo, fg, fv⟩ := facts_over l h0 h1
  have HC := Law.hide fc; clear fc
  go_enter Try.func40, Try.ntmps40
  go_wp2_with fail
  refine (check_tt _ _ _ _ HC.out _).mono ?_
  rintro e kw0 ⟨rfl, hb⟩
  have k0 := (((Held.start w).at4 (w.heap.size) (by simp) 67 (.int .i64 (l)) (.int .i64 (0)) (.int .i64 (0)) (.bool true)).at4 (w.heap.size + 1) (by simp) 67 (.int .i64 (0)) (.int .i64 (0)) (.int .i64 (0)) (.bool false)).call hb
  clear hb
  obtain ⟨zk0_0, ck0_0, fk0_0, rk0_0⟩ := k0.head
  obtain ⟨zk0_1, ck0_1, fk0_1, rk0_1⟩ := rk0_0.head
  obtain ⟨zk0_2, ck0_2, fk0_2, rk0_2⟩ := rk0_1.head
  obtain ⟨zk0_3, ck0_3, fk0_3, rk0_3⟩ := rk0_2.head
  obtain ⟨zk0_4, ck0_4, fk0_4, rk0_4⟩ := rk0_3.head
  obtain ⟨zk0_5, ck0_5, fk0_5, rk0_5⟩ := rk0_4.head
  obtain ⟨zk0_6, ck0_6, fk0_6, rk0_6⟩ := rk0_5.head
  obtain ⟨zk0_7, ck0_7, fk0_7, rk0_7⟩ := rk0_6.head
  go_wp2_with fail
  refine (limit_any _ _).mono ?_
  rintro e kw1 ⟨rfl, rfl⟩
  go_wp2_with fail
  refine (isOpen _ _ _ _ _).mono ?_
  rintro e kw2 ⟨rfl, hb⟩
  have k2 := k0.call hb
  clear hb
  clear zk0_0 ck0_0 fk0_0 rk0_0 zk0_1 ck0_1 fk0_1 rk0_1 zk0_2 ck0_2 fk0_2 rk0_2 zk0_3 ck0_3 fk0_3 rk0_3 zk0_4 ck0_4 fk0_4 rk0_4 zk0_5 ck0_5 fk0_5 rk0_5 zk0_6 ck0_6 fk0_6 rk0_6 zk0_7 ck0_7 fk0_7 rk0_7
  clear k0
  obtain ⟨zk2_0, ck2_0, fk2_0, rk2_0⟩ := k2.head
  obtain ⟨zk2_1, ck2_1, fk2_1, rk2_1⟩ := rk2_0.head
  obtain ⟨zk2_2, ck2_2, fk2_2, rk2_2⟩ := rk2_1.head
  obtain ⟨zk2_3, ck2_3, fk2_3, rk2_3⟩ := rk2_2.head
  obtain ⟨zk2_4, ck2_4, fk2_4, rk2_4⟩ := rk2_3.head
  obtain ⟨zk2_5, ck2_5, fk2_5, rk2_5⟩ := rk2_4.head
  obtain ⟨zk2_6, ck2_6, fk2_6, rk2_6⟩ := rk2_5.head
  obtain ⟨zk2_7, ck2_7, fk2_7, rk2_7⟩ := rk2_6.head
  go_wp2_with fail
  exact bodyPost_ret (v := HandE l 0 0 true 0) (by simp [results, Try.results40, go_sem, HandE, HandV, HandQ, HandQ3, HandW, HandW2, ck2_0, ck2_1, ck2_2, ck2_3]) rfl ⟨rfl, ((((k2.1).setCell (by simp) _).setCell (by simp) _).setCell (by simp) _).setCell (by simp) _⟩
theorem welcome_over (l : Int) (q : Int) (w : World) (h0 : 0 ≤ l) (h1 : l ≤ 2147483647) : Calls Try.prog 48 #[.agg #[.int .i64 (l), .int .i64 (0), .int .i64 (0), .bool true], .int .i64 q] w (Makes (HandW l 0 0 true false 0) w) := by
  obtain ⟨fc, fo, fg, fv⟩ := facts_over l h0 h1
  have HC := Law.hide fc; clear fc
  go_enter Try.func48, Try.ntmps48
  go_wp2_with fail
  refine (check_tt _ _ _ _ HC.out _).mono ?_
  rintro e kw0 ⟨rfl, hb⟩
  have k0 := (((Held.start w).at4 (w.heap.size) (by simp) 67 (.int .i64 (l)) (.int .i64 (0)) (.int .i64 (0)) (.bool true)).at4 (w.heap.size + 1) (by simp) 67 (.int .i64 (0)) (.int .i64 (0)) (.int .i64 (0)) (.bool false)).call hb
  clear hb
  obtain ⟨zk0_0, ck0_0, fk0_0, rk0_0⟩ := k0.head
  obtain ⟨zk0_1, ck0_1, fk0_1, rk0_1⟩ := rk0_0.head
  obtain ⟨zk0_2, ck0_2, fk0_2, rk0_2⟩ := rk0_1.head
  obtain ⟨zk0_3, ck0_3, fk0_3, rk0_3⟩ := rk0_2.head
  obtain ⟨zk0_4, ck0_4, fk0_4, rk0_4⟩ := rk0_3.head
  obtain ⟨zk0_5, ck0_5, fk0_5, rk0_5⟩ := rk0_4.head
  obtain ⟨zk0_6, ck0_6, fk0_6, rk0_6⟩ := rk0_5.head
  obtain ⟨zk0_7, ck0_7, fk0_7, rk0_7⟩ := rk0_6.head
  go_wp2_with fail
  refine (isOpening _ _ _ _ _).mono ?_
  rintro e kw1 ⟨rfl, hb⟩
  have k1 := k0.call hb
  clear hb
  clear zk0_0 ck0_0 fk0_0 rk0_0 zk0_1 ck0_1 fk0_1 rk0_1 zk0_2 ck0_2 fk0_2 rk0_2 zk0_3 ck0_3 fk0_3 rk0_3 zk0_4 ck0_4 fk0_4 rk0_4 zk0_5 ck0_5 fk0_5 rk0_5 zk0_6 ck0_6 fk0_6 rk0_6 zk0_7 ck0_7 fk0_7 rk0_7
  clear k0
  obtain ⟨zk1_0, ck1_0, fk1_0, rk1_0⟩ := k1.head
  obtain ⟨zk1_1, ck1_1, fk1_1, rk1_1⟩ := rk1_0.head
  obtain ⟨zk1_2, ck1_2, fk1_2, rk1_2⟩ := rk1_1.head
  obtain ⟨zk1_3, ck1_3, fk1_3, rk1_3⟩ := rk1_2.head
  obtain ⟨zk1_4, ck1_4, fk1_4, rk1_4⟩ := rk1_3.head
  obtain ⟨zk1_5, ck1_5, fk1_5, rk1_5⟩ := rk1_4.head
  obtain ⟨zk1_6, ck1_6, fk1_6, rk1_6⟩ := rk1_5.head
  obtain ⟨zk1_7, ck1_7, fk1_7, rk1_7⟩ := rk1_6.head
  go_wp2_with fail
  exact bodyPost_ret (v := HandW l 0 0 true false 0) (by simp [results, Try.results48, go_sem, HandE, HandV, HandQ, HandQ3, HandW, HandW2, ck1_0, ck1_1, ck1_2, ck1_3]) rfl ⟨rfl, ((((k1.1).setCell (by simp) _).setCell (by simp) _).setCell (by simp) _).setCell (by simp) _⟩
theorem hello_over_nothing (l : Int) (q n : Int) (w : World) (h0 : 0 ≤ l) (h1 : l ≤ 2147483647) (hn : limitB n = true)  : Calls Try.prog 47 #[.agg #[.int .i64 (l), .int .i64 (0), .int .i64 (0), .bool true], .int .i64 q, .int .i64 n] w (Makes (HandQ l 0 0 true false false 0) w) := by
  obtain ⟨fc, fo, fg, fv⟩ := facts_over l h0 h1
  have HC := Law.hide fc; clear fc
  go_enter Try.func47, Try.ntmps47
  go_wp2_with fail
  refine (check_tt _ _ _ _ HC.out _).mono ?_
  rintro e kw0 ⟨rfl, hb⟩
  have k0 := (((Held.start w).at4 (w.heap.size) (by simp) 67 (.int .i64 (l)) (.int .i64 (0)) (.int .i64 (0)) (.bool true)).at4 (w.heap.size + 1) (by simp) 67 (.int .i64 (0)) (.int .i64 (0)) (.int .i64 (0)) (.bool false)).call hb
  clear hb
  obtain ⟨zk0_0, ck0_0, fk0_0, rk0_0⟩ := k0.head
  obtain ⟨zk0_1, ck0_1, fk0_1, rk0_1⟩ := rk0_0.head
  obtain ⟨zk0_2, ck0_2, fk0_2, rk0_2⟩ := rk0_1.head
  obtain ⟨zk0_3, ck0_3, fk0_3, rk0_3⟩ := rk0_2.head
  obtain ⟨zk0_4, ck0_4, fk0_4, rk0_4⟩ := rk0_3.head
  obtain ⟨zk0_5, ck0_5, fk0_5, rk0_5⟩ := rk0_4.head
  obtain ⟨zk0_6, ck0_6, fk0_6, rk0_6⟩ := rk0_5.head
  obtain ⟨zk0_7, ck0_7, fk0_7, rk0_7⟩ := rk0_6.head
  go_wp2_with fail
  refine (limit_any _ _).mono ?_
  rintro e kw1 ⟨rfl, rfl⟩
  go_wp2_with fail
  refine (isOver _ _ _ _ _).mono ?_
  rintro e kw2 ⟨rfl, hb⟩
  have k2 := k0.call hb
  clear hb
  clear zk0_0 ck0_0 fk0_0 rk0_0 zk0_1 ck0_1 fk0_1 rk0_1 zk0_2 ck0_2 fk0_2 rk0_2 zk0_3 ck0_3 fk0_3 rk0_3 zk0_4 ck0_4 fk0_4 rk0_4 zk0_5 ck0_5 fk0_5 rk0_5 zk0_6 ck0_6 fk0_6 rk0_6 zk0_7 ck0_7 fk0_7 rk0_7
  clear k0
  obtain ⟨zk2_0, ck2_0, fk2_0, rk2_0⟩ := k2.head
  obtain ⟨zk2_1, ck2_1, fk2_1, rk2_1⟩ := rk2_0.head
  obtain ⟨zk2_2, ck2_2, fk2_2, rk2_2⟩ := rk2_1.head
  obtain ⟨zk2_3, ck2_3, fk2_3, rk2_3⟩ := rk2_2.head
  obtain ⟨zk2_4, ck2_4, fk2_4, rk2_4⟩ := rk2_3.head
  obtain ⟨zk2_5, ck2_5, fk2_5, rk2_5⟩ := rk2_4.head
  obtain ⟨zk2_6, ck2_6, fk2_6, rk2_6⟩ := rk2_5.head
  obtain ⟨zk2_7, ck2_7, fk2_7, rk2_7⟩ := rk2_6.head
  go_wp2_with fail
  exact bodyPost_ret (v := HandQ l 0 0 true false false 0) (by simp [results, Try.results47, go_sem, HandE, HandV, HandQ, HandQ3, HandW, HandW2, ck2_0, ck2_1, ck2_2, ck2_3]) rfl ⟨rfl, ((((k2.1).setCell (by simp) _).setCell (by simp) _).setCell (by simp) _).setCell (by simp) _⟩
theorem close_opening (l p : Int) (n : Int) (w : World) (h0 : 0 ≤ l) (h1 : l < p) (h2 : p ≤ 2147483647) (hn : limitB n = true) : Calls Try.prog 40 #[.agg #[.int .i64 (l), .int .i64 (0), .int .i64 (p), .bool false], .int .i64 n] w (Makes (HandE l 0 p false 0) w) := by
  obtain ⟨fc, fo, fg, fv⟩ := facts_opening l p h0 h1 h2
  have HC := Law.hide fc; clear fc
  go_enter Try.func40, Try.ntmps40
  go_wp2_with fail
  refine (check_tt _ _ _ _ HC.out _).mono ?_
  rintro e kw0 ⟨rfl, hb⟩
  have k0 := (((Held.start w).at4 (w.heap.size) (by simp) 67 (.int .i64 (l)) (.int .i64 (0)) (.int .i64 (p)) (.bool false)).at4 (w.heap.size + 1) (by simp) 67 (.int .i64 (0)) (.int .i64 (0)) (.int .i64 (0)) (.bool false)).call hb
  clear hb
  obtain ⟨zk0_0, ck0_0, fk0_0, rk0_0⟩ := k0.head
  obtain ⟨zk0_1, ck0_1, fk0_1, rk0_1⟩ := rk0_0.head
  obtain ⟨zk0_2, ck0_2, fk0_2, rk0_2⟩ := rk0_1.head
  obtain ⟨zk0_3, ck0_3, fk0_3, rk0_3⟩ := rk0_2.head
  obtain ⟨zk0_4, ck0_4, fk0_4, rk0_4⟩ := rk0_3.head
  obtain ⟨zk0_5, ck0_5, fk0_5, rk0_5⟩ := rk0_4.head
  obtain ⟨zk0_6, ck0_6, fk0_6, rk0_6⟩ := rk0_5.head
  obtain ⟨zk0_7, ck0_7, fk0_7, rk0_7⟩ := rk0_6.head
  go_wp2_with fail
  refine (limit_any _ _).mono ?_
  rintro e kw1 ⟨rfl, rfl⟩
  go_wp2_with fail
  refine (isOpen _ _ _ _ _).mono ?_
  rintro e kw2 ⟨rfl, hb⟩
  have k2 := k0.call hb
  clear hb
  clear zk0_0 ck0_0 fk0_0 rk0_0 zk0_1 ck0_1 fk0_1 rk0_1 zk0_2 ck0_2 fk0_2 rk0_2 zk0_3 ck0_3 fk0_3 rk0_3 zk0_4 ck0_4 fk0_4 rk0_4 zk0_5 ck0_5 fk0_5 rk0_5 zk0_6 ck0_6 fk0_6 rk0_6 zk0_7 ck0_7 fk0_7 rk0_7
  clear k0
  obtain ⟨zk2_0, ck2_0, fk2_0, rk2_0⟩ := k2.head
  obtain ⟨zk2_1, ck2_1, fk2_1, rk2_1⟩ := rk2_0.head
  obtain ⟨zk2_2, ck2_2, fk2_2, rk2_2⟩ := rk2_1.head
  obtain ⟨zk2_3, ck2_3, fk2_3, rk2_3⟩ := rk2_2.head
  obtain ⟨zk2_4, ck2_4, fk2_4, rk2_4⟩ := rk2_3.head
  obtain ⟨zk2_5, ck2_5, fk2_5, rk2_5⟩ := rk2_4.head
  obtain ⟨zk2_6, ck2_6, fk2_6, rk2_6⟩ := rk2_5.head
  obtain ⟨zk2_7, ck2_7, fk2_7, rk2_7⟩ := rk2_6.head
  go_wp2_with fail
  exact bodyPost_ret (v := HandE l 0 p false 0) (by simp [results, Try.results40, go_sem, HandE, HandV, HandQ, HandQ3, HandW, HandW2, ck2_0, ck2_1, ck2_2, ck2_3]) rfl ⟨rfl, ((((k2.1).setCell (by simp) _).setCell (by simp) _).setCell (by simp) _).setCell (by simp) _⟩
theorem welcome_opening_no (l p : Int) (q : Int) (w : World) (h0 : 0 ≤ l) (h1 : l < p) (h2 : p ≤ 2147483647) (hq : q ≠ p) : Calls Try.prog 48 #[.agg #[.int .i64 (l), .int .i64 (0), .int .i64 (p), .bool false], .int .i64 q] w (Makes (HandW l 0 p false false 0) w) := by
  obtain ⟨fc, fo, fg, fv⟩ := facts_opening l p h0 h1 h2
  have HC := Law.hide fc; clear fc
  have hq1 : (q != p) = true := by simpa using hq
  clear hq
  go_enter Try.func48, Try.ntmps48
  go_wp2_with fail
  refine (check_tt _ _ _ _ HC.out _).mono ?_
  rintro e kw0 ⟨rfl, hb⟩
  have k0 := (((Held.start w).at4 (w.heap.size) (by simp) 67 (.int .i64 (l)) (.int .i64 (0)) (.int .i64 (p)) (.bool false)).at4 (w.heap.size + 1) (by simp) 67 (.int .i64 (0)) (.int .i64 (0)) (.int .i64 (0)) (.bool false)).call hb
  clear hb
  obtain ⟨zk0_0, ck0_0, fk0_0, rk0_0⟩ := k0.head
  obtain ⟨zk0_1, ck0_1, fk0_1, rk0_1⟩ := rk0_0.head
  obtain ⟨zk0_2, ck0_2, fk0_2, rk0_2⟩ := rk0_1.head
  obtain ⟨zk0_3, ck0_3, fk0_3, rk0_3⟩ := rk0_2.head
  obtain ⟨zk0_4, ck0_4, fk0_4, rk0_4⟩ := rk0_3.head
  obtain ⟨zk0_5, ck0_5, fk0_5, rk0_5⟩ := rk0_4.head
  obtain ⟨zk0_6, ck0_6, fk0_6, rk0_6⟩ := rk0_5.head
  obtain ⟨zk0_7, ck0_7, fk0_7, rk0_7⟩ := rk0_6.head
  go_wp2_with fail
  refine (isOpening _ _ _ _ _).mono ?_
  rintro e kw1 ⟨rfl, hb⟩
  have k1 := k0.call hb
  clear hb
  clear zk0_0 ck0_0 fk0_0 rk0_0 zk0_1 ck0_1 fk0_1 rk0_1 zk0_2 ck0_2 fk0_2 rk0_2 zk0_3 ck0_3 fk0_3 rk0_3 zk0_4 ck0_4 fk0_4 rk0_4 zk0_5 ck0_5 fk0_5 rk0_5 zk0_6 ck0_6 fk0_6 rk0_6 zk0_7 ck0_7 fk0_7 rk0_7
  clear k0
  obtain ⟨zk1_0, ck1_0, fk1_0, rk1_0⟩ := k1.head
  obtain ⟨zk1_1, ck1_1, fk1_1, rk1_1⟩ := rk1_0.head
  obtain ⟨zk1_2, ck1_2, fk1_2, rk1_2⟩ := rk1_1.head
  obtain ⟨zk1_3, ck1_3, fk1_3, rk1_3⟩ := rk1_2.head
  obtain ⟨zk1_4, ck1_4, fk1_4, rk1_4⟩ := rk1_3.head
  obtain ⟨zk1_5, ck1_5, fk1_5, rk1_5⟩ := rk1_4.head
  obtain ⟨zk1_6, ck1_6, fk1_6, rk1_6⟩ := rk1_5.head
  obtain ⟨zk1_7, ck1_7, fk1_7, rk1_7⟩ := rk1_6.head
  go_wp2_with fail
  exact bodyPost_ret (v := HandW l 0 p false false 0) (by simp [results, Try.results48, go_sem, HandE, HandV, HandQ, HandQ3, HandW, HandW2, ck1_0, ck1_1, ck1_2, ck1_3]) rfl ⟨rfl, ((((k1.1).setCell (by simp) _).setCell (by simp) _).setCell (by simp) _).setCell (by simp) _⟩
theorem welcome_opening_ok (l p : Int) (w : World) (h0 : 0 ≤ l) (h1 : l < p) (h2 : p ≤ 2147483647) : Calls Try.prog 48 #[.agg #[.int .i64 (l), .int .i64 (0), .int .i64 (p), .bool false], .int .i64 p] w (Makes (HandW p p 0 false true 0) w) := by
  obtain ⟨fc, fo, fg, fv⟩ := facts_opening l p h0 h1 h2
  have HC := Law.hide fc; clear fc
  go_enter Try.func48, Try.ntmps48
  go_wp2_with fail
  refine (check_tt _ _ _ _ HC.out _).mono ?_
  rintro e kw0 ⟨rfl, hb⟩
  have k0 := (((Held.start w).at4 (w.heap.size) (by simp) 67 (.int .i64 (l)) (.int .i64 (0)) (.int .i64 (p)) (.bool false)).at4 (w.heap.size + 1) (by simp) 67 (.int .i64 (0)) (.int .i64 (0)) (.int .i64 (0)) (.bool false)).call hb
  clear hb
  obtain ⟨zk0_0, ck0_0, fk0_0, rk0_0⟩ := k0.head
  obtain ⟨zk0_1, ck0_1, fk0_1, rk0_1⟩ := rk0_0.head
  obtain ⟨zk0_2, ck0_2, fk0_2, rk0_2⟩ := rk0_1.head
  obtain ⟨zk0_3, ck0_3, fk0_3, rk0_3⟩ := rk0_2.head
  obtain ⟨zk0_4, ck0_4, fk0_4, rk0_4⟩ := rk0_3.head
  obtain ⟨zk0_5, ck0_5, fk0_5, rk0_5⟩ := rk0_4.head
  obtain ⟨zk0_6, ck0_6, fk0_6, rk0_6⟩ := rk0_5.head
  obtain ⟨zk0_7, ck0_7, fk0_7, rk0_7⟩ := rk0_6.head
  go_wp2_with fail
  refine (isOpening _ _ _ _ _).mono ?_
  rintro e kw1 ⟨rfl, hb⟩
  have k1 := k0.call hb
  clear hb
  clear zk0_0 ck0_0 fk0_0 rk0_0 zk0_1 ck0_1 fk0_1 rk0_1 zk0_2 ck0_2 fk0_2 rk0_2 zk0_3 ck0_3 fk0_3 rk0_3 zk0_4 ck0_4 fk0_4 rk0_4 zk0_5 ck0_5 fk0_5 rk0_5 zk0_6 ck0_6 fk0_6 rk0_6 zk0_7 ck0_7 fk0_7 rk0_7
  clear k0
  obtain ⟨zk1_0, ck1_0, fk1_0, rk1_0⟩ := k1.head
  obtain ⟨zk1_1, ck1_1, fk1_1, rk1_1⟩ := rk1_0.head
  obtain ⟨zk1_2, ck1_2, fk1_2, rk1_2⟩ := rk1_1.head
  obtain ⟨zk1_3, ck1_3, fk1_3, rk1_3⟩ := rk1_2.head
  obtain ⟨zk1_4, ck1_4, fk1_4, rk1_4⟩ := rk1_3.head
  obtain ⟨zk1_5, ck1_5, fk1_5, rk1_5⟩ := rk1_4.head
  obtain ⟨zk1_6, ck1_6, fk1_6, rk1_6⟩ := rk1_5.head
  obtain ⟨zk1_7, ck1_7, fk1_7, rk1_7⟩ := rk1_6.head
  go_wp2_with fail
  exact bodyPost_ret (v := HandW p p 0 false true 0) (by simp [results, Try.results48, go_sem, HandE, HandV, HandQ, HandQ3, HandW, HandW2, ck1_0, ck1_1, ck1_2, ck1_3]) rfl ⟨rfl, ((((k1.1).setCell (by simp) _).setCell (by simp) _).setCell (by simp) _).setCell (by simp) _⟩
theorem hello_opening_low (l p : Int) (q n : Int) (w : World) (h0 : 0 ≤ l) (h1 : l < p) (h2 : p ≤ 2147483647) (hn : limitB n = true) (hq : q < 1) : Calls Try.prog 47 #[.agg #[.int .i64 (l), .int .i64 (0), .int .i64 (p), .bool false], .int .i64 q, .int .i64 n] w (Makes (HandQ l 0 p false false false 0) w) := by
  obtain ⟨fc, fo, fg, fv⟩ := facts_opening l p h0 h1 h2
  have HC := Law.hide fc; clear fc
  go_enter Try.func47, Try.ntmps47
  go_wp2_with fail
  refine (check_tt _ _ _ _ HC.out _).mono ?_
  rintro e kw0 ⟨rfl, hb⟩
  have k0 := (((Held.start w).at4 (w.heap.size) (by simp) 67 (.int .i64 (l)) (.int .i64 (0)) (.int .i64 (p)) (.bool false)).at4 (w.heap.size + 1) (by simp) 67 (.int .i64 (0)) (.int .i64 (0)) (.int .i64 (0)) (.bool false)).call hb
  clear hb
  obtain ⟨zk0_0, ck0_0, fk0_0, rk0_0⟩ := k0.head
  obtain ⟨zk0_1, ck0_1, fk0_1, rk0_1⟩ := rk0_0.head
  obtain ⟨zk0_2, ck0_2, fk0_2, rk0_2⟩ := rk0_1.head
  obtain ⟨zk0_3, ck0_3, fk0_3, rk0_3⟩ := rk0_2.head
  obtain ⟨zk0_4, ck0_4, fk0_4, rk0_4⟩ := rk0_3.head
  obtain ⟨zk0_5, ck0_5, fk0_5, rk0_5⟩ := rk0_4.head
  obtain ⟨zk0_6, ck0_6, fk0_6, rk0_6⟩ := rk0_5.head
  obtain ⟨zk0_7, ck0_7, fk0_7, rk0_7⟩ := rk0_6.head
  go_wp2_with fail
  refine (limit_any _ _).mono ?_
  rintro e kw1 ⟨rfl, rfl⟩
  go_wp2_with fail
  refine (isOver _ _ _ _ _).mono ?_
  rintro e kw2 ⟨rfl, hb⟩
  have k2 := k0.call hb
  clear hb
  clear zk0_0 ck0_0 fk0_0 rk0_0 zk0_1 ck0_1 fk0_1 rk0_1 zk0_2 ck0_2 fk0_2 rk0_2 zk0_3 ck0_3 fk0_3 rk0_3 zk0_4 ck0_4 fk0_4 rk0_4 zk0_5 ck0_5 fk0_5 rk0_5 zk0_6 ck0_6 fk0_6 rk0_6 zk0_7 ck0_7 fk0_7 rk0_7
  clear k0
  obtain ⟨zk2_0, ck2_0, fk2_0, rk2_0⟩ := k2.head
  obtain ⟨zk2_1, ck2_1, fk2_1, rk2_1⟩ := rk2_0.head
  obtain ⟨zk2_2, ck2_2, fk2_2, rk2_2⟩ := rk2_1.head
  obtain ⟨zk2_3, ck2_3, fk2_3, rk2_3⟩ := rk2_2.head
  obtain ⟨zk2_4, ck2_4, fk2_4, rk2_4⟩ := rk2_3.head
  obtain ⟨zk2_5, ck2_5, fk2_5, rk2_5⟩ := rk2_4.head
  obtain ⟨zk2_6, ck2_6, fk2_6, rk2_6⟩ := rk2_5.head
  obtain ⟨zk2_7, ck2_7, fk2_7, rk2_7⟩ := rk2_6.head
  go_wp2_with fail
  exact bodyPost_ret (v := HandQ l 0 p false false false 0) (by simp [results, Try.results47, go_sem, HandE, HandV, HandQ, HandQ3, HandW, HandW2, ck2_0, ck2_1, ck2_2, ck2_3]) rfl ⟨rfl, ((((k2.1).setCell (by simp) _).setCell (by simp) _).setCell (by simp) _).setCell (by simp) _⟩
theorem hello_opening_high (l p : Int) (q n : Int) (w : World) (h0 : 0 ≤ l) (h1 : l < p) (h2 : p ≤ 2147483647) (hn : limitB n = true) (hq0 : 1 ≤ q) (hq : n < q) : Calls Try.prog 47 #[.agg #[.int .i64 (l), .int .i64 (0), .int .i64 (p), .bool false], .int .i64 q, .int .i64 n] w (Makes (HandQ l 0 p false false false 0) w) := by
  obtain ⟨fc, fo, fg, fv⟩ := facts_opening l p h0 h1 h2
  have HC := Law.hide fc; clear fc
  go_enter Try.func47, Try.ntmps47
  go_wp2_with fail
  refine (check_tt _ _ _ _ HC.out _).mono ?_
  rintro e kw0 ⟨rfl, hb⟩
  have k0 := (((Held.start w).at4 (w.heap.size) (by simp) 67 (.int .i64 (l)) (.int .i64 (0)) (.int .i64 (p)) (.bool false)).at4 (w.heap.size + 1) (by simp) 67 (.int .i64 (0)) (.int .i64 (0)) (.int .i64 (0)) (.bool false)).call hb
  clear hb
  obtain ⟨zk0_0, ck0_0, fk0_0, rk0_0⟩ := k0.head
  obtain ⟨zk0_1, ck0_1, fk0_1, rk0_1⟩ := rk0_0.head
  obtain ⟨zk0_2, ck0_2, fk0_2, rk0_2⟩ := rk0_1.head
  obtain ⟨zk0_3, ck0_3, fk0_3, rk0_3⟩ := rk0_2.head
  obtain ⟨zk0_4, ck0_4, fk0_4, rk0_4⟩ := rk0_3.head
  obtain ⟨zk0_5, ck0_5, fk0_5, rk0_5⟩ := rk0_4.head
  obtain ⟨zk0_6, ck0_6, fk0_6, rk0_6⟩ := rk0_5.head
  obtain ⟨zk0_7, ck0_7, fk0_7, rk0_7⟩ := rk0_6.head
  go_wp2_with fail
  refine (limit_any _ _).mono ?_
  rintro e kw1 ⟨rfl, rfl⟩
  go_wp2_with fail
  refine (isOver _ _ _ _ _).mono ?_
  rintro e kw2 ⟨rfl, hb⟩
  have k2 := k0.call hb
  clear hb
  clear zk0_0 ck0_0 fk0_0 rk0_0 zk0_1 ck0_1 fk0_1 rk0_1 zk0_2 ck0_2 fk0_2 rk0_2 zk0_3 ck0_3 fk0_3 rk0_3 zk0_4 ck0_4 fk0_4 rk0_4 zk0_5 ck0_5 fk0_5 rk0_5 zk0_6 ck0_6 fk0_6 rk0_6 zk0_7 ck0_7 fk0_7 rk0_7
  clear k0
  obtain ⟨zk2_0, ck2_0, fk2_0, rk2_0⟩ := k2.head
  obtain ⟨zk2_1, ck2_1, fk2_1, rk2_1⟩ := rk2_0.head
  obtain ⟨zk2_2, ck2_2, fk2_2, rk2_2⟩ := rk2_1.head
  obtain ⟨zk2_3, ck2_3, fk2_3, rk2_3⟩ := rk2_2.head
  obtain ⟨zk2_4, ck2_4, fk2_4, rk2_4⟩ := rk2_3.head
  obtain ⟨zk2_5, ck2_5, fk2_5, rk2_5⟩ := rk2_4.head
  obtain ⟨zk2_6, ck2_6, fk2_6, rk2_6⟩ := rk2_5.head
  obtain ⟨zk2_7, ck2_7, fk2_7, rk2_7⟩ := rk2_6.head
  go_wp2_with fail
  exact bodyPost_ret (v := HandQ l 0 p false false false 0) (by simp [results, Try.results47, go_sem, HandE, HandV, HandQ, HandQ3, HandW, HandW2, ck2_0, ck2_1, ck2_2, ck2_3]) rfl ⟨rfl, ((((k2.1).setCell (by simp) _).setCell (by simp) _).setCell (by simp) _).setCell (by simp) _⟩
theorem close_open_over (l : Int) (n : Int) (w : World) (h0 : 1 ≤ l) (h1 : l ≤ 2147483647) (hn : limitB n = true) (hl : n ≤ l) : Calls Try.prog 40 #[.agg #[.int .i64 (l), .int .i64 (l), .int .i64 (0), .bool false], .int .i64 n] w (Makes (HandE l 0 0 true 0) w) := by
  obtain ⟨fc, fo, fg, fv⟩ := facts_open l h0 h1
  have HC := Law.hide fc; clear fc
  go_enter Try.func40, Try.ntmps40
  go_wp2_with fail
  refine (check_tt _ _ _ _ HC.out _).mono ?_
  rintro e kw0 ⟨rfl, hb⟩
  have k0 := (((Held.start w).at4 (w.heap.size) (by simp) 67 (.int .i64 (l)) (.int .i64 (l)) (.int .i64 (0)) (.bool false)).at4 (w.heap.size + 1) (by simp) 67 (.int .i64 (0)) (.int .i64 (0)) (.int .i64 (0)) (.bool false)).call hb
  clear hb
  obtain ⟨zk0_0, ck0_0, fk0_0, rk0_0⟩ := k0.head
  obtain ⟨zk0_1, ck0_1, fk0_1, rk0_1⟩ := rk0_0.head
  obtain ⟨zk0_2, ck0_2, fk0_2, rk0_2⟩ := rk0_1.head
  obtain ⟨zk0_3, ck0_3, fk0_3, rk0_3⟩ := rk0_2.head
  obtain ⟨zk0_4, ck0_4, fk0_4, rk0_4⟩ := rk0_3.head
  obtain ⟨zk0_5, ck0_5, fk0_5, rk0_5⟩ := rk0_4.head
  obtain ⟨zk0_6, ck0_6, fk0_6, rk0_6⟩ := rk0_5.head
  obtain ⟨zk0_7, ck0_7, fk0_7, rk0_7⟩ := rk0_6.head
  go_wp2_with fail
  refine (limit_any _ _).mono ?_
  rintro e kw1 ⟨rfl, rfl⟩
  go_wp2_with fail
  refine (isOpen _ _ _ _ _).mono ?_
  rintro e kw2 ⟨rfl, hb⟩
  have k2 := k0.call hb
  clear hb
  clear zk0_0 ck0_0 fk0_0 rk0_0 zk0_1 ck0_1 fk0_1 rk0_1 zk0_2 ck0_2 fk0_2 rk0_2 zk0_3 ck0_3 fk0_3 rk0_3 zk0_4 ck0_4 fk0_4 rk0_4 zk0_5 ck0_5 fk0_5 rk0_5 zk0_6 ck0_6 fk0_6 rk0_6 zk0_7 ck0_7 fk0_7 rk0_7
  clear k0
  obtain ⟨zk2_0, ck2_0, fk2_0, rk2_0⟩ := k2.head
  obtain ⟨zk2_1, ck2_1, fk2_1, rk2_1⟩ := rk2_0.head
  obtain ⟨zk2_2, ck2_2, fk2_2, rk2_2⟩ := rk2_1.head
  obtain ⟨zk2_3, ck2_3, fk2_3, rk2_3⟩ := rk2_2.head
  obtain ⟨zk2_4, ck2_4, fk2_4, rk2_4⟩ := rk2_3.head
  obtain ⟨zk2_5, ck2_5, fk2_5, rk2_5⟩ := rk2_4.head
  obtain ⟨zk2_6, ck2_6, fk2_6, rk2_6⟩ := rk2_5.head
  obtain ⟨zk2_7, ck2_7, fk2_7, rk2_7⟩ := rk2_6.head
  go_wp2_with fail
  refine (new_over _ _ _ (by omega) h1 hn hl).mono ?_
  rintro e kw3 ⟨rfl, hb⟩
  have k3 := k2.call hb
  clear hb
  clear zk2_0 ck2_0 fk2_0 rk2_0 zk2_1 ck2_1 fk2_1 rk2_1 zk2_2 ck2_2 fk2_2 rk2_2 zk2_3 ck2_3 fk2_3 rk2_3 zk2_4 ck2_4 fk2_4 rk2_4 zk2_5 ck2_5 fk2_5 rk2_5 zk2_6 ck2_6 fk2_6 rk2_6 zk2_7 ck2_7 fk2_7 rk2_7
  clear k2
  obtain ⟨zk3_0, ck3_0, fk3_0, rk3_0⟩ := k3.head
  obtain ⟨zk3_1, ck3_1, fk3_1, rk3_1⟩ := rk3_0.head
  obtain ⟨zk3_2, ck3_2, fk3_2, rk3_2⟩ := rk3_1.head
  obtain ⟨zk3_3, ck3_3, fk3_3, rk3_3⟩ := rk3_2.head
  obtain ⟨zk3_4, ck3_4, fk3_4, rk3_4⟩ := rk3_3.head
  obtain ⟨zk3_5, ck3_5, fk3_5, rk3_5⟩ := rk3_4.head
  obtain ⟨zk3_6, ck3_6, fk3_6, rk3_6⟩ := rk3_5.head
  obtain ⟨zk3_7, ck3_7, fk3_7, rk3_7⟩ := rk3_6.head
  unfold HandE HandV
  go_wp2_with fail
  exact bodyPost_ret (v := HandE l 0 0 true 0) (by simp [results, Try.results40, go_sem, HandE, HandV, HandQ, HandQ3, HandW, HandW2, ck3_0, ck3_1, ck3_2, ck3_3]) rfl ⟨rfl, ((((k3.1).setCell (by simp) _).setCell (by simp) _).setCell (by simp) _).setCell (by simp) _⟩
theorem close_open_ok (l : Int) (n : Int) (w : World) (h0 : 1 ≤ l) (h1 : l ≤ 2147483647) (hn : limitB n = true) (hl : l < n) : Calls Try.prog 40 #[.agg #[.int .i64 (l), .int .i64 (l), .int .i64 (0), .bool false], .int .i64 n] w (Makes (HandE l 0 (l + 1) false 0) w) := by
  obtain ⟨fc, fo, fg, fv⟩ := facts_open l h0 h1
  have HC := Law.hide fc; clear fc
  go_enter Try.func40, Try.ntmps40
  go_wp2_with fail
  refine (check_tt _ _ _ _ HC.out _).mono ?_
  rintro e kw0 ⟨rfl, hb⟩
  have k0 := (((Held.start w).at4 (w.heap.size) (by simp) 67 (.int .i64 (l)) (.int .i64 (l)) (.int .i64 (0)) (.bool false)).at4 (w.heap.size + 1) (by simp) 67 (.int .i64 (0)) (.int .i64 (0)) (.int .i64 (0)) (.bool false)).call hb
  clear hb
  obtain ⟨zk0_0, ck0_0, fk0_0, rk0_0⟩ := k0.head
  obtain ⟨zk0_1, ck0_1, fk0_1, rk0_1⟩ := rk0_0.head
  obtain ⟨zk0_2, ck0_2, fk0_2, rk0_2⟩ := rk0_1.head
  obtain ⟨zk0_3, ck0_3, fk0_3, rk0_3⟩ := rk0_2.head
  obtain ⟨zk0_4, ck0_4, fk0_4, rk0_4⟩ := rk0_3.head
  obtain ⟨zk0_5, ck0_5, fk0_5, rk0_5⟩ := rk0_4.head
  obtain ⟨zk0_6, ck0_6, fk0_6, rk0_6⟩ := rk0_5.head
  obtain ⟨zk0_7, ck0_7, fk0_7, rk0_7⟩ := rk0_6.head
  go_wp2_with fail
  refine (limit_any _ _).mono ?_
  rintro e kw1 ⟨rfl, rfl⟩
  go_wp2_with fail
  refine (isOpen _ _ _ _ _).mono ?_
  rintro e kw2 ⟨rfl, hb⟩
  have k2 := k0.call hb
  clear hb
  clear zk0_0 ck0_0 fk0_0 rk0_0 zk0_1 ck0_1 fk0_1 rk0_1 zk0_2 ck0_2 fk0_2 rk0_2 zk0_3 ck0_3 fk0_3 rk0_3 zk0_4 ck0_4 fk0_4 rk0_4 zk0_5 ck0_5 fk0_5 rk0_5 zk0_6 ck0_6 fk0_6 rk0_6 zk0_7 ck0_7 fk0_7 rk0_7
  clear k0
  obtain ⟨zk2_0, ck2_0, fk2_0, rk2_0⟩ := k2.head
  obtain ⟨zk2_1, ck2_1, fk2_1, rk2_1⟩ := rk2_0.head
  obtain ⟨zk2_2, ck2_2, fk2_2, rk2_2⟩ := rk2_1.head
  obtain ⟨zk2_3, ck2_3, fk2_3, rk2_3⟩ := rk2_2.head
  obtain ⟨zk2_4, ck2_4, fk2_4, rk2_4⟩ := rk2_3.head
  obtain ⟨zk2_5, ck2_5, fk2_5, rk2_5⟩ := rk2_4.head
  obtain ⟨zk2_6, ck2_6, fk2_6, rk2_6⟩ := rk2_5.head
  obtain ⟨zk2_7, ck2_7, fk2_7, rk2_7⟩ := rk2_6.head
  go_wp2_with fail
  refine (new_ok _ _ _ (by omega) h1 hn hl).mono ?_
  rintro e kw3 ⟨rfl, hb⟩
  have k3 := k2.call hb
  clear hb
  clear zk2_0 ck2_0 fk2_0 rk2_0 zk2_1 ck2_1 fk2_1 rk2_1 zk2_2 ck2_2 fk2_2 rk2_2 zk2_3 ck2_3 fk2_3 rk2_3 zk2_4 ck2_4 fk2_4 rk2_4 zk2_5 ck2_5 fk2_5 rk2_5 zk2_6 ck2_6 fk2_6 rk2_6 zk2_7 ck2_7 fk2_7 rk2_7
  clear k2
  obtain ⟨zk3_0, ck3_0, fk3_0, rk3_0⟩ := k3.head
  obtain ⟨zk3_1, ck3_1, fk3_1, rk3_1⟩ := rk3_0.head
  obtain ⟨zk3_2, ck3_2, fk3_2, rk3_2⟩ := rk3_1.head
  obtain ⟨zk3_3, ck3_3, fk3_3, rk3_3⟩ := rk3_2.head
  obtain ⟨zk3_4, ck3_4, fk3_4, rk3_4⟩ := rk3_3.head
  obtain ⟨zk3_5, ck3_5, fk3_5, rk3_5⟩ := rk3_4.head
  obtain ⟨zk3_6, ck3_6, fk3_6, rk3_6⟩ := rk3_5.head
  obtain ⟨zk3_7, ck3_7, fk3_7, rk3_7⟩ := rk3_6.head
  unfold HandE HandV
  go_wp2_with fail
  exact bodyPost_ret (v := HandE l 0 (l + 1) false 0) (by simp [results, Try.results40, go_sem, HandE, HandV, HandQ, HandQ3, HandW, HandW2, ck3_0, ck3_1, ck3_2, ck3_3]) rfl ⟨rfl, ((((k3.1).setCell (by simp) _).setCell (by simp) _).setCell (by simp) _).setCell (by simp) _⟩
theorem welcome_open (l : Int) (q : Int) (w : World) (h0 : 1 ≤ l) (h1 : l ≤ 2147483647) : Calls Try.prog 48 #[.agg #[.int .i64 (l), .int .i64 (l), .int .i64 (0), .bool false], .int .i64 q] w (Makes (HandW l l 0 false false 0) w) := by
  obtain ⟨fc, fo, fg, fv⟩ := facts_open l h0 h1
  have HC := Law.hide fc; clear fc
  go_enter Try.func48, Try.ntmps48
  go_wp2_with fail
  refine (check_tt _ _ _ _ HC.out _).mono ?_
  rintro e kw0 ⟨rfl, hb⟩
  have k0 := (((Held.start w).at4 (w.heap.size) (by simp) 67 (.int .i64 (l)) (.int .i64 (l)) (.int .i64 (0)) (.bool false)).at4 (w.heap.size + 1) (by simp) 67 (.int .i64 (0)) (.int .i64 (0)) (.int .i64 (0)) (.bool false)).call hb
  clear hb
  obtain ⟨zk0_0, ck0_0, fk0_0, rk0_0⟩ := k0.head
  obtain ⟨zk0_1, ck0_1, fk0_1, rk0_1⟩ := rk0_0.head
  obtain ⟨zk0_2, ck0_2, fk0_2, rk0_2⟩ := rk0_1.head
  obtain ⟨zk0_3, ck0_3, fk0_3, rk0_3⟩ := rk0_2.head
  obtain ⟨zk0_4, ck0_4, fk0_4, rk0_4⟩ := rk0_3.head
  obtain ⟨zk0_5, ck0_5, fk0_5, rk0_5⟩ := rk0_4.head
  obtain ⟨zk0_6, ck0_6, fk0_6, rk0_6⟩ := rk0_5.head
  obtain ⟨zk0_7, ck0_7, fk0_7, rk0_7⟩ := rk0_6.head
  go_wp2_with fail
  refine (isOpening _ _ _ _ _).mono ?_
  rintro e kw1 ⟨rfl, hb⟩
  have k1 := k0.call hb
  clear hb
  clear zk0_0 ck0_0 fk0_0 rk0_0 zk0_1 ck0_1 fk0_1 rk0_1 zk0_2 ck0_2 fk0_2 rk0_2 zk0_3 ck0_3 fk0_3 rk0_3 zk0_4 ck0_4 fk0_4 rk0_4 zk0_5 ck0_5 fk0_5 rk0_5 zk0_6 ck0_6 fk0_6 rk0_6 zk0_7 ck0_7 fk0_7 rk0_7
  clear k0
  obtain ⟨zk1_0, ck1_0, fk1_0, rk1_0⟩ := k1.head
  obtain ⟨zk1_1, ck1_1, fk1_1, rk1_1⟩ := rk1_0.head
  obtain ⟨zk1_2, ck1_2, fk1_2, rk1_2⟩ := rk1_1.head
  obtain ⟨zk1_3, ck1_3, fk1_3, rk1_3⟩ := rk1_2.head
  obtain ⟨zk1_4, ck1_4, fk1_4, rk1_4⟩ := rk1_3.head
  obtain ⟨zk1_5, ck1_5, fk1_5, rk1_5⟩ := rk1_4.head
  obtain ⟨zk1_6, ck1_6, fk1_6, rk1_6⟩ := rk1_5.head
  obtain ⟨zk1_7, ck1_7, fk1_7, rk1_7⟩ := rk1_6.head
  go_wp2_with fail
  exact bodyPost_ret (v := HandW l l 0 false false 0) (by simp [results, Try.results48, go_sem, HandE, HandV, HandQ, HandQ3, HandW, HandW2, ck1_0, ck1_1, ck1_2, ck1_3]) rfl ⟨rfl, ((((k1.1).setCell (by simp) _).setCell (by simp) _).setCell (by simp) _).setCell (by simp) _⟩
theorem hello_open_low (l : Int) (q n : Int) (w : World) (h0 : 1 ≤ l) (h1 : l ≤ 2147483647) (hn : limitB n = true) (hq : q < 1) : Calls Try.prog 47 #[.agg #[.int .i64 (l), .int .i64 (l), .int .i64 (0), .bool false], .int .i64 q, .int .i64 n] w (Makes (HandQ l l 0 false false false 0) w) := by
  obtain ⟨fc, fo, fg, fv⟩ := facts_open l h0 h1
  have HC := Law.hide fc; clear fc
  go_enter Try.func47, Try.ntmps47
  go_wp2_with fail
  refine (check_tt _ _ _ _ HC.out _).mono ?_
  rintro e kw0 ⟨rfl, hb⟩
  have k0 := (((Held.start w).at4 (w.heap.size) (by simp) 67 (.int .i64 (l)) (.int .i64 (l)) (.int .i64 (0)) (.bool false)).at4 (w.heap.size + 1) (by simp) 67 (.int .i64 (0)) (.int .i64 (0)) (.int .i64 (0)) (.bool false)).call hb
  clear hb
  obtain ⟨zk0_0, ck0_0, fk0_0, rk0_0⟩ := k0.head
  obtain ⟨zk0_1, ck0_1, fk0_1, rk0_1⟩ := rk0_0.head
  obtain ⟨zk0_2, ck0_2, fk0_2, rk0_2⟩ := rk0_1.head
  obtain ⟨zk0_3, ck0_3, fk0_3, rk0_3⟩ := rk0_2.head
  obtain ⟨zk0_4, ck0_4, fk0_4, rk0_4⟩ := rk0_3.head
  obtain ⟨zk0_5, ck0_5, fk0_5, rk0_5⟩ := rk0_4.head
  obtain ⟨zk0_6, ck0_6, fk0_6, rk0_6⟩ := rk0_5.head
  obtain ⟨zk0_7, ck0_7, fk0_7, rk0_7⟩ := rk0_6.head
  go_wp2_with fail
  refine (limit_any _ _).mono ?_
  rintro e kw1 ⟨rfl, rfl⟩
  go_wp2_with fail
  refine (isOver _ _ _ _ _).mono ?_
  rintro e kw2 ⟨rfl, hb⟩
  have k2 := k0.call hb
  clear hb
  clear zk0_0 ck0_0 fk0_0 rk0_0 zk0_1 ck0_1 fk0_1 rk0_1 zk0_2 ck0_2 fk0_2 rk0_2 zk0_3 ck0_3 fk0_3 rk0_3 zk0_4 ck0_4 fk0_4 rk0_4 zk0_5 ck0_5 fk0_5 rk0_5 zk0_6 ck0_6 fk0_6 rk0_6 zk0_7 ck0_7 fk0_7 rk0_7
  clear k0
  obtain ⟨zk2_0, ck2_0, fk2_0, rk2_0⟩ := k2.head
  obtain ⟨zk2_1, ck2_1, fk2_1, rk2_1⟩ := rk2_0.head
  obtain ⟨zk2_2, ck2_2, fk2_2, rk2_2⟩ := rk2_1.head
  obtain ⟨zk2_3, ck2_3, fk2_3, rk2_3⟩ := rk2_2.head
  obtain ⟨zk2_4, ck2_4, fk2_4, rk2_4⟩ := rk2_3.head
  obtain ⟨zk2_5, ck2_5, fk2_5, rk2_5⟩ := rk2_4.head
  obtain ⟨zk2_6, ck2_6, fk2_6, rk2_6⟩ := rk2_5.head
  obtain ⟨zk2_7, ck2_7, fk2_7, rk2_7⟩ := rk2_6.head
  go_wp2_with fail
  exact bodyPost_ret (v := HandQ l l 0 false false false 0) (by simp [results, Try.results47, go_sem, HandE, HandV, HandQ, HandQ3, HandW, HandW2, ck2_0, ck2_1, ck2_2, ck2_3]) rfl ⟨rfl, ((((k2.1).setCell (by simp) _).setCell (by simp) _).setCell (by simp) _).setCell (by simp) _⟩
theorem hello_open_high (l : Int) (q n : Int) (w : World) (h0 : 1 ≤ l) (h1 : l ≤ 2147483647) (hn : limitB n = true) (hq0 : 1 ≤ q) (hq : n < q) : Calls Try.prog 47 #[.agg #[.int .i64 (l), .int .i64 (l), .int .i64 (0), .bool false], .int .i64 q, .int .i64 n] w (Makes (HandQ l l 0 false false false 0) w) := by
  obtain ⟨fc, fo, fg, fv⟩ := facts_open l h0 h1
  have HC := Law.hide fc; clear fc
  go_enter Try.func47, Try.ntmps47
  go_wp2_with fail
  refine (check_tt _ _ _ _ HC.out _).mono ?_
  rintro e kw0 ⟨rfl, hb⟩
  have k0 := (((Held.start w).at4 (w.heap.size) (by simp) 67 (.int .i64 (l)) (.int .i64 (l)) (.int .i64 (0)) (.bool false)).at4 (w.heap.size + 1) (by simp) 67 (.int .i64 (0)) (.int .i64 (0)) (.int .i64 (0)) (.bool false)).call hb
  clear hb
  obtain ⟨zk0_0, ck0_0, fk0_0, rk0_0⟩ := k0.head
  obtain ⟨zk0_1, ck0_1, fk0_1, rk0_1⟩ := rk0_0.head
  obtain ⟨zk0_2, ck0_2, fk0_2, rk0_2⟩ := rk0_1.head
  obtain ⟨zk0_3, ck0_3, fk0_3, rk0_3⟩ := rk0_2.head
  obtain ⟨zk0_4, ck0_4, fk0_4, rk0_4⟩ := rk0_3.head
  obtain ⟨zk0_5, ck0_5, fk0_5, rk0_5⟩ := rk0_4.head
  obtain ⟨zk0_6, ck0_6, fk0_6, rk0_6⟩ := rk0_5.head
  obtain ⟨zk0_7, ck0_7, fk0_7, rk0_7⟩ := rk0_6.head
  go_wp2_with fail
  refine (limit_any _ _).mono ?_
  rintro e kw1 ⟨rfl, rfl⟩
  go_wp2_with fail
  refine (isOver _ _ _ _ _).mono ?_
  rintro e kw2 ⟨rfl, hb⟩
  have k2 := k0.call hb
  clear hb
  clear zk0_0 ck0_0 fk0_0 rk0_0 zk0_1 ck0_1 fk0_1 rk0_1 zk0_2 ck0_2 fk0_2 rk0_2 zk0_3 ck0_3 fk0_3 rk0_3 zk0_4 ck0_4 fk0_4 rk0_4 zk0_5 ck0_5 fk0_5 rk0_5 zk0_6 ck0_6 fk0_6 rk0_6 zk0_7 ck0_7 fk0_7 rk0_7
  clear k0
  obtain ⟨zk2_0, ck2_0, fk2_0, rk2_0⟩ := k2.head
  obtain ⟨zk2_1, ck2_1, fk2_1, rk2_1⟩ := rk2_0.head
  obtain ⟨zk2_2, ck2_2, fk2_2, rk2_2⟩ := rk2_1.head
  obtain ⟨zk2_3, ck2_3, fk2_3, rk2_3⟩ := rk2_2.head
  obtain ⟨zk2_4, ck2_4, fk2_4, rk2_4⟩ := rk2_3.head
  obtain ⟨zk2_5, ck2_5, fk2_5, rk2_5⟩ := rk2_4.head
  obtain ⟨zk2_6, ck2_6, fk2_6, rk2_6⟩ := rk2_5.head
  obtain ⟨zk2_7, ck2_7, fk2_7, rk2_7⟩ := rk2_6.head
  go_wp2_with fail
  exact bodyPost_ret (v := HandQ l l 0 false false false 0) (by simp [results, Try.results47, go_sem, HandE, HandV, HandQ, HandQ3, HandW, HandW2, ck2_0, ck2_1, ck2_2, ck2_3]) rfl ⟨rfl, ((((k2.1).setCell (by simp) _).setCell (by simp) _).setCell (by simp) _).setCell (by simp) _⟩
theorem hello_opening_more (l p q : Int) (n : Int) (w : World) (h0 : 0 ≤ l) (h1 : l < p) (h2 : p ≤ 2147483647) (hn : limitB n = true) (hq0 : 1 ≤ q) (hq1 : q ≤ n) (hq : p < q) : Calls Try.prog 47 #[.agg #[.int .i64 (l), .int .i64 (0), .int .i64 (p), .bool false], .int .i64 q, .int .i64 n] w (Makes (HandQ l 0 q false true false 0) w) := by
  obtain ⟨fc, fo, fg, fv⟩ := facts_opening l p h0 h1 h2
  have HC := Law.hide fc; clear fc
  go_enter Try.func47, Try.ntmps47
  go_wp2_with fail
  refine (check_tt _ _ _ _ HC.out _).mono ?_
  rintro e kw0 ⟨rfl, hb⟩
  have k0 := (((Held.start w).at4 (w.heap.size) (by simp) 67 (.int .i64 (l)) (.int .i64 (0)) (.int .i64 (p)) (.bool false)).at4 (w.heap.size + 1) (by simp) 67 (.int .i64 (0)) (.int .i64 (0)) (.int .i64 (0)) (.bool false)).call hb
  clear hb
  obtain ⟨zk0_0, ck0_0, fk0_0, rk0_0⟩ := k0.head
  obtain ⟨zk0_1, ck0_1, fk0_1, rk0_1⟩ := rk0_0.head
  obtain ⟨zk0_2, ck0_2, fk0_2, rk0_2⟩ := rk0_1.head
  obtain ⟨zk0_3, ck0_3, fk0_3, rk0_3⟩ := rk0_2.head
  obtain ⟨zk0_4, ck0_4, fk0_4, rk0_4⟩ := rk0_3.head
  obtain ⟨zk0_5, ck0_5, fk0_5, rk0_5⟩ := rk0_4.head
  obtain ⟨zk0_6, ck0_6, fk0_6, rk0_6⟩ := rk0_5.head
  obtain ⟨zk0_7, ck0_7, fk0_7, rk0_7⟩ := rk0_6.head
  go_wp2_with fail
  refine (limit_any _ _).mono ?_
  rintro e kw1 ⟨rfl, rfl⟩
  go_wp2_with fail
  refine (isOver _ _ _ _ _).mono ?_
  rintro e kw2 ⟨rfl, hb⟩
  have k2 := k0.call hb
  clear hb
  clear zk0_0 ck0_0 fk0_0 rk0_0 zk0_1 ck0_1 fk0_1 rk0_1 zk0_2 ck0_2 fk0_2 rk0_2 zk0_3 ck0_3 fk0_3 rk0_3 zk0_4 ck0_4 fk0_4 rk0_4 zk0_5 ck0_5 fk0_5 rk0_5 zk0_6 ck0_6 fk0_6 rk0_6 zk0_7 ck0_7 fk0_7 rk0_7
  clear k0
  obtain ⟨zk2_0, ck2_0, fk2_0, rk2_0⟩ := k2.head
  obtain ⟨zk2_1, ck2_1, fk2_1, rk2_1⟩ := rk2_0.head
  obtain ⟨zk2_2, ck2_2, fk2_2, rk2_2⟩ := rk2_1.head
  obtain ⟨zk2_3, ck2_3, fk2_3, rk2_3⟩ := rk2_2.head
  obtain ⟨zk2_4, ck2_4, fk2_4, rk2_4⟩ := rk2_3.head
  obtain ⟨zk2_5, ck2_5, fk2_5, rk2_5⟩ := rk2_4.head
  obtain ⟨zk2_6, ck2_6, fk2_6, rk2_6⟩ := rk2_5.head
  obtain ⟨zk2_7, ck2_7, fk2_7, rk2_7⟩ := rk2_6.head
  go_wp2_with fail
  refine (isOpening _ _ _ _ _).mono ?_
  rintro e kw3 ⟨rfl, hb⟩
  have k3 := k2.call hb
  clear hb
  clear zk2_0 ck2_0 fk2_0 rk2_0 zk2_1 ck2_1 fk2_1 rk2_1 zk2_2 ck2_2 fk2_2 rk2_2 zk2_3 ck2_3 fk2_3 rk2_3 zk2_4 ck2_4 fk2_4 rk2_4 zk2_5 ck2_5 fk2_5 rk2_5 zk2_6 ck2_6 fk2_6 rk2_6 zk2_7 ck2_7 fk2_7 rk2_7
  clear k2
  obtain ⟨zk3_0, ck3_0, fk3_0, rk3_0⟩ := k3.head
  obtain ⟨zk3_1, ck3_1, fk3_1, rk3_1⟩ := rk3_0.head
  obtain ⟨zk3_2, ck3_2, fk3_2, rk3_2⟩ := rk3_1.head
  obtain ⟨zk3_3, ck3_3, fk3_3, rk3_3⟩ := rk3_2.head
  obtain ⟨zk3_4, ck3_4, fk3_4, rk3_4⟩ := rk3_3.head
  obtain ⟨zk3_5, ck3_5, fk3_5, rk3_5⟩ := rk3_4.head
  obtain ⟨zk3_6, ck3_6, fk3_6, rk3_6⟩ := rk3_5.head
  obtain ⟨zk3_7, ck3_7, fk3_7, rk3_7⟩ := rk3_6.head
  go_wp2_with fail
  have g0 : (kw3.setCell ⟨w.heap.size, 2, none⟩ (.int .i64 (q))).cell? ⟨w.heap.size, 0, none⟩ = some (.int .i64 (l)) := by go_simp
  have g1 : (kw3.setCell ⟨w.heap.size, 2, none⟩ (.int .i64 (q))).cell? ⟨w.heap.size, 1, none⟩ = some (.int .i64 (0)) := by go_simp
  have g2 : (kw3.setCell ⟨w.heap.size, 2, none⟩ (.int .i64 (q))).cell? ⟨w.heap.size, 2, none⟩ = some (.int .i64 (q)) := by go_simp
  have g3 : (kw3.setCell ⟨w.heap.size, 2, none⟩ (.int .i64 (q))).cell? ⟨w.heap.size, 3, none⟩ = some (.bool false) := by go_simp
  have d0 : (kw3.setCell ⟨w.heap.size, 2, none⟩ (.int .i64 (q))).cell? ⟨w.heap.size + 1, 0, none⟩ = some (.int .i64 (0)) := by go_simp
  have d1 : (kw3.setCell ⟨w.heap.size, 2, none⟩ (.int .i64 (q))).cell? ⟨w.heap.size + 1, 1, none⟩ = some (.int .i64 (0)) := by go_simp
  have d2 : (kw3.setCell ⟨w.heap.size, 2, none⟩ (.int .i64 (q))).cell? ⟨w.heap.size + 1, 2, none⟩ = some (.int .i64 (0)) := by go_simp
  have d3 : (kw3.setCell ⟨w.heap.size, 2, none⟩ (.int .i64 (q))).cell? ⟨w.heap.size + 1, 3, none⟩ = some (.bool false) := by go_simp
  have fz : ∀ o, (kw3.setCell ⟨w.heap.size, 2, none⟩ (.int .i64 (q))).frozen? ⟨w.heap.size + 1, o, none⟩ = false := fun o => by go_simp
  have HB := Law.hide (k3.1.setCell (p := ⟨w.heap.size, 2, none⟩) (by simp) (.int .i64 (q)))
  clear zk3_0 ck3_0 fk3_0 rk3_0 zk3_1 ck3_1 fk3_1 rk3_1 zk3_2 ck3_2 fk3_2 rk3_2 zk3_3 ck3_3 fk3_3 rk3_3 zk3_4 ck3_4 fk3_4 rk3_4 zk3_5 ck3_5 fk3_5 rk3_5 zk3_6 ck3_6 fk3_6 rk3_6 zk3_7 ck3_7 fk3_7 rk3_7
  clear k3
  generalize (kw3.setCell ⟨w.heap.size, 2, none⟩ (.int .i64 (q))) = wx at *
  go_region
  go_wp2
  exact bodyPost_ret (v := HandQ l 0 q false true false 0) (by simp [results, Try.results47, go_sem, HandQ, HandV, d0, d1, d2, d3]) rfl ⟨rfl, ((((HB.out.setCell (by simp) _).setCell (by simp) _).setCell (by simp) _).setCell (by simp) _).drew⟩
theorem hello_opening_same (l p : Int) (n : Int) (w : World) (h0 : 0 ≤ l) (h1 : l < p) (h2 : p ≤ 2147483647) (hn : limitB n = true) (hq0 : 1 ≤ p) (hq1 : p ≤ n)  : Calls Try.prog 47 #[.agg #[.int .i64 (l), .int .i64 (0), .int .i64 (p), .bool false], .int .i64 p, .int .i64 n] w (Makes (HandQ l 0 p false true false 0) w) := by
  obtain ⟨fc, fo, fg, fv⟩ := facts_opening l p h0 h1 h2
  have HC := Law.hide fc; clear fc
  go_enter Try.func47, Try.ntmps47
  go_wp2_with fail
  refine (check_tt _ _ _ _ HC.out _).mono ?_
  rintro e kw0 ⟨rfl, hb⟩
  have k0 := (((Held.start w).at4 (w.heap.size) (by simp) 67 (.int .i64 (l)) (.int .i64 (0)) (.int .i64 (p)) (.bool false)).at4 (w.heap.size + 1) (by simp) 67 (.int .i64 (0)) (.int .i64 (0)) (.int .i64 (0)) (.bool false)).call hb
  clear hb
  obtain ⟨zk0_0, ck0_0, fk0_0, rk0_0⟩ := k0.head
  obtain ⟨zk0_1, ck0_1, fk0_1, rk0_1⟩ := rk0_0.head
  obtain ⟨zk0_2, ck0_2, fk0_2, rk0_2⟩ := rk0_1.head
  obtain ⟨zk0_3, ck0_3, fk0_3, rk0_3⟩ := rk0_2.head
  obtain ⟨zk0_4, ck0_4, fk0_4, rk0_4⟩ := rk0_3.head
  obtain ⟨zk0_5, ck0_5, fk0_5, rk0_5⟩ := rk0_4.head
  obtain ⟨zk0_6, ck0_6, fk0_6, rk0_6⟩ := rk0_5.head
  obtain ⟨zk0_7, ck0_7, fk0_7, rk0_7⟩ := rk0_6.head
  go_wp2_with fail
  refine (limit_any _ _).mono ?_
  rintro e kw1 ⟨rfl, rfl⟩
  go_wp2_with fail
  refine (isOver _ _ _ _ _).mono ?_
  rintro e kw2 ⟨rfl, hb⟩
  have k2 := k0.call hb
  clear hb
  clear zk0_0 ck0_0 fk0_0 rk0_0 zk0_1 ck0_1 fk0_1 rk0_1 zk0_2 ck0_2 fk0_2 rk0_2 zk0_3 ck0_3 fk0_3 rk0_3 zk0_4 ck0_4 fk0_4 rk0_4 zk0_5 ck0_5 fk0_5 rk0_5 zk0_6 ck0_6 fk0_6 rk0_6 zk0_7 ck0_7 fk0_7 rk0_7
  clear k0
  obtain ⟨zk2_0, ck2_0, fk2_0, rk2_0⟩ := k2.head
  obtain ⟨zk2_1, ck2_1, fk2_1, rk2_1⟩ := rk2_0.head
  obtain ⟨zk2_2, ck2_2, fk2_2, rk2_2⟩ := rk2_1.head
  obtain ⟨zk2_3, ck2_3, fk2_3, rk2_3⟩ := rk2_2.head
  obtain ⟨zk2_4, ck2_4, fk2_4, rk2_4⟩ := rk2_3.head
  obtain ⟨zk2_5, ck2_5, fk2_5, rk2_5⟩ := rk2_4.head
  obtain ⟨zk2_6, ck2_6, fk2_6, rk2_6⟩ := rk2_5.head
  obtain ⟨zk2_7, ck2_7, fk2_7, rk2_7⟩ := rk2_6.head
  go_wp2_with fail
  refine (isOpening _ _ _ _ _).mono ?_
  rintro e kw3 ⟨rfl, hb⟩
  have k3 := k2.call hb
  clear hb
  clear zk2_0 ck2_0 fk2_0 rk2_0 zk2_1 ck2_1 fk2_1 rk2_1 zk2_2 ck2_2 fk2_2 rk2_2 zk2_3 ck2_3 fk2_3 rk2_3 zk2_4 ck2_4 fk2_4 rk2_4 zk2_5 ck2_5 fk2_5 rk2_5 zk2_6 ck2_6 fk2_6 rk2_6 zk2_7 ck2_7 fk2_7 rk2_7
  clear k2
  obtain ⟨zk3_0, ck3_0, fk3_0, rk3_0⟩ := k3.head
  obtain ⟨zk3_1, ck3_1, fk3_1, rk3_1⟩ := rk3_0.head
  obtain ⟨zk3_2, ck3_2, fk3_2, rk3_2⟩ := rk3_1.head
  obtain ⟨zk3_3, ck3_3, fk3_3, rk3_3⟩ := rk3_2.head
  obtain ⟨zk3_4, ck3_4, fk3_4, rk3_4⟩ := rk3_3.head
  obtain ⟨zk3_5, ck3_5, fk3_5, rk3_5⟩ := rk3_4.head
  obtain ⟨zk3_6, ck3_6, fk3_6, rk3_6⟩ := rk3_5.head
  obtain ⟨zk3_7, ck3_7, fk3_7, rk3_7⟩ := rk3_6.head
  go_wp2_with fail
  have g0 : (kw3.setCell ⟨w.heap.size, 2, none⟩ (.int .i64 (p))).cell? ⟨w.heap.size, 0, none⟩ = some (.int .i64 (l)) := by go_simp
  have g1 : (kw3.setCell ⟨w.heap.size, 2, none⟩ (.int .i64 (p))).cell? ⟨w.heap.size, 1, none⟩ = some (.int .i64 (0)) := by go_simp
  have g2 : (kw3.setCell ⟨w.heap.size, 2, none⟩ (.int .i64 (p))).cell? ⟨w.heap.size, 2, none⟩ = some (.int .i64 (p)) := by go_simp
  have g3 : (kw3.setCell ⟨w.heap.size, 2, none⟩ (.int .i64 (p))).cell? ⟨w.heap.size, 3, none⟩ = some (.bool false) := by go_simp
  have d0 : (kw3.setCell ⟨w.heap.size, 2, none⟩ (.int .i64 (p))).cell? ⟨w.heap.size + 1, 0, none⟩ = some (.int .i64 (0)) := by go_simp
  have d1 : (kw3.setCell ⟨w.heap.size, 2, none⟩ (.int .i64 (p))).cell? ⟨w.heap.size + 1, 1, none⟩ = some (.int .i64 (0)) := by go_simp
  have d2 : (kw3.setCell ⟨w.heap.size, 2, none⟩ (.int .i64 (p))).cell? ⟨w.heap.size + 1, 2, none⟩ = some (.int .i64 (0)) := by go_simp
  have d3 : (kw3.setCell ⟨w.heap.size, 2, none⟩ (.int .i64 (p))).cell? ⟨w.heap.size + 1, 3, none⟩ = some (.bool false) := by go_simp
  have fz : ∀ o, (kw3.setCell ⟨w.heap.size, 2, none⟩ (.int .i64 (p))).frozen? ⟨w.heap.size + 1, o, none⟩ = false := fun o => by go_simp
  have HB := Law.hide (k3.1.setCell (p := ⟨w.heap.size, 2, none⟩) (by simp) (.int .i64 (p)))
  clear zk3_0 ck3_0 fk3_0 rk3_0 zk3_1 ck3_1 fk3_1 rk3_1 zk3_2 ck3_2 fk3_2 rk3_2 zk3_3 ck3_3 fk3_3 rk3_3 zk3_4 ck3_4 fk3_4 rk3_4 zk3_5 ck3_5 fk3_5 rk3_5 zk3_6 ck3_6 fk3_6 rk3_6 zk3_7 ck3_7 fk3_7 rk3_7
  clear k3
  generalize (kw3.setCell ⟨w.heap.size, 2, none⟩ (.int .i64 (p))) = wx at *
  go_region
  go_wp2
  exact bodyPost_ret (v := HandQ l 0 p false true false 0) (by simp [results, Try.results47, go_sem, HandQ, HandV, d0, d1, d2, d3]) rfl ⟨rfl, ((((HB.out.setCell (by simp) _).setCell (by simp) _).setCell (by simp) _).setCell (by simp) _).drew⟩
theorem hello_opening_less (l p q : Int) (n : Int) (w : World) (h0 : 0 ≤ l) (h1 : l < p) (h2 : p ≤ 2147483647) (hn : limitB n = true) (hq0 : 1 ≤ q) (hq1 : q ≤ n) (hq : q < p) : Calls Try.prog 47 #[.agg #[.int .i64 (l), .int .i64 (0), .int .i64 (p), .bool false], .int .i64 q, .int .i64 n] w (Makes (HandQ l 0 p false false false 0) w) := by
  obtain ⟨fc, fo, fg, fv⟩ := facts_opening l p h0 h1 h2
  have HC := Law.hide fc; clear fc
  have hq2 : (q == p) = false := bne_ff (by omega)
  go_enter Try.func47, Try.ntmps47
  go_wp2_with fail
  refine (check_tt _ _ _ _ HC.out _).mono ?_
  rintro e kw0 ⟨rfl, hb⟩
  have k0 := (((Held.start w).at4 (w.heap.size) (by simp) 67 (.int .i64 (l)) (.int .i64 (0)) (.int .i64 (p)) (.bool false)).at4 (w.heap.size + 1) (by simp) 67 (.int .i64 (0)) (.int .i64 (0)) (.int .i64 (0)) (.bool false)).call hb
  clear hb
  obtain ⟨zk0_0, ck0_0, fk0_0, rk0_0⟩ := k0.head
  obtain ⟨zk0_1, ck0_1, fk0_1, rk0_1⟩ := rk0_0.head
  obtain ⟨zk0_2, ck0_2, fk0_2, rk0_2⟩ := rk0_1.head
  obtain ⟨zk0_3, ck0_3, fk0_3, rk0_3⟩ := rk0_2.head
  obtain ⟨zk0_4, ck0_4, fk0_4, rk0_4⟩ := rk0_3.head
  obtain ⟨zk0_5, ck0_5, fk0_5, rk0_5⟩ := rk0_4.head
  obtain ⟨zk0_6, ck0_6, fk0_6, rk0_6⟩ := rk0_5.head
  obtain ⟨zk0_7, ck0_7, fk0_7, rk0_7⟩ := rk0_6.head
  go_wp2_with fail
  refine (limit_any _ _).mono ?_
  rintro e kw1 ⟨rfl, rfl⟩
  go_wp2_with fail
  refine (isOver _ _ _ _ _).mono ?_
  rintro e kw2 ⟨rfl, hb⟩
  have k2 := k0.call hb
  clear hb
  clear zk0_0 ck0_0 fk0_0 rk0_0 zk0_1 ck0_1 fk0_1 rk0_1 zk0_2 ck0_2 fk0_2 rk0_2 zk0_3 ck0_3 fk0_3 rk0_3 zk0_4 ck0_4 fk0_4 rk0_4 zk0_5 ck0_5 fk0_5 rk0_5 zk0_6 ck0_6 fk0_6 rk0_6 zk0_7 ck0_7 fk0_7 rk0_7
  clear k0
  obtain ⟨zk2_0, ck2_0, fk2_0, rk2_0⟩ := k2.head
  obtain ⟨zk2_1, ck2_1, fk2_1, rk2_1⟩ := rk2_0.head
  obtain ⟨zk2_2, ck2_2, fk2_2, rk2_2⟩ := rk2_1.head
  obtain ⟨zk2_3, ck2_3, fk2_3, rk2_3⟩ := rk2_2.head
  obtain ⟨zk2_4, ck2_4, fk2_4, rk2_4⟩ := rk2_3.head
  obtain ⟨zk2_5, ck2_5, fk2_5, rk2_5⟩ := rk2_4.head
  obtain ⟨zk2_6, ck2_6, fk2_6, rk2_6⟩ := rk2_5.head
  obtain ⟨zk2_7, ck2_7, fk2_7, rk2_7⟩ := rk2_6.head
  go_wp2_with fail
  refine (isOpening _ _ _ _ _).mono ?_
  rintro e kw3 ⟨rfl, hb⟩
  have k3 := k2.call hb
  clear hb
  clear zk2_0 ck2_0 fk2_0 rk2_0 zk2_1 ck2_1 fk2_1 rk2_1 zk2_2 ck2_2 fk2_2 rk2_2 zk2_3 ck2_3 fk2_3 rk2_3 zk2_4 ck2_4 fk2_4 rk2_4 zk2_5 ck2_5 fk2_5 rk2_5 zk2_6 ck2_6 fk2_6 rk2_6 zk2_7 ck2_7 fk2_7 rk2_7
  clear k2
  obtain ⟨zk3_0, ck3_0, fk3_0, rk3_0⟩ := k3.head
  obtain ⟨zk3_1, ck3_1, fk3_1, rk3_1⟩ := rk3_0.head
  obtain ⟨zk3_2, ck3_2, fk3_2, rk3_2⟩ := rk3_1.head
  obtain ⟨zk3_3, ck3_3, fk3_3, rk3_3⟩ := rk3_2.head
  obtain ⟨zk3_4, ck3_4, fk3_4, rk3_4⟩ := rk3_3.head
  obtain ⟨zk3_5, ck3_5, fk3_5, rk3_5⟩ := rk3_4.head
  obtain ⟨zk3_6, ck3_6, fk3_6, rk3_6⟩ := rk3_5.head
  obtain ⟨zk3_7, ck3_7, fk3_7, rk3_7⟩ := rk3_6.head
  go_wp2_with fail
  have g0 : (kw3.setCell ⟨w.heap.size, 2, none⟩ (.int .i64 (p))).cell? ⟨w.heap.size, 0, none⟩ = some (.int .i64 (l)) := by go_simp
  have g1 : (kw3.setCell ⟨w.heap.size, 2, none⟩ (.int .i64 (p))).cell? ⟨w.heap.size, 1, none⟩ = some (.int .i64 (0)) := by go_simp
  have g2 : (kw3.setCell ⟨w.heap.size, 2, none⟩ (.int .i64 (p))).cell? ⟨w.heap.size, 2, none⟩ = some (.int .i64 (p)) := by go_simp
  have g3 : (kw3.setCell ⟨w.heap.size, 2, none⟩ (.int .i64 (p))).cell? ⟨w.heap.size, 3, none⟩ = some (.bool false) := by go_simp
  have d0 : (kw3.setCell ⟨w.heap.size, 2, none⟩ (.int .i64 (p))).cell? ⟨w.heap.size + 1, 0, none⟩ = some (.int .i64 (0)) := by go_simp
  have d1 : (kw3.setCell ⟨w.heap.size, 2, none⟩ (.int .i64 (p))).cell? ⟨w.heap.size + 1, 1, none⟩ = some (.int .i64 (0)) := by go_simp
  have d2 : (kw3.setCell ⟨w.heap.size, 2, none⟩ (.int .i64 (p))).cell? ⟨w.heap.size + 1, 2, none⟩ = some (.int .i64 (0)) := by go_simp
  have d3 : (kw3.setCell ⟨w.heap.size, 2, none⟩ (.int .i64 (p))).cell? ⟨w.heap.size + 1, 3, none⟩ = some (.bool false) := by go_simp
  have fz : ∀ o, (kw3.setCell ⟨w.heap.size, 2, none⟩ (.int .i64 (p))).frozen? ⟨w.heap.size + 1, o, none⟩ = false := fun o => by go_simp
  have HB := Law.hide (k3.1.setCell (p := ⟨w.heap.size, 2, none⟩) (by simp) (.int .i64 (p)))
  clear zk3_0 ck3_0 fk3_0 rk3_0 zk3_1 ck3_1 fk3_1 rk3_1 zk3_2 ck3_2 fk3_2 rk3_2 zk3_3 ck3_3 fk3_3 rk3_3 zk3_4 ck3_4 fk3_4 rk3_4 zk3_5 ck3_5 fk3_5 rk3_5 zk3_6 ck3_6 fk3_6 rk3_6 zk3_7 ck3_7 fk3_7 rk3_7
  clear k3
  generalize (kw3.setCell ⟨w.heap.size, 2, none⟩ (.int .i64 (p))) = wx at *
  go_region
  go_wp2
  exact bodyPost_ret (v := HandQ l 0 p false false false 0) (by simp [results, Try.results47, go_sem, HandQ, HandV, d0, d1, d2, d3]) rfl ⟨rfl, ((((HB.out.setCell (by simp) _).setCell (by simp) _).setCell (by simp) _).setCell (by simp) _).drew⟩
theorem hello_open_more (l q n : Int) (w : World) (h0 : 1 ≤ l) (h1 : l ≤ 2147483647) (hn : limitB n = true) (hq0 : 1 ≤ q) (hq1 : q ≤ n) (hq : l < q) : Calls Try.prog 47 #[.agg #[.int .i64 (l), .int .i64 (l), .int .i64 (0), .bool false], .int .i64 q, .int .i64 n] w (Makes (HandQ l 0 q false true true 0) w) := by
  obtain ⟨fc, fo, fg, fv⟩ := facts_open l h0 h1
  have HC := Law.hide fc; clear fc
  go_enter Try.func47, Try.ntmps47
  go_wp2_with fail
  refine (check_tt _ _ _ _ HC.out _).mono ?_
  rintro e kw0 ⟨rfl, hb⟩
  have k0 := (((Held.start w).at4 (w.heap.size) (by simp) 67 (.int .i64 (l)) (.int .i64 (l)) (.int .i64 (0)) (.bool false)).at4 (w.heap.size + 1) (by simp) 67 (.int .i64 (0)) (.int .i64 (0)) (.int .i64 (0)) (.bool false)).call hb
  clear hb
  obtain ⟨zk0_0, ck0_0, fk0_0, rk0_0⟩ := k0.head
  obtain ⟨zk0_1, ck0_1, fk0_1, rk0_1⟩ := rk0_0.head
  obtain ⟨zk0_2, ck0_2, fk0_2, rk0_2⟩ := rk0_1.head
  obtain ⟨zk0_3, ck0_3, fk0_3, rk0_3⟩ := rk0_2.head
  obtain ⟨zk0_4, ck0_4, fk0_4, rk0_4⟩ := rk0_3.head
  obtain ⟨zk0_5, ck0_5, fk0_5, rk0_5⟩ := rk0_4.head
  obtain ⟨zk0_6, ck0_6, fk0_6, rk0_6⟩ := rk0_5.head
  obtain ⟨zk0_7, ck0_7, fk0_7, rk0_7⟩ := rk0_6.head
  go_wp2_with fail
  refine (limit_any _ _).mono ?_
  rintro e kw1 ⟨rfl, rfl⟩
  go_wp2_with fail
  refine (isOver _ _ _ _ _).mono ?_
  rintro e kw2 ⟨rfl, hb⟩
  have k2 := k0.call hb
  clear hb
  clear zk0_0 ck0_0 fk0_0 rk0_0 zk0_1 ck0_1 fk0_1 rk0_1 zk0_2 ck0_2 fk0_2 rk0_2 zk0_3 ck0_3 fk0_3 rk0_3 zk0_4 ck0_4 fk0_4 rk0_4 zk0_5 ck0_5 fk0_5 rk0_5 zk0_6 ck0_6 fk0_6 rk0_6 zk0_7 ck0_7 fk0_7 rk0_7
  clear k0
  obtain ⟨zk2_0, ck2_0, fk2_0, rk2_0⟩ := k2.head
  obtain ⟨zk2_1, ck2_1, fk2_1, rk2_1⟩ := rk2_0.head
  obtain ⟨zk2_2, ck2_2, fk2_2, rk2_2⟩ := rk2_1.head
  obtain ⟨zk2_3, ck2_3, fk2_3, rk2_3⟩ := rk2_2.head
  obtain ⟨zk2_4, ck2_4, fk2_4, rk2_4⟩ := rk2_3.head
  obtain ⟨zk2_5, ck2_5, fk2_5, rk2_5⟩ := rk2_4.head
  obtain ⟨zk2_6, ck2_6, fk2_6, rk2_6⟩ := rk2_5.head
  obtain ⟨zk2_7, ck2_7, fk2_7, rk2_7⟩ := rk2_6.head
  go_wp2_with fail
  refine (isOpening _ _ _ _ _).mono ?_
  rintro e kw3 ⟨rfl, hb⟩
  have k3 := k2.call hb
  clear hb
  clear zk2_0 ck2_0 fk2_0 rk2_0 zk2_1 ck2_1 fk2_1 rk2_1 zk2_2 ck2_2 fk2_2 rk2_2 zk2_3 ck2_3 fk2_3 rk2_3 zk2_4 ck2_4 fk2_4 rk2_4 zk2_5 ck2_5 fk2_5 rk2_5 zk2_6 ck2_6 fk2_6 rk2_6 zk2_7 ck2_7 fk2_7 rk2_7
  clear k2
  obtain ⟨zk3_0, ck3_0, fk3_0, rk3_0⟩ := k3.head
  obtain ⟨zk3_1, ck3_1, fk3_1, rk3_1⟩ := rk3_0.head
  obtain ⟨zk3_2, ck3_2, fk3_2, rk3_2⟩ := rk3_1.head
  obtain ⟨zk3_3, ck3_3, fk3_3, rk3_3⟩ := rk3_2.head
  obtain ⟨zk3_4, ck3_4, fk3_4, rk3_4⟩ := rk3_3.head
  obtain ⟨zk3_5, ck3_5, fk3_5, rk3_5⟩ := rk3_4.head
  obtain ⟨zk3_6, ck3_6, fk3_6, rk3_6⟩ := rk3_5.head
  obtain ⟨zk3_7, ck3_7, fk3_7, rk3_7⟩ := rk3_6.head
  go_wp2_with fail
  exact bodyPost_ret (v := HandQ l 0 q false true true 0) (by simp [results, Try.results47, go_sem, HandE, HandV, HandQ, HandQ3, HandW, HandW2, ck3_0, ck3_1, ck3_2, ck3_3]) rfl ⟨rfl, ((((k3.1).setCell (by simp) _).setCell (by simp) _).setCell (by simp) _).setCell (by simp) _⟩
theorem hello_open_same (l n : Int) (w : World) (h0 : 1 ≤ l) (h1 : l ≤ 2147483647) (hn : limitB n = true) (hq0 : 1 ≤ l) (hq1 : l ≤ n)  : Calls Try.prog 47 #[.agg #[.int .i64 (l), .int .i64 (l), .int .i64 (0), .bool false], .int .i64 l, .int .i64 n] w (Makes (HandQ l l 0 false true false 0) w) := by
  obtain ⟨fc, fo, fg, fv⟩ := facts_open l h0 h1
  have HC := Law.hide fc; clear fc
  go_enter Try.func47, Try.ntmps47
  go_wp2_with fail
  refine (check_tt _ _ _ _ HC.out _).mono ?_
  rintro e kw0 ⟨rfl, hb⟩
  have k0 := (((Held.start w).at4 (w.heap.size) (by simp) 67 (.int .i64 (l)) (.int .i64 (l)) (.int .i64 (0)) (.bool false)).at4 (w.heap.size + 1) (by simp) 67 (.int .i64 (0)) (.int .i64 (0)) (.int .i64 (0)) (.bool false)).call hb
  clear hb
  obtain ⟨zk0_0, ck0_0, fk0_0, rk0_0⟩ := k0.head
  obtain ⟨zk0_1, ck0_1, fk0_1, rk0_1⟩ := rk0_0.head
  obtain ⟨zk0_2, ck0_2, fk0_2, rk0_2⟩ := rk0_1.head
  obtain ⟨zk0_3, ck0_3, fk0_3, rk0_3⟩ := rk0_2.head
  obtain ⟨zk0_4, ck0_4, fk0_4, rk0_4⟩ := rk0_3.head
  obtain ⟨zk0_5, ck0_5, fk0_5, rk0_5⟩ := rk0_4.head
  obtain ⟨zk0_6, ck0_6, fk0_6, rk0_6⟩ := rk0_5.head
  obtain ⟨zk0_7, ck0_7, fk0_7, rk0_7⟩ := rk0_6.head
  go_wp2_with fail
  refine (limit_any _ _).mono ?_
  rintro e kw1 ⟨rfl, rfl⟩
  go_wp2_with fail
  refine (isOver _ _ _ _ _).mono ?_
  rintro e kw2 ⟨rfl, hb⟩
  have k2 := k0.call hb
  clear hb
  clear zk0_0 ck0_0 fk0_0 rk0_0 zk0_1 ck0_1 fk0_1 rk0_1 zk0_2 ck0_2 fk0_2 rk0_2 zk0_3 ck0_3 fk0_3 rk0_3 zk0_4 ck0_4 fk0_4 rk0_4 zk0_5 ck0_5 fk0_5 rk0_5 zk0_6 ck0_6 fk0_6 rk0_6 zk0_7 ck0_7 fk0_7 rk0_7
  clear k0
  obtain ⟨zk2_0, ck2_0, fk2_0, rk2_0⟩ := k2.head
  obtain ⟨zk2_1, ck2_1, fk2_1, rk2_1⟩ := rk2_0.head
  obtain ⟨zk2_2, ck2_2, fk2_2, rk2_2⟩ := rk2_1.head
  obtain ⟨zk2_3, ck2_3, fk2_3, rk2_3⟩ := rk2_2.head
  obtain ⟨zk2_4, ck2_4, fk2_4, rk2_4⟩ := rk2_3.head
  obtain ⟨zk2_5, ck2_5, fk2_5, rk2_5⟩ := rk2_4.head
  obtain ⟨zk2_6, ck2_6, fk2_6, rk2_6⟩ := rk2_5.head
  obtain ⟨zk2_7, ck2_7, fk2_7, rk2_7⟩ := rk2_6.head
  go_wp2_with fail
  refine (isOpening _ _ _ _ _).mono ?_
  rintro e kw3 ⟨rfl, hb⟩
  have k3 := k2.call hb
  clear hb
  clear zk2_0 ck2_0 fk2_0 rk2_0 zk2_1 ck2_1 fk2_1 rk2_1 zk2_2 ck2_2 fk2_2 rk2_2 zk2_3 ck2_3 fk2_3 rk2_3 zk2_4 ck2_4 fk2_4 rk2_4 zk2_5 ck2_5 fk2_5 rk2_5 zk2_6 ck2_6 fk2_6 rk2_6 zk2_7 ck2_7 fk2_7 rk2_7
  clear k2
  obtain ⟨zk3_0, ck3_0, fk3_0, rk3_0⟩ := k3.head
  obtain ⟨zk3_1, ck3_1, fk3_1, rk3_1⟩ := rk3_0.head
  obtain ⟨zk3_2, ck3_2, fk3_2, rk3_2⟩ := rk3_1.head
  obtain ⟨zk3_3, ck3_3, fk3_3, rk3_3⟩ := rk3_2.head
  obtain ⟨zk3_4, ck3_4, fk3_4, rk3_4⟩ := rk3_3.head
  obtain ⟨zk3_5, ck3_5, fk3_5, rk3_5⟩ := rk3_4.head
  obtain ⟨zk3_6, ck3_6, fk3_6, rk3_6⟩ := rk3_5.head
  obtain ⟨zk3_7, ck3_7, fk3_7, rk3_7⟩ := rk3_6.head
  go_wp2_with fail
  have HB := Law.hide k3.1
  go_region
  go_wp2
  exact bodyPost_ret (v := HandQ l l 0 false true false 0) (by simp [results, Try.results47, go_sem, HandQ, HandV, ck3_0, ck3_1, ck3_2, ck3_3]) rfl ⟨rfl, ((((HB.out.setCell (by simp) _).setCell (by simp) _).setCell (by simp) _).setCell (by simp) _).drew⟩
theorem hello_open_less (l q n : Int) (w : World) (h0 : 1 ≤ l) (h1 : l ≤ 2147483647) (hn : limitB n = true) (hq0 : 1 ≤ q) (hq1 : q ≤ n) (hq : q < l) : Calls Try.prog 47 #[.agg #[.int .i64 (l), .int .i64 (l), .int .i64 (0), .bool false], .int .i64 q, .int .i64 n] w (Makes (HandQ l l 0 false false false 0) w) := by
  obtain ⟨fc, fo, fg, fv⟩ := facts_open l h0 h1
  have HC := Law.hide fc; clear fc
  have hq2 : (q == l) = false := bne_ff (by omega)
  go_enter Try.func47, Try.ntmps47
  go_wp2_with fail
  refine (check_tt _ _ _ _ HC.out _).mono ?_
  rintro e kw0 ⟨rfl, hb⟩
  have k0 := (((Held.start w).at4 (w.heap.size) (by simp) 67 (.int .i64 (l)) (.int .i64 (l)) (.int .i64 (0)) (.bool false)).at4 (w.heap.size + 1) (by simp) 67 (.int .i64 (0)) (.int .i64 (0)) (.int .i64 (0)) (.bool false)).call hb
  clear hb
  obtain ⟨zk0_0, ck0_0, fk0_0, rk0_0⟩ := k0.head
  obtain ⟨zk0_1, ck0_1, fk0_1, rk0_1⟩ := rk0_0.head
  obtain ⟨zk0_2, ck0_2, fk0_2, rk0_2⟩ := rk0_1.head
  obtain ⟨zk0_3, ck0_3, fk0_3, rk0_3⟩ := rk0_2.head
  obtain ⟨zk0_4, ck0_4, fk0_4, rk0_4⟩ := rk0_3.head
  obtain ⟨zk0_5, ck0_5, fk0_5, rk0_5⟩ := rk0_4.head
  obtain ⟨zk0_6, ck0_6, fk0_6, rk0_6⟩ := rk0_5.head
  obtain ⟨zk0_7, ck0_7, fk0_7, rk0_7⟩ := rk0_6.head
  go_wp2_with fail
  refine (limit_any _ _).mono ?_
  rintro e kw1 ⟨rfl, rfl⟩
  go_wp2_with fail
  refine (isOver _ _ _ _ _).mono ?_
  rintro e kw2 ⟨rfl, hb⟩
  have k2 := k0.call hb
  clear hb
  clear zk0_0 ck0_0 fk0_0 rk0_0 zk0_1 ck0_1 fk0_1 rk0_1 zk0_2 ck0_2 fk0_2 rk0_2 zk0_3 ck0_3 fk0_3 rk0_3 zk0_4 ck0_4 fk0_4 rk0_4 zk0_5 ck0_5 fk0_5 rk0_5 zk0_6 ck0_6 fk0_6 rk0_6 zk0_7 ck0_7 fk0_7 rk0_7
  clear k0
  obtain ⟨zk2_0, ck2_0, fk2_0, rk2_0⟩ := k2.head
  obtain ⟨zk2_1, ck2_1, fk2_1, rk2_1⟩ := rk2_0.head
  obtain ⟨zk2_2, ck2_2, fk2_2, rk2_2⟩ := rk2_1.head
  obtain ⟨zk2_3, ck2_3, fk2_3, rk2_3⟩ := rk2_2.head
  obtain ⟨zk2_4, ck2_4, fk2_4, rk2_4⟩ := rk2_3.head
  obtain ⟨zk2_5, ck2_5, fk2_5, rk2_5⟩ := rk2_4.head
  obtain ⟨zk2_6, ck2_6, fk2_6, rk2_6⟩ := rk2_5.head
  obtain ⟨zk2_7, ck2_7, fk2_7, rk2_7⟩ := rk2_6.head
  go_wp2_with fail
  refine (isOpening _ _ _ _ _).mono ?_
  rintro e kw3 ⟨rfl, hb⟩
  have k3 := k2.call hb
  clear hb
  clear zk2_0 ck2_0 fk2_0 rk2_0 zk2_1 ck2_1 fk2_1 rk2_1 zk2_2 ck2_2 fk2_2 rk2_2 zk2_3 ck2_3 fk2_3 rk2_3 zk2_4 ck2_4 fk2_4 rk2_4 zk2_5 ck2_5 fk2_5 rk2_5 zk2_6 ck2_6 fk2_6 rk2_6 zk2_7 ck2_7 fk2_7 rk2_7
  clear k2
  obtain ⟨zk3_0, ck3_0, fk3_0, rk3_0⟩ := k3.head
  obtain ⟨zk3_1, ck3_1, fk3_1, rk3_1⟩ := rk3_0.head
  obtain ⟨zk3_2, ck3_2, fk3_2, rk3_2⟩ := rk3_1.head
  obtain ⟨zk3_3, ck3_3, fk3_3, rk3_3⟩ := rk3_2.head
  obtain ⟨zk3_4, ck3_4, fk3_4, rk3_4⟩ := rk3_3.head
  obtain ⟨zk3_5, ck3_5, fk3_5, rk3_5⟩ := rk3_4.head
  obtain ⟨zk3_6, ck3_6, fk3_6, rk3_6⟩ := rk3_5.head
  obtain ⟨zk3_7, ck3_7, fk3_7, rk3_7⟩ := rk3_6.head
  go_wp2_with fail
  have HB := Law.hide k3.1
  go_region
  go_wp2
  exact bodyPost_ret (v := HandQ l l 0 false false false 0) (by simp [results, Try.results47, go_sem, HandQ, HandV, ck3_0, ck3_1, ck3_2, ck3_3]) rfl ⟨rfl, ((((HB.out.setCell (by simp) _).setCell (by simp) _).setCell (by simp) _).setCell (by simp) _).drew⟩
end Go.Proofs.Ytcbfccadodikgaa.HandSteps
