/-
  Layer 16's steps in the reference, by the shape of an end: what each makes of it. No condition.
-/
import Derived.Test.YtcbfccadodikgaaHandSteps
namespace Go.Proofs.Ytcbfccadodikgaa.HandRef
open Go.RowKit Go.Proofs.Ytcbfccadodikgaa.Law Go.Proofs.Ytcbfccadodikgaa.Node Go.Proofs.Ytcbfccadodikgaa.Hand Go.Proofs.Ytcbfccadodikgaa.HandSteps
theorem close_over (l : Int) (n : Int) (w : World) (h0 : 0 ≤ l) (h1 : l ≤ 2147483647) : Calls Try.prog 46 #[.agg #[.int .i64 (l), .int .i64 (0), .int .i64 (0), .bool true], .int .i64 n] w (Makes (HandV l 0 0 true) w) := by
  go_enter Try.func46, Try.ntmps46
  go_wp2
  exact bodyPost_ret (v := HandV l 0 0 true) (by simp [results, Try.results46, go_sem, HandV, HandQ3, HandW2]) rfl ⟨rfl, by repeat (first | exact ((Below.refl _ _).alloc (Nat.le_refl _) _).alloc (by simp) _ | refine Below.setCell ?_ (by simp) _)⟩
theorem welcome_over (l : Int) (q : Int) (w : World) (h0 : 0 ≤ l) (h1 : l ≤ 2147483647) : Calls Try.prog 49 #[.agg #[.int .i64 (l), .int .i64 (0), .int .i64 (0), .bool true], .int .i64 q] w (Makes (HandW2 l 0 0 true false) w) := by
  go_enter Try.func49, Try.ntmps49
  go_wp2
  exact bodyPost_ret (v := HandW2 l 0 0 true false) (by simp [results, Try.results49, go_sem, HandV, HandQ3, HandW2]) rfl ⟨rfl, by repeat (first | exact ((Below.refl _ _).alloc (Nat.le_refl _) _).alloc (by simp) _ | refine Below.setCell ?_ (by simp) _)⟩
theorem hello_over_nothing (l : Int) (q n : Int) (w : World) (h0 : 0 ≤ l) (h1 : l ≤ 2147483647)  : Calls Try.prog 50 #[.agg #[.int .i64 (l), .int .i64 (0), .int .i64 (0), .bool true], .int .i64 q, .int .i64 n] w (Makes (HandQ3 l 0 0 true false false) w) := by
  go_enter Try.func50, Try.ntmps50
  go_wp2
  exact bodyPost_ret (v := HandQ3 l 0 0 true false false) (by simp [results, Try.results50, go_sem, HandV, HandQ3, HandW2]) rfl ⟨rfl, by repeat (first | exact ((Below.refl _ _).alloc (Nat.le_refl _) _).alloc (by simp) _ | refine Below.setCell ?_ (by simp) _)⟩
theorem close_opening (l p : Int) (n : Int) (w : World) (h0 : 0 ≤ l) (h1 : l < p) (h2 : p ≤ 2147483647) : Calls Try.prog 46 #[.agg #[.int .i64 (l), .int .i64 (0), .int .i64 (p), .bool false], .int .i64 n] w (Makes (HandV l 0 p false) w) := by
  go_enter Try.func46, Try.ntmps46
  go_wp2
  exact bodyPost_ret (v := HandV l 0 p false) (by simp [results, Try.results46, go_sem, HandV, HandQ3, HandW2]) rfl ⟨rfl, by repeat (first | exact ((Below.refl _ _).alloc (Nat.le_refl _) _).alloc (by simp) _ | refine Below.setCell ?_ (by simp) _)⟩
theorem welcome_opening_no (l p q : Int) (w : World) (h0 : 0 ≤ l) (h1 : l < p) (h2 : p ≤ 2147483647) (hq : q ≠ p) : Calls Try.prog 49 #[.agg #[.int .i64 (l), .int .i64 (0), .int .i64 (p), .bool false], .int .i64 q] w (Makes (HandW2 l 0 p false false) w) := by
  have hq1 : (p == q) = false := bne_ff (fun h => hq h.symm)
  clear hq
  go_enter Try.func49, Try.ntmps49
  go_wp2
  exact bodyPost_ret (v := HandW2 l 0 p false false) (by simp [results, Try.results49, go_sem, HandV, HandQ3, HandW2]) rfl ⟨rfl, by repeat (first | exact ((Below.refl _ _).alloc (Nat.le_refl _) _).alloc (by simp) _ | refine Below.setCell ?_ (by simp) _)⟩
theorem welcome_opening_ok (l p : Int) (w : World) (h0 : 0 ≤ l) (h1 : l < p) (h2 : p ≤ 2147483647) : Calls Try.prog 49 #[.agg #[.int .i64 (l), .int .i64 (0), .int .i64 (p), .bool false], .int .i64 p] w (Makes (HandW2 p p 0 false true) w) := by
  go_enter Try.func49, Try.ntmps49
  go_wp2
  exact bodyPost_ret (v := HandW2 p p 0 false true) (by simp [results, Try.results49, go_sem, HandV, HandQ3, HandW2]) rfl ⟨rfl, by repeat (first | exact ((Below.refl _ _).alloc (Nat.le_refl _) _).alloc (by simp) _ | refine Below.setCell ?_ (by simp) _)⟩
theorem hello_opening_low (l p : Int) (q n : Int) (w : World) (h0 : 0 ≤ l) (h1 : l < p) (h2 : p ≤ 2147483647) (hq : q < 1) : Calls Try.prog 50 #[.agg #[.int .i64 (l), .int .i64 (0), .int .i64 (p), .bool false], .int .i64 q, .int .i64 n] w (Makes (HandQ3 l 0 p false false false) w) := by
  go_enter Try.func50, Try.ntmps50
  go_wp2
  exact bodyPost_ret (v := HandQ3 l 0 p false false false) (by simp [results, Try.results50, go_sem, HandV, HandQ3, HandW2]) rfl ⟨rfl, by repeat (first | exact ((Below.refl _ _).alloc (Nat.le_refl _) _).alloc (by simp) _ | refine Below.setCell ?_ (by simp) _)⟩
theorem hello_opening_high (l p : Int) (q n : Int) (w : World) (h0 : 0 ≤ l) (h1 : l < p) (h2 : p ≤ 2147483647) (hq0 : 1 ≤ q) (hq : n < q) : Calls Try.prog 50 #[.agg #[.int .i64 (l), .int .i64 (0), .int .i64 (p), .bool false], .int .i64 q, .int .i64 n] w (Makes (HandQ3 l 0 p false false false) w) := by
  go_enter Try.func50, Try.ntmps50
  go_wp2
  exact bodyPost_ret (v := HandQ3 l 0 p false false false) (by simp [results, Try.results50, go_sem, HandV, HandQ3, HandW2]) rfl ⟨rfl, by repeat (first | exact ((Below.refl _ _).alloc (Nat.le_refl _) _).alloc (by simp) _ | refine Below.setCell ?_ (by simp) _)⟩
theorem close_open_over (l : Int) (n : Int) (w : World) (h0 : 1 ≤ l) (h1 : l ≤ 2147483647) (hl : n ≤ l) : Calls Try.prog 46 #[.agg #[.int .i64 (l), .int .i64 (l), .int .i64 (0), .bool false], .int .i64 n] w (Makes (HandV l 0 0 true) w) := by
  go_enter Try.func46, Try.ntmps46
  go_wp2_with fail
  refine (rnew_over _ _ _ (by omega) h1 hl).mono ?_
  rintro e kw0 ⟨rfl, hb⟩
  have k0 := (((Held.start w).at4 (w.heap.size) (by simp) 67 (.int .i64 (l)) (.int .i64 (l)) (.int .i64 (0)) (.bool false)).at4 (w.heap.size + 1) (by simp) 67 (.int .i64 (0)) (.int .i64 (0)) (.int .i64 (0)) (.bool false)).call hb
  clear hb
  obtain ⟨zk0_0, ck0_0, fk0_0, rk0_0⟩ := k0.head
  obtain ⟨zk0_1, ck0_1, fk0_1, rk0_1⟩ := rk0_0.head
  obtain ⟨zk0_2, ck0_2, fk0_2, rk0_2⟩ := rk0_1.head
  obtain ⟨zk0_3, ck0_3, fk0_3, rk0_3⟩ := rk0_2.head
  obtain ⟨zk0_4, ck0_4, fk0_4, rk0_4⟩ := rk0_3.head
  obtain ⟨zk0_5, ck0_5, fk0_5, rk0_5⟩ := rk0_4.head
  obtain ⟨zk0_6, ck0_6, fk0_6, rk0_6⟩ := rk0_5.head
  obtain ⟨zk0_7, ck0_7, fk0_7, rk0_7⟩ := rk0_6.head
  unfold HandV
  go_wp2_with fail
  exact bodyPost_ret (v := HandV l 0 0 true) (by simp [results, Try.results46, go_sem, HandV, ck0_0, ck0_1, ck0_2, ck0_3]) rfl ⟨rfl, ((((k0.1).setCell (by simp) _).setCell (by simp) _).setCell (by simp) _).setCell (by simp) _⟩
theorem close_open_ok (l : Int) (n : Int) (w : World) (h0 : 1 ≤ l) (h1 : l ≤ 2147483647) (hl : l < n) : Calls Try.prog 46 #[.agg #[.int .i64 (l), .int .i64 (l), .int .i64 (0), .bool false], .int .i64 n] w (Makes (HandV l 0 (l + 1) false) w) := by
  go_enter Try.func46, Try.ntmps46
  go_wp2_with fail
  refine (rnew_ok _ _ _ (by omega) h1 hl).mono ?_
  rintro e kw0 ⟨rfl, hb⟩
  have k0 := (((Held.start w).at4 (w.heap.size) (by simp) 67 (.int .i64 (l)) (.int .i64 (l)) (.int .i64 (0)) (.bool false)).at4 (w.heap.size + 1) (by simp) 67 (.int .i64 (0)) (.int .i64 (0)) (.int .i64 (0)) (.bool false)).call hb
  clear hb
  obtain ⟨zk0_0, ck0_0, fk0_0, rk0_0⟩ := k0.head
  obtain ⟨zk0_1, ck0_1, fk0_1, rk0_1⟩ := rk0_0.head
  obtain ⟨zk0_2, ck0_2, fk0_2, rk0_2⟩ := rk0_1.head
  obtain ⟨zk0_3, ck0_3, fk0_3, rk0_3⟩ := rk0_2.head
  obtain ⟨zk0_4, ck0_4, fk0_4, rk0_4⟩ := rk0_3.head
  obtain ⟨zk0_5, ck0_5, fk0_5, rk0_5⟩ := rk0_4.head
  obtain ⟨zk0_6, ck0_6, fk0_6, rk0_6⟩ := rk0_5.head
  obtain ⟨zk0_7, ck0_7, fk0_7, rk0_7⟩ := rk0_6.head
  unfold HandV
  go_wp2_with fail
  exact bodyPost_ret (v := HandV l 0 (l + 1) false) (by simp [results, Try.results46, go_sem, HandV, ck0_0, ck0_1, ck0_2, ck0_3]) rfl ⟨rfl, ((((k0.1).setCell (by simp) _).setCell (by simp) _).setCell (by simp) _).setCell (by simp) _⟩
theorem welcome_open (l : Int) (q : Int) (w : World) (h0 : 1 ≤ l) (h1 : l ≤ 2147483647) : Calls Try.prog 49 #[.agg #[.int .i64 (l), .int .i64 (l), .int .i64 (0), .bool false], .int .i64 q] w (Makes (HandW2 l l 0 false false) w) := by
  go_enter Try.func49, Try.ntmps49
  go_wp2
  exact bodyPost_ret (v := HandW2 l l 0 false false) (by simp [results, Try.results49, go_sem, HandV, HandQ3, HandW2]) rfl ⟨rfl, by repeat (first | exact ((Below.refl _ _).alloc (Nat.le_refl _) _).alloc (by simp) _ | refine Below.setCell ?_ (by simp) _)⟩
theorem hello_open_low (l : Int) (q n : Int) (w : World) (h0 : 1 ≤ l) (h1 : l ≤ 2147483647) (hq : q < 1) : Calls Try.prog 50 #[.agg #[.int .i64 (l), .int .i64 (l), .int .i64 (0), .bool false], .int .i64 q, .int .i64 n] w (Makes (HandQ3 l l 0 false false false) w) := by
  go_enter Try.func50, Try.ntmps50
  go_wp2
  exact bodyPost_ret (v := HandQ3 l l 0 false false false) (by simp [results, Try.results50, go_sem, HandV, HandQ3, HandW2]) rfl ⟨rfl, by repeat (first | exact ((Below.refl _ _).alloc (Nat.le_refl _) _).alloc (by simp) _ | refine Below.setCell ?_ (by simp) _)⟩
theorem hello_open_high (l : Int) (q n : Int) (w : World) (h0 : 1 ≤ l) (h1 : l ≤ 2147483647) (hq0 : 1 ≤ q) (hq : n < q) : Calls Try.prog 50 #[.agg #[.int .i64 (l), .int .i64 (l), .int .i64 (0), .bool false], .int .i64 q, .int .i64 n] w (Makes (HandQ3 l l 0 false false false) w) := by
  go_enter Try.func50, Try.ntmps50
  go_wp2
  exact bodyPost_ret (v := HandQ3 l l 0 false false false) (by simp [results, Try.results50, go_sem, HandV, HandQ3, HandW2]) rfl ⟨rfl, by repeat (first | exact ((Below.refl _ _).alloc (Nat.le_refl _) _).alloc (by simp) _ | refine Below.setCell ?_ (by simp) _)⟩
theorem hello_opening_more (l p q n : Int) (w : World) (h0 : 0 ≤ l) (h1 : l < p) (h2 : p ≤ 2147483647) (hq0 : 1 ≤ q) (hq1 : q ≤ n) (hq : p < q) : Calls Try.prog 50 #[.agg #[.int .i64 (l), .int .i64 (0), .int .i64 (p), .bool false], .int .i64 q, .int .i64 n] w (Makes (HandQ3 l 0 q false true false) w) := by
  go_enter Try.func50, Try.ntmps50
  go_wp2
  have g0 : ((w.alloc (Obj.cells #[Value.int .i64 (l), Value.int .i64 (0), Value.int .i64 (q), Value.bool false] 67)).alloc (Obj.cells #[Value.int .i64 (0), Value.int .i64 (0), Value.int .i64 (0), Value.bool false] 67)).cell? ⟨w.heap.size, 0, none⟩ = some (.int .i64 (l)) := by go_simp
  have g1 : ((w.alloc (Obj.cells #[Value.int .i64 (l), Value.int .i64 (0), Value.int .i64 (q), Value.bool false] 67)).alloc (Obj.cells #[Value.int .i64 (0), Value.int .i64 (0), Value.int .i64 (0), Value.bool false] 67)).cell? ⟨w.heap.size, 1, none⟩ = some (.int .i64 (0)) := by go_simp
  have g2 : ((w.alloc (Obj.cells #[Value.int .i64 (l), Value.int .i64 (0), Value.int .i64 (q), Value.bool false] 67)).alloc (Obj.cells #[Value.int .i64 (0), Value.int .i64 (0), Value.int .i64 (0), Value.bool false] 67)).cell? ⟨w.heap.size, 2, none⟩ = some (.int .i64 (q)) := by go_simp
  have g3 : ((w.alloc (Obj.cells #[Value.int .i64 (l), Value.int .i64 (0), Value.int .i64 (q), Value.bool false] 67)).alloc (Obj.cells #[Value.int .i64 (0), Value.int .i64 (0), Value.int .i64 (0), Value.bool false] 67)).cell? ⟨w.heap.size, 3, none⟩ = some (.bool false) := by go_simp
  have d0 : ((w.alloc (Obj.cells #[Value.int .i64 (l), Value.int .i64 (0), Value.int .i64 (q), Value.bool false] 67)).alloc (Obj.cells #[Value.int .i64 (0), Value.int .i64 (0), Value.int .i64 (0), Value.bool false] 67)).cell? ⟨w.heap.size + 1, 0, none⟩ = some (.int .i64 (0)) := by go_simp
  have d1 : ((w.alloc (Obj.cells #[Value.int .i64 (l), Value.int .i64 (0), Value.int .i64 (q), Value.bool false] 67)).alloc (Obj.cells #[Value.int .i64 (0), Value.int .i64 (0), Value.int .i64 (0), Value.bool false] 67)).cell? ⟨w.heap.size + 1, 1, none⟩ = some (.int .i64 (0)) := by go_simp
  have d2 : ((w.alloc (Obj.cells #[Value.int .i64 (l), Value.int .i64 (0), Value.int .i64 (q), Value.bool false] 67)).alloc (Obj.cells #[Value.int .i64 (0), Value.int .i64 (0), Value.int .i64 (0), Value.bool false] 67)).cell? ⟨w.heap.size + 1, 2, none⟩ = some (.int .i64 (0)) := by go_simp
  have d3 : ((w.alloc (Obj.cells #[Value.int .i64 (l), Value.int .i64 (0), Value.int .i64 (q), Value.bool false] 67)).alloc (Obj.cells #[Value.int .i64 (0), Value.int .i64 (0), Value.int .i64 (0), Value.bool false] 67)).cell? ⟨w.heap.size + 1, 3, none⟩ = some (.bool false) := by go_simp
  have fz : ∀ o, ((w.alloc (Obj.cells #[Value.int .i64 (l), Value.int .i64 (0), Value.int .i64 (q), Value.bool false] 67)).alloc (Obj.cells #[Value.int .i64 (0), Value.int .i64 (0), Value.int .i64 (0), Value.bool false] 67)).frozen? ⟨w.heap.size + 1, o, none⟩ = false := fun o => by go_simp
  have HB := Law.hide (show Below w.heap.size w ((w.alloc (Obj.cells #[Value.int .i64 (l), Value.int .i64 (0), Value.int .i64 (q), Value.bool false] 67)).alloc (Obj.cells #[Value.int .i64 (0), Value.int .i64 (0), Value.int .i64 (0), Value.bool false] 67)) from ((Below.refl _ _).alloc (Nat.le_refl _) _).alloc (by simp) _)
  generalize ((w.alloc (Obj.cells #[Value.int .i64 (l), Value.int .i64 (0), Value.int .i64 (q), Value.bool false] 67)).alloc (Obj.cells #[Value.int .i64 (0), Value.int .i64 (0), Value.int .i64 (0), Value.bool false] 67)) = wx at *
  go_region
  go_wp2
  exact bodyPost_ret (v := HandQ3 l 0 q false true false) (by simp [results, Try.results50, go_sem, HandQ3, HandV, d0, d1, d2, d3]) rfl ⟨rfl, ((((HB.out.setCell (by simp) _).setCell (by simp) _).setCell (by simp) _).setCell (by simp) _).drew⟩
theorem hello_opening_same (l p n : Int) (w : World) (h0 : 0 ≤ l) (h1 : l < p) (h2 : p ≤ 2147483647) (hq0 : 1 ≤ p) (hq1 : p ≤ n) : Calls Try.prog 50 #[.agg #[.int .i64 (l), .int .i64 (0), .int .i64 (p), .bool false], .int .i64 p, .int .i64 n] w (Makes (HandQ3 l 0 p false true false) w) := by
  go_enter Try.func50, Try.ntmps50
  go_wp2
  have g0 : ((w.alloc (Obj.cells #[Value.int .i64 (l), Value.int .i64 (0), Value.int .i64 (p), Value.bool false] 67)).alloc (Obj.cells #[Value.int .i64 (0), Value.int .i64 (0), Value.int .i64 (0), Value.bool false] 67)).cell? ⟨w.heap.size, 0, none⟩ = some (.int .i64 (l)) := by go_simp
  have g1 : ((w.alloc (Obj.cells #[Value.int .i64 (l), Value.int .i64 (0), Value.int .i64 (p), Value.bool false] 67)).alloc (Obj.cells #[Value.int .i64 (0), Value.int .i64 (0), Value.int .i64 (0), Value.bool false] 67)).cell? ⟨w.heap.size, 1, none⟩ = some (.int .i64 (0)) := by go_simp
  have g2 : ((w.alloc (Obj.cells #[Value.int .i64 (l), Value.int .i64 (0), Value.int .i64 (p), Value.bool false] 67)).alloc (Obj.cells #[Value.int .i64 (0), Value.int .i64 (0), Value.int .i64 (0), Value.bool false] 67)).cell? ⟨w.heap.size, 2, none⟩ = some (.int .i64 (p)) := by go_simp
  have g3 : ((w.alloc (Obj.cells #[Value.int .i64 (l), Value.int .i64 (0), Value.int .i64 (p), Value.bool false] 67)).alloc (Obj.cells #[Value.int .i64 (0), Value.int .i64 (0), Value.int .i64 (0), Value.bool false] 67)).cell? ⟨w.heap.size, 3, none⟩ = some (.bool false) := by go_simp
  have d0 : ((w.alloc (Obj.cells #[Value.int .i64 (l), Value.int .i64 (0), Value.int .i64 (p), Value.bool false] 67)).alloc (Obj.cells #[Value.int .i64 (0), Value.int .i64 (0), Value.int .i64 (0), Value.bool false] 67)).cell? ⟨w.heap.size + 1, 0, none⟩ = some (.int .i64 (0)) := by go_simp
  have d1 : ((w.alloc (Obj.cells #[Value.int .i64 (l), Value.int .i64 (0), Value.int .i64 (p), Value.bool false] 67)).alloc (Obj.cells #[Value.int .i64 (0), Value.int .i64 (0), Value.int .i64 (0), Value.bool false] 67)).cell? ⟨w.heap.size + 1, 1, none⟩ = some (.int .i64 (0)) := by go_simp
  have d2 : ((w.alloc (Obj.cells #[Value.int .i64 (l), Value.int .i64 (0), Value.int .i64 (p), Value.bool false] 67)).alloc (Obj.cells #[Value.int .i64 (0), Value.int .i64 (0), Value.int .i64 (0), Value.bool false] 67)).cell? ⟨w.heap.size + 1, 2, none⟩ = some (.int .i64 (0)) := by go_simp
  have d3 : ((w.alloc (Obj.cells #[Value.int .i64 (l), Value.int .i64 (0), Value.int .i64 (p), Value.bool false] 67)).alloc (Obj.cells #[Value.int .i64 (0), Value.int .i64 (0), Value.int .i64 (0), Value.bool false] 67)).cell? ⟨w.heap.size + 1, 3, none⟩ = some (.bool false) := by go_simp
  have fz : ∀ o, ((w.alloc (Obj.cells #[Value.int .i64 (l), Value.int .i64 (0), Value.int .i64 (p), Value.bool false] 67)).alloc (Obj.cells #[Value.int .i64 (0), Value.int .i64 (0), Value.int .i64 (0), Value.bool false] 67)).frozen? ⟨w.heap.size + 1, o, none⟩ = false := fun o => by go_simp
  have HB := Law.hide (show Below w.heap.size w ((w.alloc (Obj.cells #[Value.int .i64 (l), Value.int .i64 (0), Value.int .i64 (p), Value.bool false] 67)).alloc (Obj.cells #[Value.int .i64 (0), Value.int .i64 (0), Value.int .i64 (0), Value.bool false] 67)) from ((Below.refl _ _).alloc (Nat.le_refl _) _).alloc (by simp) _)
  generalize ((w.alloc (Obj.cells #[Value.int .i64 (l), Value.int .i64 (0), Value.int .i64 (p), Value.bool false] 67)).alloc (Obj.cells #[Value.int .i64 (0), Value.int .i64 (0), Value.int .i64 (0), Value.bool false] 67)) = wx at *
  go_region
  go_wp2
  exact bodyPost_ret (v := HandQ3 l 0 p false true false) (by simp [results, Try.results50, go_sem, HandQ3, HandV, d0, d1, d2, d3]) rfl ⟨rfl, ((((HB.out.setCell (by simp) _).setCell (by simp) _).setCell (by simp) _).setCell (by simp) _).drew⟩
theorem hello_opening_less (l p q n : Int) (w : World) (h0 : 0 ≤ l) (h1 : l < p) (h2 : p ≤ 2147483647) (hq0 : 1 ≤ q) (hq1 : q ≤ n) (hq : q < p) : Calls Try.prog 50 #[.agg #[.int .i64 (l), .int .i64 (0), .int .i64 (p), .bool false], .int .i64 q, .int .i64 n] w (Makes (HandQ3 l 0 p false false false) w) := by
  have hq2 : (q == p) = false := bne_ff (by omega)
  go_enter Try.func50, Try.ntmps50
  go_wp2
  have g0 : ((w.alloc (Obj.cells #[Value.int .i64 (l), Value.int .i64 (0), Value.int .i64 (p), Value.bool false] 67)).alloc (Obj.cells #[Value.int .i64 (0), Value.int .i64 (0), Value.int .i64 (0), Value.bool false] 67)).cell? ⟨w.heap.size, 0, none⟩ = some (.int .i64 (l)) := by go_simp
  have g1 : ((w.alloc (Obj.cells #[Value.int .i64 (l), Value.int .i64 (0), Value.int .i64 (p), Value.bool false] 67)).alloc (Obj.cells #[Value.int .i64 (0), Value.int .i64 (0), Value.int .i64 (0), Value.bool false] 67)).cell? ⟨w.heap.size, 1, none⟩ = some (.int .i64 (0)) := by go_simp
  have g2 : ((w.alloc (Obj.cells #[Value.int .i64 (l), Value.int .i64 (0), Value.int .i64 (p), Value.bool false] 67)).alloc (Obj.cells #[Value.int .i64 (0), Value.int .i64 (0), Value.int .i64 (0), Value.bool false] 67)).cell? ⟨w.heap.size, 2, none⟩ = some (.int .i64 (p)) := by go_simp
  have g3 : ((w.alloc (Obj.cells #[Value.int .i64 (l), Value.int .i64 (0), Value.int .i64 (p), Value.bool false] 67)).alloc (Obj.cells #[Value.int .i64 (0), Value.int .i64 (0), Value.int .i64 (0), Value.bool false] 67)).cell? ⟨w.heap.size, 3, none⟩ = some (.bool false) := by go_simp
  have d0 : ((w.alloc (Obj.cells #[Value.int .i64 (l), Value.int .i64 (0), Value.int .i64 (p), Value.bool false] 67)).alloc (Obj.cells #[Value.int .i64 (0), Value.int .i64 (0), Value.int .i64 (0), Value.bool false] 67)).cell? ⟨w.heap.size + 1, 0, none⟩ = some (.int .i64 (0)) := by go_simp
  have d1 : ((w.alloc (Obj.cells #[Value.int .i64 (l), Value.int .i64 (0), Value.int .i64 (p), Value.bool false] 67)).alloc (Obj.cells #[Value.int .i64 (0), Value.int .i64 (0), Value.int .i64 (0), Value.bool false] 67)).cell? ⟨w.heap.size + 1, 1, none⟩ = some (.int .i64 (0)) := by go_simp
  have d2 : ((w.alloc (Obj.cells #[Value.int .i64 (l), Value.int .i64 (0), Value.int .i64 (p), Value.bool false] 67)).alloc (Obj.cells #[Value.int .i64 (0), Value.int .i64 (0), Value.int .i64 (0), Value.bool false] 67)).cell? ⟨w.heap.size + 1, 2, none⟩ = some (.int .i64 (0)) := by go_simp
  have d3 : ((w.alloc (Obj.cells #[Value.int .i64 (l), Value.int .i64 (0), Value.int .i64 (p), Value.bool false] 67)).alloc (Obj.cells #[Value.int .i64 (0), Value.int .i64 (0), Value.int .i64 (0), Value.bool false] 67)).cell? ⟨w.heap.size + 1, 3, none⟩ = some (.bool false) := by go_simp
  have fz : ∀ o, ((w.alloc (Obj.cells #[Value.int .i64 (l), Value.int .i64 (0), Value.int .i64 (p), Value.bool false] 67)).alloc (Obj.cells #[Value.int .i64 (0), Value.int .i64 (0), Value.int .i64 (0), Value.bool false] 67)).frozen? ⟨w.heap.size + 1, o, none⟩ = false := fun o => by go_simp
  have HB := Law.hide (show Below w.heap.size w ((w.alloc (Obj.cells #[Value.int .i64 (l), Value.int .i64 (0), Value.int .i64 (p), Value.bool false] 67)).alloc (Obj.cells #[Value.int .i64 (0), Value.int .i64 (0), Value.int .i64 (0), Value.bool false] 67)) from ((Below.refl _ _).alloc (Nat.le_refl _) _).alloc (by simp) _)
  generalize ((w.alloc (Obj.cells #[Value.int .i64 (l), Value.int .i64 (0), Value.int .i64 (p), Value.bool false] 67)).alloc (Obj.cells #[Value.int .i64 (0), Value.int .i64 (0), Value.int .i64 (0), Value.bool false] 67)) = wx at *
  go_region
  go_wp2
  exact bodyPost_ret (v := HandQ3 l 0 p false false false) (by simp [results, Try.results50, go_sem, HandQ3, HandV, d0, d1, d2, d3]) rfl ⟨rfl, ((((HB.out.setCell (by simp) _).setCell (by simp) _).setCell (by simp) _).setCell (by simp) _).drew⟩
theorem hello_open_more (l q n : Int) (w : World) (h0 : 1 ≤ l) (h1 : l ≤ 2147483647) (hq0 : 1 ≤ q) (hq1 : q ≤ n) (hq : l < q) : Calls Try.prog 50 #[.agg #[.int .i64 (l), .int .i64 (l), .int .i64 (0), .bool false], .int .i64 q, .int .i64 n] w (Makes (HandQ3 l 0 q false true true) w) := by
  go_enter Try.func50, Try.ntmps50
  go_wp2
  exact bodyPost_ret (v := HandQ3 l 0 q false true true) (by simp [results, Try.results50, go_sem, HandV, HandQ3, HandW2]) rfl ⟨rfl, by repeat (first | exact ((Below.refl _ _).alloc (Nat.le_refl _) _).alloc (by simp) _ | refine Below.setCell ?_ (by simp) _)⟩
theorem hello_open_same (l n : Int) (w : World) (h0 : 1 ≤ l) (h1 : l ≤ 2147483647) (hq0 : 1 ≤ l) (hq1 : l ≤ n) : Calls Try.prog 50 #[.agg #[.int .i64 (l), .int .i64 (l), .int .i64 (0), .bool false], .int .i64 l, .int .i64 n] w (Makes (HandQ3 l l 0 false true false) w) := by
  go_enter Try.func50, Try.ntmps50
  go_wp2
  have g0 : ((w.alloc (Obj.cells #[Value.int .i64 (l), Value.int .i64 (l), Value.int .i64 (0), Value.bool false] 67)).alloc (Obj.cells #[Value.int .i64 (0), Value.int .i64 (0), Value.int .i64 (0), Value.bool false] 67)).cell? ⟨w.heap.size, 0, none⟩ = some (.int .i64 (l)) := by go_simp
  have g1 : ((w.alloc (Obj.cells #[Value.int .i64 (l), Value.int .i64 (l), Value.int .i64 (0), Value.bool false] 67)).alloc (Obj.cells #[Value.int .i64 (0), Value.int .i64 (0), Value.int .i64 (0), Value.bool false] 67)).cell? ⟨w.heap.size, 1, none⟩ = some (.int .i64 (l)) := by go_simp
  have g2 : ((w.alloc (Obj.cells #[Value.int .i64 (l), Value.int .i64 (l), Value.int .i64 (0), Value.bool false] 67)).alloc (Obj.cells #[Value.int .i64 (0), Value.int .i64 (0), Value.int .i64 (0), Value.bool false] 67)).cell? ⟨w.heap.size, 2, none⟩ = some (.int .i64 (0)) := by go_simp
  have g3 : ((w.alloc (Obj.cells #[Value.int .i64 (l), Value.int .i64 (l), Value.int .i64 (0), Value.bool false] 67)).alloc (Obj.cells #[Value.int .i64 (0), Value.int .i64 (0), Value.int .i64 (0), Value.bool false] 67)).cell? ⟨w.heap.size, 3, none⟩ = some (.bool false) := by go_simp
  have d0 : ((w.alloc (Obj.cells #[Value.int .i64 (l), Value.int .i64 (l), Value.int .i64 (0), Value.bool false] 67)).alloc (Obj.cells #[Value.int .i64 (0), Value.int .i64 (0), Value.int .i64 (0), Value.bool false] 67)).cell? ⟨w.heap.size + 1, 0, none⟩ = some (.int .i64 (0)) := by go_simp
  have d1 : ((w.alloc (Obj.cells #[Value.int .i64 (l), Value.int .i64 (l), Value.int .i64 (0), Value.bool false] 67)).alloc (Obj.cells #[Value.int .i64 (0), Value.int .i64 (0), Value.int .i64 (0), Value.bool false] 67)).cell? ⟨w.heap.size + 1, 1, none⟩ = some (.int .i64 (0)) := by go_simp
  have d2 : ((w.alloc (Obj.cells #[Value.int .i64 (l), Value.int .i64 (l), Value.int .i64 (0), Value.bool false] 67)).alloc (Obj.cells #[Value.int .i64 (0), Value.int .i64 (0), Value.int .i64 (0), Value.bool false] 67)).cell? ⟨w.heap.size + 1, 2, none⟩ = some (.int .i64 (0)) := by go_simp
  have d3 : ((w.alloc (Obj.cells #[Value.int .i64 (l), Value.int .i64 (l), Value.int .i64 (0), Value.bool false] 67)).alloc (Obj.cells #[Value.int .i64 (0), Value.int .i64 (0), Value.int .i64 (0), Value.bool false] 67)).cell? ⟨w.heap.size + 1, 3, none⟩ = some (.bool false) := by go_simp
  have fz : ∀ o, ((w.alloc (Obj.cells #[Value.int .i64 (l), Value.int .i64 (l), Value.int .i64 (0), Value.bool false] 67)).alloc (Obj.cells #[Value.int .i64 (0), Value.int .i64 (0), Value.int .i64 (0), Value.bool false] 67)).frozen? ⟨w.heap.size + 1, o, none⟩ = false := fun o => by go_simp
  have HB := Law.hide (show Below w.heap.size w ((w.alloc (Obj.cells #[Value.int .i64 (l), Value.int .i64 (l), Value.int .i64 (0), Value.bool false] 67)).alloc (Obj.cells #[Value.int .i64 (0), Value.int .i64 (0), Value.int .i64 (0), Value.bool false] 67)) from ((Below.refl _ _).alloc (Nat.le_refl _) _).alloc (by simp) _)
  generalize ((w.alloc (Obj.cells #[Value.int .i64 (l), Value.int .i64 (l), Value.int .i64 (0), Value.bool false] 67)).alloc (Obj.cells #[Value.int .i64 (0), Value.int .i64 (0), Value.int .i64 (0), Value.bool false] 67)) = wx at *
  go_region
  go_wp2
  exact bodyPost_ret (v := HandQ3 l l 0 false true false) (by simp [results, Try.results50, go_sem, HandQ3, HandV, d0, d1, d2, d3]) rfl ⟨rfl, ((((HB.out.setCell (by simp) _).setCell (by simp) _).setCell (by simp) _).setCell (by simp) _).drew⟩
theorem hello_open_less (l q n : Int) (w : World) (h0 : 1 ≤ l) (h1 : l ≤ 2147483647) (hq0 : 1 ≤ q) (hq1 : q ≤ n) (hq : q < l) : Calls Try.prog 50 #[.agg #[.int .i64 (l), .int .i64 (l), .int .i64 (0), .bool false], .int .i64 q, .int .i64 n] w (Makes (HandQ3 l l 0 false false false) w) := by
  have hq2 : (q == l) = false := bne_ff (by omega)
  go_enter Try.func50, Try.ntmps50
  go_wp2
  have g0 : ((w.alloc (Obj.cells #[Value.int .i64 (l), Value.int .i64 (l), Value.int .i64 (0), Value.bool false] 67)).alloc (Obj.cells #[Value.int .i64 (0), Value.int .i64 (0), Value.int .i64 (0), Value.bool false] 67)).cell? ⟨w.heap.size, 0, none⟩ = some (.int .i64 (l)) := by go_simp
  have g1 : ((w.alloc (Obj.cells #[Value.int .i64 (l), Value.int .i64 (l), Value.int .i64 (0), Value.bool false] 67)).alloc (Obj.cells #[Value.int .i64 (0), Value.int .i64 (0), Value.int .i64 (0), Value.bool false] 67)).cell? ⟨w.heap.size, 1, none⟩ = some (.int .i64 (l)) := by go_simp
  have g2 : ((w.alloc (Obj.cells #[Value.int .i64 (l), Value.int .i64 (l), Value.int .i64 (0), Value.bool false] 67)).alloc (Obj.cells #[Value.int .i64 (0), Value.int .i64 (0), Value.int .i64 (0), Value.bool false] 67)).cell? ⟨w.heap.size, 2, none⟩ = some (.int .i64 (0)) := by go_simp
  have g3 : ((w.alloc (Obj.cells #[Value.int .i64 (l), Value.int .i64 (l), Value.int .i64 (0), Value.bool false] 67)).alloc (Obj.cells #[Value.int .i64 (0), Value.int .i64 (0), Value.int .i64 (0), Value.bool false] 67)).cell? ⟨w.heap.size, 3, none⟩ = some (.bool false) := by go_simp
  have d0 : ((w.alloc (Obj.cells #[Value.int .i64 (l), Value.int .i64 (l), Value.int .i64 (0), Value.bool false] 67)).alloc (Obj.cells #[Value.int .i64 (0), Value.int .i64 (0), Value.int .i64 (0), Value.bool false] 67)).cell? ⟨w.heap.size + 1, 0, none⟩ = some (.int .i64 (0)) := by go_simp
  have d1 : ((w.alloc (Obj.cells #[Value.int .i64 (l), Value.int .i64 (l), Value.int .i64 (0), Value.bool false] 67)).alloc (Obj.cells #[Value.int .i64 (0), Value.int .i64 (0), Value.int .i64 (0), Value.bool false] 67)).cell? ⟨w.heap.size + 1, 1, none⟩ = some (.int .i64 (0)) := by go_simp
  have d2 : ((w.alloc (Obj.cells #[Value.int .i64 (l), Value.int .i64 (l), Value.int .i64 (0), Value.bool false] 67)).alloc (Obj.cells #[Value.int .i64 (0), Value.int .i64 (0), Value.int .i64 (0), Value.bool false] 67)).cell? ⟨w.heap.size + 1, 2, none⟩ = some (.int .i64 (0)) := by go_simp
  have d3 : ((w.alloc (Obj.cells #[Value.int .i64 (l), Value.int .i64 (l), Value.int .i64 (0), Value.bool false] 67)).alloc (Obj.cells #[Value.int .i64 (0), Value.int .i64 (0), Value.int .i64 (0), Value.bool false] 67)).cell? ⟨w.heap.size + 1, 3, none⟩ = some (.bool false) := by go_simp
  have fz : ∀ o, ((w.alloc (Obj.cells #[Value.int .i64 (l), Value.int .i64 (l), Value.int .i64 (0), Value.bool false] 67)).alloc (Obj.cells #[Value.int .i64 (0), Value.int .i64 (0), Value.int .i64 (0), Value.bool false] 67)).frozen? ⟨w.heap.size + 1, o, none⟩ = false := fun o => by go_simp
  have HB := Law.hide (show Below w.heap.size w ((w.alloc (Obj.cells #[Value.int .i64 (l), Value.int .i64 (l), Value.int .i64 (0), Value.bool false] 67)).alloc (Obj.cells #[Value.int .i64 (0), Value.int .i64 (0), Value.int .i64 (0), Value.bool false] 67)) from ((Below.refl _ _).alloc (Nat.le_refl _) _).alloc (by simp) _)
  generalize ((w.alloc (Obj.cells #[Value.int .i64 (l), Value.int .i64 (l), Value.int .i64 (0), Value.bool false] 67)).alloc (Obj.cells #[Value.int .i64 (0), Value.int .i64 (0), Value.int .i64 (0), Value.bool false] 67)) = wx at *
  go_region
  go_wp2
  exact bodyPost_ret (v := HandQ3 l l 0 false false false) (by simp [results, Try.results50, go_sem, HandQ3, HandV, d0, d1, d2, d3]) rfl ⟨rfl, ((((HB.out.setCell (by simp) _).setCell (by simp) _).setCell (by simp) _).setCell (by simp) _).drew⟩
end Go.Proofs.Ytcbfccadodikgaa.HandRef
