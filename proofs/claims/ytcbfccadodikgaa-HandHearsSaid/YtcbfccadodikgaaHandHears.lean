/-
  HandHears: for every end, number and limit the call tells true, and nothing that was there turns. No condition.
-/
import Derived.Test.YtcbfccadodikgaaRows
import Derived.Test.YtcbfccadodikgaaHandRef
namespace Go.Proofs.Ytcbfccadodikgaa.HandHears
open Go.RowKit Go.Proofs.Ytcbfccadodikgaa.Law Go.Proofs.Ytcbfccadodikgaa.Node Go.Proofs.Ytcbfccadodikgaa.Hand Go.Proofs.Ytcbfccadodikgaa.HandSteps
open Go.ChangeShapes Go.WideShapes Go.ChangeAt Go.Joins

theorem awake_any  (w : World)  : Calls Try.prog 45 #[] w (Makes (.bool true) w) := by
  have hnew := fun W => new_ok 0 9 W (by omega) (by omega) (by decide) (by omega)
  rw [show (0 : Int) + 1 = 1 by omega] at hnew
  have hhel := fun W => hello_opening_more 0 1 3 9 W (by omega) (by omega) (by omega) (by decide) (by omega) (by omega) (by omega)
  have hwel := fun W => welcome_opening_ok 0 3 W (by omega) (by omega) (by omega)
  have HN := Law.hide hnew; have HH := Law.hide hhel; have HW := Law.hide hwel; clear hnew hhel hwel
  go_enter Try.func45, Try.ntmps45
  go_wp2_with fail
  refine (HN.out _).mono ?_
  rintro e w1 ⟨rfl, hb⟩
  have k1 := (Held.start w).call hb
  have hz1 := k1.size
  clear hb
  unfold HandE HandV
  go_wp2_with fail
  refine (HH.out _).mono ?_
  rintro e w2 ⟨rfl, hb⟩
  have k2 := (k1.at4 (w1.heap.size) (by simp) 67 (.int .i64 (0)) (.int .i64 (0)) (.int .i64 (1)) (.bool false)).call hb
  clear hb k1
  obtain ⟨za0, ca0, fa0, ra0⟩ := k2.head
  obtain ⟨za1, ca1, fa1, ra1⟩ := ra0.head
  obtain ⟨za2, ca2, fa2, ra2⟩ := ra1.head
  obtain ⟨za3, ca3, fa3, ra3⟩ := ra2.head
  unfold HandQ HandV
  go_wp2_with fail
  refine (HW.out _).mono ?_
  rintro e w3 ⟨rfl, hb⟩
  obtain ⟨hc, hf⟩ := bcell hb
  have za : w1.heap.size < ((((w2.setCell ⟨w1.heap.size, 0, none⟩ (.int .i64 (0))).setCell ⟨w1.heap.size, 1, none⟩ (.int .i64 (0))).setCell ⟨w1.heap.size, 2, none⟩ (.int .i64 (3))).setCell ⟨w1.heap.size, 3, none⟩ (.bool false)).heap.size := by simpa using za0
  have s0 : w3.cell? ⟨w1.heap.size, 0, none⟩ = some (.int .i64 (0)) := (hc _ _ za).trans (by go_simp)
  have s1 : w3.cell? ⟨w1.heap.size, 1, none⟩ = some (.int .i64 (0)) := (hc _ _ za).trans (by go_simp)
  have s2 : w3.cell? ⟨w1.heap.size, 2, none⟩ = some (.int .i64 (3)) := (hc _ _ za).trans (by go_simp)
  have s3 : w3.cell? ⟨w1.heap.size, 3, none⟩ = some (.bool false) := (hc _ _ za).trans (by go_simp)
  have s4 : ∀ o, w3.frozen? ⟨w1.heap.size, o, none⟩ = false := fun o => (hf _ _ za).trans (by go_simp)
  have HB := Law.hide (((((k2.1.setCell (p := ⟨w1.heap.size, 0, none⟩) hz1 (.int .i64 (0))).setCell (p := ⟨w1.heap.size, 1, none⟩) hz1 (.int .i64 (0))).setCell (p := ⟨w1.heap.size, 2, none⟩) hz1 (.int .i64 (3))).setCell (p := ⟨w1.heap.size, 3, none⟩) hz1 (.bool false)).trans (hb.mono (by have := k2.size; simpa using this)))
  clear za0 ca0 fa0 ra0 za1 ca1 fa1 ra1 za2 ca2 fa2 ra2 za3 ca3 fa3 ra3
  clear hc hf hb k2 za
  unfold HandW HandV
  go_wp2_with fail
  go_ret
  exact ⟨rfl, (((HB.out.setCell (p := ⟨w1.heap.size, 0, none⟩) hz1 _).setCell (p := ⟨w1.heap.size, 1, none⟩) hz1 _).setCell (p := ⟨w1.heap.size, 2, none⟩) hz1 _).setCell (p := ⟨w1.heap.size, 3, none⟩) hz1 _⟩

theorem may_tt (l c p : Int) (o : Bool) (h : mayH l c p o = true) (w : World) : Calls Try.prog 42 #[.agg #[.int .i64 (l), .int .i64 (c), .int .i64 (p), .bool o]] w (Makes (.bool true) w) := by
  have := may_any l c p o w
  rwa [h] at this
theorem may_ff (l c p : Int) (o : Bool) (h : mayH l c p o = false) (w : World) : Calls Try.prog 42 #[.agg #[.int .i64 (l), .int .i64 (c), .int .i64 (p), .bool o]] w (Makes (.bool false) w) := by
  have := may_any l c p o w
  rwa [h] at this
set_option maxRecDepth 100000 in
set_option maxHeartbeats 1000000 in
theorem walk_bad (l c p : Int) (o : Bool) (q n : Int) (w : World) (hm : mayH l c p o = false) : Calls Try.prog 13 #[.agg #[.int .i64 (l), .int .i64 (c), .int .i64 (p), .bool o], .int .i64 q, .int .i64 n] w (Yes w) := by
  have HM := Law.hide hm; clear hm
  go_enter Try.func13, Try.ntmps13
  go_wp2_with fail
  refine (hello_bad _ _ _ _ _ _ _ HM.out).mono ?_
  rintro e kw0 ⟨rfl, hb⟩
  have k0 := ((Held.start w).at4 (w.heap.size) (by simp) 67 (.int .i64 (l)) (.int .i64 (c)) (.int .i64 (p)) (.bool o)).call hb
  clear hb
  obtain ⟨zk0_0, ck0_0, fk0_0, rk0_0⟩ := k0.head
  obtain ⟨zk0_1, ck0_1, fk0_1, rk0_1⟩ := rk0_0.head
  obtain ⟨zk0_2, ck0_2, fk0_2, rk0_2⟩ := rk0_1.head
  obtain ⟨zk0_3, ck0_3, fk0_3, rk0_3⟩ := rk0_2.head
  unfold HandQ HandV
  go_wp2_with fail
  refine (welcome_bad _ _ _ _ _ _ HM.out).mono ?_
  rintro e kw1 ⟨rfl, hb⟩
  have k1 := (k0.at4 (kw0.heap.size) (by simp) 67 (.int .i64 (0)) (.int .i64 (0)) (.int .i64 (0)) (.bool false)).call hb
  clear hb
  clear zk0_0 ck0_0 fk0_0 rk0_0 zk0_1 ck0_1 fk0_1 rk0_1 zk0_2 ck0_2 fk0_2 rk0_2 zk0_3 ck0_3 fk0_3 rk0_3
  clear k0
  obtain ⟨zk1_0, ck1_0, fk1_0, rk1_0⟩ := k1.head
  obtain ⟨zk1_1, ck1_1, fk1_1, rk1_1⟩ := rk1_0.head
  obtain ⟨zk1_2, ck1_2, fk1_2, rk1_2⟩ := rk1_1.head
  obtain ⟨zk1_3, ck1_3, fk1_3, rk1_3⟩ := rk1_2.head
  obtain ⟨zk1_4, ck1_4, fk1_4, rk1_4⟩ := rk1_3.head
  obtain ⟨zk1_5, ck1_5, fk1_5, rk1_5⟩ := rk1_4.head
  obtain ⟨zk1_6, ck1_6, fk1_6, rk1_6⟩ := rk1_5.head
  obtain ⟨zk1_7, ck1_7, fk1_7, rk1_7⟩ := rk1_6.head
  unfold HandW HandV
  go_wp2_with fail
  refine (may_ff _ _ _ _ HM.out _).mono ?_
  rintro e kw2 ⟨rfl, hb⟩
  have k2 := (k1.at4 (kw1.heap.size) (by simp) 67 (.int .i64 (0)) (.int .i64 (0)) (.int .i64 (0)) (.bool false)).call hb
  clear hb
  clear zk1_0 ck1_0 fk1_0 rk1_0 zk1_1 ck1_1 fk1_1 rk1_1 zk1_2 ck1_2 fk1_2 rk1_2 zk1_3 ck1_3 fk1_3 rk1_3 zk1_4 ck1_4 fk1_4 rk1_4 zk1_5 ck1_5 fk1_5 rk1_5 zk1_6 ck1_6 fk1_6 rk1_6 zk1_7 ck1_7 fk1_7 rk1_7
  clear k1
  obtain ⟨zk2_0, ck2_0, fk2_0, rk2_0⟩ := k2.head
  obtain ⟨zk2_1, ck2_1, fk2_1, rk2_1⟩ := rk2_0.head
  obtain ⟨zk2_2, ck2_2, fk2_2, rk2_2⟩ := rk2_1.head
  obtain ⟨zk2_3, ck2_3, fk2_3, rk2_3⟩ := rk2_2.head
  obtain ⟨zk2_4, ck2_4, fk2_4, rk2_4⟩ := rk2_3.head
  obtain ⟨zk2_5, ck2_5, fk2_5, rk2_5⟩ := rk2_4.head
  obtain ⟨zk2_6, ck2_6, fk2_6, rk2_6⟩ := rk2_5.head
  obtain ⟨zk2_7, ck2_7, fk2_7, rk2_7⟩ := rk2_6.head
  obtain ⟨zk2_8, ck2_8, fk2_8, rk2_8⟩ := rk2_7.head
  obtain ⟨zk2_9, ck2_9, fk2_9, rk2_9⟩ := rk2_8.head
  obtain ⟨zk2_10, ck2_10, fk2_10, rk2_10⟩ := rk2_9.head
  obtain ⟨zk2_11, ck2_11, fk2_11, rk2_11⟩ := rk2_10.head
  go_wp2_with fail
  refine (awake_any _).mono ?_
  rintro e kw3 ⟨rfl, hb⟩
  have k3 := k2.call hb
  clear hb
  clear zk2_0 ck2_0 fk2_0 rk2_0 zk2_1 ck2_1 fk2_1 rk2_1 zk2_2 ck2_2 fk2_2 rk2_2 zk2_3 ck2_3 fk2_3 rk2_3 zk2_4 ck2_4 fk2_4 rk2_4 zk2_5 ck2_5 fk2_5 rk2_5 zk2_6 ck2_6 fk2_6 rk2_6 zk2_7 ck2_7 fk2_7 rk2_7 zk2_8 ck2_8 fk2_8 rk2_8 zk2_9 ck2_9 fk2_9 rk2_9 zk2_10 ck2_10 fk2_10 rk2_10 zk2_11 ck2_11 fk2_11 rk2_11
  clear k2
  obtain ⟨zk3_0, ck3_0, fk3_0, rk3_0⟩ := k3.head
  obtain ⟨zk3_1, ck3_1, fk3_1, rk3_1⟩ := rk3_0.head
  obtain ⟨zk3_2, ck3_2, fk3_2, rk3_2⟩ := rk3_1.head
  obtain ⟨zk3_3, ck3_3, fk3_3, rk3_3⟩ := rk3_2.head
  obtain ⟨zk3_4, ck3_4, fk3_4, rk3_4⟩ := rk3_3.head
  obtain ⟨zk3_5, ck3_5, fk3_5, rk3_5⟩ := rk3_4.head
  obtain ⟨zk3_6, ck3_6, fk3_6, rk3_6⟩ := rk3_5.head
  obtain ⟨zk3_7, ck3_7, fk3_7, rk3_7⟩ := rk3_6.head
  obtain ⟨zk3_8, ck3_8, fk3_8, rk3_8⟩ := rk3_7.head
  obtain ⟨zk3_9, ck3_9, fk3_9, rk3_9⟩ := rk3_8.head
  obtain ⟨zk3_10, ck3_10, fk3_10, rk3_10⟩ := rk3_9.head
  obtain ⟨zk3_11, ck3_11, fk3_11, rk3_11⟩ := rk3_10.head
  go_wp2_with fail
  go_ret
  exact ⟨rfl, k3.1⟩
set_option maxRecDepth 100000 in
set_option maxHeartbeats 1000000 in
theorem walk_over_nolimit (l q n : Int) (w : World) (h0 : 0 ≤ l) (h1 : l ≤ 2147483647) (hm : mayH l 0 0 true = true) (hn : limitB n = false) : Calls Try.prog 13 #[.agg #[.int .i64 (l), .int .i64 (0), .int .i64 (0), .bool true], .int .i64 q, .int .i64 n] w (Yes w) := by
  have HM := Law.hide hm; clear hm
  go_enter Try.func13, Try.ntmps13
  go_wp2_with fail
  refine (hello_nolimit _ _ _ _ _ _ _ HM.out hn).mono ?_
  rintro e kw0 ⟨rfl, hb⟩
  have k0 := ((Held.start w).at4 (w.heap.size) (by simp) 67 (.int .i64 (l)) (.int .i64 (0)) (.int .i64 (0)) (.bool true)).call hb
  clear hb
  obtain ⟨zk0_0, ck0_0, fk0_0, rk0_0⟩ := k0.head
  obtain ⟨zk0_1, ck0_1, fk0_1, rk0_1⟩ := rk0_0.head
  obtain ⟨zk0_2, ck0_2, fk0_2, rk0_2⟩ := rk0_1.head
  obtain ⟨zk0_3, ck0_3, fk0_3, rk0_3⟩ := rk0_2.head
  unfold HandQ HandV
  go_wp2_with fail
  refine (welcome_over _ _ _ h0 h1).mono ?_
  rintro e kw1 ⟨rfl, hb⟩
  have k1 := (k0.at4 (kw0.heap.size) (by simp) 67 (.int .i64 (0)) (.int .i64 (0)) (.int .i64 (0)) (.bool false)).call hb
  clear hb
  clear zk0_0 ck0_0 fk0_0 rk0_0 zk0_1 ck0_1 fk0_1 rk0_1 zk0_2 ck0_2 fk0_2 rk0_2 zk0_3 ck0_3 fk0_3 rk0_3
  clear k0
  obtain ⟨zk1_0, ck1_0, fk1_0, rk1_0⟩ := k1.head
  obtain ⟨zk1_1, ck1_1, fk1_1, rk1_1⟩ := rk1_0.head
  obtain ⟨zk1_2, ck1_2, fk1_2, rk1_2⟩ := rk1_1.head
  obtain ⟨zk1_3, ck1_3, fk1_3, rk1_3⟩ := rk1_2.head
  obtain ⟨zk1_4, ck1_4, fk1_4, rk1_4⟩ := rk1_3.head
  obtain ⟨zk1_5, ck1_5, fk1_5, rk1_5⟩ := rk1_4.head
  obtain ⟨zk1_6, ck1_6, fk1_6, rk1_6⟩ := rk1_5.head
  obtain ⟨zk1_7, ck1_7, fk1_7, rk1_7⟩ := rk1_6.head
  unfold HandW HandV
  go_wp2_with fail
  refine (may_tt _ _ _ _ HM.out _).mono ?_
  rintro e kw2 ⟨rfl, hb⟩
  have k2 := (k1.at4 (kw1.heap.size) (by simp) 67 (.int .i64 (l)) (.int .i64 (0)) (.int .i64 (0)) (.bool true)).call hb
  clear hb
  clear zk1_0 ck1_0 fk1_0 rk1_0 zk1_1 ck1_1 fk1_1 rk1_1 zk1_2 ck1_2 fk1_2 rk1_2 zk1_3 ck1_3 fk1_3 rk1_3 zk1_4 ck1_4 fk1_4 rk1_4 zk1_5 ck1_5 fk1_5 rk1_5 zk1_6 ck1_6 fk1_6 rk1_6 zk1_7 ck1_7 fk1_7 rk1_7
  clear k1
  obtain ⟨zk2_0, ck2_0, fk2_0, rk2_0⟩ := k2.head
  obtain ⟨zk2_1, ck2_1, fk2_1, rk2_1⟩ := rk2_0.head
  obtain ⟨zk2_2, ck2_2, fk2_2, rk2_2⟩ := rk2_1.head
  obtain ⟨zk2_3, ck2_3, fk2_3, rk2_3⟩ := rk2_2.head
  obtain ⟨zk2_4, ck2_4, fk2_4, rk2_4⟩ := rk2_3.head
  obtain ⟨zk2_5, ck2_5, fk2_5, rk2_5⟩ := rk2_4.head
  obtain ⟨zk2_6, ck2_6, fk2_6, rk2_6⟩ := rk2_5.head
  obtain ⟨zk2_7, ck2_7, fk2_7, rk2_7⟩ := rk2_6.head
  obtain ⟨zk2_8, ck2_8, fk2_8, rk2_8⟩ := rk2_7.head
  obtain ⟨zk2_9, ck2_9, fk2_9, rk2_9⟩ := rk2_8.head
  obtain ⟨zk2_10, ck2_10, fk2_10, rk2_10⟩ := rk2_9.head
  obtain ⟨zk2_11, ck2_11, fk2_11, rk2_11⟩ := rk2_10.head
  go_wp2_with fail
  refine (HandRef.welcome_over _ _ _ h0 h1).mono ?_
  rintro e kw3 ⟨rfl, hb⟩
  have k3 := k2.call hb
  clear hb
  clear zk2_0 ck2_0 fk2_0 rk2_0 zk2_1 ck2_1 fk2_1 rk2_1 zk2_2 ck2_2 fk2_2 rk2_2 zk2_3 ck2_3 fk2_3 rk2_3 zk2_4 ck2_4 fk2_4 rk2_4 zk2_5 ck2_5 fk2_5 rk2_5 zk2_6 ck2_6 fk2_6 rk2_6 zk2_7 ck2_7 fk2_7 rk2_7 zk2_8 ck2_8 fk2_8 rk2_8 zk2_9 ck2_9 fk2_9 rk2_9 zk2_10 ck2_10 fk2_10 rk2_10 zk2_11 ck2_11 fk2_11 rk2_11
  clear k2
  obtain ⟨zk3_0, ck3_0, fk3_0, rk3_0⟩ := k3.head
  obtain ⟨zk3_1, ck3_1, fk3_1, rk3_1⟩ := rk3_0.head
  obtain ⟨zk3_2, ck3_2, fk3_2, rk3_2⟩ := rk3_1.head
  obtain ⟨zk3_3, ck3_3, fk3_3, rk3_3⟩ := rk3_2.head
  obtain ⟨zk3_4, ck3_4, fk3_4, rk3_4⟩ := rk3_3.head
  obtain ⟨zk3_5, ck3_5, fk3_5, rk3_5⟩ := rk3_4.head
  obtain ⟨zk3_6, ck3_6, fk3_6, rk3_6⟩ := rk3_5.head
  obtain ⟨zk3_7, ck3_7, fk3_7, rk3_7⟩ := rk3_6.head
  obtain ⟨zk3_8, ck3_8, fk3_8, rk3_8⟩ := rk3_7.head
  obtain ⟨zk3_9, ck3_9, fk3_9, rk3_9⟩ := rk3_8.head
  obtain ⟨zk3_10, ck3_10, fk3_10, rk3_10⟩ := rk3_9.head
  obtain ⟨zk3_11, ck3_11, fk3_11, rk3_11⟩ := rk3_10.head
  unfold HandW2 HandV
  go_wp2_with fail
  refine (rlimit_any _ _).mono ?_
  rintro e kw4 ⟨rfl, rfl⟩
  have k4 := (k3.at4 (kw3.heap.size) (by simp) 67 (.int .i64 (l)) (.int .i64 (0)) (.int .i64 (0)) (.bool true))
  clear zk3_0 ck3_0 fk3_0 rk3_0 zk3_1 ck3_1 fk3_1 rk3_1 zk3_2 ck3_2 fk3_2 rk3_2 zk3_3 ck3_3 fk3_3 rk3_3 zk3_4 ck3_4 fk3_4 rk3_4 zk3_5 ck3_5 fk3_5 rk3_5 zk3_6 ck3_6 fk3_6 rk3_6 zk3_7 ck3_7 fk3_7 rk3_7 zk3_8 ck3_8 fk3_8 rk3_8 zk3_9 ck3_9 fk3_9 rk3_9 zk3_10 ck3_10 fk3_10 rk3_10 zk3_11 ck3_11 fk3_11 rk3_11
  clear k3
  obtain ⟨zk4_0, ck4_0, fk4_0, rk4_0⟩ := k4.head
  obtain ⟨zk4_1, ck4_1, fk4_1, rk4_1⟩ := rk4_0.head
  obtain ⟨zk4_2, ck4_2, fk4_2, rk4_2⟩ := rk4_1.head
  obtain ⟨zk4_3, ck4_3, fk4_3, rk4_3⟩ := rk4_2.head
  obtain ⟨zk4_4, ck4_4, fk4_4, rk4_4⟩ := rk4_3.head
  obtain ⟨zk4_5, ck4_5, fk4_5, rk4_5⟩ := rk4_4.head
  obtain ⟨zk4_6, ck4_6, fk4_6, rk4_6⟩ := rk4_5.head
  obtain ⟨zk4_7, ck4_7, fk4_7, rk4_7⟩ := rk4_6.head
  obtain ⟨zk4_8, ck4_8, fk4_8, rk4_8⟩ := rk4_7.head
  obtain ⟨zk4_9, ck4_9, fk4_9, rk4_9⟩ := rk4_8.head
  obtain ⟨zk4_10, ck4_10, fk4_10, rk4_10⟩ := rk4_9.head
  obtain ⟨zk4_11, ck4_11, fk4_11, rk4_11⟩ := rk4_10.head
  obtain ⟨zk4_12, ck4_12, fk4_12, rk4_12⟩ := rk4_11.head
  obtain ⟨zk4_13, ck4_13, fk4_13, rk4_13⟩ := rk4_12.head
  obtain ⟨zk4_14, ck4_14, fk4_14, rk4_14⟩ := rk4_13.head
  obtain ⟨zk4_15, ck4_15, fk4_15, rk4_15⟩ := rk4_14.head
  go_wp2_with fail
  refine (awake_any _).mono ?_
  rintro e kw5 ⟨rfl, hb⟩
  have k5 := k4.call hb
  clear hb
  clear zk4_0 ck4_0 fk4_0 rk4_0 zk4_1 ck4_1 fk4_1 rk4_1 zk4_2 ck4_2 fk4_2 rk4_2 zk4_3 ck4_3 fk4_3 rk4_3 zk4_4 ck4_4 fk4_4 rk4_4 zk4_5 ck4_5 fk4_5 rk4_5 zk4_6 ck4_6 fk4_6 rk4_6 zk4_7 ck4_7 fk4_7 rk4_7 zk4_8 ck4_8 fk4_8 rk4_8 zk4_9 ck4_9 fk4_9 rk4_9 zk4_10 ck4_10 fk4_10 rk4_10 zk4_11 ck4_11 fk4_11 rk4_11 zk4_12 ck4_12 fk4_12 rk4_12 zk4_13 ck4_13 fk4_13 rk4_13 zk4_14 ck4_14 fk4_14 rk4_14 zk4_15 ck4_15 fk4_15 rk4_15
  clear k4
  obtain ⟨zk5_0, ck5_0, fk5_0, rk5_0⟩ := k5.head
  obtain ⟨zk5_1, ck5_1, fk5_1, rk5_1⟩ := rk5_0.head
  obtain ⟨zk5_2, ck5_2, fk5_2, rk5_2⟩ := rk5_1.head
  obtain ⟨zk5_3, ck5_3, fk5_3, rk5_3⟩ := rk5_2.head
  obtain ⟨zk5_4, ck5_4, fk5_4, rk5_4⟩ := rk5_3.head
  obtain ⟨zk5_5, ck5_5, fk5_5, rk5_5⟩ := rk5_4.head
  obtain ⟨zk5_6, ck5_6, fk5_6, rk5_6⟩ := rk5_5.head
  obtain ⟨zk5_7, ck5_7, fk5_7, rk5_7⟩ := rk5_6.head
  obtain ⟨zk5_8, ck5_8, fk5_8, rk5_8⟩ := rk5_7.head
  obtain ⟨zk5_9, ck5_9, fk5_9, rk5_9⟩ := rk5_8.head
  obtain ⟨zk5_10, ck5_10, fk5_10, rk5_10⟩ := rk5_9.head
  obtain ⟨zk5_11, ck5_11, fk5_11, rk5_11⟩ := rk5_10.head
  obtain ⟨zk5_12, ck5_12, fk5_12, rk5_12⟩ := rk5_11.head
  obtain ⟨zk5_13, ck5_13, fk5_13, rk5_13⟩ := rk5_12.head
  obtain ⟨zk5_14, ck5_14, fk5_14, rk5_14⟩ := rk5_13.head
  obtain ⟨zk5_15, ck5_15, fk5_15, rk5_15⟩ := rk5_14.head
  go_wp2_with fail
  go_ret
  exact ⟨rfl, k5.1⟩
set_option maxRecDepth 100000 in
set_option maxHeartbeats 1000000 in
theorem walk_over (l q n : Int) (w : World) (h0 : 0 ≤ l) (h1 : l ≤ 2147483647) (hm : mayH l 0 0 true = true) (hn : limitB n = true) : Calls Try.prog 13 #[.agg #[.int .i64 (l), .int .i64 (0), .int .i64 (0), .bool true], .int .i64 q, .int .i64 n] w (Yes w) := by
  have HM := Law.hide hm; clear hm
  go_enter Try.func13, Try.ntmps13
  go_wp2_with fail
  refine (hello_over_nothing _ _ _ _ h0 h1 hn).mono ?_
  rintro e kw0 ⟨rfl, hb⟩
  have k0 := ((Held.start w).at4 (w.heap.size) (by simp) 67 (.int .i64 (l)) (.int .i64 (0)) (.int .i64 (0)) (.bool true)).call hb
  clear hb
  obtain ⟨zk0_0, ck0_0, fk0_0, rk0_0⟩ := k0.head
  obtain ⟨zk0_1, ck0_1, fk0_1, rk0_1⟩ := rk0_0.head
  obtain ⟨zk0_2, ck0_2, fk0_2, rk0_2⟩ := rk0_1.head
  obtain ⟨zk0_3, ck0_3, fk0_3, rk0_3⟩ := rk0_2.head
  unfold HandQ HandV
  go_wp2_with fail
  refine (welcome_over _ _ _ h0 h1).mono ?_
  rintro e kw1 ⟨rfl, hb⟩
  have k1 := (k0.at4 (kw0.heap.size) (by simp) 67 (.int .i64 (l)) (.int .i64 (0)) (.int .i64 (0)) (.bool true)).call hb
  clear hb
  clear zk0_0 ck0_0 fk0_0 rk0_0 zk0_1 ck0_1 fk0_1 rk0_1 zk0_2 ck0_2 fk0_2 rk0_2 zk0_3 ck0_3 fk0_3 rk0_3
  clear k0
  obtain ⟨zk1_0, ck1_0, fk1_0, rk1_0⟩ := k1.head
  obtain ⟨zk1_1, ck1_1, fk1_1, rk1_1⟩ := rk1_0.head
  obtain ⟨zk1_2, ck1_2, fk1_2, rk1_2⟩ := rk1_1.head
  obtain ⟨zk1_3, ck1_3, fk1_3, rk1_3⟩ := rk1_2.head
  obtain ⟨zk1_4, ck1_4, fk1_4, rk1_4⟩ := rk1_3.head
  obtain ⟨zk1_5, ck1_5, fk1_5, rk1_5⟩ := rk1_4.head
  obtain ⟨zk1_6, ck1_6, fk1_6, rk1_6⟩ := rk1_5.head
  obtain ⟨zk1_7, ck1_7, fk1_7, rk1_7⟩ := rk1_6.head
  unfold HandW HandV
  go_wp2_with fail
  refine (may_tt _ _ _ _ HM.out _).mono ?_
  rintro e kw2 ⟨rfl, hb⟩
  have k2 := (k1.at4 (kw1.heap.size) (by simp) 67 (.int .i64 (l)) (.int .i64 (0)) (.int .i64 (0)) (.bool true)).call hb
  clear hb
  clear zk1_0 ck1_0 fk1_0 rk1_0 zk1_1 ck1_1 fk1_1 rk1_1 zk1_2 ck1_2 fk1_2 rk1_2 zk1_3 ck1_3 fk1_3 rk1_3 zk1_4 ck1_4 fk1_4 rk1_4 zk1_5 ck1_5 fk1_5 rk1_5 zk1_6 ck1_6 fk1_6 rk1_6 zk1_7 ck1_7 fk1_7 rk1_7
  clear k1
  obtain ⟨zk2_0, ck2_0, fk2_0, rk2_0⟩ := k2.head
  obtain ⟨zk2_1, ck2_1, fk2_1, rk2_1⟩ := rk2_0.head
  obtain ⟨zk2_2, ck2_2, fk2_2, rk2_2⟩ := rk2_1.head
  obtain ⟨zk2_3, ck2_3, fk2_3, rk2_3⟩ := rk2_2.head
  obtain ⟨zk2_4, ck2_4, fk2_4, rk2_4⟩ := rk2_3.head
  obtain ⟨zk2_5, ck2_5, fk2_5, rk2_5⟩ := rk2_4.head
  obtain ⟨zk2_6, ck2_6, fk2_6, rk2_6⟩ := rk2_5.head
  obtain ⟨zk2_7, ck2_7, fk2_7, rk2_7⟩ := rk2_6.head
  obtain ⟨zk2_8, ck2_8, fk2_8, rk2_8⟩ := rk2_7.head
  obtain ⟨zk2_9, ck2_9, fk2_9, rk2_9⟩ := rk2_8.head
  obtain ⟨zk2_10, ck2_10, fk2_10, rk2_10⟩ := rk2_9.head
  obtain ⟨zk2_11, ck2_11, fk2_11, rk2_11⟩ := rk2_10.head
  go_wp2_with fail
  refine (HandRef.welcome_over _ _ _ h0 h1).mono ?_
  rintro e kw3 ⟨rfl, hb⟩
  have k3 := k2.call hb
  clear hb
  clear zk2_0 ck2_0 fk2_0 rk2_0 zk2_1 ck2_1 fk2_1 rk2_1 zk2_2 ck2_2 fk2_2 rk2_2 zk2_3 ck2_3 fk2_3 rk2_3 zk2_4 ck2_4 fk2_4 rk2_4 zk2_5 ck2_5 fk2_5 rk2_5 zk2_6 ck2_6 fk2_6 rk2_6 zk2_7 ck2_7 fk2_7 rk2_7 zk2_8 ck2_8 fk2_8 rk2_8 zk2_9 ck2_9 fk2_9 rk2_9 zk2_10 ck2_10 fk2_10 rk2_10 zk2_11 ck2_11 fk2_11 rk2_11
  clear k2
  obtain ⟨zk3_0, ck3_0, fk3_0, rk3_0⟩ := k3.head
  obtain ⟨zk3_1, ck3_1, fk3_1, rk3_1⟩ := rk3_0.head
  obtain ⟨zk3_2, ck3_2, fk3_2, rk3_2⟩ := rk3_1.head
  obtain ⟨zk3_3, ck3_3, fk3_3, rk3_3⟩ := rk3_2.head
  obtain ⟨zk3_4, ck3_4, fk3_4, rk3_4⟩ := rk3_3.head
  obtain ⟨zk3_5, ck3_5, fk3_5, rk3_5⟩ := rk3_4.head
  obtain ⟨zk3_6, ck3_6, fk3_6, rk3_6⟩ := rk3_5.head
  obtain ⟨zk3_7, ck3_7, fk3_7, rk3_7⟩ := rk3_6.head
  obtain ⟨zk3_8, ck3_8, fk3_8, rk3_8⟩ := rk3_7.head
  obtain ⟨zk3_9, ck3_9, fk3_9, rk3_9⟩ := rk3_8.head
  obtain ⟨zk3_10, ck3_10, fk3_10, rk3_10⟩ := rk3_9.head
  obtain ⟨zk3_11, ck3_11, fk3_11, rk3_11⟩ := rk3_10.head
  unfold HandW2 HandV
  go_wp2_with fail
  refine (rlimit_any _ _).mono ?_
  rintro e kw4 ⟨rfl, rfl⟩
  have k4 := (k3.at4 (kw3.heap.size) (by simp) 67 (.int .i64 (l)) (.int .i64 (0)) (.int .i64 (0)) (.bool true))
  clear zk3_0 ck3_0 fk3_0 rk3_0 zk3_1 ck3_1 fk3_1 rk3_1 zk3_2 ck3_2 fk3_2 rk3_2 zk3_3 ck3_3 fk3_3 rk3_3 zk3_4 ck3_4 fk3_4 rk3_4 zk3_5 ck3_5 fk3_5 rk3_5 zk3_6 ck3_6 fk3_6 rk3_6 zk3_7 ck3_7 fk3_7 rk3_7 zk3_8 ck3_8 fk3_8 rk3_8 zk3_9 ck3_9 fk3_9 rk3_9 zk3_10 ck3_10 fk3_10 rk3_10 zk3_11 ck3_11 fk3_11 rk3_11
  clear k3
  obtain ⟨zk4_0, ck4_0, fk4_0, rk4_0⟩ := k4.head
  obtain ⟨zk4_1, ck4_1, fk4_1, rk4_1⟩ := rk4_0.head
  obtain ⟨zk4_2, ck4_2, fk4_2, rk4_2⟩ := rk4_1.head
  obtain ⟨zk4_3, ck4_3, fk4_3, rk4_3⟩ := rk4_2.head
  obtain ⟨zk4_4, ck4_4, fk4_4, rk4_4⟩ := rk4_3.head
  obtain ⟨zk4_5, ck4_5, fk4_5, rk4_5⟩ := rk4_4.head
  obtain ⟨zk4_6, ck4_6, fk4_6, rk4_6⟩ := rk4_5.head
  obtain ⟨zk4_7, ck4_7, fk4_7, rk4_7⟩ := rk4_6.head
  obtain ⟨zk4_8, ck4_8, fk4_8, rk4_8⟩ := rk4_7.head
  obtain ⟨zk4_9, ck4_9, fk4_9, rk4_9⟩ := rk4_8.head
  obtain ⟨zk4_10, ck4_10, fk4_10, rk4_10⟩ := rk4_9.head
  obtain ⟨zk4_11, ck4_11, fk4_11, rk4_11⟩ := rk4_10.head
  obtain ⟨zk4_12, ck4_12, fk4_12, rk4_12⟩ := rk4_11.head
  obtain ⟨zk4_13, ck4_13, fk4_13, rk4_13⟩ := rk4_12.head
  obtain ⟨zk4_14, ck4_14, fk4_14, rk4_14⟩ := rk4_13.head
  obtain ⟨zk4_15, ck4_15, fk4_15, rk4_15⟩ := rk4_14.head
  go_wp2_with fail
  refine (HandRef.hello_over_nothing _ _ _ _ h0 h1).mono ?_
  rintro e kw5 ⟨rfl, hb⟩
  have k5 := k4.call hb
  clear hb
  clear zk4_0 ck4_0 fk4_0 rk4_0 zk4_1 ck4_1 fk4_1 rk4_1 zk4_2 ck4_2 fk4_2 rk4_2 zk4_3 ck4_3 fk4_3 rk4_3 zk4_4 ck4_4 fk4_4 rk4_4 zk4_5 ck4_5 fk4_5 rk4_5 zk4_6 ck4_6 fk4_6 rk4_6 zk4_7 ck4_7 fk4_7 rk4_7 zk4_8 ck4_8 fk4_8 rk4_8 zk4_9 ck4_9 fk4_9 rk4_9 zk4_10 ck4_10 fk4_10 rk4_10 zk4_11 ck4_11 fk4_11 rk4_11 zk4_12 ck4_12 fk4_12 rk4_12 zk4_13 ck4_13 fk4_13 rk4_13 zk4_14 ck4_14 fk4_14 rk4_14 zk4_15 ck4_15 fk4_15 rk4_15
  clear k4
  obtain ⟨zk5_0, ck5_0, fk5_0, rk5_0⟩ := k5.head
  obtain ⟨zk5_1, ck5_1, fk5_1, rk5_1⟩ := rk5_0.head
  obtain ⟨zk5_2, ck5_2, fk5_2, rk5_2⟩ := rk5_1.head
  obtain ⟨zk5_3, ck5_3, fk5_3, rk5_3⟩ := rk5_2.head
  obtain ⟨zk5_4, ck5_4, fk5_4, rk5_4⟩ := rk5_3.head
  obtain ⟨zk5_5, ck5_5, fk5_5, rk5_5⟩ := rk5_4.head
  obtain ⟨zk5_6, ck5_6, fk5_6, rk5_6⟩ := rk5_5.head
  obtain ⟨zk5_7, ck5_7, fk5_7, rk5_7⟩ := rk5_6.head
  obtain ⟨zk5_8, ck5_8, fk5_8, rk5_8⟩ := rk5_7.head
  obtain ⟨zk5_9, ck5_9, fk5_9, rk5_9⟩ := rk5_8.head
  obtain ⟨zk5_10, ck5_10, fk5_10, rk5_10⟩ := rk5_9.head
  obtain ⟨zk5_11, ck5_11, fk5_11, rk5_11⟩ := rk5_10.head
  obtain ⟨zk5_12, ck5_12, fk5_12, rk5_12⟩ := rk5_11.head
  obtain ⟨zk5_13, ck5_13, fk5_13, rk5_13⟩ := rk5_12.head
  obtain ⟨zk5_14, ck5_14, fk5_14, rk5_14⟩ := rk5_13.head
  obtain ⟨zk5_15, ck5_15, fk5_15, rk5_15⟩ := rk5_14.head
  unfold HandQ3 HandV
  go_wp2_with fail
  refine (awake_any _).mono ?_
  rintro e kw6 ⟨rfl, hb⟩
  have k6 := (k5.at4 (kw5.heap.size) (by simp) 67 (.int .i64 (l)) (.int .i64 (0)) (.int .i64 (0)) (.bool true)).call hb
  clear hb
  clear zk5_0 ck5_0 fk5_0 rk5_0 zk5_1 ck5_1 fk5_1 rk5_1 zk5_2 ck5_2 fk5_2 rk5_2 zk5_3 ck5_3 fk5_3 rk5_3 zk5_4 ck5_4 fk5_4 rk5_4 zk5_5 ck5_5 fk5_5 rk5_5 zk5_6 ck5_6 fk5_6 rk5_6 zk5_7 ck5_7 fk5_7 rk5_7 zk5_8 ck5_8 fk5_8 rk5_8 zk5_9 ck5_9 fk5_9 rk5_9 zk5_10 ck5_10 fk5_10 rk5_10 zk5_11 ck5_11 fk5_11 rk5_11 zk5_12 ck5_12 fk5_12 rk5_12 zk5_13 ck5_13 fk5_13 rk5_13 zk5_14 ck5_14 fk5_14 rk5_14 zk5_15 ck5_15 fk5_15 rk5_15
  clear k5
  obtain ⟨zk6_0, ck6_0, fk6_0, rk6_0⟩ := k6.head
  obtain ⟨zk6_1, ck6_1, fk6_1, rk6_1⟩ := rk6_0.head
  obtain ⟨zk6_2, ck6_2, fk6_2, rk6_2⟩ := rk6_1.head
  obtain ⟨zk6_3, ck6_3, fk6_3, rk6_3⟩ := rk6_2.head
  obtain ⟨zk6_4, ck6_4, fk6_4, rk6_4⟩ := rk6_3.head
  obtain ⟨zk6_5, ck6_5, fk6_5, rk6_5⟩ := rk6_4.head
  obtain ⟨zk6_6, ck6_6, fk6_6, rk6_6⟩ := rk6_5.head
  obtain ⟨zk6_7, ck6_7, fk6_7, rk6_7⟩ := rk6_6.head
  obtain ⟨zk6_8, ck6_8, fk6_8, rk6_8⟩ := rk6_7.head
  obtain ⟨zk6_9, ck6_9, fk6_9, rk6_9⟩ := rk6_8.head
  obtain ⟨zk6_10, ck6_10, fk6_10, rk6_10⟩ := rk6_9.head
  obtain ⟨zk6_11, ck6_11, fk6_11, rk6_11⟩ := rk6_10.head
  obtain ⟨zk6_12, ck6_12, fk6_12, rk6_12⟩ := rk6_11.head
  obtain ⟨zk6_13, ck6_13, fk6_13, rk6_13⟩ := rk6_12.head
  obtain ⟨zk6_14, ck6_14, fk6_14, rk6_14⟩ := rk6_13.head
  obtain ⟨zk6_15, ck6_15, fk6_15, rk6_15⟩ := rk6_14.head
  obtain ⟨zk6_16, ck6_16, fk6_16, rk6_16⟩ := rk6_15.head
  obtain ⟨zk6_17, ck6_17, fk6_17, rk6_17⟩ := rk6_16.head
  obtain ⟨zk6_18, ck6_18, fk6_18, rk6_18⟩ := rk6_17.head
  obtain ⟨zk6_19, ck6_19, fk6_19, rk6_19⟩ := rk6_18.head
  go_wp2_with fail
  go_ret
  exact ⟨rfl, k6.1⟩
set_option maxRecDepth 100000 in
set_option maxHeartbeats 1000000 in
theorem walk_opening_nolimit_same (l p n : Int) (w : World) (h0 : 0 ≤ l) (h1 : l < p) (h2 : p ≤ 2147483647) (hm : mayH l 0 p false = true) (hn : limitB n = false) : Calls Try.prog 13 #[.agg #[.int .i64 (l), .int .i64 (0), .int .i64 (p), .bool false], .int .i64 p, .int .i64 n] w (Yes w) := by
  have HM := Law.hide hm; clear hm
  go_enter Try.func13, Try.ntmps13
  go_wp2_with fail
  refine (hello_nolimit _ _ _ _ _ _ _ HM.out hn).mono ?_
  rintro e kw0 ⟨rfl, hb⟩
  have k0 := ((Held.start w).at4 (w.heap.size) (by simp) 67 (.int .i64 (l)) (.int .i64 (0)) (.int .i64 (p)) (.bool false)).call hb
  clear hb
  obtain ⟨zk0_0, ck0_0, fk0_0, rk0_0⟩ := k0.head
  obtain ⟨zk0_1, ck0_1, fk0_1, rk0_1⟩ := rk0_0.head
  obtain ⟨zk0_2, ck0_2, fk0_2, rk0_2⟩ := rk0_1.head
  obtain ⟨zk0_3, ck0_3, fk0_3, rk0_3⟩ := rk0_2.head
  unfold HandQ HandV
  go_wp2_with fail
  refine (welcome_opening_ok _ _ _ h0 h1 h2).mono ?_
  rintro e kw1 ⟨rfl, hb⟩
  have k1 := (k0.at4 (kw0.heap.size) (by simp) 67 (.int .i64 (0)) (.int .i64 (0)) (.int .i64 (0)) (.bool false)).call hb
  clear hb
  clear zk0_0 ck0_0 fk0_0 rk0_0 zk0_1 ck0_1 fk0_1 rk0_1 zk0_2 ck0_2 fk0_2 rk0_2 zk0_3 ck0_3 fk0_3 rk0_3
  clear k0
  obtain ⟨zk1_0, ck1_0, fk1_0, rk1_0⟩ := k1.head
  obtain ⟨zk1_1, ck1_1, fk1_1, rk1_1⟩ := rk1_0.head
  obtain ⟨zk1_2, ck1_2, fk1_2, rk1_2⟩ := rk1_1.head
  obtain ⟨zk1_3, ck1_3, fk1_3, rk1_3⟩ := rk1_2.head
  obtain ⟨zk1_4, ck1_4, fk1_4, rk1_4⟩ := rk1_3.head
  obtain ⟨zk1_5, ck1_5, fk1_5, rk1_5⟩ := rk1_4.head
  obtain ⟨zk1_6, ck1_6, fk1_6, rk1_6⟩ := rk1_5.head
  obtain ⟨zk1_7, ck1_7, fk1_7, rk1_7⟩ := rk1_6.head
  unfold HandW HandV
  go_wp2_with fail
  refine (may_tt _ _ _ _ HM.out _).mono ?_
  rintro e kw2 ⟨rfl, hb⟩
  have k2 := (k1.at4 (kw1.heap.size) (by simp) 67 (.int .i64 (p)) (.int .i64 (p)) (.int .i64 (0)) (.bool false)).call hb
  clear hb
  clear zk1_0 ck1_0 fk1_0 rk1_0 zk1_1 ck1_1 fk1_1 rk1_1 zk1_2 ck1_2 fk1_2 rk1_2 zk1_3 ck1_3 fk1_3 rk1_3 zk1_4 ck1_4 fk1_4 rk1_4 zk1_5 ck1_5 fk1_5 rk1_5 zk1_6 ck1_6 fk1_6 rk1_6 zk1_7 ck1_7 fk1_7 rk1_7
  clear k1
  obtain ⟨zk2_0, ck2_0, fk2_0, rk2_0⟩ := k2.head
  obtain ⟨zk2_1, ck2_1, fk2_1, rk2_1⟩ := rk2_0.head
  obtain ⟨zk2_2, ck2_2, fk2_2, rk2_2⟩ := rk2_1.head
  obtain ⟨zk2_3, ck2_3, fk2_3, rk2_3⟩ := rk2_2.head
  obtain ⟨zk2_4, ck2_4, fk2_4, rk2_4⟩ := rk2_3.head
  obtain ⟨zk2_5, ck2_5, fk2_5, rk2_5⟩ := rk2_4.head
  obtain ⟨zk2_6, ck2_6, fk2_6, rk2_6⟩ := rk2_5.head
  obtain ⟨zk2_7, ck2_7, fk2_7, rk2_7⟩ := rk2_6.head
  obtain ⟨zk2_8, ck2_8, fk2_8, rk2_8⟩ := rk2_7.head
  obtain ⟨zk2_9, ck2_9, fk2_9, rk2_9⟩ := rk2_8.head
  obtain ⟨zk2_10, ck2_10, fk2_10, rk2_10⟩ := rk2_9.head
  obtain ⟨zk2_11, ck2_11, fk2_11, rk2_11⟩ := rk2_10.head
  go_wp2_with fail
  refine (HandRef.welcome_opening_ok _ _ _ h0 h1 h2).mono ?_
  rintro e kw3 ⟨rfl, hb⟩
  have k3 := k2.call hb
  clear hb
  clear zk2_0 ck2_0 fk2_0 rk2_0 zk2_1 ck2_1 fk2_1 rk2_1 zk2_2 ck2_2 fk2_2 rk2_2 zk2_3 ck2_3 fk2_3 rk2_3 zk2_4 ck2_4 fk2_4 rk2_4 zk2_5 ck2_5 fk2_5 rk2_5 zk2_6 ck2_6 fk2_6 rk2_6 zk2_7 ck2_7 fk2_7 rk2_7 zk2_8 ck2_8 fk2_8 rk2_8 zk2_9 ck2_9 fk2_9 rk2_9 zk2_10 ck2_10 fk2_10 rk2_10 zk2_11 ck2_11 fk2_11 rk2_11
  clear k2
  obtain ⟨zk3_0, ck3_0, fk3_0, rk3_0⟩ := k3.head
  obtain ⟨zk3_1, ck3_1, fk3_1, rk3_1⟩ := rk3_0.head
  obtain ⟨zk3_2, ck3_2, fk3_2, rk3_2⟩ := rk3_1.head
  obtain ⟨zk3_3, ck3_3, fk3_3, rk3_3⟩ := rk3_2.head
  obtain ⟨zk3_4, ck3_4, fk3_4, rk3_4⟩ := rk3_3.head
  obtain ⟨zk3_5, ck3_5, fk3_5, rk3_5⟩ := rk3_4.head
  obtain ⟨zk3_6, ck3_6, fk3_6, rk3_6⟩ := rk3_5.head
  obtain ⟨zk3_7, ck3_7, fk3_7, rk3_7⟩ := rk3_6.head
  obtain ⟨zk3_8, ck3_8, fk3_8, rk3_8⟩ := rk3_7.head
  obtain ⟨zk3_9, ck3_9, fk3_9, rk3_9⟩ := rk3_8.head
  obtain ⟨zk3_10, ck3_10, fk3_10, rk3_10⟩ := rk3_9.head
  obtain ⟨zk3_11, ck3_11, fk3_11, rk3_11⟩ := rk3_10.head
  unfold HandW2 HandV
  go_wp2_with fail
  refine (rlimit_any _ _).mono ?_
  rintro e kw4 ⟨rfl, rfl⟩
  have k4 := (k3.at4 (kw3.heap.size) (by simp) 67 (.int .i64 (p)) (.int .i64 (p)) (.int .i64 (0)) (.bool false))
  clear zk3_0 ck3_0 fk3_0 rk3_0 zk3_1 ck3_1 fk3_1 rk3_1 zk3_2 ck3_2 fk3_2 rk3_2 zk3_3 ck3_3 fk3_3 rk3_3 zk3_4 ck3_4 fk3_4 rk3_4 zk3_5 ck3_5 fk3_5 rk3_5 zk3_6 ck3_6 fk3_6 rk3_6 zk3_7 ck3_7 fk3_7 rk3_7 zk3_8 ck3_8 fk3_8 rk3_8 zk3_9 ck3_9 fk3_9 rk3_9 zk3_10 ck3_10 fk3_10 rk3_10 zk3_11 ck3_11 fk3_11 rk3_11
  clear k3
  obtain ⟨zk4_0, ck4_0, fk4_0, rk4_0⟩ := k4.head
  obtain ⟨zk4_1, ck4_1, fk4_1, rk4_1⟩ := rk4_0.head
  obtain ⟨zk4_2, ck4_2, fk4_2, rk4_2⟩ := rk4_1.head
  obtain ⟨zk4_3, ck4_3, fk4_3, rk4_3⟩ := rk4_2.head
  obtain ⟨zk4_4, ck4_4, fk4_4, rk4_4⟩ := rk4_3.head
  obtain ⟨zk4_5, ck4_5, fk4_5, rk4_5⟩ := rk4_4.head
  obtain ⟨zk4_6, ck4_6, fk4_6, rk4_6⟩ := rk4_5.head
  obtain ⟨zk4_7, ck4_7, fk4_7, rk4_7⟩ := rk4_6.head
  obtain ⟨zk4_8, ck4_8, fk4_8, rk4_8⟩ := rk4_7.head
  obtain ⟨zk4_9, ck4_9, fk4_9, rk4_9⟩ := rk4_8.head
  obtain ⟨zk4_10, ck4_10, fk4_10, rk4_10⟩ := rk4_9.head
  obtain ⟨zk4_11, ck4_11, fk4_11, rk4_11⟩ := rk4_10.head
  obtain ⟨zk4_12, ck4_12, fk4_12, rk4_12⟩ := rk4_11.head
  obtain ⟨zk4_13, ck4_13, fk4_13, rk4_13⟩ := rk4_12.head
  obtain ⟨zk4_14, ck4_14, fk4_14, rk4_14⟩ := rk4_13.head
  obtain ⟨zk4_15, ck4_15, fk4_15, rk4_15⟩ := rk4_14.head
  go_wp2_with fail
  refine (awake_any _).mono ?_
  rintro e kw5 ⟨rfl, hb⟩
  have k5 := k4.call hb
  clear hb
  clear zk4_0 ck4_0 fk4_0 rk4_0 zk4_1 ck4_1 fk4_1 rk4_1 zk4_2 ck4_2 fk4_2 rk4_2 zk4_3 ck4_3 fk4_3 rk4_3 zk4_4 ck4_4 fk4_4 rk4_4 zk4_5 ck4_5 fk4_5 rk4_5 zk4_6 ck4_6 fk4_6 rk4_6 zk4_7 ck4_7 fk4_7 rk4_7 zk4_8 ck4_8 fk4_8 rk4_8 zk4_9 ck4_9 fk4_9 rk4_9 zk4_10 ck4_10 fk4_10 rk4_10 zk4_11 ck4_11 fk4_11 rk4_11 zk4_12 ck4_12 fk4_12 rk4_12 zk4_13 ck4_13 fk4_13 rk4_13 zk4_14 ck4_14 fk4_14 rk4_14 zk4_15 ck4_15 fk4_15 rk4_15
  clear k4
  obtain ⟨zk5_0, ck5_0, fk5_0, rk5_0⟩ := k5.head
  obtain ⟨zk5_1, ck5_1, fk5_1, rk5_1⟩ := rk5_0.head
  obtain ⟨zk5_2, ck5_2, fk5_2, rk5_2⟩ := rk5_1.head
  obtain ⟨zk5_3, ck5_3, fk5_3, rk5_3⟩ := rk5_2.head
  obtain ⟨zk5_4, ck5_4, fk5_4, rk5_4⟩ := rk5_3.head
  obtain ⟨zk5_5, ck5_5, fk5_5, rk5_5⟩ := rk5_4.head
  obtain ⟨zk5_6, ck5_6, fk5_6, rk5_6⟩ := rk5_5.head
  obtain ⟨zk5_7, ck5_7, fk5_7, rk5_7⟩ := rk5_6.head
  obtain ⟨zk5_8, ck5_8, fk5_8, rk5_8⟩ := rk5_7.head
  obtain ⟨zk5_9, ck5_9, fk5_9, rk5_9⟩ := rk5_8.head
  obtain ⟨zk5_10, ck5_10, fk5_10, rk5_10⟩ := rk5_9.head
  obtain ⟨zk5_11, ck5_11, fk5_11, rk5_11⟩ := rk5_10.head
  obtain ⟨zk5_12, ck5_12, fk5_12, rk5_12⟩ := rk5_11.head
  obtain ⟨zk5_13, ck5_13, fk5_13, rk5_13⟩ := rk5_12.head
  obtain ⟨zk5_14, ck5_14, fk5_14, rk5_14⟩ := rk5_13.head
  obtain ⟨zk5_15, ck5_15, fk5_15, rk5_15⟩ := rk5_14.head
  go_wp2_with fail
  go_ret
  exact ⟨rfl, k5.1⟩
set_option maxRecDepth 100000 in
set_option maxHeartbeats 1000000 in
theorem walk_opening_high_same (l p n : Int) (w : World) (h0 : 0 ≤ l) (h1 : l < p) (h2 : p ≤ 2147483647) (hm : mayH l 0 p false = true) (hn : limitB n = true) (hq0 : 1 ≤ p) (hq : n < p) : Calls Try.prog 13 #[.agg #[.int .i64 (l), .int .i64 (0), .int .i64 (p), .bool false], .int .i64 p, .int .i64 n] w (Yes w) := by
  have HM := Law.hide hm; clear hm
  go_enter Try.func13, Try.ntmps13
  go_wp2_with fail
  refine (hello_opening_high _ _ _ _ _ h0 h1 h2 hn hq0 hq).mono ?_
  rintro e kw0 ⟨rfl, hb⟩
  have k0 := ((Held.start w).at4 (w.heap.size) (by simp) 67 (.int .i64 (l)) (.int .i64 (0)) (.int .i64 (p)) (.bool false)).call hb
  clear hb
  obtain ⟨zk0_0, ck0_0, fk0_0, rk0_0⟩ := k0.head
  obtain ⟨zk0_1, ck0_1, fk0_1, rk0_1⟩ := rk0_0.head
  obtain ⟨zk0_2, ck0_2, fk0_2, rk0_2⟩ := rk0_1.head
  obtain ⟨zk0_3, ck0_3, fk0_3, rk0_3⟩ := rk0_2.head
  unfold HandQ HandV
  go_wp2_with fail
  refine (welcome_opening_ok _ _ _ h0 h1 h2).mono ?_
  rintro e kw1 ⟨rfl, hb⟩
  have k1 := (k0.at4 (kw0.heap.size) (by simp) 67 (.int .i64 (l)) (.int .i64 (0)) (.int .i64 (p)) (.bool false)).call hb
  clear hb
  clear zk0_0 ck0_0 fk0_0 rk0_0 zk0_1 ck0_1 fk0_1 rk0_1 zk0_2 ck0_2 fk0_2 rk0_2 zk0_3 ck0_3 fk0_3 rk0_3
  clear k0
  obtain ⟨zk1_0, ck1_0, fk1_0, rk1_0⟩ := k1.head
  obtain ⟨zk1_1, ck1_1, fk1_1, rk1_1⟩ := rk1_0.head
  obtain ⟨zk1_2, ck1_2, fk1_2, rk1_2⟩ := rk1_1.head
  obtain ⟨zk1_3, ck1_3, fk1_3, rk1_3⟩ := rk1_2.head
  obtain ⟨zk1_4, ck1_4, fk1_4, rk1_4⟩ := rk1_3.head
  obtain ⟨zk1_5, ck1_5, fk1_5, rk1_5⟩ := rk1_4.head
  obtain ⟨zk1_6, ck1_6, fk1_6, rk1_6⟩ := rk1_5.head
  obtain ⟨zk1_7, ck1_7, fk1_7, rk1_7⟩ := rk1_6.head
  unfold HandW HandV
  go_wp2_with fail
  refine (may_tt _ _ _ _ HM.out _).mono ?_
  rintro e kw2 ⟨rfl, hb⟩
  have k2 := (k1.at4 (kw1.heap.size) (by simp) 67 (.int .i64 (p)) (.int .i64 (p)) (.int .i64 (0)) (.bool false)).call hb
  clear hb
  clear zk1_0 ck1_0 fk1_0 rk1_0 zk1_1 ck1_1 fk1_1 rk1_1 zk1_2 ck1_2 fk1_2 rk1_2 zk1_3 ck1_3 fk1_3 rk1_3 zk1_4 ck1_4 fk1_4 rk1_4 zk1_5 ck1_5 fk1_5 rk1_5 zk1_6 ck1_6 fk1_6 rk1_6 zk1_7 ck1_7 fk1_7 rk1_7
  clear k1
  obtain ⟨zk2_0, ck2_0, fk2_0, rk2_0⟩ := k2.head
  obtain ⟨zk2_1, ck2_1, fk2_1, rk2_1⟩ := rk2_0.head
  obtain ⟨zk2_2, ck2_2, fk2_2, rk2_2⟩ := rk2_1.head
  obtain ⟨zk2_3, ck2_3, fk2_3, rk2_3⟩ := rk2_2.head
  obtain ⟨zk2_4, ck2_4, fk2_4, rk2_4⟩ := rk2_3.head
  obtain ⟨zk2_5, ck2_5, fk2_5, rk2_5⟩ := rk2_4.head
  obtain ⟨zk2_6, ck2_6, fk2_6, rk2_6⟩ := rk2_5.head
  obtain ⟨zk2_7, ck2_7, fk2_7, rk2_7⟩ := rk2_6.head
  obtain ⟨zk2_8, ck2_8, fk2_8, rk2_8⟩ := rk2_7.head
  obtain ⟨zk2_9, ck2_9, fk2_9, rk2_9⟩ := rk2_8.head
  obtain ⟨zk2_10, ck2_10, fk2_10, rk2_10⟩ := rk2_9.head
  obtain ⟨zk2_11, ck2_11, fk2_11, rk2_11⟩ := rk2_10.head
  go_wp2_with fail
  refine (HandRef.welcome_opening_ok _ _ _ h0 h1 h2).mono ?_
  rintro e kw3 ⟨rfl, hb⟩
  have k3 := k2.call hb
  clear hb
  clear zk2_0 ck2_0 fk2_0 rk2_0 zk2_1 ck2_1 fk2_1 rk2_1 zk2_2 ck2_2 fk2_2 rk2_2 zk2_3 ck2_3 fk2_3 rk2_3 zk2_4 ck2_4 fk2_4 rk2_4 zk2_5 ck2_5 fk2_5 rk2_5 zk2_6 ck2_6 fk2_6 rk2_6 zk2_7 ck2_7 fk2_7 rk2_7 zk2_8 ck2_8 fk2_8 rk2_8 zk2_9 ck2_9 fk2_9 rk2_9 zk2_10 ck2_10 fk2_10 rk2_10 zk2_11 ck2_11 fk2_11 rk2_11
  clear k2
  obtain ⟨zk3_0, ck3_0, fk3_0, rk3_0⟩ := k3.head
  obtain ⟨zk3_1, ck3_1, fk3_1, rk3_1⟩ := rk3_0.head
  obtain ⟨zk3_2, ck3_2, fk3_2, rk3_2⟩ := rk3_1.head
  obtain ⟨zk3_3, ck3_3, fk3_3, rk3_3⟩ := rk3_2.head
  obtain ⟨zk3_4, ck3_4, fk3_4, rk3_4⟩ := rk3_3.head
  obtain ⟨zk3_5, ck3_5, fk3_5, rk3_5⟩ := rk3_4.head
  obtain ⟨zk3_6, ck3_6, fk3_6, rk3_6⟩ := rk3_5.head
  obtain ⟨zk3_7, ck3_7, fk3_7, rk3_7⟩ := rk3_6.head
  obtain ⟨zk3_8, ck3_8, fk3_8, rk3_8⟩ := rk3_7.head
  obtain ⟨zk3_9, ck3_9, fk3_9, rk3_9⟩ := rk3_8.head
  obtain ⟨zk3_10, ck3_10, fk3_10, rk3_10⟩ := rk3_9.head
  obtain ⟨zk3_11, ck3_11, fk3_11, rk3_11⟩ := rk3_10.head
  unfold HandW2 HandV
  go_wp2_with fail
  refine (rlimit_any _ _).mono ?_
  rintro e kw4 ⟨rfl, rfl⟩
  have k4 := (k3.at4 (kw3.heap.size) (by simp) 67 (.int .i64 (p)) (.int .i64 (p)) (.int .i64 (0)) (.bool false))
  clear zk3_0 ck3_0 fk3_0 rk3_0 zk3_1 ck3_1 fk3_1 rk3_1 zk3_2 ck3_2 fk3_2 rk3_2 zk3_3 ck3_3 fk3_3 rk3_3 zk3_4 ck3_4 fk3_4 rk3_4 zk3_5 ck3_5 fk3_5 rk3_5 zk3_6 ck3_6 fk3_6 rk3_6 zk3_7 ck3_7 fk3_7 rk3_7 zk3_8 ck3_8 fk3_8 rk3_8 zk3_9 ck3_9 fk3_9 rk3_9 zk3_10 ck3_10 fk3_10 rk3_10 zk3_11 ck3_11 fk3_11 rk3_11
  clear k3
  obtain ⟨zk4_0, ck4_0, fk4_0, rk4_0⟩ := k4.head
  obtain ⟨zk4_1, ck4_1, fk4_1, rk4_1⟩ := rk4_0.head
  obtain ⟨zk4_2, ck4_2, fk4_2, rk4_2⟩ := rk4_1.head
  obtain ⟨zk4_3, ck4_3, fk4_3, rk4_3⟩ := rk4_2.head
  obtain ⟨zk4_4, ck4_4, fk4_4, rk4_4⟩ := rk4_3.head
  obtain ⟨zk4_5, ck4_5, fk4_5, rk4_5⟩ := rk4_4.head
  obtain ⟨zk4_6, ck4_6, fk4_6, rk4_6⟩ := rk4_5.head
  obtain ⟨zk4_7, ck4_7, fk4_7, rk4_7⟩ := rk4_6.head
  obtain ⟨zk4_8, ck4_8, fk4_8, rk4_8⟩ := rk4_7.head
  obtain ⟨zk4_9, ck4_9, fk4_9, rk4_9⟩ := rk4_8.head
  obtain ⟨zk4_10, ck4_10, fk4_10, rk4_10⟩ := rk4_9.head
  obtain ⟨zk4_11, ck4_11, fk4_11, rk4_11⟩ := rk4_10.head
  obtain ⟨zk4_12, ck4_12, fk4_12, rk4_12⟩ := rk4_11.head
  obtain ⟨zk4_13, ck4_13, fk4_13, rk4_13⟩ := rk4_12.head
  obtain ⟨zk4_14, ck4_14, fk4_14, rk4_14⟩ := rk4_13.head
  obtain ⟨zk4_15, ck4_15, fk4_15, rk4_15⟩ := rk4_14.head
  go_wp2_with fail
  refine (HandRef.hello_opening_high _ _ _ _ _ h0 h1 h2 hq0 hq).mono ?_
  rintro e kw5 ⟨rfl, hb⟩
  have k5 := k4.call hb
  clear hb
  clear zk4_0 ck4_0 fk4_0 rk4_0 zk4_1 ck4_1 fk4_1 rk4_1 zk4_2 ck4_2 fk4_2 rk4_2 zk4_3 ck4_3 fk4_3 rk4_3 zk4_4 ck4_4 fk4_4 rk4_4 zk4_5 ck4_5 fk4_5 rk4_5 zk4_6 ck4_6 fk4_6 rk4_6 zk4_7 ck4_7 fk4_7 rk4_7 zk4_8 ck4_8 fk4_8 rk4_8 zk4_9 ck4_9 fk4_9 rk4_9 zk4_10 ck4_10 fk4_10 rk4_10 zk4_11 ck4_11 fk4_11 rk4_11 zk4_12 ck4_12 fk4_12 rk4_12 zk4_13 ck4_13 fk4_13 rk4_13 zk4_14 ck4_14 fk4_14 rk4_14 zk4_15 ck4_15 fk4_15 rk4_15
  clear k4
  obtain ⟨zk5_0, ck5_0, fk5_0, rk5_0⟩ := k5.head
  obtain ⟨zk5_1, ck5_1, fk5_1, rk5_1⟩ := rk5_0.head
  obtain ⟨zk5_2, ck5_2, fk5_2, rk5_2⟩ := rk5_1.head
  obtain ⟨zk5_3, ck5_3, fk5_3, rk5_3⟩ := rk5_2.head
  obtain ⟨zk5_4, ck5_4, fk5_4, rk5_4⟩ := rk5_3.head
  obtain ⟨zk5_5, ck5_5, fk5_5, rk5_5⟩ := rk5_4.head
  obtain ⟨zk5_6, ck5_6, fk5_6, rk5_6⟩ := rk5_5.head
  obtain ⟨zk5_7, ck5_7, fk5_7, rk5_7⟩ := rk5_6.head
  obtain ⟨zk5_8, ck5_8, fk5_8, rk5_8⟩ := rk5_7.head
  obtain ⟨zk5_9, ck5_9, fk5_9, rk5_9⟩ := rk5_8.head
  obtain ⟨zk5_10, ck5_10, fk5_10, rk5_10⟩ := rk5_9.head
  obtain ⟨zk5_11, ck5_11, fk5_11, rk5_11⟩ := rk5_10.head
  obtain ⟨zk5_12, ck5_12, fk5_12, rk5_12⟩ := rk5_11.head
  obtain ⟨zk5_13, ck5_13, fk5_13, rk5_13⟩ := rk5_12.head
  obtain ⟨zk5_14, ck5_14, fk5_14, rk5_14⟩ := rk5_13.head
  obtain ⟨zk5_15, ck5_15, fk5_15, rk5_15⟩ := rk5_14.head
  unfold HandQ3 HandV
  go_wp2_with fail
  refine (awake_any _).mono ?_
  rintro e kw6 ⟨rfl, hb⟩
  have k6 := (k5.at4 (kw5.heap.size) (by simp) 67 (.int .i64 (l)) (.int .i64 (0)) (.int .i64 (p)) (.bool false)).call hb
  clear hb
  clear zk5_0 ck5_0 fk5_0 rk5_0 zk5_1 ck5_1 fk5_1 rk5_1 zk5_2 ck5_2 fk5_2 rk5_2 zk5_3 ck5_3 fk5_3 rk5_3 zk5_4 ck5_4 fk5_4 rk5_4 zk5_5 ck5_5 fk5_5 rk5_5 zk5_6 ck5_6 fk5_6 rk5_6 zk5_7 ck5_7 fk5_7 rk5_7 zk5_8 ck5_8 fk5_8 rk5_8 zk5_9 ck5_9 fk5_9 rk5_9 zk5_10 ck5_10 fk5_10 rk5_10 zk5_11 ck5_11 fk5_11 rk5_11 zk5_12 ck5_12 fk5_12 rk5_12 zk5_13 ck5_13 fk5_13 rk5_13 zk5_14 ck5_14 fk5_14 rk5_14 zk5_15 ck5_15 fk5_15 rk5_15
  clear k5
  obtain ⟨zk6_0, ck6_0, fk6_0, rk6_0⟩ := k6.head
  obtain ⟨zk6_1, ck6_1, fk6_1, rk6_1⟩ := rk6_0.head
  obtain ⟨zk6_2, ck6_2, fk6_2, rk6_2⟩ := rk6_1.head
  obtain ⟨zk6_3, ck6_3, fk6_3, rk6_3⟩ := rk6_2.head
  obtain ⟨zk6_4, ck6_4, fk6_4, rk6_4⟩ := rk6_3.head
  obtain ⟨zk6_5, ck6_5, fk6_5, rk6_5⟩ := rk6_4.head
  obtain ⟨zk6_6, ck6_6, fk6_6, rk6_6⟩ := rk6_5.head
  obtain ⟨zk6_7, ck6_7, fk6_7, rk6_7⟩ := rk6_6.head
  obtain ⟨zk6_8, ck6_8, fk6_8, rk6_8⟩ := rk6_7.head
  obtain ⟨zk6_9, ck6_9, fk6_9, rk6_9⟩ := rk6_8.head
  obtain ⟨zk6_10, ck6_10, fk6_10, rk6_10⟩ := rk6_9.head
  obtain ⟨zk6_11, ck6_11, fk6_11, rk6_11⟩ := rk6_10.head
  obtain ⟨zk6_12, ck6_12, fk6_12, rk6_12⟩ := rk6_11.head
  obtain ⟨zk6_13, ck6_13, fk6_13, rk6_13⟩ := rk6_12.head
  obtain ⟨zk6_14, ck6_14, fk6_14, rk6_14⟩ := rk6_13.head
  obtain ⟨zk6_15, ck6_15, fk6_15, rk6_15⟩ := rk6_14.head
  obtain ⟨zk6_16, ck6_16, fk6_16, rk6_16⟩ := rk6_15.head
  obtain ⟨zk6_17, ck6_17, fk6_17, rk6_17⟩ := rk6_16.head
  obtain ⟨zk6_18, ck6_18, fk6_18, rk6_18⟩ := rk6_17.head
  obtain ⟨zk6_19, ck6_19, fk6_19, rk6_19⟩ := rk6_18.head
  go_wp2_with fail
  go_ret
  exact ⟨rfl, k6.1⟩
set_option maxRecDepth 100000 in
set_option maxHeartbeats 1000000 in
theorem walk_opening_same (l p n : Int) (w : World) (h0 : 0 ≤ l) (h1 : l < p) (h2 : p ≤ 2147483647) (hm : mayH l 0 p false = true) (hn : limitB n = true) (hq0 : 1 ≤ p) (hq1 : p ≤ n) : Calls Try.prog 13 #[.agg #[.int .i64 (l), .int .i64 (0), .int .i64 (p), .bool false], .int .i64 p, .int .i64 n] w (Yes w) := by
  have HM := Law.hide hm; clear hm
  go_enter Try.func13, Try.ntmps13
  go_wp2_with fail
  refine (hello_opening_same _ _ _ _ h0 h1 h2 hn hq0 hq1).mono ?_
  rintro e kw0 ⟨rfl, hb⟩
  have k0 := ((Held.start w).at4 (w.heap.size) (by simp) 67 (.int .i64 (l)) (.int .i64 (0)) (.int .i64 (p)) (.bool false)).call hb
  clear hb
  obtain ⟨zk0_0, ck0_0, fk0_0, rk0_0⟩ := k0.head
  obtain ⟨zk0_1, ck0_1, fk0_1, rk0_1⟩ := rk0_0.head
  obtain ⟨zk0_2, ck0_2, fk0_2, rk0_2⟩ := rk0_1.head
  obtain ⟨zk0_3, ck0_3, fk0_3, rk0_3⟩ := rk0_2.head
  unfold HandQ HandV
  go_wp2_with fail
  refine (welcome_opening_ok _ _ _ h0 h1 h2).mono ?_
  rintro e kw1 ⟨rfl, hb⟩
  have k1 := (k0.at4 (kw0.heap.size) (by simp) 67 (.int .i64 (l)) (.int .i64 (0)) (.int .i64 (p)) (.bool false)).call hb
  clear hb
  clear zk0_0 ck0_0 fk0_0 rk0_0 zk0_1 ck0_1 fk0_1 rk0_1 zk0_2 ck0_2 fk0_2 rk0_2 zk0_3 ck0_3 fk0_3 rk0_3
  clear k0
  obtain ⟨zk1_0, ck1_0, fk1_0, rk1_0⟩ := k1.head
  obtain ⟨zk1_1, ck1_1, fk1_1, rk1_1⟩ := rk1_0.head
  obtain ⟨zk1_2, ck1_2, fk1_2, rk1_2⟩ := rk1_1.head
  obtain ⟨zk1_3, ck1_3, fk1_3, rk1_3⟩ := rk1_2.head
  obtain ⟨zk1_4, ck1_4, fk1_4, rk1_4⟩ := rk1_3.head
  obtain ⟨zk1_5, ck1_5, fk1_5, rk1_5⟩ := rk1_4.head
  obtain ⟨zk1_6, ck1_6, fk1_6, rk1_6⟩ := rk1_5.head
  obtain ⟨zk1_7, ck1_7, fk1_7, rk1_7⟩ := rk1_6.head
  unfold HandW HandV
  go_wp2_with fail
  refine (may_tt _ _ _ _ HM.out _).mono ?_
  rintro e kw2 ⟨rfl, hb⟩
  have k2 := (k1.at4 (kw1.heap.size) (by simp) 67 (.int .i64 (p)) (.int .i64 (p)) (.int .i64 (0)) (.bool false)).call hb
  clear hb
  clear zk1_0 ck1_0 fk1_0 rk1_0 zk1_1 ck1_1 fk1_1 rk1_1 zk1_2 ck1_2 fk1_2 rk1_2 zk1_3 ck1_3 fk1_3 rk1_3 zk1_4 ck1_4 fk1_4 rk1_4 zk1_5 ck1_5 fk1_5 rk1_5 zk1_6 ck1_6 fk1_6 rk1_6 zk1_7 ck1_7 fk1_7 rk1_7
  clear k1
  obtain ⟨zk2_0, ck2_0, fk2_0, rk2_0⟩ := k2.head
  obtain ⟨zk2_1, ck2_1, fk2_1, rk2_1⟩ := rk2_0.head
  obtain ⟨zk2_2, ck2_2, fk2_2, rk2_2⟩ := rk2_1.head
  obtain ⟨zk2_3, ck2_3, fk2_3, rk2_3⟩ := rk2_2.head
  obtain ⟨zk2_4, ck2_4, fk2_4, rk2_4⟩ := rk2_3.head
  obtain ⟨zk2_5, ck2_5, fk2_5, rk2_5⟩ := rk2_4.head
  obtain ⟨zk2_6, ck2_6, fk2_6, rk2_6⟩ := rk2_5.head
  obtain ⟨zk2_7, ck2_7, fk2_7, rk2_7⟩ := rk2_6.head
  obtain ⟨zk2_8, ck2_8, fk2_8, rk2_8⟩ := rk2_7.head
  obtain ⟨zk2_9, ck2_9, fk2_9, rk2_9⟩ := rk2_8.head
  obtain ⟨zk2_10, ck2_10, fk2_10, rk2_10⟩ := rk2_9.head
  obtain ⟨zk2_11, ck2_11, fk2_11, rk2_11⟩ := rk2_10.head
  go_wp2_with fail
  refine (HandRef.welcome_opening_ok _ _ _ h0 h1 h2).mono ?_
  rintro e kw3 ⟨rfl, hb⟩
  have k3 := k2.call hb
  clear hb
  clear zk2_0 ck2_0 fk2_0 rk2_0 zk2_1 ck2_1 fk2_1 rk2_1 zk2_2 ck2_2 fk2_2 rk2_2 zk2_3 ck2_3 fk2_3 rk2_3 zk2_4 ck2_4 fk2_4 rk2_4 zk2_5 ck2_5 fk2_5 rk2_5 zk2_6 ck2_6 fk2_6 rk2_6 zk2_7 ck2_7 fk2_7 rk2_7 zk2_8 ck2_8 fk2_8 rk2_8 zk2_9 ck2_9 fk2_9 rk2_9 zk2_10 ck2_10 fk2_10 rk2_10 zk2_11 ck2_11 fk2_11 rk2_11
  clear k2
  obtain ⟨zk3_0, ck3_0, fk3_0, rk3_0⟩ := k3.head
  obtain ⟨zk3_1, ck3_1, fk3_1, rk3_1⟩ := rk3_0.head
  obtain ⟨zk3_2, ck3_2, fk3_2, rk3_2⟩ := rk3_1.head
  obtain ⟨zk3_3, ck3_3, fk3_3, rk3_3⟩ := rk3_2.head
  obtain ⟨zk3_4, ck3_4, fk3_4, rk3_4⟩ := rk3_3.head
  obtain ⟨zk3_5, ck3_5, fk3_5, rk3_5⟩ := rk3_4.head
  obtain ⟨zk3_6, ck3_6, fk3_6, rk3_6⟩ := rk3_5.head
  obtain ⟨zk3_7, ck3_7, fk3_7, rk3_7⟩ := rk3_6.head
  obtain ⟨zk3_8, ck3_8, fk3_8, rk3_8⟩ := rk3_7.head
  obtain ⟨zk3_9, ck3_9, fk3_9, rk3_9⟩ := rk3_8.head
  obtain ⟨zk3_10, ck3_10, fk3_10, rk3_10⟩ := rk3_9.head
  obtain ⟨zk3_11, ck3_11, fk3_11, rk3_11⟩ := rk3_10.head
  unfold HandW2 HandV
  go_wp2_with fail
  refine (rlimit_any _ _).mono ?_
  rintro e kw4 ⟨rfl, rfl⟩
  have k4 := (k3.at4 (kw3.heap.size) (by simp) 67 (.int .i64 (p)) (.int .i64 (p)) (.int .i64 (0)) (.bool false))
  clear zk3_0 ck3_0 fk3_0 rk3_0 zk3_1 ck3_1 fk3_1 rk3_1 zk3_2 ck3_2 fk3_2 rk3_2 zk3_3 ck3_3 fk3_3 rk3_3 zk3_4 ck3_4 fk3_4 rk3_4 zk3_5 ck3_5 fk3_5 rk3_5 zk3_6 ck3_6 fk3_6 rk3_6 zk3_7 ck3_7 fk3_7 rk3_7 zk3_8 ck3_8 fk3_8 rk3_8 zk3_9 ck3_9 fk3_9 rk3_9 zk3_10 ck3_10 fk3_10 rk3_10 zk3_11 ck3_11 fk3_11 rk3_11
  clear k3
  obtain ⟨zk4_0, ck4_0, fk4_0, rk4_0⟩ := k4.head
  obtain ⟨zk4_1, ck4_1, fk4_1, rk4_1⟩ := rk4_0.head
  obtain ⟨zk4_2, ck4_2, fk4_2, rk4_2⟩ := rk4_1.head
  obtain ⟨zk4_3, ck4_3, fk4_3, rk4_3⟩ := rk4_2.head
  obtain ⟨zk4_4, ck4_4, fk4_4, rk4_4⟩ := rk4_3.head
  obtain ⟨zk4_5, ck4_5, fk4_5, rk4_5⟩ := rk4_4.head
  obtain ⟨zk4_6, ck4_6, fk4_6, rk4_6⟩ := rk4_5.head
  obtain ⟨zk4_7, ck4_7, fk4_7, rk4_7⟩ := rk4_6.head
  obtain ⟨zk4_8, ck4_8, fk4_8, rk4_8⟩ := rk4_7.head
  obtain ⟨zk4_9, ck4_9, fk4_9, rk4_9⟩ := rk4_8.head
  obtain ⟨zk4_10, ck4_10, fk4_10, rk4_10⟩ := rk4_9.head
  obtain ⟨zk4_11, ck4_11, fk4_11, rk4_11⟩ := rk4_10.head
  obtain ⟨zk4_12, ck4_12, fk4_12, rk4_12⟩ := rk4_11.head
  obtain ⟨zk4_13, ck4_13, fk4_13, rk4_13⟩ := rk4_12.head
  obtain ⟨zk4_14, ck4_14, fk4_14, rk4_14⟩ := rk4_13.head
  obtain ⟨zk4_15, ck4_15, fk4_15, rk4_15⟩ := rk4_14.head
  go_wp2_with fail
  refine (HandRef.hello_opening_same _ _ _ _ h0 h1 h2 hq0 hq1).mono ?_
  rintro e kw5 ⟨rfl, hb⟩
  have k5 := k4.call hb
  clear hb
  clear zk4_0 ck4_0 fk4_0 rk4_0 zk4_1 ck4_1 fk4_1 rk4_1 zk4_2 ck4_2 fk4_2 rk4_2 zk4_3 ck4_3 fk4_3 rk4_3 zk4_4 ck4_4 fk4_4 rk4_4 zk4_5 ck4_5 fk4_5 rk4_5 zk4_6 ck4_6 fk4_6 rk4_6 zk4_7 ck4_7 fk4_7 rk4_7 zk4_8 ck4_8 fk4_8 rk4_8 zk4_9 ck4_9 fk4_9 rk4_9 zk4_10 ck4_10 fk4_10 rk4_10 zk4_11 ck4_11 fk4_11 rk4_11 zk4_12 ck4_12 fk4_12 rk4_12 zk4_13 ck4_13 fk4_13 rk4_13 zk4_14 ck4_14 fk4_14 rk4_14 zk4_15 ck4_15 fk4_15 rk4_15
  clear k4
  obtain ⟨zk5_0, ck5_0, fk5_0, rk5_0⟩ := k5.head
  obtain ⟨zk5_1, ck5_1, fk5_1, rk5_1⟩ := rk5_0.head
  obtain ⟨zk5_2, ck5_2, fk5_2, rk5_2⟩ := rk5_1.head
  obtain ⟨zk5_3, ck5_3, fk5_3, rk5_3⟩ := rk5_2.head
  obtain ⟨zk5_4, ck5_4, fk5_4, rk5_4⟩ := rk5_3.head
  obtain ⟨zk5_5, ck5_5, fk5_5, rk5_5⟩ := rk5_4.head
  obtain ⟨zk5_6, ck5_6, fk5_6, rk5_6⟩ := rk5_5.head
  obtain ⟨zk5_7, ck5_7, fk5_7, rk5_7⟩ := rk5_6.head
  obtain ⟨zk5_8, ck5_8, fk5_8, rk5_8⟩ := rk5_7.head
  obtain ⟨zk5_9, ck5_9, fk5_9, rk5_9⟩ := rk5_8.head
  obtain ⟨zk5_10, ck5_10, fk5_10, rk5_10⟩ := rk5_9.head
  obtain ⟨zk5_11, ck5_11, fk5_11, rk5_11⟩ := rk5_10.head
  obtain ⟨zk5_12, ck5_12, fk5_12, rk5_12⟩ := rk5_11.head
  obtain ⟨zk5_13, ck5_13, fk5_13, rk5_13⟩ := rk5_12.head
  obtain ⟨zk5_14, ck5_14, fk5_14, rk5_14⟩ := rk5_13.head
  obtain ⟨zk5_15, ck5_15, fk5_15, rk5_15⟩ := rk5_14.head
  unfold HandQ3 HandV
  go_wp2_with fail
  refine (awake_any _).mono ?_
  rintro e kw6 ⟨rfl, hb⟩
  have k6 := (k5.at4 (kw5.heap.size) (by simp) 67 (.int .i64 (l)) (.int .i64 (0)) (.int .i64 (p)) (.bool false)).call hb
  clear hb
  clear zk5_0 ck5_0 fk5_0 rk5_0 zk5_1 ck5_1 fk5_1 rk5_1 zk5_2 ck5_2 fk5_2 rk5_2 zk5_3 ck5_3 fk5_3 rk5_3 zk5_4 ck5_4 fk5_4 rk5_4 zk5_5 ck5_5 fk5_5 rk5_5 zk5_6 ck5_6 fk5_6 rk5_6 zk5_7 ck5_7 fk5_7 rk5_7 zk5_8 ck5_8 fk5_8 rk5_8 zk5_9 ck5_9 fk5_9 rk5_9 zk5_10 ck5_10 fk5_10 rk5_10 zk5_11 ck5_11 fk5_11 rk5_11 zk5_12 ck5_12 fk5_12 rk5_12 zk5_13 ck5_13 fk5_13 rk5_13 zk5_14 ck5_14 fk5_14 rk5_14 zk5_15 ck5_15 fk5_15 rk5_15
  clear k5
  obtain ⟨zk6_0, ck6_0, fk6_0, rk6_0⟩ := k6.head
  obtain ⟨zk6_1, ck6_1, fk6_1, rk6_1⟩ := rk6_0.head
  obtain ⟨zk6_2, ck6_2, fk6_2, rk6_2⟩ := rk6_1.head
  obtain ⟨zk6_3, ck6_3, fk6_3, rk6_3⟩ := rk6_2.head
  obtain ⟨zk6_4, ck6_4, fk6_4, rk6_4⟩ := rk6_3.head
  obtain ⟨zk6_5, ck6_5, fk6_5, rk6_5⟩ := rk6_4.head
  obtain ⟨zk6_6, ck6_6, fk6_6, rk6_6⟩ := rk6_5.head
  obtain ⟨zk6_7, ck6_7, fk6_7, rk6_7⟩ := rk6_6.head
  obtain ⟨zk6_8, ck6_8, fk6_8, rk6_8⟩ := rk6_7.head
  obtain ⟨zk6_9, ck6_9, fk6_9, rk6_9⟩ := rk6_8.head
  obtain ⟨zk6_10, ck6_10, fk6_10, rk6_10⟩ := rk6_9.head
  obtain ⟨zk6_11, ck6_11, fk6_11, rk6_11⟩ := rk6_10.head
  obtain ⟨zk6_12, ck6_12, fk6_12, rk6_12⟩ := rk6_11.head
  obtain ⟨zk6_13, ck6_13, fk6_13, rk6_13⟩ := rk6_12.head
  obtain ⟨zk6_14, ck6_14, fk6_14, rk6_14⟩ := rk6_13.head
  obtain ⟨zk6_15, ck6_15, fk6_15, rk6_15⟩ := rk6_14.head
  obtain ⟨zk6_16, ck6_16, fk6_16, rk6_16⟩ := rk6_15.head
  obtain ⟨zk6_17, ck6_17, fk6_17, rk6_17⟩ := rk6_16.head
  obtain ⟨zk6_18, ck6_18, fk6_18, rk6_18⟩ := rk6_17.head
  obtain ⟨zk6_19, ck6_19, fk6_19, rk6_19⟩ := rk6_18.head
  go_wp2_with fail
  go_ret
  exact ⟨rfl, k6.1⟩
set_option maxRecDepth 100000 in
set_option maxHeartbeats 1000000 in
theorem walk_opening_nolimit_no (l p q n : Int) (w : World) (h0 : 0 ≤ l) (h1 : l < p) (h2 : p ≤ 2147483647) (hm : mayH l 0 p false = true) (hqp : q ≠ p) (hn : limitB n = false) : Calls Try.prog 13 #[.agg #[.int .i64 (l), .int .i64 (0), .int .i64 (p), .bool false], .int .i64 q, .int .i64 n] w (Yes w) := by
  have HM := Law.hide hm; clear hm
  go_enter Try.func13, Try.ntmps13
  go_wp2_with fail
  refine (hello_nolimit _ _ _ _ _ _ _ HM.out hn).mono ?_
  rintro e kw0 ⟨rfl, hb⟩
  have k0 := ((Held.start w).at4 (w.heap.size) (by simp) 67 (.int .i64 (l)) (.int .i64 (0)) (.int .i64 (p)) (.bool false)).call hb
  clear hb
  obtain ⟨zk0_0, ck0_0, fk0_0, rk0_0⟩ := k0.head
  obtain ⟨zk0_1, ck0_1, fk0_1, rk0_1⟩ := rk0_0.head
  obtain ⟨zk0_2, ck0_2, fk0_2, rk0_2⟩ := rk0_1.head
  obtain ⟨zk0_3, ck0_3, fk0_3, rk0_3⟩ := rk0_2.head
  unfold HandQ HandV
  go_wp2_with fail
  refine (welcome_opening_no _ _ _ _ h0 h1 h2 hqp).mono ?_
  rintro e kw1 ⟨rfl, hb⟩
  have k1 := (k0.at4 (kw0.heap.size) (by simp) 67 (.int .i64 (0)) (.int .i64 (0)) (.int .i64 (0)) (.bool false)).call hb
  clear hb
  clear zk0_0 ck0_0 fk0_0 rk0_0 zk0_1 ck0_1 fk0_1 rk0_1 zk0_2 ck0_2 fk0_2 rk0_2 zk0_3 ck0_3 fk0_3 rk0_3
  clear k0
  obtain ⟨zk1_0, ck1_0, fk1_0, rk1_0⟩ := k1.head
  obtain ⟨zk1_1, ck1_1, fk1_1, rk1_1⟩ := rk1_0.head
  obtain ⟨zk1_2, ck1_2, fk1_2, rk1_2⟩ := rk1_1.head
  obtain ⟨zk1_3, ck1_3, fk1_3, rk1_3⟩ := rk1_2.head
  obtain ⟨zk1_4, ck1_4, fk1_4, rk1_4⟩ := rk1_3.head
  obtain ⟨zk1_5, ck1_5, fk1_5, rk1_5⟩ := rk1_4.head
  obtain ⟨zk1_6, ck1_6, fk1_6, rk1_6⟩ := rk1_5.head
  obtain ⟨zk1_7, ck1_7, fk1_7, rk1_7⟩ := rk1_6.head
  unfold HandW HandV
  go_wp2_with fail
  refine (may_tt _ _ _ _ HM.out _).mono ?_
  rintro e kw2 ⟨rfl, hb⟩
  have k2 := (k1.at4 (kw1.heap.size) (by simp) 67 (.int .i64 (l)) (.int .i64 (0)) (.int .i64 (p)) (.bool false)).call hb
  clear hb
  clear zk1_0 ck1_0 fk1_0 rk1_0 zk1_1 ck1_1 fk1_1 rk1_1 zk1_2 ck1_2 fk1_2 rk1_2 zk1_3 ck1_3 fk1_3 rk1_3 zk1_4 ck1_4 fk1_4 rk1_4 zk1_5 ck1_5 fk1_5 rk1_5 zk1_6 ck1_6 fk1_6 rk1_6 zk1_7 ck1_7 fk1_7 rk1_7
  clear k1
  obtain ⟨zk2_0, ck2_0, fk2_0, rk2_0⟩ := k2.head
  obtain ⟨zk2_1, ck2_1, fk2_1, rk2_1⟩ := rk2_0.head
  obtain ⟨zk2_2, ck2_2, fk2_2, rk2_2⟩ := rk2_1.head
  obtain ⟨zk2_3, ck2_3, fk2_3, rk2_3⟩ := rk2_2.head
  obtain ⟨zk2_4, ck2_4, fk2_4, rk2_4⟩ := rk2_3.head
  obtain ⟨zk2_5, ck2_5, fk2_5, rk2_5⟩ := rk2_4.head
  obtain ⟨zk2_6, ck2_6, fk2_6, rk2_6⟩ := rk2_5.head
  obtain ⟨zk2_7, ck2_7, fk2_7, rk2_7⟩ := rk2_6.head
  obtain ⟨zk2_8, ck2_8, fk2_8, rk2_8⟩ := rk2_7.head
  obtain ⟨zk2_9, ck2_9, fk2_9, rk2_9⟩ := rk2_8.head
  obtain ⟨zk2_10, ck2_10, fk2_10, rk2_10⟩ := rk2_9.head
  obtain ⟨zk2_11, ck2_11, fk2_11, rk2_11⟩ := rk2_10.head
  go_wp2_with fail
  refine (HandRef.welcome_opening_no _ _ _ _ h0 h1 h2 hqp).mono ?_
  rintro e kw3 ⟨rfl, hb⟩
  have k3 := k2.call hb
  clear hb
  clear zk2_0 ck2_0 fk2_0 rk2_0 zk2_1 ck2_1 fk2_1 rk2_1 zk2_2 ck2_2 fk2_2 rk2_2 zk2_3 ck2_3 fk2_3 rk2_3 zk2_4 ck2_4 fk2_4 rk2_4 zk2_5 ck2_5 fk2_5 rk2_5 zk2_6 ck2_6 fk2_6 rk2_6 zk2_7 ck2_7 fk2_7 rk2_7 zk2_8 ck2_8 fk2_8 rk2_8 zk2_9 ck2_9 fk2_9 rk2_9 zk2_10 ck2_10 fk2_10 rk2_10 zk2_11 ck2_11 fk2_11 rk2_11
  clear k2
  obtain ⟨zk3_0, ck3_0, fk3_0, rk3_0⟩ := k3.head
  obtain ⟨zk3_1, ck3_1, fk3_1, rk3_1⟩ := rk3_0.head
  obtain ⟨zk3_2, ck3_2, fk3_2, rk3_2⟩ := rk3_1.head
  obtain ⟨zk3_3, ck3_3, fk3_3, rk3_3⟩ := rk3_2.head
  obtain ⟨zk3_4, ck3_4, fk3_4, rk3_4⟩ := rk3_3.head
  obtain ⟨zk3_5, ck3_5, fk3_5, rk3_5⟩ := rk3_4.head
  obtain ⟨zk3_6, ck3_6, fk3_6, rk3_6⟩ := rk3_5.head
  obtain ⟨zk3_7, ck3_7, fk3_7, rk3_7⟩ := rk3_6.head
  obtain ⟨zk3_8, ck3_8, fk3_8, rk3_8⟩ := rk3_7.head
  obtain ⟨zk3_9, ck3_9, fk3_9, rk3_9⟩ := rk3_8.head
  obtain ⟨zk3_10, ck3_10, fk3_10, rk3_10⟩ := rk3_9.head
  obtain ⟨zk3_11, ck3_11, fk3_11, rk3_11⟩ := rk3_10.head
  unfold HandW2 HandV
  go_wp2_with fail
  refine (rlimit_any _ _).mono ?_
  rintro e kw4 ⟨rfl, rfl⟩
  have k4 := (k3.at4 (kw3.heap.size) (by simp) 67 (.int .i64 (l)) (.int .i64 (0)) (.int .i64 (p)) (.bool false))
  clear zk3_0 ck3_0 fk3_0 rk3_0 zk3_1 ck3_1 fk3_1 rk3_1 zk3_2 ck3_2 fk3_2 rk3_2 zk3_3 ck3_3 fk3_3 rk3_3 zk3_4 ck3_4 fk3_4 rk3_4 zk3_5 ck3_5 fk3_5 rk3_5 zk3_6 ck3_6 fk3_6 rk3_6 zk3_7 ck3_7 fk3_7 rk3_7 zk3_8 ck3_8 fk3_8 rk3_8 zk3_9 ck3_9 fk3_9 rk3_9 zk3_10 ck3_10 fk3_10 rk3_10 zk3_11 ck3_11 fk3_11 rk3_11
  clear k3
  obtain ⟨zk4_0, ck4_0, fk4_0, rk4_0⟩ := k4.head
  obtain ⟨zk4_1, ck4_1, fk4_1, rk4_1⟩ := rk4_0.head
  obtain ⟨zk4_2, ck4_2, fk4_2, rk4_2⟩ := rk4_1.head
  obtain ⟨zk4_3, ck4_3, fk4_3, rk4_3⟩ := rk4_2.head
  obtain ⟨zk4_4, ck4_4, fk4_4, rk4_4⟩ := rk4_3.head
  obtain ⟨zk4_5, ck4_5, fk4_5, rk4_5⟩ := rk4_4.head
  obtain ⟨zk4_6, ck4_6, fk4_6, rk4_6⟩ := rk4_5.head
  obtain ⟨zk4_7, ck4_7, fk4_7, rk4_7⟩ := rk4_6.head
  obtain ⟨zk4_8, ck4_8, fk4_8, rk4_8⟩ := rk4_7.head
  obtain ⟨zk4_9, ck4_9, fk4_9, rk4_9⟩ := rk4_8.head
  obtain ⟨zk4_10, ck4_10, fk4_10, rk4_10⟩ := rk4_9.head
  obtain ⟨zk4_11, ck4_11, fk4_11, rk4_11⟩ := rk4_10.head
  obtain ⟨zk4_12, ck4_12, fk4_12, rk4_12⟩ := rk4_11.head
  obtain ⟨zk4_13, ck4_13, fk4_13, rk4_13⟩ := rk4_12.head
  obtain ⟨zk4_14, ck4_14, fk4_14, rk4_14⟩ := rk4_13.head
  obtain ⟨zk4_15, ck4_15, fk4_15, rk4_15⟩ := rk4_14.head
  go_wp2_with fail
  refine (awake_any _).mono ?_
  rintro e kw5 ⟨rfl, hb⟩
  have k5 := k4.call hb
  clear hb
  clear zk4_0 ck4_0 fk4_0 rk4_0 zk4_1 ck4_1 fk4_1 rk4_1 zk4_2 ck4_2 fk4_2 rk4_2 zk4_3 ck4_3 fk4_3 rk4_3 zk4_4 ck4_4 fk4_4 rk4_4 zk4_5 ck4_5 fk4_5 rk4_5 zk4_6 ck4_6 fk4_6 rk4_6 zk4_7 ck4_7 fk4_7 rk4_7 zk4_8 ck4_8 fk4_8 rk4_8 zk4_9 ck4_9 fk4_9 rk4_9 zk4_10 ck4_10 fk4_10 rk4_10 zk4_11 ck4_11 fk4_11 rk4_11 zk4_12 ck4_12 fk4_12 rk4_12 zk4_13 ck4_13 fk4_13 rk4_13 zk4_14 ck4_14 fk4_14 rk4_14 zk4_15 ck4_15 fk4_15 rk4_15
  clear k4
  obtain ⟨zk5_0, ck5_0, fk5_0, rk5_0⟩ := k5.head
  obtain ⟨zk5_1, ck5_1, fk5_1, rk5_1⟩ := rk5_0.head
  obtain ⟨zk5_2, ck5_2, fk5_2, rk5_2⟩ := rk5_1.head
  obtain ⟨zk5_3, ck5_3, fk5_3, rk5_3⟩ := rk5_2.head
  obtain ⟨zk5_4, ck5_4, fk5_4, rk5_4⟩ := rk5_3.head
  obtain ⟨zk5_5, ck5_5, fk5_5, rk5_5⟩ := rk5_4.head
  obtain ⟨zk5_6, ck5_6, fk5_6, rk5_6⟩ := rk5_5.head
  obtain ⟨zk5_7, ck5_7, fk5_7, rk5_7⟩ := rk5_6.head
  obtain ⟨zk5_8, ck5_8, fk5_8, rk5_8⟩ := rk5_7.head
  obtain ⟨zk5_9, ck5_9, fk5_9, rk5_9⟩ := rk5_8.head
  obtain ⟨zk5_10, ck5_10, fk5_10, rk5_10⟩ := rk5_9.head
  obtain ⟨zk5_11, ck5_11, fk5_11, rk5_11⟩ := rk5_10.head
  obtain ⟨zk5_12, ck5_12, fk5_12, rk5_12⟩ := rk5_11.head
  obtain ⟨zk5_13, ck5_13, fk5_13, rk5_13⟩ := rk5_12.head
  obtain ⟨zk5_14, ck5_14, fk5_14, rk5_14⟩ := rk5_13.head
  obtain ⟨zk5_15, ck5_15, fk5_15, rk5_15⟩ := rk5_14.head
  go_wp2_with fail
  go_ret
  exact ⟨rfl, k5.1⟩
set_option maxRecDepth 100000 in
set_option maxHeartbeats 1000000 in
theorem walk_opening_low (l p q n : Int) (w : World) (h0 : 0 ≤ l) (h1 : l < p) (h2 : p ≤ 2147483647) (hm : mayH l 0 p false = true) (hqp : q ≠ p) (hn : limitB n = true) (hq : q < 1) : Calls Try.prog 13 #[.agg #[.int .i64 (l), .int .i64 (0), .int .i64 (p), .bool false], .int .i64 q, .int .i64 n] w (Yes w) := by
  have HM := Law.hide hm; clear hm
  go_enter Try.func13, Try.ntmps13
  go_wp2_with fail
  refine (hello_opening_low _ _ _ _ _ h0 h1 h2 hn hq).mono ?_
  rintro e kw0 ⟨rfl, hb⟩
  have k0 := ((Held.start w).at4 (w.heap.size) (by simp) 67 (.int .i64 (l)) (.int .i64 (0)) (.int .i64 (p)) (.bool false)).call hb
  clear hb
  obtain ⟨zk0_0, ck0_0, fk0_0, rk0_0⟩ := k0.head
  obtain ⟨zk0_1, ck0_1, fk0_1, rk0_1⟩ := rk0_0.head
  obtain ⟨zk0_2, ck0_2, fk0_2, rk0_2⟩ := rk0_1.head
  obtain ⟨zk0_3, ck0_3, fk0_3, rk0_3⟩ := rk0_2.head
  unfold HandQ HandV
  go_wp2_with fail
  refine (welcome_opening_no _ _ _ _ h0 h1 h2 hqp).mono ?_
  rintro e kw1 ⟨rfl, hb⟩
  have k1 := (k0.at4 (kw0.heap.size) (by simp) 67 (.int .i64 (l)) (.int .i64 (0)) (.int .i64 (p)) (.bool false)).call hb
  clear hb
  clear zk0_0 ck0_0 fk0_0 rk0_0 zk0_1 ck0_1 fk0_1 rk0_1 zk0_2 ck0_2 fk0_2 rk0_2 zk0_3 ck0_3 fk0_3 rk0_3
  clear k0
  obtain ⟨zk1_0, ck1_0, fk1_0, rk1_0⟩ := k1.head
  obtain ⟨zk1_1, ck1_1, fk1_1, rk1_1⟩ := rk1_0.head
  obtain ⟨zk1_2, ck1_2, fk1_2, rk1_2⟩ := rk1_1.head
  obtain ⟨zk1_3, ck1_3, fk1_3, rk1_3⟩ := rk1_2.head
  obtain ⟨zk1_4, ck1_4, fk1_4, rk1_4⟩ := rk1_3.head
  obtain ⟨zk1_5, ck1_5, fk1_5, rk1_5⟩ := rk1_4.head
  obtain ⟨zk1_6, ck1_6, fk1_6, rk1_6⟩ := rk1_5.head
  obtain ⟨zk1_7, ck1_7, fk1_7, rk1_7⟩ := rk1_6.head
  unfold HandW HandV
  go_wp2_with fail
  refine (may_tt _ _ _ _ HM.out _).mono ?_
  rintro e kw2 ⟨rfl, hb⟩
  have k2 := (k1.at4 (kw1.heap.size) (by simp) 67 (.int .i64 (l)) (.int .i64 (0)) (.int .i64 (p)) (.bool false)).call hb
  clear hb
  clear zk1_0 ck1_0 fk1_0 rk1_0 zk1_1 ck1_1 fk1_1 rk1_1 zk1_2 ck1_2 fk1_2 rk1_2 zk1_3 ck1_3 fk1_3 rk1_3 zk1_4 ck1_4 fk1_4 rk1_4 zk1_5 ck1_5 fk1_5 rk1_5 zk1_6 ck1_6 fk1_6 rk1_6 zk1_7 ck1_7 fk1_7 rk1_7
  clear k1
  obtain ⟨zk2_0, ck2_0, fk2_0, rk2_0⟩ := k2.head
  obtain ⟨zk2_1, ck2_1, fk2_1, rk2_1⟩ := rk2_0.head
  obtain ⟨zk2_2, ck2_2, fk2_2, rk2_2⟩ := rk2_1.head
  obtain ⟨zk2_3, ck2_3, fk2_3, rk2_3⟩ := rk2_2.head
  obtain ⟨zk2_4, ck2_4, fk2_4, rk2_4⟩ := rk2_3.head
  obtain ⟨zk2_5, ck2_5, fk2_5, rk2_5⟩ := rk2_4.head
  obtain ⟨zk2_6, ck2_6, fk2_6, rk2_6⟩ := rk2_5.head
  obtain ⟨zk2_7, ck2_7, fk2_7, rk2_7⟩ := rk2_6.head
  obtain ⟨zk2_8, ck2_8, fk2_8, rk2_8⟩ := rk2_7.head
  obtain ⟨zk2_9, ck2_9, fk2_9, rk2_9⟩ := rk2_8.head
  obtain ⟨zk2_10, ck2_10, fk2_10, rk2_10⟩ := rk2_9.head
  obtain ⟨zk2_11, ck2_11, fk2_11, rk2_11⟩ := rk2_10.head
  go_wp2_with fail
  refine (HandRef.welcome_opening_no _ _ _ _ h0 h1 h2 hqp).mono ?_
  rintro e kw3 ⟨rfl, hb⟩
  have k3 := k2.call hb
  clear hb
  clear zk2_0 ck2_0 fk2_0 rk2_0 zk2_1 ck2_1 fk2_1 rk2_1 zk2_2 ck2_2 fk2_2 rk2_2 zk2_3 ck2_3 fk2_3 rk2_3 zk2_4 ck2_4 fk2_4 rk2_4 zk2_5 ck2_5 fk2_5 rk2_5 zk2_6 ck2_6 fk2_6 rk2_6 zk2_7 ck2_7 fk2_7 rk2_7 zk2_8 ck2_8 fk2_8 rk2_8 zk2_9 ck2_9 fk2_9 rk2_9 zk2_10 ck2_10 fk2_10 rk2_10 zk2_11 ck2_11 fk2_11 rk2_11
  clear k2
  obtain ⟨zk3_0, ck3_0, fk3_0, rk3_0⟩ := k3.head
  obtain ⟨zk3_1, ck3_1, fk3_1, rk3_1⟩ := rk3_0.head
  obtain ⟨zk3_2, ck3_2, fk3_2, rk3_2⟩ := rk3_1.head
  obtain ⟨zk3_3, ck3_3, fk3_3, rk3_3⟩ := rk3_2.head
  obtain ⟨zk3_4, ck3_4, fk3_4, rk3_4⟩ := rk3_3.head
  obtain ⟨zk3_5, ck3_5, fk3_5, rk3_5⟩ := rk3_4.head
  obtain ⟨zk3_6, ck3_6, fk3_6, rk3_6⟩ := rk3_5.head
  obtain ⟨zk3_7, ck3_7, fk3_7, rk3_7⟩ := rk3_6.head
  obtain ⟨zk3_8, ck3_8, fk3_8, rk3_8⟩ := rk3_7.head
  obtain ⟨zk3_9, ck3_9, fk3_9, rk3_9⟩ := rk3_8.head
  obtain ⟨zk3_10, ck3_10, fk3_10, rk3_10⟩ := rk3_9.head
  obtain ⟨zk3_11, ck3_11, fk3_11, rk3_11⟩ := rk3_10.head
  unfold HandW2 HandV
  go_wp2_with fail
  refine (rlimit_any _ _).mono ?_
  rintro e kw4 ⟨rfl, rfl⟩
  have k4 := (k3.at4 (kw3.heap.size) (by simp) 67 (.int .i64 (l)) (.int .i64 (0)) (.int .i64 (p)) (.bool false))
  clear zk3_0 ck3_0 fk3_0 rk3_0 zk3_1 ck3_1 fk3_1 rk3_1 zk3_2 ck3_2 fk3_2 rk3_2 zk3_3 ck3_3 fk3_3 rk3_3 zk3_4 ck3_4 fk3_4 rk3_4 zk3_5 ck3_5 fk3_5 rk3_5 zk3_6 ck3_6 fk3_6 rk3_6 zk3_7 ck3_7 fk3_7 rk3_7 zk3_8 ck3_8 fk3_8 rk3_8 zk3_9 ck3_9 fk3_9 rk3_9 zk3_10 ck3_10 fk3_10 rk3_10 zk3_11 ck3_11 fk3_11 rk3_11
  clear k3
  obtain ⟨zk4_0, ck4_0, fk4_0, rk4_0⟩ := k4.head
  obtain ⟨zk4_1, ck4_1, fk4_1, rk4_1⟩ := rk4_0.head
  obtain ⟨zk4_2, ck4_2, fk4_2, rk4_2⟩ := rk4_1.head
  obtain ⟨zk4_3, ck4_3, fk4_3, rk4_3⟩ := rk4_2.head
  obtain ⟨zk4_4, ck4_4, fk4_4, rk4_4⟩ := rk4_3.head
  obtain ⟨zk4_5, ck4_5, fk4_5, rk4_5⟩ := rk4_4.head
  obtain ⟨zk4_6, ck4_6, fk4_6, rk4_6⟩ := rk4_5.head
  obtain ⟨zk4_7, ck4_7, fk4_7, rk4_7⟩ := rk4_6.head
  obtain ⟨zk4_8, ck4_8, fk4_8, rk4_8⟩ := rk4_7.head
  obtain ⟨zk4_9, ck4_9, fk4_9, rk4_9⟩ := rk4_8.head
  obtain ⟨zk4_10, ck4_10, fk4_10, rk4_10⟩ := rk4_9.head
  obtain ⟨zk4_11, ck4_11, fk4_11, rk4_11⟩ := rk4_10.head
  obtain ⟨zk4_12, ck4_12, fk4_12, rk4_12⟩ := rk4_11.head
  obtain ⟨zk4_13, ck4_13, fk4_13, rk4_13⟩ := rk4_12.head
  obtain ⟨zk4_14, ck4_14, fk4_14, rk4_14⟩ := rk4_13.head
  obtain ⟨zk4_15, ck4_15, fk4_15, rk4_15⟩ := rk4_14.head
  go_wp2_with fail
  refine (HandRef.hello_opening_low _ _ _ _ _ h0 h1 h2 hq).mono ?_
  rintro e kw5 ⟨rfl, hb⟩
  have k5 := k4.call hb
  clear hb
  clear zk4_0 ck4_0 fk4_0 rk4_0 zk4_1 ck4_1 fk4_1 rk4_1 zk4_2 ck4_2 fk4_2 rk4_2 zk4_3 ck4_3 fk4_3 rk4_3 zk4_4 ck4_4 fk4_4 rk4_4 zk4_5 ck4_5 fk4_5 rk4_5 zk4_6 ck4_6 fk4_6 rk4_6 zk4_7 ck4_7 fk4_7 rk4_7 zk4_8 ck4_8 fk4_8 rk4_8 zk4_9 ck4_9 fk4_9 rk4_9 zk4_10 ck4_10 fk4_10 rk4_10 zk4_11 ck4_11 fk4_11 rk4_11 zk4_12 ck4_12 fk4_12 rk4_12 zk4_13 ck4_13 fk4_13 rk4_13 zk4_14 ck4_14 fk4_14 rk4_14 zk4_15 ck4_15 fk4_15 rk4_15
  clear k4
  obtain ⟨zk5_0, ck5_0, fk5_0, rk5_0⟩ := k5.head
  obtain ⟨zk5_1, ck5_1, fk5_1, rk5_1⟩ := rk5_0.head
  obtain ⟨zk5_2, ck5_2, fk5_2, rk5_2⟩ := rk5_1.head
  obtain ⟨zk5_3, ck5_3, fk5_3, rk5_3⟩ := rk5_2.head
  obtain ⟨zk5_4, ck5_4, fk5_4, rk5_4⟩ := rk5_3.head
  obtain ⟨zk5_5, ck5_5, fk5_5, rk5_5⟩ := rk5_4.head
  obtain ⟨zk5_6, ck5_6, fk5_6, rk5_6⟩ := rk5_5.head
  obtain ⟨zk5_7, ck5_7, fk5_7, rk5_7⟩ := rk5_6.head
  obtain ⟨zk5_8, ck5_8, fk5_8, rk5_8⟩ := rk5_7.head
  obtain ⟨zk5_9, ck5_9, fk5_9, rk5_9⟩ := rk5_8.head
  obtain ⟨zk5_10, ck5_10, fk5_10, rk5_10⟩ := rk5_9.head
  obtain ⟨zk5_11, ck5_11, fk5_11, rk5_11⟩ := rk5_10.head
  obtain ⟨zk5_12, ck5_12, fk5_12, rk5_12⟩ := rk5_11.head
  obtain ⟨zk5_13, ck5_13, fk5_13, rk5_13⟩ := rk5_12.head
  obtain ⟨zk5_14, ck5_14, fk5_14, rk5_14⟩ := rk5_13.head
  obtain ⟨zk5_15, ck5_15, fk5_15, rk5_15⟩ := rk5_14.head
  unfold HandQ3 HandV
  go_wp2_with fail
  refine (awake_any _).mono ?_
  rintro e kw6 ⟨rfl, hb⟩
  have k6 := (k5.at4 (kw5.heap.size) (by simp) 67 (.int .i64 (l)) (.int .i64 (0)) (.int .i64 (p)) (.bool false)).call hb
  clear hb
  clear zk5_0 ck5_0 fk5_0 rk5_0 zk5_1 ck5_1 fk5_1 rk5_1 zk5_2 ck5_2 fk5_2 rk5_2 zk5_3 ck5_3 fk5_3 rk5_3 zk5_4 ck5_4 fk5_4 rk5_4 zk5_5 ck5_5 fk5_5 rk5_5 zk5_6 ck5_6 fk5_6 rk5_6 zk5_7 ck5_7 fk5_7 rk5_7 zk5_8 ck5_8 fk5_8 rk5_8 zk5_9 ck5_9 fk5_9 rk5_9 zk5_10 ck5_10 fk5_10 rk5_10 zk5_11 ck5_11 fk5_11 rk5_11 zk5_12 ck5_12 fk5_12 rk5_12 zk5_13 ck5_13 fk5_13 rk5_13 zk5_14 ck5_14 fk5_14 rk5_14 zk5_15 ck5_15 fk5_15 rk5_15
  clear k5
  obtain ⟨zk6_0, ck6_0, fk6_0, rk6_0⟩ := k6.head
  obtain ⟨zk6_1, ck6_1, fk6_1, rk6_1⟩ := rk6_0.head
  obtain ⟨zk6_2, ck6_2, fk6_2, rk6_2⟩ := rk6_1.head
  obtain ⟨zk6_3, ck6_3, fk6_3, rk6_3⟩ := rk6_2.head
  obtain ⟨zk6_4, ck6_4, fk6_4, rk6_4⟩ := rk6_3.head
  obtain ⟨zk6_5, ck6_5, fk6_5, rk6_5⟩ := rk6_4.head
  obtain ⟨zk6_6, ck6_6, fk6_6, rk6_6⟩ := rk6_5.head
  obtain ⟨zk6_7, ck6_7, fk6_7, rk6_7⟩ := rk6_6.head
  obtain ⟨zk6_8, ck6_8, fk6_8, rk6_8⟩ := rk6_7.head
  obtain ⟨zk6_9, ck6_9, fk6_9, rk6_9⟩ := rk6_8.head
  obtain ⟨zk6_10, ck6_10, fk6_10, rk6_10⟩ := rk6_9.head
  obtain ⟨zk6_11, ck6_11, fk6_11, rk6_11⟩ := rk6_10.head
  obtain ⟨zk6_12, ck6_12, fk6_12, rk6_12⟩ := rk6_11.head
  obtain ⟨zk6_13, ck6_13, fk6_13, rk6_13⟩ := rk6_12.head
  obtain ⟨zk6_14, ck6_14, fk6_14, rk6_14⟩ := rk6_13.head
  obtain ⟨zk6_15, ck6_15, fk6_15, rk6_15⟩ := rk6_14.head
  obtain ⟨zk6_16, ck6_16, fk6_16, rk6_16⟩ := rk6_15.head
  obtain ⟨zk6_17, ck6_17, fk6_17, rk6_17⟩ := rk6_16.head
  obtain ⟨zk6_18, ck6_18, fk6_18, rk6_18⟩ := rk6_17.head
  obtain ⟨zk6_19, ck6_19, fk6_19, rk6_19⟩ := rk6_18.head
  go_wp2_with fail
  go_ret
  exact ⟨rfl, k6.1⟩
set_option maxRecDepth 100000 in
set_option maxHeartbeats 1000000 in
theorem walk_opening_high_no (l p q n : Int) (w : World) (h0 : 0 ≤ l) (h1 : l < p) (h2 : p ≤ 2147483647) (hm : mayH l 0 p false = true) (hqp : q ≠ p) (hn : limitB n = true) (hq0 : 1 ≤ q) (hq : n < q) : Calls Try.prog 13 #[.agg #[.int .i64 (l), .int .i64 (0), .int .i64 (p), .bool false], .int .i64 q, .int .i64 n] w (Yes w) := by
  have HM := Law.hide hm; clear hm
  go_enter Try.func13, Try.ntmps13
  go_wp2_with fail
  refine (hello_opening_high _ _ _ _ _ h0 h1 h2 hn hq0 hq).mono ?_
  rintro e kw0 ⟨rfl, hb⟩
  have k0 := ((Held.start w).at4 (w.heap.size) (by simp) 67 (.int .i64 (l)) (.int .i64 (0)) (.int .i64 (p)) (.bool false)).call hb
  clear hb
  obtain ⟨zk0_0, ck0_0, fk0_0, rk0_0⟩ := k0.head
  obtain ⟨zk0_1, ck0_1, fk0_1, rk0_1⟩ := rk0_0.head
  obtain ⟨zk0_2, ck0_2, fk0_2, rk0_2⟩ := rk0_1.head
  obtain ⟨zk0_3, ck0_3, fk0_3, rk0_3⟩ := rk0_2.head
  unfold HandQ HandV
  go_wp2_with fail
  refine (welcome_opening_no _ _ _ _ h0 h1 h2 hqp).mono ?_
  rintro e kw1 ⟨rfl, hb⟩
  have k1 := (k0.at4 (kw0.heap.size) (by simp) 67 (.int .i64 (l)) (.int .i64 (0)) (.int .i64 (p)) (.bool false)).call hb
  clear hb
  clear zk0_0 ck0_0 fk0_0 rk0_0 zk0_1 ck0_1 fk0_1 rk0_1 zk0_2 ck0_2 fk0_2 rk0_2 zk0_3 ck0_3 fk0_3 rk0_3
  clear k0
  obtain ⟨zk1_0, ck1_0, fk1_0, rk1_0⟩ := k1.head
  obtain ⟨zk1_1, ck1_1, fk1_1, rk1_1⟩ := rk1_0.head
  obtain ⟨zk1_2, ck1_2, fk1_2, rk1_2⟩ := rk1_1.head
  obtain ⟨zk1_3, ck1_3, fk1_3, rk1_3⟩ := rk1_2.head
  obtain ⟨zk1_4, ck1_4, fk1_4, rk1_4⟩ := rk1_3.head
  obtain ⟨zk1_5, ck1_5, fk1_5, rk1_5⟩ := rk1_4.head
  obtain ⟨zk1_6, ck1_6, fk1_6, rk1_6⟩ := rk1_5.head
  obtain ⟨zk1_7, ck1_7, fk1_7, rk1_7⟩ := rk1_6.head
  unfold HandW HandV
  go_wp2_with fail
  refine (may_tt _ _ _ _ HM.out _).mono ?_
  rintro e kw2 ⟨rfl, hb⟩
  have k2 := (k1.at4 (kw1.heap.size) (by simp) 67 (.int .i64 (l)) (.int .i64 (0)) (.int .i64 (p)) (.bool false)).call hb
  clear hb
  clear zk1_0 ck1_0 fk1_0 rk1_0 zk1_1 ck1_1 fk1_1 rk1_1 zk1_2 ck1_2 fk1_2 rk1_2 zk1_3 ck1_3 fk1_3 rk1_3 zk1_4 ck1_4 fk1_4 rk1_4 zk1_5 ck1_5 fk1_5 rk1_5 zk1_6 ck1_6 fk1_6 rk1_6 zk1_7 ck1_7 fk1_7 rk1_7
  clear k1
  obtain ⟨zk2_0, ck2_0, fk2_0, rk2_0⟩ := k2.head
  obtain ⟨zk2_1, ck2_1, fk2_1, rk2_1⟩ := rk2_0.head
  obtain ⟨zk2_2, ck2_2, fk2_2, rk2_2⟩ := rk2_1.head
  obtain ⟨zk2_3, ck2_3, fk2_3, rk2_3⟩ := rk2_2.head
  obtain ⟨zk2_4, ck2_4, fk2_4, rk2_4⟩ := rk2_3.head
  obtain ⟨zk2_5, ck2_5, fk2_5, rk2_5⟩ := rk2_4.head
  obtain ⟨zk2_6, ck2_6, fk2_6, rk2_6⟩ := rk2_5.head
  obtain ⟨zk2_7, ck2_7, fk2_7, rk2_7⟩ := rk2_6.head
  obtain ⟨zk2_8, ck2_8, fk2_8, rk2_8⟩ := rk2_7.head
  obtain ⟨zk2_9, ck2_9, fk2_9, rk2_9⟩ := rk2_8.head
  obtain ⟨zk2_10, ck2_10, fk2_10, rk2_10⟩ := rk2_9.head
  obtain ⟨zk2_11, ck2_11, fk2_11, rk2_11⟩ := rk2_10.head
  go_wp2_with fail
  refine (HandRef.welcome_opening_no _ _ _ _ h0 h1 h2 hqp).mono ?_
  rintro e kw3 ⟨rfl, hb⟩
  have k3 := k2.call hb
  clear hb
  clear zk2_0 ck2_0 fk2_0 rk2_0 zk2_1 ck2_1 fk2_1 rk2_1 zk2_2 ck2_2 fk2_2 rk2_2 zk2_3 ck2_3 fk2_3 rk2_3 zk2_4 ck2_4 fk2_4 rk2_4 zk2_5 ck2_5 fk2_5 rk2_5 zk2_6 ck2_6 fk2_6 rk2_6 zk2_7 ck2_7 fk2_7 rk2_7 zk2_8 ck2_8 fk2_8 rk2_8 zk2_9 ck2_9 fk2_9 rk2_9 zk2_10 ck2_10 fk2_10 rk2_10 zk2_11 ck2_11 fk2_11 rk2_11
  clear k2
  obtain ⟨zk3_0, ck3_0, fk3_0, rk3_0⟩ := k3.head
  obtain ⟨zk3_1, ck3_1, fk3_1, rk3_1⟩ := rk3_0.head
  obtain ⟨zk3_2, ck3_2, fk3_2, rk3_2⟩ := rk3_1.head
  obtain ⟨zk3_3, ck3_3, fk3_3, rk3_3⟩ := rk3_2.head
  obtain ⟨zk3_4, ck3_4, fk3_4, rk3_4⟩ := rk3_3.head
  obtain ⟨zk3_5, ck3_5, fk3_5, rk3_5⟩ := rk3_4.head
  obtain ⟨zk3_6, ck3_6, fk3_6, rk3_6⟩ := rk3_5.head
  obtain ⟨zk3_7, ck3_7, fk3_7, rk3_7⟩ := rk3_6.head
  obtain ⟨zk3_8, ck3_8, fk3_8, rk3_8⟩ := rk3_7.head
  obtain ⟨zk3_9, ck3_9, fk3_9, rk3_9⟩ := rk3_8.head
  obtain ⟨zk3_10, ck3_10, fk3_10, rk3_10⟩ := rk3_9.head
  obtain ⟨zk3_11, ck3_11, fk3_11, rk3_11⟩ := rk3_10.head
  unfold HandW2 HandV
  go_wp2_with fail
  refine (rlimit_any _ _).mono ?_
  rintro e kw4 ⟨rfl, rfl⟩
  have k4 := (k3.at4 (kw3.heap.size) (by simp) 67 (.int .i64 (l)) (.int .i64 (0)) (.int .i64 (p)) (.bool false))
  clear zk3_0 ck3_0 fk3_0 rk3_0 zk3_1 ck3_1 fk3_1 rk3_1 zk3_2 ck3_2 fk3_2 rk3_2 zk3_3 ck3_3 fk3_3 rk3_3 zk3_4 ck3_4 fk3_4 rk3_4 zk3_5 ck3_5 fk3_5 rk3_5 zk3_6 ck3_6 fk3_6 rk3_6 zk3_7 ck3_7 fk3_7 rk3_7 zk3_8 ck3_8 fk3_8 rk3_8 zk3_9 ck3_9 fk3_9 rk3_9 zk3_10 ck3_10 fk3_10 rk3_10 zk3_11 ck3_11 fk3_11 rk3_11
  clear k3
  obtain ⟨zk4_0, ck4_0, fk4_0, rk4_0⟩ := k4.head
  obtain ⟨zk4_1, ck4_1, fk4_1, rk4_1⟩ := rk4_0.head
  obtain ⟨zk4_2, ck4_2, fk4_2, rk4_2⟩ := rk4_1.head
  obtain ⟨zk4_3, ck4_3, fk4_3, rk4_3⟩ := rk4_2.head
  obtain ⟨zk4_4, ck4_4, fk4_4, rk4_4⟩ := rk4_3.head
  obtain ⟨zk4_5, ck4_5, fk4_5, rk4_5⟩ := rk4_4.head
  obtain ⟨zk4_6, ck4_6, fk4_6, rk4_6⟩ := rk4_5.head
  obtain ⟨zk4_7, ck4_7, fk4_7, rk4_7⟩ := rk4_6.head
  obtain ⟨zk4_8, ck4_8, fk4_8, rk4_8⟩ := rk4_7.head
  obtain ⟨zk4_9, ck4_9, fk4_9, rk4_9⟩ := rk4_8.head
  obtain ⟨zk4_10, ck4_10, fk4_10, rk4_10⟩ := rk4_9.head
  obtain ⟨zk4_11, ck4_11, fk4_11, rk4_11⟩ := rk4_10.head
  obtain ⟨zk4_12, ck4_12, fk4_12, rk4_12⟩ := rk4_11.head
  obtain ⟨zk4_13, ck4_13, fk4_13, rk4_13⟩ := rk4_12.head
  obtain ⟨zk4_14, ck4_14, fk4_14, rk4_14⟩ := rk4_13.head
  obtain ⟨zk4_15, ck4_15, fk4_15, rk4_15⟩ := rk4_14.head
  go_wp2_with fail
  refine (HandRef.hello_opening_high _ _ _ _ _ h0 h1 h2 hq0 hq).mono ?_
  rintro e kw5 ⟨rfl, hb⟩
  have k5 := k4.call hb
  clear hb
  clear zk4_0 ck4_0 fk4_0 rk4_0 zk4_1 ck4_1 fk4_1 rk4_1 zk4_2 ck4_2 fk4_2 rk4_2 zk4_3 ck4_3 fk4_3 rk4_3 zk4_4 ck4_4 fk4_4 rk4_4 zk4_5 ck4_5 fk4_5 rk4_5 zk4_6 ck4_6 fk4_6 rk4_6 zk4_7 ck4_7 fk4_7 rk4_7 zk4_8 ck4_8 fk4_8 rk4_8 zk4_9 ck4_9 fk4_9 rk4_9 zk4_10 ck4_10 fk4_10 rk4_10 zk4_11 ck4_11 fk4_11 rk4_11 zk4_12 ck4_12 fk4_12 rk4_12 zk4_13 ck4_13 fk4_13 rk4_13 zk4_14 ck4_14 fk4_14 rk4_14 zk4_15 ck4_15 fk4_15 rk4_15
  clear k4
  obtain ⟨zk5_0, ck5_0, fk5_0, rk5_0⟩ := k5.head
  obtain ⟨zk5_1, ck5_1, fk5_1, rk5_1⟩ := rk5_0.head
  obtain ⟨zk5_2, ck5_2, fk5_2, rk5_2⟩ := rk5_1.head
  obtain ⟨zk5_3, ck5_3, fk5_3, rk5_3⟩ := rk5_2.head
  obtain ⟨zk5_4, ck5_4, fk5_4, rk5_4⟩ := rk5_3.head
  obtain ⟨zk5_5, ck5_5, fk5_5, rk5_5⟩ := rk5_4.head
  obtain ⟨zk5_6, ck5_6, fk5_6, rk5_6⟩ := rk5_5.head
  obtain ⟨zk5_7, ck5_7, fk5_7, rk5_7⟩ := rk5_6.head
  obtain ⟨zk5_8, ck5_8, fk5_8, rk5_8⟩ := rk5_7.head
  obtain ⟨zk5_9, ck5_9, fk5_9, rk5_9⟩ := rk5_8.head
  obtain ⟨zk5_10, ck5_10, fk5_10, rk5_10⟩ := rk5_9.head
  obtain ⟨zk5_11, ck5_11, fk5_11, rk5_11⟩ := rk5_10.head
  obtain ⟨zk5_12, ck5_12, fk5_12, rk5_12⟩ := rk5_11.head
  obtain ⟨zk5_13, ck5_13, fk5_13, rk5_13⟩ := rk5_12.head
  obtain ⟨zk5_14, ck5_14, fk5_14, rk5_14⟩ := rk5_13.head
  obtain ⟨zk5_15, ck5_15, fk5_15, rk5_15⟩ := rk5_14.head
  unfold HandQ3 HandV
  go_wp2_with fail
  refine (awake_any _).mono ?_
  rintro e kw6 ⟨rfl, hb⟩
  have k6 := (k5.at4 (kw5.heap.size) (by simp) 67 (.int .i64 (l)) (.int .i64 (0)) (.int .i64 (p)) (.bool false)).call hb
  clear hb
  clear zk5_0 ck5_0 fk5_0 rk5_0 zk5_1 ck5_1 fk5_1 rk5_1 zk5_2 ck5_2 fk5_2 rk5_2 zk5_3 ck5_3 fk5_3 rk5_3 zk5_4 ck5_4 fk5_4 rk5_4 zk5_5 ck5_5 fk5_5 rk5_5 zk5_6 ck5_6 fk5_6 rk5_6 zk5_7 ck5_7 fk5_7 rk5_7 zk5_8 ck5_8 fk5_8 rk5_8 zk5_9 ck5_9 fk5_9 rk5_9 zk5_10 ck5_10 fk5_10 rk5_10 zk5_11 ck5_11 fk5_11 rk5_11 zk5_12 ck5_12 fk5_12 rk5_12 zk5_13 ck5_13 fk5_13 rk5_13 zk5_14 ck5_14 fk5_14 rk5_14 zk5_15 ck5_15 fk5_15 rk5_15
  clear k5
  obtain ⟨zk6_0, ck6_0, fk6_0, rk6_0⟩ := k6.head
  obtain ⟨zk6_1, ck6_1, fk6_1, rk6_1⟩ := rk6_0.head
  obtain ⟨zk6_2, ck6_2, fk6_2, rk6_2⟩ := rk6_1.head
  obtain ⟨zk6_3, ck6_3, fk6_3, rk6_3⟩ := rk6_2.head
  obtain ⟨zk6_4, ck6_4, fk6_4, rk6_4⟩ := rk6_3.head
  obtain ⟨zk6_5, ck6_5, fk6_5, rk6_5⟩ := rk6_4.head
  obtain ⟨zk6_6, ck6_6, fk6_6, rk6_6⟩ := rk6_5.head
  obtain ⟨zk6_7, ck6_7, fk6_7, rk6_7⟩ := rk6_6.head
  obtain ⟨zk6_8, ck6_8, fk6_8, rk6_8⟩ := rk6_7.head
  obtain ⟨zk6_9, ck6_9, fk6_9, rk6_9⟩ := rk6_8.head
  obtain ⟨zk6_10, ck6_10, fk6_10, rk6_10⟩ := rk6_9.head
  obtain ⟨zk6_11, ck6_11, fk6_11, rk6_11⟩ := rk6_10.head
  obtain ⟨zk6_12, ck6_12, fk6_12, rk6_12⟩ := rk6_11.head
  obtain ⟨zk6_13, ck6_13, fk6_13, rk6_13⟩ := rk6_12.head
  obtain ⟨zk6_14, ck6_14, fk6_14, rk6_14⟩ := rk6_13.head
  obtain ⟨zk6_15, ck6_15, fk6_15, rk6_15⟩ := rk6_14.head
  obtain ⟨zk6_16, ck6_16, fk6_16, rk6_16⟩ := rk6_15.head
  obtain ⟨zk6_17, ck6_17, fk6_17, rk6_17⟩ := rk6_16.head
  obtain ⟨zk6_18, ck6_18, fk6_18, rk6_18⟩ := rk6_17.head
  obtain ⟨zk6_19, ck6_19, fk6_19, rk6_19⟩ := rk6_18.head
  go_wp2_with fail
  go_ret
  exact ⟨rfl, k6.1⟩
set_option maxRecDepth 100000 in
set_option maxHeartbeats 1000000 in
theorem walk_opening_more (l p q n : Int) (w : World) (h0 : 0 ≤ l) (h1 : l < p) (h2 : p ≤ 2147483647) (hm : mayH l 0 p false = true) (hqp : q ≠ p) (hn : limitB n = true) (hq0 : 1 ≤ q) (hq1 : q ≤ n) (hq : p < q) : Calls Try.prog 13 #[.agg #[.int .i64 (l), .int .i64 (0), .int .i64 (p), .bool false], .int .i64 q, .int .i64 n] w (Yes w) := by
  have HM := Law.hide hm; clear hm
  go_enter Try.func13, Try.ntmps13
  go_wp2_with fail
  refine (hello_opening_more _ _ _ _ _ h0 h1 h2 hn hq0 hq1 hq).mono ?_
  rintro e kw0 ⟨rfl, hb⟩
  have k0 := ((Held.start w).at4 (w.heap.size) (by simp) 67 (.int .i64 (l)) (.int .i64 (0)) (.int .i64 (p)) (.bool false)).call hb
  clear hb
  obtain ⟨zk0_0, ck0_0, fk0_0, rk0_0⟩ := k0.head
  obtain ⟨zk0_1, ck0_1, fk0_1, rk0_1⟩ := rk0_0.head
  obtain ⟨zk0_2, ck0_2, fk0_2, rk0_2⟩ := rk0_1.head
  obtain ⟨zk0_3, ck0_3, fk0_3, rk0_3⟩ := rk0_2.head
  unfold HandQ HandV
  go_wp2_with fail
  refine (welcome_opening_no _ _ _ _ h0 h1 h2 hqp).mono ?_
  rintro e kw1 ⟨rfl, hb⟩
  have k1 := (k0.at4 (kw0.heap.size) (by simp) 67 (.int .i64 (l)) (.int .i64 (0)) (.int .i64 (q)) (.bool false)).call hb
  clear hb
  clear zk0_0 ck0_0 fk0_0 rk0_0 zk0_1 ck0_1 fk0_1 rk0_1 zk0_2 ck0_2 fk0_2 rk0_2 zk0_3 ck0_3 fk0_3 rk0_3
  clear k0
  obtain ⟨zk1_0, ck1_0, fk1_0, rk1_0⟩ := k1.head
  obtain ⟨zk1_1, ck1_1, fk1_1, rk1_1⟩ := rk1_0.head
  obtain ⟨zk1_2, ck1_2, fk1_2, rk1_2⟩ := rk1_1.head
  obtain ⟨zk1_3, ck1_3, fk1_3, rk1_3⟩ := rk1_2.head
  obtain ⟨zk1_4, ck1_4, fk1_4, rk1_4⟩ := rk1_3.head
  obtain ⟨zk1_5, ck1_5, fk1_5, rk1_5⟩ := rk1_4.head
  obtain ⟨zk1_6, ck1_6, fk1_6, rk1_6⟩ := rk1_5.head
  obtain ⟨zk1_7, ck1_7, fk1_7, rk1_7⟩ := rk1_6.head
  unfold HandW HandV
  go_wp2_with fail
  refine (may_tt _ _ _ _ HM.out _).mono ?_
  rintro e kw2 ⟨rfl, hb⟩
  have k2 := (k1.at4 (kw1.heap.size) (by simp) 67 (.int .i64 (l)) (.int .i64 (0)) (.int .i64 (p)) (.bool false)).call hb
  clear hb
  clear zk1_0 ck1_0 fk1_0 rk1_0 zk1_1 ck1_1 fk1_1 rk1_1 zk1_2 ck1_2 fk1_2 rk1_2 zk1_3 ck1_3 fk1_3 rk1_3 zk1_4 ck1_4 fk1_4 rk1_4 zk1_5 ck1_5 fk1_5 rk1_5 zk1_6 ck1_6 fk1_6 rk1_6 zk1_7 ck1_7 fk1_7 rk1_7
  clear k1
  obtain ⟨zk2_0, ck2_0, fk2_0, rk2_0⟩ := k2.head
  obtain ⟨zk2_1, ck2_1, fk2_1, rk2_1⟩ := rk2_0.head
  obtain ⟨zk2_2, ck2_2, fk2_2, rk2_2⟩ := rk2_1.head
  obtain ⟨zk2_3, ck2_3, fk2_3, rk2_3⟩ := rk2_2.head
  obtain ⟨zk2_4, ck2_4, fk2_4, rk2_4⟩ := rk2_3.head
  obtain ⟨zk2_5, ck2_5, fk2_5, rk2_5⟩ := rk2_4.head
  obtain ⟨zk2_6, ck2_6, fk2_6, rk2_6⟩ := rk2_5.head
  obtain ⟨zk2_7, ck2_7, fk2_7, rk2_7⟩ := rk2_6.head
  obtain ⟨zk2_8, ck2_8, fk2_8, rk2_8⟩ := rk2_7.head
  obtain ⟨zk2_9, ck2_9, fk2_9, rk2_9⟩ := rk2_8.head
  obtain ⟨zk2_10, ck2_10, fk2_10, rk2_10⟩ := rk2_9.head
  obtain ⟨zk2_11, ck2_11, fk2_11, rk2_11⟩ := rk2_10.head
  go_wp2_with fail
  refine (HandRef.welcome_opening_no _ _ _ _ h0 h1 h2 hqp).mono ?_
  rintro e kw3 ⟨rfl, hb⟩
  have k3 := k2.call hb
  clear hb
  clear zk2_0 ck2_0 fk2_0 rk2_0 zk2_1 ck2_1 fk2_1 rk2_1 zk2_2 ck2_2 fk2_2 rk2_2 zk2_3 ck2_3 fk2_3 rk2_3 zk2_4 ck2_4 fk2_4 rk2_4 zk2_5 ck2_5 fk2_5 rk2_5 zk2_6 ck2_6 fk2_6 rk2_6 zk2_7 ck2_7 fk2_7 rk2_7 zk2_8 ck2_8 fk2_8 rk2_8 zk2_9 ck2_9 fk2_9 rk2_9 zk2_10 ck2_10 fk2_10 rk2_10 zk2_11 ck2_11 fk2_11 rk2_11
  clear k2
  obtain ⟨zk3_0, ck3_0, fk3_0, rk3_0⟩ := k3.head
  obtain ⟨zk3_1, ck3_1, fk3_1, rk3_1⟩ := rk3_0.head
  obtain ⟨zk3_2, ck3_2, fk3_2, rk3_2⟩ := rk3_1.head
  obtain ⟨zk3_3, ck3_3, fk3_3, rk3_3⟩ := rk3_2.head
  obtain ⟨zk3_4, ck3_4, fk3_4, rk3_4⟩ := rk3_3.head
  obtain ⟨zk3_5, ck3_5, fk3_5, rk3_5⟩ := rk3_4.head
  obtain ⟨zk3_6, ck3_6, fk3_6, rk3_6⟩ := rk3_5.head
  obtain ⟨zk3_7, ck3_7, fk3_7, rk3_7⟩ := rk3_6.head
  obtain ⟨zk3_8, ck3_8, fk3_8, rk3_8⟩ := rk3_7.head
  obtain ⟨zk3_9, ck3_9, fk3_9, rk3_9⟩ := rk3_8.head
  obtain ⟨zk3_10, ck3_10, fk3_10, rk3_10⟩ := rk3_9.head
  obtain ⟨zk3_11, ck3_11, fk3_11, rk3_11⟩ := rk3_10.head
  unfold HandW2 HandV
  go_wp2_with fail
  refine (rlimit_any _ _).mono ?_
  rintro e kw4 ⟨rfl, rfl⟩
  have k4 := (k3.at4 (kw3.heap.size) (by simp) 67 (.int .i64 (l)) (.int .i64 (0)) (.int .i64 (p)) (.bool false))
  clear zk3_0 ck3_0 fk3_0 rk3_0 zk3_1 ck3_1 fk3_1 rk3_1 zk3_2 ck3_2 fk3_2 rk3_2 zk3_3 ck3_3 fk3_3 rk3_3 zk3_4 ck3_4 fk3_4 rk3_4 zk3_5 ck3_5 fk3_5 rk3_5 zk3_6 ck3_6 fk3_6 rk3_6 zk3_7 ck3_7 fk3_7 rk3_7 zk3_8 ck3_8 fk3_8 rk3_8 zk3_9 ck3_9 fk3_9 rk3_9 zk3_10 ck3_10 fk3_10 rk3_10 zk3_11 ck3_11 fk3_11 rk3_11
  clear k3
  obtain ⟨zk4_0, ck4_0, fk4_0, rk4_0⟩ := k4.head
  obtain ⟨zk4_1, ck4_1, fk4_1, rk4_1⟩ := rk4_0.head
  obtain ⟨zk4_2, ck4_2, fk4_2, rk4_2⟩ := rk4_1.head
  obtain ⟨zk4_3, ck4_3, fk4_3, rk4_3⟩ := rk4_2.head
  obtain ⟨zk4_4, ck4_4, fk4_4, rk4_4⟩ := rk4_3.head
  obtain ⟨zk4_5, ck4_5, fk4_5, rk4_5⟩ := rk4_4.head
  obtain ⟨zk4_6, ck4_6, fk4_6, rk4_6⟩ := rk4_5.head
  obtain ⟨zk4_7, ck4_7, fk4_7, rk4_7⟩ := rk4_6.head
  obtain ⟨zk4_8, ck4_8, fk4_8, rk4_8⟩ := rk4_7.head
  obtain ⟨zk4_9, ck4_9, fk4_9, rk4_9⟩ := rk4_8.head
  obtain ⟨zk4_10, ck4_10, fk4_10, rk4_10⟩ := rk4_9.head
  obtain ⟨zk4_11, ck4_11, fk4_11, rk4_11⟩ := rk4_10.head
  obtain ⟨zk4_12, ck4_12, fk4_12, rk4_12⟩ := rk4_11.head
  obtain ⟨zk4_13, ck4_13, fk4_13, rk4_13⟩ := rk4_12.head
  obtain ⟨zk4_14, ck4_14, fk4_14, rk4_14⟩ := rk4_13.head
  obtain ⟨zk4_15, ck4_15, fk4_15, rk4_15⟩ := rk4_14.head
  go_wp2_with fail
  refine (HandRef.hello_opening_more _ _ _ _ _ h0 h1 h2 hq0 hq1 hq).mono ?_
  rintro e kw5 ⟨rfl, hb⟩
  have k5 := k4.call hb
  clear hb
  clear zk4_0 ck4_0 fk4_0 rk4_0 zk4_1 ck4_1 fk4_1 rk4_1 zk4_2 ck4_2 fk4_2 rk4_2 zk4_3 ck4_3 fk4_3 rk4_3 zk4_4 ck4_4 fk4_4 rk4_4 zk4_5 ck4_5 fk4_5 rk4_5 zk4_6 ck4_6 fk4_6 rk4_6 zk4_7 ck4_7 fk4_7 rk4_7 zk4_8 ck4_8 fk4_8 rk4_8 zk4_9 ck4_9 fk4_9 rk4_9 zk4_10 ck4_10 fk4_10 rk4_10 zk4_11 ck4_11 fk4_11 rk4_11 zk4_12 ck4_12 fk4_12 rk4_12 zk4_13 ck4_13 fk4_13 rk4_13 zk4_14 ck4_14 fk4_14 rk4_14 zk4_15 ck4_15 fk4_15 rk4_15
  clear k4
  obtain ⟨zk5_0, ck5_0, fk5_0, rk5_0⟩ := k5.head
  obtain ⟨zk5_1, ck5_1, fk5_1, rk5_1⟩ := rk5_0.head
  obtain ⟨zk5_2, ck5_2, fk5_2, rk5_2⟩ := rk5_1.head
  obtain ⟨zk5_3, ck5_3, fk5_3, rk5_3⟩ := rk5_2.head
  obtain ⟨zk5_4, ck5_4, fk5_4, rk5_4⟩ := rk5_3.head
  obtain ⟨zk5_5, ck5_5, fk5_5, rk5_5⟩ := rk5_4.head
  obtain ⟨zk5_6, ck5_6, fk5_6, rk5_6⟩ := rk5_5.head
  obtain ⟨zk5_7, ck5_7, fk5_7, rk5_7⟩ := rk5_6.head
  obtain ⟨zk5_8, ck5_8, fk5_8, rk5_8⟩ := rk5_7.head
  obtain ⟨zk5_9, ck5_9, fk5_9, rk5_9⟩ := rk5_8.head
  obtain ⟨zk5_10, ck5_10, fk5_10, rk5_10⟩ := rk5_9.head
  obtain ⟨zk5_11, ck5_11, fk5_11, rk5_11⟩ := rk5_10.head
  obtain ⟨zk5_12, ck5_12, fk5_12, rk5_12⟩ := rk5_11.head
  obtain ⟨zk5_13, ck5_13, fk5_13, rk5_13⟩ := rk5_12.head
  obtain ⟨zk5_14, ck5_14, fk5_14, rk5_14⟩ := rk5_13.head
  obtain ⟨zk5_15, ck5_15, fk5_15, rk5_15⟩ := rk5_14.head
  unfold HandQ3 HandV
  go_wp2_with fail
  refine (awake_any _).mono ?_
  rintro e kw6 ⟨rfl, hb⟩
  have k6 := (k5.at4 (kw5.heap.size) (by simp) 67 (.int .i64 (l)) (.int .i64 (0)) (.int .i64 (q)) (.bool false)).call hb
  clear hb
  clear zk5_0 ck5_0 fk5_0 rk5_0 zk5_1 ck5_1 fk5_1 rk5_1 zk5_2 ck5_2 fk5_2 rk5_2 zk5_3 ck5_3 fk5_3 rk5_3 zk5_4 ck5_4 fk5_4 rk5_4 zk5_5 ck5_5 fk5_5 rk5_5 zk5_6 ck5_6 fk5_6 rk5_6 zk5_7 ck5_7 fk5_7 rk5_7 zk5_8 ck5_8 fk5_8 rk5_8 zk5_9 ck5_9 fk5_9 rk5_9 zk5_10 ck5_10 fk5_10 rk5_10 zk5_11 ck5_11 fk5_11 rk5_11 zk5_12 ck5_12 fk5_12 rk5_12 zk5_13 ck5_13 fk5_13 rk5_13 zk5_14 ck5_14 fk5_14 rk5_14 zk5_15 ck5_15 fk5_15 rk5_15
  clear k5
  obtain ⟨zk6_0, ck6_0, fk6_0, rk6_0⟩ := k6.head
  obtain ⟨zk6_1, ck6_1, fk6_1, rk6_1⟩ := rk6_0.head
  obtain ⟨zk6_2, ck6_2, fk6_2, rk6_2⟩ := rk6_1.head
  obtain ⟨zk6_3, ck6_3, fk6_3, rk6_3⟩ := rk6_2.head
  obtain ⟨zk6_4, ck6_4, fk6_4, rk6_4⟩ := rk6_3.head
  obtain ⟨zk6_5, ck6_5, fk6_5, rk6_5⟩ := rk6_4.head
  obtain ⟨zk6_6, ck6_6, fk6_6, rk6_6⟩ := rk6_5.head
  obtain ⟨zk6_7, ck6_7, fk6_7, rk6_7⟩ := rk6_6.head
  obtain ⟨zk6_8, ck6_8, fk6_8, rk6_8⟩ := rk6_7.head
  obtain ⟨zk6_9, ck6_9, fk6_9, rk6_9⟩ := rk6_8.head
  obtain ⟨zk6_10, ck6_10, fk6_10, rk6_10⟩ := rk6_9.head
  obtain ⟨zk6_11, ck6_11, fk6_11, rk6_11⟩ := rk6_10.head
  obtain ⟨zk6_12, ck6_12, fk6_12, rk6_12⟩ := rk6_11.head
  obtain ⟨zk6_13, ck6_13, fk6_13, rk6_13⟩ := rk6_12.head
  obtain ⟨zk6_14, ck6_14, fk6_14, rk6_14⟩ := rk6_13.head
  obtain ⟨zk6_15, ck6_15, fk6_15, rk6_15⟩ := rk6_14.head
  obtain ⟨zk6_16, ck6_16, fk6_16, rk6_16⟩ := rk6_15.head
  obtain ⟨zk6_17, ck6_17, fk6_17, rk6_17⟩ := rk6_16.head
  obtain ⟨zk6_18, ck6_18, fk6_18, rk6_18⟩ := rk6_17.head
  obtain ⟨zk6_19, ck6_19, fk6_19, rk6_19⟩ := rk6_18.head
  go_wp2_with fail
  go_ret
  exact ⟨rfl, k6.1⟩
set_option maxRecDepth 100000 in
set_option maxHeartbeats 1000000 in
theorem walk_opening_less (l p q n : Int) (w : World) (h0 : 0 ≤ l) (h1 : l < p) (h2 : p ≤ 2147483647) (hm : mayH l 0 p false = true) (hqp : q ≠ p) (hn : limitB n = true) (hq0 : 1 ≤ q) (hq1 : q ≤ n) (hq : q < p) : Calls Try.prog 13 #[.agg #[.int .i64 (l), .int .i64 (0), .int .i64 (p), .bool false], .int .i64 q, .int .i64 n] w (Yes w) := by
  have HM := Law.hide hm; clear hm
  go_enter Try.func13, Try.ntmps13
  go_wp2_with fail
  refine (hello_opening_less _ _ _ _ _ h0 h1 h2 hn hq0 hq1 hq).mono ?_
  rintro e kw0 ⟨rfl, hb⟩
  have k0 := ((Held.start w).at4 (w.heap.size) (by simp) 67 (.int .i64 (l)) (.int .i64 (0)) (.int .i64 (p)) (.bool false)).call hb
  clear hb
  obtain ⟨zk0_0, ck0_0, fk0_0, rk0_0⟩ := k0.head
  obtain ⟨zk0_1, ck0_1, fk0_1, rk0_1⟩ := rk0_0.head
  obtain ⟨zk0_2, ck0_2, fk0_2, rk0_2⟩ := rk0_1.head
  obtain ⟨zk0_3, ck0_3, fk0_3, rk0_3⟩ := rk0_2.head
  unfold HandQ HandV
  go_wp2_with fail
  refine (welcome_opening_no _ _ _ _ h0 h1 h2 hqp).mono ?_
  rintro e kw1 ⟨rfl, hb⟩
  have k1 := (k0.at4 (kw0.heap.size) (by simp) 67 (.int .i64 (l)) (.int .i64 (0)) (.int .i64 (p)) (.bool false)).call hb
  clear hb
  clear zk0_0 ck0_0 fk0_0 rk0_0 zk0_1 ck0_1 fk0_1 rk0_1 zk0_2 ck0_2 fk0_2 rk0_2 zk0_3 ck0_3 fk0_3 rk0_3
  clear k0
  obtain ⟨zk1_0, ck1_0, fk1_0, rk1_0⟩ := k1.head
  obtain ⟨zk1_1, ck1_1, fk1_1, rk1_1⟩ := rk1_0.head
  obtain ⟨zk1_2, ck1_2, fk1_2, rk1_2⟩ := rk1_1.head
  obtain ⟨zk1_3, ck1_3, fk1_3, rk1_3⟩ := rk1_2.head
  obtain ⟨zk1_4, ck1_4, fk1_4, rk1_4⟩ := rk1_3.head
  obtain ⟨zk1_5, ck1_5, fk1_5, rk1_5⟩ := rk1_4.head
  obtain ⟨zk1_6, ck1_6, fk1_6, rk1_6⟩ := rk1_5.head
  obtain ⟨zk1_7, ck1_7, fk1_7, rk1_7⟩ := rk1_6.head
  unfold HandW HandV
  go_wp2_with fail
  refine (may_tt _ _ _ _ HM.out _).mono ?_
  rintro e kw2 ⟨rfl, hb⟩
  have k2 := (k1.at4 (kw1.heap.size) (by simp) 67 (.int .i64 (l)) (.int .i64 (0)) (.int .i64 (p)) (.bool false)).call hb
  clear hb
  clear zk1_0 ck1_0 fk1_0 rk1_0 zk1_1 ck1_1 fk1_1 rk1_1 zk1_2 ck1_2 fk1_2 rk1_2 zk1_3 ck1_3 fk1_3 rk1_3 zk1_4 ck1_4 fk1_4 rk1_4 zk1_5 ck1_5 fk1_5 rk1_5 zk1_6 ck1_6 fk1_6 rk1_6 zk1_7 ck1_7 fk1_7 rk1_7
  clear k1
  obtain ⟨zk2_0, ck2_0, fk2_0, rk2_0⟩ := k2.head
  obtain ⟨zk2_1, ck2_1, fk2_1, rk2_1⟩ := rk2_0.head
  obtain ⟨zk2_2, ck2_2, fk2_2, rk2_2⟩ := rk2_1.head
  obtain ⟨zk2_3, ck2_3, fk2_3, rk2_3⟩ := rk2_2.head
  obtain ⟨zk2_4, ck2_4, fk2_4, rk2_4⟩ := rk2_3.head
  obtain ⟨zk2_5, ck2_5, fk2_5, rk2_5⟩ := rk2_4.head
  obtain ⟨zk2_6, ck2_6, fk2_6, rk2_6⟩ := rk2_5.head
  obtain ⟨zk2_7, ck2_7, fk2_7, rk2_7⟩ := rk2_6.head
  obtain ⟨zk2_8, ck2_8, fk2_8, rk2_8⟩ := rk2_7.head
  obtain ⟨zk2_9, ck2_9, fk2_9, rk2_9⟩ := rk2_8.head
  obtain ⟨zk2_10, ck2_10, fk2_10, rk2_10⟩ := rk2_9.head
  obtain ⟨zk2_11, ck2_11, fk2_11, rk2_11⟩ := rk2_10.head
  go_wp2_with fail
  refine (HandRef.welcome_opening_no _ _ _ _ h0 h1 h2 hqp).mono ?_
  rintro e kw3 ⟨rfl, hb⟩
  have k3 := k2.call hb
  clear hb
  clear zk2_0 ck2_0 fk2_0 rk2_0 zk2_1 ck2_1 fk2_1 rk2_1 zk2_2 ck2_2 fk2_2 rk2_2 zk2_3 ck2_3 fk2_3 rk2_3 zk2_4 ck2_4 fk2_4 rk2_4 zk2_5 ck2_5 fk2_5 rk2_5 zk2_6 ck2_6 fk2_6 rk2_6 zk2_7 ck2_7 fk2_7 rk2_7 zk2_8 ck2_8 fk2_8 rk2_8 zk2_9 ck2_9 fk2_9 rk2_9 zk2_10 ck2_10 fk2_10 rk2_10 zk2_11 ck2_11 fk2_11 rk2_11
  clear k2
  obtain ⟨zk3_0, ck3_0, fk3_0, rk3_0⟩ := k3.head
  obtain ⟨zk3_1, ck3_1, fk3_1, rk3_1⟩ := rk3_0.head
  obtain ⟨zk3_2, ck3_2, fk3_2, rk3_2⟩ := rk3_1.head
  obtain ⟨zk3_3, ck3_3, fk3_3, rk3_3⟩ := rk3_2.head
  obtain ⟨zk3_4, ck3_4, fk3_4, rk3_4⟩ := rk3_3.head
  obtain ⟨zk3_5, ck3_5, fk3_5, rk3_5⟩ := rk3_4.head
  obtain ⟨zk3_6, ck3_6, fk3_6, rk3_6⟩ := rk3_5.head
  obtain ⟨zk3_7, ck3_7, fk3_7, rk3_7⟩ := rk3_6.head
  obtain ⟨zk3_8, ck3_8, fk3_8, rk3_8⟩ := rk3_7.head
  obtain ⟨zk3_9, ck3_9, fk3_9, rk3_9⟩ := rk3_8.head
  obtain ⟨zk3_10, ck3_10, fk3_10, rk3_10⟩ := rk3_9.head
  obtain ⟨zk3_11, ck3_11, fk3_11, rk3_11⟩ := rk3_10.head
  unfold HandW2 HandV
  go_wp2_with fail
  refine (rlimit_any _ _).mono ?_
  rintro e kw4 ⟨rfl, rfl⟩
  have k4 := (k3.at4 (kw3.heap.size) (by simp) 67 (.int .i64 (l)) (.int .i64 (0)) (.int .i64 (p)) (.bool false))
  clear zk3_0 ck3_0 fk3_0 rk3_0 zk3_1 ck3_1 fk3_1 rk3_1 zk3_2 ck3_2 fk3_2 rk3_2 zk3_3 ck3_3 fk3_3 rk3_3 zk3_4 ck3_4 fk3_4 rk3_4 zk3_5 ck3_5 fk3_5 rk3_5 zk3_6 ck3_6 fk3_6 rk3_6 zk3_7 ck3_7 fk3_7 rk3_7 zk3_8 ck3_8 fk3_8 rk3_8 zk3_9 ck3_9 fk3_9 rk3_9 zk3_10 ck3_10 fk3_10 rk3_10 zk3_11 ck3_11 fk3_11 rk3_11
  clear k3
  obtain ⟨zk4_0, ck4_0, fk4_0, rk4_0⟩ := k4.head
  obtain ⟨zk4_1, ck4_1, fk4_1, rk4_1⟩ := rk4_0.head
  obtain ⟨zk4_2, ck4_2, fk4_2, rk4_2⟩ := rk4_1.head
  obtain ⟨zk4_3, ck4_3, fk4_3, rk4_3⟩ := rk4_2.head
  obtain ⟨zk4_4, ck4_4, fk4_4, rk4_4⟩ := rk4_3.head
  obtain ⟨zk4_5, ck4_5, fk4_5, rk4_5⟩ := rk4_4.head
  obtain ⟨zk4_6, ck4_6, fk4_6, rk4_6⟩ := rk4_5.head
  obtain ⟨zk4_7, ck4_7, fk4_7, rk4_7⟩ := rk4_6.head
  obtain ⟨zk4_8, ck4_8, fk4_8, rk4_8⟩ := rk4_7.head
  obtain ⟨zk4_9, ck4_9, fk4_9, rk4_9⟩ := rk4_8.head
  obtain ⟨zk4_10, ck4_10, fk4_10, rk4_10⟩ := rk4_9.head
  obtain ⟨zk4_11, ck4_11, fk4_11, rk4_11⟩ := rk4_10.head
  obtain ⟨zk4_12, ck4_12, fk4_12, rk4_12⟩ := rk4_11.head
  obtain ⟨zk4_13, ck4_13, fk4_13, rk4_13⟩ := rk4_12.head
  obtain ⟨zk4_14, ck4_14, fk4_14, rk4_14⟩ := rk4_13.head
  obtain ⟨zk4_15, ck4_15, fk4_15, rk4_15⟩ := rk4_14.head
  go_wp2_with fail
  refine (HandRef.hello_opening_less _ _ _ _ _ h0 h1 h2 hq0 hq1 hq).mono ?_
  rintro e kw5 ⟨rfl, hb⟩
  have k5 := k4.call hb
  clear hb
  clear zk4_0 ck4_0 fk4_0 rk4_0 zk4_1 ck4_1 fk4_1 rk4_1 zk4_2 ck4_2 fk4_2 rk4_2 zk4_3 ck4_3 fk4_3 rk4_3 zk4_4 ck4_4 fk4_4 rk4_4 zk4_5 ck4_5 fk4_5 rk4_5 zk4_6 ck4_6 fk4_6 rk4_6 zk4_7 ck4_7 fk4_7 rk4_7 zk4_8 ck4_8 fk4_8 rk4_8 zk4_9 ck4_9 fk4_9 rk4_9 zk4_10 ck4_10 fk4_10 rk4_10 zk4_11 ck4_11 fk4_11 rk4_11 zk4_12 ck4_12 fk4_12 rk4_12 zk4_13 ck4_13 fk4_13 rk4_13 zk4_14 ck4_14 fk4_14 rk4_14 zk4_15 ck4_15 fk4_15 rk4_15
  clear k4
  obtain ⟨zk5_0, ck5_0, fk5_0, rk5_0⟩ := k5.head
  obtain ⟨zk5_1, ck5_1, fk5_1, rk5_1⟩ := rk5_0.head
  obtain ⟨zk5_2, ck5_2, fk5_2, rk5_2⟩ := rk5_1.head
  obtain ⟨zk5_3, ck5_3, fk5_3, rk5_3⟩ := rk5_2.head
  obtain ⟨zk5_4, ck5_4, fk5_4, rk5_4⟩ := rk5_3.head
  obtain ⟨zk5_5, ck5_5, fk5_5, rk5_5⟩ := rk5_4.head
  obtain ⟨zk5_6, ck5_6, fk5_6, rk5_6⟩ := rk5_5.head
  obtain ⟨zk5_7, ck5_7, fk5_7, rk5_7⟩ := rk5_6.head
  obtain ⟨zk5_8, ck5_8, fk5_8, rk5_8⟩ := rk5_7.head
  obtain ⟨zk5_9, ck5_9, fk5_9, rk5_9⟩ := rk5_8.head
  obtain ⟨zk5_10, ck5_10, fk5_10, rk5_10⟩ := rk5_9.head
  obtain ⟨zk5_11, ck5_11, fk5_11, rk5_11⟩ := rk5_10.head
  obtain ⟨zk5_12, ck5_12, fk5_12, rk5_12⟩ := rk5_11.head
  obtain ⟨zk5_13, ck5_13, fk5_13, rk5_13⟩ := rk5_12.head
  obtain ⟨zk5_14, ck5_14, fk5_14, rk5_14⟩ := rk5_13.head
  obtain ⟨zk5_15, ck5_15, fk5_15, rk5_15⟩ := rk5_14.head
  unfold HandQ3 HandV
  go_wp2_with fail
  refine (awake_any _).mono ?_
  rintro e kw6 ⟨rfl, hb⟩
  have k6 := (k5.at4 (kw5.heap.size) (by simp) 67 (.int .i64 (l)) (.int .i64 (0)) (.int .i64 (p)) (.bool false)).call hb
  clear hb
  clear zk5_0 ck5_0 fk5_0 rk5_0 zk5_1 ck5_1 fk5_1 rk5_1 zk5_2 ck5_2 fk5_2 rk5_2 zk5_3 ck5_3 fk5_3 rk5_3 zk5_4 ck5_4 fk5_4 rk5_4 zk5_5 ck5_5 fk5_5 rk5_5 zk5_6 ck5_6 fk5_6 rk5_6 zk5_7 ck5_7 fk5_7 rk5_7 zk5_8 ck5_8 fk5_8 rk5_8 zk5_9 ck5_9 fk5_9 rk5_9 zk5_10 ck5_10 fk5_10 rk5_10 zk5_11 ck5_11 fk5_11 rk5_11 zk5_12 ck5_12 fk5_12 rk5_12 zk5_13 ck5_13 fk5_13 rk5_13 zk5_14 ck5_14 fk5_14 rk5_14 zk5_15 ck5_15 fk5_15 rk5_15
  clear k5
  obtain ⟨zk6_0, ck6_0, fk6_0, rk6_0⟩ := k6.head
  obtain ⟨zk6_1, ck6_1, fk6_1, rk6_1⟩ := rk6_0.head
  obtain ⟨zk6_2, ck6_2, fk6_2, rk6_2⟩ := rk6_1.head
  obtain ⟨zk6_3, ck6_3, fk6_3, rk6_3⟩ := rk6_2.head
  obtain ⟨zk6_4, ck6_4, fk6_4, rk6_4⟩ := rk6_3.head
  obtain ⟨zk6_5, ck6_5, fk6_5, rk6_5⟩ := rk6_4.head
  obtain ⟨zk6_6, ck6_6, fk6_6, rk6_6⟩ := rk6_5.head
  obtain ⟨zk6_7, ck6_7, fk6_7, rk6_7⟩ := rk6_6.head
  obtain ⟨zk6_8, ck6_8, fk6_8, rk6_8⟩ := rk6_7.head
  obtain ⟨zk6_9, ck6_9, fk6_9, rk6_9⟩ := rk6_8.head
  obtain ⟨zk6_10, ck6_10, fk6_10, rk6_10⟩ := rk6_9.head
  obtain ⟨zk6_11, ck6_11, fk6_11, rk6_11⟩ := rk6_10.head
  obtain ⟨zk6_12, ck6_12, fk6_12, rk6_12⟩ := rk6_11.head
  obtain ⟨zk6_13, ck6_13, fk6_13, rk6_13⟩ := rk6_12.head
  obtain ⟨zk6_14, ck6_14, fk6_14, rk6_14⟩ := rk6_13.head
  obtain ⟨zk6_15, ck6_15, fk6_15, rk6_15⟩ := rk6_14.head
  obtain ⟨zk6_16, ck6_16, fk6_16, rk6_16⟩ := rk6_15.head
  obtain ⟨zk6_17, ck6_17, fk6_17, rk6_17⟩ := rk6_16.head
  obtain ⟨zk6_18, ck6_18, fk6_18, rk6_18⟩ := rk6_17.head
  obtain ⟨zk6_19, ck6_19, fk6_19, rk6_19⟩ := rk6_18.head
  go_wp2_with fail
  go_ret
  exact ⟨rfl, k6.1⟩
set_option maxRecDepth 100000 in
set_option maxHeartbeats 1000000 in
theorem walk_open_nolimit (l q n : Int) (w : World) (h0 : 1 ≤ l) (h1 : l ≤ 2147483647) (hm : mayH l l 0 false = true) (hn : limitB n = false) : Calls Try.prog 13 #[.agg #[.int .i64 (l), .int .i64 (l), .int .i64 (0), .bool false], .int .i64 q, .int .i64 n] w (Yes w) := by
  have HM := Law.hide hm; clear hm
  go_enter Try.func13, Try.ntmps13
  go_wp2_with fail
  refine (hello_nolimit _ _ _ _ _ _ _ HM.out hn).mono ?_
  rintro e kw0 ⟨rfl, hb⟩
  have k0 := ((Held.start w).at4 (w.heap.size) (by simp) 67 (.int .i64 (l)) (.int .i64 (l)) (.int .i64 (0)) (.bool false)).call hb
  clear hb
  obtain ⟨zk0_0, ck0_0, fk0_0, rk0_0⟩ := k0.head
  obtain ⟨zk0_1, ck0_1, fk0_1, rk0_1⟩ := rk0_0.head
  obtain ⟨zk0_2, ck0_2, fk0_2, rk0_2⟩ := rk0_1.head
  obtain ⟨zk0_3, ck0_3, fk0_3, rk0_3⟩ := rk0_2.head
  unfold HandQ HandV
  go_wp2_with fail
  refine (welcome_open _ _ _ h0 h1).mono ?_
  rintro e kw1 ⟨rfl, hb⟩
  have k1 := (k0.at4 (kw0.heap.size) (by simp) 67 (.int .i64 (0)) (.int .i64 (0)) (.int .i64 (0)) (.bool false)).call hb
  clear hb
  clear zk0_0 ck0_0 fk0_0 rk0_0 zk0_1 ck0_1 fk0_1 rk0_1 zk0_2 ck0_2 fk0_2 rk0_2 zk0_3 ck0_3 fk0_3 rk0_3
  clear k0
  obtain ⟨zk1_0, ck1_0, fk1_0, rk1_0⟩ := k1.head
  obtain ⟨zk1_1, ck1_1, fk1_1, rk1_1⟩ := rk1_0.head
  obtain ⟨zk1_2, ck1_2, fk1_2, rk1_2⟩ := rk1_1.head
  obtain ⟨zk1_3, ck1_3, fk1_3, rk1_3⟩ := rk1_2.head
  obtain ⟨zk1_4, ck1_4, fk1_4, rk1_4⟩ := rk1_3.head
  obtain ⟨zk1_5, ck1_5, fk1_5, rk1_5⟩ := rk1_4.head
  obtain ⟨zk1_6, ck1_6, fk1_6, rk1_6⟩ := rk1_5.head
  obtain ⟨zk1_7, ck1_7, fk1_7, rk1_7⟩ := rk1_6.head
  unfold HandW HandV
  go_wp2_with fail
  refine (may_tt _ _ _ _ HM.out _).mono ?_
  rintro e kw2 ⟨rfl, hb⟩
  have k2 := (k1.at4 (kw1.heap.size) (by simp) 67 (.int .i64 (l)) (.int .i64 (l)) (.int .i64 (0)) (.bool false)).call hb
  clear hb
  clear zk1_0 ck1_0 fk1_0 rk1_0 zk1_1 ck1_1 fk1_1 rk1_1 zk1_2 ck1_2 fk1_2 rk1_2 zk1_3 ck1_3 fk1_3 rk1_3 zk1_4 ck1_4 fk1_4 rk1_4 zk1_5 ck1_5 fk1_5 rk1_5 zk1_6 ck1_6 fk1_6 rk1_6 zk1_7 ck1_7 fk1_7 rk1_7
  clear k1
  obtain ⟨zk2_0, ck2_0, fk2_0, rk2_0⟩ := k2.head
  obtain ⟨zk2_1, ck2_1, fk2_1, rk2_1⟩ := rk2_0.head
  obtain ⟨zk2_2, ck2_2, fk2_2, rk2_2⟩ := rk2_1.head
  obtain ⟨zk2_3, ck2_3, fk2_3, rk2_3⟩ := rk2_2.head
  obtain ⟨zk2_4, ck2_4, fk2_4, rk2_4⟩ := rk2_3.head
  obtain ⟨zk2_5, ck2_5, fk2_5, rk2_5⟩ := rk2_4.head
  obtain ⟨zk2_6, ck2_6, fk2_6, rk2_6⟩ := rk2_5.head
  obtain ⟨zk2_7, ck2_7, fk2_7, rk2_7⟩ := rk2_6.head
  obtain ⟨zk2_8, ck2_8, fk2_8, rk2_8⟩ := rk2_7.head
  obtain ⟨zk2_9, ck2_9, fk2_9, rk2_9⟩ := rk2_8.head
  obtain ⟨zk2_10, ck2_10, fk2_10, rk2_10⟩ := rk2_9.head
  obtain ⟨zk2_11, ck2_11, fk2_11, rk2_11⟩ := rk2_10.head
  go_wp2_with fail
  refine (HandRef.welcome_open _ _ _ h0 h1).mono ?_
  rintro e kw3 ⟨rfl, hb⟩
  have k3 := k2.call hb
  clear hb
  clear zk2_0 ck2_0 fk2_0 rk2_0 zk2_1 ck2_1 fk2_1 rk2_1 zk2_2 ck2_2 fk2_2 rk2_2 zk2_3 ck2_3 fk2_3 rk2_3 zk2_4 ck2_4 fk2_4 rk2_4 zk2_5 ck2_5 fk2_5 rk2_5 zk2_6 ck2_6 fk2_6 rk2_6 zk2_7 ck2_7 fk2_7 rk2_7 zk2_8 ck2_8 fk2_8 rk2_8 zk2_9 ck2_9 fk2_9 rk2_9 zk2_10 ck2_10 fk2_10 rk2_10 zk2_11 ck2_11 fk2_11 rk2_11
  clear k2
  obtain ⟨zk3_0, ck3_0, fk3_0, rk3_0⟩ := k3.head
  obtain ⟨zk3_1, ck3_1, fk3_1, rk3_1⟩ := rk3_0.head
  obtain ⟨zk3_2, ck3_2, fk3_2, rk3_2⟩ := rk3_1.head
  obtain ⟨zk3_3, ck3_3, fk3_3, rk3_3⟩ := rk3_2.head
  obtain ⟨zk3_4, ck3_4, fk3_4, rk3_4⟩ := rk3_3.head
  obtain ⟨zk3_5, ck3_5, fk3_5, rk3_5⟩ := rk3_4.head
  obtain ⟨zk3_6, ck3_6, fk3_6, rk3_6⟩ := rk3_5.head
  obtain ⟨zk3_7, ck3_7, fk3_7, rk3_7⟩ := rk3_6.head
  obtain ⟨zk3_8, ck3_8, fk3_8, rk3_8⟩ := rk3_7.head
  obtain ⟨zk3_9, ck3_9, fk3_9, rk3_9⟩ := rk3_8.head
  obtain ⟨zk3_10, ck3_10, fk3_10, rk3_10⟩ := rk3_9.head
  obtain ⟨zk3_11, ck3_11, fk3_11, rk3_11⟩ := rk3_10.head
  unfold HandW2 HandV
  go_wp2_with fail
  refine (rlimit_any _ _).mono ?_
  rintro e kw4 ⟨rfl, rfl⟩
  have k4 := (k3.at4 (kw3.heap.size) (by simp) 67 (.int .i64 (l)) (.int .i64 (l)) (.int .i64 (0)) (.bool false))
  clear zk3_0 ck3_0 fk3_0 rk3_0 zk3_1 ck3_1 fk3_1 rk3_1 zk3_2 ck3_2 fk3_2 rk3_2 zk3_3 ck3_3 fk3_3 rk3_3 zk3_4 ck3_4 fk3_4 rk3_4 zk3_5 ck3_5 fk3_5 rk3_5 zk3_6 ck3_6 fk3_6 rk3_6 zk3_7 ck3_7 fk3_7 rk3_7 zk3_8 ck3_8 fk3_8 rk3_8 zk3_9 ck3_9 fk3_9 rk3_9 zk3_10 ck3_10 fk3_10 rk3_10 zk3_11 ck3_11 fk3_11 rk3_11
  clear k3
  obtain ⟨zk4_0, ck4_0, fk4_0, rk4_0⟩ := k4.head
  obtain ⟨zk4_1, ck4_1, fk4_1, rk4_1⟩ := rk4_0.head
  obtain ⟨zk4_2, ck4_2, fk4_2, rk4_2⟩ := rk4_1.head
  obtain ⟨zk4_3, ck4_3, fk4_3, rk4_3⟩ := rk4_2.head
  obtain ⟨zk4_4, ck4_4, fk4_4, rk4_4⟩ := rk4_3.head
  obtain ⟨zk4_5, ck4_5, fk4_5, rk4_5⟩ := rk4_4.head
  obtain ⟨zk4_6, ck4_6, fk4_6, rk4_6⟩ := rk4_5.head
  obtain ⟨zk4_7, ck4_7, fk4_7, rk4_7⟩ := rk4_6.head
  obtain ⟨zk4_8, ck4_8, fk4_8, rk4_8⟩ := rk4_7.head
  obtain ⟨zk4_9, ck4_9, fk4_9, rk4_9⟩ := rk4_8.head
  obtain ⟨zk4_10, ck4_10, fk4_10, rk4_10⟩ := rk4_9.head
  obtain ⟨zk4_11, ck4_11, fk4_11, rk4_11⟩ := rk4_10.head
  obtain ⟨zk4_12, ck4_12, fk4_12, rk4_12⟩ := rk4_11.head
  obtain ⟨zk4_13, ck4_13, fk4_13, rk4_13⟩ := rk4_12.head
  obtain ⟨zk4_14, ck4_14, fk4_14, rk4_14⟩ := rk4_13.head
  obtain ⟨zk4_15, ck4_15, fk4_15, rk4_15⟩ := rk4_14.head
  go_wp2_with fail
  refine (awake_any _).mono ?_
  rintro e kw5 ⟨rfl, hb⟩
  have k5 := k4.call hb
  clear hb
  clear zk4_0 ck4_0 fk4_0 rk4_0 zk4_1 ck4_1 fk4_1 rk4_1 zk4_2 ck4_2 fk4_2 rk4_2 zk4_3 ck4_3 fk4_3 rk4_3 zk4_4 ck4_4 fk4_4 rk4_4 zk4_5 ck4_5 fk4_5 rk4_5 zk4_6 ck4_6 fk4_6 rk4_6 zk4_7 ck4_7 fk4_7 rk4_7 zk4_8 ck4_8 fk4_8 rk4_8 zk4_9 ck4_9 fk4_9 rk4_9 zk4_10 ck4_10 fk4_10 rk4_10 zk4_11 ck4_11 fk4_11 rk4_11 zk4_12 ck4_12 fk4_12 rk4_12 zk4_13 ck4_13 fk4_13 rk4_13 zk4_14 ck4_14 fk4_14 rk4_14 zk4_15 ck4_15 fk4_15 rk4_15
  clear k4
  obtain ⟨zk5_0, ck5_0, fk5_0, rk5_0⟩ := k5.head
  obtain ⟨zk5_1, ck5_1, fk5_1, rk5_1⟩ := rk5_0.head
  obtain ⟨zk5_2, ck5_2, fk5_2, rk5_2⟩ := rk5_1.head
  obtain ⟨zk5_3, ck5_3, fk5_3, rk5_3⟩ := rk5_2.head
  obtain ⟨zk5_4, ck5_4, fk5_4, rk5_4⟩ := rk5_3.head
  obtain ⟨zk5_5, ck5_5, fk5_5, rk5_5⟩ := rk5_4.head
  obtain ⟨zk5_6, ck5_6, fk5_6, rk5_6⟩ := rk5_5.head
  obtain ⟨zk5_7, ck5_7, fk5_7, rk5_7⟩ := rk5_6.head
  obtain ⟨zk5_8, ck5_8, fk5_8, rk5_8⟩ := rk5_7.head
  obtain ⟨zk5_9, ck5_9, fk5_9, rk5_9⟩ := rk5_8.head
  obtain ⟨zk5_10, ck5_10, fk5_10, rk5_10⟩ := rk5_9.head
  obtain ⟨zk5_11, ck5_11, fk5_11, rk5_11⟩ := rk5_10.head
  obtain ⟨zk5_12, ck5_12, fk5_12, rk5_12⟩ := rk5_11.head
  obtain ⟨zk5_13, ck5_13, fk5_13, rk5_13⟩ := rk5_12.head
  obtain ⟨zk5_14, ck5_14, fk5_14, rk5_14⟩ := rk5_13.head
  obtain ⟨zk5_15, ck5_15, fk5_15, rk5_15⟩ := rk5_14.head
  go_wp2_with fail
  go_ret
  exact ⟨rfl, k5.1⟩
set_option maxRecDepth 100000 in
set_option maxHeartbeats 1000000 in
theorem walk_open_low (l q n : Int) (w : World) (h0 : 1 ≤ l) (h1 : l ≤ 2147483647) (hm : mayH l l 0 false = true) (hn : limitB n = true) (hq : q < 1) : Calls Try.prog 13 #[.agg #[.int .i64 (l), .int .i64 (l), .int .i64 (0), .bool false], .int .i64 q, .int .i64 n] w (Yes w) := by
  have HM := Law.hide hm; clear hm
  go_enter Try.func13, Try.ntmps13
  go_wp2_with fail
  refine (hello_open_low _ _ _ _ h0 h1 hn hq).mono ?_
  rintro e kw0 ⟨rfl, hb⟩
  have k0 := ((Held.start w).at4 (w.heap.size) (by simp) 67 (.int .i64 (l)) (.int .i64 (l)) (.int .i64 (0)) (.bool false)).call hb
  clear hb
  obtain ⟨zk0_0, ck0_0, fk0_0, rk0_0⟩ := k0.head
  obtain ⟨zk0_1, ck0_1, fk0_1, rk0_1⟩ := rk0_0.head
  obtain ⟨zk0_2, ck0_2, fk0_2, rk0_2⟩ := rk0_1.head
  obtain ⟨zk0_3, ck0_3, fk0_3, rk0_3⟩ := rk0_2.head
  unfold HandQ HandV
  go_wp2_with fail
  refine (welcome_open _ _ _ h0 h1).mono ?_
  rintro e kw1 ⟨rfl, hb⟩
  have k1 := (k0.at4 (kw0.heap.size) (by simp) 67 (.int .i64 (l)) (.int .i64 (l)) (.int .i64 (0)) (.bool false)).call hb
  clear hb
  clear zk0_0 ck0_0 fk0_0 rk0_0 zk0_1 ck0_1 fk0_1 rk0_1 zk0_2 ck0_2 fk0_2 rk0_2 zk0_3 ck0_3 fk0_3 rk0_3
  clear k0
  obtain ⟨zk1_0, ck1_0, fk1_0, rk1_0⟩ := k1.head
  obtain ⟨zk1_1, ck1_1, fk1_1, rk1_1⟩ := rk1_0.head
  obtain ⟨zk1_2, ck1_2, fk1_2, rk1_2⟩ := rk1_1.head
  obtain ⟨zk1_3, ck1_3, fk1_3, rk1_3⟩ := rk1_2.head
  obtain ⟨zk1_4, ck1_4, fk1_4, rk1_4⟩ := rk1_3.head
  obtain ⟨zk1_5, ck1_5, fk1_5, rk1_5⟩ := rk1_4.head
  obtain ⟨zk1_6, ck1_6, fk1_6, rk1_6⟩ := rk1_5.head
  obtain ⟨zk1_7, ck1_7, fk1_7, rk1_7⟩ := rk1_6.head
  unfold HandW HandV
  go_wp2_with fail
  refine (may_tt _ _ _ _ HM.out _).mono ?_
  rintro e kw2 ⟨rfl, hb⟩
  have k2 := (k1.at4 (kw1.heap.size) (by simp) 67 (.int .i64 (l)) (.int .i64 (l)) (.int .i64 (0)) (.bool false)).call hb
  clear hb
  clear zk1_0 ck1_0 fk1_0 rk1_0 zk1_1 ck1_1 fk1_1 rk1_1 zk1_2 ck1_2 fk1_2 rk1_2 zk1_3 ck1_3 fk1_3 rk1_3 zk1_4 ck1_4 fk1_4 rk1_4 zk1_5 ck1_5 fk1_5 rk1_5 zk1_6 ck1_6 fk1_6 rk1_6 zk1_7 ck1_7 fk1_7 rk1_7
  clear k1
  obtain ⟨zk2_0, ck2_0, fk2_0, rk2_0⟩ := k2.head
  obtain ⟨zk2_1, ck2_1, fk2_1, rk2_1⟩ := rk2_0.head
  obtain ⟨zk2_2, ck2_2, fk2_2, rk2_2⟩ := rk2_1.head
  obtain ⟨zk2_3, ck2_3, fk2_3, rk2_3⟩ := rk2_2.head
  obtain ⟨zk2_4, ck2_4, fk2_4, rk2_4⟩ := rk2_3.head
  obtain ⟨zk2_5, ck2_5, fk2_5, rk2_5⟩ := rk2_4.head
  obtain ⟨zk2_6, ck2_6, fk2_6, rk2_6⟩ := rk2_5.head
  obtain ⟨zk2_7, ck2_7, fk2_7, rk2_7⟩ := rk2_6.head
  obtain ⟨zk2_8, ck2_8, fk2_8, rk2_8⟩ := rk2_7.head
  obtain ⟨zk2_9, ck2_9, fk2_9, rk2_9⟩ := rk2_8.head
  obtain ⟨zk2_10, ck2_10, fk2_10, rk2_10⟩ := rk2_9.head
  obtain ⟨zk2_11, ck2_11, fk2_11, rk2_11⟩ := rk2_10.head
  go_wp2_with fail
  refine (HandRef.welcome_open _ _ _ h0 h1).mono ?_
  rintro e kw3 ⟨rfl, hb⟩
  have k3 := k2.call hb
  clear hb
  clear zk2_0 ck2_0 fk2_0 rk2_0 zk2_1 ck2_1 fk2_1 rk2_1 zk2_2 ck2_2 fk2_2 rk2_2 zk2_3 ck2_3 fk2_3 rk2_3 zk2_4 ck2_4 fk2_4 rk2_4 zk2_5 ck2_5 fk2_5 rk2_5 zk2_6 ck2_6 fk2_6 rk2_6 zk2_7 ck2_7 fk2_7 rk2_7 zk2_8 ck2_8 fk2_8 rk2_8 zk2_9 ck2_9 fk2_9 rk2_9 zk2_10 ck2_10 fk2_10 rk2_10 zk2_11 ck2_11 fk2_11 rk2_11
  clear k2
  obtain ⟨zk3_0, ck3_0, fk3_0, rk3_0⟩ := k3.head
  obtain ⟨zk3_1, ck3_1, fk3_1, rk3_1⟩ := rk3_0.head
  obtain ⟨zk3_2, ck3_2, fk3_2, rk3_2⟩ := rk3_1.head
  obtain ⟨zk3_3, ck3_3, fk3_3, rk3_3⟩ := rk3_2.head
  obtain ⟨zk3_4, ck3_4, fk3_4, rk3_4⟩ := rk3_3.head
  obtain ⟨zk3_5, ck3_5, fk3_5, rk3_5⟩ := rk3_4.head
  obtain ⟨zk3_6, ck3_6, fk3_6, rk3_6⟩ := rk3_5.head
  obtain ⟨zk3_7, ck3_7, fk3_7, rk3_7⟩ := rk3_6.head
  obtain ⟨zk3_8, ck3_8, fk3_8, rk3_8⟩ := rk3_7.head
  obtain ⟨zk3_9, ck3_9, fk3_9, rk3_9⟩ := rk3_8.head
  obtain ⟨zk3_10, ck3_10, fk3_10, rk3_10⟩ := rk3_9.head
  obtain ⟨zk3_11, ck3_11, fk3_11, rk3_11⟩ := rk3_10.head
  unfold HandW2 HandV
  go_wp2_with fail
  refine (rlimit_any _ _).mono ?_
  rintro e kw4 ⟨rfl, rfl⟩
  have k4 := (k3.at4 (kw3.heap.size) (by simp) 67 (.int .i64 (l)) (.int .i64 (l)) (.int .i64 (0)) (.bool false))
  clear zk3_0 ck3_0 fk3_0 rk3_0 zk3_1 ck3_1 fk3_1 rk3_1 zk3_2 ck3_2 fk3_2 rk3_2 zk3_3 ck3_3 fk3_3 rk3_3 zk3_4 ck3_4 fk3_4 rk3_4 zk3_5 ck3_5 fk3_5 rk3_5 zk3_6 ck3_6 fk3_6 rk3_6 zk3_7 ck3_7 fk3_7 rk3_7 zk3_8 ck3_8 fk3_8 rk3_8 zk3_9 ck3_9 fk3_9 rk3_9 zk3_10 ck3_10 fk3_10 rk3_10 zk3_11 ck3_11 fk3_11 rk3_11
  clear k3
  obtain ⟨zk4_0, ck4_0, fk4_0, rk4_0⟩ := k4.head
  obtain ⟨zk4_1, ck4_1, fk4_1, rk4_1⟩ := rk4_0.head
  obtain ⟨zk4_2, ck4_2, fk4_2, rk4_2⟩ := rk4_1.head
  obtain ⟨zk4_3, ck4_3, fk4_3, rk4_3⟩ := rk4_2.head
  obtain ⟨zk4_4, ck4_4, fk4_4, rk4_4⟩ := rk4_3.head
  obtain ⟨zk4_5, ck4_5, fk4_5, rk4_5⟩ := rk4_4.head
  obtain ⟨zk4_6, ck4_6, fk4_6, rk4_6⟩ := rk4_5.head
  obtain ⟨zk4_7, ck4_7, fk4_7, rk4_7⟩ := rk4_6.head
  obtain ⟨zk4_8, ck4_8, fk4_8, rk4_8⟩ := rk4_7.head
  obtain ⟨zk4_9, ck4_9, fk4_9, rk4_9⟩ := rk4_8.head
  obtain ⟨zk4_10, ck4_10, fk4_10, rk4_10⟩ := rk4_9.head
  obtain ⟨zk4_11, ck4_11, fk4_11, rk4_11⟩ := rk4_10.head
  obtain ⟨zk4_12, ck4_12, fk4_12, rk4_12⟩ := rk4_11.head
  obtain ⟨zk4_13, ck4_13, fk4_13, rk4_13⟩ := rk4_12.head
  obtain ⟨zk4_14, ck4_14, fk4_14, rk4_14⟩ := rk4_13.head
  obtain ⟨zk4_15, ck4_15, fk4_15, rk4_15⟩ := rk4_14.head
  go_wp2_with fail
  refine (HandRef.hello_open_low _ _ _ _ h0 h1 hq).mono ?_
  rintro e kw5 ⟨rfl, hb⟩
  have k5 := k4.call hb
  clear hb
  clear zk4_0 ck4_0 fk4_0 rk4_0 zk4_1 ck4_1 fk4_1 rk4_1 zk4_2 ck4_2 fk4_2 rk4_2 zk4_3 ck4_3 fk4_3 rk4_3 zk4_4 ck4_4 fk4_4 rk4_4 zk4_5 ck4_5 fk4_5 rk4_5 zk4_6 ck4_6 fk4_6 rk4_6 zk4_7 ck4_7 fk4_7 rk4_7 zk4_8 ck4_8 fk4_8 rk4_8 zk4_9 ck4_9 fk4_9 rk4_9 zk4_10 ck4_10 fk4_10 rk4_10 zk4_11 ck4_11 fk4_11 rk4_11 zk4_12 ck4_12 fk4_12 rk4_12 zk4_13 ck4_13 fk4_13 rk4_13 zk4_14 ck4_14 fk4_14 rk4_14 zk4_15 ck4_15 fk4_15 rk4_15
  clear k4
  obtain ⟨zk5_0, ck5_0, fk5_0, rk5_0⟩ := k5.head
  obtain ⟨zk5_1, ck5_1, fk5_1, rk5_1⟩ := rk5_0.head
  obtain ⟨zk5_2, ck5_2, fk5_2, rk5_2⟩ := rk5_1.head
  obtain ⟨zk5_3, ck5_3, fk5_3, rk5_3⟩ := rk5_2.head
  obtain ⟨zk5_4, ck5_4, fk5_4, rk5_4⟩ := rk5_3.head
  obtain ⟨zk5_5, ck5_5, fk5_5, rk5_5⟩ := rk5_4.head
  obtain ⟨zk5_6, ck5_6, fk5_6, rk5_6⟩ := rk5_5.head
  obtain ⟨zk5_7, ck5_7, fk5_7, rk5_7⟩ := rk5_6.head
  obtain ⟨zk5_8, ck5_8, fk5_8, rk5_8⟩ := rk5_7.head
  obtain ⟨zk5_9, ck5_9, fk5_9, rk5_9⟩ := rk5_8.head
  obtain ⟨zk5_10, ck5_10, fk5_10, rk5_10⟩ := rk5_9.head
  obtain ⟨zk5_11, ck5_11, fk5_11, rk5_11⟩ := rk5_10.head
  obtain ⟨zk5_12, ck5_12, fk5_12, rk5_12⟩ := rk5_11.head
  obtain ⟨zk5_13, ck5_13, fk5_13, rk5_13⟩ := rk5_12.head
  obtain ⟨zk5_14, ck5_14, fk5_14, rk5_14⟩ := rk5_13.head
  obtain ⟨zk5_15, ck5_15, fk5_15, rk5_15⟩ := rk5_14.head
  unfold HandQ3 HandV
  go_wp2_with fail
  refine (awake_any _).mono ?_
  rintro e kw6 ⟨rfl, hb⟩
  have k6 := (k5.at4 (kw5.heap.size) (by simp) 67 (.int .i64 (l)) (.int .i64 (l)) (.int .i64 (0)) (.bool false)).call hb
  clear hb
  clear zk5_0 ck5_0 fk5_0 rk5_0 zk5_1 ck5_1 fk5_1 rk5_1 zk5_2 ck5_2 fk5_2 rk5_2 zk5_3 ck5_3 fk5_3 rk5_3 zk5_4 ck5_4 fk5_4 rk5_4 zk5_5 ck5_5 fk5_5 rk5_5 zk5_6 ck5_6 fk5_6 rk5_6 zk5_7 ck5_7 fk5_7 rk5_7 zk5_8 ck5_8 fk5_8 rk5_8 zk5_9 ck5_9 fk5_9 rk5_9 zk5_10 ck5_10 fk5_10 rk5_10 zk5_11 ck5_11 fk5_11 rk5_11 zk5_12 ck5_12 fk5_12 rk5_12 zk5_13 ck5_13 fk5_13 rk5_13 zk5_14 ck5_14 fk5_14 rk5_14 zk5_15 ck5_15 fk5_15 rk5_15
  clear k5
  obtain ⟨zk6_0, ck6_0, fk6_0, rk6_0⟩ := k6.head
  obtain ⟨zk6_1, ck6_1, fk6_1, rk6_1⟩ := rk6_0.head
  obtain ⟨zk6_2, ck6_2, fk6_2, rk6_2⟩ := rk6_1.head
  obtain ⟨zk6_3, ck6_3, fk6_3, rk6_3⟩ := rk6_2.head
  obtain ⟨zk6_4, ck6_4, fk6_4, rk6_4⟩ := rk6_3.head
  obtain ⟨zk6_5, ck6_5, fk6_5, rk6_5⟩ := rk6_4.head
  obtain ⟨zk6_6, ck6_6, fk6_6, rk6_6⟩ := rk6_5.head
  obtain ⟨zk6_7, ck6_7, fk6_7, rk6_7⟩ := rk6_6.head
  obtain ⟨zk6_8, ck6_8, fk6_8, rk6_8⟩ := rk6_7.head
  obtain ⟨zk6_9, ck6_9, fk6_9, rk6_9⟩ := rk6_8.head
  obtain ⟨zk6_10, ck6_10, fk6_10, rk6_10⟩ := rk6_9.head
  obtain ⟨zk6_11, ck6_11, fk6_11, rk6_11⟩ := rk6_10.head
  obtain ⟨zk6_12, ck6_12, fk6_12, rk6_12⟩ := rk6_11.head
  obtain ⟨zk6_13, ck6_13, fk6_13, rk6_13⟩ := rk6_12.head
  obtain ⟨zk6_14, ck6_14, fk6_14, rk6_14⟩ := rk6_13.head
  obtain ⟨zk6_15, ck6_15, fk6_15, rk6_15⟩ := rk6_14.head
  obtain ⟨zk6_16, ck6_16, fk6_16, rk6_16⟩ := rk6_15.head
  obtain ⟨zk6_17, ck6_17, fk6_17, rk6_17⟩ := rk6_16.head
  obtain ⟨zk6_18, ck6_18, fk6_18, rk6_18⟩ := rk6_17.head
  obtain ⟨zk6_19, ck6_19, fk6_19, rk6_19⟩ := rk6_18.head
  go_wp2_with fail
  go_ret
  exact ⟨rfl, k6.1⟩
set_option maxRecDepth 100000 in
set_option maxHeartbeats 1000000 in
theorem walk_open_high (l q n : Int) (w : World) (h0 : 1 ≤ l) (h1 : l ≤ 2147483647) (hm : mayH l l 0 false = true) (hn : limitB n = true) (hq0 : 1 ≤ q) (hq : n < q) : Calls Try.prog 13 #[.agg #[.int .i64 (l), .int .i64 (l), .int .i64 (0), .bool false], .int .i64 q, .int .i64 n] w (Yes w) := by
  have HM := Law.hide hm; clear hm
  go_enter Try.func13, Try.ntmps13
  go_wp2_with fail
  refine (hello_open_high _ _ _ _ h0 h1 hn hq0 hq).mono ?_
  rintro e kw0 ⟨rfl, hb⟩
  have k0 := ((Held.start w).at4 (w.heap.size) (by simp) 67 (.int .i64 (l)) (.int .i64 (l)) (.int .i64 (0)) (.bool false)).call hb
  clear hb
  obtain ⟨zk0_0, ck0_0, fk0_0, rk0_0⟩ := k0.head
  obtain ⟨zk0_1, ck0_1, fk0_1, rk0_1⟩ := rk0_0.head
  obtain ⟨zk0_2, ck0_2, fk0_2, rk0_2⟩ := rk0_1.head
  obtain ⟨zk0_3, ck0_3, fk0_3, rk0_3⟩ := rk0_2.head
  unfold HandQ HandV
  go_wp2_with fail
  refine (welcome_open _ _ _ h0 h1).mono ?_
  rintro e kw1 ⟨rfl, hb⟩
  have k1 := (k0.at4 (kw0.heap.size) (by simp) 67 (.int .i64 (l)) (.int .i64 (l)) (.int .i64 (0)) (.bool false)).call hb
  clear hb
  clear zk0_0 ck0_0 fk0_0 rk0_0 zk0_1 ck0_1 fk0_1 rk0_1 zk0_2 ck0_2 fk0_2 rk0_2 zk0_3 ck0_3 fk0_3 rk0_3
  clear k0
  obtain ⟨zk1_0, ck1_0, fk1_0, rk1_0⟩ := k1.head
  obtain ⟨zk1_1, ck1_1, fk1_1, rk1_1⟩ := rk1_0.head
  obtain ⟨zk1_2, ck1_2, fk1_2, rk1_2⟩ := rk1_1.head
  obtain ⟨zk1_3, ck1_3, fk1_3, rk1_3⟩ := rk1_2.head
  obtain ⟨zk1_4, ck1_4, fk1_4, rk1_4⟩ := rk1_3.head
  obtain ⟨zk1_5, ck1_5, fk1_5, rk1_5⟩ := rk1_4.head
  obtain ⟨zk1_6, ck1_6, fk1_6, rk1_6⟩ := rk1_5.head
  obtain ⟨zk1_7, ck1_7, fk1_7, rk1_7⟩ := rk1_6.head
  unfold HandW HandV
  go_wp2_with fail
  refine (may_tt _ _ _ _ HM.out _).mono ?_
  rintro e kw2 ⟨rfl, hb⟩
  have k2 := (k1.at4 (kw1.heap.size) (by simp) 67 (.int .i64 (l)) (.int .i64 (l)) (.int .i64 (0)) (.bool false)).call hb
  clear hb
  clear zk1_0 ck1_0 fk1_0 rk1_0 zk1_1 ck1_1 fk1_1 rk1_1 zk1_2 ck1_2 fk1_2 rk1_2 zk1_3 ck1_3 fk1_3 rk1_3 zk1_4 ck1_4 fk1_4 rk1_4 zk1_5 ck1_5 fk1_5 rk1_5 zk1_6 ck1_6 fk1_6 rk1_6 zk1_7 ck1_7 fk1_7 rk1_7
  clear k1
  obtain ⟨zk2_0, ck2_0, fk2_0, rk2_0⟩ := k2.head
  obtain ⟨zk2_1, ck2_1, fk2_1, rk2_1⟩ := rk2_0.head
  obtain ⟨zk2_2, ck2_2, fk2_2, rk2_2⟩ := rk2_1.head
  obtain ⟨zk2_3, ck2_3, fk2_3, rk2_3⟩ := rk2_2.head
  obtain ⟨zk2_4, ck2_4, fk2_4, rk2_4⟩ := rk2_3.head
  obtain ⟨zk2_5, ck2_5, fk2_5, rk2_5⟩ := rk2_4.head
  obtain ⟨zk2_6, ck2_6, fk2_6, rk2_6⟩ := rk2_5.head
  obtain ⟨zk2_7, ck2_7, fk2_7, rk2_7⟩ := rk2_6.head
  obtain ⟨zk2_8, ck2_8, fk2_8, rk2_8⟩ := rk2_7.head
  obtain ⟨zk2_9, ck2_9, fk2_9, rk2_9⟩ := rk2_8.head
  obtain ⟨zk2_10, ck2_10, fk2_10, rk2_10⟩ := rk2_9.head
  obtain ⟨zk2_11, ck2_11, fk2_11, rk2_11⟩ := rk2_10.head
  go_wp2_with fail
  refine (HandRef.welcome_open _ _ _ h0 h1).mono ?_
  rintro e kw3 ⟨rfl, hb⟩
  have k3 := k2.call hb
  clear hb
  clear zk2_0 ck2_0 fk2_0 rk2_0 zk2_1 ck2_1 fk2_1 rk2_1 zk2_2 ck2_2 fk2_2 rk2_2 zk2_3 ck2_3 fk2_3 rk2_3 zk2_4 ck2_4 fk2_4 rk2_4 zk2_5 ck2_5 fk2_5 rk2_5 zk2_6 ck2_6 fk2_6 rk2_6 zk2_7 ck2_7 fk2_7 rk2_7 zk2_8 ck2_8 fk2_8 rk2_8 zk2_9 ck2_9 fk2_9 rk2_9 zk2_10 ck2_10 fk2_10 rk2_10 zk2_11 ck2_11 fk2_11 rk2_11
  clear k2
  obtain ⟨zk3_0, ck3_0, fk3_0, rk3_0⟩ := k3.head
  obtain ⟨zk3_1, ck3_1, fk3_1, rk3_1⟩ := rk3_0.head
  obtain ⟨zk3_2, ck3_2, fk3_2, rk3_2⟩ := rk3_1.head
  obtain ⟨zk3_3, ck3_3, fk3_3, rk3_3⟩ := rk3_2.head
  obtain ⟨zk3_4, ck3_4, fk3_4, rk3_4⟩ := rk3_3.head
  obtain ⟨zk3_5, ck3_5, fk3_5, rk3_5⟩ := rk3_4.head
  obtain ⟨zk3_6, ck3_6, fk3_6, rk3_6⟩ := rk3_5.head
  obtain ⟨zk3_7, ck3_7, fk3_7, rk3_7⟩ := rk3_6.head
  obtain ⟨zk3_8, ck3_8, fk3_8, rk3_8⟩ := rk3_7.head
  obtain ⟨zk3_9, ck3_9, fk3_9, rk3_9⟩ := rk3_8.head
  obtain ⟨zk3_10, ck3_10, fk3_10, rk3_10⟩ := rk3_9.head
  obtain ⟨zk3_11, ck3_11, fk3_11, rk3_11⟩ := rk3_10.head
  unfold HandW2 HandV
  go_wp2_with fail
  refine (rlimit_any _ _).mono ?_
  rintro e kw4 ⟨rfl, rfl⟩
  have k4 := (k3.at4 (kw3.heap.size) (by simp) 67 (.int .i64 (l)) (.int .i64 (l)) (.int .i64 (0)) (.bool false))
  clear zk3_0 ck3_0 fk3_0 rk3_0 zk3_1 ck3_1 fk3_1 rk3_1 zk3_2 ck3_2 fk3_2 rk3_2 zk3_3 ck3_3 fk3_3 rk3_3 zk3_4 ck3_4 fk3_4 rk3_4 zk3_5 ck3_5 fk3_5 rk3_5 zk3_6 ck3_6 fk3_6 rk3_6 zk3_7 ck3_7 fk3_7 rk3_7 zk3_8 ck3_8 fk3_8 rk3_8 zk3_9 ck3_9 fk3_9 rk3_9 zk3_10 ck3_10 fk3_10 rk3_10 zk3_11 ck3_11 fk3_11 rk3_11
  clear k3
  obtain ⟨zk4_0, ck4_0, fk4_0, rk4_0⟩ := k4.head
  obtain ⟨zk4_1, ck4_1, fk4_1, rk4_1⟩ := rk4_0.head
  obtain ⟨zk4_2, ck4_2, fk4_2, rk4_2⟩ := rk4_1.head
  obtain ⟨zk4_3, ck4_3, fk4_3, rk4_3⟩ := rk4_2.head
  obtain ⟨zk4_4, ck4_4, fk4_4, rk4_4⟩ := rk4_3.head
  obtain ⟨zk4_5, ck4_5, fk4_5, rk4_5⟩ := rk4_4.head
  obtain ⟨zk4_6, ck4_6, fk4_6, rk4_6⟩ := rk4_5.head
  obtain ⟨zk4_7, ck4_7, fk4_7, rk4_7⟩ := rk4_6.head
  obtain ⟨zk4_8, ck4_8, fk4_8, rk4_8⟩ := rk4_7.head
  obtain ⟨zk4_9, ck4_9, fk4_9, rk4_9⟩ := rk4_8.head
  obtain ⟨zk4_10, ck4_10, fk4_10, rk4_10⟩ := rk4_9.head
  obtain ⟨zk4_11, ck4_11, fk4_11, rk4_11⟩ := rk4_10.head
  obtain ⟨zk4_12, ck4_12, fk4_12, rk4_12⟩ := rk4_11.head
  obtain ⟨zk4_13, ck4_13, fk4_13, rk4_13⟩ := rk4_12.head
  obtain ⟨zk4_14, ck4_14, fk4_14, rk4_14⟩ := rk4_13.head
  obtain ⟨zk4_15, ck4_15, fk4_15, rk4_15⟩ := rk4_14.head
  go_wp2_with fail
  refine (HandRef.hello_open_high _ _ _ _ h0 h1 hq0 hq).mono ?_
  rintro e kw5 ⟨rfl, hb⟩
  have k5 := k4.call hb
  clear hb
  clear zk4_0 ck4_0 fk4_0 rk4_0 zk4_1 ck4_1 fk4_1 rk4_1 zk4_2 ck4_2 fk4_2 rk4_2 zk4_3 ck4_3 fk4_3 rk4_3 zk4_4 ck4_4 fk4_4 rk4_4 zk4_5 ck4_5 fk4_5 rk4_5 zk4_6 ck4_6 fk4_6 rk4_6 zk4_7 ck4_7 fk4_7 rk4_7 zk4_8 ck4_8 fk4_8 rk4_8 zk4_9 ck4_9 fk4_9 rk4_9 zk4_10 ck4_10 fk4_10 rk4_10 zk4_11 ck4_11 fk4_11 rk4_11 zk4_12 ck4_12 fk4_12 rk4_12 zk4_13 ck4_13 fk4_13 rk4_13 zk4_14 ck4_14 fk4_14 rk4_14 zk4_15 ck4_15 fk4_15 rk4_15
  clear k4
  obtain ⟨zk5_0, ck5_0, fk5_0, rk5_0⟩ := k5.head
  obtain ⟨zk5_1, ck5_1, fk5_1, rk5_1⟩ := rk5_0.head
  obtain ⟨zk5_2, ck5_2, fk5_2, rk5_2⟩ := rk5_1.head
  obtain ⟨zk5_3, ck5_3, fk5_3, rk5_3⟩ := rk5_2.head
  obtain ⟨zk5_4, ck5_4, fk5_4, rk5_4⟩ := rk5_3.head
  obtain ⟨zk5_5, ck5_5, fk5_5, rk5_5⟩ := rk5_4.head
  obtain ⟨zk5_6, ck5_6, fk5_6, rk5_6⟩ := rk5_5.head
  obtain ⟨zk5_7, ck5_7, fk5_7, rk5_7⟩ := rk5_6.head
  obtain ⟨zk5_8, ck5_8, fk5_8, rk5_8⟩ := rk5_7.head
  obtain ⟨zk5_9, ck5_9, fk5_9, rk5_9⟩ := rk5_8.head
  obtain ⟨zk5_10, ck5_10, fk5_10, rk5_10⟩ := rk5_9.head
  obtain ⟨zk5_11, ck5_11, fk5_11, rk5_11⟩ := rk5_10.head
  obtain ⟨zk5_12, ck5_12, fk5_12, rk5_12⟩ := rk5_11.head
  obtain ⟨zk5_13, ck5_13, fk5_13, rk5_13⟩ := rk5_12.head
  obtain ⟨zk5_14, ck5_14, fk5_14, rk5_14⟩ := rk5_13.head
  obtain ⟨zk5_15, ck5_15, fk5_15, rk5_15⟩ := rk5_14.head
  unfold HandQ3 HandV
  go_wp2_with fail
  refine (awake_any _).mono ?_
  rintro e kw6 ⟨rfl, hb⟩
  have k6 := (k5.at4 (kw5.heap.size) (by simp) 67 (.int .i64 (l)) (.int .i64 (l)) (.int .i64 (0)) (.bool false)).call hb
  clear hb
  clear zk5_0 ck5_0 fk5_0 rk5_0 zk5_1 ck5_1 fk5_1 rk5_1 zk5_2 ck5_2 fk5_2 rk5_2 zk5_3 ck5_3 fk5_3 rk5_3 zk5_4 ck5_4 fk5_4 rk5_4 zk5_5 ck5_5 fk5_5 rk5_5 zk5_6 ck5_6 fk5_6 rk5_6 zk5_7 ck5_7 fk5_7 rk5_7 zk5_8 ck5_8 fk5_8 rk5_8 zk5_9 ck5_9 fk5_9 rk5_9 zk5_10 ck5_10 fk5_10 rk5_10 zk5_11 ck5_11 fk5_11 rk5_11 zk5_12 ck5_12 fk5_12 rk5_12 zk5_13 ck5_13 fk5_13 rk5_13 zk5_14 ck5_14 fk5_14 rk5_14 zk5_15 ck5_15 fk5_15 rk5_15
  clear k5
  obtain ⟨zk6_0, ck6_0, fk6_0, rk6_0⟩ := k6.head
  obtain ⟨zk6_1, ck6_1, fk6_1, rk6_1⟩ := rk6_0.head
  obtain ⟨zk6_2, ck6_2, fk6_2, rk6_2⟩ := rk6_1.head
  obtain ⟨zk6_3, ck6_3, fk6_3, rk6_3⟩ := rk6_2.head
  obtain ⟨zk6_4, ck6_4, fk6_4, rk6_4⟩ := rk6_3.head
  obtain ⟨zk6_5, ck6_5, fk6_5, rk6_5⟩ := rk6_4.head
  obtain ⟨zk6_6, ck6_6, fk6_6, rk6_6⟩ := rk6_5.head
  obtain ⟨zk6_7, ck6_7, fk6_7, rk6_7⟩ := rk6_6.head
  obtain ⟨zk6_8, ck6_8, fk6_8, rk6_8⟩ := rk6_7.head
  obtain ⟨zk6_9, ck6_9, fk6_9, rk6_9⟩ := rk6_8.head
  obtain ⟨zk6_10, ck6_10, fk6_10, rk6_10⟩ := rk6_9.head
  obtain ⟨zk6_11, ck6_11, fk6_11, rk6_11⟩ := rk6_10.head
  obtain ⟨zk6_12, ck6_12, fk6_12, rk6_12⟩ := rk6_11.head
  obtain ⟨zk6_13, ck6_13, fk6_13, rk6_13⟩ := rk6_12.head
  obtain ⟨zk6_14, ck6_14, fk6_14, rk6_14⟩ := rk6_13.head
  obtain ⟨zk6_15, ck6_15, fk6_15, rk6_15⟩ := rk6_14.head
  obtain ⟨zk6_16, ck6_16, fk6_16, rk6_16⟩ := rk6_15.head
  obtain ⟨zk6_17, ck6_17, fk6_17, rk6_17⟩ := rk6_16.head
  obtain ⟨zk6_18, ck6_18, fk6_18, rk6_18⟩ := rk6_17.head
  obtain ⟨zk6_19, ck6_19, fk6_19, rk6_19⟩ := rk6_18.head
  go_wp2_with fail
  go_ret
  exact ⟨rfl, k6.1⟩
set_option maxRecDepth 100000 in
set_option maxHeartbeats 1000000 in
theorem walk_open_more (l q n : Int) (w : World) (h0 : 1 ≤ l) (h1 : l ≤ 2147483647) (hm : mayH l l 0 false = true) (hn : limitB n = true) (hq0 : 1 ≤ q) (hq1 : q ≤ n) (hq : l < q) : Calls Try.prog 13 #[.agg #[.int .i64 (l), .int .i64 (l), .int .i64 (0), .bool false], .int .i64 q, .int .i64 n] w (Yes w) := by
  have HM := Law.hide hm; clear hm
  go_enter Try.func13, Try.ntmps13
  go_wp2_with fail
  refine (hello_open_more _ _ _ _ h0 h1 hn hq0 hq1 hq).mono ?_
  rintro e kw0 ⟨rfl, hb⟩
  have k0 := ((Held.start w).at4 (w.heap.size) (by simp) 67 (.int .i64 (l)) (.int .i64 (l)) (.int .i64 (0)) (.bool false)).call hb
  clear hb
  obtain ⟨zk0_0, ck0_0, fk0_0, rk0_0⟩ := k0.head
  obtain ⟨zk0_1, ck0_1, fk0_1, rk0_1⟩ := rk0_0.head
  obtain ⟨zk0_2, ck0_2, fk0_2, rk0_2⟩ := rk0_1.head
  obtain ⟨zk0_3, ck0_3, fk0_3, rk0_3⟩ := rk0_2.head
  unfold HandQ HandV
  go_wp2_with fail
  refine (welcome_open _ _ _ h0 h1).mono ?_
  rintro e kw1 ⟨rfl, hb⟩
  have k1 := (k0.at4 (kw0.heap.size) (by simp) 67 (.int .i64 (l)) (.int .i64 (0)) (.int .i64 (q)) (.bool false)).call hb
  clear hb
  clear zk0_0 ck0_0 fk0_0 rk0_0 zk0_1 ck0_1 fk0_1 rk0_1 zk0_2 ck0_2 fk0_2 rk0_2 zk0_3 ck0_3 fk0_3 rk0_3
  clear k0
  obtain ⟨zk1_0, ck1_0, fk1_0, rk1_0⟩ := k1.head
  obtain ⟨zk1_1, ck1_1, fk1_1, rk1_1⟩ := rk1_0.head
  obtain ⟨zk1_2, ck1_2, fk1_2, rk1_2⟩ := rk1_1.head
  obtain ⟨zk1_3, ck1_3, fk1_3, rk1_3⟩ := rk1_2.head
  obtain ⟨zk1_4, ck1_4, fk1_4, rk1_4⟩ := rk1_3.head
  obtain ⟨zk1_5, ck1_5, fk1_5, rk1_5⟩ := rk1_4.head
  obtain ⟨zk1_6, ck1_6, fk1_6, rk1_6⟩ := rk1_5.head
  obtain ⟨zk1_7, ck1_7, fk1_7, rk1_7⟩ := rk1_6.head
  unfold HandW HandV
  go_wp2_with fail
  refine (may_tt _ _ _ _ HM.out _).mono ?_
  rintro e kw2 ⟨rfl, hb⟩
  have k2 := (k1.at4 (kw1.heap.size) (by simp) 67 (.int .i64 (l)) (.int .i64 (l)) (.int .i64 (0)) (.bool false)).call hb
  clear hb
  clear zk1_0 ck1_0 fk1_0 rk1_0 zk1_1 ck1_1 fk1_1 rk1_1 zk1_2 ck1_2 fk1_2 rk1_2 zk1_3 ck1_3 fk1_3 rk1_3 zk1_4 ck1_4 fk1_4 rk1_4 zk1_5 ck1_5 fk1_5 rk1_5 zk1_6 ck1_6 fk1_6 rk1_6 zk1_7 ck1_7 fk1_7 rk1_7
  clear k1
  obtain ⟨zk2_0, ck2_0, fk2_0, rk2_0⟩ := k2.head
  obtain ⟨zk2_1, ck2_1, fk2_1, rk2_1⟩ := rk2_0.head
  obtain ⟨zk2_2, ck2_2, fk2_2, rk2_2⟩ := rk2_1.head
  obtain ⟨zk2_3, ck2_3, fk2_3, rk2_3⟩ := rk2_2.head
  obtain ⟨zk2_4, ck2_4, fk2_4, rk2_4⟩ := rk2_3.head
  obtain ⟨zk2_5, ck2_5, fk2_5, rk2_5⟩ := rk2_4.head
  obtain ⟨zk2_6, ck2_6, fk2_6, rk2_6⟩ := rk2_5.head
  obtain ⟨zk2_7, ck2_7, fk2_7, rk2_7⟩ := rk2_6.head
  obtain ⟨zk2_8, ck2_8, fk2_8, rk2_8⟩ := rk2_7.head
  obtain ⟨zk2_9, ck2_9, fk2_9, rk2_9⟩ := rk2_8.head
  obtain ⟨zk2_10, ck2_10, fk2_10, rk2_10⟩ := rk2_9.head
  obtain ⟨zk2_11, ck2_11, fk2_11, rk2_11⟩ := rk2_10.head
  go_wp2_with fail
  refine (HandRef.welcome_open _ _ _ h0 h1).mono ?_
  rintro e kw3 ⟨rfl, hb⟩
  have k3 := k2.call hb
  clear hb
  clear zk2_0 ck2_0 fk2_0 rk2_0 zk2_1 ck2_1 fk2_1 rk2_1 zk2_2 ck2_2 fk2_2 rk2_2 zk2_3 ck2_3 fk2_3 rk2_3 zk2_4 ck2_4 fk2_4 rk2_4 zk2_5 ck2_5 fk2_5 rk2_5 zk2_6 ck2_6 fk2_6 rk2_6 zk2_7 ck2_7 fk2_7 rk2_7 zk2_8 ck2_8 fk2_8 rk2_8 zk2_9 ck2_9 fk2_9 rk2_9 zk2_10 ck2_10 fk2_10 rk2_10 zk2_11 ck2_11 fk2_11 rk2_11
  clear k2
  obtain ⟨zk3_0, ck3_0, fk3_0, rk3_0⟩ := k3.head
  obtain ⟨zk3_1, ck3_1, fk3_1, rk3_1⟩ := rk3_0.head
  obtain ⟨zk3_2, ck3_2, fk3_2, rk3_2⟩ := rk3_1.head
  obtain ⟨zk3_3, ck3_3, fk3_3, rk3_3⟩ := rk3_2.head
  obtain ⟨zk3_4, ck3_4, fk3_4, rk3_4⟩ := rk3_3.head
  obtain ⟨zk3_5, ck3_5, fk3_5, rk3_5⟩ := rk3_4.head
  obtain ⟨zk3_6, ck3_6, fk3_6, rk3_6⟩ := rk3_5.head
  obtain ⟨zk3_7, ck3_7, fk3_7, rk3_7⟩ := rk3_6.head
  obtain ⟨zk3_8, ck3_8, fk3_8, rk3_8⟩ := rk3_7.head
  obtain ⟨zk3_9, ck3_9, fk3_9, rk3_9⟩ := rk3_8.head
  obtain ⟨zk3_10, ck3_10, fk3_10, rk3_10⟩ := rk3_9.head
  obtain ⟨zk3_11, ck3_11, fk3_11, rk3_11⟩ := rk3_10.head
  unfold HandW2 HandV
  go_wp2_with fail
  refine (rlimit_any _ _).mono ?_
  rintro e kw4 ⟨rfl, rfl⟩
  have k4 := (k3.at4 (kw3.heap.size) (by simp) 67 (.int .i64 (l)) (.int .i64 (l)) (.int .i64 (0)) (.bool false))
  clear zk3_0 ck3_0 fk3_0 rk3_0 zk3_1 ck3_1 fk3_1 rk3_1 zk3_2 ck3_2 fk3_2 rk3_2 zk3_3 ck3_3 fk3_3 rk3_3 zk3_4 ck3_4 fk3_4 rk3_4 zk3_5 ck3_5 fk3_5 rk3_5 zk3_6 ck3_6 fk3_6 rk3_6 zk3_7 ck3_7 fk3_7 rk3_7 zk3_8 ck3_8 fk3_8 rk3_8 zk3_9 ck3_9 fk3_9 rk3_9 zk3_10 ck3_10 fk3_10 rk3_10 zk3_11 ck3_11 fk3_11 rk3_11
  clear k3
  obtain ⟨zk4_0, ck4_0, fk4_0, rk4_0⟩ := k4.head
  obtain ⟨zk4_1, ck4_1, fk4_1, rk4_1⟩ := rk4_0.head
  obtain ⟨zk4_2, ck4_2, fk4_2, rk4_2⟩ := rk4_1.head
  obtain ⟨zk4_3, ck4_3, fk4_3, rk4_3⟩ := rk4_2.head
  obtain ⟨zk4_4, ck4_4, fk4_4, rk4_4⟩ := rk4_3.head
  obtain ⟨zk4_5, ck4_5, fk4_5, rk4_5⟩ := rk4_4.head
  obtain ⟨zk4_6, ck4_6, fk4_6, rk4_6⟩ := rk4_5.head
  obtain ⟨zk4_7, ck4_7, fk4_7, rk4_7⟩ := rk4_6.head
  obtain ⟨zk4_8, ck4_8, fk4_8, rk4_8⟩ := rk4_7.head
  obtain ⟨zk4_9, ck4_9, fk4_9, rk4_9⟩ := rk4_8.head
  obtain ⟨zk4_10, ck4_10, fk4_10, rk4_10⟩ := rk4_9.head
  obtain ⟨zk4_11, ck4_11, fk4_11, rk4_11⟩ := rk4_10.head
  obtain ⟨zk4_12, ck4_12, fk4_12, rk4_12⟩ := rk4_11.head
  obtain ⟨zk4_13, ck4_13, fk4_13, rk4_13⟩ := rk4_12.head
  obtain ⟨zk4_14, ck4_14, fk4_14, rk4_14⟩ := rk4_13.head
  obtain ⟨zk4_15, ck4_15, fk4_15, rk4_15⟩ := rk4_14.head
  go_wp2_with fail
  refine (HandRef.hello_open_more _ _ _ _ h0 h1 hq0 hq1 hq).mono ?_
  rintro e kw5 ⟨rfl, hb⟩
  have k5 := k4.call hb
  clear hb
  clear zk4_0 ck4_0 fk4_0 rk4_0 zk4_1 ck4_1 fk4_1 rk4_1 zk4_2 ck4_2 fk4_2 rk4_2 zk4_3 ck4_3 fk4_3 rk4_3 zk4_4 ck4_4 fk4_4 rk4_4 zk4_5 ck4_5 fk4_5 rk4_5 zk4_6 ck4_6 fk4_6 rk4_6 zk4_7 ck4_7 fk4_7 rk4_7 zk4_8 ck4_8 fk4_8 rk4_8 zk4_9 ck4_9 fk4_9 rk4_9 zk4_10 ck4_10 fk4_10 rk4_10 zk4_11 ck4_11 fk4_11 rk4_11 zk4_12 ck4_12 fk4_12 rk4_12 zk4_13 ck4_13 fk4_13 rk4_13 zk4_14 ck4_14 fk4_14 rk4_14 zk4_15 ck4_15 fk4_15 rk4_15
  clear k4
  obtain ⟨zk5_0, ck5_0, fk5_0, rk5_0⟩ := k5.head
  obtain ⟨zk5_1, ck5_1, fk5_1, rk5_1⟩ := rk5_0.head
  obtain ⟨zk5_2, ck5_2, fk5_2, rk5_2⟩ := rk5_1.head
  obtain ⟨zk5_3, ck5_3, fk5_3, rk5_3⟩ := rk5_2.head
  obtain ⟨zk5_4, ck5_4, fk5_4, rk5_4⟩ := rk5_3.head
  obtain ⟨zk5_5, ck5_5, fk5_5, rk5_5⟩ := rk5_4.head
  obtain ⟨zk5_6, ck5_6, fk5_6, rk5_6⟩ := rk5_5.head
  obtain ⟨zk5_7, ck5_7, fk5_7, rk5_7⟩ := rk5_6.head
  obtain ⟨zk5_8, ck5_8, fk5_8, rk5_8⟩ := rk5_7.head
  obtain ⟨zk5_9, ck5_9, fk5_9, rk5_9⟩ := rk5_8.head
  obtain ⟨zk5_10, ck5_10, fk5_10, rk5_10⟩ := rk5_9.head
  obtain ⟨zk5_11, ck5_11, fk5_11, rk5_11⟩ := rk5_10.head
  obtain ⟨zk5_12, ck5_12, fk5_12, rk5_12⟩ := rk5_11.head
  obtain ⟨zk5_13, ck5_13, fk5_13, rk5_13⟩ := rk5_12.head
  obtain ⟨zk5_14, ck5_14, fk5_14, rk5_14⟩ := rk5_13.head
  obtain ⟨zk5_15, ck5_15, fk5_15, rk5_15⟩ := rk5_14.head
  unfold HandQ3 HandV
  go_wp2_with fail
  refine (awake_any _).mono ?_
  rintro e kw6 ⟨rfl, hb⟩
  have k6 := (k5.at4 (kw5.heap.size) (by simp) 67 (.int .i64 (l)) (.int .i64 (0)) (.int .i64 (q)) (.bool false)).call hb
  clear hb
  clear zk5_0 ck5_0 fk5_0 rk5_0 zk5_1 ck5_1 fk5_1 rk5_1 zk5_2 ck5_2 fk5_2 rk5_2 zk5_3 ck5_3 fk5_3 rk5_3 zk5_4 ck5_4 fk5_4 rk5_4 zk5_5 ck5_5 fk5_5 rk5_5 zk5_6 ck5_6 fk5_6 rk5_6 zk5_7 ck5_7 fk5_7 rk5_7 zk5_8 ck5_8 fk5_8 rk5_8 zk5_9 ck5_9 fk5_9 rk5_9 zk5_10 ck5_10 fk5_10 rk5_10 zk5_11 ck5_11 fk5_11 rk5_11 zk5_12 ck5_12 fk5_12 rk5_12 zk5_13 ck5_13 fk5_13 rk5_13 zk5_14 ck5_14 fk5_14 rk5_14 zk5_15 ck5_15 fk5_15 rk5_15
  clear k5
  obtain ⟨zk6_0, ck6_0, fk6_0, rk6_0⟩ := k6.head
  obtain ⟨zk6_1, ck6_1, fk6_1, rk6_1⟩ := rk6_0.head
  obtain ⟨zk6_2, ck6_2, fk6_2, rk6_2⟩ := rk6_1.head
  obtain ⟨zk6_3, ck6_3, fk6_3, rk6_3⟩ := rk6_2.head
  obtain ⟨zk6_4, ck6_4, fk6_4, rk6_4⟩ := rk6_3.head
  obtain ⟨zk6_5, ck6_5, fk6_5, rk6_5⟩ := rk6_4.head
  obtain ⟨zk6_6, ck6_6, fk6_6, rk6_6⟩ := rk6_5.head
  obtain ⟨zk6_7, ck6_7, fk6_7, rk6_7⟩ := rk6_6.head
  obtain ⟨zk6_8, ck6_8, fk6_8, rk6_8⟩ := rk6_7.head
  obtain ⟨zk6_9, ck6_9, fk6_9, rk6_9⟩ := rk6_8.head
  obtain ⟨zk6_10, ck6_10, fk6_10, rk6_10⟩ := rk6_9.head
  obtain ⟨zk6_11, ck6_11, fk6_11, rk6_11⟩ := rk6_10.head
  obtain ⟨zk6_12, ck6_12, fk6_12, rk6_12⟩ := rk6_11.head
  obtain ⟨zk6_13, ck6_13, fk6_13, rk6_13⟩ := rk6_12.head
  obtain ⟨zk6_14, ck6_14, fk6_14, rk6_14⟩ := rk6_13.head
  obtain ⟨zk6_15, ck6_15, fk6_15, rk6_15⟩ := rk6_14.head
  obtain ⟨zk6_16, ck6_16, fk6_16, rk6_16⟩ := rk6_15.head
  obtain ⟨zk6_17, ck6_17, fk6_17, rk6_17⟩ := rk6_16.head
  obtain ⟨zk6_18, ck6_18, fk6_18, rk6_18⟩ := rk6_17.head
  obtain ⟨zk6_19, ck6_19, fk6_19, rk6_19⟩ := rk6_18.head
  go_wp2_with fail
  go_ret
  exact ⟨rfl, k6.1⟩
set_option maxRecDepth 100000 in
set_option maxHeartbeats 1000000 in
theorem walk_open_same (l n : Int) (w : World) (h0 : 1 ≤ l) (h1 : l ≤ 2147483647) (hm : mayH l l 0 false = true) (hn : limitB n = true) (hq0 : 1 ≤ l) (hq1 : l ≤ n) : Calls Try.prog 13 #[.agg #[.int .i64 (l), .int .i64 (l), .int .i64 (0), .bool false], .int .i64 l, .int .i64 n] w (Yes w) := by
  have HM := Law.hide hm; clear hm
  go_enter Try.func13, Try.ntmps13
  go_wp2_with fail
  refine (hello_open_same _ _ _ h0 h1 hn hq0 hq1).mono ?_
  rintro e kw0 ⟨rfl, hb⟩
  have k0 := ((Held.start w).at4 (w.heap.size) (by simp) 67 (.int .i64 (l)) (.int .i64 (l)) (.int .i64 (0)) (.bool false)).call hb
  clear hb
  obtain ⟨zk0_0, ck0_0, fk0_0, rk0_0⟩ := k0.head
  obtain ⟨zk0_1, ck0_1, fk0_1, rk0_1⟩ := rk0_0.head
  obtain ⟨zk0_2, ck0_2, fk0_2, rk0_2⟩ := rk0_1.head
  obtain ⟨zk0_3, ck0_3, fk0_3, rk0_3⟩ := rk0_2.head
  unfold HandQ HandV
  go_wp2_with fail
  refine (welcome_open _ _ _ h0 h1).mono ?_
  rintro e kw1 ⟨rfl, hb⟩
  have k1 := (k0.at4 (kw0.heap.size) (by simp) 67 (.int .i64 (l)) (.int .i64 (l)) (.int .i64 (0)) (.bool false)).call hb
  clear hb
  clear zk0_0 ck0_0 fk0_0 rk0_0 zk0_1 ck0_1 fk0_1 rk0_1 zk0_2 ck0_2 fk0_2 rk0_2 zk0_3 ck0_3 fk0_3 rk0_3
  clear k0
  obtain ⟨zk1_0, ck1_0, fk1_0, rk1_0⟩ := k1.head
  obtain ⟨zk1_1, ck1_1, fk1_1, rk1_1⟩ := rk1_0.head
  obtain ⟨zk1_2, ck1_2, fk1_2, rk1_2⟩ := rk1_1.head
  obtain ⟨zk1_3, ck1_3, fk1_3, rk1_3⟩ := rk1_2.head
  obtain ⟨zk1_4, ck1_4, fk1_4, rk1_4⟩ := rk1_3.head
  obtain ⟨zk1_5, ck1_5, fk1_5, rk1_5⟩ := rk1_4.head
  obtain ⟨zk1_6, ck1_6, fk1_6, rk1_6⟩ := rk1_5.head
  obtain ⟨zk1_7, ck1_7, fk1_7, rk1_7⟩ := rk1_6.head
  unfold HandW HandV
  go_wp2_with fail
  refine (may_tt _ _ _ _ HM.out _).mono ?_
  rintro e kw2 ⟨rfl, hb⟩
  have k2 := (k1.at4 (kw1.heap.size) (by simp) 67 (.int .i64 (l)) (.int .i64 (l)) (.int .i64 (0)) (.bool false)).call hb
  clear hb
  clear zk1_0 ck1_0 fk1_0 rk1_0 zk1_1 ck1_1 fk1_1 rk1_1 zk1_2 ck1_2 fk1_2 rk1_2 zk1_3 ck1_3 fk1_3 rk1_3 zk1_4 ck1_4 fk1_4 rk1_4 zk1_5 ck1_5 fk1_5 rk1_5 zk1_6 ck1_6 fk1_6 rk1_6 zk1_7 ck1_7 fk1_7 rk1_7
  clear k1
  obtain ⟨zk2_0, ck2_0, fk2_0, rk2_0⟩ := k2.head
  obtain ⟨zk2_1, ck2_1, fk2_1, rk2_1⟩ := rk2_0.head
  obtain ⟨zk2_2, ck2_2, fk2_2, rk2_2⟩ := rk2_1.head
  obtain ⟨zk2_3, ck2_3, fk2_3, rk2_3⟩ := rk2_2.head
  obtain ⟨zk2_4, ck2_4, fk2_4, rk2_4⟩ := rk2_3.head
  obtain ⟨zk2_5, ck2_5, fk2_5, rk2_5⟩ := rk2_4.head
  obtain ⟨zk2_6, ck2_6, fk2_6, rk2_6⟩ := rk2_5.head
  obtain ⟨zk2_7, ck2_7, fk2_7, rk2_7⟩ := rk2_6.head
  obtain ⟨zk2_8, ck2_8, fk2_8, rk2_8⟩ := rk2_7.head
  obtain ⟨zk2_9, ck2_9, fk2_9, rk2_9⟩ := rk2_8.head
  obtain ⟨zk2_10, ck2_10, fk2_10, rk2_10⟩ := rk2_9.head
  obtain ⟨zk2_11, ck2_11, fk2_11, rk2_11⟩ := rk2_10.head
  go_wp2_with fail
  refine (HandRef.welcome_open _ _ _ h0 h1).mono ?_
  rintro e kw3 ⟨rfl, hb⟩
  have k3 := k2.call hb
  clear hb
  clear zk2_0 ck2_0 fk2_0 rk2_0 zk2_1 ck2_1 fk2_1 rk2_1 zk2_2 ck2_2 fk2_2 rk2_2 zk2_3 ck2_3 fk2_3 rk2_3 zk2_4 ck2_4 fk2_4 rk2_4 zk2_5 ck2_5 fk2_5 rk2_5 zk2_6 ck2_6 fk2_6 rk2_6 zk2_7 ck2_7 fk2_7 rk2_7 zk2_8 ck2_8 fk2_8 rk2_8 zk2_9 ck2_9 fk2_9 rk2_9 zk2_10 ck2_10 fk2_10 rk2_10 zk2_11 ck2_11 fk2_11 rk2_11
  clear k2
  obtain ⟨zk3_0, ck3_0, fk3_0, rk3_0⟩ := k3.head
  obtain ⟨zk3_1, ck3_1, fk3_1, rk3_1⟩ := rk3_0.head
  obtain ⟨zk3_2, ck3_2, fk3_2, rk3_2⟩ := rk3_1.head
  obtain ⟨zk3_3, ck3_3, fk3_3, rk3_3⟩ := rk3_2.head
  obtain ⟨zk3_4, ck3_4, fk3_4, rk3_4⟩ := rk3_3.head
  obtain ⟨zk3_5, ck3_5, fk3_5, rk3_5⟩ := rk3_4.head
  obtain ⟨zk3_6, ck3_6, fk3_6, rk3_6⟩ := rk3_5.head
  obtain ⟨zk3_7, ck3_7, fk3_7, rk3_7⟩ := rk3_6.head
  obtain ⟨zk3_8, ck3_8, fk3_8, rk3_8⟩ := rk3_7.head
  obtain ⟨zk3_9, ck3_9, fk3_9, rk3_9⟩ := rk3_8.head
  obtain ⟨zk3_10, ck3_10, fk3_10, rk3_10⟩ := rk3_9.head
  obtain ⟨zk3_11, ck3_11, fk3_11, rk3_11⟩ := rk3_10.head
  unfold HandW2 HandV
  go_wp2_with fail
  refine (rlimit_any _ _).mono ?_
  rintro e kw4 ⟨rfl, rfl⟩
  have k4 := (k3.at4 (kw3.heap.size) (by simp) 67 (.int .i64 (l)) (.int .i64 (l)) (.int .i64 (0)) (.bool false))
  clear zk3_0 ck3_0 fk3_0 rk3_0 zk3_1 ck3_1 fk3_1 rk3_1 zk3_2 ck3_2 fk3_2 rk3_2 zk3_3 ck3_3 fk3_3 rk3_3 zk3_4 ck3_4 fk3_4 rk3_4 zk3_5 ck3_5 fk3_5 rk3_5 zk3_6 ck3_6 fk3_6 rk3_6 zk3_7 ck3_7 fk3_7 rk3_7 zk3_8 ck3_8 fk3_8 rk3_8 zk3_9 ck3_9 fk3_9 rk3_9 zk3_10 ck3_10 fk3_10 rk3_10 zk3_11 ck3_11 fk3_11 rk3_11
  clear k3
  obtain ⟨zk4_0, ck4_0, fk4_0, rk4_0⟩ := k4.head
  obtain ⟨zk4_1, ck4_1, fk4_1, rk4_1⟩ := rk4_0.head
  obtain ⟨zk4_2, ck4_2, fk4_2, rk4_2⟩ := rk4_1.head
  obtain ⟨zk4_3, ck4_3, fk4_3, rk4_3⟩ := rk4_2.head
  obtain ⟨zk4_4, ck4_4, fk4_4, rk4_4⟩ := rk4_3.head
  obtain ⟨zk4_5, ck4_5, fk4_5, rk4_5⟩ := rk4_4.head
  obtain ⟨zk4_6, ck4_6, fk4_6, rk4_6⟩ := rk4_5.head
  obtain ⟨zk4_7, ck4_7, fk4_7, rk4_7⟩ := rk4_6.head
  obtain ⟨zk4_8, ck4_8, fk4_8, rk4_8⟩ := rk4_7.head
  obtain ⟨zk4_9, ck4_9, fk4_9, rk4_9⟩ := rk4_8.head
  obtain ⟨zk4_10, ck4_10, fk4_10, rk4_10⟩ := rk4_9.head
  obtain ⟨zk4_11, ck4_11, fk4_11, rk4_11⟩ := rk4_10.head
  obtain ⟨zk4_12, ck4_12, fk4_12, rk4_12⟩ := rk4_11.head
  obtain ⟨zk4_13, ck4_13, fk4_13, rk4_13⟩ := rk4_12.head
  obtain ⟨zk4_14, ck4_14, fk4_14, rk4_14⟩ := rk4_13.head
  obtain ⟨zk4_15, ck4_15, fk4_15, rk4_15⟩ := rk4_14.head
  go_wp2_with fail
  refine (HandRef.hello_open_same _ _ _ h0 h1 hq0 hq1).mono ?_
  rintro e kw5 ⟨rfl, hb⟩
  have k5 := k4.call hb
  clear hb
  clear zk4_0 ck4_0 fk4_0 rk4_0 zk4_1 ck4_1 fk4_1 rk4_1 zk4_2 ck4_2 fk4_2 rk4_2 zk4_3 ck4_3 fk4_3 rk4_3 zk4_4 ck4_4 fk4_4 rk4_4 zk4_5 ck4_5 fk4_5 rk4_5 zk4_6 ck4_6 fk4_6 rk4_6 zk4_7 ck4_7 fk4_7 rk4_7 zk4_8 ck4_8 fk4_8 rk4_8 zk4_9 ck4_9 fk4_9 rk4_9 zk4_10 ck4_10 fk4_10 rk4_10 zk4_11 ck4_11 fk4_11 rk4_11 zk4_12 ck4_12 fk4_12 rk4_12 zk4_13 ck4_13 fk4_13 rk4_13 zk4_14 ck4_14 fk4_14 rk4_14 zk4_15 ck4_15 fk4_15 rk4_15
  clear k4
  obtain ⟨zk5_0, ck5_0, fk5_0, rk5_0⟩ := k5.head
  obtain ⟨zk5_1, ck5_1, fk5_1, rk5_1⟩ := rk5_0.head
  obtain ⟨zk5_2, ck5_2, fk5_2, rk5_2⟩ := rk5_1.head
  obtain ⟨zk5_3, ck5_3, fk5_3, rk5_3⟩ := rk5_2.head
  obtain ⟨zk5_4, ck5_4, fk5_4, rk5_4⟩ := rk5_3.head
  obtain ⟨zk5_5, ck5_5, fk5_5, rk5_5⟩ := rk5_4.head
  obtain ⟨zk5_6, ck5_6, fk5_6, rk5_6⟩ := rk5_5.head
  obtain ⟨zk5_7, ck5_7, fk5_7, rk5_7⟩ := rk5_6.head
  obtain ⟨zk5_8, ck5_8, fk5_8, rk5_8⟩ := rk5_7.head
  obtain ⟨zk5_9, ck5_9, fk5_9, rk5_9⟩ := rk5_8.head
  obtain ⟨zk5_10, ck5_10, fk5_10, rk5_10⟩ := rk5_9.head
  obtain ⟨zk5_11, ck5_11, fk5_11, rk5_11⟩ := rk5_10.head
  obtain ⟨zk5_12, ck5_12, fk5_12, rk5_12⟩ := rk5_11.head
  obtain ⟨zk5_13, ck5_13, fk5_13, rk5_13⟩ := rk5_12.head
  obtain ⟨zk5_14, ck5_14, fk5_14, rk5_14⟩ := rk5_13.head
  obtain ⟨zk5_15, ck5_15, fk5_15, rk5_15⟩ := rk5_14.head
  unfold HandQ3 HandV
  go_wp2_with fail
  refine (awake_any _).mono ?_
  rintro e kw6 ⟨rfl, hb⟩
  have k6 := (k5.at4 (kw5.heap.size) (by simp) 67 (.int .i64 (l)) (.int .i64 (l)) (.int .i64 (0)) (.bool false)).call hb
  clear hb
  clear zk5_0 ck5_0 fk5_0 rk5_0 zk5_1 ck5_1 fk5_1 rk5_1 zk5_2 ck5_2 fk5_2 rk5_2 zk5_3 ck5_3 fk5_3 rk5_3 zk5_4 ck5_4 fk5_4 rk5_4 zk5_5 ck5_5 fk5_5 rk5_5 zk5_6 ck5_6 fk5_6 rk5_6 zk5_7 ck5_7 fk5_7 rk5_7 zk5_8 ck5_8 fk5_8 rk5_8 zk5_9 ck5_9 fk5_9 rk5_9 zk5_10 ck5_10 fk5_10 rk5_10 zk5_11 ck5_11 fk5_11 rk5_11 zk5_12 ck5_12 fk5_12 rk5_12 zk5_13 ck5_13 fk5_13 rk5_13 zk5_14 ck5_14 fk5_14 rk5_14 zk5_15 ck5_15 fk5_15 rk5_15
  clear k5
  obtain ⟨zk6_0, ck6_0, fk6_0, rk6_0⟩ := k6.head
  obtain ⟨zk6_1, ck6_1, fk6_1, rk6_1⟩ := rk6_0.head
  obtain ⟨zk6_2, ck6_2, fk6_2, rk6_2⟩ := rk6_1.head
  obtain ⟨zk6_3, ck6_3, fk6_3, rk6_3⟩ := rk6_2.head
  obtain ⟨zk6_4, ck6_4, fk6_4, rk6_4⟩ := rk6_3.head
  obtain ⟨zk6_5, ck6_5, fk6_5, rk6_5⟩ := rk6_4.head
  obtain ⟨zk6_6, ck6_6, fk6_6, rk6_6⟩ := rk6_5.head
  obtain ⟨zk6_7, ck6_7, fk6_7, rk6_7⟩ := rk6_6.head
  obtain ⟨zk6_8, ck6_8, fk6_8, rk6_8⟩ := rk6_7.head
  obtain ⟨zk6_9, ck6_9, fk6_9, rk6_9⟩ := rk6_8.head
  obtain ⟨zk6_10, ck6_10, fk6_10, rk6_10⟩ := rk6_9.head
  obtain ⟨zk6_11, ck6_11, fk6_11, rk6_11⟩ := rk6_10.head
  obtain ⟨zk6_12, ck6_12, fk6_12, rk6_12⟩ := rk6_11.head
  obtain ⟨zk6_13, ck6_13, fk6_13, rk6_13⟩ := rk6_12.head
  obtain ⟨zk6_14, ck6_14, fk6_14, rk6_14⟩ := rk6_13.head
  obtain ⟨zk6_15, ck6_15, fk6_15, rk6_15⟩ := rk6_14.head
  obtain ⟨zk6_16, ck6_16, fk6_16, rk6_16⟩ := rk6_15.head
  obtain ⟨zk6_17, ck6_17, fk6_17, rk6_17⟩ := rk6_16.head
  obtain ⟨zk6_18, ck6_18, fk6_18, rk6_18⟩ := rk6_17.head
  obtain ⟨zk6_19, ck6_19, fk6_19, rk6_19⟩ := rk6_18.head
  go_wp2_with fail
  go_ret
  exact ⟨rfl, k6.1⟩
set_option maxRecDepth 100000 in
set_option maxHeartbeats 1000000 in
theorem walk_open_less (l q n : Int) (w : World) (h0 : 1 ≤ l) (h1 : l ≤ 2147483647) (hm : mayH l l 0 false = true) (hn : limitB n = true) (hq0 : 1 ≤ q) (hq1 : q ≤ n) (hq : q < l) : Calls Try.prog 13 #[.agg #[.int .i64 (l), .int .i64 (l), .int .i64 (0), .bool false], .int .i64 q, .int .i64 n] w (Yes w) := by
  have HM := Law.hide hm; clear hm
  go_enter Try.func13, Try.ntmps13
  go_wp2_with fail
  refine (hello_open_less _ _ _ _ h0 h1 hn hq0 hq1 hq).mono ?_
  rintro e kw0 ⟨rfl, hb⟩
  have k0 := ((Held.start w).at4 (w.heap.size) (by simp) 67 (.int .i64 (l)) (.int .i64 (l)) (.int .i64 (0)) (.bool false)).call hb
  clear hb
  obtain ⟨zk0_0, ck0_0, fk0_0, rk0_0⟩ := k0.head
  obtain ⟨zk0_1, ck0_1, fk0_1, rk0_1⟩ := rk0_0.head
  obtain ⟨zk0_2, ck0_2, fk0_2, rk0_2⟩ := rk0_1.head
  obtain ⟨zk0_3, ck0_3, fk0_3, rk0_3⟩ := rk0_2.head
  unfold HandQ HandV
  go_wp2_with fail
  refine (welcome_open _ _ _ h0 h1).mono ?_
  rintro e kw1 ⟨rfl, hb⟩
  have k1 := (k0.at4 (kw0.heap.size) (by simp) 67 (.int .i64 (l)) (.int .i64 (l)) (.int .i64 (0)) (.bool false)).call hb
  clear hb
  clear zk0_0 ck0_0 fk0_0 rk0_0 zk0_1 ck0_1 fk0_1 rk0_1 zk0_2 ck0_2 fk0_2 rk0_2 zk0_3 ck0_3 fk0_3 rk0_3
  clear k0
  obtain ⟨zk1_0, ck1_0, fk1_0, rk1_0⟩ := k1.head
  obtain ⟨zk1_1, ck1_1, fk1_1, rk1_1⟩ := rk1_0.head
  obtain ⟨zk1_2, ck1_2, fk1_2, rk1_2⟩ := rk1_1.head
  obtain ⟨zk1_3, ck1_3, fk1_3, rk1_3⟩ := rk1_2.head
  obtain ⟨zk1_4, ck1_4, fk1_4, rk1_4⟩ := rk1_3.head
  obtain ⟨zk1_5, ck1_5, fk1_5, rk1_5⟩ := rk1_4.head
  obtain ⟨zk1_6, ck1_6, fk1_6, rk1_6⟩ := rk1_5.head
  obtain ⟨zk1_7, ck1_7, fk1_7, rk1_7⟩ := rk1_6.head
  unfold HandW HandV
  go_wp2_with fail
  refine (may_tt _ _ _ _ HM.out _).mono ?_
  rintro e kw2 ⟨rfl, hb⟩
  have k2 := (k1.at4 (kw1.heap.size) (by simp) 67 (.int .i64 (l)) (.int .i64 (l)) (.int .i64 (0)) (.bool false)).call hb
  clear hb
  clear zk1_0 ck1_0 fk1_0 rk1_0 zk1_1 ck1_1 fk1_1 rk1_1 zk1_2 ck1_2 fk1_2 rk1_2 zk1_3 ck1_3 fk1_3 rk1_3 zk1_4 ck1_4 fk1_4 rk1_4 zk1_5 ck1_5 fk1_5 rk1_5 zk1_6 ck1_6 fk1_6 rk1_6 zk1_7 ck1_7 fk1_7 rk1_7
  clear k1
  obtain ⟨zk2_0, ck2_0, fk2_0, rk2_0⟩ := k2.head
  obtain ⟨zk2_1, ck2_1, fk2_1, rk2_1⟩ := rk2_0.head
  obtain ⟨zk2_2, ck2_2, fk2_2, rk2_2⟩ := rk2_1.head
  obtain ⟨zk2_3, ck2_3, fk2_3, rk2_3⟩ := rk2_2.head
  obtain ⟨zk2_4, ck2_4, fk2_4, rk2_4⟩ := rk2_3.head
  obtain ⟨zk2_5, ck2_5, fk2_5, rk2_5⟩ := rk2_4.head
  obtain ⟨zk2_6, ck2_6, fk2_6, rk2_6⟩ := rk2_5.head
  obtain ⟨zk2_7, ck2_7, fk2_7, rk2_7⟩ := rk2_6.head
  obtain ⟨zk2_8, ck2_8, fk2_8, rk2_8⟩ := rk2_7.head
  obtain ⟨zk2_9, ck2_9, fk2_9, rk2_9⟩ := rk2_8.head
  obtain ⟨zk2_10, ck2_10, fk2_10, rk2_10⟩ := rk2_9.head
  obtain ⟨zk2_11, ck2_11, fk2_11, rk2_11⟩ := rk2_10.head
  go_wp2_with fail
  refine (HandRef.welcome_open _ _ _ h0 h1).mono ?_
  rintro e kw3 ⟨rfl, hb⟩
  have k3 := k2.call hb
  clear hb
  clear zk2_0 ck2_0 fk2_0 rk2_0 zk2_1 ck2_1 fk2_1 rk2_1 zk2_2 ck2_2 fk2_2 rk2_2 zk2_3 ck2_3 fk2_3 rk2_3 zk2_4 ck2_4 fk2_4 rk2_4 zk2_5 ck2_5 fk2_5 rk2_5 zk2_6 ck2_6 fk2_6 rk2_6 zk2_7 ck2_7 fk2_7 rk2_7 zk2_8 ck2_8 fk2_8 rk2_8 zk2_9 ck2_9 fk2_9 rk2_9 zk2_10 ck2_10 fk2_10 rk2_10 zk2_11 ck2_11 fk2_11 rk2_11
  clear k2
  obtain ⟨zk3_0, ck3_0, fk3_0, rk3_0⟩ := k3.head
  obtain ⟨zk3_1, ck3_1, fk3_1, rk3_1⟩ := rk3_0.head
  obtain ⟨zk3_2, ck3_2, fk3_2, rk3_2⟩ := rk3_1.head
  obtain ⟨zk3_3, ck3_3, fk3_3, rk3_3⟩ := rk3_2.head
  obtain ⟨zk3_4, ck3_4, fk3_4, rk3_4⟩ := rk3_3.head
  obtain ⟨zk3_5, ck3_5, fk3_5, rk3_5⟩ := rk3_4.head
  obtain ⟨zk3_6, ck3_6, fk3_6, rk3_6⟩ := rk3_5.head
  obtain ⟨zk3_7, ck3_7, fk3_7, rk3_7⟩ := rk3_6.head
  obtain ⟨zk3_8, ck3_8, fk3_8, rk3_8⟩ := rk3_7.head
  obtain ⟨zk3_9, ck3_9, fk3_9, rk3_9⟩ := rk3_8.head
  obtain ⟨zk3_10, ck3_10, fk3_10, rk3_10⟩ := rk3_9.head
  obtain ⟨zk3_11, ck3_11, fk3_11, rk3_11⟩ := rk3_10.head
  unfold HandW2 HandV
  go_wp2_with fail
  refine (rlimit_any _ _).mono ?_
  rintro e kw4 ⟨rfl, rfl⟩
  have k4 := (k3.at4 (kw3.heap.size) (by simp) 67 (.int .i64 (l)) (.int .i64 (l)) (.int .i64 (0)) (.bool false))
  clear zk3_0 ck3_0 fk3_0 rk3_0 zk3_1 ck3_1 fk3_1 rk3_1 zk3_2 ck3_2 fk3_2 rk3_2 zk3_3 ck3_3 fk3_3 rk3_3 zk3_4 ck3_4 fk3_4 rk3_4 zk3_5 ck3_5 fk3_5 rk3_5 zk3_6 ck3_6 fk3_6 rk3_6 zk3_7 ck3_7 fk3_7 rk3_7 zk3_8 ck3_8 fk3_8 rk3_8 zk3_9 ck3_9 fk3_9 rk3_9 zk3_10 ck3_10 fk3_10 rk3_10 zk3_11 ck3_11 fk3_11 rk3_11
  clear k3
  obtain ⟨zk4_0, ck4_0, fk4_0, rk4_0⟩ := k4.head
  obtain ⟨zk4_1, ck4_1, fk4_1, rk4_1⟩ := rk4_0.head
  obtain ⟨zk4_2, ck4_2, fk4_2, rk4_2⟩ := rk4_1.head
  obtain ⟨zk4_3, ck4_3, fk4_3, rk4_3⟩ := rk4_2.head
  obtain ⟨zk4_4, ck4_4, fk4_4, rk4_4⟩ := rk4_3.head
  obtain ⟨zk4_5, ck4_5, fk4_5, rk4_5⟩ := rk4_4.head
  obtain ⟨zk4_6, ck4_6, fk4_6, rk4_6⟩ := rk4_5.head
  obtain ⟨zk4_7, ck4_7, fk4_7, rk4_7⟩ := rk4_6.head
  obtain ⟨zk4_8, ck4_8, fk4_8, rk4_8⟩ := rk4_7.head
  obtain ⟨zk4_9, ck4_9, fk4_9, rk4_9⟩ := rk4_8.head
  obtain ⟨zk4_10, ck4_10, fk4_10, rk4_10⟩ := rk4_9.head
  obtain ⟨zk4_11, ck4_11, fk4_11, rk4_11⟩ := rk4_10.head
  obtain ⟨zk4_12, ck4_12, fk4_12, rk4_12⟩ := rk4_11.head
  obtain ⟨zk4_13, ck4_13, fk4_13, rk4_13⟩ := rk4_12.head
  obtain ⟨zk4_14, ck4_14, fk4_14, rk4_14⟩ := rk4_13.head
  obtain ⟨zk4_15, ck4_15, fk4_15, rk4_15⟩ := rk4_14.head
  go_wp2_with fail
  refine (HandRef.hello_open_less _ _ _ _ h0 h1 hq0 hq1 hq).mono ?_
  rintro e kw5 ⟨rfl, hb⟩
  have k5 := k4.call hb
  clear hb
  clear zk4_0 ck4_0 fk4_0 rk4_0 zk4_1 ck4_1 fk4_1 rk4_1 zk4_2 ck4_2 fk4_2 rk4_2 zk4_3 ck4_3 fk4_3 rk4_3 zk4_4 ck4_4 fk4_4 rk4_4 zk4_5 ck4_5 fk4_5 rk4_5 zk4_6 ck4_6 fk4_6 rk4_6 zk4_7 ck4_7 fk4_7 rk4_7 zk4_8 ck4_8 fk4_8 rk4_8 zk4_9 ck4_9 fk4_9 rk4_9 zk4_10 ck4_10 fk4_10 rk4_10 zk4_11 ck4_11 fk4_11 rk4_11 zk4_12 ck4_12 fk4_12 rk4_12 zk4_13 ck4_13 fk4_13 rk4_13 zk4_14 ck4_14 fk4_14 rk4_14 zk4_15 ck4_15 fk4_15 rk4_15
  clear k4
  obtain ⟨zk5_0, ck5_0, fk5_0, rk5_0⟩ := k5.head
  obtain ⟨zk5_1, ck5_1, fk5_1, rk5_1⟩ := rk5_0.head
  obtain ⟨zk5_2, ck5_2, fk5_2, rk5_2⟩ := rk5_1.head
  obtain ⟨zk5_3, ck5_3, fk5_3, rk5_3⟩ := rk5_2.head
  obtain ⟨zk5_4, ck5_4, fk5_4, rk5_4⟩ := rk5_3.head
  obtain ⟨zk5_5, ck5_5, fk5_5, rk5_5⟩ := rk5_4.head
  obtain ⟨zk5_6, ck5_6, fk5_6, rk5_6⟩ := rk5_5.head
  obtain ⟨zk5_7, ck5_7, fk5_7, rk5_7⟩ := rk5_6.head
  obtain ⟨zk5_8, ck5_8, fk5_8, rk5_8⟩ := rk5_7.head
  obtain ⟨zk5_9, ck5_9, fk5_9, rk5_9⟩ := rk5_8.head
  obtain ⟨zk5_10, ck5_10, fk5_10, rk5_10⟩ := rk5_9.head
  obtain ⟨zk5_11, ck5_11, fk5_11, rk5_11⟩ := rk5_10.head
  obtain ⟨zk5_12, ck5_12, fk5_12, rk5_12⟩ := rk5_11.head
  obtain ⟨zk5_13, ck5_13, fk5_13, rk5_13⟩ := rk5_12.head
  obtain ⟨zk5_14, ck5_14, fk5_14, rk5_14⟩ := rk5_13.head
  obtain ⟨zk5_15, ck5_15, fk5_15, rk5_15⟩ := rk5_14.head
  unfold HandQ3 HandV
  go_wp2_with fail
  refine (awake_any _).mono ?_
  rintro e kw6 ⟨rfl, hb⟩
  have k6 := (k5.at4 (kw5.heap.size) (by simp) 67 (.int .i64 (l)) (.int .i64 (l)) (.int .i64 (0)) (.bool false)).call hb
  clear hb
  clear zk5_0 ck5_0 fk5_0 rk5_0 zk5_1 ck5_1 fk5_1 rk5_1 zk5_2 ck5_2 fk5_2 rk5_2 zk5_3 ck5_3 fk5_3 rk5_3 zk5_4 ck5_4 fk5_4 rk5_4 zk5_5 ck5_5 fk5_5 rk5_5 zk5_6 ck5_6 fk5_6 rk5_6 zk5_7 ck5_7 fk5_7 rk5_7 zk5_8 ck5_8 fk5_8 rk5_8 zk5_9 ck5_9 fk5_9 rk5_9 zk5_10 ck5_10 fk5_10 rk5_10 zk5_11 ck5_11 fk5_11 rk5_11 zk5_12 ck5_12 fk5_12 rk5_12 zk5_13 ck5_13 fk5_13 rk5_13 zk5_14 ck5_14 fk5_14 rk5_14 zk5_15 ck5_15 fk5_15 rk5_15
  clear k5
  obtain ⟨zk6_0, ck6_0, fk6_0, rk6_0⟩ := k6.head
  obtain ⟨zk6_1, ck6_1, fk6_1, rk6_1⟩ := rk6_0.head
  obtain ⟨zk6_2, ck6_2, fk6_2, rk6_2⟩ := rk6_1.head
  obtain ⟨zk6_3, ck6_3, fk6_3, rk6_3⟩ := rk6_2.head
  obtain ⟨zk6_4, ck6_4, fk6_4, rk6_4⟩ := rk6_3.head
  obtain ⟨zk6_5, ck6_5, fk6_5, rk6_5⟩ := rk6_4.head
  obtain ⟨zk6_6, ck6_6, fk6_6, rk6_6⟩ := rk6_5.head
  obtain ⟨zk6_7, ck6_7, fk6_7, rk6_7⟩ := rk6_6.head
  obtain ⟨zk6_8, ck6_8, fk6_8, rk6_8⟩ := rk6_7.head
  obtain ⟨zk6_9, ck6_9, fk6_9, rk6_9⟩ := rk6_8.head
  obtain ⟨zk6_10, ck6_10, fk6_10, rk6_10⟩ := rk6_9.head
  obtain ⟨zk6_11, ck6_11, fk6_11, rk6_11⟩ := rk6_10.head
  obtain ⟨zk6_12, ck6_12, fk6_12, rk6_12⟩ := rk6_11.head
  obtain ⟨zk6_13, ck6_13, fk6_13, rk6_13⟩ := rk6_12.head
  obtain ⟨zk6_14, ck6_14, fk6_14, rk6_14⟩ := rk6_13.head
  obtain ⟨zk6_15, ck6_15, fk6_15, rk6_15⟩ := rk6_14.head
  obtain ⟨zk6_16, ck6_16, fk6_16, rk6_16⟩ := rk6_15.head
  obtain ⟨zk6_17, ck6_17, fk6_17, rk6_17⟩ := rk6_16.head
  obtain ⟨zk6_18, ck6_18, fk6_18, rk6_18⟩ := rk6_17.head
  obtain ⟨zk6_19, ck6_19, fk6_19, rk6_19⟩ := rk6_18.head
  go_wp2_with fail
  go_ret
  exact ⟨rfl, k6.1⟩

theorem walk (l c p : Int) (o : Bool) (q n : Int) (w : World) : Calls Try.prog 13 #[.agg #[.int .i64 (l), .int .i64 (c), .int .i64 (p), .bool o], .int .i64 q, .int .i64 n] w (Yes w) := by
  cases hm : mayH l c p o
  · exact walk_bad l c p o q n w hm
  · rcases shapes l c p o hm with ⟨rfl, rfl, rfl, h0, h1⟩ | ⟨rfl, rfl, h0, h1, h2⟩ | ⟨rfl, rfl, rfl, h0, h1⟩
    · cases hn : limitB n
      · exact walk_over_nolimit l q n w h0 h1 hm hn
      · exact walk_over l q n w h0 h1 hm hn
    · by_cases hqp : q = p
      · subst hqp
        cases hn : limitB n
        · exact walk_opening_nolimit_same l q n w h0 h1 h2 hm hn
        · by_cases hq : n < q
          · exact walk_opening_high_same l q n w h0 h1 h2 hm hn (by omega) hq
          · exact walk_opening_same l q n w h0 h1 h2 hm hn (by omega) (by omega)
      · cases hn : limitB n
        · exact walk_opening_nolimit_no l p q n w h0 h1 h2 hm hqp hn
        · by_cases hq1 : q < 1
          · exact walk_opening_low l p q n w h0 h1 h2 hm hqp hn hq1
          · by_cases hq : n < q
            · exact walk_opening_high_no l p q n w h0 h1 h2 hm hqp hn (by omega) hq
            · by_cases hq2 : p < q
              · exact walk_opening_more l p q n w h0 h1 h2 hm hqp hn (by omega) (by omega) hq2
              · exact walk_opening_less l p q n w h0 h1 h2 hm hqp hn (by omega) (by omega) (by omega)
    · cases hn : limitB n
      · exact walk_open_nolimit c q n w h0 h1 hm hn
      · by_cases hq1 : q < 1
        · exact walk_open_low c q n w h0 h1 hm hn hq1
        · by_cases hq : n < q
          · exact walk_open_high c q n w h0 h1 hm hn (by omega) hq
          · by_cases hq2 : c < q
            · exact walk_open_more c q n w h0 h1 hm hn (by omega) (by omega) hq2
            · by_cases hq3 : q = c
              · subst hq3
                exact walk_open_same q n w h0 h1 hm hn (by omega) (by omega)
              · exact walk_open_less c q n w h0 h1 hm hn (by omega) (by omega) (by omega)

theorem own : ownKnob Try.prog.godebug = none := by kernel_rfl
theorem laidOut : laidOutB Try.prog = true := by kernel_rfl

set_option maxRecDepth 100000 in
theorem lifted (os : Os) (started : os.Started) (H : Type) (enc : TypeId × Value → H) :
    ReturnsInHanded {} Try.checked os 13 .any (Rows.handHearsSpec.pre6 enc Try.prog Try.f13 Rows.handHearsRow.domain false) (Rows.handHearsSpec.post enc Try.prog Try.f13 false true false false) := by
  refine returnsInHanded_of_change (C := Try.checked) own started (by kernel_rfl) Try.func13
    (ChangeSpec.witness6 (enc := enc) (C := Try.checked) false ⟨#[], #[.agg #[.int .i64 0, .int .i64 0, .int .i64 0, .bool false], .int .i64 0, .int .i64 0], []⟩ 8 (by kernel_rfl) (by kernel_rfl) (by kernel_rfl) (by kernel_rfl)) ?_
  intro W base args ds gs before hval0 hW _ _
  have hval : ∀ (j : Nat) t v, Try.f13.params[j]? = some t → args[j]? = some v → Value.okWide Try.prog W .any base t v := hval0
  have hW' := hW
  obtain ⟨p, q, hA0, hV, rfl, _, _⟩ := hW
  have hA : DataW.TrodAll enc Try.prog W 0 (fun _ => true) true Try.f13.params.toList args.toList ds p := hA0
  rw [Try.params13] at hA hval
  obtain ⟨v0, v1, v2, d0, d1, d2, p0, p1, p2, rfl, rfl, rfl, h0, h1, h2⟩ := trodAll_three hA
  obtain ⟨rfl, rfl⟩ := trodVars_none hV
  obtain ⟨c0x0, c0x1, c0x2, c0x3, y0x0, y0x1, y0x2, y0x3, m0, rfl, rfl, rfl, hy0x0, hy0x1, hy0x2, hy0x3⟩ := open_agg4 Try.underlying67 (by kernel_rfl) (by kernel_rfl) (hval 0 67 v0 rfl rfl) h0
  obtain ⟨a0x0, e0x0, rfl, w0x0⟩ := DataW.trod_int Try.underlying3 hy0x0
  obtain ⟨a0x1, e0x1, rfl, w0x1⟩ := DataW.trod_int Try.underlying3 hy0x1
  obtain ⟨a0x2, e0x2, rfl, w0x2⟩ := DataW.trod_int Try.underlying3 hy0x2
  obtain ⟨a0x3, e0x3, rfl⟩ := DataW.trod_bool Try.underlying4 hy0x3
  simp at e0x0 e0x1 e0x2 e0x3
  subst e0x0 e0x1 e0x2 e0x3
  obtain ⟨a1, rfl, rfl, rfl, w1⟩ := open_int Try.underlying3 (hval 1 3 v1 rfl rfl) h1
  obtain ⟨a2, rfl, rfl, rfl, w2⟩ := open_int Try.underlying3 (hval 2 3 v2 rfl rfl) h2
  refine (walk a0x0 a0x1 a0x2 a0x3 a1 a2 W).mono fun e W' ⟨he, hb⟩ => ?_
  subst he
  exact ⟨_, rfl, law_post laidOut (by kernel_rfl) (by kernel_rfl) Try.underlying4 rfl hW' rfl hb⟩

theorem proved : Rows.HandHearsSaid :=
  OpenClaim.holds_of_wide 13 Try.f13 rfl rfl rfl rfl rfl rfl rfl ⟨rfl, rfl, rfl, rfl, rfl⟩ rfl rfl rfl rfl rfl (by kernel_rfl) Try.func13 (by kernel_rfl)
    (of_decide_eq_true (by kernel_rfl)) (by unfold Func.isWrapper; first | (rw [if_pos (by decide +kernel)]; kernel_rfl) | (rw [if_neg (by decide +kernel)]; exact ⟨rfl, rfl⟩))
    (fun os started H enc _ => lifted os started H enc)
end Go.Proofs.Ytcbfccadodikgaa.HandHears
