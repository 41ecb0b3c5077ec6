/-
  EdgeOf: for every two numbers and weight the call tells true, and nothing that was there turns. No condition.
-/
import Derived.Test.YtcbfccadodikgaaRows
import Derived.Test.YtcbfccadodikgaaEdgeCmp
import Derived.Deep.RegionHeld3
namespace Go.Proofs.Ytcbfccadodikgaa.EdgeOf
open Go.RowKit Go.Proofs.Ytcbfccadodikgaa.Law Go.Proofs.Ytcbfccadodikgaa.Node Go.Proofs.Ytcbfccadodikgaa.Cmp Go.Proofs.Ytcbfccadodikgaa.Edge Go.Proofs.Ytcbfccadodikgaa.EdgeCmp
open Go.ChangeShapes Go.WideShapes Go.ChangeAt Go.Joins

def K (w : World) (B : Nat) (a b c x y z : Int) (w' : World) : Prop :=
  w'.cell? ⟨B, 0, none⟩ = some (.int .i64 a) ∧ w'.cell? ⟨B, 1, none⟩ = some (.int .i64 b) ∧ w'.cell? ⟨B, 2, none⟩ = some (.int .i64 c) ∧ w'.cell? ⟨B + 1, 0, none⟩ = some (.int .i64 x) ∧ w'.cell? ⟨B + 1, 1, none⟩ = some (.int .i64 y) ∧ w'.cell? ⟨B + 1, 2, none⟩ = some (.int .i64 z) ∧ Below w.heap.size w w' ∧ B < w'.heap.size ∧ B + 1 < w'.heap.size
theorem K_drew {w w' : World} {B : Nat} {a b c x y z : Int} (h : K w B a b c x y z w') : K w B a b c x y z w'.drew := by
  obtain ⟨h0, h1, h2, h3, h4, h5, h6, h7, h8⟩ := h
  exact ⟨h0, h1, h2, h3, h4, h5, h6.drew, h7, h8⟩
theorem K_drewN {w w' : World} {B : Nat} {a b c x y z : Int} (h : K w B a b c x y z w') (k : Nat) : K w B a b c x y z (w'.drewN k) := by
  obtain ⟨h0, h1, h2, h3, h4, h5, h6, h7, h8⟩ := h
  exact ⟨h0, h1, h2, h3, h4, h5, Law.below_drewN h6 k, h7, h8⟩
theorem K_call {w w' w2 : World} {B : Nat} {a b c x y z : Int} (h : K w B a b c x y z w') (hb : Below w'.heap.size w' w2) : K w B a b c x y z w2 := by
  obtain ⟨h0, h1, h2, h3, h4, h5, h6, h7, h8⟩ := h
  exact ⟨((Law.bcell hb).1 _ _ h7).trans h0, ((Law.bcell hb).1 _ _ h7).trans h1, ((Law.bcell hb).1 _ _ h7).trans h2, ((Law.bcell hb).1 _ _ h8).trans h3, ((Law.bcell hb).1 _ _ h8).trans h4, ((Law.bcell hb).1 _ _ h8).trans h5, h6.trans (hb.mono h6.size), Nat.lt_of_lt_of_le h7 hb.size, Nat.lt_of_lt_of_le h8 hb.size⟩
theorem K_alloc {w w' : World} {B : Nat} {a b c x y z : Int} (h : K w B a b c x y z w') (o : Obj) : K w B a b c x y z (w'.alloc o) := by
  obtain ⟨h0, h1, h2, h3, h4, h5, h6, h7, h8⟩ := h
  exact ⟨(World.cell?_alloc_lt w' o _ h7).trans h0, (World.cell?_alloc_lt w' o _ h7).trans h1, (World.cell?_alloc_lt w' o _ h7).trans h2, (World.cell?_alloc_lt w' o _ h8).trans h3, (World.cell?_alloc_lt w' o _ h8).trans h4, (World.cell?_alloc_lt w' o _ h8).trans h5, h6.alloc h6.size o, by simp; omega, by simp; omega⟩

theorem mayE_iff (a b c : Int) : mayE a b c = true ↔ 1 ≤ a ∧ a ≤ 64 ∧ 1 ≤ b ∧ b ≤ 64 ∧ a < b ∧ 0 ≤ c ∧ c ≤ 2147483647 := by simp [mayE]

set_option maxHeartbeats 1000000 in
theorem walk_ab_ok (a b d : Int) (w : World) (hab : a ≤ b) (hm : mayE a b d = true) : Calls Try.prog 3 #[.int .i64 a, .int .i64 b, .int .i64 d] w (Yes w) := by
    have ho := of_any a b d
    rw [show ofF a b d = (a, b, d, 0) by simp [ofF, hab, hm]] at ho
    have HO := Law.hide ho; clear ho
    have m1 : a < b := by have := (mayE_iff _ _ _).1 hm; omega
    have m2 : 1 ≤ a := by have := (mayE_iff _ _ _).1 hm; omega

    have g2 : (echkF a b d == 0) = true := by rw [echkF_tt hm]; rfl
    go_enter Try.func3, Try.ntmps3
    go_wp2_with fail
    refine (HO.out _).mono ?_
    rintro e w1 ⟨rfl, hb⟩
    have HB := Law.hide hb; clear hb
    unfold Edged
    go_wp2_with fail
    have hk : K w w1.heap.size a b d a b d ((w1.alloc (Obj.cells #[Value.int IntKind.i64 a, Value.int IntKind.i64 b, Value.int IntKind.i64 d] 23)).alloc (Obj.cells #[Value.int IntKind.i64 a, Value.int IntKind.i64 b, Value.int IntKind.i64 d] 23)) := ⟨by go_simp, by go_simp, by go_simp, by go_simp, by go_simp, by go_simp, (HB.out.alloc HB.out.size _).alloc (by have := HB.out.size; simp; omega) _, by first | (simp; done) | (simp; omega), by first | (simp; done) | (simp; omega)⟩
    clear HB HO
    generalize ((w1.alloc (Obj.cells #[Value.int IntKind.i64 a, Value.int IntKind.i64 b, Value.int IntKind.i64 d] 23)).alloc (Obj.cells #[Value.int IntKind.i64 a, Value.int IntKind.i64 b, Value.int IntKind.i64 d] 23)) = w0 at *
    generalize w1.heap.size = B at *
    go_region_held3 (fun w' => w'.cell? ⟨B, 0, none⟩ = some (.int .i64 a) ∧ w'.cell? ⟨B, 1, none⟩ = some (.int .i64 b) ∧ w'.cell? ⟨B, 2, none⟩ = some (.int .i64 d) ∧ w'.cell? ⟨B + 1, 0, none⟩ = some (.int .i64 a) ∧ w'.cell? ⟨B + 1, 1, none⟩ = some (.int .i64 b) ∧ w'.cell? ⟨B + 1, 2, none⟩ = some (.int .i64 d) ∧ Below w.heap.size w w' ∧ B < w'.heap.size ∧ B + 1 < w'.heap.size)
      (first | exact K_drew hk | exact K_call (by assumption) (by assumption) | assumption)
      (first
        | (go_at_call 16; refine (node_any _ _).mono ?_; rintro e w' ⟨rfl, rfl⟩)
        | (go_at_call 17; refine (rnode_any _ _).mono ?_; rintro e w' ⟨rfl, rfl⟩)
        | (go_at_call 18; refine (check_any _ _ _ _).mono ?_; rintro e w2 ⟨rfl, hb2⟩)
        | (go_at_call 19; refine (may_any _ _ _ _).mono ?_; rintro e w3 ⟨rfl, hb3⟩))
    rename_i hS
    clear hk
    have hK : K w B a b d a b d w3 := hS
    obtain ⟨q0, q1, q2, q3, q4, q5, hB, hz, hz'⟩ := hS
    go_wp2_with fail
    refine (may_any _ _ _ _).mono ?_
    rintro e v0 ⟨rfl, hb0⟩
    have hS := K_call hK hb0
    clear hK
    have hK : K w B a b d a b d v0 := hS
    obtain ⟨q0, q1, q2, q3, q4, q5, hB, hz, hz'⟩ := hS
    go_wp2_with fail
    refine (other_fst a b d _).mono ?_
    rintro e v1 ⟨rfl, hb1⟩
    have hS := K_call hK hb1
    clear hK
    have hK : K w B a b d a b d v1 := hS
    obtain ⟨q0, q1, q2, q3, q4, q5, hB, hz, hz'⟩ := hS
    go_wp2_with fail
    refine (other_snd a b d _ (by omega)).mono ?_
    rintro e v2 ⟨rfl, hb2⟩
    have hS := K_call hK hb2
    clear hK
    have hK : K w B a b d a b d v2 := hS
    obtain ⟨q0, q1, q2, q3, q4, q5, hB, hz, hz'⟩ := hS
    go_wp2_with fail
    refine (other_none a b d 0 _ (by omega) (by omega)).mono ?_
    rintro e v3 ⟨rfl, hb3⟩
    have hS := K_call hK hb3
    clear hK
    have hK : K w B a b d a b d v3 := hS
    obtain ⟨q0, q1, q2, q3, q4, q5, hB, hz, hz'⟩ := hS
    go_wp2_with fail
    refine (awake_any _).mono ?_
    rintro e v9 ⟨rfl, hb9⟩
    go_wp2_with fail
    go_ret
    exact ⟨rfl, hB.trans (hb9.mono hB.size)⟩

set_option maxHeartbeats 1000000 in
theorem walk_ab_no (a b d : Int) (w : World) (hab : a ≤ b) (hm : mayE a b d = false) : Calls Try.prog 3 #[.int .i64 a, .int .i64 b, .int .i64 d] w (Yes w) := by
    have ho := of_any a b d
    rw [show ofF a b d = (0, 0, 0, 1) by simp [ofF, hab, hm]] at ho
    have HO := Law.hide ho; clear ho
    have g2 : (echkF a b d == 0) = false := by rw [echkF_ff hm]; rfl
    go_enter Try.func3, Try.ntmps3
    go_wp2_with fail
    refine (HO.out _).mono ?_
    rintro e w1 ⟨rfl, hb⟩
    have HB := Law.hide hb; clear hb
    unfold Edged
    go_wp2_with fail
    have hk : K w w1.heap.size 0 0 0 a b d ((w1.alloc (Obj.cells #[Value.int IntKind.i64 0, Value.int IntKind.i64 0, Value.int IntKind.i64 0] 23)).alloc (Obj.cells #[Value.int IntKind.i64 a, Value.int IntKind.i64 b, Value.int IntKind.i64 d] 23)) := ⟨by go_simp, by go_simp, by go_simp, by go_simp, by go_simp, by go_simp, (HB.out.alloc HB.out.size _).alloc (by have := HB.out.size; simp; omega) _, by first | (simp; done) | (simp; omega), by first | (simp; done) | (simp; omega)⟩
    clear HB HO
    generalize ((w1.alloc (Obj.cells #[Value.int IntKind.i64 0, Value.int IntKind.i64 0, Value.int IntKind.i64 0] 23)).alloc (Obj.cells #[Value.int IntKind.i64 a, Value.int IntKind.i64 b, Value.int IntKind.i64 d] 23)) = w0 at *
    generalize w1.heap.size = B at *
    go_region_held3 (fun w' => w'.cell? ⟨B, 0, none⟩ = some (.int .i64 0) ∧ w'.cell? ⟨B, 1, none⟩ = some (.int .i64 0) ∧ w'.cell? ⟨B, 2, none⟩ = some (.int .i64 0) ∧ w'.cell? ⟨B + 1, 0, none⟩ = some (.int .i64 a) ∧ w'.cell? ⟨B + 1, 1, none⟩ = some (.int .i64 b) ∧ w'.cell? ⟨B + 1, 2, none⟩ = some (.int .i64 d) ∧ Below w.heap.size w w' ∧ B < w'.heap.size ∧ B + 1 < w'.heap.size)
      (first | exact K_drew hk | exact K_call (by assumption) (by assumption) | assumption)
      (first
        | (go_at_call 16; refine (node_any _ _).mono ?_; rintro e w' ⟨rfl, rfl⟩)
        | (go_at_call 17; refine (rnode_any _ _).mono ?_; rintro e w' ⟨rfl, rfl⟩)
        | (go_at_call 18; refine (check_any _ _ _ _).mono ?_; rintro e w2 ⟨rfl, hb2⟩)
        | (go_at_call 19; refine (may_any _ _ _ _).mono ?_; rintro e w3 ⟨rfl, hb3⟩))
    rename_i hS
    clear hk
    have hK : K w B 0 0 0 a b d w3 := hS
    obtain ⟨q0, q1, q2, q3, q4, q5, hB, hz, hz'⟩ := hS
    go_wp2_with fail
    refine (may_any _ _ _ _).mono ?_
    rintro e v0 ⟨rfl, hb0⟩
    have hS := K_call hK hb0
    clear hK
    have hK : K w B 0 0 0 a b d v0 := hS
    obtain ⟨q0, q1, q2, q3, q4, q5, hB, hz, hz'⟩ := hS
    go_wp2_with fail
    refine (awake_any _).mono ?_
    rintro e v9 ⟨rfl, hb9⟩
    go_wp2_with fail
    go_ret
    exact ⟨rfl, hB.trans (hb9.mono hB.size)⟩

set_option maxHeartbeats 1000000 in
theorem walk_ba_ok (a b d : Int) (w : World) (hab : b < a) (hm : mayE b a d = true) : Calls Try.prog 3 #[.int .i64 a, .int .i64 b, .int .i64 d] w (Yes w) := by
    have ho := of_any a b d
    rw [show ofF a b d = (b, a, d, 0) by simp [ofF, hm]; omega] at ho
    have HO := Law.hide ho; clear ho
    have m1 : b < a := by have := (mayE_iff _ _ _).1 hm; omega
    have m2 : 1 ≤ b := by have := (mayE_iff _ _ _).1 hm; omega

    have g2 : (echkF b a d == 0) = true := by rw [echkF_tt hm]; rfl
    go_enter Try.func3, Try.ntmps3
    go_wp2_with fail
    refine (HO.out _).mono ?_
    rintro e w1 ⟨rfl, hb⟩
    have HB := Law.hide hb; clear hb
    unfold Edged
    go_wp2_with fail
    have hk : K w w1.heap.size b a d b a d ((w1.alloc (Obj.cells #[Value.int IntKind.i64 b, Value.int IntKind.i64 a, Value.int IntKind.i64 d] 23)).alloc (Obj.cells #[Value.int IntKind.i64 b, Value.int IntKind.i64 a, Value.int IntKind.i64 d] 23)) := ⟨by go_simp, by go_simp, by go_simp, by go_simp, by go_simp, by go_simp, (HB.out.alloc HB.out.size _).alloc (by have := HB.out.size; simp; omega) _, by first | (simp; done) | (simp; omega), by first | (simp; done) | (simp; omega)⟩
    clear HB HO
    generalize ((w1.alloc (Obj.cells #[Value.int IntKind.i64 b, Value.int IntKind.i64 a, Value.int IntKind.i64 d] 23)).alloc (Obj.cells #[Value.int IntKind.i64 b, Value.int IntKind.i64 a, Value.int IntKind.i64 d] 23)) = w0 at *
    generalize w1.heap.size = B at *
    go_region_held3 (fun w' => w'.cell? ⟨B, 0, none⟩ = some (.int .i64 b) ∧ w'.cell? ⟨B, 1, none⟩ = some (.int .i64 a) ∧ w'.cell? ⟨B, 2, none⟩ = some (.int .i64 d) ∧ w'.cell? ⟨B + 1, 0, none⟩ = some (.int .i64 b) ∧ w'.cell? ⟨B + 1, 1, none⟩ = some (.int .i64 a) ∧ w'.cell? ⟨B + 1, 2, none⟩ = some (.int .i64 d) ∧ Below w.heap.size w w' ∧ B < w'.heap.size ∧ B + 1 < w'.heap.size)
      (first | exact K_drew hk | exact K_call (by assumption) (by assumption) | assumption)
      (first
        | (go_at_call 16; refine (node_any _ _).mono ?_; rintro e w' ⟨rfl, rfl⟩)
        | (go_at_call 17; refine (rnode_any _ _).mono ?_; rintro e w' ⟨rfl, rfl⟩)
        | (go_at_call 18; refine (check_any _ _ _ _).mono ?_; rintro e w2 ⟨rfl, hb2⟩)
        | (go_at_call 19; refine (may_any _ _ _ _).mono ?_; rintro e w3 ⟨rfl, hb3⟩))
    rename_i hS
    clear hk
    have hK : K w B b a d b a d w3 := hS
    obtain ⟨q0, q1, q2, q3, q4, q5, hB, hz, hz'⟩ := hS
    go_wp2_with fail
    refine (may_any _ _ _ _).mono ?_
    rintro e v0 ⟨rfl, hb0⟩
    have hS := K_call hK hb0
    clear hK
    have hK : K w B b a d b a d v0 := hS
    obtain ⟨q0, q1, q2, q3, q4, q5, hB, hz, hz'⟩ := hS
    go_wp2_with fail
    refine (other_snd b a d _ (by omega)).mono ?_
    rintro e v1 ⟨rfl, hb1⟩
    have hS := K_call hK hb1
    clear hK
    have hK : K w B b a d b a d v1 := hS
    obtain ⟨q0, q1, q2, q3, q4, q5, hB, hz, hz'⟩ := hS
    go_wp2_with fail
    refine (other_fst b a d _).mono ?_
    rintro e v2 ⟨rfl, hb2⟩
    have hS := K_call hK hb2
    clear hK
    have hK : K w B b a d b a d v2 := hS
    obtain ⟨q0, q1, q2, q3, q4, q5, hB, hz, hz'⟩ := hS
    go_wp2_with fail
    refine (other_none b a d 0 _ (by omega) (by omega)).mono ?_
    rintro e v3 ⟨rfl, hb3⟩
    have hS := K_call hK hb3
    clear hK
    have hK : K w B b a d b a d v3 := hS
    obtain ⟨q0, q1, q2, q3, q4, q5, hB, hz, hz'⟩ := hS
    go_wp2_with fail
    refine (awake_any _).mono ?_
    rintro e v9 ⟨rfl, hb9⟩
    go_wp2_with fail
    go_ret
    exact ⟨rfl, hB.trans (hb9.mono hB.size)⟩

set_option maxHeartbeats 1000000 in
theorem walk_ba_no (a b d : Int) (w : World) (hab : b < a) (hm : mayE b a d = false) : Calls Try.prog 3 #[.int .i64 a, .int .i64 b, .int .i64 d] w (Yes w) := by
    have ho := of_any a b d
    rw [show ofF a b d = (0, 0, 0, 1) by simp [ofF, hm]; omega] at ho
    have HO := Law.hide ho; clear ho
    have g2 : (echkF b a d == 0) = false := by rw [echkF_ff hm]; rfl
    go_enter Try.func3, Try.ntmps3
    go_wp2_with fail
    refine (HO.out _).mono ?_
    rintro e w1 ⟨rfl, hb⟩
    have HB := Law.hide hb; clear hb
    unfold Edged
    go_wp2_with fail
    have hk : K w w1.heap.size 0 0 0 b a d ((w1.alloc (Obj.cells #[Value.int IntKind.i64 0, Value.int IntKind.i64 0, Value.int IntKind.i64 0] 23)).alloc (Obj.cells #[Value.int IntKind.i64 b, Value.int IntKind.i64 a, Value.int IntKind.i64 d] 23)) := ⟨by go_simp, by go_simp, by go_simp, by go_simp, by go_simp, by go_simp, (HB.out.alloc HB.out.size _).alloc (by have := HB.out.size; simp; omega) _, by first | (simp; done) | (simp; omega), by first | (simp; done) | (simp; omega)⟩
    clear HB HO
    generalize ((w1.alloc (Obj.cells #[Value.int IntKind.i64 0, Value.int IntKind.i64 0, Value.int IntKind.i64 0] 23)).alloc (Obj.cells #[Value.int IntKind.i64 b, Value.int IntKind.i64 a, Value.int IntKind.i64 d] 23)) = w0 at *
    generalize w1.heap.size = B at *
    go_region_held3 (fun w' => w'.cell? ⟨B, 0, none⟩ = some (.int .i64 0) ∧ w'.cell? ⟨B, 1, none⟩ = some (.int .i64 0) ∧ w'.cell? ⟨B, 2, none⟩ = some (.int .i64 0) ∧ w'.cell? ⟨B + 1, 0, none⟩ = some (.int .i64 b) ∧ w'.cell? ⟨B + 1, 1, none⟩ = some (.int .i64 a) ∧ w'.cell? ⟨B + 1, 2, none⟩ = some (.int .i64 d) ∧ Below w.heap.size w w' ∧ B < w'.heap.size ∧ B + 1 < w'.heap.size)
      (first | exact K_drew hk | exact K_call (by assumption) (by assumption) | assumption)
      (first
        | (go_at_call 16; refine (node_any _ _).mono ?_; rintro e w' ⟨rfl, rfl⟩)
        | (go_at_call 17; refine (rnode_any _ _).mono ?_; rintro e w' ⟨rfl, rfl⟩)
        | (go_at_call 18; refine (check_any _ _ _ _).mono ?_; rintro e w2 ⟨rfl, hb2⟩)
        | (go_at_call 19; refine (may_any _ _ _ _).mono ?_; rintro e w3 ⟨rfl, hb3⟩))
    rename_i hS
    clear hk
    have hK : K w B 0 0 0 b a d w3 := hS
    obtain ⟨q0, q1, q2, q3, q4, q5, hB, hz, hz'⟩ := hS
    go_wp2_with fail
    refine (may_any _ _ _ _).mono ?_
    rintro e v0 ⟨rfl, hb0⟩
    have hS := K_call hK hb0
    clear hK
    have hK : K w B 0 0 0 b a d v0 := hS
    obtain ⟨q0, q1, q2, q3, q4, q5, hB, hz, hz'⟩ := hS
    go_wp2_with fail
    refine (awake_any _).mono ?_
    rintro e v9 ⟨rfl, hb9⟩
    go_wp2_with fail
    go_ret
    exact ⟨rfl, hB.trans (hb9.mono hB.size)⟩

theorem walk (a b d : Int) (w : World) : Calls Try.prog 3 #[.int .i64 a, .int .i64 b, .int .i64 d] w (Yes w) := by
  by_cases hab : a ≤ b
  · cases hm : mayE a b d
    · exact walk_ab_no a b d w hab hm
    · exact walk_ab_ok a b d w hab hm
  · cases hm : mayE b a d
    · exact walk_ba_no a b d w (by omega) hm
    · exact walk_ba_ok a b d w (by omega) hm

theorem own : ownKnob Try.prog.godebug = none := by kernel_rfl
theorem laidOut : laidOutB Try.prog = true := by kernel_rfl

set_option maxRecDepth 100000 in
theorem lifted (os : Os) (started : os.Started) (H : Type) (enc : TypeId × Value → H) :
    ReturnsInHanded {} Try.checked os 3 .any (Rows.edgeOfSpec.pre6 enc Try.prog Try.f3 Rows.edgeOfRow.domain false) (Rows.edgeOfSpec.post enc Try.prog Try.f3 false true false false) := by
  refine returnsInHanded_of_change (C := Try.checked) own started (by kernel_rfl) Try.func3
    (ChangeSpec.witness6 (enc := enc) (C := Try.checked) false ⟨#[], #[.int .i64 0, .int .i64 0, .int .i64 0], []⟩ 8 (by kernel_rfl) (by kernel_rfl) (by kernel_rfl) (by kernel_rfl)) ?_
  intro W base args ds gs before hval0 hW _ _
  have hval : ∀ (j : Nat) t v, Try.f3.params[j]? = some t → args[j]? = some v → Value.okWide Try.prog W .any base t v := hval0
  have hW' := hW
  obtain ⟨p, q, hA0, hV, rfl, _, _⟩ := hW
  have hA : DataW.TrodAll enc Try.prog W 0 (fun _ => true) true Try.f3.params.toList args.toList ds p := hA0
  rw [Try.params3] at hA hval
  obtain ⟨v0, v1, v2, d0, d1, d2, p0, p1, p2, rfl, rfl, rfl, h0, h1, h2⟩ := trodAll_three hA
  obtain ⟨rfl, rfl⟩ := trodVars_none hV
  obtain ⟨a0, rfl, rfl, rfl, w0⟩ := open_int Try.underlying3 (hval 0 3 v0 rfl rfl) h0
  obtain ⟨a1, rfl, rfl, rfl, w1⟩ := open_int Try.underlying3 (hval 1 3 v1 rfl rfl) h1
  obtain ⟨a2, rfl, rfl, rfl, w2⟩ := open_int Try.underlying3 (hval 2 3 v2 rfl rfl) h2
  refine (walk a0 a1 a2 W).mono fun e W' ⟨he, hb⟩ => ?_
  subst he
  exact ⟨_, rfl, law_post laidOut (by kernel_rfl) (by kernel_rfl) Try.underlying4 rfl hW' rfl hb⟩

theorem proved : Rows.EdgeOfSaid :=
  OpenClaim.holds_of_wide 3 Try.f3 rfl rfl rfl rfl rfl rfl rfl ⟨rfl, rfl, rfl, rfl, rfl⟩ rfl rfl rfl rfl rfl (by kernel_rfl) Try.func3 (by kernel_rfl)
    (of_decide_eq_true (by kernel_rfl)) (by unfold Func.isWrapper; first | (rw [if_pos (by decide +kernel)]; kernel_rfl) | (rw [if_neg (by decide +kernel)]; exact ⟨rfl, rfl⟩))
    (fun os started H enc _ => lifted os started H enc)
end Go.Proofs.Ytcbfccadodikgaa.EdgeOf
