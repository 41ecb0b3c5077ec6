/-
  Layer 12's functions: what they tell. No condition.
-/
import Derived.Test.YtcbfccadodikgaaCmp
import Derived.StillTailTactics
namespace Go.Proofs.Ytcbfccadodikgaa.Eid
open Go.RowKit Go.Proofs.Ytcbfccadodikgaa.Law Go.Proofs.Ytcbfccadodikgaa.Cmp

theorem still_of {P : Program} {f : FuncId} {args : Array Value} {w : World} {v : Value} (h : Calls P f args w fun e w' => e = .returned v ∧ w = w') :
    Calls P f args w fun e w' => e = .returned v ∧ w' = w := h.mono fun _ _ ⟨a, b⟩ => ⟨a, b.symm⟩

set_option maxHeartbeats 400000 in
theorem compare_any (e1 r1 e2 r2 : Int) (w : World) : Calls Try.prog 24 #[.agg #[.int .i64 e1, .int .i64 r1], .agg #[.int .i64 e2, .int .i64 r2]] w
    (Makes (.int .i64 (orF [sgn e1 e2, sgn r1 r2])) w) := by
  go_enter Try.func24, Try.ntmps24
  go_wp2
  refine wp_region_still_tail 10 (by kernel_rfl) (by kernel_rfl) ?_
  simp only [List.take_succ_cons, List.take_zero, List.drop_succ_cons, List.drop_zero]
  have hb : Below w.heap.size w (((w.alloc (Obj.cells #[Value.int IntKind.i64 e1, Value.int IntKind.i64 r1] 37)).alloc (Obj.cells #[Value.int IntKind.i64 e2, Value.int IntKind.i64 r2] 37)).drew) :=
    (((Below.refl _ _).alloc (Nat.le_refl _) _).alloc (by simp) _).drew
  have hc : (((w.alloc (Obj.cells #[Value.int IntKind.i64 e1, Value.int IntKind.i64 r1] 37)).alloc (Obj.cells #[Value.int IntKind.i64 e2, Value.int IntKind.i64 r2] 37)).drew).cell? ⟨w.heap.size, 0, none⟩ = some (.int .i64 e1) := by go_simp
  have hd : (((w.alloc (Obj.cells #[Value.int IntKind.i64 e1, Value.int IntKind.i64 r1] 37)).alloc (Obj.cells #[Value.int IntKind.i64 e2, Value.int IntKind.i64 r2] 37)).drew).cell? ⟨w.heap.size, 1, none⟩ = some (.int .i64 r1) := by go_simp
  have he : (((w.alloc (Obj.cells #[Value.int IntKind.i64 e1, Value.int IntKind.i64 r1] 37)).alloc (Obj.cells #[Value.int IntKind.i64 e2, Value.int IntKind.i64 r2] 37)).drew).cell? ⟨w.heap.size + 1, 0, none⟩ = some (.int .i64 e2) := by go_simp
  have hf : (((w.alloc (Obj.cells #[Value.int IntKind.i64 e1, Value.int IntKind.i64 r1] 37)).alloc (Obj.cells #[Value.int IntKind.i64 e2, Value.int IntKind.i64 r2] 37)).drew).cell? ⟨w.heap.size + 1, 1, none⟩ = some (.int .i64 r2) := by go_simp
  change wpStill _ _ (World.drew _) (fun a' => wpList _ _ _ _ a' (World.drew _)) _ _
  generalize (((w.alloc (Obj.cells #[Value.int IntKind.i64 e1, Value.int IntKind.i64 r1] 37)).alloc (Obj.cells #[Value.int IntKind.i64 e2, Value.int IntKind.i64 r2] 37)).drew) = w2 at *
  repeat still_step
  still_call (still_of (cmp_any _ _ _))
  repeat still_step
  still_call (still_of (cmp_any _ _ _))
  repeat still_step
  refine wpStill_nil ?_
  have HB := Law.hide hb; clear hb hc hd he hf
  go_wp2_with fail
  refine (or_any [sgn e1 e2, sgn r1 r2] w2.heap.size _ (by simp) ?_).mono ?_
  · intro i x hx
    match i, hx with
    | 0, hx => simp at hx; subst hx; go_simp
    | 1, hx => simp at hx; subst hx; go_simp
  rintro e w' ⟨rfl, rfl⟩
  go_wp2_with fail
  go_ret
  exact ⟨rfl, HB.out.alloc HB.out.size _⟩

def nodeB (n : Int) : Bool := decide (1 ≤ n ∧ n ≤ 64)

theorem node_any (n : Int) (w : World) : Calls Try.prog 16 #[.int .i64 n] w fun e w' => e = .returned (.bool (nodeB n)) ∧ w = w' := by
  by_cases h1 : 1 ≤ n <;> by_cases h2 : n ≤ 64
  all_goals
    have hb : nodeB n = decide (1 ≤ n ∧ n ≤ 64) := rfl
    simp only [h1, h2, and_true, and_false, decide_true, decide_false] at hb
    have HB := Law.hide hb; clear hb
    go_enter Try.func16, Try.ntmps16
    go_wp2
    go_ret
    exact ⟨ret_bool (by first | (rw [HB.out]; done) | (rw [HB.out]; simp [h1, h2])), rfl⟩
theorem rnode_any (n : Int) (w : World) : Calls Try.prog 17 #[.int .i64 n] w fun e w' => e = .returned (.bool (nodeB n)) ∧ w = w' := by
  by_cases h1 : 1 ≤ n <;> by_cases h2 : n ≤ 64
  all_goals
    have hb : nodeB n = decide (1 ≤ n ∧ n ≤ 64) := rfl
    simp only [h1, h2, and_true, and_false, decide_true, decide_false] at hb
    have HB := Law.hide hb; clear hb
    go_enter Try.func17, Try.ntmps17
    go_wp2
    go_ret
    exact ⟨ret_bool (by first | (rw [HB.out]; done) | (rw [HB.out]; simp [h1, h2])), rfl⟩

/-- The next name: epoch, root, why not. -/
def afterF (top limit root : Int) : Int × Int × Int :=
  if 1 ≤ root ∧ root ≤ 64 ∧ 0 ≤ top ∧ top ≤ 2147483647 ∧ 1 ≤ limit ∧ limit ≤ 2147483647 then (if top < limit then (top + 1, root, 0) else (0, 0, 10)) else (0, 0, 1)

def Named (a : Int × Int × Int) : Value := .tuple #[.agg #[.int .i64 a.1, .int .i64 a.2.1], .int .i64 a.2.2]


theorem after_bad (top limit root : Int) (w : World) (h : ¬ (1 ≤ root ∧ root ≤ 64 ∧ 0 ≤ top ∧ top ≤ 2147483647 ∧ 1 ≤ limit ∧ limit ≤ 2147483647)) :
    Calls Try.prog 30 #[.int .i64 top, .int .i64 limit, .int .i64 root] w (Makes (Named (0, 0, 1)) w) := by
  have hn : nodeB root = false ∨ nodeB root = true ∧ top < 0 ∨ nodeB root = true ∧ 0 ≤ top ∧ 2147483647 < top ∨ nodeB root = true ∧ 0 ≤ top ∧ top ≤ 2147483647 ∧ limit < 1 ∨ nodeB root = true ∧ 0 ≤ top ∧ top ≤ 2147483647 ∧ 1 ≤ limit ∧ 2147483647 < limit := by
    unfold nodeB
    simp only [decide_eq_true_eq, decide_eq_false_iff_not]
    omega
  clear h
  rcases hn with h | ⟨h, h1⟩ | ⟨h, h1, h2⟩ | ⟨h, h1, h2, h3⟩ | ⟨h, h1, h2, h3, h4⟩
  all_goals
    go_enter Try.func30, Try.ntmps30
    go_wp2_with (go_at_call 16; refine (node_any _ _).mono ?_; rintro e w' ⟨rfl, rfl⟩)
    exact bodyPost_ret (v := Named (0, 0, 1)) (by simp [results, Try.results30, go_sem, Named]) rfl ⟨rfl, by first | exact (Below.refl _ _).alloc (Nat.le_refl _) _ | exact ((Below.refl _ _).alloc (Nat.le_refl _) _).setCell (by simp) _⟩
theorem after_over (top limit root : Int) (w : World) (h : 1 ≤ root ∧ root ≤ 64 ∧ 0 ≤ top ∧ top ≤ 2147483647 ∧ 1 ≤ limit ∧ limit ≤ 2147483647) (hl : limit ≤ top) :
    Calls Try.prog 30 #[.int .i64 top, .int .i64 limit, .int .i64 root] w (Makes (Named (0, 0, 10)) w) := by
  have hn : nodeB root = true := by unfold nodeB; simp; omega
  obtain ⟨_, _, h1, h2, h3, h4⟩ := h
  go_enter Try.func30, Try.ntmps30
  go_wp2_with (go_at_call 16; refine (node_any _ _).mono ?_; rintro e w' ⟨rfl, rfl⟩)
  exact bodyPost_ret (v := Named (0, 0, 10)) (by simp [results, Try.results30, go_sem, Named]) rfl ⟨rfl, by first | exact (Below.refl _ _).alloc (Nat.le_refl _) _ | exact ((Below.refl _ _).alloc (Nat.le_refl _) _).setCell (by simp) _⟩
theorem after_ok (top limit root : Int) (w : World) (h : 1 ≤ root ∧ root ≤ 64 ∧ 0 ≤ top ∧ top ≤ 2147483647 ∧ 1 ≤ limit ∧ limit ≤ 2147483647) (hl : top < limit) :
    Calls Try.prog 30 #[.int .i64 top, .int .i64 limit, .int .i64 root] w (Makes (Named (top + 1, root, 0)) w) := by
  have hn : nodeB root = true := by unfold nodeB; simp; omega
  obtain ⟨_, _, h1, h2, h3, h4⟩ := h
  go_enter Try.func30, Try.ntmps30
  go_wp2_with (go_at_call 16; refine (node_any _ _).mono ?_; rintro e w' ⟨rfl, rfl⟩)
  exact bodyPost_ret (v := Named (top + 1, root, 0)) (by simp [results, Try.results30, go_sem, Named]) rfl ⟨rfl, by first | exact (Below.refl _ _).alloc (Nat.le_refl _) _ | exact ((Below.refl _ _).alloc (Nat.le_refl _) _).setCell (by simp) _⟩
theorem after_any (top limit root : Int) (w : World) :
    Calls Try.prog 30 #[.int .i64 top, .int .i64 limit, .int .i64 root] w (Makes (Named (afterF top limit root)) w) := by
  unfold afterF
  split
  · split
    · exact after_ok _ _ _ _ ‹_› ‹_›
    · exact after_over _ _ _ _ ‹_› (by omega)
  · exact after_bad _ _ _ _ ‹_›

theorem rafter_bad (top limit root : Int) (w : World) (h : ¬ (1 ≤ root ∧ root ≤ 64 ∧ 0 ≤ top ∧ top ≤ 2147483647 ∧ 1 ≤ limit ∧ limit ≤ 2147483647)) :
    Calls Try.prog 31 #[.int .i64 top, .int .i64 limit, .int .i64 root] w (Makes (Named (0, 0, 1)) w) := by
  have hn : nodeB root = false ∨ nodeB root = true ∧ top < 0 ∨ nodeB root = true ∧ 0 ≤ top ∧ 2147483647 < top ∨ nodeB root = true ∧ 0 ≤ top ∧ top ≤ 2147483647 ∧ limit < 1 ∨ nodeB root = true ∧ 0 ≤ top ∧ top ≤ 2147483647 ∧ 1 ≤ limit ∧ 2147483647 < limit := by
    unfold nodeB
    simp only [decide_eq_true_eq, decide_eq_false_iff_not]
    omega
  clear h
  rcases hn with h | ⟨h, h1⟩ | ⟨h, h1, h2⟩ | ⟨h, h1, h2, h3⟩ | ⟨h, h1, h2, h3, h4⟩
  all_goals
    go_enter Try.func31, Try.ntmps31
    go_wp2_with (go_at_call 17; refine (rnode_any _ _).mono ?_; rintro e w' ⟨rfl, rfl⟩)
    exact bodyPost_ret (v := Named (0, 0, 1)) (by simp [results, Try.results31, go_sem, Named]) rfl ⟨rfl, by first | exact (Below.refl _ _).alloc (Nat.le_refl _) _ | exact ((Below.refl _ _).alloc (Nat.le_refl _) _).setCell (by simp) _⟩
theorem rafter_over (top limit root : Int) (w : World) (h : 1 ≤ root ∧ root ≤ 64 ∧ 0 ≤ top ∧ top ≤ 2147483647 ∧ 1 ≤ limit ∧ limit ≤ 2147483647) (hl : limit ≤ top) :
    Calls Try.prog 31 #[.int .i64 top, .int .i64 limit, .int .i64 root] w (Makes (Named (0, 0, 10)) w) := by
  have hn : nodeB root = true := by unfold nodeB; simp; omega
  obtain ⟨_, _, h1, h2, h3, h4⟩ := h
  go_enter Try.func31, Try.ntmps31
  go_wp2_with (go_at_call 17; refine (rnode_any _ _).mono ?_; rintro e w' ⟨rfl, rfl⟩)
  exact bodyPost_ret (v := Named (0, 0, 10)) (by simp [results, Try.results31, go_sem, Named]) rfl ⟨rfl, by first | exact (Below.refl _ _).alloc (Nat.le_refl _) _ | exact ((Below.refl _ _).alloc (Nat.le_refl _) _).setCell (by simp) _⟩
theorem rafter_ok (top limit root : Int) (w : World) (h : 1 ≤ root ∧ root ≤ 64 ∧ 0 ≤ top ∧ top ≤ 2147483647 ∧ 1 ≤ limit ∧ limit ≤ 2147483647) (hl : top < limit) :
    Calls Try.prog 31 #[.int .i64 top, .int .i64 limit, .int .i64 root] w (Makes (Named (top + 1, root, 0)) w) := by
  have hn : nodeB root = true := by unfold nodeB; simp; omega
  obtain ⟨_, _, h1, h2, h3, h4⟩ := h
  go_enter Try.func31, Try.ntmps31
  go_wp2_with (go_at_call 17; refine (rnode_any _ _).mono ?_; rintro e w' ⟨rfl, rfl⟩)
  exact bodyPost_ret (v := Named (top + 1, root, 0)) (by simp [results, Try.results31, go_sem, Named]) rfl ⟨rfl, by first | exact (Below.refl _ _).alloc (Nat.le_refl _) _ | exact ((Below.refl _ _).alloc (Nat.le_refl _) _).setCell (by simp) _⟩
theorem rafter_any (top limit root : Int) (w : World) :
    Calls Try.prog 31 #[.int .i64 top, .int .i64 limit, .int .i64 root] w (Makes (Named (afterF top limit root)) w) := by
  unfold afterF
  split
  · split
    · exact rafter_ok _ _ _ _ ‹_› ‹_›
    · exact rafter_over _ _ _ _ ‹_› (by omega)
  · exact rafter_bad _ _ _ _ ‹_›
end Go.Proofs.Ytcbfccadodikgaa.Eid
