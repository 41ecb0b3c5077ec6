/-
  EidAfter: for every top, limit and name the call tells true, and nothing that was there turns. No condition.
-/
import Derived.Test.YtcbfccadodikgaaRows
import Derived.Test.YtcbfccadodikgaaEid
namespace Go.Proofs.Ytcbfccadodikgaa.EidAfter
open Go.RowKit Go.Proofs.Ytcbfccadodikgaa.Law Go.Proofs.Ytcbfccadodikgaa.Cmp Go.Proofs.Ytcbfccadodikgaa.Eid
open Go.ChangeShapes Go.WideShapes Go.ChangeAt Go.Joins

theorem awake_any (w : World) : Calls Try.prog 29 #[] w (Makes (.bool true) w) := by
  go_enter Try.func29, Try.ntmps29
  go_wp2_with (go_at_call 30; refine (after_ok 4 9 3 _ (by omega) (by omega)).mono ?_; rintro e w1 ⟨rfl, hb⟩; have hz := hb.size; unfold Named)
  go_ret
  refine ⟨rfl, hb.alloc (by omega) _⟩

/-- How names are ordered. -/
def ecmp (e1 r1 e2 r2 : Int) : Int := orF [sgn e1 e2, sgn r1 r2]
theorem ecmp_eq (e1 r1 e2 r2 : Int) : orF [sgn e1 e2, sgn r1 r2] = ecmp e1 r1 e2 r2 := rfl

theorem tail (c top limit ep root a b : Int) (hab : afterF top limit root = (a, b, c)) : c ≠ 0 ∨ top < ep ∨ ecmp ep root a b < 0 := by
  unfold afterF at hab
  split at hab
  · split at hab
    · simp only [Prod.mk.injEq] at hab
      obtain ⟨rfl, rfl, rfl⟩ := hab
      by_cases h : top < ep
      · exact .inr (.inl h)
      · refine .inr (.inr ?_)
        simp only [ecmp, orF, sgn]
        simp [show ep < top + 1 by omega]
    · simp only [Prod.mk.injEq] at hab
      exact .inl (by omega)
  · simp only [Prod.mk.injEq] at hab
    exact .inl (by omega)

set_option maxHeartbeats 400000 in
theorem walk (top limit ep root : Int) (w : World) : Calls Try.prog 6 #[.int .i64 top, .int .i64 limit, .agg #[.int .i64 ep, .int .i64 root]] w (Yes w) := by
  have ha := after_any top limit root
  have hra := rafter_any top limit root
  have ht := tail (top := top) (limit := limit) (ep := ep) (root := root)
  have HA := Law.hide ha; have HRA := Law.hide hra; have HT := Law.hide ht
  clear ha hra ht
  rcases hx : afterF top limit root with ⟨a, b, c⟩
  have HX := Law.hide hx; clear hx
  have hw : (c != 0) = true ∨ (c != 0) = false ∧ top < ep ∨ (c != 0) = false ∧ ¬ top < ep ∧ ecmp ep root a b < 0 := by
    rcases HT.out _ _ _ HX.out with h | h | h
    · exact .inl (by simpa using h)
    · by_cases h0 : (c != 0) = true
      · exact .inl h0
      · exact .inr (.inl ⟨by simpa using h0, h⟩)
    · by_cases h0 : (c != 0) = true
      · exact .inl h0
      · by_cases h1 : top < ep
        · exact .inr (.inl ⟨by simpa using h0, h1⟩)
        · exact .inr (.inr ⟨by simpa using h0, h1, h⟩)
  clear HT
  rcases hw with hw | ⟨hw, hw1⟩ | ⟨hw, hw1, hw2⟩
  all_goals
    go_enter Try.func6, Try.ntmps6
    go_wp2_with fail
    refine (HA.out _).mono ?_
    rintro e w1 ⟨rfl, hb⟩
    obtain ⟨hc, hf⟩ := bcell hb
    have hz : w.heap.size < w1.heap.size := by have := hb.size; simp at this; omega
    unfold Named
    rw [HX.out]
    go_wp2_with fail
    refine (HRA.out _).mono ?_
    rintro e w2 ⟨rfl, hb2⟩
    obtain ⟨hc2, hf2⟩ := bcell hb2
    have hz2 : w1.heap.size < w2.heap.size := by have := hb2.size; simp at this; omega
    have hbb : Below w.heap.size w w2 := (((Below.refl _ _).alloc (Nat.le_refl _) _).trans (hb.mono (by simp))).alloc (by omega) _ |>.trans (hb2.mono (by simp; omega))
    have HBB := Law.hide hbb; clear hbb
    have hz3 : w.heap.size < w2.heap.size := by omega
    have hq0 : w2.cell? ⟨w.heap.size, 0, none⟩ = some (.int .i64 ep) := by rw [hc2 _ _ (by simp; omega)]; go_simp
    have hq1 : w2.cell? ⟨w.heap.size, 1, none⟩ = some (.int .i64 root) := by rw [hc2 _ _ (by simp; omega)]; go_simp
    unfold Named
    rw [HX.out]
    go_wp2_with fail
  · refine (awake_any _).mono ?_
    rintro e w3 ⟨rfl, hb3⟩
    go_wp2_with fail
    go_ret
    exact ⟨rfl, (HBB.out.alloc HBB.out.size _).trans (hb3.mono (by simp; omega))⟩
  · refine (awake_any _).mono ?_
    rintro e w3 ⟨rfl, hb3⟩
    go_wp2_with fail
    go_ret
    exact ⟨rfl, (HBB.out.alloc HBB.out.size _).trans (hb3.mono (by simp; omega))⟩
  · refine (compare_any _ _ _ _ _).mono ?_
    rintro e w3 ⟨rfl, hb3⟩
    rw [ecmp_eq]
    have hz4 := hb3.size
    go_wp2_with fail
    refine (awake_any _).mono ?_
    rintro e w4 ⟨rfl, hb4⟩
    go_wp2_with fail
    go_ret
    exact ⟨rfl, ((HBB.out.alloc HBB.out.size _).trans (hb3.mono (by simp; omega))).trans (hb4.mono (by simp at hz4; omega))⟩

theorem own : ownKnob Try.prog.godebug = none := by kernel_rfl
theorem laidOut : laidOutB Try.prog = true := by kernel_rfl

set_option maxRecDepth 100000 in
theorem lifted (os : Os) (started : os.Started) (H : Type) (enc : TypeId × Value → H) :
    ReturnsInHanded {} Try.checked os 6 .any (Rows.eidAfterSpec.pre6 enc Try.prog Try.f6 Rows.eidAfterRow.domain false) (Rows.eidAfterSpec.post enc Try.prog Try.f6 false true false false) := by
  refine returnsInHanded_of_change (C := Try.checked) own started (by kernel_rfl) Try.func6
    (ChangeSpec.witness6 (enc := enc) (C := Try.checked) false ⟨#[], #[.int .i64 0, .int .i64 0, .agg #[.int .i64 0, .int .i64 0]], []⟩ 8 (by kernel_rfl) (by kernel_rfl) (by kernel_rfl) (by kernel_rfl)) ?_
  intro W base args ds gs before hval0 hW _ _
  have hval : ∀ (j : Nat) t v, Try.f6.params[j]? = some t → args[j]? = some v → Value.okWide Try.prog W .any base t v := hval0
  have hW' := hW
  obtain ⟨p, q, hA0, hV, rfl, _, _⟩ := hW
  have hA : DataW.TrodAll enc Try.prog W 0 (fun _ => true) true Try.f6.params.toList args.toList ds p := hA0
  rw [Try.params6] at hA hval
  obtain ⟨v0, v1, v2, d0, d1, d2, p0, p1, p2, rfl, rfl, rfl, h0, h1, h2⟩ := trodAll_three hA
  obtain ⟨rfl, rfl⟩ := trodVars_none hV
  obtain ⟨a0, rfl, rfl, rfl, w0⟩ := open_int Try.underlying3 (hval 0 3 v0 rfl rfl) h0
  obtain ⟨a1, rfl, rfl, rfl, w1⟩ := open_int Try.underlying3 (hval 1 3 v1 rfl rfl) h1
  obtain ⟨c0, c1, y0, y1, m, rfl, rfl, rfl, hy0, hy1⟩ := open_agg2 Try.underlying37 (by kernel_rfl) (by kernel_rfl) (hval 2 37 v2 rfl rfl) h2
  obtain ⟨a2, e0, rfl, w2⟩ := DataW.trod_int Try.underlying3 hy0
  obtain ⟨a3, e1, rfl, w3⟩ := DataW.trod_int Try.underlying3 hy1
  simp at e0 e1
  subst e0 e1
  refine (walk a0 a1 a2 a3 W).mono fun e W' ⟨he, hb⟩ => ?_
  subst he
  exact ⟨_, rfl, law_post laidOut (by kernel_rfl) (by kernel_rfl) Try.underlying4 rfl hW' rfl hb⟩

theorem proved : Rows.EidAfterSaid :=
  OpenClaim.holds_of_wide 6 Try.f6 rfl rfl rfl rfl rfl rfl rfl ⟨rfl, rfl, rfl, rfl, rfl⟩ rfl rfl rfl rfl rfl (by kernel_rfl) Try.func6 (by kernel_rfl)
    (of_decide_eq_true (by kernel_rfl)) (by unfold Func.isWrapper; first | (rw [if_pos (by decide +kernel)]; kernel_rfl) | (rw [if_neg (by decide +kernel)]; exact ⟨rfl, rfl⟩))
    (fun os started H enc _ => lifted os started H enc)
end Go.Proofs.Ytcbfccadodikgaa.EidAfter
