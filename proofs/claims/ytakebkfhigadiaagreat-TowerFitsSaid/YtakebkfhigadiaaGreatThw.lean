/-
  A slice that a call made, and that nobody else knows, as a row of one's own. No condition.
-/
import Derived.Test.YtakebkfhigadiaaGreatRyU
namespace Go.Proofs.YtakebkfhigadiaaGreat.Thw
open Go Go.RowKit Go.Proofs.YtakebkfhigadiaaGreat.Ry

theorem not_alive_nil (n : Nat) : ¬ alive ([] : H) n := fun ⟨_, h, _⟩ => by cases h
theorem hget_one {k : Blk} {n : Nat} {b : Blk} (h : hget [(0, k)] n = some b) : n = 0 ∧ b = k := by
  by_cases e : n = 0
  · subst e
    cases h
    exact ⟨rfl, rfl⟩
  · have : eqn 0 n = false := by rw [← Bool.not_eq_true, eqn_iff]; omega
    simp only [hget, this] at h
    cases h
theorem alive_one {k : Blk} {n : Nat} (h : alive [(0, k)] n) : n = 0 := by
  obtain ⟨b, hb, _⟩ := h
  exact (hget_one hb).1
/-- A contract whose result is one's own, out of one whose result may be appended to. -/
theorem thaw_ok {P : Program} {f : FuncId} {con con' : Con} (ok : ConOk P f con)
    (hcon : ∀ xs h p', con' xs h = some p' → h = [] ∧ ∃ C qs T ct, con xs [] = some ⟨C, .sa (.one (.sl (some (0, T)) ct)), [(0, .tok)], qs⟩ ∧ p' = ⟨p'.C, .sa (.one (.own 0)), [(0, .row T ct)], qs⟩ ∧ (p'.C → C ∧ 0 < ct.n) ∧
      (∀ G G' us, flatIs G ct us → flatIs G' ct us) ∧ (∀ G0 G G0' G' vs, asIs G0 G (ownsAll xs []) qs vs → asIs G0' G' (ownsAll xs []) qs vs)) : ConOk P f con' := by
  refine ⟨ok.1, ?_⟩
  intro args h p' hp hC G vs hh hbs hm hv
  obtain ⟨rfl, C, qs, T, ct, hc, hp', hi, hfl, has⟩ := hcon _ _ _ hp
  obtain ⟨hC1, hn⟩ := hi hC
  have m0 : Mem ⟨G.o, [], ⟨G.w, fun b j => G.bs.K b j ∨ G.bs.X b, fun _ => False⟩, G.w⟩ := ⟨rfl, rfl, rfl, Nat.le_refl _, fun _ _ _ => rfl, fun _ _ _ _ => rfl, fun n ha => (not_alive_nil n ha).elim, fun n _ ha => (not_alive_nil n ha).elim, fun n k hk => (by cases hk), Shp.refl _⟩
  have x0 : Ext G ⟨G.o, [], ⟨G.w, fun b j => G.bs.K b j ∨ G.bs.X b, fun _ => False⟩, G.w⟩ :=
    { ok := fun b j h => ⟨h.lt, fun hb => .inl (h.old (by rw [hbs]; exact hb)), fun n ha => (not_alive_nil n ha).elim⟩
      cell := fun _ _ _ => rfl
      shp := Shp.refl _
      ids := fun n k hk => by rw [hh] at hk; cases hk }
  refine (ok.2 args [] _ hc hC1 _ vs rfl rfl m0 (sasIs.ext x0 hv)).mono fun e w' ⟨v, G1, he, hw, hb1, hh1, m1, hr1, hs1⟩ => ?_
  subst hw
  have hr1 : ct.is G1 v ∧ TokOk G1 ct.sz v (some (0, T)) := hr1
  obtain ⟨hct, htok⟩ := hr1
  have hid : hget G1.h 0 = some .tok := by rw [hh1]; rfl
  have hr : roomAt G1 0 T ct.sz v := by
    unfold TokOk at htok
    simp only [hid] at htok
    exact htok
  have os1 := m1.os
  have tp1 := m1.tape
  have op1 := m1.output
  have sz1 := m1.size
  have bl1 := m1.block
  have kp1 := m1.keep
  have ow1 := m1.own 0 ⟨_, hid, rfl⟩
  rw [hb1] at os1 tp1 op1 sz1 bl1 kp1 ow1
  simp only at os1 tp1 op1 sz1 bl1 kp1 ow1
  obtain ⟨A1, cap1, xs, e1, hcap1, hcm1, f1, o1, r1⟩ := flat_of_is hct
  rcases hr with ⟨a, rfl⟩ | ⟨g, off, n, cap, cur, q1, q2, q3, q4, q5, q6, rfl⟩
  · simp only [Value.slice.injEq] at e1
    omega
  · rw [e1] at q1
    simp only [Value.slice.injEq] at q1
    obtain ⟨rfl, rfl, rfl⟩ := q1
    obtain ⟨hg1, hg2⟩ := ow1 _ _ q2
    have hge : G.w.heap.size ≤ g := hg2.elim id fun h => h.1.elim
    have hcur : cur = (xs ++ cur.toList.drop xs.length).toArray := by
      apply Array.ext'
      rw [List.toList_toArray]
      apply List.ext_getElem?
      intro j
      by_cases hj : j < xs.length
      · rw [List.getElem?_append_left hj]
        have hu : xs[j]? = some xs[j] := List.getElem?_eq_getElem hj
        obtain ⟨g', o', e5, hc5⟩ := r1 (by omega)
        cases e5
        have := (hc5 j _ hu).cell
        unfold World.cell? at this
        simp only [q3, Nat.zero_add] at this
        rw [if_neg (by simp)] at this
        rw [hu, Array.getElem?_toList]
        exact this
      · rw [List.getElem?_append_right (by omega), List.getElem?_drop]
        congr 1
        omega
    rw [hp']
    refine ⟨v, ⟨fun _ => some (g, 0), [(0, .row T ct)], G.bs, G1.w⟩, he, rfl, rfl, rfl, ⟨?_, ?_, ?_, ?_, ?_, ?_, ?_, ?_, ?_, ?_⟩, ?_, has _ _ _ _ _ hs1⟩
    · rw [hbs]
      exact os1
    · rw [hbs]
      exact tp1
    · rw [hbs]
      exact op1
    · rw [hbs]
      exact sz1
    · intro k hk _
      rw [hbs] at hk ⊢
      exact bl1 k hk id
    · intro b j hb hk
      rw [hbs] at hb ⊢
      exact kp1 b j hb (.inl hk)
    · intro n _ g' m h
      cases h
      exact ⟨hg1, .inl (by rw [hbs]; exact hge)⟩
    · intro n n' ha ha' _ _ _ _ _
      rw [alive_one ha, alive_one ha']
    · intro n k hk
      obtain ⟨rfl, rfl⟩ := hget_one hk
      exact .inr ⟨g, [], xs, cur.toList.drop xs.length, rfl, by rw [List.nil_append, ← hcur]; exact q3, hfl _ _ _ f1, o1⟩
    · have := m1.shp
      rw [hb1] at this
      rw [hbs]
      exact this
    · refine ⟨⟨_, _, _, e1⟩, ?_⟩
      show ownIs _ _ _ _
      exact .inr ⟨g, 0, cap1, T, cur.size, rfl, e1, q4, q5, by unfold World.shape?; simp only [q3], by omega, by omega⟩
/-- A contract out of two that hold under conditions. -/
theorem cases_ok {P : Program} {f : FuncId} {c c1 c2 : Con} (ok1 : ConOk P f c1) (ok2 : ConOk P f c2)
    (h : ∀ xs h p, c xs h = some p → p.C → (∃ C, c1 xs h = some ⟨C, p.r, p.h, p.as⟩ ∧ C) ∨ ∃ C, c2 xs h = some ⟨C, p.r, p.h, p.as⟩ ∧ C) : ConOk P f c := by
  refine ⟨ok1.1, fun args h' p hp hC G vs hh hbs hm hv => ?_⟩
  rcases h _ _ _ hp hC with ⟨C, h1, h2⟩ | ⟨C, h1, h2⟩
  · exact ok1.2 args h' _ h1 h2 G vs hh hbs hm hv
  · exact ok2.2 args h' _ h1 h2 G vs hh hbs hm hv
end Go.Proofs.YtakebkfhigadiaaGreat.Thw
