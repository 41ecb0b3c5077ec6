/-
  The reckoner's rules hold in the model: states that say less; calls of functions. No condition.
-/
import Derived.Test.YtakebkfhigadiaaRyR
namespace Go.Proofs.Ytakebkfhigadiaa.Ry
open Go Go.RowKit

section
variable {P : Program} {cx : Cx} {bs : Bs} {gv : List Value} {st : St} {ν : Nat → Option (Nat × Nat)} {a : Act} {w : World} {G G' : Gm}

/-! ## States that say less -/
theorem memN_iff {n : Nat} {l : List Nat} : memN n l = true ↔ n ∈ l := by
  unfold memN
  rw [List.any_eq_true]
  constructor
  · rintro ⟨x, hx, e⟩
    rw [eqn_eq e]
    exact hx
  · intro h
    exact ⟨n, h, eqn_refl n⟩
theorem isAt_eq {m : List (Nat × Nat)} {i k : Nat} (h : isAt m i k = true) : look m i = some k := by
  unfold isAt at h
  split at h
  · rename_i n hn
    rw [hn, eqn_eq h]
  · cases h
/-- How the poorer state's blocks stand to the richer one's. -/
structure LeG (M : Mt) (G G' : Gm) : Prop where
  sub : Sub G G'
  w : G'.w = G.w
  h : M.h = G.h
  h' : M.h' = G'.h
  mem : Mem G
  ids : ∀ i k', hget G'.h i = some k' → (∃ k b0, look M.m i = some k ∧ hget G.h k = some b0 ∧ blkLe M b0 k' ∧ G'.o i = G.o k) ∨ (voidB k' ∧ look M.m i = none ∧ G'.o i = none)
  free : M.fr = true → ∀ k, memN k M.ks = false → (∃ b, hget G.h k = some b ∧ b.alive = true) → ∀ g m, G.o k = some (g, m) → ∀ j, G'.ok g j
theorem ctLe_eq {x y : Ct} (hl : ctLe x y) : y = x := by
  unfold ctLe at hl
  split at hl
  · obtain ⟨rfl, rfl⟩ := hl; rfl
  · obtain ⟨rfl, rfl⟩ := hl; rfl
  · exact hl.elim
theorem none_is {c : Ct} (h : c.none?) : c.is G (.slice none 0 0) := by
  cases c with
  | ints k l => have h : l = [] := h; subst h; exact rowIs_nil
  | recs s l => have h : l = [] := h; subst h; exact rowIs_nil
theorem none_n {c : Ct} (h : c.none?) : c.n = 0 := by
  cases c with
  | ints k l => have h : l = [] := h; subst h; rfl
  | recs s l => have h : l = [] := h; subst h; rfl
theorem ptrAt.le {M : Mt} (s : LeG M G G') {b b' o : Nat} {v : Value} (h1 : isAt M.m b' b = true) (h2 : hasB M.h' b' = true) (hp : ptrAt G b o v) : ptrAt G' b' o v := by
  have h1 := isAt_eq h1
  unfold hasB at h2
  rw [s.h'] at h2
  unfold ptrAt at hp ⊢
  have key : ∀ k', hget G'.h b' = some k' → ∃ b0, hget G.h b = some b0 ∧ blkLe M b0 k' ∧ G'.o b' = G.o b := by
    intro k' hk
    rcases s.ids b' k' hk with ⟨k, b0, q1, q2, q3, q4⟩ | ⟨_, q1, _⟩
    · rw [h1] at q1
      cases q1
      exact ⟨b0, q2, q3, q4⟩
    · rw [h1] at q1
      cases q1
  split at h2
  · rename_i t cs hk
    obtain ⟨b0, q1, q2, q3⟩ := key _ hk
    rw [q1] at hp
    rw [hk]
    cases b0 with
    | cells t0 c0 =>
      obtain ⟨g, g1, g2⟩ := hp
      exact ⟨g, q3.trans g1, g2⟩
    | _ => exact q2.elim
  · rename_i t c hk
    obtain ⟨b0, q1, q2, q3⟩ := key _ hk
    rw [q1] at hp
    rw [hk]
    cases b0 with
    | row t0 c0 =>
      obtain ⟨g, g1, g2⟩ := hp
      exact ⟨g, q3.trans g1, g2⟩
    | _ => exact q2.elim
  · cases h2
theorem cppAt.le {M : Mt} (s : LeG M G G') {b b' o q : Nat} (h1 : isAt M.m b' b = true) (h2 : hasB M.h' b' = true) (hp : cppAt G b o q) : cppAt G' b' o q := by
  obtain ⟨A, e1, e2⟩ := hp
  exact ⟨A, e1.sub s.sub, ptrAt.le s h1 h2 e2⟩
theorem SC.le_is {M : Mt} {x y : SC} {v : Value} (s : LeG M G G') (hl : x.le M y) (hv : x.is G v) : y.is G' v := by
  unfold SC.le at hl
  split at hl
  · exact trivial
  · subst hl; exact hv
  · obtain ⟨rfl, rfl⟩ := hl; exact hv
  · obtain ⟨rfl, rfl⟩ := hl; exact hv
  · subst hl; exact hv
  · subst hl; exact hv
  · have hv : v = .slice none 0 0 := hv
    subst hv
    exact ⟨none_is hl, trivial⟩
  · rename_i i e c
    obtain ⟨h1, h2, h3⟩ := hl
    have hv : v = .slice none 0 0 := hv
    subst hv
    refine ⟨none_is h1, tok_of ?_ (.inl ⟨none, rfl⟩)⟩
    unfold tokAt at h3
    rw [s.h'] at h3
    split at h3
    · assumption
    · cases h3
  · rename_i i
    obtain ⟨h1, h2⟩ := hl
    have hv : v = .slice none 0 0 := hv
    subst hv
    refine ⟨⟨none, 0, 0, rfl⟩, ?_⟩
    unfold voidR at h2
    rw [s.h'] at h2
    unfold unbound at h1
    split at h2
    · rename_i t c hk
      unfold ownAt
      rw [hk]
      rcases s.ids i _ hk with ⟨k, b0, q1, _⟩ | ⟨_, _, q3⟩
      · rw [q1] at h1
        cases h1
      · exact .inl ⟨none_n h2, q3, none, rfl⟩
    · rename_i t e c q hk
      unfold ownAt
      rw [hk]
      rcases s.ids i _ hk with ⟨k, b0, q1, _⟩ | ⟨_, _, q3⟩
      · rw [q1] at h1
        cases h1
      · exact .inl ⟨none_n h2, q3, none, rfl⟩
    · exact h2.elim
  · rename_i b o b' o'
    obtain ⟨h1, h2, rfl⟩ := hl
    obtain ⟨hA, hp⟩ := hv
    refine ⟨hA, ?_⟩
    have h1 := isAt_eq h1
    unfold hasB at h2
    rw [s.h'] at h2
    unfold ptrAt at hp ⊢
    have key : ∀ k', hget G'.h b' = some k' → ∃ b0, hget G.h b = some b0 ∧ blkLe M b0 k' ∧ G'.o b' = G.o b := by
      intro k' hk
      rcases s.ids b' k' hk with ⟨k, b0, q1, q2, q3, q4⟩ | ⟨_, q1, _⟩
      · rw [h1] at q1
        cases q1
        exact ⟨b0, q2, q3, q4⟩
      · rw [h1] at q1
        cases q1
    split at h2
    · rename_i t cs hk
      obtain ⟨b0, q1, q2, q3⟩ := key _ hk
      rw [q1] at hp
      rw [hk]
      cases b0 with
      | cells t0 c0 =>
        obtain ⟨g, g1, g2⟩ := hp
        exact ⟨g, q3.trans g1, g2⟩
      | _ => exact q2.elim
    · rename_i t c hk
      obtain ⟨b0, q1, q2, q3⟩ := key _ hk
      rw [q1] at hp
      rw [hk]
      cases b0 with
      | row t0 c0 =>
        obtain ⟨g, g1, g2⟩ := hp
        exact ⟨g, q3.trans g1, g2⟩
      | _ => exact q2.elim
    · cases h2
  · rename_i g0 b g1 b'
    obtain ⟨h1, h2, rfl⟩ := hl
    obtain ⟨hA, hp⟩ := hv
    refine ⟨hA, ?_⟩
    have h1 := isAt_eq h1
    unfold hasB at h2
    rw [s.h'] at h2
    unfold fnAt at hp ⊢
    have key : ∀ k', hget G'.h b' = some k' → ∃ b0, hget G.h b = some b0 ∧ blkLe M b0 k' ∧ G'.o b' = G.o b := by
      intro k' hk
      rcases s.ids b' k' hk with ⟨k, b0, q1, q2, q3, q4⟩ | ⟨_, q1, _⟩
      · rw [h1] at q1
        cases q1
        exact ⟨b0, q2, q3, q4⟩
      · rw [h1] at q1
        cases q1
    split at h2
    · rename_i t cs hk
      obtain ⟨b0, q1, q2, q3⟩ := key _ hk
      rw [q1] at hp
      rw [hk]
      cases b0 with
      | cells t0 c0 =>
        obtain ⟨g, g1, g2⟩ := hp
        exact ⟨g, q3.trans g1, g2⟩
      | _ => exact q2.elim
    · rename_i t c hk
      obtain ⟨b0, q1, q2, q3⟩ := key _ hk
      rw [q1] at hp
      rw [hk]
      cases b0 with
      | row t0 c0 =>
        obtain ⟨g, g1, g2⟩ := hp
        exact ⟨g, q3.trans g1, g2⟩
      | _ => exact q2.elim
    · cases h2
  · rename_i b b'
    obtain ⟨h1, h2⟩ := hl
    obtain ⟨hA, hp⟩ := hv
    refine ⟨hA, ?_⟩
    have h1 := isAt_eq h1
    unfold hasR at h2
    rw [s.h'] at h2
    unfold ownAt at hp ⊢
    split at h2
    · rename_i t c hk
      rcases s.ids b' _ hk with ⟨k, b0, q1, q2, q3, q4⟩ | ⟨_, q1, _⟩
      · rw [h1] at q1
        cases q1
        rw [q2] at hp
        rw [hk]
        cases b0 with
        | row t0 c0 =>
          obtain ⟨_, q3⟩ := q3
          have e := ctLe_eq q3
          subst e
          rcases hp with ⟨z0, z1, z2⟩ | ⟨g, off, cap, t9, k9, g1, g2, g3, g4, g5, g6⟩
          · exact .inl ⟨z0, q4.trans z1, z2⟩
          · exact .inr ⟨g, off, cap, t9, k9, q4.trans g1, g2, g3, g4, by rw [s.w]; exact g5, g6⟩
        | _ => exact q3.elim
      · rw [h1] at q1
        cases q1
    · rename_i t e c q hk
      rcases s.ids b' _ hk with ⟨k, b0, q1, q2, q3, q4⟩ | ⟨_, q1, _⟩
      · rw [h1] at q1
        cases q1
        rw [q2] at hp
        rw [hk]
        cases b0 with
        | rr t0 e0 c0 q0 =>
          obtain ⟨_, q3, _, _⟩ := q3
          have e := ctLe_eq q3
          subst e
          rcases hp with ⟨z0, z1, z2⟩ | ⟨g, off, cap, t9, k9, g1, g2, g3, g4, g5, g6⟩
          · exact .inl ⟨z0, q4.trans z1, z2⟩
          · exact .inr ⟨g, off, cap, t9, k9, q4.trans g1, g2, g3, g4, by rw [s.w]; exact g5, g6⟩
        | _ => exact q3.elim
      · rw [h1] at q1
        cases q1
    · cases h2
  · rename_i b b'
    obtain ⟨h1, h2⟩ := hl
    obtain ⟨hA, hp⟩ := hv
    refine ⟨hA, ?_⟩
    have h1 := isAt_eq h1
    unfold hasM at h2
    rw [s.h'] at h2
    unfold mpAt at hp ⊢
    split at h2
    · rename_i c hk
      rcases s.ids b' _ hk with ⟨k, b0, q1, q2, q3, q4⟩ | ⟨_, q1, _⟩
      · rw [h1] at q1
        cases q1
        rw [q2] at hp
        rw [hk]
        cases b0 with
        | mp c0 =>
          obtain ⟨g, g1, g2⟩ := hp
          exact ⟨g, q4.trans g1, g2⟩
        | _ => exact q3.elim
      · rw [h1] at q1
        cases q1
    · cases h2
  · rename_i b i j b' i' j'
    obtain ⟨h1, h2, rfl, rfl⟩ := hl
    obtain ⟨hA, hp⟩ := hv
    refine ⟨hA, ?_⟩
    have h1 := isAt_eq h1
    unfold hasR at h2
    rw [s.h'] at h2
    unfold rpAt at hp ⊢
    split at h2
    · rename_i t c hk
      rcases s.ids b' _ hk with ⟨k, b0, q1, q2, q3, q4⟩ | ⟨_, q1, _⟩
      · rw [h1] at q1
        cases q1
        rw [q2] at hp
        rw [hk]
        cases b0 with
        | row t0 c0 =>
          obtain ⟨_, q3⟩ := q3
          have e := ctLe_eq q3
          subst e
          obtain ⟨g, off, g1, g2⟩ := hp
          exact ⟨g, off, q4.trans g1, g2⟩
        | _ => exact q3.elim
      · rw [h1] at q1
        cases q1
    · rename_i t e c q hk
      rcases s.ids b' _ hk with ⟨k, b0, q1, q2, q3, q4⟩ | ⟨_, q1, _⟩
      · rw [h1] at q1
        cases q1
        rw [q2] at hp
        rw [hk]
        cases b0 with
        | rr t0 e0 c0 q0 =>
          obtain ⟨_, q3, _, _⟩ := q3
          have e := ctLe_eq q3
          subst e
          obtain ⟨g, off, g1, g2⟩ := hp
          exact ⟨g, off, q4.trans g1, g2⟩
        | _ => exact q3.elim
      · rw [h1] at q1
        cases q1
    · cases h2
  · rename_i b o b' o'
    obtain ⟨h1, h2, rfl⟩ := hl
    obtain ⟨b9, e9, hp⟩ := hv
    exact ⟨b9, e9, cppAt.le s h1 h2 hp⟩
  · rename_i g0 b o g1 b' o'
    obtain ⟨h1, h2, rfl, rfl⟩ := hl
    obtain ⟨b9, e9, hp⟩ := hv
    exact ⟨b9, e9, cppAt.le s h1 h2 hp⟩
  · rename_i g0 b c g1 b' c'
    obtain ⟨h1, h2, h3, h4, rfl⟩ := hl
    obtain ⟨p, q, e, p1, p2⟩ := hv
    exact ⟨p, q, e, ⟨p1.1, ptrAt.le s h1 h2 p1.2⟩, p2.1, ptrAt.le s h3 h4 p2.2⟩
  · rename_i b c
    obtain ⟨hA, hp⟩ := hv
    unfold ownAt at hp
    rw [s.h] at hl
    split at hl
    · rename_i t c0 hk
      obtain ⟨h1, h2⟩ := hl
      simp only [Bool.and_eq_true, Bool.not_eq_true'] at h1
      have e := ctLe_eq h2
      subst e
      rw [hk] at hp
      rcases hp with ⟨z0, _, A0, rfl⟩ | ⟨g, off, cap, _, _, g1, rfl, g3, g4, _⟩
      · exact ⟨nil_is z0, trivial⟩
      obtain ⟨pre, vs, rest, h0, e2, e3, e4⟩ := s.mem.rowAt hk g1
      subst h0
      refine ⟨is_of_flat (e3.sub s.sub) (fun j u hu => ⟨s.free h1.1 b h1.2 ⟨_, hk, rfl⟩ g _ g1 _, ?_, e4 u (List.mem_of_getElem? hu)⟩) g3 g4, trivial⟩
      rw [s.w]
      exact row_cell e2 hu
    · rename_i t e0 c0 q0 hk
      obtain ⟨h1, h2⟩ := hl
      simp only [Bool.and_eq_true, Bool.not_eq_true'] at h1
      have e := ctLe_eq h2
      subst e
      rw [hk] at hp
      rcases hp with ⟨z0, _, A0, rfl⟩ | ⟨g, off, cap, _, _, g1, rfl, g3, g4, _⟩
      · exact ⟨nil_is z0, trivial⟩
      obtain ⟨pre, vs, rest, h0, e2, e3, e4, _⟩ := s.mem.rrAt hk g1
      subst h0
      refine ⟨is_of_flat (e3.sub s.sub) (fun j u hu => ⟨s.free h1.1 b h1.2 ⟨_, hk, rfl⟩ g _ g1 _, ?_, e4 u (List.mem_of_getElem? hu)⟩) g3 g4, trivial⟩
      rw [s.w]
      exact row_cell e2 hu
    · rename_i c0 hk
      have e := ctLe_eq hl
      subst e
      rw [hk] at hp
      exact ⟨Ct.is.sub s.sub hp, trivial⟩
    · exact hl.elim
  · subst hl; exact hv
  · rename_i b e c b' e' c'
    obtain ⟨⟨h1, h2, rfl⟩, h3⟩ := hl
    have h1 := isAt_eq h1
    have ec := ctLe_eq h3
    subst ec
    obtain ⟨k1, k2⟩ := hv
    refine ⟨Ct.is.sub s.sub k1, ?_⟩
    unfold tokAt at h2
    rw [s.h'] at h2
    split at h2
    · rename_i hk
      refine tok_of hk ?_
      rcases s.ids b' _ hk with ⟨k, b0, q1, q2, q3, q4⟩ | ⟨_, q2, _⟩
      · rw [h1] at q1
        cases q1
        cases b0 with
        | tok =>
          unfold TokOk at k2
          simp only [q2] at k2
          rcases k2 with k2 | ⟨g, off, n, cap, cur, r1, r2, r3, r⟩
          · exact .inl k2
          · exact .inr ⟨g, off, n, cap, cur, r1, q4.trans r2, by rw [s.w]; exact r3, r⟩
        | _ => exact q3.elim
      · rw [h1] at q2
        cases q2
    · cases h2
  · have e := ctLe_eq hl
    subst e
    exact ⟨Ct.is.sub s.sub hv.1, trivial⟩
  · exact hl.elim
theorem cellsLe_is {M : Mt} (s : LeG M G G') : ∀ {xs ys : List SC} {vs : List Value}, cellsLe M xs ys → cellsIs G xs vs → cellsIs G' ys vs
  | [], [], [], _, _ => trivial
  | _ :: _, _ :: _, _ :: _, ⟨a, b⟩, ⟨⟨c, d⟩, e⟩ => ⟨⟨SC.le_is s a c, d⟩, cellsLe_is s b e⟩
  | [], _ :: _, _, e, _ => e.elim
  | _ :: _, [], _, e, _ => e.elim
  | [], [], _ :: _, _, e => e.elim
  | _ :: _, _ :: _, [], _, e => e.elim
theorem SA.le_is {M : Mt} {x y : SA} {v : Value} (s : LeG M G G') (hl : x.le M y) (hv : x.is G v) : y.is G' v := by
  unfold SA.le at hl
  split at hl
  · exact trivial
  · exact SC.le_is s hl hv
  · obtain ⟨vs, e, hc⟩ := hv
    exact ⟨vs, e, cellsLe_is s hl hc⟩
  · have e := ctLe_eq hl
    subst e
    obtain ⟨vs, e, hc, h1⟩ := hv
    exact ⟨vs, e, hc.sub s.sub, h1⟩
  · exact hl.elim
theorem sasLe_is {M : Mt} (s : LeG M G G') : ∀ {xs ys : List SA} {vs : List Value}, sasLe M xs ys → sasIs G xs vs → sasIs G' ys vs
  | [], [], [], _, _ => trivial
  | _ :: _, _ :: _, _ :: _, ⟨a, b⟩, ⟨c, e⟩ => ⟨SA.le_is s a c, sasLe_is s b e⟩
  | [], _ :: _, _, e, _ => e.elim
  | _ :: _, [], _, e, _ => e.elim
  | [], [], _ :: _, _, e => e.elim
  | _ :: _, _ :: _, [], _, e => e.elim
theorem pasLe_is {M : Mt} (s : LeG M G G') : ∀ {xs ys : List SA} {vs : List Value}, pasLe M xs ys → pasIs G xs vs → pasIs G' ys vs
  | _, [], _, _, _ => trivial
  | _ :: _, _ :: _, _ :: _, ⟨a, b⟩, ⟨c, e⟩ => ⟨SA.le_is s a c, pasLe_is s b e⟩
  | [], _ :: _, _, e, _ => e.elim
  | _ :: _, _ :: _, [], _, e => e.elim
theorem pas_of : ∀ {xs : List SA} {vs : List Value}, sasIs G xs vs → pasIs G xs vs
  | [], _, _ => trivial
  | _ :: _, _ :: _, ⟨a, b⟩ => ⟨a, pas_of b⟩
  | _ :: _, [], h => h.elim
theorem sas_of : ∀ {xs : List SA} {vs : List Value}, xs.length = vs.length → pasIs G xs vs → sasIs G xs vs
  | [], [], _, _ => trivial
  | [], _ :: _, h, _ => by cases h
  | _ :: _, _ :: _, h, ⟨a, b⟩ => ⟨a, sas_of (by simpa using h) b⟩
  | _ :: _, [], _, h => h.elim
theorem SV.le_is {M : Mt} {x y : SV} {v : Value} (s : LeG M G G') (hl : x.le M y) (hv : x.is G v) : y.is G' v := by
  unfold SV.le at hl
  split at hl
  · exact trivial
  · exact SA.le_is s hl hv
  · obtain ⟨vs, e, hc⟩ := hv
    exact ⟨vs, e, sasLe_is s hl hc⟩
  · exact hl.elim
theorem Ent.le_is {M : Mt} {x y : Ent} {v : Value} (s : LeG M G G') (hl : x.le M y) (hv : x.is G v) : y.is G' v := by
  unfold Ent.le at hl
  split at hl
  · exact trivial
  · exact SV.le_is s hl hv
  · exact hl.elim
theorem entsLe_get {M : Mt} : ∀ {xs ys : List Ent}, entsLe M xs ys → ∀ (t : Nat) (y : Ent), ys[t]? = some y → ∃ x, xs[t]? = some x ∧ x.le M y
  | [], [], _, t, y, h => by simp at h
  | x :: xs, y :: ys, ⟨a, b⟩, 0, z, h => by simp at h; subst h; exact ⟨x, rfl, a⟩
  | x :: xs, y :: ys, ⟨a, b⟩, t + 1, z, h => by
    obtain ⟨x', h1, h2⟩ := entsLe_get b t z (by simpa using h)
    exact ⟨x', by simpa using h1, h2⟩
  | [], _ :: _, e, _, _, _ => e.elim
  | _ :: _, [], e, _, _, _ => e.elim
theorem entsLe_len {M : Mt} : ∀ {xs ys : List Ent}, entsLe M xs ys → xs.length = ys.length
  | [], [], _ => rfl
  | x :: xs, y :: ys, ⟨_, b⟩ => by simp [entsLe_len b]
  | [], _ :: _, e => e.elim
  | _ :: _, [], e => e.elim
theorem heapLe_get {M : Mt} : ∀ {h : H}, heapLe M h → ∀ i b, hget h i = some b → (∃ k b0, look M.m i = some k ∧ hget M.h k = some b0 ∧ blkLe M b0 b) ∨ (voidB b ∧ look M.m i = none)
  | [], _, i, b, h => by cases h
  | (j, c) :: l, hl, i, b, h => by
    simp only [hget] at h
    split at h
    · rename_i hj
      have hj := eqn_eq hj
      subst hj
      cases h
      have h1 := hl.1
      split at h1
      · rename_i k hk
        split at h1
        · rename_i b0 hb
          exact .inl ⟨k, b0, hk, hb, h1⟩
        · exact h1.elim
      · rename_i hk
        exact .inr ⟨h1, hk⟩
    · exact heapLe_get hl.2 i b h
theorem kept_mem {m : List (Nat × Nat)} : ∀ {h : H} {i k : Nat} {b : Blk}, hget h i = some b → look m i = some k → k ∈ kept m h
  | [], i, k, b, h, _ => by cases h
  | (j, c) :: l, i, k, b, h, hk => by
    simp only [hget] at h
    unfold kept
    split at h
    · rename_i hj
      have hj := eqn_eq hj
      subst hj
      simp only [hk]
      exact List.mem_cons_self ..
    · have := kept_mem h hk
      split
      · exact List.mem_cons_of_mem _ this
      · exact this
theorem distinct_cons {k : Nat} {l : List Nat} (h : distinct (k :: l) = true) : k ∉ l ∧ distinct l = true := by
  simp only [distinct, Bool.and_eq_true, Bool.not_eq_true'] at h
  refine ⟨fun hm => ?_, h.2⟩
  rw [memN_iff.2 hm] at h
  cases h.1
theorem kept_inj {m : List (Nat × Nat)} : ∀ {h : H} {i i' k : Nat} {b b' : Blk}, distinct (kept m h) = true → hget h i = some b → hget h i' = some b' → look m i = some k → look m i' = some k → i = i'
  | [], i, i', k, b, b', _, h, _, _, _ => by cases h
  | (j, c) :: l, i, i', k, b, b', hd, h, h', hk, hk' => by
    simp only [hget] at h h'
    have rest : ∀ {a : Nat} {x : Blk}, hget l a = some x → look m a = some k → look m j = some k → False := by
      intro a x ha hka hkj
      unfold kept at hd
      simp only [hkj] at hd
      exact (distinct_cons hd).1 (kept_mem ha hka)
    have hd' : distinct (kept m l) = true := by
      unfold kept at hd
      split at hd
      · exact (distinct_cons hd).2
      · exact hd
    split at h <;> split at h'
    · rename_i h1 _ h2
      rw [← eqn_eq h1, ← eqn_eq h2]
    · rename_i h1 _ h2
      have h1 := eqn_eq h1
      subst h1
      exact (rest h' hk' hk).elim
    · rename_i h1 _ h2
      have h2 := eqn_eq h2
      subst h2
      exact (rest h hk hk').elim
    · exact kept_inj hd' h h' hk hk'
theorem blkLe_alive {M : Mt} {b0 b : Blk} (h : blkLe M b0 b) : b0.alive = true ∧ b.alive = true := by
  cases b0 <;> cases b <;> first | exact ⟨rfl, rfl⟩ | exact h.elim
/-- The poorer state's names. -/
def lesO (m : List (Nat × Nat)) (o : Nat → Option (Nat × Nat)) : Nat → Option (Nat × Nat) := fun i =>
  if hidN ≤ i then
    match look m (i / hidN - 1) with
    | some k => o (hid k (i % hidN))
    | none => none
  else
    match look m i with
    | some k => o k
    | none => none
theorem lesO_lt {m : List (Nat × Nat)} {o : Nat → Option (Nat × Nat)} {i : Nat} (h : i < hidN) : lesO m o i = match look m i with
    | some k => o k
    | none => none := by
  unfold lesO
  rw [if_neg (by omega)]
theorem lesO_hid {m : List (Nat × Nat)} {o : Nat → Option (Nat × Nat)} {k j : Nat} (h : j < hidN) : lesO m o (hid k j) = match look m k with
    | some n => o (hid n j)
    | none => none := by
  unfold lesO
  rw [if_pos (hid_big k j)]
  have e1 : hid k j / hidN - 1 = k := by
    unfold hid hidN at *
    omega
  have e2 : hid k j % hidN = j := by
    unfold hid hidN at *
    omega
  rw [e1, e2]
theorem smallH_lt : ∀ {h : H} {n : Nat} {b : Blk}, smallH h = true → hget h n = some b → n < hidN
  | [], _, _, _, h => by cases h
  | (i, c) :: l, n, b, hs, h => by
    simp only [smallH, Bool.and_eq_true] at hs
    simp only [hget] at h
    split at h
    · rename_i e
      have e := eqn_eq e
      subst e
      have := lee_le hs.1
      unfold hidN
      omega
    · exact smallH_lt hs.2 h
/-- A hidden name is one's own. -/
theorem rr_hid (hm : Mem G) {k j : Nat} {t e : TypeId} {c : Ct} {q : Option Int} (hk : hget G.h k = some (.rr t e c q)) (hj : j < c.n) (hq : holeAt q j = false) : hidA G.h (hid k j) ∧ j < hidN := by
  obtain ⟨⟨hz, hn⟩, hb⟩ := hm.blk k _ hk
  rcases hb with ⟨e0, _⟩ | ⟨g, pre, vs, rest, e1, e2, e3, e4, e5⟩
  · omega
  · have hl := flat_len e3
    rw [hz, Nat.mul_one] at hl
    have hv : vs[j]? = some vs[j] := List.getElem?_eq_getElem (by omega)
    exact ⟨⟨(e5 j _ hv hq).1, k, j, _, rfl, hk, hj, by omega, hq⟩, by omega⟩
/-- A name of the richer state that the poorer one leads to. -/
def keptH (m : List (Nat × Nat)) (h' : H) (k : Nat) : Prop := (if hidN ≤ k then k / hidN - 1 else k) ∈ kept m h'
theorem keptH_lt {m : List (Nat × Nat)} {h' : H} {k : Nat} (h : k < hidN) : keptH m h' k ↔ k ∈ kept m h' := by
  unfold keptH
  rw [if_neg (by omega)]
theorem hid_div {k j : Nat} (h : j < hidN) : hid k j / hidN - 1 = k := by
  unfold hid hidN at *
  omega
theorem keptH_hid {m : List (Nat × Nat)} {h' : H} {k j : Nat} (h : j < hidN) : keptH m h' (hid k j) ↔ k ∈ kept m h' := by
  unfold keptH
  rw [if_pos (hid_big k j), hid_div h]
/-- A poorer state's blocks, from another call's place, too. -/
theorem le_mem {m : List (Nat × Nat)} {h' : H} {fr : Bool} {bs' : Bs} (hm : Mem G) (hds : (distinct (kept m h') && smallH h') = true) (hh : heapLe ⟨m, G.h, h', kept m h', fr⟩ h') {Gn : Gm} (hGn : Gn = ⟨lesO m G.o, h', bs', G.w⟩)
    (hbs : bs' = G.bs ∧ True ∨ fr = false ∧ bs' = ⟨G.w, G.ok, fun g => ∃ k q, keptH m h' k ∧ alive G.h k ∧ G.o k = some (g, q)⟩) : LeG ⟨m, G.h, h', kept m h', fr⟩ G Gn ∧ Mem Gn := by
  obtain ⟨hd, hsm⟩ := (Bool.and_eq_true _ _).mp hds
  have hbound : ∀ i k', hget h' i = some k' → (∃ k b0, look m i = some k ∧ hget G.h k = some b0 ∧ blkLe ⟨m, G.h, h', kept m h', fr⟩ b0 k' ∧ lesO m G.o i = G.o k) ∨ (voidB k' ∧ look m i = none ∧ lesO m G.o i = none) := by
    intro i k' hk
    have hlt := smallH_lt hsm hk
    rcases heapLe_get hh i k' hk with ⟨k, b0, q1, q2, q3⟩ | ⟨q1, q2⟩
    · exact .inl ⟨k, b0, q1, q2, q3, by rw [lesO_lt hlt, show look m i = some k from q1]⟩
    · exact .inr ⟨q1, q2, by rw [lesO_lt hlt, show look m i = none from q2]⟩
  -- of a block's name, and of a hidden one
  have hown9 : ∀ i, alive h' i → ∀ g q, lesO m G.o i = some (g, q) → (∃ k b, look m i = some k ∧ (∃ b', hget h' i = some b') ∧ hget G.h k = some b ∧ b.alive = true ∧ G.o k = some (g, q) ∧ k ∈ kept m h') ∨
      ∃ a j k b', i = hid a j ∧ j < hidN ∧ hget h' a = some b' ∧ look m a = some k ∧ hidA G.h (hid k j) ∧ G.o (hid k j) = some (g, q) ∧ k ∈ kept m h' := by
    rintro i (⟨k', hk, hal⟩ | ⟨_, a, j, b', rfl, hk, hro⟩) g q ho
    · rcases hbound i k' hk with ⟨k, b0, q1, q2, q3, q4⟩ | ⟨_, _, q3⟩
      · rw [q4] at ho
        exact .inl ⟨k, b0, q1, ⟨_, hk⟩, q2, (blkLe_alive q3).1, ho, kept_mem hk q1⟩
      · rw [q3] at ho
        cases ho
    · have hj := roomy_lt hro
      rw [lesO_hid hj] at ho
      rcases hbound a b' hk with ⟨k, b0, q1, q2, q3, _⟩ | ⟨hv, _, _⟩
      · rw [q1] at ho
        cases b' with
        | rr t e c r => cases b0 with
          | rr t0 e0 c0 r0 =>
            obtain ⟨_, h2, h3, h4⟩ := q3
            have ec := ctLe_eq h2
            subst ec h3 h4
            exact .inr ⟨a, j, k, _, rfl, hj, hk, q1, (rr_hid hm q2 hro.1 rfl).1, ho, kept_mem hk q1⟩
          | _ => exact q3.elim
        | _ => exact hro.elim
      · cases b' with
        | rr t e c r =>
          have := none_n hv.1
          have := hro.1
          omega
        | _ => exact hro.elim
  have hown : ∀ i, alive h' i → ∀ g q, lesO m G.o i = some (g, q) → ∃ k, alive G.h k ∧ G.o k = some (g, q) ∧ keptH m h' k := by
    intro i ha g q ho
    rcases hown9 i ha g q ho with ⟨k, b, _, _, q2, q3, q4, q5⟩ | ⟨a, j, k, b', rfl, hj, _, _, q2, q3, q4⟩
    · exact ⟨k, .inl ⟨b, q2, q3⟩, q4, (keptH_lt (hm.vis k b q2)).2 q5⟩
    · exact ⟨_, .inr q2, q3, (keptH_hid hj).2 q4⟩
  subst hGn
  have hsub : Sub G ⟨lesO m G.o, h', bs', G.w⟩ := by
    refine ⟨fun b j h => ⟨h.lt, fun hlt => ?_, fun i ha g q ho e => ?_⟩, fun _ _ _ => rfl, Shp.refl _⟩
    · rcases hbs with ⟨rfl, _⟩ | ⟨_, rfl⟩
      · exact h.old hlt
      · exact .inl h
    · obtain ⟨k, k2, k3, _⟩ := hown i ha g q ho
      exact h.own k k2 g q k3 e
  have hle : LeG ⟨m, G.h, h', kept m h', fr⟩ G ⟨lesO m G.o, h', bs', G.w⟩ := by
    refine ⟨hsub, rfl, rfl, rfl, hm, hbound, fun hfr k hk ha g q ho j => ?_⟩
    rcases hbs with ⟨rfl, _⟩ | ⟨hf, _⟩
    · obtain ⟨b9, hb9, hal9⟩ := ha
      have ha : alive G.h k := .inl ⟨b9, hb9, hal9⟩
      obtain ⟨h1, h2⟩ := hm.own k ha g q ho
      refine ⟨h1, fun hlt => ?_, fun i hai g' q' ho' e => ?_⟩
      · rcases h2 with h2 | ⟨h2, _⟩
        · exact absurd hlt (by simp only; omega)
        · exact .inr h2
      · subst e
        rcases hown9 i hai g' q' ho' with ⟨k2, b2, _, _, q2, q3, k4, k5⟩ | ⟨a, j, k2, b', rfl, hj, _, _, k3, k4, k5⟩
        · have := hm.inj k2 k (.inl ⟨b2, q2, q3⟩) ha g' q' q k4 ho
          subst this
          have hk : memN k2 (kept m h') = false := hk
          rw [memN_iff.2 k5] at hk
          cases hk
        · have := hm.inj _ k (.inr k3) ha g' q' q k4 ho
          subst this
          exact absurd k3 (see_some hb9)
    · have hfr : fr = true := hfr
      rw [hf] at hfr
      cases hfr
  refine ⟨hle, ?_⟩
  have hinj : ∀ n n', alive h' n → alive h' n' → ∀ g q q', lesO m G.o n = some (g, q) → lesO m G.o n' = some (g, q') → n = n' := by
    intro n n' ha ha' g q q' ho ho'
    rcases hown9 n ha g q ho with ⟨k, b, k1, ⟨_, hb⟩, q2, q3, k4, _⟩ | ⟨a, j, k, b, rfl, hj, hb, k1, k3, k4, _⟩ <;> rcases hown9 n' ha' g q' ho' with ⟨k', b', k1', ⟨_, hb'⟩, q2', q3', k4', _⟩ | ⟨a', j', k', b', rfl, hj', hb', k1', k3', k4', _⟩
    · have := hm.inj k k' (.inl ⟨b, q2, q3⟩) (.inl ⟨b', q2', q3'⟩) g q q' k4 k4'
      subst this
      exact kept_inj hd hb hb' k1 k1'
    · have := hm.inj k _ (.inl ⟨b, q2, q3⟩) (.inr k3') g q q' k4 k4'
      subst this
      exact absurd k3' (see_some q2)
    · have := hm.inj _ k' (.inr k3) (.inl ⟨b', q2', q3'⟩) g q q' k4 k4'
      subst this
      exact absurd k3 (see_some q2')
    · have := hm.inj _ _ (.inr k3) (.inr k3') g q q' k4 k4'
      obtain ⟨e1, e2⟩ := hid_inj this hj hj'
      subst e1 e2
      rw [kept_inj hd hb hb' k1 k1']
  have hblk : ∀ n k, hget h' n = some k → BlkIs ⟨lesO m G.o, h', bs', G.w⟩ n k := by
    intro n k hk
    rcases hbound n k hk with ⟨q, b0, q1, q2, q3, q4⟩ | ⟨hv, _, hq⟩
    · have hb := hm.blk q b0 q2
      cases b0 with
      | cells t0 c0 => cases k with
        | cells t c =>
          obtain ⟨rfl, q3⟩ := q3
          obtain ⟨g, vs, r1, r2, r3⟩ := hb
          exact ⟨g, vs, q4.trans r1, r2, cellsLe_is hle q3 r3⟩
        | _ => exact q3.elim
      | row t0 c0 => cases k with
        | row t c =>
          obtain ⟨rfl, q3⟩ := q3
          have e := ctLe_eq q3
          subst e
          rcases hb with ⟨z0, z1⟩ | ⟨g, pre, vs, rest, r1, r2, r3, r4⟩
          · exact .inl ⟨z0, q4.trans z1⟩
          · exact .inr ⟨g, pre, vs, rest, q4.trans r1, r2, r3.sub hsub, r4⟩
        | _ => exact q3.elim
      | rr t0 e0 c0 r0 => cases k with
        | rr t e c r =>
          obtain ⟨⟨rfl, rfl⟩, q3, rfl, rfl⟩ := q3
          have e := ctLe_eq q3
          subst e
          obtain ⟨hz, hb⟩ := hb
          refine ⟨hz, ?_⟩
          rcases hb with ⟨z0, z1⟩ | ⟨g, pre, vs, rest, r1, r2, r3, r4, r5⟩
          · exact .inl ⟨z0, q4.trans z1⟩
          · refine .inr ⟨g, pre, vs, rest, q4.trans r1, r2, r3.sub hsub, r4, fun i v hv hq => ?_⟩
            obtain ⟨_, s2⟩ := r5 i v hv hq
            have hlen : i < c.n := by
              have h5 := (List.getElem?_eq_some_iff.1 hv).1
              have h6 := flat_len r3
              rw [hz.1, Nat.mul_one] at h6
              omega
            have hi : i < hidN := by omega
            refine ⟨?_, ?_⟩
            · cases h9 : hget h' (hid n i) with
              | none => rfl
              | some b9 =>
                have := smallH_lt hsm h9
                have := hid_big n i
                omega
            · rcases s2 with s2 | ⟨g', off, n', cap, cur, s2, s3, s4⟩
              · exact .inl s2
              · exact .inr ⟨g', off, n', cap, cur, s2, by rw [← s3]; show lesO m G.o (hid n i) = _; rw [lesO_hid hi, q1], s4⟩
        | _ => exact q3.elim
      | mp c0 => cases k with
        | mp c =>
          have e : c0 = c := q3
          subst e
          obtain ⟨g, es, clock, r1, r2, r3⟩ := hb
          exact ⟨g, es, clock, q4.trans r1, r2, r3⟩
        | _ => exact q3.elim
      | tok => cases k with
        | tok => trivial
        | _ => exact q3.elim
      | _ => cases k <;> exact q3.elim
    · cases k with
      | tok => trivial
      | row t c => exact .inl ⟨none_n hv, hq⟩
      | rr t e c r => exact ⟨⟨eqn_eq hv.2, by rw [none_n hv.1]; decide⟩, .inl ⟨none_n hv.1, hq⟩⟩
      | _ => exact hv.elim
  rcases hbs with ⟨rfl, _⟩ | ⟨hf, rfl⟩
  · refine ⟨hm.os, hm.tape, hm.output, hm.size, hm.block, hm.keep, fun n ha g q ho => ?_, hinj, hblk, hm.shp, fun n b h => smallH_lt hsm h⟩
    obtain ⟨k, k2, k3, _⟩ := hown n ha g q ho
    exact hm.own k k2 g q k3
  · refine ⟨rfl, rfl, rfl, Nat.le_refl _, fun _ _ _ => rfl, fun _ _ _ _ => rfl, fun n ha g q ho => ?_, hinj, hblk, Shp.refl _, fun n b h => smallH_lt hsm h⟩
    obtain ⟨k, k2, k3, k4⟩ := hown n ha g q ho
    refine ⟨(hm.own k k2 g q k3).1, .inr ⟨⟨k, q, k4, k2, k3⟩, fun j hj => ?_⟩⟩
    have hj : G.ok g j := hj
    exact hj.own k k2 g q k3 rfl
theorem rep_leM {fr : Bool} {m : List (Nat × Nat)} {t : St} (hr : Rep bs gv st ν a w) (hl : st.leM fr m t) : ∃ ν', Rep bs gv t ν' a w := by
  obtain ⟨h1, h2, h3, h4⟩ := hl
  obtain ⟨hle, hm⟩ := le_mem (G := gg bs st ν w) (bs' := bs) hr.mem h1 h4 rfl (.inl ⟨rfl, trivial⟩)
  refine ⟨_, by rw [hr.size, entsLe_len h2], fun i y hy => ?_, pasLe_is hle h3 hr.gs, hr.defers, hm⟩
  obtain ⟨x, hx, hxy⟩ := entsLe_get h2 i y hy
  exact Ent.le_is hle hxy (hr.slot i x hx)

/-! ## Calls -/
theorem setAll_app {h l m : H} : setAll h (l ++ m) = setAll (setAll h l) m := by
  induction l generalizing h with
  | nil => rfl
  | cons p l ih => exact ih
theorem hget_not {l : H} {n : Nat} (h : n ∉ l.map (·.1)) : hget l n = none := by
  induction l with
  | nil => rfl
  | cons p l ih =>
    obtain ⟨k, b⟩ := p
    simp only [List.map_cons, List.mem_cons, not_or] at h
    simp only [hget, beq_no (fun e => h.1 e.symm)]
    exact ih h.2
theorem key_some {l : H} {n : Nat} (h : n ∈ l.map (·.1)) (hn : hget l n = none) : False := by
  induction l with
  | nil => cases h
  | cons p l ih =>
    obtain ⟨k, b⟩ := p
    simp only [hget] at hn
    split at hn
    · cases hn
    · rename_i hk
      simp only [List.map_cons, List.mem_cons] at h
      rcases h with rfl | h
      · rw [eqn_refl] at hk
        cases hk
      · exact ih h hn
theorem setAll_look : ∀ {l h : H} {n : Nat}, distinct (l.map (·.1)) = true → hget (setAll h l) n = match hget l n with
    | some b => some b
    | none => hget h n
  | [], h, n, _ => rfl
  | (k, b) :: l, h, n, hd => by
    obtain ⟨h1, h2⟩ := distinct_cons hd
    show hget (setAll (hset h k b) l) n = _
    rw [setAll_look h2]
    by_cases e : k = n
    · subst e
      rw [hget_not h1]
      simp only [hget, eqn_refl]
      exact hget_self _ _ _
    · simp only [hget, beq_no e]
      rw [hget_other _ _ e]
theorem deadOf_look {keys : List Nat} : ∀ {seen : List Nat} {h : H} {n : Nat}, hget (setAll h (deadOf keys seen)) n = if n ∈ seen ∧ memN n keys = false then some .dead else hget h n
  | [], h, n => by simp [deadOf, setAll]
  | k :: seen, h, n => by
    unfold deadOf
    split
    · rename_i hk
      rw [deadOf_look]
      by_cases e : n = k
      · subst e
        simp [hk]
      · simp [e]
    · rename_i hk
      show hget (setAll (hset h k .dead) (deadOf keys seen)) n = _
      rw [deadOf_look]
      by_cases e : n = k
      · subst e
        simp [hk, hget_self]
      · rw [hget_other _ _ (Ne.symm e)]
        simp [e]
theorem renH_look {m : List (Nat × Nat)} {h : H} : ∀ {ids : List Nat} {h1 : H}, renH m h ids = some h1 → ∀ n b', hget h1 n = some b' → ∃ i b, i ∈ ids ∧ look m i = some n ∧ hget h i = some b ∧ renB m b = some b'
  | [], h1, hr, n, b', hb => by cases hr; cases hb
  | i :: ids, h1, hr, n, b', hb => by
    unfold renH at hr
    split at hr
    · rename_i k b r e1 e2 e3
      split at hr
      · rename_i b1 e4
        cases hr
        simp only [hget] at hb
        split at hb
        · rename_i hk
          have hk := eqn_eq hk
          subst hk
          cases hb
          exact ⟨i, b, List.mem_cons_self .., e1, e2, e4⟩
        · obtain ⟨i', b0, q1, q2⟩ := renH_look e3 n b' hb
          exact ⟨i', b0, List.mem_cons_of_mem _ q1, q2⟩
      · cases hr
    · cases hr
theorem renH_all {m : List (Nat × Nat)} {h : H} : ∀ {ids : List Nat} {h1 : H}, renH m h ids = some h1 → ∀ n ∈ ids, ∃ b, hget h n = some b
  | [], _, _, n, hn => by cases hn
  | i :: ids, h1, hr, n, hn => by
    unfold renH at hr
    split at hr
    · rename_i k b r e1 e2 e3
      rcases List.mem_cons.1 hn with rfl | hn
      · exact ⟨b, e2⟩
      · exact renH_all e3 n hn
    · cases hr
theorem look_mem {α : Type} {m : List (Nat × α)} {i : Nat} {n : α} (h : look m i = some n) : (i, n) ∈ m := by
  induction m with
  | nil => cases h
  | cons p m ih =>
    obtain ⟨k, a⟩ := p
    simp only [look] at h
    split at h
    · rename_i hk
      have hk := eqn_eq hk
      subst hk
      cases h
      exact List.mem_cons_self ..
    · exact List.mem_cons_of_mem _ (ih h)
theorem names_mem {roots : List (Nat × Nat)} : ∀ {h : H} {b i n : Nat}, (i, n) ∈ names roots b h → look roots i = some n ∨ look roots i = none
  | [], _, _, _, h => by cases h
  | (j, c) :: l, b, i, n, h => by
    unfold names at h
    split at h
    · rename_i k hk
      rcases List.mem_cons.1 h with e | h
      · cases e
        exact .inl hk
      · exact names_mem h
    · rename_i hk
      rcases List.mem_cons.1 h with e | h
      · cases e
        exact .inr hk
      · exact names_mem h
theorem freeAll_mem {h : H} {roots : List (Nat × Nat)} : ∀ {ns : List (Nat × Nat)}, freeAll h roots ns = true → ∀ i n, (i, n) ∈ ns → look roots i = none → hget h n = none
  | [], _, i, n, hm, _ => by cases hm
  | (j, k) :: l, hf, i, n, hm, hn => by
    simp only [freeAll, Bool.and_eq_true] at hf
    rcases List.mem_cons.1 hm with e | hm
    · cases e
      rw [hn] at hf
      exact freeAt_ok hf.1
    · exact freeAll_mem hf.2 i n hm hn
theorem compats_mem {h h' : H} {roots : List (Nat × Nat)} : ∀ {ns : List (Nat × Nat)}, compats h h' roots ns → ∀ i n k, (i, n) ∈ ns → look roots i = some k → compat (hget h n) (hget h' i)
  | [], _, i, n, k, hm, _ => by cases hm
  | (j, q) :: l, hf, i, n, k, hm, hn => by
    rcases List.mem_cons.1 hm with e | hm
    · cases e
      have := hf.1
      simp only [hn] at this
      exact this
    · exact compats_mem hf.2 i n k hm hn
theorem rpSame_tl {x y : SA} {xs ys : List SA} (h : rpSame (x :: xs) (y :: ys)) : rpSame xs ys := by
  unfold rpSame at h
  split at h
  · rename_i e1 e2
    cases e1
    cases e2
    exact h.2
  · rename_i e1 e2
    cases e1
    cases e2
    exact h
  · rename_i h1 h2
    exact absurd rfl (h2 _ _ _ _ rfl)
theorem okK_some {h h' : H} : ∀ {p : Bool × Nat × Nat}, okK h h' p = true → ∃ b, hget h p.2.2 = some b
  | (true, _, j), e => by
    have e : (hasR h j && hasR h' _) = true := e
    rw [Bool.and_eq_true] at e
    have h9 := e.1
    unfold hasR at h9
    split at h9
    · exact ⟨_, by assumption⟩
    · exact ⟨_, by assumption⟩
    · cases h9
  | (false, _, j), e => by
    have e : (hasC h j && hasC h' _) = true := e
    rw [Bool.and_eq_true] at e
    have h9 := e.1
    unfold hasC at h9
    split at h9
    · exact ⟨_, by assumption⟩
    · cases h9
theorem stayOf_nil (ow : List SC) : stayOf ow [] = [] := by
  cases ow with
  | nil => rfl
  | cons x l => cases x <;> rfl
theorem stay_is {Gc G' : Gm} {ow : List SC} : ∀ {ys : List SA} {vs : List Value}, asIs Gc G' ow ys vs → ∀ p ∈ stayOf ow (ys.drop vs.length), okK Gc.h G'.h p = true → G'.o p.2.1 = Gc.o p.2.2
  | [], [], _, p, hm => by
    have hm : p ∈ stayOf ow [] := hm
    rw [stayOf_nil] at hm
    cases hm
  | y :: ys, [], h, p, hm => (show stayIs Gc G' ow (y :: ys) from h) p hm
  | [], _ :: _, _, p, hm => by
    have hm : p ∈ stayOf ow [] := hm
    rw [stayOf_nil] at hm
    cases hm
  | _ :: ys, _ :: vs, ⟨_, h⟩, p, hm => stay_is h p hm
theorem look_turned : ∀ (l : List Nat) (k j : Nat), look (turned (numbered k l)) (k + j) = l[j]?
  | [], _, _ => rfl
  | n :: l, k, j => by
    show look ((k, n) :: turned (numbered (k + 1) l)) (k + j) = _
    unfold look
    cases j with
    | zero =>
      have : eqn k (k + 0) = true := eqn_refl k
      simp
    | succ j =>
      have e : eqn k (k + (j + 1)) = false := eqn_not.2 (by omega)
      have := look_turned l (k + 1) j
      rw [show k + 1 + j = k + (j + 1) by omega] at this
      simp only [List.getElem?_cons_succ]
      rw [← this]
      simp [e]
theorem roots_is {Gc G' : Gm} {ow : List SC} (hcell : ∀ b j u, cellAt G b j u → G'.w.cell? ⟨b, j, none⟩ = some u) : ∀ {xs ys : List SA} {vs : List Value}, sasIs G xs vs → asIs Gc G' ow ys vs → rpSame xs ys → ∀ i n, (i, n) ∈ rootsOf xs ys → (∃ off v, ptrAt G n off v ∧ ptrAt G' i off v) ∨ (∃ v, ownAt G n v ∧ ownAt G' i v) ∨ (∃ v, mpAt G n v ∧ mpAt G' i v) ∨ ∃ x j v, rpAt G n x j v ∧ rpAt G' i x j v
  | [], ys, _, _, _, _, i, n, h => by simp [rootsOf] at h
  | _ :: _, [], [], h, _, _, _, _, _ => h.elim
  | _ :: _, [], _ :: _, _, _, _, i, n, h => by simp [rootsOf] at h
  | x :: xs, y :: ys, v :: vs, ⟨hx, h1⟩, ⟨hy, h2⟩, hsm, i, n, h => by
    have ih := roots_is hcell h1 h2 (rpSame_tl hsm) i n
    have cpp : ∀ n0 i0 o b b', v = v → cppAt G n0 o b → cppAt G' i0 o b' → b = b' → ∃ off v, ptrAt G n0 off v ∧ ptrAt G' i0 off v := by
      rintro n0 i0 o b _ _ ⟨A1, k1, k2⟩ ⟨A2, k3, k4⟩ rfl
      have k5 := hcell _ _ _ k1
      rw [k3.cell] at k5
      cases k5
      exact ⟨o, _, k2, k4⟩
    unfold rootsOf at h
    split at h
    · rename_i n0 o xs' i0 o' ys' e1 e2
      cases e1
      cases e2
      split at h
      · rename_i ho
        have ho := eqn_eq ho
        subst ho
        rcases List.mem_cons.1 h with e | h
        · cases e
          exact .inl ⟨o, v, hx.2, hy.2⟩
        · exact ih h
      · exact ih h
    · rename_i n0 xs' i0 ys' e1 e2
      cases e1
      cases e2
      rcases List.mem_cons.1 h with e | h
      · cases e
        exact .inr (.inl ⟨v, hx.2, hy.2⟩)
      · exact ih h
    · rename_i n0 xs' i0 ys' e1 e2
      cases e1
      cases e2
      rcases List.mem_cons.1 h with e | h
      · cases e
        exact .inr (.inr (.inl ⟨v, hx.2, hy.2⟩))
      · exact ih h
    · rename_i n0 x0 j0 xs' i0 x1 j1 ys' e1 e2
      cases e1
      cases e2
      split at h
      · rename_i ho
        have ho := eqn_eq ho
        subst ho
        rcases List.mem_cons.1 h with e | h
        · cases e
          obtain ⟨rfl, _⟩ := hsm
          exact .inr (.inr (.inr ⟨_, _, v, hx.2, hy.2⟩))
        · exact ih h
      · exact ih h
    · rename_i n0 o xs' i0 o' ys' e1 e2
      cases e1
      cases e2
      split at h
      · rename_i ho
        have ho := eqn_eq ho
        subst ho
        rcases List.mem_cons.1 h with e | h
        · cases e
          obtain ⟨b1, z1, z2⟩ := hx
          obtain ⟨b2, z3, z4⟩ := hy
          rw [z1] at z3
          simp only [Value.pointer.injEq, Option.some.injEq, Addr.mk.injEq] at z3
          exact .inl (cpp _ _ _ _ _ rfl z2 z4 z3.1)
        · exact ih h
      · exact ih h
    · rename_i _ n0 o xs' _ i0 o' ys' e1 e2
      cases e1
      cases e2
      split at h
      · rename_i ho
        have ho := eqn_eq ho
        subst ho
        rcases List.mem_cons.1 h with e | h
        · cases e
          obtain ⟨b1, z1, z2⟩ := hx
          obtain ⟨b2, z3, z4⟩ := hy
          rw [z1] at z3
          simp at z3
          exact .inl (cpp _ _ _ _ _ rfl z2 z4 z3.2)
        · exact ih h
      · exact ih h
    · rename_i _ n0 k0 xs' _ i0 j0 ys' e1 e2
      cases e1
      cases e2
      obtain ⟨p, q, z1, z2, z3⟩ := hx
      obtain ⟨p', q', z4, z5, z6⟩ := hy
      rw [z1] at z4
      injection z4 with _ _ a3
      simp only [Array.mk.injEq, List.cons.injEq, and_true] at a3
      obtain ⟨rfl, rfl⟩ := a3
      rcases List.mem_cons.1 h with e | h
      · cases e
        exact .inl ⟨0, p, z2.2, z5.2⟩
      · rcases List.mem_cons.1 h with e | h
        · cases e
          exact .inl ⟨0, q, z3.2, z6.2⟩
        · exact ih h
    · rename_i e1 e2
      cases e1
      cases e2
      exact ih h
    · cases h
/-- Whether a name is one of a state's, or a hidden one of a block of it. -/
def tB (h : H) (n : Nat) : Bool := (hget h n).isSome || (lee hidN n && (hget h (n / hidN - 1)).isSome)
theorem tB_lt {h : H} {n : Nat} (hn : n < hidN) : tB h n = (hget h n).isSome := by
  unfold tB
  rw [show lee hidN n = false by simpa using hn]
  simp
theorem tB_hid {h : H} {k j : Nat} (hn : hget h (hid k j) = none) (hj : j < hidN) : tB h (hid k j) = (hget h k).isSome := by
  unfold tB
  rw [hn, hid_div hj, show lee hidN (hid k j) = true by simpa using hid_big k j]
  simp
/-- The caller's blocks behind a call. -/
theorem union_ok (hm : Mem G) {S : Nat → Prop} {Gt : Gm} (hmt : Mem Gt) (hbs : Gt.bs = ⟨G.w, G.ok, fun g => ∃ k q, S k ∧ alive G.h k ∧ G.o k = some (g, q)⟩) {h'' : H} {D : Nat → Prop} 
    (hg1 : ∀ n b, hget Gt.h n = some b → hget h'' n = some b) (hg2 : ∀ n, hget Gt.h n = none → D n → hget h'' n = some .dead) (hg3 : ∀ n, hget Gt.h n = none → ¬ D n → hget h'' n = hget G.h n)
    (hS : ∀ n, n < hidN → S n → hget Gt.h n = none → D n) (hSh : ∀ k j, k < hidN → j < hidN → (S (hid k j) ↔ S k)) (hD : ∀ n, D n → n < hidN)
    (hroot : ∀ n k k', hget G.h n = some k → hget Gt.h n = some k' → match k, k' with
      | .cells _ _, .cells _ _ => Gt.o n = G.o n
      | .row _ c, .row _ c' => Gt.o n = G.o n ∧ c'.sz = c.sz ∧ c'.n = c.n
      | .rr _ _ c _, .rr _ _ c' _ => Gt.o n = G.o n ∧ c'.sz = c.sz ∧ c'.n = c.n
      | .mp _, .mp _ => Gt.o n = G.o n
      | _, _ => False) {Gn : Gm} (hGn : Gn = ⟨fun n => if tB Gt.h n then Gt.o n else G.o n, h'', G.bs, Gt.w⟩) :
    Ext G Gn ∧ Mem Gn ∧ Ext Gt Gn := by
  have hW : Gt.bs.W = G.w := by rw [hbs]
  have hX : ∀ g, Gt.bs.X g ↔ ∃ k q, S k ∧ alive G.h k ∧ G.o k = some (g, q) := by intro g; rw [hbs]
  have hK : ∀ b j, Gt.bs.K b j ↔ G.ok b j := by intro b j; rw [hbs]
  have hsz : G.w.heap.size ≤ Gt.w.heap.size := by rw [← hW]; exact hmt.size
  have hshp : Shp G.w Gt.w := by rw [← hW]; exact hmt.shp
  have hvis : ∀ n b, hget h'' n = some b → n < hidN := by
    intro n b hb
    cases hq : hget Gt.h n with
    | some b' => exact hmt.vis n b' hq
    | none =>
      by_cases hd : D n
      · exact hD n hd
      · rw [hg3 n hq hd] at hb
        exact hm.vis n b hb
  have hno : ∀ k j, hget Gt.h (hid k j) = none := fun k j => by
    cases hq : hget Gt.h (hid k j) with
    | none => rfl
    | some b =>
      have := hmt.vis _ _ hq
      have := hid_big k j
      omega
  have hnoG : ∀ k j, hget G.h (hid k j) = none := fun k j => by
    cases hq : hget G.h (hid k j) with
    | none => rfl
    | some b =>
      have := hm.vis _ _ hq
      have := hid_big k j
      omega
  have hnoN : ∀ k j, hget h'' (hid k j) = none := fun k j => by
    cases hq : hget h'' (hid k j) with
    | none => rfl
    | some b =>
      have := hvis _ _ hq
      have := hid_big k j
      omega
  -- what a name of the new state is
  have hal : ∀ n, alive h'' n → (tB Gt.h n = true ∧ alive Gt.h n) ∨ tB Gt.h n = false ∧ ¬ S n ∧ alive G.h n := by
    rintro n (⟨b, hb, hba⟩ | ⟨_, k, j, b, rfl, hb, hro⟩)
    · have hlt := hvis n b hb
      rw [tB_lt hlt]
      cases hq : hget Gt.h n with
      | some b' =>
        rw [hg1 n b' hq] at hb
        cases hb
        exact .inl ⟨rfl, .inl ⟨b, hq, hba⟩⟩
      | none =>
        by_cases hd : D n
        · rw [hg2 n hq hd] at hb
          cases hb
          cases hba
        · rw [hg3 n hq hd] at hb
          exact .inr ⟨rfl, fun hs => hd (hS n hlt hs hq), .inl ⟨b, hb, hba⟩⟩
    · have hj := roomy_lt hro
      rw [tB_hid (hno k j) hj]
      have hlt := hvis k b hb
      cases hq : hget Gt.h k with
      | some b' =>
        rw [hg1 k b' hq] at hb
        cases hb
        exact .inl ⟨rfl, .inr ⟨hno k j, k, j, b, rfl, hq, hro⟩⟩
      | none =>
        by_cases hd : D k
        · rw [hg2 k hq hd] at hb
          cases hb
          exact hro.elim
        · rw [hg3 k hq hd] at hb
          exact .inr ⟨rfl, fun hs => hd (hS k hlt ((hSh k j hlt hj).1 hs) hq), .inr ⟨hnoG k j, k, j, b, rfl, hb, hro⟩⟩
  have okK : ∀ b j, b < G.bs.W.heap.size → G.bs.K b j → G.ok b j := by
    intro b j hlt hk
    refine ⟨Nat.lt_of_lt_of_le hlt hm.size, fun _ => .inl hk, fun n ha g q ho e => ?_⟩
    subst e
    rcases (hm.own n ha g q ho).2 with h | ⟨_, h⟩
    · omega
    · exact h j hk
  have hcellK : ∀ b j, G.ok b j → Gt.w.cell? ⟨b, j, none⟩ = G.w.cell? ⟨b, j, none⟩ := by
    intro b j h
    have := hmt.keep b j (by rw [hW]; exact h.lt) ((hK b j).2 h)
    rwa [hW] at this
  have hblk : ∀ k, k < G.w.heap.size → (∀ n q, S n → alive G.h n → G.o n ≠ some (k, q)) → Gt.w.heap[k]? = G.w.heap[k]? := by
    intro k hlt hno
    have := hmt.block k (by rw [hW]; exact hlt) (fun hx => by
      obtain ⟨n, q, h1, h2, h3⟩ := (hX k).1 hx
      exact hno n q h1 h2 h3)
    rwa [hW] at this
  have hnotS : ∀ n, ¬ S n → alive G.h n → ∀ g q, G.o n = some (g, q) → Gt.w.heap[g]? = G.w.heap[g]? := by
    intro n hs ha g q ho
    refine hblk g (hm.own n ha g q ho).1 fun n' q' hs' ha' ho' => ?_
    have := hm.inj n n' ha ha' g q q' ho ho'
    subst this
    exact hs hs'
  subst hGn
  have hoT : ∀ {n}, tB Gt.h n = true → (if tB Gt.h n then Gt.o n else G.o n) = Gt.o n := by intro n h; rw [h]; rfl
  have hoN : ∀ {n}, tB Gt.h n = false → (if tB Gt.h n then Gt.o n else G.o n) = G.o n := by intro n h; rw [h]; rfl
  have tT : ∀ {n b}, hget Gt.h n = some b → tB Gt.h n = true := by intro n b h; unfold tB; rw [h]; rfl
  have tN : ∀ {n}, n < hidN → hget Gt.h n = none → tB Gt.h n = false := by intro n hn h; rw [tB_lt hn, h]; rfl
  have hsub : Sub G ⟨fun n => if tB Gt.h n then Gt.o n else G.o n, h'', G.bs, Gt.w⟩ := by
    refine ⟨fun b j h => ⟨Nat.lt_of_lt_of_le h.lt hsz, h.old, fun n ha g q ho e => ?_⟩, hcellK, hshp⟩
    subst e
    rcases hal n ha with ⟨ht, ha'⟩ | ⟨hn, _, ha'⟩
    · have ho : Gt.o n = some (g, q) := by rw [← hoT ht]; exact ho
      rcases (hmt.own n ha' g q ho).2 with h' | ⟨_, h'⟩
      · rw [hW] at h'
        have := h.lt
        omega
      · exact h' j ((hK g j).2 h)
    · have ho : G.o n = some (g, q) := by rw [← hoN hn]; exact ho
      exact h.own n ha' g q ho rfl
  have hext : Ext G ⟨fun n => if tB Gt.h n then Gt.o n else G.o n, h'', G.bs, Gt.w⟩ := by
    refine ⟨hsub, fun n k hk => ?_⟩
    have hlt := hm.vis n k hk
    cases hq : hget Gt.h n with
    | some k' =>
      refine ⟨k', hg1 n k' hq, ?_⟩
      have h := hroot n k k' hk hq
      have ht := tT hq
      cases k with
      | cells t c => cases k' with
        | cells t' c' => exact (hoT ht).trans h
        | _ => exact h.elim
      | row t c => cases k' with
        | row t' c' => exact ⟨(hoT ht).trans h.1, h.2.1, h.2.2⟩
        | _ => exact h.elim
      | rr t e c r => cases k' with
        | rr t' e' c' r' => exact ⟨(hoT ht).trans h.1, h.2.1, h.2.2⟩
        | _ => exact h.elim
      | mp c => cases k' with
        | mp c' => exact (hoT ht).trans h
        | _ => exact h.elim
      | _ => cases k' <;> exact h.elim
    | none =>
      by_cases hd : D n
      · exact ⟨.dead, hg2 n hq hd, by cases k <;> trivial⟩
      · refine ⟨k, (hg3 n hq hd).trans hk, ?_⟩
        have hs : ¬ S n := fun hs => hd (hS n hlt hs hq)
        have ht := tN hlt hq
        cases k with
        | cells => exact hoN ht
        | emp => exact hoN ht
        | mp => exact hoN ht
        | row => exact ⟨hoN ht, rfl, rfl⟩
        | rr => exact ⟨hoN ht, rfl, rfl⟩
        | frz => rfl
        | past => exact ⟨rfl, rfl, rfl⟩
        | tok => exact ⟨hoN ht, fun g q ho => hnotS n hs (.inl ⟨_, hk, rfl⟩) g q ho⟩
        | dead => trivial
  have hsubT : Sub Gt ⟨fun n => if tB Gt.h n then Gt.o n else G.o n, h'', G.bs, Gt.w⟩ := by
    refine ⟨fun b j h => ⟨h.lt, fun hlt => ?_, fun n ha g q ho e => ?_⟩, fun _ _ _ => rfl, Shp.refl _⟩
    · have hlt' : b < G.w.heap.size := Nat.lt_of_lt_of_le hlt hm.size
      rcases h.old (by rw [hW]; exact hlt') with hk | hx
      · exact ((hK b j).1 hk).old hlt
      · obtain ⟨n, q, _, h2, h3⟩ := (hX b).1 hx
        rcases (hm.own n h2 b q h3).2 with h4 | ⟨h4, _⟩
        · have hlt : b < G.bs.W.heap.size := hlt
          omega
        · exact .inr h4
    · subst e
      rcases hal n ha with ⟨ht, ha'⟩ | ⟨hn, hs, ha'⟩
      · have ho : Gt.o n = some (g, q) := by rw [← hoT ht]; exact ho
        exact h.own n ha' g q ho rfl
      · have ho : G.o n = some (g, q) := by rw [← hoN hn]; exact ho
        have hlt := (hm.own n ha' g q ho).1
        rcases h.old (by rw [hW]; exact hlt) with hk | hx
        · exact ((hK g j).1 hk).own n ha' g q ho rfl
        · obtain ⟨n', q', h1, h2, h3⟩ := (hX g).1 hx
          have := hm.inj n n' ha' h2 g q q' ho h3
          subst this
          exact absurd h1 hs
  have hextT : Ext Gt ⟨fun n => if tB Gt.h n then Gt.o n else G.o n, h'', G.bs, Gt.w⟩ := by
    refine ⟨hsubT, fun n k hk => ⟨k, hg1 n k hk, ?_⟩⟩
    have ht := tT hk
    cases k with
    | cells => exact hoT ht
    | emp => exact hoT ht
    | mp => exact hoT ht
    | row => exact ⟨hoT ht, rfl, rfl⟩
    | rr => exact ⟨hoT ht, rfl, rfl⟩
    | frz => rfl
    | past => exact ⟨rfl, rfl, rfl⟩
    | tok => exact ⟨hoT ht, fun _ _ _ => rfl⟩
    | dead => trivial
  have hlen : ∀ {G0 : Gm} {c : Ct} {vs : List Value} {i : Nat} {v : Value}, c.sz = 1 → flatIs G0 c vs → vs[i]? = some v → i < c.n := by
    intro G0 c vs i v hz hf hv
    have h5 := (List.getElem?_eq_some_iff.1 hv).1
    have h6 := flat_len hf
    rw [hz, Nat.mul_one] at h6
    omega
  refine ⟨hext, ⟨?_, ?_, ?_, Nat.le_trans hm.size hsz, fun k hlt hx => ?_, fun b j hlt hk => ?_, fun n ha g q ho => ?_, fun n n' ha ha' g q q' ho ho' => ?_, fun n k hk => ?_, hm.shp.trans hshp, hvis⟩, hextT⟩
  · have := hmt.os
    rw [hW] at this
    exact this.trans hm.os
  · have := hmt.tape
    rw [hW] at this
    exact this.trans hm.tape
  · have := hmt.output
    rw [hW] at this
    exact this.trans hm.output
  · have hx : ¬ G.bs.X k := hx
    have hlt : k < G.bs.W.heap.size := hlt
    refine Eq.trans (hblk k (Nat.lt_of_lt_of_le hlt hm.size) fun n q _ h2 h3 => ?_) (hm.block k hlt hx)
    rcases (hm.own n h2 k q h3).2 with h4 | ⟨h4, _⟩
    · omega
    · exact hx h4
  · exact (hcellK b j (okK b j hlt hk)).trans (hm.keep b j hlt hk)
  · rcases hal n ha with ⟨ht, ha'⟩ | ⟨hn, hs, ha'⟩
    · have ho : Gt.o n = some (g, q) := by rw [← hoT ht]; exact ho
      obtain ⟨h1, h2⟩ := hmt.own n ha' g q ho
      refine ⟨h1, ?_⟩
      rcases h2 with h2 | ⟨h2, h3⟩
      · rw [hW] at h2
        exact .inl (Nat.le_trans hm.size h2)
      · obtain ⟨n', q', k1, k2, k3⟩ := (hX g).1 h2
        rcases (hm.own n' k2 g q' k3).2 with h4 | ⟨h4, _⟩
        · exact .inl h4
        · by_cases hlt : g < G.bs.W.heap.size
          · exact .inr ⟨h4, fun j hj => h3 j ((hK g j).2 (okK g j hlt hj))⟩
          · exact .inl (by show G.bs.W.heap.size ≤ g; omega)
    · have ho : G.o n = some (g, q) := by rw [← hoN hn]; exact ho
      obtain ⟨h1, h2⟩ := hm.own n ha' g q ho
      exact ⟨Nat.lt_of_lt_of_le h1 hsz, h2⟩
  · have key : ∀ n n', alive Gt.h n → ¬ S n' → alive G.h n' → ∀ q q', Gt.o n = some (g, q) → G.o n' = some (g, q') → False := by
      intro n n' hba hs' ha' q q' ho ho'
      have hlt := (hm.own n' ha' g q' ho').1
      rcases (hmt.own n hba g q ho).2 with h2 | ⟨h2, _⟩
      · rw [hW] at h2
        omega
      · obtain ⟨n2, q2, k1, k2, k3⟩ := (hX g).1 h2
        have := hm.inj n' n2 ha' k2 g q' q2 ho' k3
        subst this
        exact hs' k1
    rcases hal n ha with ⟨hb1, ha1⟩ | ⟨hn, hs, ha1⟩ <;> rcases hal n' ha' with ⟨hb2, ha2⟩ | ⟨hn', hs', ha2⟩
    · exact hmt.inj n n' ha1 ha2 g q q' (by rw [← hoT hb1]; exact ho) (by rw [← hoT hb2]; exact ho')
    · exact (key n n' ha1 hs' ha2 q q' (by rw [← hoT hb1]; exact ho) (by rw [← hoN hn']; exact ho')).elim
    · exact (key n' n ha2 hs ha1 q' q (by rw [← hoT hb2]; exact ho') (by rw [← hoN hn]; exact ho)).elim
    · exact hm.inj n n' ha1 ha2 g q q' (by rw [← hoN hn]; exact ho) (by rw [← hoN hn']; exact ho')
  · have hk : hget h'' n = some k := hk
    have hlt := hvis n k hk
    cases hq : hget Gt.h n with
    | some b' =>
      rw [hg1 n b' hq] at hk
      cases hk
      have hb := hmt.blk n _ hq
      have ht := tT hq
      cases k with
      | cells t cs =>
        obtain ⟨g, vs, e1, e2, e3⟩ := hb
        exact ⟨g, vs, (hoT ht).trans e1, e2, e3.ext hextT⟩
      | row t c =>
        rcases hb with ⟨z0, z1⟩ | ⟨g, pre, vs, rest, e1, e2, e3, e4⟩
        · exact .inl ⟨z0, (hoT ht).trans z1⟩
        · exact .inr ⟨g, pre, vs, rest, (hoT ht).trans e1, e2, e3.sub hsubT, e4⟩
      | rr t e c r =>
        obtain ⟨hz, hb⟩ := hb
        rcases hb with ⟨z0, z1⟩ | ⟨g, pre, vs, rest, e1, e2, e3, e4, e5⟩
        · exact ⟨hz, .inl ⟨z0, (hoT ht).trans z1⟩⟩
        · refine ⟨hz, .inr ⟨g, pre, vs, rest, (hoT ht).trans e1, e2, e3.sub hsubT, e4, fun i v hv hr => ⟨hnoN n i, ?_⟩⟩⟩
          have hi : i < hidN := Nat.lt_trans (hlen hz.1 e3 hv) hz.2
          have ht2 : tB Gt.h (hid n i) = true := by rw [tB_hid (hno n i) hi, hq]; rfl
          rcases (e5 i v hv hr).2 with s2 | ⟨g', off, n', cap, cur, s2, s3, s4⟩
          · exact .inl s2
          · exact .inr ⟨g', off, n', cap, cur, s2, (hoT ht2).trans s3, s4⟩
      | emp t =>
        obtain ⟨g, e1, e2⟩ := hb
        exact ⟨g, (hoT ht).trans e1, e2⟩
      | mp l =>
        obtain ⟨g, es, clock, e1, e2, e3⟩ := hb
        exact ⟨g, es, clock, (hoT ht).trans e1, e2, e3⟩
      | _ => trivial
    | none =>
      by_cases hd : D n
      · rw [hg2 n hq hd] at hk
        cases hk
        trivial
      · rw [hg3 n hq hd] at hk
        have hs : ¬ S n := fun hs => hd (hS n hlt hs hq)
        have hb := hm.blk n k hk
        have ht := tN hlt hq
        cases k with
        | cells t cs =>
          obtain ⟨g, vs, e1, e2, e3⟩ := hb
          exact ⟨g, vs, (hoN ht).trans e1, (hnotS n hs (.inl ⟨_, hk, rfl⟩) g 0 e1).trans e2, e3.ext hext⟩
        | row t c =>
          rcases hb with ⟨z0, z1⟩ | ⟨g, pre, vs, rest, e1, e2, e3, e4⟩
          · exact .inl ⟨z0, (hoN ht).trans z1⟩
          · exact .inr ⟨g, pre, vs, rest, (hoN ht).trans e1, (hnotS n hs (.inl ⟨_, hk, rfl⟩) g _ e1).trans e2, e3.sub hsub, e4⟩
        | rr t e c r =>
          obtain ⟨hz, hb⟩ := hb
          rcases hb with ⟨z0, z1⟩ | ⟨g, pre, vs, rest, e1, e2, e3, e4, e5⟩
          · exact ⟨hz, .inl ⟨z0, (hoN ht).trans z1⟩⟩
          · refine ⟨hz, .inr ⟨g, pre, vs, rest, (hoN ht).trans e1, (hnotS n hs (.inl ⟨_, hk, rfl⟩) g _ e1).trans e2, e3.sub hsub, e4, fun i v hv hr => ⟨hnoN n i, ?_⟩⟩⟩
            have hl := hlen hz.1 e3 hv
            have hi : i < hidN := Nat.lt_trans hl hz.2
            have ht2 : tB Gt.h (hid n i) = false := by rw [tB_hid (hno n i) hi, hq]; rfl
            have ha2 : alive G.h (hid n i) := .inr (rr_hid hm hk hl hr).1
            rcases (e5 i v hv hr).2 with s2 | ⟨g', off, n', cap, cur, s2, s3, s4, s5⟩
            · exact .inl s2
            · exact .inr ⟨g', off, n', cap, cur, s2, (hoN ht2).trans s3, (hnotS _ (fun hs' => hs ((hSh n i hlt hi).1 hs')) ha2 g' _ s3).trans s4, s5⟩
        | emp t =>
          obtain ⟨g, e1, e2⟩ := hb
          exact ⟨g, (hoN ht).trans e1, (hnotS n hs (.inl ⟨_, hk, rfl⟩) g 0 e1).trans e2⟩
        | mp l =>
          obtain ⟨g, es, clock, e1, e2, e3⟩ := hb
          exact ⟨g, es, clock, (hoN ht).trans e1, (hnotS n hs (.inl ⟨_, hk, rfl⟩) g 0 e1).trans e2, e3⟩
        | _ => trivial
def kindV : SV → SV → Prop
  | .sa _, .sa _ => True
  | .tup _, .tup _ => True
  | _, _ => False
theorem entsOf_le {M : Mt} (s : LeG M G G') {r r' : SV} {v : Value} (hk : kindV r r') (hl : entsLe M (entsOf r) (entsOf r')) (hv : r.is G v) : r'.is G' v := by
  have tups : ∀ {xs ys : List SA} {vs : List Value}, entsLe M (xs.map fun x => (⟨none, .sa x⟩ : Ent)) (ys.map fun x => (⟨none, .sa x⟩ : Ent)) → sasIs G xs vs → sasIs G' ys vs := by
    intro xs
    induction xs with
    | nil =>
      intro ys vs h hv
      cases ys with
      | nil => cases vs with
        | nil => trivial
        | cons _ _ => exact hv.elim
      | cons _ _ => exact h.elim
    | cons x xs ih =>
      intro ys vs h hv
      cases ys with
      | nil => exact h.elim
      | cons y ys => cases vs with
        | nil => exact hv.elim
        | cons u us => exact ⟨Ent.le_is (x := ⟨none, .sa x⟩) (y := ⟨none, .sa y⟩) s h.1 hv.1, ih h.2 hv.2⟩
  cases r with
  | sa x => cases r' with
    | sa y => exact Ent.le_is (x := ⟨none, .sa x⟩) (y := ⟨none, .sa y⟩) s hl.1 hv
    | tup _ => exact hk.elim
  | tup xs => cases r' with
    | sa _ => exact hk.elim
    | tup ys =>
      obtain ⟨vs, e, hvs⟩ := hv
      exact ⟨vs, e, tups hl hvs⟩
theorem renV_kind {m : List (Nat × Nat)} {r r' : SV} (h : renV m r = some r') : kindV r r' := by
  cases r with
  | sa x =>
    simp only [renV] at h
    cases hx : renA m x with
    | none => simp [hx] at h
    | some y => simp only [hx] at h; cases h; trivial
  | tup xs =>
    simp only [renV] at h
    cases hx : renAs m xs with
    | none => simp [hx] at h
    | some y => simp only [hx] at h; cases h; trivial
theorem numbered_mem : ∀ {l : List Nat} {i n k : Nat}, (n, k) ∈ numbered i l → n ∈ l
  | [], _, _, _, h => by cases h
  | x :: l, i, n, k, h => by
    unfold numbered at h
    rcases List.mem_cons.1 h with e | h
    · cases e
      exact List.mem_cons_self ..
    · exact List.mem_cons_of_mem _ (numbered_mem h)
theorem kept_turned {seen : List Nat} : ∀ {h : H} {k : Nat}, k ∈ kept (turned (numbered 0 seen)) h → k ∈ seen
  | [], k, hk => by cases hk
  | (j, b) :: l, k, hk => by
    unfold kept at hk
    split at hk
    · rename_i k0 hk0
      rcases List.mem_cons.1 hk with rfl | hk
      · have := look_mem hk0
        unfold turned at this
        obtain ⟨p, hp, e⟩ := List.mem_map.1 this
        cases e
        exact numbered_mem hp
      · exact kept_turned hk
    · exact kept_turned hk
theorem subH_get {h : H} : ∀ {l : List Nat} {n : Nat} {b : Blk}, hget (subH h l) n = some b → hget h n = some b
  | [], n, b, hb => by cases hb
  | k :: l, n, b, hb => by
    unfold subH at hb
    split at hb
    · rename_i b0 hk
      simp only [hget] at hb
      split at hb
      · rename_i e
        have e := eqn_eq e
        subst e
        cases hb
        exact hk
      · exact subH_get hb
    · exact subH_get hb
section
variable {m : List (Nat × Nat)} {h1 h2 h' : H} {ks : List Nat} {fr : Bool}
theorem SC.le_mono (hh : ∀ n b, hget h1 n = some b → hget h2 n = some b) {x y : SC} (h : x.le ⟨m, h1, h', ks, fr⟩ y) : x.le ⟨m, h2, h', ks, fr⟩ y := by
  unfold SC.le at h
  split at h
  all_goals first
    | exact h
    | exact False.elim h
    | skip
  rename_i b c
  simp only at h
  show (match hget h2 b with
    | some (.row _ c0) => (fr && !memN b ks) = true ∧ ctLe c0 c
    | some (.rr _ _ c0 _) => (fr && !memN b ks) = true ∧ ctLe c0 c
    | some (.frz c0) => ctLe c0 c
    | _ => False)
  split at h
  · rename_i hb
    rw [hh _ _ hb]
    exact h
  · rename_i hb
    rw [hh _ _ hb]
    exact h
  · rename_i hb
    rw [hh _ _ hb]
    exact h
  · exact h.elim
theorem cellsLe_mono (hh : ∀ n b, hget h1 n = some b → hget h2 n = some b) : ∀ {xs ys : List SC}, cellsLe ⟨m, h1, h', ks, fr⟩ xs ys → cellsLe ⟨m, h2, h', ks, fr⟩ xs ys
  | [], [], _ => trivial
  | [], _ :: _, h => h.elim
  | _ :: _, [], h => h.elim
  | _ :: _, _ :: _, ⟨a, b⟩ => ⟨SC.le_mono hh a, cellsLe_mono hh b⟩
theorem SA.le_mono (hh : ∀ n b, hget h1 n = some b → hget h2 n = some b) {x y : SA} (h : x.le ⟨m, h1, h', ks, fr⟩ y) : x.le ⟨m, h2, h', ks, fr⟩ y := by
  unfold SA.le at h
  split at h
  · trivial
  · unfold SA.le
    split
    · trivial
    · rename_i e1 e2
      cases e1
      cases e2
      exact SC.le_mono hh h
    · rename_i e1 _; cases e1
    · rename_i e1 _; cases e1
    · simp_all
  · exact cellsLe_mono hh h
  · exact h
  · exact h.elim
theorem sasLe_mono (hh : ∀ n b, hget h1 n = some b → hget h2 n = some b) : ∀ {xs ys : List SA}, sasLe ⟨m, h1, h', ks, fr⟩ xs ys → sasLe ⟨m, h2, h', ks, fr⟩ xs ys
  | [], [], _ => trivial
  | [], _ :: _, h => h.elim
  | _ :: _, [], h => h.elim
  | _ :: _, _ :: _, ⟨a, b⟩ => ⟨SA.le_mono hh a, sasLe_mono hh b⟩
theorem pasLe_mono (hh : ∀ n b, hget h1 n = some b → hget h2 n = some b) : ∀ {xs ys : List SA}, pasLe ⟨m, h1, h', ks, fr⟩ xs ys → pasLe ⟨m, h2, h', ks, fr⟩ xs ys
  | [], [], _ => trivial
  | _ :: _, [], _ => trivial
  | [], _ :: _, h => h.elim
  | _ :: _, _ :: _, ⟨a, b⟩ => ⟨SA.le_mono hh a, pasLe_mono hh b⟩
theorem blkLe_mono (hh : ∀ n b, hget h1 n = some b → hget h2 n = some b) {x y : Blk} (h : blkLe ⟨m, h1, h', ks, fr⟩ x y) : blkLe ⟨m, h2, h', ks, fr⟩ x y := by
  cases x <;> cases y <;> first
    | exact h
    | exact ⟨h.1, cellsLe_mono hh h.2⟩
theorem heapLe_mono (hh : ∀ n b, hget h1 n = some b → hget h2 n = some b) : ∀ {l : H}, heapLe ⟨m, h1, h', ks, fr⟩ l → heapLe ⟨m, h2, h', ks, fr⟩ l
  | [], _ => trivial
  | (i, b) :: l, ⟨a, c⟩ => by
    refine ⟨?_, heapLe_mono hh c⟩
    simp only at a ⊢
    split at a
    · split at a
      · rename_i hb
        rw [hh _ _ hb]
        exact blkLe_mono hh a
      · exact a.elim
    · exact a
end
/-! ### Calls that leave the blocks as they were -/
theorem numbered_ge : ∀ {l : List Nat} {i n k : Nat}, (n, k) ∈ numbered i l → i ≤ k
  | [], _, _, _, h => by cases h
  | x :: l, i, n, k, h => by
    unfold numbered at h
    rcases List.mem_cons.1 h with e | h
    · cases e
      exact Nat.le_refl _
    · exact Nat.le_trans (Nat.le_succ _) (numbered_ge h)
theorem numbered_inj : ∀ {l : List Nat} {i n n' k : Nat}, (n, k) ∈ numbered i l → (n', k) ∈ numbered i l → n = n'
  | [], _, _, _, _, h, _ => by cases h
  | x :: l, i, n, n', k, h, h' => by
    unfold numbered at h h'
    rcases List.mem_cons.1 h with e | h <;> rcases List.mem_cons.1 h' with e' | h'
    · cases e
      cases e'
      rfl
    · cases e
      have := numbered_ge h'
      omega
    · cases e'
      have := numbered_ge h
      omega
    · exact numbered_inj h h'
theorem dull_dull (c : SC) : c.dull.dull = c.dull := by cases c <;> rfl
theorem undull_is {c : SC} {v : Value} (h : c.dull.is G v) : c.is G v := by cases c <;> exact h
theorem undulls_is : ∀ {cs : List SC} {vs : List Value}, cellsIs G (cs.map SC.dull) vs → cellsIs G cs vs
  | [], [], _ => trivial
  | _ :: _, _ :: _, ⟨⟨a, b⟩, c⟩ => ⟨⟨undull_is a, b⟩, undulls_is c⟩
def Alike (x y : Option Blk) : Prop := x = y ∨ ∃ t cs, x = some (.cells t cs) ∧ y = some (.cells t (cs.map SC.dull))
theorem renC_back {m ns : List (Nat × Nat)} (hb : ∀ n i n', look m n = some i → look ns i = some n' → n' = n) {c c1 c2 : SC} (h1 : renC m c = some c1) (h2 : renC ns c1 = some c2) : c2 = c.dull := by
  unfold renC at h1
  split at h1
  · split at h1
    · rename_i hn
      cases h1
      unfold renC at h2
      simp only at h2
      split at h2
      · rename_i hi
        cases h2
        rw [hb _ _ _ hn hi]
        rfl
      · cases h2
    · cases h1
  · split at h1
    · rename_i hn
      cases h1
      unfold renC at h2
      simp only at h2
      split at h2
      · rename_i hi
        cases h2
        rw [hb _ _ _ hn hi]
        rfl
      · cases h2
    · cases h1
  · split at h1
    · rename_i hn
      cases h1
      unfold renC at h2
      simp only at h2
      split at h2
      · rename_i hi
        cases h2
        rw [hb _ _ _ hn hi]
        rfl
      · cases h2
    · cases h1
  · split at h1
    · rename_i hn
      cases h1
      unfold renC at h2
      simp only at h2
      split at h2
      · rename_i hi
        cases h2
        rw [hb _ _ _ hn hi]
        rfl
      · cases h2
    · cases h1
  · split at h1
    · rename_i hn
      cases h1
      unfold renC at h2
      simp only at h2
      split at h2
      · rename_i hi
        cases h2
        rw [hb _ _ _ hn hi]
        rfl
      · cases h2
    · cases h1
  · split at h1
    · rename_i hn
      cases h1
      unfold renC at h2
      simp only at h2
      split at h2
      · rename_i hi
        cases h2
        rw [hb _ _ _ hn hi]
        rfl
      · cases h2
    · cases h1
  · split at h1
    · rename_i hn
      cases h1
      unfold renC at h2
      simp only at h2
      split at h2
      · rename_i hi
        cases h2
        rw [hb _ _ _ hn hi]
        rfl
      · cases h2
    · cases h1
  · split at h1
    · rename_i hn
      cases h1
      unfold renC at h2
      simp only at h2
      split at h2
      · rename_i hi
        cases h2
        rw [hb _ _ _ hn hi]
        rfl
      · cases h2
    · cases h1
  · split at h1
    · rename_i hn hm
      cases h1
      unfold renC at h2
      simp only at h2
      split at h2
      · rename_i hi hj
        cases h2
        rw [hb _ _ _ hn hi, hb _ _ _ hm hj]
        rfl
      · cases h2
    · cases h1
  · cases h1
  · rename_i q1 q0 q2 q5 q3 q4 q6 q7 q9 q8
    cases h1
    cases c with
    | fn2 g n k => exact absurd rfl (q9 g n k)
    | ptr n o => exact absurd rfl (q1 n o)
    | fn g n => exact absurd rfl (q0 g n)
    | own n => exact absurd rfl (q2 n)
    | mp n => exact absurd rfl (q5 n)
    | rp n i j => exact absurd rfl (q4 n i j)
    | cpp n o => exact absurd rfl (q6 n o)
    | fnp g n o => exact absurd rfl (q7 g n o)
    | vw n l => exact absurd rfl (q8 n l)
    | sl tk ct => cases tk with
      | none => simp [renC, SC.dull] at h2 ⊢; exact h2.symm
      | some p => exact absurd rfl (q3 p.1 p.2 ct)
    | _ => simp [renC, SC.dull] at h2 ⊢; exact h2.symm
theorem renCs_back {m ns : List (Nat × Nat)} (hb : ∀ n i n', look m n = some i → look ns i = some n' → n' = n) : ∀ {cs c1 c2 : List SC}, renCs m cs = some c1 → renCs ns c1 = some c2 → c2 = cs.map SC.dull
  | [], _, _, h1, h2 => by cases h1; cases h2; rfl
  | c :: cs, _, _, h1, h2 => by
    unfold renCs at h1
    split at h1
    · rename_i a b ha hb'
      cases h1
      unfold renCs at h2
      split at h2
      · rename_i a' b' ha' hb''
        cases h2
        rw [renC_back hb ha ha', renCs_back hb hb' hb'']
        rfl
      · cases h2
    · cases h1
theorem renB_back {m ns : List (Nat × Nat)} (hb : ∀ n i n', look m n = some i → look ns i = some n' → n' = n) {b b1 b2 : Blk} (h1 : renB m b = some b1) (h2 : renB ns b1 = some b2) : Alike (some b) (some b2) := by
  cases b with
  | cells t cs =>
    simp only [renB] at h1
    split at h1
    · rename_i xs hx
      cases h1
      simp only [renB] at h2
      split at h2
      · rename_i ys hy
        cases h2
        exact .inr ⟨t, cs, rfl, by rw [renCs_back hb hx hy]⟩
      · cases h2
    · cases h1
  | _ => cases h1; cases h2; exact .inl rfl
/-- A heap that says the same in other words. -/
theorem alike_ok {Gn : Gm} (hm : Mem Gn) {h : H} (hal : ∀ n, Alike (hget h n) (hget Gn.h n)) : Ext Gn ⟨Gn.o, h, Gn.bs, Gn.w⟩ ∧ Mem ⟨Gn.o, h, Gn.bs, Gn.w⟩ := by
  have ha : ∀ n, alive h n → alive Gn.h n := by
    rintro n (⟨k, h1, h2⟩ | ⟨h0, k, i, b, rfl, h1, h2⟩)
    · rcases hal n with e | ⟨t, cs, e1, e2⟩
      · exact .inl ⟨k, by rw [← e]; exact h1, h2⟩
      · exact .inl ⟨_, e2, rfl⟩
    · refine .inr ⟨?_, k, i, b, rfl, ?_, h2⟩
      · rcases hal (hid k i) with e | ⟨t, cs, e1, e2⟩
        · rw [← e]
          exact h0
        · rw [e1] at h0
          cases h0
      · rcases hal k with e | ⟨t, cs, e1, e2⟩
        · rw [← e]
          exact h1
        · rw [e1] at h1
          cases h1
          exact h2.elim
  have hno : ∀ n, hget Gn.h n = none → hget h n = none := fun n hn => by
    rcases hal n with e | ⟨t, cs, e1, e2⟩
    · exact e.trans hn
    · rw [e2] at hn
      cases hn
  have hsub : Sub Gn ⟨Gn.o, h, Gn.bs, Gn.w⟩ := ⟨fun b j hk => ⟨hk.lt, hk.old, fun n hn g m ho e => hk.own n (ha n hn) g m ho e⟩, fun _ _ _ => rfl, Shp.refl _⟩
  have hext : Ext Gn ⟨Gn.o, h, Gn.bs, Gn.w⟩ := by
    refine ⟨hsub, fun n k hk => ?_⟩
    rcases hal n with e | ⟨t, cs, e1, e2⟩
    · refine ⟨k, e.trans hk, ?_⟩
      cases k with
      | row t c => exact ⟨rfl, rfl, rfl⟩
      | rr => exact ⟨rfl, rfl, rfl⟩
      | tok => exact ⟨rfl, fun _ _ _ => rfl⟩
      | cells => rfl
      | emp => rfl
      | mp => rfl
      | frz => rfl
      | past => exact ⟨rfl, rfl, rfl⟩
      | dead => trivial
    · rw [e2] at hk
      cases hk
      exact ⟨_, e1, rfl⟩
  refine ⟨hext, hm.os, hm.tape, hm.output, hm.size, hm.block, hm.keep, fun n hn => hm.own n (ha n hn), fun n n' hn hn' => hm.inj n n' (ha n hn) (ha n' hn'), fun n k hk => ?_, hm.shp, fun n b hb => ?_⟩
  rotate_left
  · rcases hal n with e | ⟨t, cs, e1, e2⟩
    · exact hm.vis n b (by rw [← e]; exact hb)
    · exact hm.vis n _ e2
  have hk : hget h n = some k := hk
  rcases hal n with e | ⟨t, cs, e1, e2⟩
  · have hb := hm.blk n k (by rw [← e]; exact hk)
    cases k with
    | cells t cs =>
      obtain ⟨g, vs, q1, q2, q3⟩ := hb
      exact ⟨g, vs, q1, q2, q3.ext hext⟩
    | row t c =>
      rcases hb with hb | ⟨g, pre, vs, rest, q1, q2, q3, q4⟩
      · exact .inl hb
      · exact .inr ⟨g, pre, vs, rest, q1, q2, q3.sub hsub, q4⟩
    | rr t e c q =>
      obtain ⟨hz, hb⟩ := hb
      rcases hb with hb | ⟨g, pre, vs, rest, q1, q2, q3, q4, q5⟩
      · exact ⟨hz, .inl hb⟩
      · exact ⟨hz, .inr ⟨g, pre, vs, rest, q1, q2, q3.sub hsub, q4, fun i v hv hq => ⟨hno _ (q5 i v hv hq).1, (q5 i v hv hq).2⟩⟩⟩
    | emp t => exact hb
    | _ => trivial
  · rw [e1] at hk
    cases hk
    obtain ⟨g, vs, q1, q2, q3⟩ := hm.blk n _ e2
    exact ⟨g, vs, q1, q2, undulls_is (q3.ext hext)⟩
/-- What is called. -/
theorem call_wp {f : FuncId} (hcon : ∃ fn, P.funcs[f]? = some fn ∧ fn.body.isNone = false ∧ (fn.name == "runtime.NumGoroutine") = false) {o : Oper} {c : Call} (ho : o.op = .call c) {x : Operand} (hf : c.callee = .value x) {cb : Array Value} (hx : a.eval x = .func (.func f) #[] cb) {R : Ending → World → Prop} (hcs : Calls P f (c.args.map a.eval ++ cb) w R)
    {K : Act → World → Prop} {Q : Exit → Act → World → Prop} (hK : ∀ e w', R e w' → ∃ v, e = .returned v ∧ K (a.put o.dst v) w') : o.wp P a w K Q := by
  obtain ⟨fn, g1, g2, g3⟩ := hcon
  have hrun : (execOp a.eval o).run P w = .ok (.enter f (c.args.map a.eval ++ cb)) w := by
    have g2' : ¬ fn.body = none := fun e => by simp [e] at g2
    have g3' : ¬ fn.name = "runtime.NumGoroutine" := by simpa using g3
    simp [execOp, ho, resolve, hf, hx, Deferred.ofValue, invoke, callFunc, g1, g2', g3']
  unfold Oper.wp
  rw [hrun, Oper.upon_enter]
  refine hcs.mono fun e w' h => ?_
  obtain ⟨v, rfl, hk⟩ := hK e w' h
  exact hk
theorem makeFn_ok (hr : Rep bs gv st ν a w) {o : Oper} {f : Fn} {first cap : Array Operand} (ho : o.op = .makeFunc f first cap) {E : Eff} (h : effFn f (first.toList.map (evalE st)) (cap.toList.map (evalE st)) = some E) (hs : E.side) : Runs P o a w (Res bs st ν w E) := by
  unfold effFn at h
  split at h
  · rename_i g gd n h1 h2
    obtain ⟨y, hy, he⟩ : ∃ y, cap.toList = [y] ∧ evalE st y = ⟨gd, .sa (.one (.ptr n 0))⟩ := by
      cases hc : cap.toList with
      | nil => rw [hc] at h2; cases h2
      | cons y l =>
        rw [hc] at h2
        simp only [List.map_cons, List.cons.injEq, List.map_eq_nil_iff] at h2
        exact ⟨y, by rw [h2.2], h2.1⟩
    have hf : first = #[] := by
      have : first.toList = [] := List.map_eq_nil_iff.1 h1
      exact Array.toList_eq_nil_iff.1 this
    have hcap : cap = #[y] := by
      apply Array.ext'
      simpa using hy
    have hv := evalE_is hr y
    rw [he] at hv
    refine mk1_res hr.mem h (v := .func (.func g) #[] #[a.eval y]) (fun _ => ?_) (fun hs => ?_) hs
    · subst hf hcap
      simp [execOp, ho, Instr.makeFunc]
    · unfold mk1 at h
      cases h
      obtain ⟨⟨A, hA⟩, hp⟩ := hv.of hs
      rw [hA] at hp ⊢
      refine ⟨⟨A, rfl⟩, ?_⟩
      unfold ptrAt at hp
      unfold fnAt
      cases hk : hget (gg bs st ν w).h n with
      | none => rw [hk] at hp; exact hp.elim
      | some k =>
        rw [hk] at hp
        cases k with
        | cells t cs =>
          obtain ⟨b, g1, g2⟩ := hp
          exact ⟨b, g1, by rw [g2]⟩
        | row t c =>
          obtain ⟨b, g1, g2⟩ := hp
          exact ⟨b, g1, by rw [g2]⟩
        | frz c => trivial
        | past _ _ _ => trivial
        | dead => trivial
        | _ => exact hp.elim
  · rename_i g gd n o9 h1 h2
    obtain ⟨y, hy, he⟩ : ∃ y, cap.toList = [y] ∧ evalE st y = ⟨gd, .sa (.one (.cpp n o9))⟩ := by
      cases hc : cap.toList with
      | nil => rw [hc] at h2; cases h2
      | cons y l =>
        rw [hc] at h2
        simp only [List.map_cons, List.cons.injEq, List.map_eq_nil_iff] at h2
        exact ⟨y, by rw [h2.2], h2.1⟩
    have hf : first = #[] := by
      have : first.toList = [] := List.map_eq_nil_iff.1 h1
      exact Array.toList_eq_nil_iff.1 this
    have hcap : cap = #[y] := by
      apply Array.ext'
      simpa using hy
    have hv := evalE_is hr y
    rw [he] at hv
    refine mk1_res hr.mem h (v := .func (.func g) #[] #[a.eval y]) (fun _ => ?_) (fun hs => ?_) hs
    · subst hf hcap
      simp [execOp, ho, Instr.makeFunc]
    · unfold mk1 at h
      cases h
      obtain ⟨b, e, hp⟩ := hv.of hs
      exact ⟨b, by rw [e], hp⟩
  · rename_i g gd n gd' k h1 h2
    obtain ⟨y, z, hy, he, he'⟩ : ∃ y z, cap.toList = [y, z] ∧ evalE st y = ⟨gd, .sa (.one (.ptr n 0))⟩ ∧ evalE st z = ⟨gd', .sa (.one (.ptr k 0))⟩ := by
      cases hc : cap.toList with
      | nil => rw [hc] at h2; cases h2
      | cons y l =>
        rw [hc] at h2
        cases l with
        | nil => simp at h2
        | cons z l =>
          simp only [List.map_cons, List.cons.injEq, List.map_eq_nil_iff] at h2
          exact ⟨y, z, by rw [h2.2.2], h2.1, h2.2.1⟩
    have hf : first = #[] := by
      have : first.toList = [] := List.map_eq_nil_iff.1 h1
      exact Array.toList_eq_nil_iff.1 this
    have hcap : cap = #[y, z] := by
      apply Array.ext'
      simpa using hy
    have hv := evalE_is hr y
    rw [he] at hv
    have hv' := evalE_is hr z
    rw [he'] at hv'
    refine mk1_res hr.mem h (v := .func (.func g) #[] #[a.eval y, a.eval z]) (fun _ => ?_) (fun hs => ?_) hs
    · subst hf hcap
      simp [execOp, ho, Instr.makeFunc]
    · unfold mk1 at h
      cases h
      exact ⟨_, _, rfl, hv.of hs.1, hv'.of hs.2⟩
  · cases h
theorem ndF_iff {e : Ent} {s : Prop} : ndF e s ↔ need e.g ∧ s := by
  unfold ndF need
  cases e.g with
  | none => exact ⟨fun h => ⟨trivial, h⟩, fun h => h.2⟩
  | some b => exact Iff.rfl
theorem ndF_eq {e : Ent} {s : Prop} (h : need e.g) : ndF e s = s := propext (ndF_iff.trans ⟨fun q => q.2, fun q => ⟨h, q⟩⟩)
theorem fnV_is (hr : Rep bs gv st ν a w) {x : Operand} {f : Nat} (h : fnV (evalE st x) = some f) (hg : need (evalE st x).g) : a.eval x = .func (.func f) #[] #[] := by
  have hv := evalE_is hr x
  unfold fnV at h
  split at h
  · rename_i g f' heq
    cases h
    rw [heq] at hv hg
    cases g with
    | none => exact hv
    | some b =>
      have hb : b = true := hg
      subst hb
      exact hv
  · cases h
theorem effFull_side {kp : Bool} {h : H} {u : Nat} {con : Con} {s : Prop} {vs : List SA} {E : Eff} (hE : effFull kp h u con s vs = some E) (hs : E.side) : s := by
  unfold effFull at hE
  dsimp only at hE
  split at hE
  · split at hE
    · split at hE
      · split at hE
        · cases hE
          exact hs.1
        · cases hE
      · cases hE
    · cases hE
  · cases hE
theorem effFun_side {kp : Bool} {h : H} {u : Nat} {con : Con} {s : Prop} {vs : List SA} {E : Eff} (hE : effFun kp h u con s vs = some E) (hs : E.side) : s := by
  unfold effFun at hE
  split at hE
  · rename_i E' hE'
    cases hE
    exact effFull_side hE' hs
  · unfold effPlain at hE
    dsimp only at hE
    split at hE
    · split at hE
      · split at hE
        · split at hE
          · split at hE
            · cases hE
              exact hs.1
            · cases hE
              exact hs.1
          · cases hE
        · cases hE
      · cases hE
    · cases hE
theorem fnC_is (hr : Rep bs gv st ν a w) {x : Operand} {f : Nat} {n : List SA} (h : fnC (evalE st x) = some (f, n)) : ∃ u : List Value, a.eval x = .func (.func f) #[] u.toArray ∧ sasIs (gg bs st ν w) n u := by
  have hv := evalE_is hr x
  unfold fnC at h
  split at h
  · rename_i g m heq
    cases h
    rw [heq] at hv
    obtain ⟨⟨A, hA⟩, hp⟩ := hv
    refine ⟨[_], hA, ⟨⟨A, rfl⟩, ?_⟩, trivial⟩
    unfold fnAt at hp
    unfold ptrAt
    rw [hA] at hp
    cases hk : hget (gg bs st ν w).h m with
    | none => rw [hk] at hp; exact hp.elim
    | some k =>
      rw [hk] at hp
      cases k with
      | cells t cs =>
        obtain ⟨b, g1, g2⟩ := hp
        simp at g2
        exact ⟨b, g1, by rw [g2]⟩
      | row t c =>
        obtain ⟨b, g1, g2⟩ := hp
        simp at g2
        exact ⟨b, g1, by rw [g2]⟩
      | frz c => trivial
      | past _ _ _ => trivial
      | dead => trivial
      | _ => exact hp.elim
  · rename_i g m o heq
    cases h
    rw [heq] at hv
    obtain ⟨b, e, hp⟩ := hv
    exact ⟨[_], e, ⟨b, rfl, hp⟩, trivial⟩
  · rename_i g m k heq
    cases h
    rw [heq] at hv
    obtain ⟨p, q, e, h1, h2⟩ := hv
    exact ⟨[p, q], e, h1, h2, trivial⟩
  · cases h
theorem sasIs_app {G : Gm} : ∀ {xs ys : List SA} {us vs : List Value}, sasIs G xs us → sasIs G ys vs → sasIs G (xs ++ ys) (us ++ vs)
  | [], _, [], _, _, h => h
  | [], _, _ :: _, _, h, _ => h.elim
  | _ :: _, _, [], _, h, _ => h.elim
  | _ :: _, _, _ :: _, _, ⟨a, b⟩, h => ⟨a, sasIs_app b h⟩
theorem full_ok (hc : CxOk P cx) (hr : Rep bs gv st ν a w) {o : Oper} {c : Call} {f : FuncId} {u : Nat} (ho : o.op = .call c) {x : Operand} (hf : c.callee = .value x) {cb : List Value} (hx : a.eval x = .func (.func f) #[] cb.toArray) {con : Con} (hf6 : lee f 999999 = true) (hcon : look cx.fs f = some con) {kp : Bool} (hkp : kp = true → Keeps con) {vs : List SA} {Nd : Prop} (hv : Nd → sasIs (gg bs st ν w) vs (c.args.toList.map a.eval ++ cb))
    {E : Eff} (h : effFull kp st.heap u con Nd vs = some E) (hs : E.side) {K : Act → World → Prop} {Q : Exit → Act → World → Prop} (hK : ∀ v w', Res bs st ν w E v w' → K (a.put o.dst v) w') : o.wp P a w K Q := by
  obtain ⟨hfn, hcall⟩ := hc.fs f con hf6 hcon
  unfold effFull at h
  simp only at h
  generalize hseen : reach 200 st.heap (vs.flatMap refsA) [] = seen at h
  split at h
  · rename_i args h0 hargs hh0
    split at h
    · rename_i p hp
      split at h
      · rename_i r h1 hr1 hh1
        split at h
        · rename_i hchk
          cases h
          simp only [Bool.and_eq_true] at hchk
          obtain ⟨c1, c2, c3, c4⟩ := hchk
          obtain ⟨n1, hC, ⟨l1, _, l3, l4⟩, ⟨m1, m2, _, m4⟩, hcomp, hrps⟩ := hs
          have hargv := hv n1
          have l3 := pasLe_mono (fun n b => subH_get (h := st.heap) (n := n) (b := b)) l3
          have l4 := heapLe_mono (fun n b => subH_get (h := st.heap) (n := n) (b := b)) l4
          -- where the callee begins
          obtain ⟨hle, hmc⟩ := le_mem (G := gg bs st ν w) (fr := false) (Gn := ⟨lesO (turned (numbered 0 seen)) ν, h0, ⟨w, (gg bs st ν w).ok, fun g => ∃ k q, keptH (turned (numbered 0 seen)) h0 k ∧ alive st.heap k ∧ ν k = some (g, q)⟩, w⟩) hr.mem l1 l4 rfl (.inr ⟨rfl, rfl⟩)
          have hcs := hcall args h0 p hp hC _ (c.args.toList.map a.eval ++ cb) rfl rfl hmc (sas_of (by rw [eqn_eq c4]; exact hargv.len) (pasLe_is hle l3 (pas_of hargv)))
          have hargs' : (c.args.toList.map a.eval ++ cb).toArray = c.args.map a.eval ++ cb.toArray := by
            apply Array.ext'
            simp
          rw [hargs'] at hcs
          refine call_wp hfn ho hf hx hcs ?_
          rintro e w' ⟨v, G', rfl, rfl, hb', hh', hm', hrv, hasv⟩
          refine ⟨v, rfl, hK _ _ ?_⟩
          -- under the caller's names
          have m4 : heapLe ⟨turned (names (rootsAll seen args h0 p.h vs p.as) (bid u) p.h), G'.h, h1, kept (turned (names (rootsAll seen args h0 p.h vs p.as) (bid u) p.h)) h1, false⟩ h1 := by rw [hh']; exact m4
          have m2 : entsLe ⟨turned (names (rootsAll seen args h0 p.h vs p.as) (bid u) p.h), G'.h, h1, kept (turned (names (rootsAll seen args h0 p.h vs p.as) (bid u) p.h)) h1, false⟩ (entsOf p.r) (entsOf r) := by rw [hh']; exact m2
          obtain ⟨hle2, hmt⟩ := le_mem (G := G') (fr := false) (bs' := G'.bs) hm' m1 m4 rfl (.inl ⟨rfl, trivial⟩)
          have hrt := entsOf_le hle2 (renV_kind hr1) m2 hrv
          have hroot : ∀ n k k', hget st.heap n = some k → hget h1 n = some k' → match k, k' with
              | .cells _ _, .cells _ _ => lesO (turned (names (rootsAll seen args h0 p.h vs p.as) (bid u) p.h)) G'.o n = ν n
              | .row _ c, .row _ c' => lesO (turned (names (rootsAll seen args h0 p.h vs p.as) (bid u) p.h)) G'.o n = ν n ∧ c'.sz = c.sz ∧ c'.n = c.n
              | .rr _ _ c _, .rr _ _ c' _ => lesO (turned (names (rootsAll seen args h0 p.h vs p.as) (bid u) p.h)) G'.o n = ν n ∧ c'.sz = c.sz ∧ c'.n = c.n
              | .mp _, .mp _ => lesO (turned (names (rootsAll seen args h0 p.h vs p.as) (bid u) p.h)) G'.o n = ν n
              | _, _ => False := by
            intro n k k' hk hk'
            have hlt := hr.mem.vis n k hk
            obtain ⟨i, b, _, q1, q2, q3⟩ := renH_look hh1 n k' hk'
            have q4 := look_mem q1
            have hro : look (rootsAll seen args h0 p.h vs p.as) i = some n := by
              rcases names_mem q4 with q | q
              · exact q
              · have := freeAll_mem c1 i n q4 q
                rw [hk] at this
                cases this
            have hcmp := compats_mem hcomp i n n q4 hro
            rw [hk, q2] at hcmp
            have hback : look (turned (names (rootsAll seen args h0 p.h vs p.as) (bid u) p.h)) n = some i := isAt_eq (List.all_eq_true.1 c3 (i, n) q4)
            have hoeq : lesO (turned (names (rootsAll seen args h0 p.h vs p.as) (bid u) p.h)) G'.o n = G'.o i := by rw [lesO_lt hlt, hback]
            have hkk : blkLe ⟨turned (names (rootsAll seen args h0 p.h vs p.as) (bid u) p.h), G'.h, h1, kept (turned (names (rootsAll seen args h0 p.h vs p.as) (bid u) p.h)) h1, false⟩ b k' := by
              rcases heapLe_get m4 n k' hk' with ⟨i2, b0, z1, z2, z3⟩ | ⟨_, z2⟩
              · have z1 : look (turned (names (rootsAll seen args h0 p.h vs p.as) (bid u) p.h)) n = some i2 := z1
                rw [hback] at z1
                cases z1
                have z2 : hget G'.h i = some b0 := z2
                rw [hh', q2] at z2
                cases z2
                exact z3
              · have z2 : look (turned (names (rootsAll seen args h0 p.h vs p.as) (bid u) p.h)) n = none := z2
                rw [hback] at z2
                cases z2
            have hq2' : hget G'.h i = some b := by rw [hh']; exact q2
            have hsame : (match k, b with
                | .cells _ _, .cells _ _ => True
                | .row _ _, .row _ _ => True
                | .rr _ _ _ _, .rr _ _ _ _ => True
                | .mp _, .mp _ => True
                | _, _ => False) → G'.o i = ν n := by
              intro hkinds
              have hkeepc : ∀ b j u, cellAt (gg bs st ν w) b j u → G'.w.cell? ⟨b, j, none⟩ = some u := fun b j u hcu => by
                have h9 := hm'.keep b j (by rw [hb']; exact hcu.ok.lt) (by rw [hb']; exact hcu.ok)
                rw [h9, hb']
                exact hcu.cell
              rcases List.mem_append.1 (look_mem hro) with hro | hro
              rotate_left
              · obtain ⟨⟨k3, i3, j3⟩, hj3, he3⟩ := List.mem_filterMap.1 hro
                simp only at he3
                split at he3
                · rename_i hr3 hs3
                  cases he3
                  have hlen3 : (c.args.toList.map a.eval ++ cb).length = vs.length := hargv.len.symm
                  have hz := stay_is hasv (k3, i, j3) (by rw [hlen3]; exact hj3)
                  refine (hz (by rw [hh']; exact hr3)).trans ?_
                  · show lesO (turned (numbered 0 seen)) ν j3 = ν n
                    have hl3 : j3 < hidN := by
                      obtain ⟨b9, g9⟩ := okK_some hr3
                      exact smallH_lt ((Bool.and_eq_true _ _).mp l1).2 g9
                    rw [lesO_lt hl3]
                    have := look_turned seen 0 j3
                    rw [Nat.zero_add] at this
                    rw [this, hs3]
                · cases he3
              rcases roots_is hkeepc hargv hasv hrps i n hro with ⟨off, v0, z1, z2⟩ | ⟨v0, z1, z2⟩ | ⟨v0, z1, z2⟩ | ⟨x9, j9, v0, z1, z2⟩
              · unfold ptrAt at z1 z2
                have hk' : hget (gg bs st ν w).h n = some k := hk
                rw [hk'] at z1
                rw [hq2'] at z2
                cases k <;> cases b <;> first | exact hkinds.elim | exact z1.elim | skip
                all_goals
                  obtain ⟨g1, y1, y2⟩ := z1
                  obtain ⟨g2, y3, y4⟩ := z2
                  rw [y2] at y4
                  cases y4
                  exact y3.trans y1.symm
              · unfold ownAt at z1 z2
                have hk' : hget (gg bs st ν w).h n = some k := hk
                rw [hk'] at z1
                rw [hq2'] at z2
                cases k <;> cases b <;> first | exact hkinds.elim | exact z1.elim | skip
                all_goals
                  rcases z1 with ⟨_, y1, A1, y2⟩ | ⟨g1, o1, cap1, _, _, y1, y2, _, _, _, _, y5⟩ <;> rcases z2 with ⟨_, y3, A2, y4⟩ | ⟨g2, o2, cap2, _, _, y3, y4, _, _, _, _, y6⟩ <;> rw [y2] at y4
                  · exact y3.trans y1.symm
                  · have := (Value.slice.inj y4).2.2
                    omega
                  · have := (Value.slice.inj y4).2.2
                    omega
                  · simp only [Value.slice.injEq, Option.some.injEq, Addr.mk.injEq] at y4
                    rw [y3, ← y4.1.1, ← y4.1.2.1]
                    exact y1.symm
              · unfold mpAt at z1 z2
                have hk' : hget (gg bs st ν w).h n = some k := hk
                rw [hk'] at z1
                rw [hq2'] at z2
                cases k <;> cases b <;> first | exact hkinds.elim | exact z1.elim | skip
                obtain ⟨g1, y1, y2⟩ := z1
                obtain ⟨g2, y3, y4⟩ := z2
                rw [y2] at y4
                cases y4
                exact y3.trans y1.symm
              · unfold rpAt at z1 z2
                have hk' : hget (gg bs st ν w).h n = some k := hk
                rw [hk'] at z1
                rw [hq2'] at z2
                cases k <;> cases b <;> first | exact hkinds.elim | exact z1.elim | skip
                all_goals
                  obtain ⟨g1, o1, y1, _, y2⟩ := z1
                  obtain ⟨g2, o2, y3, _, y4⟩ := z2
                  rw [y2, hcmp.2] at y4
                  simp only [Value.pointer.injEq, Option.some.injEq, Addr.mk.injEq] at y4
                  have e9 : o2 = o1 := by omega
                  have y1 : ν n = some (g1, o1) := y1
                  rw [y3, y1, e9, y4.1]
            cases k with
            | cells t0 c0 => cases b with
              | cells t c => cases k' with
                | cells t' c' => exact hoeq.trans (hsame trivial)
                | _ => exact hkk.elim
              | _ => exact hcmp.elim
            | row t0 c0 => cases b with
              | row t c => cases k' with
                | row t' c' =>
                  have e := ctLe_eq hkk.2
                  subst e
                  refine ⟨hoeq.trans (hsame trivial), hcmp.2, ?_⟩
                  have := hcmp.1
                  rw [Ct.len_n, Ct.len_n] at this
                  exact_mod_cast this
                | _ => exact hkk.elim
              | _ => exact hcmp.elim
            | rr t0 e0 c0 r0 => cases b with
              | rr t e c r => cases k' with
                | rr t' e' c' r' =>
                  have e := ctLe_eq hkk.2.1
                  subst e
                  refine ⟨hoeq.trans (hsame trivial), hcmp.2, ?_⟩
                  have := hcmp.1
                  rw [Ct.len_n, Ct.len_n] at this
                  exact_mod_cast this
                | _ => exact hkk.elim
              | _ => exact hcmp.elim
            | mp c0 => cases b with
              | mp c => cases k' with
                | mp c' => exact hoeq.trans (hsame trivial)
                | _ => exact hkk.elim
              | _ => exact hcmp.elim
            | _ => cases b <;> exact hcmp.elim
          obtain ⟨hx, hmm, hxt⟩ := union_ok (G := gg bs st ν w) hr.mem (S := keptH (turned (numbered 0 seen)) h0) hmt (by show G'.bs = _; rw [hb']; rfl) (h'' := setAll st.heap (deadOf (h1.map (·.1)) seen ++ h1)) (D := fun n => n ∈ seen ∧ memN n (h1.map (·.1)) = false)
            (fun n b hb => by
              have hb : hget h1 n = some b := hb
              rw [setAll_app, setAll_look c2, hb])
            (fun n hn hd => by
              have hn : hget h1 n = none := hn
              rw [setAll_app, setAll_look c2, hn]
              simp only
              rw [deadOf_look, if_pos hd])
            (fun n hn hd => by
              have hn : hget h1 n = none := hn
              rw [setAll_app, setAll_look c2, hn]
              simp only
              rw [deadOf_look, if_neg hd]
              rfl)
            (fun n hlt hS hn => by
              have hS := (keptH_lt hlt).1 hS
              refine ⟨kept_turned hS, ?_⟩
              cases hq : memN n (h1.map (·.1)) with
              | false => rfl
              | true =>
                have hn : hget h1 n = none := hn
                have hmem := memN_iff.1 hq
                exfalso
                exact key_some hmem hn)
            (fun k j hk hj => (keptH_hid hj).trans (keptH_lt hk).symm)
            (fun n hd => by
              obtain ⟨b, hb⟩ := renH_all hh0 n hd.1
              exact hr.mem.vis n b hb)
            hroot rfl
          have plain : Res bs st ν w ⟨True, ⟨none, r⟩, deadOf (h1.map (·.1)) seen ++ h1⟩ v G'.w := ⟨_, hx, SV.is.ext hxt hrt, hmm⟩
          show ∃ ν', _ ∧ _ ∧ _
          dsimp only
          split
          · rename_i hchk2
            simp only [Bool.and_eq_true] at hchk2
            obtain ⟨k1, k2, k3⟩ := hchk2
            have hkeep : p.h = h0 := hkp k1 args h0 p hp
            obtain ⟨x2, m2'⟩ := alike_ok (Gn := ⟨_, _, _, _⟩) hmm (h := st.heap) (fun n => by
              show Alike (hget st.heap n) (hget (setAll st.heap (deadOf (h1.map (·.1)) seen ++ h1)) n)
              rw [setAll_app, setAll_look c2]
              have hback : ∀ n i n', look (numbered 0 seen) n = some i → look (names (rootsAll seen args h0 p.h vs p.as) (bid u) p.h) i = some n' → n' = n := by
                intro n i n' z1 z2
                have z3 := isAt_eq (List.all_eq_true.1 k2 (i, n') (look_mem z2))
                exact numbered_inj (look_mem z3) (look_mem z1)
              cases hq : hget h1 n with
              | some b' =>
                simp only
                obtain ⟨i, b, _, q1, q2, q3⟩ := renH_look hh1 n b' hq
                rw [hkeep] at q2
                obtain ⟨n2, b2, _, q4, q5, q6⟩ := renH_look hh0 i b q2
                have := hback n2 i n q4 q1
                subst this
                rw [q5]
                exact renB_back hback q6 q3
              | none =>
                simp only
                rw [deadOf_look]
                split
                · rename_i hd
                  have := List.all_eq_true.1 k3 n hd.1
                  rw [hd.2] at this
                  cases this
                · exact .inl rfl)
            exact ⟨_, Ext.trans hx x2, SV.is.ext x2 (SV.is.ext hxt hrt), m2'⟩
          · exact plain
        · cases h
      · cases h
    · cases h
  · cases h
theorem plainC_is {x y : SC} {v : Value} {ids : List Nat} (h : plainC G.h x = some y) (hv : x.is G v) (hids : ∀ n ∈ refsC x, n ∈ ids) {Gf Gc : Gm} (hx : Ext G Gf) (hh : Gf.h = setAll G.h (rowsOf G.h ids)) (hs : Sub Gf Gc) : y.is Gc v := by
  unfold plainC at h
  split at h
  · cases h
  · cases h
  · cases h
  · cases h
  · cases h
  · cases h
  · cases h
  · cases h
  · rename_i n
    have key : ∀ c, ctOf G.h (.own n) = some c → (SC.sl none c).is Gc v := fun c hc => ⟨Ct.is.sub hs (frozen_is (x := .own n) hc hv hids hx hh), trivial⟩
    split at h
    · rename_i hk
      cases h
      exact key _ (by simp [ctOf, hk])
    · rename_i hk
      cases h
      exact key _ (by simp [ctOf, hk])
    · cases h
  · cases h
    exact ⟨Ct.is.sub (hx.toSub.trans hs) hv.1, trivial⟩
  · cases h
    have hv2 := dull_is hv
    have key : ∀ c : SC, (∀ n o, c ≠ .ptr n o) → (∀ n i j, c ≠ .rp n i j) → (∀ n, c ≠ .own n) → (∀ tk ct, c ≠ .sl tk ct) → (∀ g n, c ≠ .fn g n) → (∀ n, c ≠ .mp n) → (∀ n o, c ≠ .cpp n o) → (∀ g n o, c ≠ .fnp g n o) → (∀ g n k, c ≠ .fn2 g n k) → (∀ n l, c ≠ .vw n l) → c.is G v → c.is Gc v := by
      intro c h1 h2 h3 h4 h5 h6 h7 h8 h10 h9 hc
      cases c with
      | fn2 g n k => exact absurd rfl (h10 g n k)
      | cpp n o => exact absurd rfl (h7 n o)
      | fnp g n o => exact absurd rfl (h8 g n o)
      | vw n l => exact absurd rfl (h9 n l)
      | fn g n => exact absurd rfl (h5 g n)
      | mp n => exact absurd rfl (h6 n)
      | ptr n o => exact absurd rfl (h1 n o)
      | rp n i j => exact absurd rfl (h2 n i j)
      | own n => exact absurd rfl (h3 n)
      | sl tk ct => exact absurd rfl (h4 tk ct)
      | nil1 =>
        obtain ⟨b, o, c9, e, h91, h92, hc⟩ := hc
        exact ⟨b, o, c9, e, h91, h92, hc.sub (hx.toSub.trans hs)⟩
      | rpi k n =>
        obtain ⟨b, o, e, hc⟩ := hc
        exact ⟨b, o, e, hc.sub (hx.toSub.trans hs)⟩
      | rpe s x j =>
        obtain ⟨b, o, us, e, hc, hcs⟩ := hc
        exact ⟨b, o, us, e, hc.sub (hx.toSub.trans hs), fun i u hu => (hcs i u hu).sub (hx.toSub.trans hs)⟩
      | _ => exact hc
    refine key _ ?_ ?_ ?_ ?_ ?_ ?_ ?_ ?_ ?_ ?_ hv2
    all_goals
      intros
      unfold SC.dull
      split <;> simp_all
theorem plainCs_is {ids : List Nat} {Gf Gc : Gm} (hx : Ext G Gf) (hh : Gf.h = setAll G.h (rowsOf G.h ids)) (hs : Sub Gf Gc) : ∀ {xs ys : List SC} {vs : List Value}, plainCs G.h xs = some ys → cellsIs G xs vs → (∀ n ∈ xs.flatMap refsC, n ∈ ids) → cellsIs Gc ys vs
  | [], ys, [], h, _, _ => by cases h; trivial
  | [], _, _ :: _, _, hv, _ => hv.elim
  | _ :: _, _, [], _, hv, _ => hv.elim
  | x :: xs, ys, v :: vs, h, ⟨⟨h1, h2⟩, h3⟩, hids => by
    unfold plainCs at h
    split at h
    · rename_i y ys' e1 e2
      cases h
      exact ⟨⟨plainC_is e1 h1 (fun n hn => hids n (by simp [hn])) hx hh hs, h2⟩, plainCs_is hx hh hs e2 h3 fun n hn => hids n (by simp only [List.flatMap_cons, List.mem_append]; exact .inr hn)⟩
    · cases h
theorem plainA_is {x y : SA} {v : Value} {ids : List Nat} (h : plainA G.h x = some y) (hv : x.is G v) (hids : ∀ n ∈ refsA x, n ∈ ids) {Gf Gc : Gm} (hx : Ext G Gf) (hh : Gf.h = setAll G.h (rowsOf G.h ids)) (hs : Sub Gf Gc) : y.is Gc v := by
  cases x with
  | one c =>
    simp only [plainA] at h
    split at h
    · rename_i z hz
      cases h
      exact plainC_is hz hv hids hx hh hs
    · cases h
  | agg cs =>
    simp only [plainA] at h
    split at h
    · rename_i z hz
      cases h
      obtain ⟨vs, e, hc⟩ := hv
      exact ⟨vs, e, plainCs_is hx hh hs hz hc hids⟩
    · cases h
  | blob c =>
    cases h
    obtain ⟨vs, e, hc, h1⟩ := hv
    exact ⟨vs, e, hc.sub (hx.toSub.trans hs), h1⟩
theorem plainAs_is {ids : List Nat} {Gf Gc : Gm} (hx : Ext G Gf) (hh : Gf.h = setAll G.h (rowsOf G.h ids)) (hs : Sub Gf Gc) : ∀ {xs ys : List SA} {vs : List Value}, plainAs G.h xs = some ys → sasIs G xs vs → (∀ n ∈ xs.flatMap refsA, n ∈ ids) → sasIs Gc ys vs
  | [], ys, [], h, _, _ => by cases h; trivial
  | [], _, _ :: _, _, hv, _ => hv.elim
  | _ :: _, _, [], _, hv, _ => hv.elim
  | x :: xs, ys, v :: vs, h, ⟨h1, h3⟩, hids => by
    unfold plainAs at h
    split at h
    · rename_i y ys' e1 e2
      cases h
      exact ⟨plainA_is e1 h1 (fun n hn => hids n (by simp [hn])) hx hh hs, plainAs_is hx hh hs e2 h3 fun n hn => hids n (by simp only [List.flatMap_cons, List.mem_append]; exact .inr hn)⟩
    · cases h
theorem pureC_is {c : SC} {v : Value} (hp : pureC c = true) (h : c.is G v) : c.is G' v := by
  cases c <;> first | exact h | cases hp
theorem pureCs_is : ∀ {cs : List SC} {vs : List Value}, cs.all pureC = true → cellsIs G cs vs → cellsIs G' cs vs
  | [], [], _, _ => trivial
  | [], _ :: _, _, h => h.elim
  | _ :: _, [], _, h => h.elim
  | _ :: _, _ :: _, hp, ⟨⟨a, b⟩, c⟩ => by
    simp only [List.all_cons, Bool.and_eq_true] at hp
    exact ⟨⟨pureC_is hp.1 a, b⟩, pureCs_is hp.2 c⟩
theorem pureA_is {x : SA} {v : Value} (hp : pureA x = true) (h : x.is G v) : x.is G' v := by
  cases x with
  | one c => exact pureC_is hp h
  | agg cs =>
    obtain ⟨vs, e, hc⟩ := h
    exact ⟨vs, e, pureCs_is hp hc⟩
  | blob c => cases hp
theorem pureAs_is : ∀ {xs : List SA} {vs : List Value}, xs.all pureA = true → sasIs G xs vs → sasIs G' xs vs
  | [], [], _, _ => trivial
  | [], _ :: _, _, h => h.elim
  | _ :: _, [], _, h => h.elim
  | _ :: _, _ :: _, hp, ⟨a, c⟩ => by
    simp only [List.all_cons, Bool.and_eq_true] at hp
    exact ⟨pureA_is hp.1 a, pureAs_is hp.2 c⟩
theorem pureV_is {r : SV} {v : Value} (hp : pureV r = true) (h : r.is G v) : r.is G' v := by
  cases r with
  | sa x => exact pureA_is hp h
  | tup xs =>
    obtain ⟨vs, e, hc⟩ := h
    exact ⟨vs, e, pureAs_is hp hc⟩
theorem plain_ok (hc : CxOk P cx) (hr : Rep bs gv st ν a w) {o : Oper} {c : Call} {f : FuncId} {u : Nat} (ho : o.op = .call c) {x : Operand} (hf : c.callee = .value x) (hx : fnV (evalE st x) = some f) (hg : need (evalE st x).g) {con : Con} (hf6 : lee f 999999 = true) (hcon : look cx.fs f = some con) {vs : List SA} (hv : sas (c.args.toList.map (evalE st)) = some vs)
    {E : Eff} (h : effPlain st.heap u con (needs (c.args.toList.map (evalE st))) vs = some E) (hs : E.side) {K : Act → World → Prop} {Q : Exit → Act → World → Prop} (hK : ∀ v w', Res bs st ν w E v w' → K (a.put o.dst v) w') : o.wp P a w K Q := by
  obtain ⟨hfn, hcall⟩ := hc.fs f con hf6 hcon
  unfold effPlain at h
  simp only at h
  split at h
  · rename_i args hargs
    split at h
    · rename_i p hp
      split at h
      · rename_i r h1 hr1 hh1
        split at h
        · rename_i hchk
          simp only [Bool.and_eq_true] at hchk
          obtain ⟨c1, c2, c3⟩ := hchk
          -- where the callee begins
          obtain ⟨νf, xf, mf⟩ := mem_rows (G := gg bs st ν w) hr.mem (vs.flatMap refsA)
          have mf : Mem ⟨νf, setAll st.heap (rowsOf st.heap (vs.flatMap refsA)), bs, w⟩ := mf
          obtain ⟨hle, hmc⟩ := le_mem (m := []) (h' := []) (fr := false) (Gn := ⟨lesO [] νf, [], ⟨w, Gm.ok ⟨νf, setAll st.heap (rowsOf st.heap (vs.flatMap refsA)), bs, w⟩, fun g => ∃ k q, keptH [] [] k ∧ alive (setAll st.heap (rowsOf st.heap (vs.flatMap refsA))) k ∧ νf k = some (g, q)⟩, w⟩) mf rfl trivial rfl (.inr ⟨rfl, rfl⟩)
          have call : needs (c.args.toList.map (evalE st)) → p.C → Calls P f (c.args.map a.eval) w fun e w' => ∃ v G', e = .returned v ∧ G'.w = w' ∧ G'.bs = ⟨w, Gm.ok ⟨νf, setAll st.heap (rowsOf st.heap (vs.flatMap refsA)), bs, w⟩, fun g => ∃ k q, keptH [] [] k ∧ alive (setAll st.heap (rowsOf st.heap (vs.flatMap refsA))) k ∧ νf k = some (g, q)⟩ ∧ G'.h = p.h ∧ Mem G' ∧ p.r.is G' v := by
            intro n1 hC
            have hargv := sas_is hr hv n1
            have hcs := hcall args [] p hp hC _ (c.args.toList.map a.eval) rfl rfl hmc (plainAs_is (G := gg bs st ν w) xf rfl hle.sub hargs hargv fun n hn => hn)
            have hargs' : (c.args.toList.map a.eval).toArray = c.args.map a.eval := by
              apply Array.ext'
              simp
            rw [hargs'] at hcs
            refine hcs.mono ?_
            rintro e w' ⟨v, G', q1, q2, q3, q4, q5, q6, _⟩
            exact ⟨v, G', q1, q2, q3, q4, q5, q6⟩
          split at h
          · rename_i hpu
            simp only [Bool.and_eq_true] at hpu
            cases h
            refine call_wp hfn ho hf (fnV_is hr hx hg) (call hs.1 hs.2) ?_
            rintro e w' ⟨v, G', rfl, rfl, hb', hh', hm', hrv⟩
            have hW : G'.bs.W = w := by rw [hb']
            have hbelow : Below w.heap.size w G'.w := by
              refine ⟨?_, ?_, ?_, ?_, fun k hk => ?_⟩
              · have := hm'.os; rwa [hW] at this
              · have := hm'.tape; rwa [hW] at this
              · have := hm'.output; rwa [hW] at this
              · have := hm'.size; rwa [hW] at this
              · have := hm'.block k (by rw [hW]; exact hk) (by
                  rw [hb']
                  rintro ⟨_, _, h, _⟩
                  cases h)
                rwa [hW] at this
            obtain ⟨hx, hmm⟩ := mem_below (G := gg bs st ν w) hr.mem hbelow
            exact ⟨v, rfl, hK _ _ ⟨ν, hx, pureV_is hpu.1 hrv, hmm⟩⟩
          · cases h
            obtain ⟨n1, hC, m1, m2, _, m4⟩ := hs
            refine call_wp hfn ho hf (fnV_is hr hx hg) (call n1 hC) ?_
            rintro e w' ⟨v, G', rfl, rfl, hb', hh', hm', hrv⟩
            refine ⟨v, rfl, hK _ _ ?_⟩
            have m4 : heapLe ⟨turned (names [] (bid u) p.h), G'.h, h1, kept (turned (names [] (bid u) p.h)) h1, false⟩ h1 := by rw [hh']; exact m4
            have m2 : entsLe ⟨turned (names [] (bid u) p.h), G'.h, h1, kept (turned (names [] (bid u) p.h)) h1, false⟩ (entsOf p.r) (entsOf r) := by rw [hh']; exact m2
            obtain ⟨hle2, hmt⟩ := le_mem (G := G') (fr := false) (bs' := G'.bs) hm' m1 m4 rfl (.inl ⟨rfl, trivial⟩)
            have hrt := entsOf_le hle2 (renV_kind hr1) m2 hrv
            have hnew : ∀ n b, hget h1 n = some b → hget st.heap n = none := by
              intro n b hb
              obtain ⟨i, b0, _, q1, q2, q3⟩ := renH_look hh1 n b hb
              exact freeAll_mem c1 i n (look_mem q1) rfl
            have hrowsn : ∀ {l : H}, (∀ q ∈ l, hget st.heap q.1 ≠ none) → ∀ {h : H} {n : Nat}, hget st.heap n = none → hget (setAll h l) n = hget h n := by
              intro l
              induction l with
              | nil => intro _ h n _; rfl
              | cons q l ih =>
                intro hq h n hn
                show hget (setAll (hset h q.1 q.2) l) n = _
                rw [ih (fun r hr => hq r (List.mem_cons_of_mem _ hr)) hn, hget_other _ _ (fun e => hq q (List.mem_cons_self ..) (by rw [e]; exact hn))]
            have hrn : ∀ n, hget st.heap n = none → hget (setAll st.heap (rowsOf st.heap (vs.flatMap refsA))) n = none := by
              intro n hn
              rw [hrowsn (fun q hq => by
                obtain ⟨c0, t0, _, e2⟩ := rowsOf_ok q hq
                rw [e2]
                simp) hn]
              exact hn
            obtain ⟨hx, hmm, hxt⟩ := union_ok (G := ⟨νf, setAll st.heap (rowsOf st.heap (vs.flatMap refsA)), bs, w⟩) mf (S := fun k => keptH [] [] k) hmt (by show G'.bs = _; rw [hb']) (h'' := setAll st.heap (rowsOf st.heap (vs.flatMap refsA) ++ h1)) (D := fun _ => False)
              (fun n b hb => by
                have hb : hget h1 n = some b := hb
                rw [setAll_app, setAll_look c2, hb])
              (fun n hn hd => hd.elim)
              (fun n hn hd => by
                have hn : hget h1 n = none := hn
                rw [setAll_app, setAll_look c2, hn])
              (fun n hlt hS hn => by cases ((keptH_lt hlt).1 hS))
              (fun k j hk hj => (keptH_hid hj).trans (keptH_lt hk).symm)
              (fun n hd => hd.elim)
              (fun n k k' hk hk' => by
                have := hrn n (hnew n k' hk')
                rw [this] at hk
                cases hk) rfl
            exact ⟨_, xf.trans hx, SV.is.ext hxt hrt, hmm⟩
        · cases h
      · cases h
    · cases h
  · cases h
/-- Each operation does what the reckoner says. -/
theorem eff_ok (hc : CxOk P cx) (hr : Rep bs gv st ν a w) {o : Oper} {u : Nat} {E : Eff} (h : eff Ar.std cx st u o.op = some E) (hs : E.side) {K : Act → World → Prop} {Q : Exit → Act → World → Prop}
    (hK : ∀ v w', Res bs st ν w E v w' → K (a.put o.dst v) w') : o.wp P a w K Q := by
  cases ho : o.op with
  | move x => rw [ho] at h; simp only [eff] at h; cases h; exact (move_ok hr (.inl ho)).wp hK
  | assign x => rw [ho] at h; simp only [eff] at h; cases h; exact (move_ok hr (.inr ho)).wp hK
  | pick c x y => rw [ho] at h; exact (pick_ok hr ho h hs).wp hK
  | binOp op t x y t' => rw [ho] at h; exact (bin_ok hc hr ho h hs).wp hK
  | unOp op t x => rw [ho] at h; exact (un_ok hr ho h hs).wp hK
  | convert t u' x => rw [ho] at h; exact (conv_ok hc hr ho h hs).wp hK
  | nilCheck x => rw [ho] at h; exact (nil_ok hr ho h hs).wp hK
  | alloc t => rw [ho] at h; exact (alloc_ok hc hr ho h hs).wp hK
  | box t x =>
    rw [ho] at h
    simp only [eff] at h
    split at h
    · exact (boxP_ok hr ho h hs).wp hK
    · exact (box_ok hr ho h hs).wp hK
  | load t x =>
    rw [ho] at h
    simp only [eff] at h
    split at h
    · exact (take_ok hc hr ho h hs).wp hK
    · exact (load_ok hc hr ho h hs).wp hK
  | store t x y =>
    rw [ho] at h
    simp only [eff] at h
    split at h
    · exact (put_ok hc hr ho h hs).wp hK
    · exact (store_ok hc hr ho h hs).wp hK
  | fieldAddr t x f => rw [ho] at h; exact (fieldAddr_ok hc hr ho h hs).wp hK
  | field t x f => rw [ho] at h; exact (field_ok hc hr ho h hs).wp hK
  | build t ps => rw [ho] at h; exact (build_ok hc hr ho h hs).wp hK
  | buildSlice t n ps =>
    rw [ho] at h
    simp only [eff] at h
    split at h
    · exact (nil1_ok hc hr ho h).wp hK
    · exact (buildSlice_ok hc hr ho h hs).wp hK
  | makeSlice t l c => rw [ho] at h; exact (make_ok hc hr ho h hs).wp hK
  | indexAddr t x y => rw [ho] at h; exact (indexAddr_ok hc hr ho h hs).wp hK
  | index t x y => rw [ho] at h; exact (index_ok hc hr ho h hs).wp hK
  | slice t x lo hi mx =>
    rw [ho] at h
    simp only [eff] at h
    split at h
    · split at h
      · exact (cutO_ok hc hr ho h hs).wp hK
      · exact (past_ok hc hr ho h hs).wp hK
    · split at h
      · exact (view_ok hc hr ho h hs).wp hK
      · exact (slice_ok hc hr ho h hs).wp hK
  | extract x i => rw [ho] at h; exact (extract_ok hr ho h hs).wp hK
  | makeMap t hint => rw [ho] at h; exact (mkMap_ok hr ho h).wp hK
  | lookup t m x k => rw [ho] at h; exact (look_ok hc hr ho h hs).wp hK
  | mapUpdate t m x y => rw [ho] at h; exact (upd_ok hc hr ho h hs).wp hK
  | makeFunc f first cap =>
    rw [ho] at h
    simp only [eff] at h
    exact (makeFn_ok hr ho h hs).wp hK
  | call c =>
    rw [ho] at h
    simp only [eff] at h
    unfold effCall at h
    split at h
    · rename_i x hf
      split at h
      · rename_i f hx
        split at h
        · rename_i con vs hf6 hcon hv
          have hg := (ndF_iff.1 (effFun_side h hs)).1
          rw [ndF_eq hg] at h
          unfold effFun at h
          split at h
          · rename_i E' hE
            cases h
            refine full_ok (cb := []) hc hr ho hf (fnV_is hr hx hg) hf6 hcon (fun hk => ?_) (fun n1 => by rw [List.append_nil]; exact sas_is hr hv n1) hE hs hK
            split at hk
            · rename_i q hq
              exact hc.kp f con hf6 ⟨q, hq⟩ hcon
            · cases hk
          · exact plain_ok hc hr ho hf hx hg hf6 hcon hv h hs hK
        · cases h
      · split at h
        · rename_i f n hx
          split at h
          · rename_i con vs hf6 hcon hv
            obtain ⟨A, hA, hp⟩ := fnC_is hr hx
            refine full_ok (cb := A) (vs := vs ++ n) hc hr ho hf hA hf6 hcon (fun hk => ?_) (fun n1 => sasIs_app (sas_is hr hv n1) hp) h hs hK
            split at hk
            · rename_i q hq
              exact hc.kp f con hf6 ⟨q, hq⟩ hcon
            · cases hk
          · cases h
        · cases h
    · rename_i hf
      split at h
      · rename_i t x ht hv
        exact (len_ok hc hr ho hf ht hv h hs).wp hK
      · cases h
    · rename_i hf
      split at h
      · rename_i t t' x y ht hv
        split at h
        · rename_i g0 q e0 sz0 n0 zz bb ff hl0
          split at h
          · rename_i n hq
            exact (appE_ok hc hr ho hf ht hv rfl hl0 hq h hs).wp hK
          · split at h
            · rename_i n c1 hq
              exact (appO_ok hc hr ho hf ht hv rfl hl0 hq h hs).wp hK
            · split at h
              · rename_i n e2 c1 hq
                exact (appRO_ok hc hr ho hf ht hv rfl hl0 hq h hs).wp hK
              · split at h
                · split at h
                  · exact (appRN_ok hc hr ho hf ht hv h hs).wp hK
                  · exact (appN_ok hc hr ho hf ht hv h hs).wp hK
                · exact (app_ok hc hr ho hf ht hv h hs).wp hK
        · cases h
      · cases h
    · rename_i hf
      split at h
      · rename_i t ts x y ht hv
        exact (copy_ok hc hr ho hf ht hv h hs).wp hK
      · cases h
    · rename_i hf
      split at h
      · rename_i t x ht hv
        exact (clear_ok hc hr ho hf ht hv h hs).wp hK
      · cases h
    · rename_i hf
      split at h
      · rename_i x l hv
        split at h
        · rename_i k m hx
          split at h
          · rename_i n hn
            refine Runs.wp (mk1_res hr.mem h (v := .int k n) (fun hs => ?_) (fun hs => rfl) hs) hK
            cases h
            have hvs := sas_is hr hv hs
            generalize hu : c.args.toList.map a.eval = us at hvs
            cases us with
            | nil => exact hvs.elim
            | cons u us =>
              obtain ⟨h1, h2⟩ := hvs
              have e := int?_is hx h1
              subst e
              have := min_is (P := P) (w := w) hn h2
              simp [execOp, ho, resolve, hf, invoke, builtin, Builtin.min_, hu, this]
          · cases h
        · cases h
      · cases h
    · rename_i hf
      split at h
      · rename_i x l hv
        split at h
        · rename_i k m hx
          split at h
          · rename_i n hn
            refine Runs.wp (mk1_res hr.mem h (v := .int k n) (fun hs => ?_) (fun hs => rfl) hs) hK
            cases h
            have hvs := sas_is hr hv hs
            generalize hu : c.args.toList.map a.eval = us at hvs
            cases us with
            | nil => exact hvs.elim
            | cons u us =>
              obtain ⟨h1, h2⟩ := hvs
              have e := int?_is hx h1
              subst e
              have := max_is (P := P) (w := w) hn h2
              simp [execOp, ho, resolve, hf, invoke, builtin, Builtin.max_, hu, this]
          · cases h
        · cases h
      · cases h
    · cases h
  | _ => rw [ho] at h; simp [eff] at h
end
end Go.Proofs.Ytakebkfhigadiaa.Ry
