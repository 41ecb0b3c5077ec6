/-
  Ways in a forest: which edges they have, that there is one, how it is found. No condition.
-/
import Derived.Test.YtodglgdenjjjgaaSpN
namespace Go.Proofs.Ytodglgdenjjjgaa.TrK
open Go Go.Proofs.Ytodglgdenjjjgaa.Ry Go.Proofs.Ytodglgdenjjjgaa.So Go.Proofs.Ytodglgdenjjjgaa.JoS Go.Proofs.Ytodglgdenjjjgaa.JoR Go.Proofs.Ytodglgdenjjjgaa.JoW Go.Proofs.Ytodglgdenjjjgaa.EgR Go.Proofs.Ytodglgdenjjjgaa.EgL Go.Proofs.Ytodglgdenjjjgaa.SpR Go.Proofs.Ytodglgdenjjjgaa.SpQ Go.Proofs.Ytodglgdenjjjgaa.SpK Go.Proofs.Ytodglgdenjjjgaa.SpT Go.Proofs.Ytodglgdenjjjgaa.SpL Go.Proofs.Ytodglgdenjjjgaa.SpN

def wo (l : List T) (y : T) : List T := l.filter fun z => decide (¬ z = y)
theorem mem_wo {l : List T} {y z : T} : z ∈ wo l y ↔ z ∈ l ∧ z ≠ y := by
  unfold wo
  simp
/-- A forest of edges that may be. -/
structure Fo (l : List T) : Prop where
  good : goodT l
  frs : frs [] l
theorem may_T {y : T} (h : mayE y.1 y.2.1 y.2.2 = true) : nod y.1 ∧ nod y.2.1 ∧ y.1 < y.2.1 := by
  unfold mayE at h
  rw [decide_eq_true_eq] at h
  unfold nod
  omega
theorem Fo.ok {l : List T} (h : Fo l) : ∀ y ∈ l, okT y := fun y hy => ⟨(may_T (h.good.1 y hy)).1, (may_T (h.good.1 y hy)).2.1⟩
theorem wo_len {l : List T} {y : T} (hy : y ∈ l) : (wo l y).length < l.length := List.length_filter_lt_length_iff_exists.2 ⟨y, hy, by simp⟩
theorem Fo.cut {l : List T} (h : Fo l) {y : T} (hy : y ∈ l) : ¬ Cn (wo l y) y.1 y.2.1 := frs_cut parts h.ok h.frs hy List.filter_sublist (wo_len hy) fun z hz => by
  by_cases e : z = y
  · exact .inl e
  · exact .inr (mem_wo.2 ⟨hz, e⟩)
theorem Fo.sub {l k : List T} (h : Fo l) (s : k.Sublist l) : Fo k := ⟨goodT_sub s h.good, frs_sub [] s h.frs⟩
/-- The ends of an edge. -/
def En (y : T) (a c : Int) : Prop := y.1 = a ∧ y.2.1 = c ∨ y.2.1 = a ∧ y.1 = c
theorem en_symm {y : T} {a c : Int} (h : En y a c) : En y c a := by
  unfold En at *
  rcases h with ⟨a, b⟩ | ⟨a, b⟩
  · exact .inr ⟨b, a⟩
  · exact .inl ⟨b, a⟩
theorem en_cn {l : List T} {y : T} (hy : y ∈ l) {a c : Int} (h : En y a c) : Cn l a c := .one .refl hy h
theorem Fo.cut2 {l : List T} (h : Fo l) {y : T} (hy : y ∈ l) {a c : Int} (e : En y a c) : ¬ Cn (wo l y) a c := by
  intro q
  rcases e with ⟨rfl, rfl⟩ | ⟨rfl, rfl⟩
  · exact h.cut hy q
  · exact h.cut hy (cn_symm q)
theorem Fo.ne {l : List T} (h : Fo l) {y : T} (hy : y ∈ l) {a c : Int} (e : En y a c) : a ≠ c := by
  intro q
  have := (may_T (h.good.1 y hy)).2.2
  unfold En at e
  omega
/-- A way without turns, node by node. -/
inductive Wy (l : List T) (b : Int) : Int → List Int → Prop
  | one : Wy l b b [b]
  | go {a c : Int} {p : List Int} {y : T} : y ∈ l → En y a c → Wy l b c p → a ∉ p → Wy l b a (a :: p)
theorem way_hd {l : List T} {a b : Int} {p : List Int} (h : Wy l b a p) : ∃ q, p = a :: q := by
  cases h with
  | one => exact ⟨[], rfl⟩
  | go _ _ _ _ => exact ⟨_, rfl⟩
theorem way_in {l : List T} {a b : Int} {p : List Int} (h : Wy l b a p) : a ∈ p := by
  obtain ⟨q, e⟩ := way_hd h
  rw [e]
  exact List.mem_cons_self ..
theorem way_end {l : List T} {a b : Int} {p : List Int} (h : Wy l b a p) : b ∈ p := by
  induction h with
  | one => exact List.mem_cons_self ..
  | go _ _ _ _ ih => exact List.mem_cons_of_mem _ ih
theorem way_nd {l : List T} {a b : Int} {p : List Int} (h : Wy l b a p) : p.Nodup := by
  induction h with
  | one => simp
  | go _ _ _ n ih => exact List.nodup_cons.2 ⟨n, ih⟩
/-- Whoever is on a way is linked, by edges between nodes of the way. -/
theorem way_mid {l : List T} {a b : Int} {p : List Int} (h : Wy l b a p) {y : T} : ¬ (y.1 ∈ p ∧ y.2.1 ∈ p) → ∀ x ∈ p, Cn (wo l y) a x := by
  induction h with
  | one =>
    intro _ x hx
    rw [List.mem_singleton] at hx
    rw [hx]
    exact .refl
  | @go a c p z hz e w n ih =>
    intro hn x hx
    rcases List.mem_cons.1 hx with rfl | hx
    · exact .refl
    · have hne : z ≠ y := by
        rintro rfl
        apply hn
        have := way_in w
        rcases e with ⟨rfl, rfl⟩ | ⟨rfl, rfl⟩
        · exact ⟨List.mem_cons_self .., List.mem_cons_of_mem _ this⟩
        · exact ⟨List.mem_cons_of_mem _ this, List.mem_cons_self ..⟩
      exact cn_trans (en_cn (mem_wo.2 ⟨hz, hne⟩) e) (ih (fun k => hn ⟨List.mem_cons_of_mem _ k.1, List.mem_cons_of_mem _ k.2⟩) x hx)
theorem way_cn {l : List T} {a b : Int} {p : List Int} (h : Wy l b a p) : Cn l a b := by
  induction h with
  | one => exact .refl
  | go hz e _ _ ih => exact cn_trans (en_cn hz e) ih
theorem way_all {l : List T} {a b : Int} {p : List Int} (h : Wy l b a p) : ∀ x ∈ p, Cn l a x := by
  induction h with
  | one =>
    intro x hx
    rw [List.mem_singleton] at hx
    rw [hx]
    exact .refl
  | go hz e _ _ ih =>
    intro x hx
    rcases List.mem_cons.1 hx with rfl | hx
    · exact .refl
    · exact cn_trans (en_cn hz e) (ih x hx)
theorem way_off {l : List T} {a b : Int} {p : List Int} (h : Wy l b a p) {y : T} (n : ¬ (y.1 ∈ p ∧ y.2.1 ∈ p)) : Cn (wo l y) a b := way_mid h n b (way_end h)
/-- Two neighbours. -/
inductive Nb : List Int → Int → Int → Prop
  | here {x z : Int} {p : List Int} : Nb (x :: z :: p) x z
  | more {x z w : Int} {p : List Int} : Nb p x z → Nb (w :: p) x z
/-- An edge between two nodes of a way is one of the way's, and without it there is none. -/
theorem way_on {l : List T} (f : Fo l) {a b : Int} {p : List Int} (h : Wy l b a p) {y : T} (hy : y ∈ l) : y.1 ∈ p → y.2.1 ∈ p → (∃ u v, Nb p u v ∧ En y u v ∧ Cn (wo l y) a u ∧ Cn (wo l y) v b) := by
  induction h with
  | one =>
    intro h1 h2
    rw [List.mem_singleton] at h1 h2
    exact absurd (h1.trans h2.symm) (f.ne hy (.inl ⟨rfl, rfl⟩))
  | @go a c p z hz e w n ih =>
    intro h1 h2
    by_cases q : z = y
    · subst q
      have hoff : ¬ (z.1 ∈ p ∧ z.2.1 ∈ p) := by
        rintro ⟨k1, k2⟩
        rcases e with ⟨rfl, rfl⟩ | ⟨rfl, rfl⟩
        · exact n k1
        · exact n k2
      obtain ⟨p', rfl⟩ := way_hd w
      exact ⟨a, c, .here, e, .refl, way_off w hoff⟩
    · have st : Cn (wo l y) a c := en_cn (mem_wo.2 ⟨hz, q⟩) e
      have bad : ∀ x, x ∈ p → En y a x → False := fun x hx ey => by
        have hoff : ¬ (y.1 ∈ p ∧ y.2.1 ∈ p) := by
          rintro ⟨k1, k2⟩
          rcases ey with ⟨rfl, rfl⟩ | ⟨rfl, rfl⟩
          · exact n k1
          · exact n k2
        exact f.cut2 hy ey (cn_trans st (way_mid w hoff x hx))
      rcases List.mem_cons.1 h1 with k1 | k1
      · rcases List.mem_cons.1 h2 with k2 | k2
        · exact absurd (k1.trans k2.symm) (f.ne hy (.inl ⟨rfl, rfl⟩))
        · exact (bad _ k2 (.inl ⟨k1, rfl⟩)).elim
      · rcases List.mem_cons.1 h2 with k2 | k2
        · exact (bad _ k1 (.inr ⟨k2, rfl⟩)).elim
        · obtain ⟨u, v, i1, i2, i3, i4⟩ := ih k1 k2
          exact ⟨u, v, .more i1, i2, cn_trans st i3, i4⟩
/-- The edges without which there is no way are those between its nodes. -/
theorem way_iff {l : List T} (f : Fo l) {a b : Int} {p : List Int} (h : Wy l b a p) {y : T} (hy : y ∈ l) : ¬ Cn (wo l y) a b ↔ y.1 ∈ p ∧ y.2.1 ∈ p := by
  constructor
  · intro q
    exact Classical.byContradiction fun n => q (way_off h n)
  · rintro ⟨h1, h2⟩ q
    obtain ⟨u, v, _, e, c1, c2⟩ := way_on f h hy h1 h2
    exact f.cut2 hy e (cn_trans (cn_symm c1) (cn_trans q (cn_symm c2)))
theorem en_same {y : T} {a c d : Int} (h : En y a c) (g : En y a d) (n : a ≠ c) : c = d := by
  unfold En at *
  omega
/-- There is but one way. -/
theorem way_uni {l : List T} (f : Fo l) {a b : Int} {p : List Int} (h : Wy l b a p) : ∀ {q : List Int}, Wy l b a q → p = q := by
  induction h with
  | one =>
    intro q g
    cases g with
    | one => rfl
    | go _ _ w n => exact absurd (way_end w) n
  | @go a c p z hz e w n ih =>
    intro q g
    cases g with
    | one => exact absurd (way_end w) n
    | @go _ c' q z' hz' e' w' n' =>
      by_cases k : z = z'
      · subst k
        have := en_same e e' (f.ne hz e)
        subst this
        rw [ih w']
      · exfalso
        have off : ∀ {r : List Int}, a ∉ r → ¬ (z.1 ∈ r ∧ z.2.1 ∈ r) := fun nr => by
          rintro ⟨k1, k2⟩
          rcases e with ⟨rfl, rfl⟩ | ⟨rfl, rfl⟩
          · exact nr k1
          · exact nr k2
        have s1 : Cn (wo l z) a c' := en_cn (mem_wo.2 ⟨hz', fun q => k q.symm⟩) e'
        exact f.cut2 hz e (cn_trans s1 (cn_trans (way_off w' (off n')) (cn_symm (way_off w (off n)))))
theorem way_snoc {l : List T} {a b c : Int} {p : List Int} {y : T} (h : Wy l b a p) (hy : y ∈ l) (e : En y b c) (n : c ∉ p) : Wy l c a (p ++ [c]) := by
  induction h with
  | one => exact .go hy e .one (by simpa using fun q => n (by simp [q]))
  | @go a d p z hz ez w na ih =>
    refine .go hz ez (ih fun k => n (List.mem_cons_of_mem _ k)) fun k => ?_
    rcases List.mem_append.1 k with k | k
    · exact na k
    · rw [List.mem_singleton] at k
      exact n (by rw [k]; exact List.mem_cons_self ..)
theorem way_rev {l : List T} {a b : Int} {p : List Int} (h : Wy l b a p) : Wy l a b p.reverse := by
  induction h with
  | one => exact .one
  | @go a c p z hz e w n ih =>
    rw [List.reverse_cons]
    exact way_snoc ih hz (en_symm e) (by simpa using n)
theorem way_nod {l : List T} (f : Fo l) {a b : Int} {p : List Int} (h : Wy l b a p) (hb : nod b) : ∀ x ∈ p, nod x := by
  induction h with
  | one =>
    intro x hx
    rw [List.mem_singleton] at hx
    rw [hx]
    exact hb
  | @go a c p z hz e w n ih =>
    intro x hx
    rcases List.mem_cons.1 hx with rfl | hx
    · have := f.ok z hz
      rcases e with ⟨rfl, _⟩ | ⟨rfl, _⟩
      · exact this.1
      · exact this.2
    · exact ih x hx
theorem nd_64 {p : List Int} (nd : p.Nodup) (h : ∀ x ∈ p, nod x) : p.length ≤ 64 := by
  have h2 : (p.map Int.toNat).Nodup := by
    refine List.pairwise_map.2 (nd.imp_of_mem fun {x y} hx hy k e => k ?_)
    have := h x hx
    have := h y hy
    unfold nod at *
    omega
  have h3 : ∀ x ∈ p.map Int.toNat, x < 65 ∧ x ≠ 0 := by
    intro x hx
    obtain ⟨y, hy, rfl⟩ := List.mem_map.1 hx
    have := h y hy
    unfold nod at this
    omega
  have key : ∀ (n : Nat) (q : List Nat), q.Nodup → (∀ x ∈ q, x < n + 1 ∧ x ≠ 0) → q.length ≤ n := by
    intro n
    induction n with
    | zero =>
      intro q _ hq
      cases q with
      | nil => exact Nat.le_refl _
      | cons x q =>
        have := hq x (List.mem_cons_self ..)
        omega
    | succ n ih =>
      intro q nq hq
      have a := ih (q.filter fun x => decide (x < n + 1)) (nq.sublist List.filter_sublist) fun x hx => by
        obtain ⟨k1, k2⟩ := List.mem_filter.1 hx
        exact ⟨of_decide_eq_true k2, (hq x k1).2⟩
      have b : (q.filter fun x => !decide (x < n + 1)).length ≤ 1 := by
        have hs : ∀ x ∈ q.filter (fun x => !decide (x < n + 1)), x = n + 1 := by
          intro x hx
          obtain ⟨k1, k2⟩ := List.mem_filter.1 hx
          have := (hq x k1).1
          simp at k2
          omega
        have nq2 := nq.sublist (List.filter_sublist (p := fun x => !decide (x < n + 1)))
        generalize q.filter (fun x => !decide (x < n + 1)) = r at hs nq2
        match r, hs, nq2 with
        | [], _, _ => exact Nat.zero_le _
        | [_], _, _ => exact Nat.le_refl _
        | x :: y :: _, hs, nq2 =>
          exfalso
          have e1 := hs x (by simp)
          have e2 := hs y (by simp)
          rw [e1, e2] at nq2
          simp at nq2
      have c := List.length_eq_countP_add_countP (fun x => decide (x < n + 1)) (l := q)
      rw [List.countP_eq_length_filter, List.countP_eq_length_filter] at c
      have e : (fun x => decide ¬ decide (x < n + 1) = true) = fun x => !decide (x < n + 1) := by
        funext x
        cases decide (x < n + 1) <;> rfl
      rw [e] at c
      omega
  have := key 64 (p.map Int.toNat) h2 h3
  rw [List.length_map] at this
  exact this
/-- One edge less than a forest, one more behind it. -/
theorem fo_perm {l k : List T} (f : Fo l) (h : k.Perm l) : Fo k := by
  refine ⟨goodT_perm h |>.2 f.good, ?_⟩
  have cut : ∀ y ∈ k, ¬ Cn (wo k y) y.1 y.2.1 := fun y hy q => f.cut (h.mem_iff.1 hy) (cn_mono (fun w hw => by
    obtain ⟨w1, w2⟩ := mem_wo.1 hw
    exact mem_wo.2 ⟨h.mem_iff.1 w1, w2⟩) q)
  have nd := goodT_nd (goodT_perm h |>.2 f.good)
  have key : ∀ (s c : List T), (∀ z ∈ c, z ∈ k) → (∀ z ∈ s, z ∈ k) → (c ++ s).Nodup → frs c s := by
    intro s
    induction s with
    | nil => intros; trivial
    | cons y s ih =>
      intro c hc hs nd
      have hy := hs y (List.mem_cons_self ..)
      refine ⟨fun q => cut y hy (cn_mono (fun w hw => mem_wo.2 ⟨hc w hw, fun e => ?_⟩) q), ih (y :: c) (fun z hz => ?_) (fun z hz => hs z (List.mem_cons_of_mem _ hz)) ?_⟩
      · rw [e] at hw
        exact (List.nodup_append.1 nd).2.2 y hw y (List.mem_cons_self ..) rfl
      · rcases List.mem_cons.1 hz with rfl | hz
        · exact hy
        · exact hc z hz
      · exact (List.perm_middle (a := y) (l₁ := c) (l₂ := s)).nodup_iff.1 nd
  exact key k [] (fun z hz => by cases hz) (fun z hz => hz) nd
end Go.Proofs.Ytodglgdenjjjgaa.TrK
