/-
  How ways are found: from an end on, node by node. No condition.
-/
import Derived.Test.YtfioaidmgcibaaaSpN
namespace Go.Proofs.Ytfioaidmgcibaaa.TrK
open Go Go.Proofs.Ytfioaidmgcibaaa.Ry Go.Proofs.Ytfioaidmgcibaaa.So Go.Proofs.Ytfioaidmgcibaaa.JoS Go.Proofs.Ytfioaidmgcibaaa.JoR Go.Proofs.Ytfioaidmgcibaaa.JoW Go.Proofs.Ytfioaidmgcibaaa.EgR Go.Proofs.Ytfioaidmgcibaaa.EgL Go.Proofs.Ytfioaidmgcibaaa.SpR Go.Proofs.Ytfioaidmgcibaaa.SpQ Go.Proofs.Ytfioaidmgcibaaa.SpK Go.Proofs.Ytfioaidmgcibaaa.SpT Go.Proofs.Ytfioaidmgcibaaa.SpL Go.Proofs.Ytfioaidmgcibaaa.SpN

def wo (l : List T) (y : T) : List T := l.filter fun z => decide (¬ z = y)
theorem mem_wo {l : List T} {y z : T} : z ∈ wo l y ↔ z ∈ l ∧ z ≠ y := by
  unfold wo
  simp
/-- A forest of edges that may be. -/
structure Fo (l : List T) : Prop where
  good : goodT l
  frs : frs [] l
theorem may_T {y : T} (h : mayE y.1 y.2.1 y.2.2 = true) : nod y.1 ∧ nod y.2.1 ∧ y.1 < y.2.1 := by
  unfold mayE at h
  rw [decide_eq_true_eq] at h
  unfold nod
  omega
theorem Fo.ok {l : List T} (h : Fo l) : ∀ y ∈ l, okT y := fun y hy => ⟨(may_T (h.good.1 y hy)).1, (may_T (h.good.1 y hy)).2.1⟩
theorem wo_len {l : List T} {y : T} (hy : y ∈ l) : (wo l y).length < l.length := List.length_filter_lt_length_iff_exists.2 ⟨y, hy, by simp⟩
theorem Fo.cut {l : List T} (h : Fo l) {y : T} (hy : y ∈ l) : ¬ Cn (wo l y) y.1 y.2.1 := frs_cut parts h.ok h.frs hy List.filter_sublist (wo_len hy) fun z hz => by
  by_cases e : z = y
  · exact .inl e
  · exact .inr (mem_wo.2 ⟨hz, e⟩)
theorem Fo.sub {l k : List T} (h : Fo l) (s : k.Sublist l) : Fo k := ⟨goodT_sub s h.good, frs_sub [] s h.frs⟩
/-- The ends of an edge. -/
def En (y : T) (a c : Int) : Prop := y.1 = a ∧ y.2.1 = c ∨ y.2.1 = a ∧ y.1 = c
theorem en_symm {y : T} {a c : Int} (h : En y a c) : En y c a := by
  unfold En at *
  rcases h with ⟨a, b⟩ | ⟨a, b⟩
  · exact .inr ⟨b, a⟩
  · exact .inl ⟨b, a⟩
theorem en_cn {l : List T} {y : T} (hy : y ∈ l) {a c : Int} (h : En y a c) : Cn l a c := .one .refl hy h
theorem Fo.cut2 {l : List T} (h : Fo l) {y : T} (hy : y ∈ l) {a c : Int} (e : En y a c) : ¬ Cn (wo l y) a c := by
  intro q
  rcases e with ⟨rfl, rfl⟩ | ⟨rfl, rfl⟩
  · exact h.cut hy q
  · exact h.cut hy (cn_symm q)
theorem Fo.ne {l : List T} (h : Fo l) {y : T} (hy : y ∈ l) {a c : Int} (e : En y a c) : a ≠ c := by
  intro q
  have := (may_T (h.good.1 y hy)).2.2
  unfold En at e
  omega
/-- A way without turns, node by node. -/
inductive Wy (l : List T) (b : Int) : Int → List Int → Prop
  | one : Wy l b b [b]
  | go {a c : Int} {p : List Int} {y : T} : y ∈ l → En y a c → Wy l b c p → a ∉ p → Wy l b a (a :: p)
theorem way_hd {l : List T} {a b : Int} {p : List Int} (h : Wy l b a p) : ∃ q, p = a :: q := by
  cases h with
  | one => exact ⟨[], rfl⟩
  | go _ _ _ _ => exact ⟨_, rfl⟩
theorem way_in {l : List T} {a b : Int} {p : List Int} (h : Wy l b a p) : a ∈ p := by
  obtain ⟨q, e⟩ := way_hd h
  rw [e]
  exact List.mem_cons_self ..
theorem way_end {l : List T} {a b : Int} {p : List Int} (h : Wy l b a p) : b ∈ p := by
  induction h with
  | one => exact List.mem_cons_self ..
  | go _ _ _ _ ih => exact List.mem_cons_of_mem _ ih
theorem way_nd {l : List T} {a b : Int} {p : List Int} (h : Wy l b a p) : p.Nodup := by
  induction h with
  | one => simp
  | go _ _ _ n ih => exact List.nodup_cons.2 ⟨n, ih⟩
/-- Whoever is on a way is linked, by edges between nodes of the way. -/
theorem way_mid {l : List T} {a b : Int} {p : List Int} (h : Wy l b a p) {y : T} : ¬ (y.1 ∈ p ∧ y.2.1 ∈ p) → ∀ x ∈ p, Cn (wo l y) a x := by
  induction h with
  | one =>
    intro _ x hx
    rw [List.mem_singleton] at hx
    rw [hx]
    exact .refl
  | @go a c p z hz e w n ih =>
    intro hn x hx
    rcases List.mem_cons.1 hx with rfl | hx
    · exact .refl
    · have hne : z ≠ y := by
        rintro rfl
        apply hn
        have := way_in w
        rcases e with ⟨rfl, rfl⟩ | ⟨rfl, rfl⟩
        · exact ⟨List.mem_cons_self .., List.mem_cons_of_mem _ this⟩
        · exact ⟨List.mem_cons_of_mem _ this, List.mem_cons_self ..⟩
      exact cn_trans (en_cn (mem_wo.2 ⟨hz, hne⟩) e) (ih (fun k => hn ⟨List.mem_cons_of_mem _ k.1, List.mem_cons_of_mem _ k.2⟩) x hx)
theorem way_cn {l : List T} {a b : Int} {p : List Int} (h : Wy l b a p) : Cn l a b := by
  induction h with
  | one => exact .refl
  | go hz e _ _ ih => exact cn_trans (en_cn hz e) ih
theorem way_all {l : List T} {a b : Int} {p : List Int} (h : Wy l b a p) : ∀ x ∈ p, Cn l a x := by
  induction h with
  | one =>
    intro x hx
    rw [List.mem_singleton] at hx
    rw [hx]
    exact .refl
  | go hz e _ _ ih =>
    intro x hx
    rcases List.mem_cons.1 hx with rfl | hx
    · exact .refl
    · exact cn_trans (en_cn hz e) (ih x hx)
theorem way_off {l : List T} {a b : Int} {p : List Int} (h : Wy l b a p) {y : T} (n : ¬ (y.1 ∈ p ∧ y.2.1 ∈ p)) : Cn (wo l y) a b := way_mid h n b (way_end h)
/-- Two neighbours. -/
inductive Nb : List Int → Int → Int → Prop
  | here {x z : Int} {p : List Int} : Nb (x :: z :: p) x z
  | more {x z w : Int} {p : List Int} : Nb p x z → Nb (w :: p) x z
/-- An edge between two nodes of a way is one of the way's, and without it there is none. -/
theorem way_on {l : List T} (f : Fo l) {a b : Int} {p : List Int} (h : Wy l b a p) {y : T} (hy : y ∈ l) : y.1 ∈ p → y.2.1 ∈ p → (∃ u v, Nb p u v ∧ En y u v ∧ Cn (wo l y) a u ∧ Cn (wo l y) v b) := by
  induction h with
  | one =>
    intro h1 h2
    rw [List.mem_singleton] at h1 h2
    exact absurd (h1.trans h2.symm) (f.ne hy (.inl ⟨rfl, rfl⟩))
  | @go a c p z hz e w n ih =>
    intro h1 h2
    by_cases q : z = y
    · subst q
      have hoff : ¬ (z.1 ∈ p ∧ z.2.1 ∈ p) := by
        rintro ⟨k1, k2⟩
        rcases e with ⟨rfl, rfl⟩ | ⟨rfl, rfl⟩
        · exact n k1
        · exact n k2
      obtain ⟨p', rfl⟩ := way_hd w
      exact ⟨a, c, .here, e, .refl, way_off w hoff⟩
    · have st : Cn (wo l y) a c := en_cn (mem_wo.2 ⟨hz, q⟩) e
      have bad : ∀ x, x ∈ p → En y a x → False := fun x hx ey => by
        have hoff : ¬ (y.1 ∈ p ∧ y.2.1 ∈ p) := by
          rintro ⟨k1, k2⟩
          rcases ey with ⟨rfl, rfl⟩ | ⟨rfl, rfl⟩
          · exact n k1
          · exact n k2
        exact f.cut2 hy ey (cn_trans st (way_mid w hoff x hx))
      rcases List.mem_cons.1 h1 with k1 | k1
      · rcases List.mem_cons.1 h2 with k2 | k2
        · exact absurd (k1.trans k2.symm) (f.ne hy (.inl ⟨rfl, rfl⟩))
        · exact (bad _ k2 (.inl ⟨k1, rfl⟩)).elim
      · rcases List.mem_cons.1 h2 with k2 | k2
        · exact (bad _ k1 (.inr ⟨k2, rfl⟩)).elim
        · obtain ⟨u, v, i1, i2, i3, i4⟩ := ih k1 k2
          exact ⟨u, v, .more i1, i2, cn_trans st i3, i4⟩
/-- The edges without which there is no way are those between its nodes. -/
theorem way_iff {l : List T} (f : Fo l) {a b : Int} {p : List Int} (h : Wy l b a p) {y : T} (hy : y ∈ l) : ¬ Cn (wo l y) a b ↔ y.1 ∈ p ∧ y.2.1 ∈ p := by
  constructor
  · intro q
    exact Classical.byContradiction fun n => q (way_off h n)
  · rintro ⟨h1, h2⟩ q
    obtain ⟨u, v, _, e, c1, c2⟩ := way_on f h hy h1 h2
    exact f.cut2 hy e (cn_trans (cn_symm c1) (cn_trans q (cn_symm c2)))
theorem en_same {y : T} {a c d : Int} (h : En y a c) (g : En y a d) (n : a ≠ c) : c = d := by
  unfold En at *
  omega
/-- There is but one way. -/
theorem way_uni {l : List T} (f : Fo l) {a b : Int} {p : List Int} (h : Wy l b a p) : ∀ {q : List Int}, Wy l b a q → p = q := by
  induction h with
  | one =>
    intro q g
    cases g with
    | one => rfl
    | go _ _ w n => exact absurd (way_end w) n
  | @go a c p z hz e w n ih =>
    intro q g
    cases g with
    | one => exact absurd (way_end w) n
    | @go _ c' q z' hz' e' w' n' =>
      by_cases k : z = z'
      · subst k
        have := en_same e e' (f.ne hz e)
        subst this
        rw [ih w']
      · exfalso
        have off : ∀ {r : List Int}, a ∉ r → ¬ (z.1 ∈ r ∧ z.2.1 ∈ r) := fun nr => by
          rintro ⟨k1, k2⟩
          rcases e with ⟨rfl, rfl⟩ | ⟨rfl, rfl⟩
          · exact nr k1
          · exact nr k2
        have s1 : Cn (wo l z) a c' := en_cn (mem_wo.2 ⟨hz', fun q => k q.symm⟩) e'
        exact f.cut2 hz e (cn_trans s1 (cn_trans (way_off w' (off n')) (cn_symm (way_off w (off n)))))
theorem way_snoc {l : List T} {a b c : Int} {p : List Int} {y : T} (h : Wy l b a p) (hy : y ∈ l) (e : En y b c) (n : c ∉ p) : Wy l c a (p ++ [c]) := by
  induction h with
  | one => exact .go hy e .one (by simpa using fun q => n (by simp [q]))
  | @go a d p z hz ez w na ih =>
    refine .go hz ez (ih fun k => n (List.mem_cons_of_mem _ k)) fun k => ?_
    rcases List.mem_append.1 k with k | k
    · exact na k
    · rw [List.mem_singleton] at k
      exact n (by rw [k]; exact List.mem_cons_self ..)
theorem way_rev {l : List T} {a b : Int} {p : List Int} (h : Wy l b a p) : Wy l a b p.reverse := by
  induction h with
  | one => exact .one
  | @go a c p z hz e w n ih =>
    rw [List.reverse_cons]
    exact way_snoc ih hz (en_symm e) (by simpa using n)
theorem way_nod {l : List T} (f : Fo l) {a b : Int} {p : List Int} (h : Wy l b a p) (hb : nod b) : ∀ x ∈ p, nod x := by
  induction h with
  | one =>
    intro x hx
    rw [List.mem_singleton] at hx
    rw [hx]
    exact hb
  | @go a c p z hz e w n ih =>
    intro x hx
    rcases List.mem_cons.1 hx with rfl | hx
    · have := f.ok z hz
      rcases e with ⟨rfl, _⟩ | ⟨rfl, _⟩
      · exact this.1
      · exact this.2
    · exact ih x hx
theorem nd_64 {p : List Int} (nd : p.Nodup) (h : ∀ x ∈ p, nod x) : p.length ≤ 64 := by
  have h2 : (p.map Int.toNat).Nodup := by
    refine List.pairwise_map.2 (nd.imp_of_mem fun {x y} hx hy k e => k ?_)
    have := h x hx
    have := h y hy
    unfold nod at *
    omega
  have h3 : ∀ x ∈ p.map Int.toNat, x < 65 ∧ x ≠ 0 := by
    intro x hx
    obtain ⟨y, hy, rfl⟩ := List.mem_map.1 hx
    have := h y hy
    unfold nod at this
    omega
  have key : ∀ (n : Nat) (q : List Nat), q.Nodup → (∀ x ∈ q, x < n + 1 ∧ x ≠ 0) → q.length ≤ n := by
    intro n
    induction n with
    | zero =>
      intro q _ hq
      cases q with
      | nil => exact Nat.le_refl _
      | cons x q =>
        have := hq x (List.mem_cons_self ..)
        omega
    | succ n ih =>
      intro q nq hq
      have a := ih (q.filter fun x => decide (x < n + 1)) (nq.sublist List.filter_sublist) fun x hx => by
        obtain ⟨k1, k2⟩ := List.mem_filter.1 hx
        exact ⟨of_decide_eq_true k2, (hq x k1).2⟩
      have b : (q.filter fun x => !decide (x < n + 1)).length ≤ 1 := by
        have hs : ∀ x ∈ q.filter (fun x => !decide (x < n + 1)), x = n + 1 := by
          intro x hx
          obtain ⟨k1, k2⟩ := List.mem_filter.1 hx
          have := (hq x k1).1
          simp at k2
          omega
        have nq2 := nq.sublist (List.filter_sublist (p := fun x => !decide (x < n + 1)))
        generalize q.filter (fun x => !decide (x < n + 1)) = r at hs nq2
        match r, hs, nq2 with
        | [], _, _ => exact Nat.zero_le _
        | [_], _, _ => exact Nat.le_refl _
        | x :: y :: _, hs, nq2 =>
          exfalso
          have e1 := hs x (by simp)
          have e2 := hs y (by simp)
          rw [e1, e2] at nq2
          simp at nq2
      have c := List.length_eq_countP_add_countP (fun x => decide (x < n + 1)) (l := q)
      rw [List.countP_eq_length_filter, List.countP_eq_length_filter] at c
      have e : (fun x => decide ¬ decide (x < n + 1) = true) = fun x => !decide (x < n + 1) := by
        funext x
        cases decide (x < n + 1) <;> rfl
      rw [e] at c
      omega
  have := key 64 (p.map Int.toNat) h2 h3
  rw [List.length_map] at this
  exact this
/-- One edge less than a forest, one more behind it. -/
theorem fo_perm {l k : List T} (f : Fo l) (h : k.Perm l) : Fo k := by
  refine ⟨goodT_perm h |>.2 f.good, ?_⟩
  have cut : ∀ y ∈ k, ¬ Cn (wo k y) y.1 y.2.1 := fun y hy q => f.cut (h.mem_iff.1 hy) (cn_mono (fun w hw => by
    obtain ⟨w1, w2⟩ := mem_wo.1 hw
    exact mem_wo.2 ⟨h.mem_iff.1 w1, w2⟩) q)
  have nd := goodT_nd (goodT_perm h |>.2 f.good)
  have key : ∀ (s c : List T), (∀ z ∈ c, z ∈ k) → (∀ z ∈ s, z ∈ k) → (c ++ s).Nodup → frs c s := by
    intro s
    induction s with
    | nil => intros; trivial
    | cons y s ih =>
      intro c hc hs nd
      have hy := hs y (List.mem_cons_self ..)
      refine ⟨fun q => cut y hy (cn_mono (fun w hw => mem_wo.2 ⟨hc w hw, fun e => ?_⟩) q), ih (y :: c) (fun z hz => ?_) (fun z hz => hs z (List.mem_cons_of_mem _ hz)) ?_⟩
      · rw [e] at hw
        exact (List.nodup_append.1 nd).2.2 y hw y (List.mem_cons_self ..) rfl
      · rcases List.mem_cons.1 hz with rfl | hz
        · exact hy
        · exact hc z hz
      · exact (List.perm_middle (a := y) (l₁ := c) (l₂ := s)).nodup_iff.1 nd
  exact key k [] (fun z hz => by cases hz) (fun z hz => hz) nd
end Go.Proofs.Ytfioaidmgcibaaa.TrK
namespace Go.Proofs.Ytfioaidmgcibaaa.TrB
open Go Go.Proofs.Ytfioaidmgcibaaa.Ry Go.Proofs.Ytfioaidmgcibaaa.So Go.Proofs.Ytfioaidmgcibaaa.JoS Go.Proofs.Ytfioaidmgcibaaa.EgR Go.Proofs.Ytfioaidmgcibaaa.EgL Go.Proofs.Ytfioaidmgcibaaa.SpK Go.Proofs.Ytfioaidmgcibaaa.SpT Go.Proofs.Ytfioaidmgcibaaa.SpN Go.Proofs.Ytfioaidmgcibaaa.TrK

structure BT where
  h : List Int
  m : List Int
def ot (y : E) (c : Int) : Int := othE (ri y 0) (ri y 1) c
def bs1 (c : Int) (s : BT) (y : E) : BT := if ot y c ≠ 0 ∧ ix s.h (ot y c) = 0 then ⟨s.h.set (ot y c).toNat c, s.m ++ [ot y c]⟩ else s
def bsP (l : List E) (c : Int) (s : BT) : BT := l.foldl (bs1 c) s
def bsG (l : List E) : Nat → Nat → BT → BT
  | 0, _, s => s
  | k + 1, i, s => if i < s.m.length then bsG l k (i + 1) (bsP l (s.m.getD i 0) s) else s
def z65 : List Int := List.replicate 65 0
def tw0 (e : Int) : BT := ⟨z65.set e.toNat e, [e]⟩
def twS (l : List E) (e : Int) : BT := bsG l 65 0 (tw0 e)
def twH (l : List E) (e : Int) : List Int := (twS l e).h
def wF : Nat → List Int → Int → List Int
  | 0, _, _ => []
  | k + 1, h, n => n :: (if ix h n = n then [] else wF k h (ix h n))
def wok : Nat → List Int → Int → Bool
  | 0, _, _ => false
  | k + 1, h, n => decide (0 ≤ n ∧ n < 65) && (decide (ix h n = n) || wok k h (ix h n))
/-- The nodes of a way, as hops lead. -/
inductive Fol (h : List Int) : Int → List Int → Prop
  | one {n : Int} : ix h n = n → Fol h n [n]
  | go {n : Int} {p : List Int} : ix h n ≠ n → Fol h (ix h n) p → Fol h n (n :: p)
theorem fol_set {h : List Int} {n v c : Int} {p : List Int} (f : Fol h n p) (hv : 0 ≤ v) (hl : v < h.length) : v ∉ p → (∀ x ∈ p, 0 ≤ x) → Fol (h.set v.toNat c) n p := by
  induction f with
  | @one n e =>
    intro nv np
    refine .one ?_
    have := np n (List.mem_cons_self ..)
    rw [ix_set h n v c this hv hl, if_neg (fun q => nv (by rw [← q]; exact List.mem_cons_self ..))]
    exact e
  | @go n p e w ih =>
    intro nv np
    have := np n (List.mem_cons_self ..)
    have q : ix (h.set v.toNat c) n = ix h n := by rw [ix_set h n v c this hv hl, if_neg (fun q => nv (by rw [← q]; exact List.mem_cons_self ..))]
    refine .go (by rw [q]; exact e) ?_
    rw [q]
    exact ih (fun k => nv (List.mem_cons_of_mem _ k)) fun x hx => np x (List.mem_cons_of_mem _ hx)
theorem fol_w {h : List Int} {n : Int} {p : List Int} (f : Fol h n p) : ∀ k, p.length ≤ k → (∀ x ∈ p, nod x) → wF k h n = p ∧ wok k h n = true := by
  induction f with
  | @one n e =>
    intro k hk np
    cases k with
    | zero => simp at hk
    | succ k =>
      have := np n (List.mem_cons_self ..)
      unfold nod at this
      unfold wF wok
      rw [if_pos e]
      refine ⟨rfl, ?_⟩
      rw [decide_eq_true e, decide_eq_true (show 0 ≤ n ∧ n < 65 by omega)]
      rfl
  | @go n p e w ih =>
    intro k hk np
    cases k with
    | zero => simp at hk
    | succ k =>
      have := np n (List.mem_cons_self ..)
      unfold nod at this
      obtain ⟨i1, i2⟩ := ih k (by simpa using hk) fun x hx => np x (List.mem_cons_of_mem _ hx)
      unfold wF wok
      rw [if_neg e, i1, i2, decide_eq_true (show 0 ≤ n ∧ n < 65 by omega), Bool.or_true]
      exact ⟨rfl, rfl⟩
structure BI (L : List T) (b : Int) (s : BT) : Prop where
  len : s.h.length = 65
  nd : s.m.Nodup
  mem : ∀ n, nod n → (n ∈ s.m ↔ ix s.h n ≠ 0)
  nods : ∀ n ∈ s.m, nod n
  way : ∀ n ∈ s.m, ∃ p, Wy L b n p ∧ Fol s.h n p ∧ ∀ x ∈ p, x ∈ s.m
  bm : b ∈ s.m
  z0 : ix s.h 0 = 0
theorem bi_len {L : List T} {b : Int} {s : BT} (h : BI L b s) : s.m.length ≤ 64 := nd_64 h.nd h.nods
theorem bi_0 (L : List T) {b : Int} (hb : nod b) : BI L b (tw0 b) := by
  have hl : z65.length = 65 := List.length_replicate
  have hz : ∀ n : Int, ix z65 n = 0 := fun n => by
    unfold ix z65
    rw [List.getD_eq_getElem?_getD, List.getElem?_replicate]
    split <;> rfl
  have hn := hb
  unfold nod at hn
  refine ⟨by unfold tw0; rw [List.length_set]; exact hl, by simp [tw0], fun n k => ?_, fun n k => ?_, fun n k => ?_, by simp [tw0], ?_⟩
  · unfold nod at k
    show n ∈ [b] ↔ ix (z65.set b.toNat b) n ≠ 0
    rw [ix_set z65 n b b (by omega) (by omega) (by rw [hl]; omega), hz, List.mem_singleton]
    split
    · rename_i e
      exact ⟨fun _ => by omega, fun _ => e⟩
    · rename_i e
      exact ⟨fun q => absurd q e, fun q => absurd rfl q⟩
  · rw [List.mem_singleton.1 k]
    exact hb
  · rw [List.mem_singleton.1 k]
    refine ⟨[b], .one, .one ?_, fun x hx => hx⟩
    show ix (z65.set b.toNat b) b = b
    rw [ix_set z65 b b b (by omega) (by omega) (by rw [hl]; omega), if_pos rfl]
  · show ix (z65.set b.toNat b) 0 = 0
    rw [ix_set z65 0 b b (by omega) (by omega) (by rw [hl]; omega), hz]
    split <;> omega
theorem ot_en {y : E} {c : Int} (h : ot y c ≠ 0) : En (trE y) c (ot y c) := by
  unfold ot othE at *
  unfold En trE
  split at h
  · rename_i e
    rw [if_pos e]
    exact .inl ⟨e.symm, rfl⟩
  · rename_i e
    rw [if_neg e]
    split at h
    · rename_i q
      rw [if_pos q]
      exact .inr ⟨q.symm, rfl⟩
    · exact absurd rfl h
theorem en_ot {y : E} {a c : Int} (h : En (trE y) a c) (n : a ≠ c) : ot y a = c := by
  unfold ot othE
  unfold En trE at h
  simp only at h
  rcases h with ⟨e1, e2⟩ | ⟨e1, e2⟩
  · rw [if_pos e1.symm]
    exact e2
  · rw [if_neg (by omega), if_pos e1.symm]
    exact e2
theorem en_nod {y : T} (h : okT y) {a c : Int} (e : En y a c) : nod a ∧ nod c := by
  rcases e with ⟨rfl, rfl⟩ | ⟨rfl, rfl⟩
  · exact h
  · exact ⟨h.2, h.1⟩
theorem bi_1 {L : List T} (hL : ∀ y ∈ L, okT y) {b c : Int} {s : BT} (h : BI L b s) (hc : c ∈ s.m) {y : E} (hy : trE y ∈ L) : BI L b (bs1 c s y) ∧ (∃ t, (bs1 c s y).m = s.m ++ t) ∧ (ot y c ≠ 0 → ot y c ∈ (bs1 c s y).m) := by
  unfold bs1
  by_cases q : ot y c ≠ 0 ∧ ix s.h (ot y c) = 0
  · rw [if_pos q]
    have en := ot_en q.1
    have hn := (en_nod (hL _ hy) en).2
    have hn2 := hn
    unfold nod at hn2
    have nm : ot y c ∉ s.m := fun k => ((h.mem _ hn).1 k) q.2
    have l := h.len
    have hcn := h.nods c hc
    refine ⟨⟨by simp only [List.length_set]; exact l, ?_, fun n k => ?_, fun n k => ?_, fun n k => ?_, List.mem_append_left _ h.bm, ?_⟩, ⟨_, rfl⟩, fun _ => List.mem_append_right _ (List.mem_singleton.2 rfl)⟩
    · rw [List.nodup_append]
      exact ⟨h.nd, by simp, fun x hx z hz e => nm (by rw [List.mem_singleton] at hz; rw [← hz, ← e]; exact hx)⟩
    · have kn := k
      unfold nod at k
      rw [ix_set s.h n (ot y c) c (by omega) (by omega) (by omega), List.mem_append, List.mem_singleton, h.mem n kn]
      split
      · rename_i e
        unfold nod at hcn
        exact ⟨fun _ => by omega, fun _ => .inr e⟩
      · rename_i e
        exact ⟨fun k => k.elim id fun w => absurd w e, .inl⟩
    · rcases List.mem_append.1 k with k | k
      · exact h.nods n k
      · rw [List.mem_singleton.1 k]
        exact hn
    · have old : ∀ n ∈ s.m, ∃ p, Wy L b n p ∧ Fol (s.h.set (ot y c).toNat c) n p ∧ ∀ x ∈ p, x ∈ s.m := fun n k => by
        obtain ⟨p, w1, w2, w3⟩ := h.way n k
        exact ⟨p, w1, fol_set w2 (by omega) (by omega) (fun z => nm (w3 _ z)) (fun x hx => by have := h.nods x (w3 x hx); unfold nod at this; omega), w3⟩
      rcases List.mem_append.1 k with k | k
      · obtain ⟨p, w1, w2, w3⟩ := old n k
        exact ⟨p, w1, w2, fun x hx => List.mem_append_left _ (w3 x hx)⟩
      · rw [List.mem_singleton.1 k]
        obtain ⟨p, w1, w2, w3⟩ := old c hc
        have e : ix (s.h.set (ot y c).toNat c) (ot y c) = c := by rw [ix_set s.h _ _ c (by omega) (by omega) (by omega), if_pos rfl]
        have ne : c ≠ ot y c := fun z => nm (z ▸ hc)
        refine ⟨ot y c :: p, .go hy (en_symm en) w1 (fun z => nm (w3 _ z)), .go (by rw [e]; exact ne) (by rw [e]; exact w2), fun x hx => ?_⟩
        rcases List.mem_cons.1 hx with rfl | hx
        · exact List.mem_append_right _ (List.mem_singleton.2 rfl)
        · exact List.mem_append_left _ (w3 x hx)
    · show ix (s.h.set (ot y c).toNat c) 0 = 0
      rw [ix_set s.h 0 _ c (by omega) (by omega) (by omega), if_neg (by omega)]
      exact h.z0
  · rw [if_neg q]
    refine ⟨h, ⟨[], (List.append_nil _).symm⟩, fun k => ?_⟩
    have hn := (en_nod (hL _ hy) (ot_en k)).2
    exact (h.mem _ hn).2 fun e => q ⟨k, e⟩
theorem bi_P {L : List T} (hL : ∀ y ∈ L, okT y) {b c : Int} : ∀ {l : List E} {s : BT}, BI L b s → c ∈ s.m → (∀ y ∈ l, trE y ∈ L) → BI L b (bsP l c s) ∧ (∃ t, (bsP l c s).m = s.m ++ t) ∧ (∀ y ∈ l, ot y c ≠ 0 → ot y c ∈ (bsP l c s).m)
  | [], s, h, _, _ => ⟨h, ⟨[], (List.append_nil _).symm⟩, fun _ hy => by cases hy⟩
  | y :: l, s, h, hc, hl => by
    obtain ⟨a1, ⟨t, a2⟩, a3⟩ := bi_1 hL h hc (hl y (List.mem_cons_self ..))
    obtain ⟨b1, ⟨r, b2⟩, b3⟩ := bi_P hL (l := l) a1 (by rw [a2]; exact List.mem_append_left _ hc) fun z hz => hl z (List.mem_cons_of_mem _ hz)
    refine ⟨b1, ⟨t ++ r, ?_⟩, fun z hz k => ?_⟩
    · show (bsP l c (bs1 c s y)).m = _
      rw [b2, a2, List.append_assoc]
    · show ot z c ∈ (bsP l c (bs1 c s y)).m
      rcases List.mem_cons.1 hz with rfl | hz
      · rw [b2]
        exact List.mem_append_left _ (a3 k)
      · exact b3 z hz k
def Clo (l : List E) (i : Nat) (s : BT) : Prop := ∀ j, j < i → ∀ y ∈ l, ot y (s.m.getD j 0) ≠ 0 → ot y (s.m.getD j 0) ∈ s.m
theorem bi_G {L : List T} (hL : ∀ y ∈ L, okT y) {b : Int} {l : List E} (hl : ∀ y ∈ l, trE y ∈ L) : ∀ (k i : Nat) (s : BT), BI L b s → i ≤ s.m.length → 65 ≤ k + i → Clo l i s → BI L b (bsG l k i s) ∧ Clo l (bsG l k i s).m.length (bsG l k i s)
  | 0, i, s, h, hi, hk, _ => by
    have := bi_len h
    omega
  | k + 1, i, s, h, hi, hk, hc => by
    unfold bsG
    split
    · rename_i q
      have hm : s.m.getD i 0 ∈ s.m := by
        rw [List.getD_eq_getElem?_getD, List.getElem?_eq_getElem q]
        exact List.getElem_mem q
      obtain ⟨a1, ⟨t, a2⟩, a3⟩ := bi_P hL (l := l) h hm hl
      refine bi_G hL hl k (i + 1) _ a1 (by rw [a2, List.length_append]; omega) (by omega) fun j hj y hy => ?_
      have e : (bsP l (s.m.getD i 0) s).m.getD j 0 = s.m.getD j 0 := by
        rw [a2, List.getD_eq_getElem?_getD, List.getD_eq_getElem?_getD, List.getElem?_append_left (by omega)]
      rw [e]
      by_cases z : j = i
      · rw [z]
        exact a3 y hy
      · intro w
        rw [a2]
        exact List.mem_append_left _ (hc j (by omega) y hy w)
    · rename_i q
      have e : i = s.m.length := by omega
      rw [e] at hc
      exact ⟨h, hc⟩
theorem tw_ok {l : List E} (f : Fo (l.map trE)) {b : Int} (hb : nod b) : BI (l.map trE) b (twS l b) ∧ ∀ n, Cn (l.map trE) b n → n ∈ (twS l b).m := by
  have hl : ∀ y ∈ l, trE y ∈ l.map trE := fun y hy => List.mem_map_of_mem hy
  obtain ⟨a, c⟩ := bi_G f.ok (l := l) hl 65 0 (tw0 b) (bi_0 _ hb) (Nat.zero_le _) (by omega) (fun j hj => absurd hj (Nat.not_lt_zero _))
  have a : BI (l.map trE) b (twS l b) := a
  have c : Clo l (twS l b).m.length (twS l b) := c
  refine ⟨a, fun n h => ?_⟩
  induction h with
  | refl => exact a.bm
  | @one x z y _ hy e ih =>
    obtain ⟨w, hw, rfl⟩ := List.mem_map.1 hy
    have ne := f.ne hy e
    have eo := en_ot e ne
    obtain ⟨j, hj, ej⟩ := List.getElem_of_mem ih
    have nz : z ≠ 0 := by
      have := (en_nod (f.ok _ hy) e).2
      unfold nod at this
      omega
    have := c j hj w hw
    rw [List.getD_eq_getElem?_getD, List.getElem?_eq_getElem hj, Option.getD_some, ej, eo] at this
    exact this nz
/-- The hops to an end lead there. -/
theorem hop_iff {l : List E} (f : Fo (l.map trE)) {b n : Int} (hb : nod b) (hn : nod n) : ix (twH l b) n ≠ 0 ↔ Cn (l.map trE) b n := by
  obtain ⟨a, c⟩ := tw_ok f hb
  show ix (twS l b).h n ≠ 0 ↔ _
  rw [← a.mem n hn]
  constructor
  · intro k
    obtain ⟨p, w, _, _⟩ := a.way n k
    exact cn_symm (way_cn w)
  · exact c n
theorem hop_way {l : List E} (f : Fo (l.map trE)) {b n : Int} (hb : nod b) (h : Cn (l.map trE) b n) : Wy (l.map trE) b n (wF 65 (twH l b) n) ∧ wok 65 (twH l b) n = true ∧ Fol (twH l b) n (wF 65 (twH l b) n) ∧ (wF 65 (twH l b) n).length ≤ 64 := by
  obtain ⟨a, c⟩ := tw_ok f hb
  obtain ⟨p, w, g, k⟩ := a.way n (c n h)
  have np := fun x hx => a.nods x (k x hx)
  have lp := nd_64 (way_nd w) np
  obtain ⟨e1, e2⟩ := fol_w g 65 (by omega) np
  show Wy _ _ _ (wF 65 (twS l b).h n) ∧ wok 65 (twS l b).h n = true ∧ Fol (twS l b).h n (wF 65 (twS l b).h n) ∧ (wF 65 (twS l b).h n).length ≤ 64
  rw [e1]
  exact ⟨w, e2, g, lp⟩
theorem tw_len {l : List E} (f : Fo (l.map trE)) {b : Int} (hb : nod b) : (twH l b).length = 65 := (tw_ok f hb).1.len
end Go.Proofs.Ytfioaidmgcibaaa.TrB
