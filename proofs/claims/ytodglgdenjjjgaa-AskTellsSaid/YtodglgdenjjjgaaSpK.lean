/-
  Edges that link nodes: ways, and what one edge more does. No condition.
-/
import Derived.Test.YtodglgdenjjjgaaRy
namespace Go.Proofs.Ytodglgdenjjjgaa.SpK
abbrev T := Int × Int × Int
/-- Edges lead from one node to another. -/
inductive Cn (l : List T) (a : Int) : Int → Prop
  | refl : Cn l a a
  | one {b c : Int} {y : T} : Cn l a b → y ∈ l → (y.1 = b ∧ y.2.1 = c ∨ y.2.1 = b ∧ y.1 = c) → Cn l a c
theorem cn_trans {l : List T} {a b c : Int} (h : Cn l a b) (g : Cn l b c) : Cn l a c := by
  induction g with
  | refl => exact h
  | one _ hy e ih => exact .one ih hy e
theorem cn_edge {l : List T} {y : T} (h : y ∈ l) : Cn l y.1 y.2.1 := .one .refl h (.inl ⟨rfl, rfl⟩)
theorem cn_back {l : List T} {y : T} (h : y ∈ l) : Cn l y.2.1 y.1 := .one .refl h (.inr ⟨rfl, rfl⟩)
theorem cn_symm {l : List T} {a b : Int} (h : Cn l a b) : Cn l b a := by
  induction h with
  | refl => exact .refl
  | one _ hy e ih =>
    rcases e with ⟨rfl, rfl⟩ | ⟨rfl, rfl⟩
    · exact cn_trans (cn_back hy) ih
    · exact cn_trans (cn_edge hy) ih
/-- Whatever links the ends of edges links what they do. -/
theorem cn_sub {l k : List T} (h : ∀ y ∈ l, Cn k y.1 y.2.1) {a b : Int} (g : Cn l a b) : Cn k a b := by
  induction g with
  | refl => exact .refl
  | one _ hy e ih =>
    rcases e with ⟨rfl, rfl⟩ | ⟨rfl, rfl⟩
    · exact cn_trans ih (h _ hy)
    · exact cn_trans ih (cn_symm (h _ hy))
theorem cn_mono {l k : List T} (h : ∀ y ∈ l, y ∈ k) {a b : Int} (g : Cn l a b) : Cn k a b := cn_sub (fun y hy => cn_edge (h y hy)) g
theorem cn_same {l k : List T} (h : ∀ y, y ∈ l ↔ y ∈ k) (a b : Int) : Cn l a b ↔ Cn k a b := ⟨cn_mono fun y hy => (h y).1 hy, cn_mono fun y hy => (h y).2 hy⟩
/-- One edge more. -/
theorem cn_cons {l : List T} {y : T} {a b : Int} : Cn (y :: l) a b ↔ Cn l a b ∨ (Cn l a y.1 ∧ Cn l y.2.1 b) ∨ (Cn l a y.2.1 ∧ Cn l y.1 b) := by
  constructor
  · intro h
    induction h with
    | refl => exact .inl .refl
    | one _ hy e ih =>
      rcases List.mem_cons.1 hy with rfl | hy
      · rcases e with ⟨rfl, rfl⟩ | ⟨rfl, rfl⟩
        · rcases ih with ih | ⟨i, j⟩ | ⟨i, j⟩
          · exact .inr (.inl ⟨ih, .refl⟩)
          · exact .inr (.inl ⟨i, .refl⟩)
          · exact .inl i
        · rcases ih with ih | ⟨i, j⟩ | ⟨i, j⟩
          · exact .inr (.inr ⟨ih, .refl⟩)
          · exact .inl i
          · exact .inr (.inr ⟨i, .refl⟩)
      · have st : ∀ {z : Int}, Cn l z _ → Cn l z _ := fun q => .one q hy e
        rcases ih with ih | ⟨i, j⟩ | ⟨i, j⟩
        · exact .inl (st ih)
        · exact .inr (.inl ⟨i, st j⟩)
        · exact .inr (.inr ⟨i, st j⟩)
  · have up : ∀ {c d : Int}, Cn l c d → Cn (y :: l) c d := fun q => cn_mono (fun z hz => List.mem_cons_of_mem _ hz) q
    rintro (h | ⟨i, j⟩ | ⟨i, j⟩)
    · exact up h
    · exact cn_trans (up i) (cn_trans (cn_edge (List.mem_cons_self ..)) (up j))
    · exact cn_trans (up i) (cn_trans (cn_back (List.mem_cons_self ..)) (up j))
/-- The order of edges. -/
def lt (x y : T) : Prop := x.2.2 < y.2.2 ∨ x.2.2 = y.2.2 ∧ (x.1 < y.1 ∨ x.1 = y.1 ∧ x.2.1 < y.2.1)
theorem lt_irr (x : T) : ¬ lt x x := by unfold lt; omega
theorem lt_tr {x y z : T} (h : lt x y) (g : lt y z) : lt x z := by unfold lt at *; omega
theorem lt_or {x y : T} (h : x ≠ y) : lt x y ∨ lt y x := by
  obtain ⟨a, b, c⟩ := x
  obtain ⟨d, e, f⟩ := y
  unfold lt
  simp only [ne_eq, Prod.mk.injEq] at h ⊢
  omega
open Classical in
/-- The greedy choice, behind some that link already. -/
noncomputable def grd : List T → List T → List T
  | _, [] => []
  | c, y :: l => if Cn c y.1 y.2.1 then grd c l else y :: grd (y :: c) l
abbrev Inc (s : List T) : Prop := s.Pairwise lt
theorem grd_sub : ∀ (s c : List T), (grd c s).Sublist s
  | [], _ => .slnil
  | y :: s, c => by
    unfold grd
    split
    · exact (grd_sub s c).cons _
    · exact (grd_sub s _).cons_cons _
theorem grd_inc {s : List T} (c : List T) (h : Inc s) : Inc (grd c s) := h.sublist (grd_sub s c)
open Classical in
noncomputable def blw (l : List T) (y : T) : List T := l.filter fun z => decide (lt z y)
theorem mem_blw {l : List T} {y z : T} : z ∈ blw l y ↔ z ∈ l ∧ lt z y := by
  unfold blw
  simp
/-- What is chosen: what edges ahead don't link. -/
theorem grd_iff : ∀ (s c : List T), Inc s → ∀ y, y ∈ grd c s ↔ y ∈ s ∧ ¬ Cn (c ++ blw s y) y.1 y.2.1
  | [], _, _, y => by simp [grd]
  | x :: s, c, h, y => by
    obtain ⟨h1, h2⟩ := List.pairwise_cons.1 h
    have hx : blw (x :: s) x = [] := by
      rw [List.eq_nil_iff_forall_not_mem]
      intro z hz
      obtain ⟨a, b⟩ := mem_blw.1 hz
      rcases List.mem_cons.1 a with rfl | a
      · exact lt_irr _ b
      · exact lt_irr _ (lt_tr b (h1 z a))
    have hne : ∀ z ∈ s, z ≠ x := fun z hz e => lt_irr x (by have := h1 z hz; rw [e] at this; exact this)
    have key : ∀ z ∈ s, ∀ a b, Cn (c ++ blw (x :: s) z) a b ↔ Cn (x :: c ++ blw s z) a b := by
      intro z hz a b
      refine cn_same (fun w => ?_) a b
      simp only [List.mem_append, mem_blw, List.mem_cons]
      constructor
      · rintro (k | ⟨rfl | k, m⟩)
        · exact .inl (.inr k)
        · exact .inl (.inl rfl)
        · exact .inr ⟨k, m⟩
      · rintro ((rfl | k) | ⟨k, m⟩)
        · exact .inr ⟨.inl rfl, h1 z hz⟩
        · exact .inl k
        · exact .inr ⟨.inr k, m⟩
    unfold grd
    split
    · rename_i hc
      rw [grd_iff s c h2 y]
      constructor
      · rintro ⟨a, b⟩
        refine ⟨List.mem_cons_of_mem _ a, fun k => b ?_⟩
        rw [key y a] at k
        exact cn_sub (fun z hz => by
          rcases List.mem_append.1 hz with hz | hz
          · rcases List.mem_cons.1 hz with rfl | hz
            · exact cn_mono (fun w hw => List.mem_append_left _ hw) hc
            · exact cn_edge (List.mem_append_left _ hz)
          · exact cn_edge (List.mem_append_right _ hz)) k
      · rintro ⟨a, b⟩
        rcases List.mem_cons.1 a with rfl | a
        · rw [hx, List.append_nil] at b
          exact absurd hc b
        · refine ⟨a, fun k => b ?_⟩
          rw [key y a]
          exact cn_mono (fun w hw => by
            rcases List.mem_append.1 hw with hw | hw
            · exact List.mem_append_left _ (List.mem_cons_of_mem _ hw)
            · exact List.mem_append_right _ hw) k
    · rename_i hc
      rw [List.mem_cons, grd_iff s (x :: c) h2 y]
      constructor
      · rintro (rfl | ⟨a, b⟩)
        · refine ⟨List.mem_cons_self .., ?_⟩
          rw [hx, List.append_nil]
          exact hc
        · exact ⟨List.mem_cons_of_mem _ a, fun k => b ((key y a _ _).1 k)⟩
      · rintro ⟨a, b⟩
        rcases List.mem_cons.1 a with rfl | a
        · exact .inl rfl
        · exact .inr ⟨a, fun k => b ((key y a _ _).2 k)⟩
/-- What is chosen links all. -/
theorem grd_all : ∀ (s c : List T) (y : T), y ∈ s → Cn (c ++ grd c s) y.1 y.2.1
  | x :: s, c, y, h => by
    unfold grd
    split
    · rename_i hc
      rcases List.mem_cons.1 h with rfl | h
      · exact cn_mono (fun w hw => List.mem_append_left _ hw) hc
      · exact grd_all s c y h
    · rename_i hc
      rcases List.mem_cons.1 h with rfl | h
      · exact cn_edge (by simp)
      · exact cn_mono (fun w hw => by
          simp only [List.mem_append, List.mem_cons] at hw ⊢
          rcases hw with (rfl | hw) | hw
          · exact .inr (.inl rfl)
          · exact .inl hw
          · exact .inr (.inr hw)) (grd_all s (x :: c) y h)
/-- The least forest of edges in order. -/
noncomputable def kru (s : List T) : List T := grd [] s
theorem kru_iff {s : List T} (h : Inc s) (y : T) : y ∈ kru s ↔ y ∈ s ∧ ¬ Cn (blw s y) y.1 y.2.1 := grd_iff s [] h y
theorem kru_mem {s : List T} {y : T} (h : y ∈ kru s) : y ∈ s := (grd_sub s []).subset h
theorem inc_blw {s : List T} (h : Inc s) (y : T) : Inc (blw s y) := h.sublist List.filter_sublist
/-- Ahead of an edge, what is chosen links what all do. -/
theorem kru_blw {s : List T} (h : Inc s) (y : T) (a b : Int) : Cn (blw (kru s) y) a b ↔ Cn (blw s y) a b := by
  constructor
  · exact cn_mono fun z hz => by
      obtain ⟨k, m⟩ := mem_blw.1 hz
      exact mem_blw.2 ⟨kru_mem k, m⟩
  · refine cn_sub fun z hz => cn_mono (fun w hw => ?_) (grd_all (blw s y) [] z hz)
    obtain ⟨k, m⟩ := (kru_iff (inc_blw h y) w).1 hw
    obtain ⟨k1, k2⟩ := mem_blw.1 k
    refine mem_blw.2 ⟨(kru_iff h w).2 ⟨k1, fun q => m (cn_mono (fun x hx => ?_) q)⟩, k2⟩
    obtain ⟨x1, x2⟩ := mem_blw.1 hx
    exact mem_blw.2 ⟨mem_blw.2 ⟨x1, lt_tr x2 k2⟩, x2⟩
theorem kru_cn {s : List T} (a b : Int) : Cn (kru s) a b ↔ Cn s a b := ⟨cn_mono fun _ h => kru_mem h, cn_sub fun z hz => grd_all s [] z hz⟩
/-- Rising lists of the same edges are the same. -/
theorem inc_ext {s r : List T} (h : Inc s) (g : Inc r) (e : ∀ y, y ∈ s ↔ y ∈ r) : s = r := by
  have nd : ∀ {q : List T}, Inc q → q.Nodup := fun {q} hq => List.Pairwise.imp (R := lt) (S := fun x y => x ≠ y) (fun {x y} k e => lt_irr x (by rw [← e] at k; exact k)) hq
  refine List.Perm.eq_of_pairwise (le := lt) (fun x y _ _ p q => absurd (lt_tr p q) (lt_irr x)) h g ?_
  exact (List.perm_ext_iff_of_nodup (nd h) (nd g)).2 e
/-- One edge more: the least forest of the least forest and it. -/
theorem kru_grow {s r t : List T} {e : T} (hs : Inc s) (hr : Inc r) (ht : Inc t) (mr : ∀ y, y ∈ r ↔ y ∈ s ∨ y = e) (mt : ∀ y, y ∈ t ↔ y ∈ kru s ∨ y = e) : kru r = kru t := by
  refine inc_ext (grd_inc _ hr) (grd_inc _ ht) fun y => ?_
  have key : ∀ a b, Cn (blw r y) a b ↔ Cn (blw t y) a b := by
    intro a b
    constructor
    · refine cn_sub fun z hz => ?_
      obtain ⟨k, m⟩ := mem_blw.1 hz
      rcases (mr z).1 k with k | rfl
      · exact cn_mono (fun w hw => by
          obtain ⟨w1, w2⟩ := mem_blw.1 hw
          exact mem_blw.2 ⟨(mt w).2 (.inl w1), w2⟩) ((kru_blw hs y _ _).2 (cn_edge (mem_blw.2 ⟨k, m⟩)))
      · exact cn_edge (mem_blw.2 ⟨(mt _).2 (.inr rfl), m⟩)
    · exact cn_mono fun z hz => by
        obtain ⟨k, m⟩ := mem_blw.1 hz
        refine mem_blw.2 ⟨(mr z).2 ?_, m⟩
        rcases (mt z).1 k with k | k
        · exact .inl (kru_mem k)
        · exact .inr k
  show y ∈ kru r ↔ y ∈ kru t
  rw [kru_iff hr, kru_iff ht, key, mr, mt]
  constructor
  · rintro ⟨k | k, m⟩
    · refine ⟨.inl ((kru_iff hs y).2 ⟨k, fun q => m ?_⟩), m⟩
      rw [← key]
      exact cn_mono (fun w hw => by
        obtain ⟨w1, w2⟩ := mem_blw.1 hw
        exact mem_blw.2 ⟨(mr w).2 (.inl w1), w2⟩) q
    · exact ⟨.inr k, m⟩
  · rintro ⟨k | k, m⟩
    · exact ⟨.inl (kru_mem k), m⟩
    · exact ⟨.inr k, m⟩
/-- One edge less that was not chosen. -/
theorem kru_drop {s r : List T} {e : T} (hs : Inc s) (hr : Inc r) (he : e ∉ kru s) (mr : ∀ y, y ∈ r ↔ y ∈ s ∧ y ≠ e) : kru r = kru s := by
  refine inc_ext (grd_inc _ hr) (grd_inc _ hs) fun y => ?_
  show y ∈ kru r ↔ y ∈ kru s
  rw [kru_iff hr, kru_iff hs, mr]
  have key : Cn (blw r y) y.1 y.2.1 ↔ Cn (blw s y) y.1 y.2.1 := by
    constructor
    · exact cn_mono fun w hw => by
        obtain ⟨w1, w2⟩ := mem_blw.1 hw
        exact mem_blw.2 ⟨((mr w).1 w1).1, w2⟩
    · intro q
      rw [← kru_blw hs] at q
      exact cn_mono (fun w hw => by
        obtain ⟨w1, w2⟩ := mem_blw.1 hw
        exact mem_blw.2 ⟨(mr w).2 ⟨kru_mem w1, fun e' => he (e' ▸ w1)⟩, w2⟩) q
  rw [key]
  constructor
  · rintro ⟨⟨a, _⟩, b⟩
    exact ⟨a, b⟩
  · rintro ⟨a, b⟩
    exact ⟨⟨a, fun e' => he (e' ▸ (kru_iff hs y).2 ⟨a, b⟩)⟩, b⟩
/-- No edge is linked by those ahead of it in the list. -/
def frs : List T → List T → Prop
  | _, [] => True
  | c, y :: l => ¬ Cn c y.1 y.2.1 ∧ frs (y :: c) l
theorem frs_more : ∀ (l c d : List T), (∀ a b, Cn d a b → Cn c a b) → frs c l → frs d l
  | [], _, _, _, _ => trivial
  | y :: l, c, d, h, g => ⟨fun q => g.1 (h _ _ q), frs_more l (y :: c) (y :: d) (fun a b q => by
      rw [cn_cons] at q ⊢
      rcases q with q | ⟨q1, q2⟩ | ⟨q1, q2⟩
      · exact .inl (h _ _ q)
      · exact .inr (.inl ⟨h _ _ q1, h _ _ q2⟩)
      · exact .inr (.inr ⟨h _ _ q1, h _ _ q2⟩)) g.2⟩
/-- Some of a forest's edges are a forest. -/
theorem frs_sub : ∀ {l k : List T} (c : List T), k.Sublist l → frs c l → frs c k
  | _, _, _, .slnil, _ => trivial
  | _, _, c, .cons y h, g => frs_sub c h (frs_more _ _ _ (fun _ _ q => cn_mono (fun _ hw => List.mem_cons_of_mem _ hw) q) g.2)
  | _, _, c, .cons_cons y h, g => ⟨g.1, frs_sub (y :: c) h g.2⟩
theorem grd_frs : ∀ (s c : List T), frs c (grd c s)
  | [], _ => trivial
  | y :: s, c => by
    unfold grd
    split
    · exact grd_frs s c
    · rename_i h
      exact ⟨h, grd_frs s _⟩
/-- How many edges a forest has, by a count of parts that one edge more makes one less. -/
theorem frs_len (cnt : List T → Nat) (ok : T → Prop) (h1 : ∀ c y, (∀ z ∈ c, ok z) → ok y → ¬ Cn c y.1 y.2.1 → cnt (y :: c) + 1 = cnt c) : ∀ (l c : List T), (∀ z ∈ c, ok z) → (∀ z ∈ l, ok z) → frs c l → cnt (l.reverse ++ c) + l.length = cnt c
  | [], c, _, _, _ => rfl
  | y :: l, c, hc, hl, g => by
    have hy := hl y (List.mem_cons_self ..)
    have := frs_len cnt ok h1 l (y :: c) (fun z hz => by rcases List.mem_cons.1 hz with rfl | hz; exact hy; exact hc z hz) (fun z hz => hl z (List.mem_cons_of_mem _ hz)) g.2
    have e := h1 c y hc hy g.1
    rw [List.reverse_cons, List.append_assoc, List.length_cons]
    show cnt (l.reverse ++ (y :: c)) + _ = _
    omega
/-- A count of parts: what it bears. -/
structure Parts (cnt : List T → Nat) (ok : T → Prop) : Prop where
  less : ∀ c y, (∀ z ∈ c, ok z) → ok y → ¬ Cn c y.1 y.2.1 → cnt (y :: c) + 1 = cnt c
  mono : ∀ c d, (∀ z ∈ c, ok z) → (∀ z ∈ d, ok z) → (∀ a b, Cn c a b → Cn d a b) → cnt d ≤ cnt c
theorem parts_len {cnt : List T → Nat} {ok : T → Prop} (P : Parts cnt ok) {l : List T} (hl : ∀ z ∈ l, ok z) (g : frs [] l) : cnt l + l.length = cnt [] := by
  have h := frs_len cnt ok P.less l [] (fun z hz => by cases hz) hl g
  rw [List.append_nil] at h
  have hr : ∀ z ∈ l.reverse, ok z := fun z hz => hl z (List.mem_reverse.1 hz)
  have a := P.mono l l.reverse hl hr (fun a b q => cn_mono (fun w hw => List.mem_reverse.2 hw) q)
  have b := P.mono l.reverse l hr hl (fun a b q => cn_mono (fun w hw => List.mem_reverse.1 hw) q)
  omega
/-- In a forest no edge is linked by the others. -/
theorem frs_cut {cnt : List T → Nat} {ok : T → Prop} (P : Parts cnt ok) {l k : List T} {y : T} (hl : ∀ z ∈ l, ok z) (g : frs [] l) (hy : y ∈ l) (hk : k.Sublist l) (hn : k.length < l.length) (hm : ∀ z ∈ l, z = y ∨ z ∈ k) : ¬ Cn k y.1 y.2.1 := by
  intro q
  have hkl : ∀ z ∈ k, ok z := fun z hz => hl z (hk.subset hz)
  have a := parts_len P hl g
  have b := parts_len P hkl (frs_sub [] hk g)
  have c := P.mono l k hl hkl (fun a b r => cn_sub (fun z hz => by
    rcases hm z hz with rfl | hz
    · exact q
    · exact cn_edge hz) r)
  omega
/-- A forest that links less than others do has no more edges. -/
theorem frs_le {cnt : List T → Nat} {ok : T → Prop} (P : Parts cnt ok) {f o : List T} (hf : ∀ z ∈ f, ok z) (ho : ∀ z ∈ o, ok z) (gf : frs [] f) (go : frs [] o) (h : ∀ a b, Cn o a b → Cn f a b) : o.length ≤ f.length := by
  have a := parts_len P hf gf
  have b := parts_len P ho go
  have c := P.mono o f ho hf h
  omega
open Classical in
noncomputable def upto (l : List T) (w : Int) : List T := l.filter fun z => decide (z.2.2 ≤ w)
theorem mem_upto {l : List T} {w : Int} {z : T} : z ∈ upto l w ↔ z ∈ l ∧ z.2.2 ≤ w := by
  unfold upto
  simp
theorem kru_upto {s : List T} (h : Inc s) (w a b : Int) : Cn (upto s w) a b → Cn (upto (kru s) w) a b := by
  refine cn_sub fun z hz => ?_
  obtain ⟨k, m⟩ := mem_upto.1 hz
  by_cases hk : z ∈ kru s
  · exact cn_edge (mem_upto.2 ⟨hk, m⟩)
  · have q : Cn (blw s z) z.1 z.2.1 := by
      by_cases q : Cn (blw s z) z.1 z.2.1
      · exact q
      · exact absurd ((kru_iff h z).2 ⟨k, q⟩) hk
    rw [← kru_blw h] at q
    exact cn_mono (fun x hx => by
      obtain ⟨x1, x2⟩ := mem_blw.1 hx
      refine mem_upto.2 ⟨x1, ?_⟩
      unfold lt at x2
      omega) q
/-- Up to each weight a forest has no more edges than the least one. -/
theorem kru_most {cnt : List T → Nat} {ok : T → Prop} (P : Parts cnt ok) {s o : List T} (hs : Inc s) (ho : ∀ z ∈ s, ok z) (go : frs [] o) (hm : ∀ z ∈ o, z ∈ s) (w : Int) : (upto o w).length ≤ (upto (kru s) w).length := by
  refine frs_le P (fun z hz => ho z (kru_mem (mem_upto.1 hz).1)) (fun z hz => ho z (hm z (mem_upto.1 hz).1)) (frs_sub [] List.filter_sublist (grd_frs s [])) (frs_sub [] List.filter_sublist go) fun a b q => ?_
  refine kru_upto hs w a b (cn_mono (fun z hz => ?_) q)
  obtain ⟨k, m⟩ := mem_upto.1 hz
  exact mem_upto.2 ⟨hm z k, m⟩
theorem kru_size {cnt : List T → Nat} {ok : T → Prop} (P : Parts cnt ok) {s o : List T} (ho : ∀ z ∈ s, ok z) (go : frs [] o) (hm : ∀ z ∈ o, z ∈ s) (hl : ∀ z ∈ s, Cn o z.1 z.2.1) : o.length = (kru s).length := by
  have a := frs_le P (fun z hz => ho z (kru_mem hz)) (fun z hz => ho z (hm z hz)) (grd_frs s []) go fun a b q => (kru_cn a b).2 (cn_mono hm q)
  have b := frs_le P (fun z hz => ho z (hm z hz)) (fun z hz => ho z (kru_mem hz)) go (grd_frs s []) fun a b q => cn_sub hl ((kru_cn a b).1 q)
  unfold kru at *
  omega
def wsum (l : List T) : Int := (l.map fun z => z.2.2).sum
/-- Weights, counted by how many are greater. -/
def gts (l : List T) : Nat → Int
  | 0 => 0
  | n + 1 => gts l n + ((l.countP fun z => decide (z.2.2 > (n : Int))) : Nat)
theorem gts_nil : ∀ n, gts [] n = 0
  | 0 => rfl
  | n + 1 => by
    unfold gts
    rw [gts_nil n]
    rfl
theorem gts_cons (y : T) (l : List T) (h : 0 ≤ y.2.2) : ∀ n : Nat, gts (y :: l) n = gts l n + (if y.2.2 ≤ n then y.2.2 else n)
  | 0 => by
    unfold gts
    split <;> omega
  | n + 1 => by
    have := gts_cons y l h n
    unfold gts
    rw [this, List.countP_cons]
    by_cases q : y.2.2 > n
    · rw [if_neg (show ¬ y.2.2 ≤ (n : Int) by omega), decide_eq_true q]
      by_cases r : y.2.2 ≤ ((n + 1 : Nat) : Int)
      · rw [if_pos r]
        simp only [if_true]
        omega
      · rw [if_neg r]
        simp only [if_true]
        omega
    · rw [if_pos (show y.2.2 ≤ (n : Int) by omega), if_pos (show y.2.2 ≤ ((n + 1 : Nat) : Int) by omega), decide_eq_false q]
      simp only [Bool.false_eq_true, if_false]
      omega
theorem gts_sum (n : Nat) : ∀ l : List T, (∀ z ∈ l, 0 ≤ z.2.2 ∧ z.2.2 ≤ n) → gts l n = wsum l
  | [], _ => gts_nil n
  | y :: l, h => by
    have hy := h y (List.mem_cons_self ..)
    rw [gts_cons y l hy.1, gts_sum n l (fun z hz => h z (List.mem_cons_of_mem _ hz)), if_pos hy.2]
    unfold wsum
    rw [List.map_cons, List.sum_cons]
    omega
theorem gts_le {f o : List T} (h : ∀ n : Nat, (f.countP fun z => decide (z.2.2 > (n : Int))) ≤ o.countP fun z => decide (z.2.2 > (n : Int))) : ∀ n, gts f n ≤ gts o n
  | 0 => Int.le_refl _
  | n + 1 => by
    have := gts_le h n
    have := h n
    unfold gts
    omega
theorem upto_len (l : List T) (w : Int) : (upto l w).length + (l.countP fun z => decide (z.2.2 > w)) = l.length := by
  unfold upto
  rw [← List.countP_eq_length_filter]
  have := List.length_eq_countP_add_countP (fun z : T => decide (z.2.2 ≤ w)) (l := l)
  rw [this]
  congr 1
  refine List.countP_congr fun z _ => ?_
  simp
/-- The least forest weighs no more than another one that links all. -/
theorem kru_best {cnt : List T → Nat} {ok : T → Prop} (P : Parts cnt ok) {s o : List T} (hs : Inc s) (ho : ∀ z ∈ s, ok z) (N : Nat) (hw : ∀ z ∈ s, 0 ≤ z.2.2 ∧ z.2.2 ≤ N) (go : frs [] o) (hm : ∀ z ∈ o, z ∈ s) (hl : ∀ z ∈ s, Cn o z.1 z.2.1) : wsum (kru s) ≤ wsum o := by
  rw [← gts_sum N _ (fun z hz => hw z (kru_mem hz)), ← gts_sum N o (fun z hz => hw z (hm z hz))]
  refine gts_le (fun n => ?_) N
  have a := kru_most P hs ho go hm n
  have b := kru_size P ho go hm hl
  have c := upto_len (kru s) n
  have d := upto_len o n
  omega
/-- An edge of the least forest is lost: the least that links its sides comes in its place. -/
theorem kru_lose {cnt : List T → Nat} {ok : T → Prop} (P : Parts cnt ok) {s r kept : List T} {cut : T} (hs : Inc s) (hr : Inc r) (ho : ∀ z ∈ s, ok z) (hc : cut ∈ kru s) (mr : ∀ y, y ∈ r ↔ y ∈ s ∧ y ≠ cut) (mk : ∀ y, y ∈ kept ↔ y ∈ kru s ∧ y ≠ cut) (y : T) :
    y ∈ kru r ↔ y ∈ kept ∨ (y ∈ r ∧ ¬ Cn kept y.1 y.2.1 ∧ ∀ z ∈ r, ¬ Cn kept z.1 z.2.1 → z = y ∨ lt y z) := by
  have hcut : ¬ Cn kept cut.1 cut.2.1 := by
    classical
    have hnd : (kru s).Nodup := List.Pairwise.imp (R := lt) (S := fun x y => x ≠ y) (fun {x y} k e => lt_irr x (by rw [← e] at k; exact k)) (grd_inc [] hs)
    intro q
    refine frs_cut P (fun z hz => ho z (kru_mem hz)) (grd_frs s []) hc (k := (kru s).erase cut) List.erase_sublist ?_ (fun z hz => ?_) (cn_mono (fun z hz => ?_) q)
    · show ((kru s).erase cut).length < (kru s).length
      rw [List.length_erase_of_mem hc]
      have := List.length_pos_of_mem hc
      omega
    · by_cases e : z = cut
      · exact .inl e
      · exact .inr ((List.mem_erase_of_ne e).2 hz)
    · obtain ⟨a, b⟩ := (mk z).1 hz
      exact (List.mem_erase_of_ne b).2 a
  -- what is not chosen is linked ahead of it, by what is kept or over the edge that is lost
  have way : ∀ z ∈ s, z ∉ kru s → Cn (blw (cut :: kept) z) z.1 z.2.1 := by
    intro z hz hn
    have q : Cn (blw s z) z.1 z.2.1 := by
      by_cases q : Cn (blw s z) z.1 z.2.1
      · exact q
      · exact absurd ((kru_iff hs z).2 ⟨hz, q⟩) hn
    rw [← kru_blw hs] at q
    refine cn_mono (fun w hw => ?_) q
    obtain ⟨w1, w2⟩ := mem_blw.1 hw
    refine mem_blw.2 ⟨?_, w2⟩
    by_cases e : w = cut
    · rw [e]
      exact List.mem_cons_self ..
    · exact List.mem_cons_of_mem _ ((mk w).2 ⟨w1, e⟩)
  have bk : ∀ {z : T} {a b : Int}, Cn (blw kept z) a b → Cn kept a b := fun q => cn_mono (fun w hw => (mem_blw.1 hw).1) q
  have way2 : ∀ z ∈ s, z ∉ kru s → Cn (blw kept z) z.1 z.2.1 ∨ (lt cut z ∧ (Cn (blw kept z) z.1 cut.1 ∧ Cn (blw kept z) cut.2.1 z.2.1 ∨ Cn (blw kept z) z.1 cut.2.1 ∧ Cn (blw kept z) cut.1 z.2.1)) := by
    intro z hz hn
    have q := way z hz hn
    by_cases e : lt cut z
    · have : blw (cut :: kept) z = cut :: blw kept z := by
        unfold blw
        rw [List.filter_cons, if_pos (by simpa using e)]
      rw [this, cn_cons] at q
      rcases q with q | q | q
      · exact .inl q
      · exact .inr ⟨e, .inl q⟩
      · exact .inr ⟨e, .inr q⟩
    · have : blw (cut :: kept) z = blw kept z := by
        unfold blw
        rw [List.filter_cons, if_neg (by simpa using e)]
      rw [this] at q
      exact .inl q
  have rs : ∀ {z}, z ∈ r → z ∈ s := fun h => ((mr _).1 h).1
  have kr : ∀ z ∈ kept, z ∈ r := fun z hz => (mr z).2 ⟨kru_mem ((mk z).1 hz).1, ((mk z).1 hz).2⟩
  rw [kru_iff hr]
  constructor
  · rintro ⟨h1, h2⟩
    by_cases hk : y ∈ kept
    · exact .inl hk
    right
    have hn : y ∉ kru s := fun q => hk ((mk y).2 ⟨q, ((mr y).1 h1).2⟩)
    have up : ∀ {a b}, Cn (blw kept y) a b → Cn (blw r y) a b := fun q => cn_mono (fun w hw => by
      obtain ⟨w1, w2⟩ := mem_blw.1 hw
      exact mem_blw.2 ⟨kr w w1, w2⟩) q
    have q := way2 y (rs h1) hn
    have hq : lt cut y ∧ (Cn (blw kept y) y.1 cut.1 ∧ Cn (blw kept y) cut.2.1 y.2.1 ∨ Cn (blw kept y) y.1 cut.2.1 ∧ Cn (blw kept y) cut.1 y.2.1) := by
      rcases q with q | q
      · exact absurd (up q) h2
      · exact q
    refine ⟨h1, fun k => ?_, fun z hz hzn => ?_⟩
    · apply hcut
      rcases hq.2 with ⟨a, b⟩ | ⟨a, b⟩
      · exact cn_trans (cn_symm (bk a)) (cn_trans k (cn_symm (bk b)))
      · exact cn_symm (cn_trans (cn_symm (bk a)) (cn_trans k (cn_symm (bk b))))
    · by_cases e : z = y
      · exact .inl e
      right
      rcases lt_or e with e | e
      · exfalso
        have hzk : z ∉ kru s := fun q => hzn (cn_edge ((mk z).2 ⟨q, ((mr z).1 hz).2⟩))
        have hz2 : (Cn (blw kept z) z.1 cut.1 ∧ Cn (blw kept z) cut.2.1 z.2.1 ∨ Cn (blw kept z) z.1 cut.2.1 ∧ Cn (blw kept z) cut.1 z.2.1) := by
          rcases way2 z (rs hz) hzk with q | q
          · exact absurd (bk q) hzn
          · exact q.2
        have mv : ∀ {a b}, Cn (blw kept z) a b → Cn (blw r y) a b := fun q => cn_mono (fun w hw => by
          obtain ⟨w1, w2⟩ := mem_blw.1 hw
          exact mem_blw.2 ⟨kr w w1, lt_tr w2 e⟩) q
        have ze : Cn (blw r y) z.1 z.2.1 := cn_edge (mem_blw.2 ⟨hz, e⟩)
        have cc : Cn (blw r y) cut.1 cut.2.1 := by
          rcases hz2 with ⟨a, b⟩ | ⟨a, b⟩
          · exact cn_trans (cn_symm (mv a)) (cn_trans ze (cn_symm (mv b)))
          · exact cn_symm (cn_trans (cn_symm (mv a)) (cn_trans ze (cn_symm (mv b))))
        apply h2
        rcases hq.2 with ⟨a, b⟩ | ⟨a, b⟩
        · exact cn_trans (up a) (cn_trans cc (up b))
        · exact cn_trans (up a) (cn_trans (cn_symm cc) (up b))
      · exact e
  · rintro (h | ⟨h1, h2, h3⟩)
    · have hk := ((mk y).1 h).1
      refine ⟨kr y h, fun q => ((kru_iff hs y).1 hk).2 (cn_mono (fun w hw => ?_) q)⟩
      obtain ⟨w1, w2⟩ := mem_blw.1 hw
      exact mem_blw.2 ⟨rs w1, w2⟩
    · refine ⟨h1, fun q => h2 (cn_sub (fun w hw => ?_) q)⟩
      obtain ⟨w1, w2⟩ := mem_blw.1 hw
      by_cases k : Cn kept w.1 w.2.1
      · exact k
      · rcases h3 w w1 k with e | e
        · rw [e] at w2
          exact absurd w2 (lt_irr y)
        · exact absurd (lt_tr e w2) (lt_irr y)
end Go.Proofs.Ytodglgdenjjjgaa.SpK
