/-
  The code's forests, and the answer's, are those of the theory. No condition.
-/
import Derived.Test.YtakebkfhigadiaaRy
import Derived.Test.YtakebkfhigadiaaSpQ
import Derived.Test.YtakebkfhigadiaaEgL
namespace Go.Proofs.Ytakebkfhigadiaa.SpK
abbrev T := Int × Int × Int
/-- Edges lead from one node to another. -/
inductive Cn (l : List T) (a : Int) : Int → Prop
  | refl : Cn l a a
  | one {b c : Int} {y : T} : Cn l a b → y ∈ l → (y.1 = b ∧ y.2.1 = c ∨ y.2.1 = b ∧ y.1 = c) → Cn l a c
theorem cn_trans {l : List T} {a b c : Int} (h : Cn l a b) (g : Cn l b c) : Cn l a c := by
  induction g with
  | refl => exact h
  | one _ hy e ih => exact .one ih hy e
theorem cn_edge {l : List T} {y : T} (h : y ∈ l) : Cn l y.1 y.2.1 := .one .refl h (.inl ⟨rfl, rfl⟩)
theorem cn_back {l : List T} {y : T} (h : y ∈ l) : Cn l y.2.1 y.1 := .one .refl h (.inr ⟨rfl, rfl⟩)
theorem cn_symm {l : List T} {a b : Int} (h : Cn l a b) : Cn l b a := by
  induction h with
  | refl => exact .refl
  | one _ hy e ih =>
    rcases e with ⟨rfl, rfl⟩ | ⟨rfl, rfl⟩
    · exact cn_trans (cn_back hy) ih
    · exact cn_trans (cn_edge hy) ih
/-- Whatever links the ends of edges links what they do. -/
theorem cn_sub {l k : List T} (h : ∀ y ∈ l, Cn k y.1 y.2.1) {a b : Int} (g : Cn l a b) : Cn k a b := by
  induction g with
  | refl => exact .refl
  | one _ hy e ih =>
    rcases e with ⟨rfl, rfl⟩ | ⟨rfl, rfl⟩
    · exact cn_trans ih (h _ hy)
    · exact cn_trans ih (cn_symm (h _ hy))
theorem cn_mono {l k : List T} (h : ∀ y ∈ l, y ∈ k) {a b : Int} (g : Cn l a b) : Cn k a b := cn_sub (fun y hy => cn_edge (h y hy)) g
theorem cn_same {l k : List T} (h : ∀ y, y ∈ l ↔ y ∈ k) (a b : Int) : Cn l a b ↔ Cn k a b := ⟨cn_mono fun y hy => (h y).1 hy, cn_mono fun y hy => (h y).2 hy⟩
/-- One edge more. -/
theorem cn_cons {l : List T} {y : T} {a b : Int} : Cn (y :: l) a b ↔ Cn l a b ∨ (Cn l a y.1 ∧ Cn l y.2.1 b) ∨ (Cn l a y.2.1 ∧ Cn l y.1 b) := by
  constructor
  · intro h
    induction h with
    | refl => exact .inl .refl
    | one _ hy e ih =>
      rcases List.mem_cons.1 hy with rfl | hy
      · rcases e with ⟨rfl, rfl⟩ | ⟨rfl, rfl⟩
        · rcases ih with ih | ⟨i, j⟩ | ⟨i, j⟩
          · exact .inr (.inl ⟨ih, .refl⟩)
          · exact .inr (.inl ⟨i, .refl⟩)
          · exact .inl i
        · rcases ih with ih | ⟨i, j⟩ | ⟨i, j⟩
          · exact .inr (.inr ⟨ih, .refl⟩)
          · exact .inl i
          · exact .inr (.inr ⟨i, .refl⟩)
      · have st : ∀ {z : Int}, Cn l z _ → Cn l z _ := fun q => .one q hy e
        rcases ih with ih | ⟨i, j⟩ | ⟨i, j⟩
        · exact .inl (st ih)
        · exact .inr (.inl ⟨i, st j⟩)
        · exact .inr (.inr ⟨i, st j⟩)
  · have up : ∀ {c d : Int}, Cn l c d → Cn (y :: l) c d := fun q => cn_mono (fun z hz => List.mem_cons_of_mem _ hz) q
    rintro (h | ⟨i, j⟩ | ⟨i, j⟩)
    · exact up h
    · exact cn_trans (up i) (cn_trans (cn_edge (List.mem_cons_self ..)) (up j))
    · exact cn_trans (up i) (cn_trans (cn_back (List.mem_cons_self ..)) (up j))
/-- The order of edges. -/
def lt (x y : T) : Prop := x.2.2 < y.2.2 ∨ x.2.2 = y.2.2 ∧ (x.1 < y.1 ∨ x.1 = y.1 ∧ x.2.1 < y.2.1)
theorem lt_irr (x : T) : ¬ lt x x := by unfold lt; omega
theorem lt_tr {x y z : T} (h : lt x y) (g : lt y z) : lt x z := by unfold lt at *; omega
theorem lt_or {x y : T} (h : x ≠ y) : lt x y ∨ lt y x := by
  obtain ⟨a, b, c⟩ := x
  obtain ⟨d, e, f⟩ := y
  unfold lt
  simp only [ne_eq, Prod.mk.injEq] at h ⊢
  omega
open Classical in
/-- The greedy choice, behind some that link already. -/
noncomputable def grd : List T → List T → List T
  | _, [] => []
  | c, y :: l => if Cn c y.1 y.2.1 then grd c l else y :: grd (y :: c) l
abbrev Inc (s : List T) : Prop := s.Pairwise lt
theorem grd_sub : ∀ (s c : List T), (grd c s).Sublist s
  | [], _ => .slnil
  | y :: s, c => by
    unfold grd
    split
    · exact (grd_sub s c).cons _
    · exact (grd_sub s _).cons_cons _
theorem grd_inc {s : List T} (c : List T) (h : Inc s) : Inc (grd c s) := h.sublist (grd_sub s c)
open Classical in
noncomputable def blw (l : List T) (y : T) : List T := l.filter fun z => decide (lt z y)
theorem mem_blw {l : List T} {y z : T} : z ∈ blw l y ↔ z ∈ l ∧ lt z y := by
  unfold blw
  simp
/-- What is chosen: what edges ahead don't link. -/
theorem grd_iff : ∀ (s c : List T), Inc s → ∀ y, y ∈ grd c s ↔ y ∈ s ∧ ¬ Cn (c ++ blw s y) y.1 y.2.1
  | [], _, _, y => by simp [grd]
  | x :: s, c, h, y => by
    obtain ⟨h1, h2⟩ := List.pairwise_cons.1 h
    have hx : blw (x :: s) x = [] := by
      rw [List.eq_nil_iff_forall_not_mem]
      intro z hz
      obtain ⟨a, b⟩ := mem_blw.1 hz
      rcases List.mem_cons.1 a with rfl | a
      · exact lt_irr _ b
      · exact lt_irr _ (lt_tr b (h1 z a))
    have hne : ∀ z ∈ s, z ≠ x := fun z hz e => lt_irr x (by have := h1 z hz; rw [e] at this; exact this)
    have key : ∀ z ∈ s, ∀ a b, Cn (c ++ blw (x :: s) z) a b ↔ Cn (x :: c ++ blw s z) a b := by
      intro z hz a b
      refine cn_same (fun w => ?_) a b
      simp only [List.mem_append, mem_blw, List.mem_cons]
      constructor
      · rintro (k | ⟨rfl | k, m⟩)
        · exact .inl (.inr k)
        · exact .inl (.inl rfl)
        · exact .inr ⟨k, m⟩
      · rintro ((rfl | k) | ⟨k, m⟩)
        · exact .inr ⟨.inl rfl, h1 z hz⟩
        · exact .inl k
        · exact .inr ⟨.inr k, m⟩
    unfold grd
    split
    · rename_i hc
      rw [grd_iff s c h2 y]
      constructor
      · rintro ⟨a, b⟩
        refine ⟨List.mem_cons_of_mem _ a, fun k => b ?_⟩
        rw [key y a] at k
        exact cn_sub (fun z hz => by
          rcases List.mem_append.1 hz with hz | hz
          · rcases List.mem_cons.1 hz with rfl | hz
            · exact cn_mono (fun w hw => List.mem_append_left _ hw) hc
            · exact cn_edge (List.mem_append_left _ hz)
          · exact cn_edge (List.mem_append_right _ hz)) k
      · rintro ⟨a, b⟩
        rcases List.mem_cons.1 a with rfl | a
        · rw [hx, List.append_nil] at b
          exact absurd hc b
        · refine ⟨a, fun k => b ?_⟩
          rw [key y a]
          exact cn_mono (fun w hw => by
            rcases List.mem_append.1 hw with hw | hw
            · exact List.mem_append_left _ (List.mem_cons_of_mem _ hw)
            · exact List.mem_append_right _ hw) k
    · rename_i hc
      rw [List.mem_cons, grd_iff s (x :: c) h2 y]
      constructor
      · rintro (rfl | ⟨a, b⟩)
        · refine ⟨List.mem_cons_self .., ?_⟩
          rw [hx, List.append_nil]
          exact hc
        · exact ⟨List.mem_cons_of_mem _ a, fun k => b ((key y a _ _).1 k)⟩
      · rintro ⟨a, b⟩
        rcases List.mem_cons.1 a with rfl | a
        · exact .inl rfl
        · exact .inr ⟨a, fun k => b ((key y a _ _).2 k)⟩
/-- What is chosen links all. -/
theorem grd_all : ∀ (s c : List T) (y : T), y ∈ s → Cn (c ++ grd c s) y.1 y.2.1
  | x :: s, c, y, h => by
    unfold grd
    split
    · rename_i hc
      rcases List.mem_cons.1 h with rfl | h
      · exact cn_mono (fun w hw => List.mem_append_left _ hw) hc
      · exact grd_all s c y h
    · rename_i hc
      rcases List.mem_cons.1 h with rfl | h
      · exact cn_edge (by simp)
      · exact cn_mono (fun w hw => by
          simp only [List.mem_append, List.mem_cons] at hw ⊢
          rcases hw with (rfl | hw) | hw
          · exact .inr (.inl rfl)
          · exact .inl hw
          · exact .inr (.inr hw)) (grd_all s (x :: c) y h)
/-- The least forest of edges in order. -/
noncomputable def kru (s : List T) : List T := grd [] s
theorem kru_iff {s : List T} (h : Inc s) (y : T) : y ∈ kru s ↔ y ∈ s ∧ ¬ Cn (blw s y) y.1 y.2.1 := grd_iff s [] h y
theorem kru_mem {s : List T} {y : T} (h : y ∈ kru s) : y ∈ s := (grd_sub s []).subset h
theorem inc_blw {s : List T} (h : Inc s) (y : T) : Inc (blw s y) := h.sublist List.filter_sublist
/-- Ahead of an edge, what is chosen links what all do. -/
theorem kru_blw {s : List T} (h : Inc s) (y : T) (a b : Int) : Cn (blw (kru s) y) a b ↔ Cn (blw s y) a b := by
  constructor
  · exact cn_mono fun z hz => by
      obtain ⟨k, m⟩ := mem_blw.1 hz
      exact mem_blw.2 ⟨kru_mem k, m⟩
  · refine cn_sub fun z hz => cn_mono (fun w hw => ?_) (grd_all (blw s y) [] z hz)
    obtain ⟨k, m⟩ := (kru_iff (inc_blw h y) w).1 hw
    obtain ⟨k1, k2⟩ := mem_blw.1 k
    refine mem_blw.2 ⟨(kru_iff h w).2 ⟨k1, fun q => m (cn_mono (fun x hx => ?_) q)⟩, k2⟩
    obtain ⟨x1, x2⟩ := mem_blw.1 hx
    exact mem_blw.2 ⟨mem_blw.2 ⟨x1, lt_tr x2 k2⟩, x2⟩
theorem kru_cn {s : List T} (a b : Int) : Cn (kru s) a b ↔ Cn s a b := ⟨cn_mono fun _ h => kru_mem h, cn_sub fun z hz => grd_all s [] z hz⟩
/-- Rising lists of the same edges are the same. -/
theorem inc_ext {s r : List T} (h : Inc s) (g : Inc r) (e : ∀ y, y ∈ s ↔ y ∈ r) : s = r := by
  have nd : ∀ {q : List T}, Inc q → q.Nodup := fun {q} hq => List.Pairwise.imp (R := lt) (S := fun x y => x ≠ y) (fun {x y} k e => lt_irr x (by rw [← e] at k; exact k)) hq
  refine List.Perm.eq_of_pairwise (le := lt) (fun x y _ _ p q => absurd (lt_tr p q) (lt_irr x)) h g ?_
  exact (List.perm_ext_iff_of_nodup (nd h) (nd g)).2 e
/-- One edge more: the least forest of the least forest and it. -/
theorem kru_grow {s r t : List T} {e : T} (hs : Inc s) (hr : Inc r) (ht : Inc t) (mr : ∀ y, y ∈ r ↔ y ∈ s ∨ y = e) (mt : ∀ y, y ∈ t ↔ y ∈ kru s ∨ y = e) : kru r = kru t := by
  refine inc_ext (grd_inc _ hr) (grd_inc _ ht) fun y => ?_
  have key : ∀ a b, Cn (blw r y) a b ↔ Cn (blw t y) a b := by
    intro a b
    constructor
    · refine cn_sub fun z hz => ?_
      obtain ⟨k, m⟩ := mem_blw.1 hz
      rcases (mr z).1 k with k | rfl
      · exact cn_mono (fun w hw => by
          obtain ⟨w1, w2⟩ := mem_blw.1 hw
          exact mem_blw.2 ⟨(mt w).2 (.inl w1), w2⟩) ((kru_blw hs y _ _).2 (cn_edge (mem_blw.2 ⟨k, m⟩)))
      · exact cn_edge (mem_blw.2 ⟨(mt _).2 (.inr rfl), m⟩)
    · exact cn_mono fun z hz => by
        obtain ⟨k, m⟩ := mem_blw.1 hz
        refine mem_blw.2 ⟨(mr z).2 ?_, m⟩
        rcases (mt z).1 k with k | k
        · exact .inl (kru_mem k)
        · exact .inr k
  show y ∈ kru r ↔ y ∈ kru t
  rw [kru_iff hr, kru_iff ht, key, mr, mt]
  constructor
  · rintro ⟨k | k, m⟩
    · refine ⟨.inl ((kru_iff hs y).2 ⟨k, fun q => m ?_⟩), m⟩
      rw [← key]
      exact cn_mono (fun w hw => by
        obtain ⟨w1, w2⟩ := mem_blw.1 hw
        exact mem_blw.2 ⟨(mr w).2 (.inl w1), w2⟩) q
    · exact ⟨.inr k, m⟩
  · rintro ⟨k | k, m⟩
    · exact ⟨.inl (kru_mem k), m⟩
    · exact ⟨.inr k, m⟩
/-- One edge less that was not chosen. -/
theorem kru_drop {s r : List T} {e : T} (hs : Inc s) (hr : Inc r) (he : e ∉ kru s) (mr : ∀ y, y ∈ r ↔ y ∈ s ∧ y ≠ e) : kru r = kru s := by
  refine inc_ext (grd_inc _ hr) (grd_inc _ hs) fun y => ?_
  show y ∈ kru r ↔ y ∈ kru s
  rw [kru_iff hr, kru_iff hs, mr]
  have key : Cn (blw r y) y.1 y.2.1 ↔ Cn (blw s y) y.1 y.2.1 := by
    constructor
    · exact cn_mono fun w hw => by
        obtain ⟨w1, w2⟩ := mem_blw.1 hw
        exact mem_blw.2 ⟨((mr w).1 w1).1, w2⟩
    · intro q
      rw [← kru_blw hs] at q
      exact cn_mono (fun w hw => by
        obtain ⟨w1, w2⟩ := mem_blw.1 hw
        exact mem_blw.2 ⟨(mr w).2 ⟨kru_mem w1, fun e' => he (e' ▸ w1)⟩, w2⟩) q
  rw [key]
  constructor
  · rintro ⟨⟨a, _⟩, b⟩
    exact ⟨a, b⟩
  · rintro ⟨a, b⟩
    exact ⟨⟨a, fun e' => he (e' ▸ (kru_iff hs y).2 ⟨a, b⟩)⟩, b⟩
/-- No edge is linked by those ahead of it in the list. -/
def frs : List T → List T → Prop
  | _, [] => True
  | c, y :: l => ¬ Cn c y.1 y.2.1 ∧ frs (y :: c) l
theorem frs_more : ∀ (l c d : List T), (∀ a b, Cn d a b → Cn c a b) → frs c l → frs d l
  | [], _, _, _, _ => trivial
  | y :: l, c, d, h, g => ⟨fun q => g.1 (h _ _ q), frs_more l (y :: c) (y :: d) (fun a b q => by
      rw [cn_cons] at q ⊢
      rcases q with q | ⟨q1, q2⟩ | ⟨q1, q2⟩
      · exact .inl (h _ _ q)
      · exact .inr (.inl ⟨h _ _ q1, h _ _ q2⟩)
      · exact .inr (.inr ⟨h _ _ q1, h _ _ q2⟩)) g.2⟩
/-- Some of a forest's edges are a forest. -/
theorem frs_sub : ∀ {l k : List T} (c : List T), k.Sublist l → frs c l → frs c k
  | _, _, _, .slnil, _ => trivial
  | _, _, c, .cons y h, g => frs_sub c h (frs_more _ _ _ (fun _ _ q => cn_mono (fun _ hw => List.mem_cons_of_mem _ hw) q) g.2)
  | _, _, c, .cons_cons y h, g => ⟨g.1, frs_sub (y :: c) h g.2⟩
theorem grd_frs : ∀ (s c : List T), frs c (grd c s)
  | [], _ => trivial
  | y :: s, c => by
    unfold grd
    split
    · exact grd_frs s c
    · rename_i h
      exact ⟨h, grd_frs s _⟩
/-- How many edges a forest has, by a count of parts that one edge more makes one less. -/
theorem frs_len (cnt : List T → Nat) (ok : T → Prop) (h1 : ∀ c y, (∀ z ∈ c, ok z) → ok y → ¬ Cn c y.1 y.2.1 → cnt (y :: c) + 1 = cnt c) : ∀ (l c : List T), (∀ z ∈ c, ok z) → (∀ z ∈ l, ok z) → frs c l → cnt (l.reverse ++ c) + l.length = cnt c
  | [], c, _, _, _ => rfl
  | y :: l, c, hc, hl, g => by
    have hy := hl y (List.mem_cons_self ..)
    have := frs_len cnt ok h1 l (y :: c) (fun z hz => by rcases List.mem_cons.1 hz with rfl | hz; exact hy; exact hc z hz) (fun z hz => hl z (List.mem_cons_of_mem _ hz)) g.2
    have e := h1 c y hc hy g.1
    rw [List.reverse_cons, List.append_assoc, List.length_cons]
    show cnt (l.reverse ++ (y :: c)) + _ = _
    omega
/-- A count of parts: what it bears. -/
structure Parts (cnt : List T → Nat) (ok : T → Prop) : Prop where
  less : ∀ c y, (∀ z ∈ c, ok z) → ok y → ¬ Cn c y.1 y.2.1 → cnt (y :: c) + 1 = cnt c
  mono : ∀ c d, (∀ z ∈ c, ok z) → (∀ z ∈ d, ok z) → (∀ a b, Cn c a b → Cn d a b) → cnt d ≤ cnt c
theorem parts_len {cnt : List T → Nat} {ok : T → Prop} (P : Parts cnt ok) {l : List T} (hl : ∀ z ∈ l, ok z) (g : frs [] l) : cnt l + l.length = cnt [] := by
  have h := frs_len cnt ok P.less l [] (fun z hz => by cases hz) hl g
  rw [List.append_nil] at h
  have hr : ∀ z ∈ l.reverse, ok z := fun z hz => hl z (List.mem_reverse.1 hz)
  have a := P.mono l l.reverse hl hr (fun a b q => cn_mono (fun w hw => List.mem_reverse.2 hw) q)
  have b := P.mono l.reverse l hr hl (fun a b q => cn_mono (fun w hw => List.mem_reverse.1 hw) q)
  omega
/-- In a forest no edge is linked by the others. -/
theorem frs_cut {cnt : List T → Nat} {ok : T → Prop} (P : Parts cnt ok) {l k : List T} {y : T} (hl : ∀ z ∈ l, ok z) (g : frs [] l) (hy : y ∈ l) (hk : k.Sublist l) (hn : k.length < l.length) (hm : ∀ z ∈ l, z = y ∨ z ∈ k) : ¬ Cn k y.1 y.2.1 := by
  intro q
  have hkl : ∀ z ∈ k, ok z := fun z hz => hl z (hk.subset hz)
  have a := parts_len P hl g
  have b := parts_len P hkl (frs_sub [] hk g)
  have c := P.mono l k hl hkl (fun a b r => cn_sub (fun z hz => by
    rcases hm z hz with rfl | hz
    · exact q
    · exact cn_edge hz) r)
  omega
/-- A forest that links less than others do has no more edges. -/
theorem frs_le {cnt : List T → Nat} {ok : T → Prop} (P : Parts cnt ok) {f o : List T} (hf : ∀ z ∈ f, ok z) (ho : ∀ z ∈ o, ok z) (gf : frs [] f) (go : frs [] o) (h : ∀ a b, Cn o a b → Cn f a b) : o.length ≤ f.length := by
  have a := parts_len P hf gf
  have b := parts_len P ho go
  have c := P.mono o f ho hf h
  omega
open Classical in
noncomputable def upto (l : List T) (w : Int) : List T := l.filter fun z => decide (z.2.2 ≤ w)
theorem mem_upto {l : List T} {w : Int} {z : T} : z ∈ upto l w ↔ z ∈ l ∧ z.2.2 ≤ w := by
  unfold upto
  simp
theorem kru_upto {s : List T} (h : Inc s) (w a b : Int) : Cn (upto s w) a b → Cn (upto (kru s) w) a b := by
  refine cn_sub fun z hz => ?_
  obtain ⟨k, m⟩ := mem_upto.1 hz
  by_cases hk : z ∈ kru s
  · exact cn_edge (mem_upto.2 ⟨hk, m⟩)
  · have q : Cn (blw s z) z.1 z.2.1 := by
      by_cases q : Cn (blw s z) z.1 z.2.1
      · exact q
      · exact absurd ((kru_iff h z).2 ⟨k, q⟩) hk
    rw [← kru_blw h] at q
    exact cn_mono (fun x hx => by
      obtain ⟨x1, x2⟩ := mem_blw.1 hx
      refine mem_upto.2 ⟨x1, ?_⟩
      unfold lt at x2
      omega) q
/-- Up to each weight a forest has no more edges than the least one. -/
theorem kru_most {cnt : List T → Nat} {ok : T → Prop} (P : Parts cnt ok) {s o : List T} (hs : Inc s) (ho : ∀ z ∈ s, ok z) (go : frs [] o) (hm : ∀ z ∈ o, z ∈ s) (w : Int) : (upto o w).length ≤ (upto (kru s) w).length := by
  refine frs_le P (fun z hz => ho z (kru_mem (mem_upto.1 hz).1)) (fun z hz => ho z (hm z (mem_upto.1 hz).1)) (frs_sub [] List.filter_sublist (grd_frs s [])) (frs_sub [] List.filter_sublist go) fun a b q => ?_
  refine kru_upto hs w a b (cn_mono (fun z hz => ?_) q)
  obtain ⟨k, m⟩ := mem_upto.1 hz
  exact mem_upto.2 ⟨hm z k, m⟩
theorem kru_size {cnt : List T → Nat} {ok : T → Prop} (P : Parts cnt ok) {s o : List T} (ho : ∀ z ∈ s, ok z) (go : frs [] o) (hm : ∀ z ∈ o, z ∈ s) (hl : ∀ z ∈ s, Cn o z.1 z.2.1) : o.length = (kru s).length := by
  have a := frs_le P (fun z hz => ho z (kru_mem hz)) (fun z hz => ho z (hm z hz)) (grd_frs s []) go fun a b q => (kru_cn a b).2 (cn_mono hm q)
  have b := frs_le P (fun z hz => ho z (hm z hz)) (fun z hz => ho z (kru_mem hz)) go (grd_frs s []) fun a b q => cn_sub hl ((kru_cn a b).1 q)
  unfold kru at *
  omega
def wsum (l : List T) : Int := (l.map fun z => z.2.2).sum
/-- Weights, counted by how many are greater. -/
def gts (l : List T) : Nat → Int
  | 0 => 0
  | n + 1 => gts l n + ((l.countP fun z => decide (z.2.2 > (n : Int))) : Nat)
theorem gts_nil : ∀ n, gts [] n = 0
  | 0 => rfl
  | n + 1 => by
    unfold gts
    rw [gts_nil n]
    rfl
theorem gts_cons (y : T) (l : List T) (h : 0 ≤ y.2.2) : ∀ n : Nat, gts (y :: l) n = gts l n + (if y.2.2 ≤ n then y.2.2 else n)
  | 0 => by
    unfold gts
    split <;> omega
  | n + 1 => by
    have := gts_cons y l h n
    unfold gts
    rw [this, List.countP_cons]
    by_cases q : y.2.2 > n
    · rw [if_neg (show ¬ y.2.2 ≤ (n : Int) by omega), decide_eq_true q]
      by_cases r : y.2.2 ≤ ((n + 1 : Nat) : Int)
      · rw [if_pos r]
        simp only [if_true]
        omega
      · rw [if_neg r]
        simp only [if_true]
        omega
    · rw [if_pos (show y.2.2 ≤ (n : Int) by omega), if_pos (show y.2.2 ≤ ((n + 1 : Nat) : Int) by omega), decide_eq_false q]
      simp only [Bool.false_eq_true, if_false]
      omega
theorem gts_sum (n : Nat) : ∀ l : List T, (∀ z ∈ l, 0 ≤ z.2.2 ∧ z.2.2 ≤ n) → gts l n = wsum l
  | [], _ => gts_nil n
  | y :: l, h => by
    have hy := h y (List.mem_cons_self ..)
    rw [gts_cons y l hy.1, gts_sum n l (fun z hz => h z (List.mem_cons_of_mem _ hz)), if_pos hy.2]
    unfold wsum
    rw [List.map_cons, List.sum_cons]
    omega
theorem gts_le {f o : List T} (h : ∀ n : Nat, (f.countP fun z => decide (z.2.2 > (n : Int))) ≤ o.countP fun z => decide (z.2.2 > (n : Int))) : ∀ n, gts f n ≤ gts o n
  | 0 => Int.le_refl _
  | n + 1 => by
    have := gts_le h n
    have := h n
    unfold gts
    omega
theorem upto_len (l : List T) (w : Int) : (upto l w).length + (l.countP fun z => decide (z.2.2 > w)) = l.length := by
  unfold upto
  rw [← List.countP_eq_length_filter]
  have := List.length_eq_countP_add_countP (fun z : T => decide (z.2.2 ≤ w)) (l := l)
  rw [this]
  congr 1
  refine List.countP_congr fun z _ => ?_
  simp
/-- The least forest weighs no more than another one that links all. -/
theorem kru_best {cnt : List T → Nat} {ok : T → Prop} (P : Parts cnt ok) {s o : List T} (hs : Inc s) (ho : ∀ z ∈ s, ok z) (N : Nat) (hw : ∀ z ∈ s, 0 ≤ z.2.2 ∧ z.2.2 ≤ N) (go : frs [] o) (hm : ∀ z ∈ o, z ∈ s) (hl : ∀ z ∈ s, Cn o z.1 z.2.1) : wsum (kru s) ≤ wsum o := by
  rw [← gts_sum N _ (fun z hz => hw z (kru_mem hz)), ← gts_sum N o (fun z hz => hw z (hm z hz))]
  refine gts_le (fun n => ?_) N
  have a := kru_most P hs ho go hm n
  have b := kru_size P ho go hm hl
  have c := upto_len (kru s) n
  have d := upto_len o n
  omega
/-- An edge of the least forest is lost: the least that links its sides comes in its place. -/
theorem kru_lose {cnt : List T → Nat} {ok : T → Prop} (P : Parts cnt ok) {s r kept : List T} {cut : T} (hs : Inc s) (hr : Inc r) (ho : ∀ z ∈ s, ok z) (hc : cut ∈ kru s) (mr : ∀ y, y ∈ r ↔ y ∈ s ∧ y ≠ cut) (mk : ∀ y, y ∈ kept ↔ y ∈ kru s ∧ y ≠ cut) (y : T) :
    y ∈ kru r ↔ y ∈ kept ∨ (y ∈ r ∧ ¬ Cn kept y.1 y.2.1 ∧ ∀ z ∈ r, ¬ Cn kept z.1 z.2.1 → z = y ∨ lt y z) := by
  have hcut : ¬ Cn kept cut.1 cut.2.1 := by
    classical
    have hnd : (kru s).Nodup := List.Pairwise.imp (R := lt) (S := fun x y => x ≠ y) (fun {x y} k e => lt_irr x (by rw [← e] at k; exact k)) (grd_inc [] hs)
    intro q
    refine frs_cut P (fun z hz => ho z (kru_mem hz)) (grd_frs s []) hc (k := (kru s).erase cut) List.erase_sublist ?_ (fun z hz => ?_) (cn_mono (fun z hz => ?_) q)
    · show ((kru s).erase cut).length < (kru s).length
      rw [List.length_erase_of_mem hc]
      have := List.length_pos_of_mem hc
      omega
    · by_cases e : z = cut
      · exact .inl e
      · exact .inr ((List.mem_erase_of_ne e).2 hz)
    · obtain ⟨a, b⟩ := (mk z).1 hz
      exact (List.mem_erase_of_ne b).2 a
  -- what is not chosen is linked ahead of it, by what is kept or over the edge that is lost
  have way : ∀ z ∈ s, z ∉ kru s → Cn (blw (cut :: kept) z) z.1 z.2.1 := by
    intro z hz hn
    have q : Cn (blw s z) z.1 z.2.1 := by
      by_cases q : Cn (blw s z) z.1 z.2.1
      · exact q
      · exact absurd ((kru_iff hs z).2 ⟨hz, q⟩) hn
    rw [← kru_blw hs] at q
    refine cn_mono (fun w hw => ?_) q
    obtain ⟨w1, w2⟩ := mem_blw.1 hw
    refine mem_blw.2 ⟨?_, w2⟩
    by_cases e : w = cut
    · rw [e]
      exact List.mem_cons_self ..
    · exact List.mem_cons_of_mem _ ((mk w).2 ⟨w1, e⟩)
  have bk : ∀ {z : T} {a b : Int}, Cn (blw kept z) a b → Cn kept a b := fun q => cn_mono (fun w hw => (mem_blw.1 hw).1) q
  have way2 : ∀ z ∈ s, z ∉ kru s → Cn (blw kept z) z.1 z.2.1 ∨ (lt cut z ∧ (Cn (blw kept z) z.1 cut.1 ∧ Cn (blw kept z) cut.2.1 z.2.1 ∨ Cn (blw kept z) z.1 cut.2.1 ∧ Cn (blw kept z) cut.1 z.2.1)) := by
    intro z hz hn
    have q := way z hz hn
    by_cases e : lt cut z
    · have : blw (cut :: kept) z = cut :: blw kept z := by
        unfold blw
        rw [List.filter_cons, if_pos (by simpa using e)]
      rw [this, cn_cons] at q
      rcases q with q | q | q
      · exact .inl q
      · exact .inr ⟨e, .inl q⟩
      · exact .inr ⟨e, .inr q⟩
    · have : blw (cut :: kept) z = blw kept z := by
        unfold blw
        rw [List.filter_cons, if_neg (by simpa using e)]
      rw [this] at q
      exact .inl q
  have rs : ∀ {z}, z ∈ r → z ∈ s := fun h => ((mr _).1 h).1
  have kr : ∀ z ∈ kept, z ∈ r := fun z hz => (mr z).2 ⟨kru_mem ((mk z).1 hz).1, ((mk z).1 hz).2⟩
  rw [kru_iff hr]
  constructor
  · rintro ⟨h1, h2⟩
    by_cases hk : y ∈ kept
    · exact .inl hk
    right
    have hn : y ∉ kru s := fun q => hk ((mk y).2 ⟨q, ((mr y).1 h1).2⟩)
    have up : ∀ {a b}, Cn (blw kept y) a b → Cn (blw r y) a b := fun q => cn_mono (fun w hw => by
      obtain ⟨w1, w2⟩ := mem_blw.1 hw
      exact mem_blw.2 ⟨kr w w1, w2⟩) q
    have q := way2 y (rs h1) hn
    have hq : lt cut y ∧ (Cn (blw kept y) y.1 cut.1 ∧ Cn (blw kept y) cut.2.1 y.2.1 ∨ Cn (blw kept y) y.1 cut.2.1 ∧ Cn (blw kept y) cut.1 y.2.1) := by
      rcases q with q | q
      · exact absurd (up q) h2
      · exact q
    refine ⟨h1, fun k => ?_, fun z hz hzn => ?_⟩
    · apply hcut
      rcases hq.2 with ⟨a, b⟩ | ⟨a, b⟩
      · exact cn_trans (cn_symm (bk a)) (cn_trans k (cn_symm (bk b)))
      · exact cn_symm (cn_trans (cn_symm (bk a)) (cn_trans k (cn_symm (bk b))))
    · by_cases e : z = y
      · exact .inl e
      right
      rcases lt_or e with e | e
      · exfalso
        have hzk : z ∉ kru s := fun q => hzn (cn_edge ((mk z).2 ⟨q, ((mr z).1 hz).2⟩))
        have hz2 : (Cn (blw kept z) z.1 cut.1 ∧ Cn (blw kept z) cut.2.1 z.2.1 ∨ Cn (blw kept z) z.1 cut.2.1 ∧ Cn (blw kept z) cut.1 z.2.1) := by
          rcases way2 z (rs hz) hzk with q | q
          · exact absurd (bk q) hzn
          · exact q.2
        have mv : ∀ {a b}, Cn (blw kept z) a b → Cn (blw r y) a b := fun q => cn_mono (fun w hw => by
          obtain ⟨w1, w2⟩ := mem_blw.1 hw
          exact mem_blw.2 ⟨kr w w1, lt_tr w2 e⟩) q
        have ze : Cn (blw r y) z.1 z.2.1 := cn_edge (mem_blw.2 ⟨hz, e⟩)
        have cc : Cn (blw r y) cut.1 cut.2.1 := by
          rcases hz2 with ⟨a, b⟩ | ⟨a, b⟩
          · exact cn_trans (cn_symm (mv a)) (cn_trans ze (cn_symm (mv b)))
          · exact cn_symm (cn_trans (cn_symm (mv a)) (cn_trans ze (cn_symm (mv b))))
        apply h2
        rcases hq.2 with ⟨a, b⟩ | ⟨a, b⟩
        · exact cn_trans (up a) (cn_trans cc (up b))
        · exact cn_trans (up a) (cn_trans (cn_symm cc) (up b))
      · exact e
  · rintro (h | ⟨h1, h2, h3⟩)
    · have hk := ((mk y).1 h).1
      refine ⟨kr y h, fun q => ((kru_iff hs y).1 hk).2 (cn_mono (fun w hw => ?_) q)⟩
      obtain ⟨w1, w2⟩ := mem_blw.1 hw
      exact mem_blw.2 ⟨rs w1, w2⟩
    · refine ⟨h1, fun q => h2 (cn_sub (fun w hw => ?_) q)⟩
      obtain ⟨w1, w2⟩ := mem_blw.1 hw
      by_cases k : Cn kept w.1 w.2.1
      · exact k
      · rcases h3 w w1 k with e | e
        · rw [e] at w2
          exact absurd w2 (lt_irr y)
        · exact absurd (lt_tr e w2) (lt_irr y)
end Go.Proofs.Ytakebkfhigadiaa.SpK
namespace Go.Proofs.Ytakebkfhigadiaa.SpT
open Go Go.Proofs.Ytakebkfhigadiaa.Ry Go.Proofs.Ytakebkfhigadiaa.So Go.Proofs.Ytakebkfhigadiaa.JoS Go.Proofs.Ytakebkfhigadiaa.JoR Go.Proofs.Ytakebkfhigadiaa.JoW Go.Proofs.Ytakebkfhigadiaa.EgR Go.Proofs.Ytakebkfhigadiaa.EgL Go.Proofs.Ytakebkfhigadiaa.SpR Go.Proofs.Ytakebkfhigadiaa.SpQ Go.Proofs.Ytakebkfhigadiaa.SpK

def nod (a : Int) : Prop := 1 ≤ a ∧ a ≤ 64
def okT (y : T) : Prop := nod y.1 ∧ nod y.2.1
structure Rel (W : List Int) (c : List T) : Prop where
  len : W.length = 65
  ok : WOk W
  cn : ∀ a b, nod a → nod b → (ix W a = ix W b ↔ Cn c a b)
theorem cn_nil {a b : Int} (h : Cn [] a b) : a = b := by
  cases h with
  | refl => rfl
  | one _ hy _ => cases hy
theorem rel_0 : Rel (iota 64) [] := ⟨by rw [iota_len]; rfl, (jinv_new 64 (by omega)).ok, fun a b ha hb => by
  unfold nod at ha hb
  rw [iota_ix 64 a (by omega) (by omega), iota_ix 64 b (by omega) (by omega)]
  exact ⟨fun e => e ▸ .refl, cn_nil⟩⟩
theorem lw_nod {W : List Int} (h : W.length = 65) {a : Int} (ha : nod a) : lw W a = ix W a := by
  unfold lw
  unfold nod at ha
  rw [if_pos (by omega)]
theorem ix_lo {W : List Int} {c : List T} (h : Rel W c) {a : Int} (ha : nod a) : 1 ≤ ix W a ∧ ix W a ≤ a ∧ ix W (ix W a) = ix W a := by
  have l := h.len
  unfold nod at ha
  exact ⟨h.ok.lo a ha.1 (by omega), h.ok.hi a ha.1 (by omega), h.ok.fix a ha.1 (by omega)⟩
theorem up_self {W : List Int} (h : WOk W) : Up W W := ⟨rfl, h.lo, h.hi, h.fix, fun _ _ _ => Iff.rfl⟩
theorem uni_not {W : List Int} {c : List T} (h : Rel W c) {y : T} (hy : okT y) (hc : ix W y.1 = ix W y.2.1) : uniW W y.1 y.2.1 = W := by
  unfold uniW
  rw [lw_nod h.len hy.1, lw_nod h.len hy.2, if_neg (by rw [hc]; omega)]
theorem uni_do {W : List Int} {c : List T} (h : Rel W c) {y : T} (hy : okT y) (hc : ix W y.1 ≠ ix W y.2.1) : ∃ lo hi, uniW W y.1 y.2.1 = join W lo hi ∧ 1 ≤ lo ∧ lo < hi ∧ hi < W.length ∧ ix W lo = lo ∧ ix W hi = hi ∧ (lo = ix W y.1 ∧ hi = ix W y.2.1 ∨ lo = ix W y.2.1 ∧ hi = ix W y.1) := by
  obtain ⟨a1, a2, a3⟩ := ix_lo h hy.1
  obtain ⟨b1, b2, b3⟩ := ix_lo h hy.2
  have l := h.len
  have n1 := hy.1
  have n2 := hy.2
  unfold nod at n1 n2
  unfold uniW
  rw [lw_nod h.len hy.1, lw_nod h.len hy.2, if_pos ⟨by omega, by omega, hc⟩]
  by_cases q : ix W y.1 < ix W y.2.1
  · rw [if_neg (by omega), if_pos q]
    exact ⟨_, _, rfl, a1, q, by omega, a3, b3, .inl ⟨rfl, rfl⟩⟩
  · rw [if_pos (by omega), if_neg q]
    exact ⟨_, _, rfl, b1, by omega, by omega, b3, a3, .inr ⟨rfl, rfl⟩⟩
theorem rel_uni {W : List Int} {c : List T} (h : Rel W c) {y : T} (hy : okT y) : Rel (uniW W y.1 y.2.1) (y :: c) := by
  have l := h.len
  by_cases hc : ix W y.1 = ix W y.2.1
  · rw [uni_not h hy hc]
    refine ⟨l, h.ok, fun a b ha hb => ?_⟩
    have k := (h.cn _ _ hy.1 hy.2).1 hc
    rw [h.cn a b ha hb, cn_cons]
    constructor
    · exact .inl
    · rintro (q | ⟨q1, q2⟩ | ⟨q1, q2⟩)
      · exact q
      · exact cn_trans q1 (cn_trans k q2)
      · exact cn_trans q1 (cn_trans (cn_symm k) q2)
  · obtain ⟨lo, hi, e, h1, h2, h3, h4, h5, h6⟩ := uni_do h hy hc
    obtain ⟨_, j2⟩ := join_up (up_self h.ok) h.ok h1 h2 h3 h4 h5
    have hlen : (join W lo hi).length = W.length := by unfold join; rw [List.length_map]
    rw [e]
    refine ⟨by rw [hlen, l], j2, fun a b ha hb => ?_⟩
    have hix : ∀ i : Int, nod i → ix (join W lo hi) i = if ix W i = hi then lo else ix W i := fun i hn => by
      unfold nod at hn
      exact ix_map W _ i (by omega) (by omega)
    rw [hix a ha, hix b hb, cn_cons, ← h.cn a b ha hb, ← h.cn a y.1 ha hy.1, ← h.cn y.2.1 b hy.2 hb, ← h.cn a y.2.1 ha hy.2, ← h.cn y.1 b hy.1 hb]
    split <;> split <;> omega
theorem rel_same {W : List Int} {c d : List T} (h : Rel W c) (e : ∀ a b, Cn c a b ↔ Cn d a b) : Rel W d := ⟨h.len, h.ok, fun a b ha hb => (h.cn a b ha hb).trans (e a b)⟩
theorem un_iff {W : List Int} {J : JT} {c : List T} (hJ : JOk W J) (h : Rel W c) {a b : Int} (ha : nod a) (hb : nod b) : unB J.u a b = true ↔ ¬ Cn c a b := by
  have l := h.len
  have a1 := (ix_lo h ha).1
  have b1 := (ix_lo h hb).1
  rw [(jinv_unite hJ.2 (by omega) a b).2.1, decide_eq_true_eq, lw_nod h.len ha, lw_nod h.len hb, ← h.cn a b ha hb]
  omega
theorem cn_drop {c : List T} {y : T} (h : Cn c y.1 y.2.1) (a b : Int) : Cn (y :: c) a b ↔ Cn c a b := ⟨cn_sub fun z hz => by
  rcases List.mem_cons.1 hz with rfl | hz
  · exact h
  · exact cn_edge hz, cn_mono fun _ hz => List.mem_cons_of_mem _ hz⟩
theorem rel_jF {W : List Int} {J : JT} {c : List T} (hJ : JOk W J) (h : Rel W c) {y : E} (hy : okT (trE y)) : JOk (uniW W (ri y 0) (ri y 1)) (jF J y) ∧ Rel (uniW W (ri y 0) (ri y 1)) (trE y :: c) := ⟨jF_ok hJ y, rel_uni h hy⟩
/-- The code's choice is the greedy one. -/
theorem ls_grd : ∀ (s : List E) {W : List Int} {J : JT} {c : List T}, JOk W J → Rel W c → (∀ y ∈ s, okT (trE y)) → (lsF J s).map trE = grd c (s.map trE)
  | [], _, _, _, _, _, _ => rfl
  | y :: s, W, J, c, hJ, h, hs => by
    have hy := hs y (List.mem_cons_self ..)
    have ht := fun z hz => hs z (List.mem_cons_of_mem _ hz)
    obtain ⟨k1, k2⟩ := rel_jF hJ h hy
    have hu : unB J.u (ri y 0) (ri y 1) = true ↔ ¬ Cn c (trE y).1 (trE y).2.1 := un_iff hJ h hy.1 hy.2
    rw [List.map_cons]
    unfold grd lsF
    by_cases q : Cn c (trE y).1 (trE y).2.1
    · rw [if_pos q, if_neg (by rw [hu]; exact fun g => g q)]
      exact ls_grd s k1 (rel_same k2 (cn_drop q)) ht
    · rw [if_neg q, if_pos (hu.2 q), List.map_cons, ls_grd s k1 k2 ht]
      rfl
theorem for_frs : ∀ (s : List E) {W : List Int} {J : JT} {c : List T}, JOk W J → Rel W c → (∀ y ∈ s, okT (trE y)) → (forF J s = true ↔ frs c (s.map trE))
  | [], _, _, _, _, _, _ => ⟨fun _ => trivial, fun _ => rfl⟩
  | y :: s, W, J, c, hJ, h, hs => by
    have hy := hs y (List.mem_cons_self ..)
    have ht := fun z hz => hs z (List.mem_cons_of_mem _ hz)
    obtain ⟨k1, k2⟩ := rel_jF hJ h hy
    have hu : unB J.u (ri y 0) (ri y 1) = true ↔ ¬ Cn c (trE y).1 (trE y).2.1 := un_iff hJ h hy.1 hy.2
    have ih := for_frs s k1 k2 ht
    rw [List.map_cons]
    unfold frs forF
    by_cases q : Cn c (trE y).1 (trE y).2.1
    · rw [if_neg (by rw [hu]; exact fun g => g q)]
      exact ⟨fun g => (by cases g), fun g => absurd q g.1⟩
    · rw [if_pos (hu.2 q), ih]
      exact ⟨fun g => ⟨q, g⟩, fun g => g.2⟩
theorem fold_rel : ∀ (s : List E) {W : List Int} {J : JT} {c : List T}, JOk W J → Rel W c → (∀ y ∈ s, okT (trE y)) → ∃ V, JOk V (s.foldl jF J) ∧ Rel V ((s.map trE).reverse ++ c)
  | [], W, _, _, hJ, h, _ => ⟨W, hJ, h⟩
  | y :: s, W, J, c, hJ, h, hs => by
    obtain ⟨k1, k2⟩ := rel_jF hJ h (hs y (List.mem_cons_self ..))
    obtain ⟨V, v1, v2⟩ := fold_rel s k1 k2 fun z hz => hs z (List.mem_cons_of_mem _ hz)
    refine ⟨V, v1, ?_⟩
    rw [List.map_cons, List.reverse_cons, List.append_assoc]
    exact v2
theorem same_iff {l : List E} (hs : ∀ y ∈ l, okT (trE y)) (a b : Int) : sameB (jJ l).u a b = true ↔ nod a ∧ nod b ∧ Cn (l.map trE) a b := by
  obtain ⟨V, v1, v2⟩ := fold_rel l j0_ok rel_0 hs
  rw [List.append_nil] at v2
  have v2 := rel_same v2 (d := l.map trE) (cn_same fun y => by rw [List.mem_reverse])
  have v1 : JOk V (jJ l) := v1
  have len := v2.len
  obtain ⟨p1, p2⟩ := lst_w v1.2.up a
  obtain ⟨p3, _⟩ := lst_w p2 b
  have hz : ∀ i, lw V i = if 1 ≤ i ∧ i ≤ 64 then ix V i else 0 := fun i => by
    unfold lw
    rw [len]
    by_cases q : 1 ≤ i ∧ i ≤ 64
    · rw [if_pos q, if_pos (by omega)]
    · rw [if_neg q, if_neg (by omega)]
  unfold sameB
  rw [decide_eq_true_eq, p1, p3, hz, hz]
  by_cases ha : nod a
  · have a1 := (ix_lo v2 ha).1
    rw [if_pos (show 1 ≤ a ∧ a ≤ 64 from ha)]
    by_cases hb : nod b
    · rw [if_pos (show 1 ≤ b ∧ b ≤ 64 from hb), v2.cn a b ha hb]
      exact ⟨fun g => ⟨ha, hb, g.2⟩, fun g => ⟨by omega, g.2.2⟩⟩
    · rw [if_neg (show ¬ (1 ≤ b ∧ b ≤ 64) from hb)]
      exact ⟨fun g => absurd g.2 g.1, fun g => absurd g.2.1 hb⟩
  · rw [if_neg (show ¬ (1 ≤ a ∧ a ≤ 64) from ha)]
    exact ⟨fun g => absurd rfl g.1, fun g => absurd g.1 ha⟩
/-- How many parts edges leave. -/
def wOf (c : List T) : List Int := c.foldr (fun y W => uniW W y.1 y.2.1) (iota 64)
theorem wof_rel : ∀ c : List T, (∀ z ∈ c, okT z) → Rel (wOf c) c
  | [], _ => rel_0
  | y :: c, h => rel_uni (wof_rel c fun z hz => h z (List.mem_cons_of_mem _ hz)) (h y (List.mem_cons_self ..))
theorem parts : SpK.Parts (fun c => sets (wOf c)) okT := by
  refine ⟨fun c y hc hy hn => ?_, fun c d hc hd h => ?_⟩
  · have r := wof_rel c hc
    obtain ⟨lo, hi, e, h1, h2, h3, h4, h5, h6⟩ := uni_do r hy (fun q => hn ((r.cn _ _ hy.1 hy.2).1 q))
    have e2 : wOf (y :: c) = join (wOf c) lo hi := e
    show sets (wOf (y :: c)) + 1 = _
    rw [e2]
    exact join_sets r.ok h1 h2 h3 h5
  · have rc := wof_rel c hc
    have rd := wof_rel d hd
    show sets (wOf d) ≤ sets (wOf c)
    unfold sets
    rw [rc.len, rd.len]
    refine List.countP_mono_left fun i hi q => ?_
    have hi := List.mem_range.1 hi
    simp only [decide_eq_true_eq] at q ⊢
    have ni : nod i := ⟨q.1, by omega⟩
    obtain ⟨a1, a2, a3⟩ := ix_lo rc ni
    have nr : nod (ix (wOf c) i) := by unfold nod at *; omega
    have g := (rd.cn _ _ nr ni).2 (h _ _ ((rc.cn _ _ nr ni).1 a3))
    have b2 := (ix_lo rd nr).2.1
    omega
/-- Which nodes are marked. -/
abbrev mk (M : List E) (i : Nat) : Bool := rb (M.getD i []) 0
def num (M : List E) : Nat := (List.range 65).countP (mk M)
theorem countP_eq_all {α : Type} {p q : α → Bool} : ∀ {l : List α}, (∀ x ∈ l, p x = true → q x = true) → l.countP q ≤ l.countP p → ∀ x ∈ l, q x = true → p x = true
  | [], _, _, x, hx, _ => by cases hx
  | y :: l, h, e, x, hx, hq => by
    have hl := fun z hz => h z (List.mem_cons_of_mem _ hz)
    have m : l.countP p ≤ l.countP q := List.countP_mono_left hl
    rw [List.countP_cons, List.countP_cons] at e
    have hy := h y (List.mem_cons_self ..)
    have e2 : l.countP q ≤ l.countP p ∧ (q y = true → p y = true) := by
      cases hp : p y <;> cases hq2 : q y <;> simp_all <;> omega
    rcases List.mem_cons.1 hx with rfl | hx
    · exact e2.2 hq
    · exact countP_eq_all hl e2.1 x hx hq
theorem st_mk {M : List E} (hM : M.length = 65) {y : E} (hy : okT (trE y)) (i : Nat) : mk (rSt M y) i = true ↔ mk M i = true ∨ ((mk M (ri y 0).toNat = true ∨ mk M (ri y 1).toNat = true) ∧ (i = (ri y 0).toNat ∨ i = (ri y 1).toNat)) := by
  obtain ⟨h1, h2⟩ := hy
  have h1 : nod (ri y 0) := h1
  have h2 : nod (ri y 1) := h2
  unfold nod at h1 h2
  unfold rSt
  split
  · rename_i q
    show rb _ 0 = true ↔ _
    rw [rb_set _ _ _ (by rw [List.length_set]; omega), rb_set _ _ _ (by omega)]
    constructor
    · rintro (e | e | e)
      · exact .inr ⟨q, .inr e⟩
      · exact .inr ⟨q, .inl e⟩
      · exact .inl e
    · rintro (e | ⟨_, e | e⟩)
      · exact .inr (.inr e)
      · exact .inr (.inl e)
      · exact .inl e
  · rename_i q
    exact ⟨.inl, fun e => e.elim id fun e => absurd e.1 q⟩
theorem ps_mono : ∀ (l : List E) {M : List E}, M.length = 65 → (∀ y ∈ l, okT (trE y)) → ∀ i, mk M i = true → mk (rPs l M) i = true
  | [], _, _, _, _, h => h
  | y :: l, M, hM, hl, i, h => ps_mono l (by rw [st_len, hM]) (fun z hz => hl z (List.mem_cons_of_mem _ hz)) i ((st_mk hM (hl y (List.mem_cons_self ..)) i).2 (.inl h))
def shut (l : List E) (M : List E) : Prop := ∀ y ∈ l, (mk M (ri y 0).toNat = true ↔ mk M (ri y 1).toNat = true)
theorem num_mono {M K : List E} (h : ∀ i, mk M i = true → mk K i = true) : num M ≤ num K := List.countP_mono_left fun i _ => h i
/-- A pass that marks no more leaves all shut. -/
theorem ps_shut : ∀ (l : List E) {M : List E}, M.length = 65 → (∀ y ∈ l, okT (trE y)) → num (rPs l M) ≤ num M → shut l M
  | [], _, _, _, _ => fun _ h => by cases h
  | y :: l, M, hM, hl, h => by
    have hy := hl y (List.mem_cons_self ..)
    have ht := fun z hz => hl z (List.mem_cons_of_mem _ hz)
    have m1 := ps_mono l (M := rSt M y) (by rw [st_len, hM]) ht
    have m0 : ∀ i, mk M i = true → mk (rSt M y) i = true := fun i k => (st_mk hM hy i).2 (.inl k)
    have n1 := num_mono m1
    have n0 := num_mono m0
    have h : num (rPs l (rSt M y)) ≤ num M := h
    have same : ∀ i, i < 65 → (mk (rSt M y) i = true ↔ mk M i = true) := fun i hi => ⟨countP_eq_all (fun x _ => m0 x) (show num (rSt M y) ≤ num M by omega) i (List.mem_range.2 hi), m0 i⟩
    have ih := ps_shut l (M := rSt M y) (by rw [st_len, hM]) ht (by omega)
    intro z hz
    rcases List.mem_cons.1 hz with rfl | hz
    · have k1 := hy.1
      have k2 := hy.2
      have k1 : nod (ri z 0) := k1
      have k2 : nod (ri z 1) := k2
      unfold nod at k1 k2
      constructor
      · exact fun g => (same _ (by omega)).1 ((st_mk hM hy _).2 (.inr ⟨.inl g, .inr rfl⟩))
      · exact fun g => (same _ (by omega)).1 ((st_mk hM hy _).2 (.inr ⟨.inr g, .inl rfl⟩))
    · have k1 := (ht z hz).1
      have k2 := (ht z hz).2
      have k1 : nod (ri z 0) := k1
      have k2 : nod (ri z 1) := k2
      unfold nod at k1 k2
      rw [← same _ (by omega), ← same (ri z 1).toNat (by omega)]
      exact ih z hz
theorem shut_st {M : List E} (hM : M.length = 65) {y : E} (hy : okT (trE y)) (h : mk M (ri y 0).toNat = true ↔ mk M (ri y 1).toNat = true) (i : Nat) : mk (rSt M y) i = true ↔ mk M i = true := by
  rw [st_mk hM hy]
  constructor
  · rintro (e | ⟨e, rfl | rfl⟩)
    · exact e
    · exact e.elim id h.2
    · exact e.elim h.1 id
  · exact .inl
theorem shut_ps : ∀ (l : List E) {M : List E}, M.length = 65 → (∀ y ∈ l, okT (trE y)) → shut l M → ∀ i, mk (rPs l M) i = true ↔ mk M i = true
  | [], _, _, _, _, _ => Iff.rfl
  | y :: l, M, hM, hl, h, i => by
    have e := shut_st hM (hl y (List.mem_cons_self ..)) (h y (List.mem_cons_self ..))
    have ih := shut_ps l (M := rSt M y) (by rw [st_len, hM]) (fun z hz => hl z (List.mem_cons_of_mem _ hz)) (fun z hz => by rw [e, e]; exact h z (List.mem_cons_of_mem _ hz)) i
    exact ih.trans (e i)
theorem bas_mk {f : Int} (hf : nod f) (i : Nat) : mk (bas f) i = true ↔ i = f.toNat := by
  unfold bas zer
  unfold nod at hf
  show rb _ 0 = true ↔ _
  rw [rb_set _ _ _ (by rw [List.length_replicate]; omega)]
  constructor
  · rintro (e | e)
    · exact e
    · rw [List.getD_eq_getElem?_getD, List.getElem?_replicate] at e
      split at e <;> simp [rb] at e
  · exact .inl
theorem it_mk (l : List E) (hl : ∀ y ∈ l, okT (trE y)) {f : Int} (hf : nod f) : ∀ k, shut l (rIt l k (bas f)) ∨ k + 1 ≤ num (rIt l k (bas f))
  | 0 => by
    right
    show 0 < List.countP _ _
    rw [List.countP_pos_iff]
    unfold nod at hf
    exact ⟨f.toNat, List.mem_range.2 (by omega), (bas_mk hf _).2 rfl⟩
  | k + 1 => by
    have hM : (rIt l k (bas f)).length = 65 := by rw [it_len, bas_len]
    have s := fun q => shut_ps l hM hl q
    unfold rIt
    by_cases q : shut l (rIt l k (bas f))
    · left
      intro z hz
      rw [s q, s q]
      exact q z hz
    · right
      have ih := (it_mk l hl hf k).resolve_left q
      have n : ¬ num (rPs l (rIt l k (bas f))) ≤ num (rIt l k (bas f)) := fun g => q (ps_shut l hM hl g)
      omega
theorem it_sound (l : List E) (hl : ∀ y ∈ l, okT (trE y)) {f : Int} : ∀ (k : List E), (∀ y ∈ k, y ∈ l) → ∀ {M : List E}, M.length = 65 → (∀ i : Nat, mk M i = true → Cn (l.map trE) f i) → ∀ i : Nat, mk (rPs k M) i = true → Cn (l.map trE) f i
  | [], _, _, _, h => h
  | y :: k, hk, M, hM, h => by
    have my := hk y (List.mem_cons_self ..)
    have hy := hl y my
    refine it_sound l hl k (fun z hz => hk z (List.mem_cons_of_mem _ hz)) (M := rSt M y) (by rw [st_len, hM]) fun i q => ?_
    have k1 : nod (ri y 0) := hy.1
    have k2 : nod (ri y 1) := hy.2
    have c1 : Cn (l.map trE) (ri y 0) (ri y 1) := cn_edge (y := trE y) (List.mem_map_of_mem my)
    unfold nod at k1 k2
    have t1 : (((ri y 0).toNat : Nat) : Int) = ri y 0 := by omega
    have t2 : (((ri y 1).toNat : Nat) : Int) = ri y 1 := by omega
    rcases (st_mk hM hy i).1 q with q | ⟨q | q, e | e⟩
    · exact h i q
    · rw [e, t1]
      have := h _ q
      rw [t1] at this
      exact this
    · rw [e, t2]
      have := h _ q
      rw [t1] at this
      exact cn_trans this c1
    · rw [e, t1]
      have := h _ q
      rw [t2] at this
      exact cn_trans this (cn_symm c1)
    · rw [e, t2]
      have := h _ q
      rw [t2] at this
      exact this
theorem it_sound2 (l : List E) (hl : ∀ y ∈ l, okT (trE y)) {f : Int} (hf : nod f) : ∀ (k i : Nat), mk (rIt l k (bas f)) i = true → Cn (l.map trE) f i
  | 0, i, q => by
    have e := (bas_mk hf i).1 q
    unfold nod at hf
    have : (i : Int) = f := by omega
    rw [this]
    exact .refl
  | k + 1, i, q => it_sound l hl l (fun _ h => h) (by rw [it_len, bas_len]) (it_sound2 l hl hf k) i q
/-- What is reached is what is linked. -/
theorem rea_iff {l : List E} (hl : ∀ y ∈ l, okT (trE y)) {f b : Int} (hf : nod f) (hb : nod b) : rb ((reaB l f).getD b.toNat []) 0 = true ↔ Cn (l.map trE) f b := by
  have e : reaB l f = rIt l 64 (bas f) := by
    unfold reaB
    rw [if_pos (show nodB f = true from decide_eq_true (show 1 ≤ f ∧ f ≤ 64 from hf))]
  have hM : (rIt l 64 (bas f)).length = 65 := by rw [it_len, bas_len]
  rw [e]
  unfold nod at hb
  constructor
  · intro q
    have := it_sound2 l hl hf 64 b.toNat q
    rw [show ((b.toNat : Nat) : Int) = b by omega] at this
    exact this
  · have hs : shut l (rIt l 64 (bas f)) := by
      rcases it_mk l hl hf 64 with q | q
      · exact q
      · have all : ∀ i, i < 65 → mk (rIt l 64 (bas f)) i = true := fun i hi => by
          have := List.countP_eq_length (p := mk (rIt l 64 (bas f))) (l := List.range 65)
          have hle := List.countP_le_length (p := mk (rIt l 64 (bas f))) (l := List.range 65)
          unfold num at q
          rw [List.length_range] at this hle
          exact this.1 (by omega) i (List.mem_range.2 hi)
        intro z hz
        have k1 : nod (ri z 0) := (hl z hz).1
        have k2 : nod (ri z 1) := (hl z hz).2
        unfold nod at k1 k2
        exact ⟨fun _ => all _ (by omega), fun _ => all _ (by omega)⟩
    have hbase : ∀ k, mk (rIt l k (bas f)) f.toNat = true := by
      intro k
      induction k with
      | zero => exact (bas_mk hf _).2 rfl
      | succ k ih => exact ps_mono l (by rw [it_len, bas_len]) hl _ ih
    intro q
    suffices h : ∀ c, Cn (l.map trE) f c → mk (rIt l 64 (bas f)) c.toNat = true from h b q
    intro c q
    induction q with
    | refl => exact hbase 64
    | one _ hy e ih =>
      obtain ⟨z, hz, rfl⟩ := List.mem_map.1 hy
      rcases e with ⟨e1, e2⟩ | ⟨e1, e2⟩
      · have e1 : ri z 0 = _ := e1
        have e2 : ri z 1 = _ := e2
        rw [← e2]
        rw [← e1] at ih
        exact (hs z hz).1 ih
      · have e1 : ri z 1 = _ := e1
        have e2 : ri z 0 = _ := e2
        rw [← e2]
        rw [← e1] at ih
        exact (hs z hz).2 ih
theorem lk_iff {l : List E} (hl : ∀ y ∈ l, okT (trE y)) (a b : Int) : lkR l a b = true ↔ nod a ∧ nod b ∧ Cn (l.map trE) a b := by
  unfold lkR
  rw [Bool.and_eq_true, Bool.and_eq_true]
  constructor
  · rintro ⟨h1, h2, h3⟩
    have ha : nod a := (of_decide_eq_true h1 : 1 ≤ a ∧ a ≤ 64)
    have hb : nod b := (of_decide_eq_true h2 : 1 ≤ b ∧ b ≤ 64)
    exact ⟨ha, hb, (rea_iff hl ha hb).1 h3⟩
  · rintro ⟨ha, hb, h⟩
    exact ⟨decide_eq_true (show 1 ≤ a ∧ a ≤ 64 from ha), decide_eq_true (show 1 ≤ b ∧ b ≤ 64 from hb), (rea_iff hl ha hb).2 h⟩
theorem frs_iff : ∀ (l c : List T), frs c l ↔ ∀ i (h : i < l.length), ¬ Cn (l.take i ++ c) l[i].1 l[i].2.1
  | [], _ => ⟨fun _ _ h => absurd h (Nat.not_lt_zero _), fun _ => trivial⟩
  | y :: l, c => by
    unfold frs
    rw [frs_iff l (y :: c)]
    have e : ∀ i a b, Cn ((y :: l).take (i + 1) ++ c) a b ↔ Cn (l.take i ++ (y :: c)) a b := fun i a b => cn_same (fun w => by
      simp only [List.take_succ_cons, List.mem_append, List.mem_cons]
      constructor
      · rintro ((h | h) | h)
        · exact .inr (.inl h)
        · exact .inl h
        · exact .inr (.inr h)
      · rintro (h | h | h)
        · exact .inl (.inr h)
        · exact .inl (.inl h)
        · exact .inr h) a b
    constructor
    · rintro ⟨h1, h2⟩ i hi
      cases i with
      | zero => exact h1
      | succ i =>
        rw [e]
        exact h2 i (by simpa using hi)
    · intro h
      refine ⟨h 0 (Nat.zero_lt_succ _), fun i hi => ?_⟩
      rw [← e]
      exact h (i + 1) (by simpa using hi)
theorem rf_iff {l : List E} (hl : ∀ y ∈ l, okT (trE y)) : rfB l = true ↔ frs [] (l.map trE) := by
  rw [frs_iff]
  unfold rfB
  rw [List.all_eq_true]
  have key : ∀ i (h : i < l.length), (!atR l i) = true ↔ ¬ Cn ((l.map trE).take i ++ []) ((l.map trE)[i]'(by rw [List.length_map]; exact h)).1 ((l.map trE)[i]'(by rw [List.length_map]; exact h)).2.1 := by
    intro i h
    have eg : l.getD i [] = l[i] := by rw [List.getD_eq_getElem?_getD, List.getElem?_eq_getElem h]; rfl
    have hi := hl l[i] (List.getElem_mem h)
    unfold atR
    rw [eg, List.append_nil, List.getElem_map, ← List.map_take, Bool.not_eq_true', ← Bool.not_eq_true, lk_iff fun y hy => hl y (List.mem_of_mem_take hy)]
    exact ⟨fun g q => g ⟨hi.1, hi.2, q⟩, fun g q => g q.2.2⟩
  exact ⟨fun g i h => (key i (by rw [List.length_map] at h; exact h)).1 (g i (List.mem_range.2 (by rw [List.length_map] at h; exact h))), fun g i h => (key i (List.mem_range.1 h)).2 (g i (by rw [List.length_map]; exact List.mem_range.1 h))⟩
/-- The answer's choice. -/
def rlF : List E → List E → List E
  | o, [] => o
  | o, y :: s => if lkR o (ri y 0) (ri y 1) = true then rlF o s else rlF (o ++ [e3 y]) s
theorem grd_congr : ∀ (s : List T) {c d : List T}, (∀ a b, Cn c a b ↔ Cn d a b) → grd c s = grd d s
  | [], _, _, _ => rfl
  | y :: s, c, d, h => by
    unfold grd
    have h2 : ∀ a b, Cn (y :: c) a b ↔ Cn (y :: d) a b := fun a b => by
      rw [cn_cons, cn_cons, h, h, h, h, h]
    rw [grd_congr s h, grd_congr s h2]
    by_cases q : Cn c y.1 y.2.1
    · rw [if_pos q, if_pos ((h _ _).1 q)]
    · rw [if_neg q, if_neg (fun g => q ((h _ _).2 g))]
theorem rl_grd : ∀ (s o : List E), (∀ y ∈ s, okT (trE y)) → (∀ y ∈ o, okT (trE y)) → (rlF o s).map trE = o.map trE ++ grd (o.map trE) (s.map trE)
  | [], o, _, _ => by
    show o.map trE = _ ++ []
    rw [List.append_nil]
  | y :: s, o, hs, ho => by
    have hy := hs y (List.mem_cons_self ..)
    have ht := fun z hz => hs z (List.mem_cons_of_mem _ hz)
    have e3t : trE (e3 y) = trE y := rfl
    have hk := lk_iff ho (ri y 0) (ri y 1)
    rw [List.map_cons]
    unfold rlF grd
    by_cases q : Cn (o.map trE) (trE y).1 (trE y).2.1
    · rw [if_pos q, if_pos (hk.2 ⟨hy.1, hy.2, q⟩)]
      exact rl_grd s o ht ho
    · rw [if_neg q, if_neg (fun g => q (hk.1 g).2.2), rl_grd s (o ++ [e3 y]) ht (fun z hz => by
        rcases List.mem_append.1 hz with hz | hz
        · exact ho z hz
        · rw [List.mem_singleton.1 hz]
          exact hy)]
      rw [List.map_append, List.map_cons, List.map_nil, e3t, List.append_assoc]
      congr 1
      show trE y :: _ = _
      congr 1
      exact grd_congr _ (cn_same fun w => by
        simp only [List.mem_append, List.mem_cons, List.not_mem_nil, or_false]
        exact Or.comm)
/-- Sorting by swaps. -/
abbrev at3 (s : List E) (i : Nat) : T := trE (s.getD i [])
theorem ls_lt (x y : E) : lsY x y = true ↔ lt (trE x) (trE y) := by
  unfold lsY lsW lt trE
  simp only
  split
  · rw [decide_eq_true_eq]
    omega
  · rw [decide_eq_true_eq]
    omega
theorem sw_at {s : List E} {j : Nat} (h : j + 1 < s.length) (i : Nat) : at3 (swS s j) i = if i = j then at3 s (j + 1) else if i = j + 1 then at3 s j else at3 s i := by
  have g : ∀ (l : List E) (k : Nat) (x : E) (i : Nat), k < l.length → (l.set k x).getD i [] = if i = k then x else l.getD i [] := by
    intro l k x i hk
    rw [List.getD_eq_getElem?_getD, List.getD_eq_getElem?_getD, List.getElem?_set]
    by_cases e : k = i
    · rw [if_pos e, if_pos hk, if_pos e.symm]
      rfl
    · rw [if_neg e, if_neg (fun q => e q.symm)]
  unfold at3 swS
  rw [g _ _ _ _ (by rw [List.length_set]; omega), g _ _ _ _ h]
  by_cases e : i = j
  · rw [if_pos e, if_pos e]
    rfl
  · rw [if_neg e, if_neg e]
    by_cases e2 : i = j + 1
    · rw [if_pos e2, if_pos e2]
      rfl
    · rw [if_neg e2, if_neg e2]
theorem sw_perm {s : List E} {j : Nat} (h : j + 1 < s.length) : ((swS s j).map trE).Perm (s.map trE) := by
  have ej : s.getD j [] = s[j] := by rw [List.getD_eq_getElem?_getD, List.getElem?_eq_getElem (by omega)]; rfl
  have ek : s.getD (j + 1) [] = s[j + 1] := by rw [List.getD_eq_getElem?_getD, List.getElem?_eq_getElem h]; rfl
  unfold swS
  rw [List.map_set, List.map_set, ej, ek]
  have hp := List.set_set_perm («as» := s.map trE) (i := j + 1) (j := j) (by simpa using h) (by simp; omega)
  rw [List.getElem_map, List.getElem_map] at hp
  exact hp
def part (n j : Nat) (s : List E) : Prop := ∀ i k, i < k → k ≤ n → k ≠ j → ¬ lt (at3 s k) (at3 s i)
theorem in_ok {n : Nat} : ∀ (j : Nat) (s : List E), j ≤ n → n < s.length → part n j s → ((inF j s).map trE).Perm (s.map trE) ∧ ∀ i k, i < k → k ≤ n → ¬ lt (at3 (inF j s) k) (at3 (inF j s) i)
  | 0, s, _, _, h => ⟨List.Perm.refl _, fun i k h1 h2 => h i k h1 h2 (by omega)⟩
  | j + 1, s, hj, hn, h => by
    unfold inF
    split
    · rename_i q
      rw [ls_lt] at q
      have q : lt (at3 s (j + 1)) (at3 s j) := q
      have sw := sw_at (s := s) (j := j) (by omega)
      obtain ⟨a, b⟩ := in_ok (n := n) j (swS s j) (by omega) (by rw [SpQ.sw_len]; exact hn) (fun i k h1 h2 h3 => by
        rw [sw, sw]
        by_cases k1 : k = j + 1
        · rw [if_neg h3, if_pos k1]
          by_cases i1 : i = j
          · rw [if_pos i1]
            exact fun g => lt_irr _ (lt_tr g q)
          · rw [if_neg i1, if_neg (by omega)]
            exact h i j (by omega) (by omega) (by omega)
        · rw [if_neg h3, if_neg k1]
          by_cases i1 : i = j
          · rw [if_pos i1]
            exact h (j + 1) k (by omega) h2 k1
          · rw [if_neg i1]
            by_cases i2 : i = j + 1
            · rw [if_pos i2]
              exact h j k (by omega) h2 k1
            · rw [if_neg i2]
              exact h i k h1 h2 k1)
      exact ⟨a.trans (sw_perm (by omega)), b⟩
    · rename_i q
      rw [ls_lt] at q
      have q : ¬ lt (at3 s (j + 1)) (at3 s j) := q
      refine ⟨List.Perm.refl _, fun i k h1 h2 => ?_⟩
      by_cases k1 : k = j + 1
      · subst k1
        by_cases i1 : i = j
        · rw [i1]
          exact q
        · have g := h i j (by omega) (by omega) (by omega)
          unfold lt at *
          omega
      · exact h i k h1 h2 k1
theorem ou_ok (l : List E) : ∀ i, i ≤ l.length → ((ouF l i).map trE).Perm (l.map trE) ∧ ∀ p k, p < k → k < i → ¬ lt (at3 (ouF l i) k) (at3 (ouF l i) p)
  | 0, _ => ⟨List.Perm.refl _, fun _ _ _ h => absurd h (Nat.not_lt_zero _)⟩
  | i + 1, hi => by
    obtain ⟨a, b⟩ := ou_ok l i (by omega)
    unfold ouF
    obtain ⟨c, d⟩ := in_ok (n := i) i (ouF l i) (Nat.le_refl _) (by rw [ou_len]; omega) (fun p k h1 h2 h3 => b p k h1 (by omega))
    exact ⟨c.trans a, fun p k h1 h2 => d p k h1 (by omega)⟩
theorem rs_ok (l : List E) : ((rsB l).map trE).Perm (l.map trE) ∧ ((rsB l).map trE).Pairwise fun x y => ¬ lt y x := by
  obtain ⟨a, b⟩ := ou_ok l l.length (Nat.le_refl _)
  refine ⟨a, ?_⟩
  rw [List.pairwise_iff_getElem]
  intro i k hi hk h
  have hl : (rsB l).length = l.length := ou_len l _
  rw [List.length_map, hl] at hi hk
  have g := b i k h hk
  have e : ∀ {p : Nat} (hp : p < l.length), at3 (ouF l l.length) p = ((rsB l).map trE)[p]'(by rw [List.length_map, hl]; exact hp) := fun {p} hp => by
    unfold at3
    rw [List.getElem_map, List.getD_eq_getElem?_getD, List.getElem?_eq_getElem (show p < (ouF l l.length).length by rw [ou_len]; exact hp)]
    rfl
  rw [e hi, e hk] at g
  exact g
theorem rs_srt (l : List E) : (rsB l).map trE = (srtE l).map trE := by
  obtain ⟨a1, a2⟩ := srt_tr l
  obtain ⟨b1, b2⟩ := rs_ok l
  refine List.Perm.eq_of_pairwise (fun x y _ _ g1 g2 => ?_) b2 a2 (b1.trans a1.symm)
  obtain ⟨x1, x2, x3⟩ := x
  obtain ⟨y1, y2, y3⟩ := y
  simp only [lt] at g1 g2
  simp only [Prod.mk.injEq]
  omega
end Go.Proofs.Ytakebkfhigadiaa.SpT
