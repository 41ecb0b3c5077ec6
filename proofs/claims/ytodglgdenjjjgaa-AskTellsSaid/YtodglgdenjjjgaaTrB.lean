/-
  How ways are found: from an end on, node by node. No condition.
-/
import Derived.Test.YtodglgdenjjjgaaTrK
namespace Go.Proofs.Ytodglgdenjjjgaa.TrB
open Go Go.Proofs.Ytodglgdenjjjgaa.Ry Go.Proofs.Ytodglgdenjjjgaa.So Go.Proofs.Ytodglgdenjjjgaa.JoS Go.Proofs.Ytodglgdenjjjgaa.EgR Go.Proofs.Ytodglgdenjjjgaa.EgL Go.Proofs.Ytodglgdenjjjgaa.SpK Go.Proofs.Ytodglgdenjjjgaa.SpT Go.Proofs.Ytodglgdenjjjgaa.SpN Go.Proofs.Ytodglgdenjjjgaa.TrK

structure BT where
  h : List Int
  m : List Int
def ot (y : E) (c : Int) : Int := othE (ri y 0) (ri y 1) c
def bs1 (c : Int) (s : BT) (y : E) : BT := if ot y c ≠ 0 ∧ ix s.h (ot y c) = 0 then ⟨s.h.set (ot y c).toNat c, s.m ++ [ot y c]⟩ else s
def bsP (l : List E) (c : Int) (s : BT) : BT := l.foldl (bs1 c) s
def bsG (l : List E) : Nat → Nat → BT → BT
  | 0, _, s => s
  | k + 1, i, s => if i < s.m.length then bsG l k (i + 1) (bsP l (s.m.getD i 0) s) else s
def z65 : List Int := List.replicate 65 0
def tw0 (e : Int) : BT := ⟨z65.set e.toNat e, [e]⟩
def twS (l : List E) (e : Int) : BT := bsG l 65 0 (tw0 e)
def twH (l : List E) (e : Int) : List Int := (twS l e).h
def wF : Nat → List Int → Int → List Int
  | 0, _, _ => []
  | k + 1, h, n => n :: (if ix h n = n then [] else wF k h (ix h n))
def wok : Nat → List Int → Int → Bool
  | 0, _, _ => false
  | k + 1, h, n => decide (0 ≤ n ∧ n < 65) && (decide (ix h n = n) || wok k h (ix h n))
/-- The nodes of a way, as hops lead. -/
inductive Fol (h : List Int) : Int → List Int → Prop
  | one {n : Int} : ix h n = n → Fol h n [n]
  | go {n : Int} {p : List Int} : ix h n ≠ n → Fol h (ix h n) p → Fol h n (n :: p)
theorem fol_set {h : List Int} {n v c : Int} {p : List Int} (f : Fol h n p) (hv : 0 ≤ v) (hl : v < h.length) : v ∉ p → (∀ x ∈ p, 0 ≤ x) → Fol (h.set v.toNat c) n p := by
  induction f with
  | @one n e =>
    intro nv np
    refine .one ?_
    have := np n (List.mem_cons_self ..)
    rw [ix_set h n v c this hv hl, if_neg (fun q => nv (by rw [← q]; exact List.mem_cons_self ..))]
    exact e
  | @go n p e w ih =>
    intro nv np
    have := np n (List.mem_cons_self ..)
    have q : ix (h.set v.toNat c) n = ix h n := by rw [ix_set h n v c this hv hl, if_neg (fun q => nv (by rw [← q]; exact List.mem_cons_self ..))]
    refine .go (by rw [q]; exact e) ?_
    rw [q]
    exact ih (fun k => nv (List.mem_cons_of_mem _ k)) fun x hx => np x (List.mem_cons_of_mem _ hx)
theorem fol_w {h : List Int} {n : Int} {p : List Int} (f : Fol h n p) : ∀ k, p.length ≤ k → (∀ x ∈ p, nod x) → wF k h n = p ∧ wok k h n = true := by
  induction f with
  | @one n e =>
    intro k hk np
    cases k with
    | zero => simp at hk
    | succ k =>
      have := np n (List.mem_cons_self ..)
      unfold nod at this
      unfold wF wok
      rw [if_pos e]
      refine ⟨rfl, ?_⟩
      rw [decide_eq_true e, decide_eq_true (show 0 ≤ n ∧ n < 65 by omega)]
      rfl
  | @go n p e w ih =>
    intro k hk np
    cases k with
    | zero => simp at hk
    | succ k =>
      have := np n (List.mem_cons_self ..)
      unfold nod at this
      obtain ⟨i1, i2⟩ := ih k (by simpa using hk) fun x hx => np x (List.mem_cons_of_mem _ hx)
      unfold wF wok
      rw [if_neg e, i1, i2, decide_eq_true (show 0 ≤ n ∧ n < 65 by omega), Bool.or_true]
      exact ⟨rfl, rfl⟩
structure BI (L : List T) (b : Int) (s : BT) : Prop where
  len : s.h.length = 65
  nd : s.m.Nodup
  mem : ∀ n, nod n → (n ∈ s.m ↔ ix s.h n ≠ 0)
  nods : ∀ n ∈ s.m, nod n
  way : ∀ n ∈ s.m, ∃ p, Wy L b n p ∧ Fol s.h n p ∧ ∀ x ∈ p, x ∈ s.m
  bm : b ∈ s.m
  z0 : ix s.h 0 = 0
theorem bi_len {L : List T} {b : Int} {s : BT} (h : BI L b s) : s.m.length ≤ 64 := nd_64 h.nd h.nods
theorem bi_0 (L : List T) {b : Int} (hb : nod b) : BI L b (tw0 b) := by
  have hl : z65.length = 65 := List.length_replicate
  have hz : ∀ n : Int, ix z65 n = 0 := fun n => by
    unfold ix z65
    rw [List.getD_eq_getElem?_getD, List.getElem?_replicate]
    split <;> rfl
  have hn := hb
  unfold nod at hn
  refine ⟨by unfold tw0; rw [List.length_set]; exact hl, by simp [tw0], fun n k => ?_, fun n k => ?_, fun n k => ?_, by simp [tw0], ?_⟩
  · unfold nod at k
    show n ∈ [b] ↔ ix (z65.set b.toNat b) n ≠ 0
    rw [ix_set z65 n b b (by omega) (by omega) (by rw [hl]; omega), hz, List.mem_singleton]
    split
    · rename_i e
      exact ⟨fun _ => by omega, fun _ => e⟩
    · rename_i e
      exact ⟨fun q => absurd q e, fun q => absurd rfl q⟩
  · rw [List.mem_singleton.1 k]
    exact hb
  · rw [List.mem_singleton.1 k]
    refine ⟨[b], .one, .one ?_, fun x hx => hx⟩
    show ix (z65.set b.toNat b) b = b
    rw [ix_set z65 b b b (by omega) (by omega) (by rw [hl]; omega), if_pos rfl]
  · show ix (z65.set b.toNat b) 0 = 0
    rw [ix_set z65 0 b b (by omega) (by omega) (by rw [hl]; omega), hz]
    split <;> omega
theorem ot_en {y : E} {c : Int} (h : ot y c ≠ 0) : En (trE y) c (ot y c) := by
  unfold ot othE at *
  unfold En trE
  split at h
  · rename_i e
    rw [if_pos e]
    exact .inl ⟨e.symm, rfl⟩
  · rename_i e
    rw [if_neg e]
    split at h
    · rename_i q
      rw [if_pos q]
      exact .inr ⟨q.symm, rfl⟩
    · exact absurd rfl h
theorem en_ot {y : E} {a c : Int} (h : En (trE y) a c) (n : a ≠ c) : ot y a = c := by
  unfold ot othE
  unfold En trE at h
  simp only at h
  rcases h with ⟨e1, e2⟩ | ⟨e1, e2⟩
  · rw [if_pos e1.symm]
    exact e2
  · rw [if_neg (by omega), if_pos e1.symm]
    exact e2
theorem en_nod {y : T} (h : okT y) {a c : Int} (e : En y a c) : nod a ∧ nod c := by
  rcases e with ⟨rfl, rfl⟩ | ⟨rfl, rfl⟩
  · exact h
  · exact ⟨h.2, h.1⟩
theorem bi_1 {L : List T} (hL : ∀ y ∈ L, okT y) {b c : Int} {s : BT} (h : BI L b s) (hc : c ∈ s.m) {y : E} (hy : trE y ∈ L) : BI L b (bs1 c s y) ∧ (∃ t, (bs1 c s y).m = s.m ++ t) ∧ (ot y c ≠ 0 → ot y c ∈ (bs1 c s y).m) := by
  unfold bs1
  by_cases q : ot y c ≠ 0 ∧ ix s.h (ot y c) = 0
  · rw [if_pos q]
    have en := ot_en q.1
    have hn := (en_nod (hL _ hy) en).2
    have hn2 := hn
    unfold nod at hn2
    have nm : ot y c ∉ s.m := fun k => ((h.mem _ hn).1 k) q.2
    have l := h.len
    have hcn := h.nods c hc
    refine ⟨⟨by simp only [List.length_set]; exact l, ?_, fun n k => ?_, fun n k => ?_, fun n k => ?_, List.mem_append_left _ h.bm, ?_⟩, ⟨_, rfl⟩, fun _ => List.mem_append_right _ (List.mem_singleton.2 rfl)⟩
    · rw [List.nodup_append]
      exact ⟨h.nd, by simp, fun x hx z hz e => nm (by rw [List.mem_singleton] at hz; rw [← hz, ← e]; exact hx)⟩
    · have kn := k
      unfold nod at k
      rw [ix_set s.h n (ot y c) c (by omega) (by omega) (by omega), List.mem_append, List.mem_singleton, h.mem n kn]
      split
      · rename_i e
        unfold nod at hcn
        exact ⟨fun _ => by omega, fun _ => .inr e⟩
      · rename_i e
        exact ⟨fun k => k.elim id fun w => absurd w e, .inl⟩
    · rcases List.mem_append.1 k with k | k
      · exact h.nods n k
      · rw [List.mem_singleton.1 k]
        exact hn
    · have old : ∀ n ∈ s.m, ∃ p, Wy L b n p ∧ Fol (s.h.set (ot y c).toNat c) n p ∧ ∀ x ∈ p, x ∈ s.m := fun n k => by
        obtain ⟨p, w1, w2, w3⟩ := h.way n k
        exact ⟨p, w1, fol_set w2 (by omega) (by omega) (fun z => nm (w3 _ z)) (fun x hx => by have := h.nods x (w3 x hx); unfold nod at this; omega), w3⟩
      rcases List.mem_append.1 k with k | k
      · obtain ⟨p, w1, w2, w3⟩ := old n k
        exact ⟨p, w1, w2, fun x hx => List.mem_append_left _ (w3 x hx)⟩
      · rw [List.mem_singleton.1 k]
        obtain ⟨p, w1, w2, w3⟩ := old c hc
        have e : ix (s.h.set (ot y c).toNat c) (ot y c) = c := by rw [ix_set s.h _ _ c (by omega) (by omega) (by omega), if_pos rfl]
        have ne : c ≠ ot y c := fun z => nm (z ▸ hc)
        refine ⟨ot y c :: p, .go hy (en_symm en) w1 (fun z => nm (w3 _ z)), .go (by rw [e]; exact ne) (by rw [e]; exact w2), fun x hx => ?_⟩
        rcases List.mem_cons.1 hx with rfl | hx
        · exact List.mem_append_right _ (List.mem_singleton.2 rfl)
        · exact List.mem_append_left _ (w3 x hx)
    · show ix (s.h.set (ot y c).toNat c) 0 = 0
      rw [ix_set s.h 0 _ c (by omega) (by omega) (by omega), if_neg (by omega)]
      exact h.z0
  · rw [if_neg q]
    refine ⟨h, ⟨[], (List.append_nil _).symm⟩, fun k => ?_⟩
    have hn := (en_nod (hL _ hy) (ot_en k)).2
    exact (h.mem _ hn).2 fun e => q ⟨k, e⟩
theorem bi_P {L : List T} (hL : ∀ y ∈ L, okT y) {b c : Int} : ∀ {l : List E} {s : BT}, BI L b s → c ∈ s.m → (∀ y ∈ l, trE y ∈ L) → BI L b (bsP l c s) ∧ (∃ t, (bsP l c s).m = s.m ++ t) ∧ (∀ y ∈ l, ot y c ≠ 0 → ot y c ∈ (bsP l c s).m)
  | [], s, h, _, _ => ⟨h, ⟨[], (List.append_nil _).symm⟩, fun _ hy => by cases hy⟩
  | y :: l, s, h, hc, hl => by
    obtain ⟨a1, ⟨t, a2⟩, a3⟩ := bi_1 hL h hc (hl y (List.mem_cons_self ..))
    obtain ⟨b1, ⟨r, b2⟩, b3⟩ := bi_P hL (l := l) a1 (by rw [a2]; exact List.mem_append_left _ hc) fun z hz => hl z (List.mem_cons_of_mem _ hz)
    refine ⟨b1, ⟨t ++ r, ?_⟩, fun z hz k => ?_⟩
    · show (bsP l c (bs1 c s y)).m = _
      rw [b2, a2, List.append_assoc]
    · show ot z c ∈ (bsP l c (bs1 c s y)).m
      rcases List.mem_cons.1 hz with rfl | hz
      · rw [b2]
        exact List.mem_append_left _ (a3 k)
      · exact b3 z hz k
def Clo (l : List E) (i : Nat) (s : BT) : Prop := ∀ j, j < i → ∀ y ∈ l, ot y (s.m.getD j 0) ≠ 0 → ot y (s.m.getD j 0) ∈ s.m
theorem bi_G {L : List T} (hL : ∀ y ∈ L, okT y) {b : Int} {l : List E} (hl : ∀ y ∈ l, trE y ∈ L) : ∀ (k i : Nat) (s : BT), BI L b s → i ≤ s.m.length → 65 ≤ k + i → Clo l i s → BI L b (bsG l k i s) ∧ Clo l (bsG l k i s).m.length (bsG l k i s)
  | 0, i, s, h, hi, hk, _ => by
    have := bi_len h
    omega
  | k + 1, i, s, h, hi, hk, hc => by
    unfold bsG
    split
    · rename_i q
      have hm : s.m.getD i 0 ∈ s.m := by
        rw [List.getD_eq_getElem?_getD, List.getElem?_eq_getElem q]
        exact List.getElem_mem q
      obtain ⟨a1, ⟨t, a2⟩, a3⟩ := bi_P hL (l := l) h hm hl
      refine bi_G hL hl k (i + 1) _ a1 (by rw [a2, List.length_append]; omega) (by omega) fun j hj y hy => ?_
      have e : (bsP l (s.m.getD i 0) s).m.getD j 0 = s.m.getD j 0 := by
        rw [a2, List.getD_eq_getElem?_getD, List.getD_eq_getElem?_getD, List.getElem?_append_left (by omega)]
      rw [e]
      by_cases z : j = i
      · rw [z]
        exact a3 y hy
      · intro w
        rw [a2]
        exact List.mem_append_left _ (hc j (by omega) y hy w)
    · rename_i q
      have e : i = s.m.length := by omega
      rw [e] at hc
      exact ⟨h, hc⟩
theorem tw_ok {l : List E} (f : Fo (l.map trE)) {b : Int} (hb : nod b) : BI (l.map trE) b (twS l b) ∧ ∀ n, Cn (l.map trE) b n → n ∈ (twS l b).m := by
  have hl : ∀ y ∈ l, trE y ∈ l.map trE := fun y hy => List.mem_map_of_mem hy
  obtain ⟨a, c⟩ := bi_G f.ok (l := l) hl 65 0 (tw0 b) (bi_0 _ hb) (Nat.zero_le _) (by omega) (fun j hj => absurd hj (Nat.not_lt_zero _))
  have a : BI (l.map trE) b (twS l b) := a
  have c : Clo l (twS l b).m.length (twS l b) := c
  refine ⟨a, fun n h => ?_⟩
  induction h with
  | refl => exact a.bm
  | @one x z y _ hy e ih =>
    obtain ⟨w, hw, rfl⟩ := List.mem_map.1 hy
    have ne := f.ne hy e
    have eo := en_ot e ne
    obtain ⟨j, hj, ej⟩ := List.getElem_of_mem ih
    have nz : z ≠ 0 := by
      have := (en_nod (f.ok _ hy) e).2
      unfold nod at this
      omega
    have := c j hj w hw
    rw [List.getD_eq_getElem?_getD, List.getElem?_eq_getElem hj, Option.getD_some, ej, eo] at this
    exact this nz
/-- The hops to an end lead there. -/
theorem hop_iff {l : List E} (f : Fo (l.map trE)) {b n : Int} (hb : nod b) (hn : nod n) : ix (twH l b) n ≠ 0 ↔ Cn (l.map trE) b n := by
  obtain ⟨a, c⟩ := tw_ok f hb
  show ix (twS l b).h n ≠ 0 ↔ _
  rw [← a.mem n hn]
  constructor
  · intro k
    obtain ⟨p, w, _, _⟩ := a.way n k
    exact cn_symm (way_cn w)
  · exact c n
theorem hop_way {l : List E} (f : Fo (l.map trE)) {b n : Int} (hb : nod b) (h : Cn (l.map trE) b n) : Wy (l.map trE) b n (wF 65 (twH l b) n) ∧ wok 65 (twH l b) n = true ∧ Fol (twH l b) n (wF 65 (twH l b) n) ∧ (wF 65 (twH l b) n).length ≤ 64 := by
  obtain ⟨a, c⟩ := tw_ok f hb
  obtain ⟨p, w, g, k⟩ := a.way n (c n h)
  have np := fun x hx => a.nods x (k x hx)
  have lp := nd_64 (way_nd w) np
  obtain ⟨e1, e2⟩ := fol_w g 65 (by omega) np
  show Wy _ _ _ (wF 65 (twS l b).h n) ∧ wok 65 (twS l b).h n = true ∧ Fol (twS l b).h n (wF 65 (twS l b).h n) ∧ (wF 65 (twS l b).h n).length ≤ 64
  rw [e1]
  exact ⟨w, e2, g, lp⟩
theorem tw_len {l : List E} (f : Fo (l.map trE)) {b : Int} (hb : nod b) : (twH l b).length = 65 := (tw_ok f hb).1.len
end Go.Proofs.Ytodglgdenjjjgaa.TrB
