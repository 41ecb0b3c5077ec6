/-
  The theory of airs: each act of the code's is the answer's, and leaves an air that may be. No condition.
-/
import Derived.Test.YtphbfoafgfnmmaaSkN
import Derived.Test.YtphbfoafgfnmmaaSkQ
import Derived.Test.YtphbfoafgfnmmaaSkX
import Derived.Test.YtphbfoafgfnmmaaSkY
namespace Go.Proofs.Ytphbfoafgfnmmaa.SkV
open Go Go.Proofs.Ytphbfoafgfnmmaa.Ry Go.Proofs.Ytphbfoafgfnmmaa.SkR Go.Proofs.Ytphbfoafgfnmmaa.SkT Go.Proofs.Ytphbfoafgfnmmaa.SkO Go.Proofs.Ytphbfoafgfnmmaa.SkC Go.Proofs.Ytphbfoafgfnmmaa.SkD Go.Proofs.Ytphbfoafgfnmmaa.SkB Go.Proofs.Ytphbfoafgfnmmaa.SkL Go.Proofs.Ytphbfoafgfnmmaa.SkM Go.Proofs.Ytphbfoafgfnmmaa.SkN Go.Proofs.Ytphbfoafgfnmmaa.Cmp
open Go.Proofs.Ytphbfoafgfnmmaa.EgR (allE goodL may1 may_1 mayE prE trE nodB EE ofE)
open Go.Proofs.Ytphbfoafgfnmmaa.SkQ (isX upN upX oR ordB fupB mayA)

/-! ## Links in order -/
def lx (y z : E) : Prop := ri y 0 < ri z 0 ∨ ri y 0 = ri z 0 ∧ ri y 1 < ri z 1
def lxp (y : E) (a b : Int) : Prop := ri y 0 < a ∨ ri y 0 = a ∧ ri y 1 < b
/-- Links that may be up, in their order. -/
def P (u : List E) : Prop := (∀ y ∈ u, may1 y = true) ∧ u.Pairwise lx
theorem be_lt {a b c d : Int} : beF a b c d < 0 ↔ a < c ∨ a = c ∧ b < d := by
  unfold beF orF orF orF sgn
  (repeat' split) <;> omega
theorem be_eq {a b c d : Int} : beF a b c d = 0 ↔ a = c ∧ b = d := by
  unfold beF orF orF orF sgn
  (repeat' split) <;> omega
theorem getD_at {l : List E} {k : Nat} (h : k < l.length) : l.getD k [] = l[k] := by
  rw [List.getD_eq_getElem?_getD, List.getElem?_eq_getElem h]
  rfl
theorem srt_iff (u : List E) : srtB u = true ↔ ∀ k, 0 < k → k < u.length → ¬ lx (u.getD k []) (u.getD (k - 1) []) := by
  unfold srtB outE
  rw [decide_eq_true_eq]
  constructor
  · intro h k h0 h1 g
    have := of_decide_eq_false (h k h1 h0)
    rw [be_lt] at this
    exact this g
  · intro h k h1 h0
    refine decide_eq_false fun g => h k h0 h1 ?_
    rw [be_lt] at g
    exact g
theorem ord_srt (u : List E) : ordB u = srtB u := by
  rw [Bool.eq_iff_iff, srt_iff]
  unfold ordB oR
  rw [decide_eq_true_eq]
  constructor
  · intro h k h0 h1 g
    have := of_decide_eq_false (h k h1 h0)
    unfold lx at g
    omega
  · intro h k h1 h0
    refine decide_eq_false fun g => h k h0 h1 ?_
    unfold lx
    omega
theorem le_all {u : List E} (h : ∀ k, 0 < k → k < u.length → ¬ lx (u.getD k []) (u.getD (k - 1) [])) (i : Nat) : ∀ j, i ≤ j → j < u.length → ¬ lx (u.getD j []) (u.getD i []) := by
  intro j
  induction j with
  | zero =>
    intro h1 h2
    have : i = 0 := by omega
    subst this
    unfold lx
    omega
  | succ j ih =>
    intro h1 h2
    by_cases e : i = j + 1
    · subst e
      unfold lx
      omega
    · have a := ih (by omega) (by omega)
      have b := h (j + 1) (by omega) h2
      rw [Nat.add_sub_cancel] at b
      unfold lx at *
      omega
theorem P_iff (u : List E) : (allE u = 0 ∧ srtB u = true) ↔ (P u ∧ u.length ≤ 512) := by
  have hz : allE u = 0 ↔ ((∀ y ∈ u, may1 y = true) ∧ (u.map prE).Nodup) ∧ u.length ≤ 512 := by
    unfold allE goodL
    constructor
    · intro h
      split at h
      · rename_i g
        rw [Bool.and_eq_true, decide_eq_true_eq, decide_eq_true_eq] at g
        split at h
        · cases h
        · exact ⟨g, by omega⟩
      · cases h
    · rintro ⟨⟨g1, g2⟩, g3⟩
      rw [if_pos (by rw [Bool.and_eq_true, decide_eq_true_eq, decide_eq_true_eq]; exact ⟨g1, g2⟩), if_neg (by omega)]
  rw [hz, srt_iff]
  constructor
  · rintro ⟨⟨⟨h1, h2⟩, h3⟩, h4⟩
    refine ⟨⟨h1, List.pairwise_iff_getElem.2 fun i j hi hj hij => ?_⟩, h3⟩
    have a := le_all h4 i j (by omega) hj
    rw [getD_at hi, getD_at hj] at a
    have b : prE u[i] ≠ prE u[j] := by
      have := List.pairwise_iff_getElem.1 h2 i j (by simpa using hi) (by simpa using hj) hij
      simpa using this
    unfold prE at b
    unfold lx at *
    by_cases c : ri u[i] 0 = ri u[j] 0
    · have : ri u[i] 1 ≠ ri u[j] 1 := fun d => b (by rw [c, d])
      omega
    · omega
  · rintro ⟨⟨h1, h2⟩, h3⟩
    refine ⟨⟨⟨h1, List.pairwise_iff_getElem.2 fun i j hi hj hij => ?_⟩, h3⟩, fun k h0 hk => ?_⟩
    · simp only [List.getElem_map]
      rw [List.length_map] at hi hj
      have := List.pairwise_iff_getElem.1 h2 i j hi hj hij
      unfold lx at this
      unfold prE
      intro e
      have e1 := (Prod.mk.inj e).1
      have e2 := (Prod.mk.inj e).2
      omega
    · rw [getD_at hk, getD_at (show k - 1 < u.length by omega)]
      have := List.pairwise_iff_getElem.1 h2 (k - 1) k (by omega) hk (by omega)
      unfold lx at *
      omega
/-- Where ends stand among links in order. -/
theorem cut_at {u : List E} (hP : u.Pairwise lx) (a b : Int) : ∃ k : Nat, poE u a b = k ∧ k ≤ u.length ∧ (∀ y ∈ u.take k, lxp y a b) ∧ (∀ y ∈ u.drop k, ¬ lxp y a b) := by
  have hf : ∀ x : Int, ltE u a b x = true ↔ lxp (u.getD x.toNat []) a b := fun x => by
    unfold ltE lxp
    rw [decide_eq_true_eq, be_lt]
  have hs := bs_spec (ltE u a b) u.length u.length 0 u.length (Int.le_refl 0) (Int.natCast_nonneg _) (Int.le_refl _) (by omega) (fun x x0 x1 => by omega) (fun x x0 x1 => by omega) (fun x y x0 hxy hy h => by
    rw [hf] at h ⊢
    by_cases e : x = y
    · rw [e]
      exact h
    · have hx : x.toNat < u.length := by omega
      have hy' : y.toNat < u.length := by omega
      have := List.pairwise_iff_getElem.1 hP x.toNat y.toNat hx hy' (by omega)
      rw [getD_at hx]
      rw [getD_at hy'] at h
      unfold lx at this
      unfold lxp at *
      omega)
  obtain ⟨s1, s2, s3, s4⟩ := hs
  obtain ⟨k, hk⟩ := Int.eq_ofNat_of_zero_le s1
  rw [hk] at s2 s3 s4
  refine ⟨k, hk, by omega, fun y hy => ?_, fun y hy => ?_⟩
  · obtain ⟨j, hj, rfl⟩ := List.getElem_of_mem hy
    rw [List.length_take] at hj
    have := (hf j).1 (s3 j (by omega) (by omega))
    rw [Int.toNat_natCast, getD_at (show j < u.length by omega)] at this
    rw [List.getElem_take]
    exact this
  · obtain ⟨j, hj, rfl⟩ := List.getElem_of_mem hy
    rw [List.length_drop] at hj
    have h9 := s4 ((k + j : Nat) : Int) (by omega) (by omega)
    intro g
    have := (hf ((k + j : Nat) : Int)).2 (by
      rw [Int.toNat_natCast, getD_at (show k + j < u.length by omega)]
      rw [List.getElem_drop] at g
      exact g)
    rw [h9] at this
    cases this
/-- A link that is up stands at its place, one that is not is not there. -/
inductive Cut (u : List E) (a b : Int) : Prop where
  | hit (L R : List E) (z : E) (e : u = L ++ z :: R) (hz : prE z = (a, b)) (hp : poE u a b = L.length) (hf : fdE u a b = true) (hL : ∀ y ∈ L, lxp y a b) (hR : ∀ y ∈ R, ¬ lxp y a b ∧ prE y ≠ (a, b)) : Cut u a b
  | no (L R : List E) (e : u = L ++ R) (hp : poE u a b = L.length) (hf : fdE u a b = false) (hL : ∀ y ∈ L, lxp y a b) (hR : ∀ y ∈ R, ¬ lxp y a b ∧ prE y ≠ (a, b)) : Cut u a b
theorem cut_of {u : List E} (hP : u.Pairwise lx) (a b : Int) : Cut u a b := by
  obtain ⟨k, h1, h2, h3, h4⟩ := cut_at hP a b
  have hl : (u.take k).length = k := by rw [List.length_take]; omega
  have hfd : fdE u a b = decide (k < u.length ∧ prE (u.getD k []) = (a, b)) := by
    unfold fdE
    rw [h1, Int.toNat_natCast, Bool.eq_iff_iff, Bool.and_eq_true, decide_eq_true_eq, decide_eq_true_eq, decide_eq_true_eq, be_eq]
    unfold prE
    rw [Prod.mk.injEq]
    omega
  by_cases c : k < u.length ∧ prE (u.getD k []) = (a, b)
  · obtain ⟨c1, c2⟩ := c
    rw [getD_at c1] at c2
    have hd : u.drop k = u[k] :: u.drop (k + 1) := List.drop_eq_getElem_cons c1
    refine .hit (u.take k) (u.drop (k + 1)) u[k] (by rw [← hd, List.take_append_drop]) c2 (by rw [h1, hl]) (by rw [hfd]; exact decide_eq_true ⟨c1, by rw [getD_at c1]; exact c2⟩) h3 fun y hy => ⟨h4 y (by rw [hd]; exact List.mem_cons_of_mem _ hy), fun e => ?_⟩
    obtain ⟨j, hj, rfl⟩ := List.getElem_of_mem hy
    rw [List.length_drop] at hj
    rw [List.getElem_drop] at e
    have := List.pairwise_iff_getElem.1 hP k (k + 1 + j) c1 (by omega) (by omega)
    unfold lx at this
    unfold prE at e c2
    have e1 := Prod.mk.inj e
    have e2 := Prod.mk.inj c2
    omega
  · refine .no (u.take k) (u.drop k) (List.take_append_drop _ _).symm (by rw [h1, hl]) (by rw [hfd]; exact decide_eq_false c) h3 fun y hy => ⟨h4 y hy, fun e => ?_⟩
    obtain ⟨j, hj, rfl⟩ := List.getElem_of_mem hy
    rw [List.length_drop] at hj
    have hk : k < u.length := by omega
    rw [List.getElem_drop] at e
    by_cases j0 : j = 0
    · subst j0
      exact c ⟨hk, by rw [getD_at hk]; exact e⟩
    · have := List.pairwise_iff_getElem.1 hP k (k + j) hk (by omega) (by omega)
      have n := h4 u[k] (by rw [List.drop_eq_getElem_cons hk]; exact List.mem_cons_self ..)
      unfold lx at this
      unfold lxp at n
      unfold prE at e
      have e1 := Prod.mk.inj e
      omega
/-! ## Which links are up -/
/-- The link of two nodes is up. -/
def up (u : List E) (a b : Int) : Prop := ∃ z ∈ u, prE z = (a, b) ∨ prE z = (b, a)
theorem isX_iff (a b : Int) (z : E) : isX a b z = true ↔ prE z = (a, b) ∨ prE z = (b, a) := by
  unfold isX prE
  rw [decide_eq_true_eq, Prod.mk.injEq, Prod.mk.injEq]
theorem upX_iff (u : List E) (a b : Int) : 0 ≤ upX u a b ↔ up u a b := by
  unfold upX upN up
  constructor
  · intro h
    split at h
    · rename_i g
      exact ⟨_, List.getElem_mem g, (isX_iff _ _ _).1 (List.findIdx_getElem (w := g))⟩
    · omega
  · rintro ⟨z, hz, h⟩
    rw [if_pos (List.findIdx_lt_length_of_exists ⟨z, hz, (isX_iff _ _ _).2 h⟩)]
    exact Int.natCast_nonneg _
theorem pl_eq {a b x y : Int} (h : 0 ≤ a ∧ a < 65 ∧ 0 ≤ b ∧ b < 65) (g : 0 ≤ x ∧ x < 65 ∧ 0 ≤ y ∧ y < 65) : (pl a b).toNat = (pl x y).toNat ↔ a = x ∧ b = y := by
  unfold pl
  omega
theorem setF_at {T : List E} (hT : T.length = 4225) {x y a b : Int} (v : Bool) (g : 0 ≤ x ∧ x < 65 ∧ 0 ≤ y ∧ y < 65) (h : 0 ≤ a ∧ a < 65 ∧ 0 ≤ b ∧ b < 65) :
    rb ((setF T x y v).getD (pl a b).toNat []) 0 = if a = x ∧ b = y ∨ a = y ∧ b = x then v else rb (T.getD (pl a b).toNat []) 0 := by
  have l1 : (pl x y).toNat < T.length := by rw [hT]; unfold pl; omega
  have l2 : (pl y x).toNat < T.length := by rw [hT]; unfold pl; omega
  have e1 := pl_eq (a := x) (b := y) (x := a) (y := b) g h
  have e2 := pl_eq (a := y) (b := x) (x := a) (y := b) ⟨g.2.2.1, g.2.2.2, g.1, g.2.1⟩ h
  unfold setF
  rw [List.getD_eq_getElem?_getD, List.getD_eq_getElem?_getD, List.getElem?_set]
  by_cases c2 : (pl y x).toNat = (pl a b).toNat
  · rw [if_pos c2, List.length_set, if_pos l2]
    have := e2.1 c2
    rw [if_pos (.inr ⟨this.1.symm, this.2.symm⟩)]
    rfl
  · rw [if_neg c2, List.getElem?_set]
    by_cases c1 : (pl x y).toNat = (pl a b).toNat
    · rw [if_pos c1, if_pos l1]
      have := e1.1 c1
      rw [if_pos (.inl ⟨this.1.symm, this.2.symm⟩)]
      rfl
    · rw [if_neg c1, if_neg]
      rintro (⟨q1, q2⟩ | ⟨q1, q2⟩)
      · exact c1 (e1.2 ⟨q1.symm, q2.symm⟩)
      · exact c2 (e2.2 ⟨q1.symm, q2.symm⟩)
theorem may_in {z : E} (h : may1 z = true) : 0 ≤ ri z 0 ∧ ri z 0 < 65 ∧ 0 ≤ ri z 1 ∧ ri z 1 < 65 := by
  have := may_1 h
  omega
theorem fold_at {a b : Int} (h : 0 ≤ a ∧ a < 65 ∧ 0 ≤ b ∧ b < 65) : ∀ (u M : List E), M.length = 4225 → (∀ z ∈ u, may1 z = true) → (rb ((u.foldl (fun M y => setF M (ri y 0) (ri y 1) true) M).getD (pl a b).toNat []) 0 = true ↔ rb (M.getD (pl a b).toNat []) 0 = true ∨ up u a b)
  | [], M, _, _ => by
    unfold up
    simp
  | z :: u, M, hM, hu => by
    rw [List.foldl_cons, fold_at h u _ (by rw [set_len, hM]) (fun y hy => hu y (List.mem_cons_of_mem _ hy)), setF_at hM true (may_in (hu z (List.mem_cons_self ..))) h]
    have : up (z :: u) a b ↔ (prE z = (a, b) ∨ prE z = (b, a)) ∨ up u a b := by
      unfold up
      simp
    rw [this]
    have e : (prE z = (a, b) ∨ prE z = (b, a)) ↔ (a = ri z 0 ∧ b = ri z 1 ∨ a = ri z 1 ∧ b = ri z 0) := by
      unfold prE
      rw [Prod.mk.injEq, Prod.mk.injEq]
      omega
    rw [e]
    by_cases c : a = ri z 0 ∧ b = ri z 1 ∨ a = ri z 1 ∧ b = ri z 0
    · rw [if_pos c]
      exact ⟨fun _ => .inr (.inl c), fun _ => .inl rfl⟩
    · rw [if_neg c]
      constructor
      · rintro (q | q)
        · exact .inl q
        · exact .inr (.inr q)
      · rintro (q | q | q)
        · exact .inl q
        · exact absurd q c
        · exact .inr q
theorem tab_at {u : List E} (hu : ∀ z ∈ u, may1 z = true) {a b : Int} (h : 0 ≤ a ∧ a < 65 ∧ 0 ≤ b ∧ b < 65) : rb ((tabF u).getD (pl a b).toNat []) 0 = true ↔ up u a b := by
  unfold tabF
  rw [fold_at h u _ (by rw [List.length_replicate]) hu]
  have : rb ((List.replicate 4225 [D.bool false]).getD (pl a b).toNat []) 0 = false := by
    rw [List.getD_eq_getElem?_getD, List.getElem?_replicate]
    split <;> rfl
  rw [this]
  simp
theorem nod_iff (a : Int) : nodB a = true ↔ 1 ≤ a ∧ a ≤ 64 := by
  unfold nodB
  rw [decide_eq_true_eq]
theorem up_nod {u : List E} (hu : ∀ z ∈ u, may1 z = true) {a b : Int} (h : up u a b) : (1 ≤ a ∧ a ≤ 64) ∧ (1 ≤ b ∧ b ≤ 64) ∧ ¬ a = b := by
  obtain ⟨z, hz, h⟩ := h
  have := may_1 (hu z hz)
  unfold prE at h
  rw [Prod.mk.injEq, Prod.mk.injEq] at h
  omega
theorem car_iff {u : List E} (hu : ∀ z ∈ u, may1 z = true) (a b : Int) : carF (tabF u) a b = true ↔ up u a b := by
  unfold carF
  rw [Bool.and_eq_true, Bool.and_eq_true, nod_iff, nod_iff]
  constructor
  · rintro ⟨⟨h1, h2⟩, h3⟩
    exact (tab_at hu (by omega)).1 h3
  · intro h
    have := up_nod hu h
    exact ⟨⟨this.1, this.2.1⟩, (tab_at hu (by omega)).2 h⟩
/-- An air that may be. -/
structure V (f u : List E) : Prop where
  p : P u
  n : u.length ≤ 512
  m : f.length ≤ 16384
  c : ∀ y ∈ f, up u (ri y 0) (ri y 1)
theorem all_of {f : List E} {Q : E → Prop} : (∀ k : Nat, k < f.length → Q (f.getD k [])) ↔ ∀ y ∈ f, Q y := by
  constructor
  · intro h y hy
    obtain ⟨k, hk, rfl⟩ := List.getElem_of_mem hy
    have := h k hk
    rwa [getD_at hk] at this
  · intro h k hk
    rw [getD_at hk]
    exact h _ (List.getElem_mem hk)
theorem may_V (f u : List E) : mayA f u = true ↔ V f u := by
  unfold mayA fupB
  rw [Bool.and_eq_true, Bool.and_eq_true, decide_eq_true_eq, decide_eq_true_eq, ord_srt]
  rw [all_of (Q := fun y => 0 ≤ upX u (ri y 0) (ri y 1))]
  have h := P_iff u
  constructor
  · rintro ⟨⟨h1, h2⟩, h3, h4⟩
    obtain ⟨p, n⟩ := h.1 ⟨h1, h3⟩
    exact ⟨p, n, h2, fun y hy => (upX_iff _ _ _).1 (h4 y hy)⟩
  · rintro ⟨p, n, h2, h4⟩
    obtain ⟨h1, h3⟩ := h.2 ⟨p, n⟩
    exact ⟨⟨h1, h2⟩, h3, fun y hy => (upX_iff _ _ _).2 (h4 y hy)⟩
theorem ch_V (f u : List E) : chA f u = 0 ↔ V f u := by
  unfold chA carL
  have h := P_iff u
  constructor
  · intro hc
    split at hc
    · rename_i g
      obtain ⟨g1, g2, g3, g4⟩ := g
      obtain ⟨p, n⟩ := h.1 ⟨g1, g2⟩
      rw [decide_eq_true_eq, all_of (Q := fun y => carF (tabF u) (ri y 0) (ri y 1) = true)] at g4
      exact ⟨p, n, g3, fun y hy => (car_iff p.1 _ _).1 (g4 y hy)⟩
    · cases hc
  · rintro ⟨p, n, h2, h4⟩
    obtain ⟨h1, h3⟩ := h.2 ⟨p, n⟩
    rw [if_pos]
    refine ⟨h1, h3, h2, ?_⟩
    rw [decide_eq_true_eq, all_of (Q := fun y => carF (tabF u) (ri y 0) (ri y 1) = true)]
    exact fun y hy => (car_iff p.1 _ _).2 (h4 y hy)
end Go.Proofs.Ytphbfoafgfnmmaa.SkV
namespace Go.Proofs.Ytphbfoafgfnmmaa.SkW
open Go Go.Proofs.Ytphbfoafgfnmmaa.Ry Go.Proofs.Ytphbfoafgfnmmaa.SkR Go.Proofs.Ytphbfoafgfnmmaa.SkT Go.Proofs.Ytphbfoafgfnmmaa.SkO Go.Proofs.Ytphbfoafgfnmmaa.SkC Go.Proofs.Ytphbfoafgfnmmaa.SkD Go.Proofs.Ytphbfoafgfnmmaa.SkB Go.Proofs.Ytphbfoafgfnmmaa.SkL Go.Proofs.Ytphbfoafgfnmmaa.SkM Go.Proofs.Ytphbfoafgfnmmaa.SkN Go.Proofs.Ytphbfoafgfnmmaa.SkV
open Go.Proofs.Ytphbfoafgfnmmaa.EgR (allE may1 may_1 mayE prE trE nodB EE ofE)
open Go.Proofs.Ytphbfoafgfnmmaa.SkQ (isX upN upX mayA putX)
open Go.Proofs.Ytphbfoafgfnmmaa.SkX (nrE sxI syI goX offB offF hitB goU lkU lkF)
open Go.Proofs.Ytphbfoafgfnmmaa.BeK (modI modB mod_is cutI brI)

theorem nrm_nrm (y : E) : nrm (nrm y) = nrm y := rfl
theorem cp_cp (f : List E) : cpF (cpF f) = cpF f := by
  unfold cpF
  rw [List.map_map]
  rfl
theorem tr_nrE (u : List E) : (u.map nrE).map trE = u.map trE := by
  rw [List.map_map]
  rfl
theorem sx_mn (a b : Int) : sxI a b = mnI a b := rfl
theorem sy_mx (a b : Int) : syI a b = mxI a b := by
  unfold syI mxI
  split <;> split <;> omega
theorem mn_mx (a b : Int) : mnI a b ≤ mxI a b := by
  unfold mnI mxI
  split <;> split <;> omega
theorem pr_may {z : E} (h : may1 z = true) {x y : Int} (hxy : x ≤ y) : ¬ prE z = (y, x) := by
  have := may_1 h
  unfold prE
  rw [Prod.mk.injEq]
  omega
theorem isX_le {z : E} (h : may1 z = true) {x y : Int} (hxy : x ≤ y) : isX x y z = true ↔ prE z = (x, y) := by
  rw [isX_iff]
  have := pr_may h hxy
  exact ⟨fun q => q.resolve_right this, .inl⟩
/-! ## All but one; one more -/
theorem goX_past (c : Int) : ∀ (l : List E) (i : Int), c < i → goX l i c = l.map nrE
  | [], _, _ => rfl
  | y :: l, i, h => by
    rw [goX, if_neg (by omega), goX_past c l (i + 1) (by omega)]
    rfl
theorem goX_skip (c : Int) : ∀ (L l : List E) (i : Int), i + L.length ≤ c → goX (L ++ l) i c = L.map nrE ++ goX l (i + L.length) c
  | [], l, i, _ => by simp
  | y :: L, l, i, h => by
    rw [List.length_cons] at h
    rw [List.cons_append, goX, if_neg (by omega), goX_skip c L l (i + 1) (by omega), List.length_cons, show i + 1 + (L.length : Int) = i + ((L.length + 1 : Nat) : Int) by omega]
    rfl
theorem goX_hit (L R : List E) (z : E) : goX (L ++ z :: R) 0 L.length = (L ++ R).map nrE := by
  rw [goX_skip _ L _ 0 (by omega), goX, if_pos (by omega), goX_past _ R _ (by omega), List.map_append]
theorem hit_no {x y : Int} {z : E} (h : lxp z x y) : hitB x y z = false := by
  unfold hitB
  unfold lxp at h
  exact decide_eq_false (by omega)
theorem hit_yes {x y : Int} {z : E} (h : ¬ lxp z x y) : hitB x y z = true := by
  unfold hitB
  unfold lxp at h
  exact decide_eq_true (by omega)
theorem goU_past (x y : Int) (e : E) (c : Int) : ∀ (l : List E) (i : Int), c < i → goU x y e l i c true = l.map nrE
  | [], _, _ => rfl
  | z :: l, i, h => by
    rw [goU, if_neg (by simp), if_neg (by omega), Bool.true_or, goU_past x y e c l (i + 1) (by omega)]
    rfl
theorem goU_skip (x y : Int) (e : E) (c : Int) : ∀ (L l : List E) (i : Int), i + L.length ≤ c ∨ c < i → (∀ z ∈ L, lxp z x y) → goU x y e (L ++ l) i c false = L.map nrE ++ goU x y e l (i + L.length) c false
  | [], l, i, _, _ => by simp
  | z :: L, l, i, h, hL => by
    rw [List.length_cons] at h
    have hz := hit_no (hL z (List.mem_cons_self ..))
    rw [List.cons_append, goU, hz, if_neg (by simp), if_neg (by omega), Bool.or_false, goU_skip x y e c L l (i + 1) (by omega) (fun y hy => hL y (List.mem_cons_of_mem _ hy)), List.length_cons, show i + 1 + (L.length : Int) = i + ((L.length + 1 : Nat) : Int) by omega]
    rfl
theorem goU_hit {x y : Int} (e : E) {L R : List E} {z : E} (hL : ∀ z ∈ L, lxp z x y) (hz : ¬ lxp z x y) : goU x y e (L ++ z :: R) 0 L.length false = L.map nrE ++ e :: R.map nrE := by
  rw [goU_skip x y e _ L _ 0 (.inl (by omega)) hL, goU, hit_yes hz, if_pos ⟨rfl, rfl⟩, if_pos (by omega), Bool.or_true, goU_past _ _ _ _ R _ (by omega)]
  simp
theorem goU_no {x y : Int} (e : E) {L R : List E} (hL : ∀ z ∈ L, lxp z x y) (hR : ∀ z ∈ R, ¬ lxp z x y) : goU x y e (L ++ R) 0 (-1) false = L.map nrE ++ e :: R.map nrE := by
  rw [goU_skip x y e _ L _ 0 (.inr (by omega)) hL]
  cases R with
  | nil =>
    rw [goU]
    simp
  | cons z R =>
    rw [goU, hit_yes (hR z (List.mem_cons_self ..)), if_pos ⟨rfl, rfl⟩, if_neg (by omega), Bool.or_true, goU_past _ _ _ _ R _ (by omega)]
    simp
/-! ## Where a link is -/
theorem up_hit {u L R : List E} {z : E} {x y : Int} (hP : P u) (hxy : x ≤ y) (e : u = L ++ z :: R) (hz : prE z = (x, y)) (hL : ∀ y' ∈ L, lxp y' x y) : upX u x y = L.length := by
  have hlt : L.length < u.length := by rw [e]; simp
  have hg : u[L.length] = z := by simp [e]
  have : upN u x y = L.length := (List.findIdx_eq hlt).2 ⟨by rw [hg]; exact (isX_le (hP.1 z (by rw [e]; simp)) hxy).2 hz, fun j hj => by
    have hj2 : j < u.length := by omega
    have hm : u[j] ∈ L := by
      have : u[j] = L[j] := by simp [e, List.getElem_append_left hj]
      rw [this]
      exact List.getElem_mem hj
    rw [← Bool.not_eq_true, isX_le (hP.1 _ (List.getElem_mem hj2)) hxy]
    intro q
    have := hL _ hm
    unfold lxp at this
    unfold prE at q
    rw [Prod.mk.injEq] at q
    omega⟩
  unfold upX
  rw [this, if_pos hlt]
theorem lx_ne {z : E} {x y : Int} (h : lxp z x y) : ¬ prE z = (x, y) := by
  unfold lxp at h
  unfold prE
  rw [Prod.mk.injEq]
  omega
theorem up_no {u L R : List E} {x y : Int} (hP : P u) (hxy : x ≤ y) (e : u = L ++ R) (hL : ∀ y' ∈ L, lxp y' x y) (hR : ∀ y' ∈ R, ¬ lxp y' x y ∧ prE y' ≠ (x, y)) : upX u x y = -1 ∧ ¬ up u x y := by
  have h : ¬ up u x y := by
    rintro ⟨z, hz, q⟩
    have q := q.resolve_right (pr_may (hP.1 z hz) hxy)
    rw [e] at hz
    rcases List.mem_append.1 hz with hz | hz
    · exact lx_ne (hL z hz) q
    · exact (hR z hz).2 q
  refine ⟨?_, h⟩
  have : ¬ 0 ≤ upX u x y := fun q => h ((upX_iff u x y).1 q)
  have h2 : -1 ≤ upX u x y := by
    unfold upX
    split <;> omega
  omega
theorem tak {α : Type} (L R : List α) (z : α) : (L ++ z :: R).take ((L.length : Int)).toNat = L ∧ (L ++ z :: R).drop ((L.length : Int) + 1).toNat = R ∧ (L ++ z :: R).drop ((L.length : Int)).toNat = z :: R := by
  refine ⟨by simp, ?_, by simp⟩
  rw [show ((L.length : Int) + 1).toNat = (L ++ [z]).length by rw [List.length_append, List.length_singleton]; omega, show L ++ z :: R = (L ++ [z]) ++ R by simp, List.drop_left]
theorem may_ed {a b w : Int} (h : (ofE a b w).e = 0) : ofE a b w = ⟨mnI a b, mxI a b, w, 0⟩ ∧ mayE (mnI a b) (mxI a b) w = true := by
  obtain ⟨hm, e⟩ := (of_key w (if a < b then a else b) (if a < b then b else a)).2 h
  have e1 : (if a < b then a else b) = mnI a b := by
    unfold mnI
    by_cases h1 : a < b
    · rw [if_pos h1, if_neg (by omega)]
    · rw [if_neg h1]
      by_cases h2 : b < a
      · rw [if_pos h2]
      · rw [if_neg h2]
        omega
  have e2 : (if a < b then b else a) = mxI a b := rfl
  have e : ofE a b w = ⟨if a < b then a else b, if a < b then b else a, w, 0⟩ := e
  rw [e1, e2] at hm
  rw [e1, e2] at e
  exact ⟨e, hm⟩
theorem may_no {a b w : Int} (h : ¬ (ofE a b w).e = 0) : mayE (mnI a b) (mxI a b) w = false := by
  have e1 : (if a < b then a else b) = mnI a b := by
    unfold mnI
    by_cases h1 : a < b
    · rw [if_pos h1, if_neg (by omega)]
    · rw [if_neg h1]
      by_cases h2 : b < a
      · rw [if_pos h2]
      · rw [if_neg h2]
        omega
  have e2 : (if a < b then b else a) = mxI a b := rfl
  rw [← Bool.not_eq_true, ← e1, ← e2]
  intro hm
  apply h
  show (if mayE (if a < b then a else b) (if a < b then b else a) w = true then (⟨if a < b then a else b, if a < b then b else a, w, 0⟩ : EE) else ⟨0, 0, 0, 1⟩).e = 0
  rw [if_pos hm]
theorem pairw_ins {L R : List E} {e : E} (h : (L ++ R).Pairwise lx) (hL : ∀ y ∈ L, lx y e) (hR : ∀ y ∈ R, lx e y) : (L ++ e :: R).Pairwise lx := by
  rw [List.pairwise_append] at h ⊢
  refine ⟨h.1, List.pairwise_cons.2 ⟨hR, h.2.1⟩, fun a ha b hb => ?_⟩
  rcases List.mem_cons.1 hb with rfl | hb
  · exact hL a ha
  · exact h.2.2 a ha b hb
theorem lx_ed {x y w : Int} {z : E} (h : lxp z x y) : lx z [.int x, .int y, .int w] := h
theorem ed_lx {x y w : Int} {z : E} (h : ¬ lxp z x y ∧ prE z ≠ (x, y)) : lx [.int x, .int y, .int w] z := by
  have h2 := h.2
  have h1 := h.1
  unfold prE at h2
  unfold lxp at h1
  show x < ri z 0 ∨ x = ri z 0 ∧ y < ri z 1
  by_cases c : ri z 0 = x
  · have : ri z 1 ≠ y := fun d => h2 (by rw [c, d])
    omega
  · omega
theorem may_ed1 {x y w : Int} (h : mayE x y w = true) : may1 [.int x, .int y, .int w] = true := h
/-- What a link that goes up leaves. -/
theorem raise_ok {u : List E} (hP : P u) (hn : u.length ≤ 512) (a b w : Int) : (raU u a b w).map trE = (lkU u 8 a b w).map trE ∧ P (raU u a b w) ∧ (raU u a b w).length ≤ 512 ∧ (∀ p q, up u p q → up (raU u a b w) p q) ∧ (∀ p q, up (raU u a b w) p q → up u p q ∨ (p = a ∧ q = b ∨ p = b ∧ q = a)) ∧ ((ofE a b w).e = 0 → u.length < 512 ∨ up u a b → ∃ z ∈ raU u a b w, prE z = (mnI a b, mxI a b) ∧ ri z 2 = w) := by
  have hl : lkU u 8 a b w = if mayE (mnI a b) (mxI a b) w = false ∨ upX u (mnI a b) (mxI a b) < 0 ∧ u.length = 512 then u else goU (mnI a b) (mxI a b) [.int (mnI a b), .int (mxI a b), .int w] u 0 (upX u (mnI a b) (mxI a b)) false := by
    unfold lkU
    rw [if_neg (by decide), sx_mn, sy_mx]
  rw [hl]
  unfold raU
  by_cases he : (ofE a b w).e = 0
  · obtain ⟨e1, hm⟩ := may_ed he
    rw [if_pos he]
    have ea : (ofE a b w).a = mnI a b := by rw [e1]
    have eb : (ofE a b w).b = mxI a b := by rw [e1]
    have ed : edD (ofE a b w) = [.int (mnI a b), .int (mxI a b), .int w] := by rw [e1]; rfl
    rw [ea, eb, ed]
    have hab : (mnI a b = a ∧ mxI a b = b) ∨ (mnI a b = b ∧ mxI a b = a) := by
      unfold mnI mxI
      split <;> split <;> omega
    have hed : ∀ u' : List E, ([.int (mnI a b), .int (mxI a b), .int w] : E) ∈ u' → ∃ z ∈ u', prE z = (mnI a b, mxI a b) ∧ ri z 2 = w := fun u' h => ⟨_, h, rfl, rfl⟩
    cases cut_of hP.2 (mnI a b) (mxI a b) with
    | hit L R z e hz hp hf hL hR =>
      rw [if_pos hf, hp, Int.toNat_natCast]
      have hs : u.set L.length [.int (mnI a b), .int (mxI a b), .int w] = L ++ [.int (mnI a b), .int (mxI a b), .int w] :: R := by rw [e]; simp
      have hup := up_hit hP (mn_mx a b) e hz hL
      have hzn : ¬ lxp z (mnI a b) (mxI a b) := by
        unfold prE at hz
        rw [Prod.mk.injEq] at hz
        unfold lxp
        omega
      have hpw : (L ++ R).Pairwise lx := by
        have := hP.2
        rw [e] at this
        exact this.sublist (List.Sublist.append (List.Sublist.refl _) (List.sublist_cons_self _ _))
      rw [hs, if_neg (by
        rw [hm, hup]
        rintro (q | q)
        · cases q
        · omega), hup]
      refine ⟨?_, ⟨fun y hy => ?_, pairw_ins hpw (fun y hy => lx_ed (hL y hy)) (fun y hy => ed_lx (hR y hy))⟩, ?_, ?_, ?_, fun _ _ => hed _ (by simp)⟩
      · conv => rhs; rw [e]
        rw [goU_hit _ hL hzn, List.map_append, List.map_append, tr_nrE, List.map_cons, List.map_cons, tr_nrE]
      · rcases List.mem_append.1 hy with hy | hy
        · exact hP.1 y (by rw [e]; simp [hy])
        · rcases List.mem_cons.1 hy with rfl | hy
          · exact may_ed1 hm
          · exact hP.1 y (by rw [e]; simp [hy])
      · rw [e] at hn
        simpa using hn
      · rintro p q ⟨y, hy, hpq⟩
        rw [e] at hy
        rcases List.mem_append.1 hy with hy | hy
        · exact ⟨y, by simp [hy], hpq⟩
        · rcases List.mem_cons.1 hy with rfl | hy
          · exact ⟨[.int (mnI a b), .int (mxI a b), .int w], by simp, by
              have : prE [.int (mnI a b), .int (mxI a b), .int w] = prE y := by rw [hz]; rfl
              rw [this]
              exact hpq⟩
          · exact ⟨y, by simp [hy], hpq⟩
      · rintro p q ⟨y, hy, hpq⟩
        rcases List.mem_append.1 hy with hy | hy
        · exact .inl ⟨y, by rw [e]; simp [hy], hpq⟩
        · rcases List.mem_cons.1 hy with rfl | hy
          · have : prE [.int (mnI a b), .int (mxI a b), .int w] = (mnI a b, mxI a b) := rfl
            rw [this, Prod.mk.injEq, Prod.mk.injEq] at hpq
            refine .inr ?_
            omega
          · exact .inl ⟨y, by rw [e]; simp [hy], hpq⟩
    | no L R e hp hf hL hR =>
      obtain ⟨hup, hnu⟩ := up_no hP (mn_mx a b) e hL hR
      rw [if_neg (by rw [hf]; decide), hp, hm, hup]
      have hnu2 : ¬ up u a b := fun h => hnu (by
        obtain ⟨z, hz, q⟩ := h
        refine ⟨z, hz, ?_⟩
        rcases hab with ⟨q1, q2⟩ | ⟨q1, q2⟩
        · rw [q1, q2]
          exact q
        · rw [q1, q2]
          exact q.symm)
      by_cases h5 : u.length < 512
      · rw [if_pos h5, if_neg (by simp; omega)]
        have ht : u.take ((L.length : Int)).toNat = L := by rw [e]; simp
        have hd : u.drop ((L.length : Int)).toNat = R := by rw [e]; simp
        rw [ht, hd]
        have hpw := hP.2
        rw [e] at hpw
        refine ⟨?_, ⟨fun y hy => ?_, pairw_ins hpw (fun y hy => lx_ed (hL y hy)) (fun y hy => ed_lx (hR y hy))⟩, ?_, ?_, ?_, fun _ _ => hed _ (by simp)⟩
        · conv => rhs; rw [e]
          rw [goU_no _ hL (fun z hz => (hR z hz).1), List.map_append, List.map_append, tr_nrE, List.map_cons, List.map_cons, tr_nrE]
        · rcases List.mem_append.1 hy with hy | hy
          · exact hP.1 y (by rw [e]; simp [hy])
          · rcases List.mem_cons.1 hy with rfl | hy
            · exact may_ed1 hm
            · exact hP.1 y (by rw [e]; simp [hy])
        · rw [e] at h5
          simp only [List.length_append, List.length_cons] at h5 ⊢
          omega
        · rintro p q ⟨y, hy, hpq⟩
          rw [e] at hy
          rcases List.mem_append.1 hy with hy | hy
          · exact ⟨y, by simp [hy], hpq⟩
          · exact ⟨y, by simp [hy], hpq⟩
        · rintro p q ⟨y, hy, hpq⟩
          rcases List.mem_append.1 hy with hy | hy
          · exact .inl ⟨y, by rw [e]; simp [hy], hpq⟩
          · rcases List.mem_cons.1 hy with rfl | hy
            · have : prE [.int (mnI a b), .int (mxI a b), .int w] = (mnI a b, mxI a b) := rfl
              rw [this, Prod.mk.injEq, Prod.mk.injEq] at hpq
              refine .inr ?_
              omega
            · exact .inl ⟨y, by rw [e]; simp [hy], hpq⟩
      · rw [if_neg h5, if_pos (.inr ⟨by omega, by omega⟩)]
        exact ⟨rfl, hP, hn, fun _ _ h => h, fun _ _ h => .inl h, fun _ h => absurd h (by rintro (h | h); exact h5 h; exact hnu2 h)⟩
  · rw [if_neg he, if_pos (.inl (may_no he))]
    exact ⟨rfl, hP, hn, fun _ _ h => h, fun _ _ h => .inl h, fun h => absurd h he⟩
/-! ## What a link that goes down leaves -/
theorem dl_filter {q T : List E} (hq : ∀ y ∈ q, nrm y = y) : dlF q T = q.filter (cyF T) := by
  unfold dlF
  have hm : ∀ l : List E, (∀ y ∈ l, y ∈ q) → l.map nrm = l := fun l hl => by
    conv => rhs; rw [← List.map_id l]
    exact List.map_congr_left fun y hy => hq y (hl y hy)
  split
  · rename_i h
    have hk : ixN q T < q.length := h
    have e : q = q.take (ixN q T) ++ q[ixN q T] :: q.drop (ixN q T + 1) := by
      rw [← List.drop_eq_getElem_cons hk, List.take_append_drop]
    have h1 : ∀ y ∈ q.take (ixN q T), cyF T y = true := fun y hy => by
      obtain ⟨j, hj, rfl⟩ := List.getElem_of_mem hy
      rw [List.length_take] at hj
      rw [List.getElem_take]
      have := List.not_of_lt_findIdx (p := fun y => !cyF T y) (xs := q) (i := j) (by show j < ixN q T; omega)
      simpa using this
    have h2 : cyF T q[ixN q T] = false := by
      have := List.findIdx_getElem (xs := q) (p := fun y => !cyF T y) (w := hk)
      have this : (!cyF T q[ixN q T]) = true := this
      simpa using this
    rw [hm _ (fun y hy => List.mem_of_mem_drop (List.mem_filter.1 hy).1)]
    conv => rhs; rw [e]
    rw [List.filter_append, List.filter_eq_self.2 h1, List.filter_cons, h2]
    rfl
  · rename_i h
    have h1 : ∀ y ∈ q, cyF T y = true := fun y hy => by
      obtain ⟨j, hj, rfl⟩ := List.getElem_of_mem hy
      have h9 : ¬ ixN q T < q.length := h
      have := List.not_of_lt_findIdx (p := fun y => !cyF T y) (xs := q) (i := j) (by show j < ixN q T; omega)
      simpa using this
    exact (List.filter_eq_self.2 h1).symm
theorem dl_off {f T : List E} {p : E → Bool} (h : ∀ z ∈ f, cyF T z = p z) : dlF (cpF f) T = (f.filter p).map nrm := by
  rw [dl_filter (fun y hy => by
    obtain ⟨z, _, rfl⟩ := List.mem_map.1 hy
    rfl)]
  unfold cpF
  rw [List.filter_map]
  congr 1
  exact List.filter_congr fun z hz => h z hz
theorem up_sym {u : List E} {a b : Int} : up u a b ↔ up u b a := by
  unfold up
  exact ⟨fun ⟨z, hz, h⟩ => ⟨z, hz, h.symm⟩, fun ⟨z, hz, h⟩ => ⟨z, hz, h.symm⟩⟩
theorem lower_ok {f u : List E} (hP : P u) (hn : u.length ≤ 512) (hc : ∀ y ∈ f, up u (ri y 0) (ri y 1)) (a b w : Int) : (lwU u a b).map trE = (lkU u 9 a b w).map trE ∧ P (lwU u a b) ∧ (lwU u a b).length ≤ 512 ∧ (∀ p q, up (lwU u a b) p q ↔ up u p q ∧ ¬ (p = a ∧ q = b ∨ p = b ∧ q = a)) ∧ lwQ (cpF f) u (tabF u) a b = offF f (mnI a b) (mxI a b) ∧ (¬ up u a b → lwU u a b = u) := by
  have hl : lkU u 9 a b w = goX u 0 (upX u (mnI a b) (mxI a b)) := by
    unfold lkU
    rw [if_pos rfl, sx_mn, sy_mx]
  rw [hl]
  have hab : (mnI a b = a ∧ mxI a b = b) ∨ (mnI a b = b ∧ mxI a b = a) := by
    unfold mnI mxI
    split <;> split <;> omega
  have hxy := mn_mx a b
  have hset : ∀ p q : Int, (p = a ∧ q = b ∨ p = b ∧ q = a) ↔ (p = mnI a b ∧ q = mxI a b ∨ p = mxI a b ∧ q = mnI a b) := fun p q => by omega
  have huab : up u a b ↔ up u (mnI a b) (mxI a b) := by
    rcases hab with ⟨q1, q2⟩ | ⟨q1, q2⟩
    · rw [q1, q2]
    · rw [q1, q2]
      exact up_sym
  have hof : ∀ z : E, offB (mnI a b) (mxI a b) z = !decide (ri z 0 = mnI a b ∧ ri z 1 = mxI a b ∨ ri z 0 = mxI a b ∧ ri z 1 = mnI a b) := fun z => rfl
  unfold lwU lwQ
  cases cut_of hP.2 (mnI a b) (mxI a b) with
  | hit L R z e hz hp hf hL hR =>
    rw [if_pos hf, if_pos hf, hp, up_hit hP hxy e hz hL]
    have ht : u.take ((L.length : Int)).toNat ++ u.drop ((L.length : Int) + 1).toNat = L ++ R := by
      obtain ⟨t1, t2, _⟩ := tak L R z
      rw [e, t1, t2]
    have hg : goX u 0 (L.length : Int) = (L ++ R).map nrE := by
      conv => lhs; rw [e]
      exact goX_hit L R z
    have hsub : (L ++ R).Sublist u := by
      rw [e]
      exact List.Sublist.append (List.Sublist.refl _) (List.sublist_cons_self _ _)
    rw [ht, hg]
    have hin : ∀ y ∈ L ++ R, prE y ≠ (mnI a b, mxI a b) := fun y hy => by
      rcases List.mem_append.1 hy with hy | hy
      · exact lx_ne (hL y hy)
      · exact (hR y hy).2
    refine ⟨(tr_nrE _).symm, ⟨fun y hy => hP.1 y (hsub.subset hy), hP.2.sublist hsub⟩, Nat.le_trans hsub.length_le hn, fun p q => ?_, ?_, fun h => ?_⟩
    · constructor
      · rintro ⟨y, hy, hpq⟩
        refine ⟨⟨y, hsub.subset hy, hpq⟩, fun g => ?_⟩
        have g := (hset p q).1 g
        have n1 := hin y hy
        have n2 := pr_may (hP.1 y (hsub.subset hy)) hxy
        unfold prE at hpq n1 n2
        rw [Prod.mk.injEq, Prod.mk.injEq] at hpq
        rw [Ne, Prod.mk.injEq] at n1
        rw [Prod.mk.injEq] at n2
        omega
      · rintro ⟨⟨y, hy, hpq⟩, g⟩
        rw [e] at hy
        rcases List.mem_append.1 hy with hy | hy
        · exact ⟨y, by simp [hy], hpq⟩
        · rcases List.mem_cons.1 hy with rfl | hy
          · exfalso
            apply g
            rw [hset]
            rw [hz, Prod.mk.injEq, Prod.mk.injEq] at hpq
            omega
          · exact ⟨y, by simp [hy], hpq⟩
    · refine dl_off (p := offB (mnI a b) (mxI a b)) fun y hy => ?_
      have hyu := hc y hy
      have hnd := up_nod hP.1 hyu
      have hzn := up_nod hP.1 (huab.2 ⟨z, by rw [e]; simp, .inl hz⟩)
      unfold cyF carF
      rw [(nod_iff _).2 hnd.1, (nod_iff _).2 hnd.2.1, setF_at (tab_len u) false (by omega) (by omega), hof]
      by_cases c : ri y 0 = mnI a b ∧ ri y 1 = mxI a b ∨ ri y 0 = mxI a b ∧ ri y 1 = mnI a b
      · rw [if_pos c, decide_eq_true c]
        rfl
      · rw [if_neg c, decide_eq_false c, (tab_at hP.1 (by omega)).2 hyu]
        rfl
    · exact absurd (huab.2 ⟨z, by rw [e]; simp, .inl hz⟩) h
  | no L R e hp hf hL hR =>
    obtain ⟨hup, hnu⟩ := up_no hP hxy e hL hR
    rw [if_neg (by rw [hf]; decide), if_neg (by rw [hf]; decide), hup, goX_past _ u 0 (by decide)]
    refine ⟨(tr_nrE _).symm, hP, hn, fun p q => ⟨fun h => ⟨h, fun g => ?_⟩, fun h => h.1⟩, ?_, fun _ => rfl⟩
    · have hnab : ¬ up u a b := fun h => hnu (huab.1 h)
      rcases g with ⟨rfl, rfl⟩ | ⟨rfl, rfl⟩
      · exact hnab h
      · exact hnab (up_sym.1 h)
    · unfold offF cpF
      rw [List.filter_eq_self.2]
      intro y hy
      rw [hof, decide_eq_false]
      · rfl
      · rintro (⟨q1, q2⟩ | ⟨q1, q2⟩)
        · have := hc y hy
          rw [q1, q2] at this
          exact hnu this
        · have := hc y hy
          rw [q1, q2] at this
          exact hnu (up_sym.1 this)
end Go.Proofs.Ytphbfoafgfnmmaa.SkW
namespace Go.Proofs.Ytphbfoafgfnmmaa.SkH
open Go Go.Proofs.Ytphbfoafgfnmmaa.Ry Go.Proofs.Ytphbfoafgfnmmaa.SkR Go.Proofs.Ytphbfoafgfnmmaa.SkT Go.Proofs.Ytphbfoafgfnmmaa.SkO Go.Proofs.Ytphbfoafgfnmmaa.SkC Go.Proofs.Ytphbfoafgfnmmaa.SkD Go.Proofs.Ytphbfoafgfnmmaa.SkP Go.Proofs.Ytphbfoafgfnmmaa.SkB Go.Proofs.Ytphbfoafgfnmmaa.SkL Go.Proofs.Ytphbfoafgfnmmaa.SkM Go.Proofs.Ytphbfoafgfnmmaa.SkN Go.Proofs.Ytphbfoafgfnmmaa.SkV Go.Proofs.Ytphbfoafgfnmmaa.SkW Go.Proofs.Ytphbfoafgfnmmaa.SkY
open Go.Proofs.Ytphbfoafgfnmmaa.EgR (allE may1 may_1 mayE prE trE nodB EE ofE)
open Go.Proofs.Ytphbfoafgfnmmaa.SkQ (isX upN upX mayA putX)
open Go.Proofs.Ytphbfoafgfnmmaa.SkX (nrE sxI syI goX offB offF hitB goU lkU lkF)
open Go.Proofs.Ytphbfoafgfnmmaa.BeK (modI modB mod_is cutI brI)

theorem at_in {f : List E} (n : Int) (h : 0 < f.length) : 0 ≤ modI n f.length ∧ modI n f.length < f.length := by
  unfold modI
  rw [if_neg (by omega)]
  exact ⟨Int.emod_nonneg n (by omega), Int.emod_lt_of_pos n (by omega)⟩
theorem at_mem {f : List E} (n : Int) (h : 0 < f.length) : atF f n ∈ f := by
  have := at_in n h
  unfold atF
  rw [SkV.getD_at (show (modI n f.length).toNat < f.length by omega)]
  exact List.getElem_mem _
theorem at_cp {f : List E} (n : Int) (h : 0 < f.length) : atF (cpF f) n = nrm (atF f n) := by
  have := at_in n h
  unfold atF
  rw [cp_len, SkV.getD_at (show (modI n f.length).toNat < (cpF f).length by rw [cp_len]; omega), SkV.getD_at (show (modI n f.length).toNat < f.length by omega)]
  unfold cpF
  rw [List.getElem_map]
theorem rm_cp (f : List E) (i : Int) : rmF (cpF f) i = cpF (rmF f i) := by
  unfold rmF cpF
  rw [List.map_append, List.map_take, List.map_drop]
theorem cp_app (f g : List E) : cpF (f ++ g) = cpF f ++ cpF g := List.map_append
theorem cp_set (f : List E) (i : Nat) (y : E) : cpF (f.set i y) = (cpF f).set i (nrm y) := by
  unfold cpF
  rw [List.map_set]
theorem rm_sub {f : List E} (i : Int) : ∀ y ∈ rmF f i, y ∈ f := by
  intro y hy
  unfold rmF at hy
  rcases List.mem_append.1 hy with hy | hy
  · exact List.mem_of_mem_take hy
  · exact List.mem_of_mem_drop hy
theorem rm_len {f : List E} {i : Int} (h0 : 0 ≤ i) (h : i < f.length) : (rmF f i).length + 1 = f.length := by
  unfold rmF
  simp only [List.length_append, List.length_take, List.length_drop]
  omega
/-- What flights an air's acts leave (but acts on links): none too many, none on another way than one that was there. -/
def Sb (f g : List E) : Prop := g.length ≤ 16384 ∧ ∀ y ∈ g, ∃ z ∈ f, ri y 0 = ri z 0 ∧ ri y 1 = ri z 1
theorem V_cp {f u : List E} (h : V f u) : V (cpF f) u := ⟨h.p, h.n, by rw [cp_len]; exact h.m, fun y hy => by
  obtain ⟨z, hz, rfl⟩ := List.mem_map.1 hy
  exact h.c z hz⟩
theorem V_sb {f g u : List E} (h : V f u) (s : Sb f g) : V g u := ⟨h.p, h.n, s.1, fun y hy => by
  obtain ⟨z, hz, e1, e2⟩ := s.2 y hy
  rw [e1, e2]
  exact h.c z hz⟩
theorem rd_other {f u : List E} (hV : V f u) {k a b n w : Int} (h8 : ¬ k = 8) (h9 : ¬ k = 9) : d2Q (cpF f) (tabF u) k b n w = cpF (rdF f u k a b n w) ∧ Sb f (rdF f u k a b n w) := by
  unfold d2Q rdF
  rw [if_neg (show ¬ (k = 8 ∨ k = 9) by omega), cp_len]
  by_cases h0 : f.length = 0
  · rw [if_pos h0, if_pos (.inl h0)]
    exact ⟨rfl, hV.m, fun y hy => ⟨y, hy, rfl, rfl⟩⟩
  have hpos : 0 < f.length := by omega
  obtain ⟨i0, i1⟩ := at_in n hpos
  have hm := at_mem n hpos
  rw [if_neg h0, at_cp n hpos]
  by_cases h23 : k = 2 ∨ k = 3
  · rw [if_pos h23, if_neg (show ¬ (f.length = 0 ∨ k < 2 ∨ k > 7) by omega), if_pos h23]
    have := rm_len i0 i1
    have := hV.m
    exact ⟨rm_cp _ _, by omega, fun y hy => ⟨y, rm_sub _ y hy, rfl, rfl⟩⟩
  rw [if_neg h23]
  by_cases h4 : k = 4
  · rw [if_pos h4, if_neg (show ¬ (f.length = 0 ∨ k < 2 ∨ k > 7) by omega), if_neg h23, if_pos h4]
    unfold putF
    have hcar : carF (tabF u) (ri (nrm (atF f n)) 0) (ri (nrm (atF f n)) 1) = true := (car_iff hV.p.1 (ri (atF f n) 0) (ri (atF f n) 1)).2 (hV.c _ hm)
    rw [hcar, Bool.and_true, cp_len]
    by_cases hl : f.length < 16384
    · rw [if_pos (decide_eq_true hl), if_pos hl, cp_app]
      refine ⟨rfl, by rw [List.length_append, List.length_singleton]; omega, fun y hy => ?_⟩
      rcases List.mem_append.1 hy with hy | hy
      · exact ⟨y, hy, rfl, rfl⟩
      · rw [List.mem_singleton] at hy
        subst hy
        exact ⟨_, hm, rfl, rfl⟩
    · rw [if_neg (by simpa using hl), if_neg hl]
      exact ⟨rfl, hV.m, fun y hy => ⟨y, hy, rfl, rfl⟩⟩
  rw [if_neg h4]
  by_cases h5 : k = 5
  · rw [if_pos h5, if_neg (show ¬ (f.length = 0 ∨ k < 2 ∨ k > 7) by omega), if_neg h23, if_neg h4, if_pos h5, rm_cp, cp_app]
    have := rm_len i0 i1
    have := hV.m
    refine ⟨rfl, by rw [List.length_append, List.length_singleton]; omega, fun y hy => ?_⟩
    rcases List.mem_append.1 hy with hy | hy
    · exact ⟨y, rm_sub _ y hy, rfl, rfl⟩
    · rw [List.mem_singleton] at hy
      subst hy
      exact ⟨_, hm, rfl, rfl⟩
  rw [if_neg h5]
  by_cases h67 : k = 6 ∨ k = 7
  · rw [if_pos h67, if_neg (show ¬ (f.length = 0 ∨ k < 2 ∨ k > 7) by omega), if_neg h23, if_neg h4, if_neg h5]
    have hg : (cpF f).getD (modI n f.length).toNat [] = nrm (atF f n) := by
      have := at_cp n hpos
      unfold atF at this
      rw [cp_len] at this
      exact this
    unfold bnF
    rw [hg]
    have hb : rb (nrm (atF f n)) 3 = rb (atF f n) 3 := rfl
    rw [hb]
    by_cases hr : rb (atF f n) 3 = true
    · rw [if_pos hr, if_pos hr]
      exact ⟨rfl, hV.m, fun y hy => ⟨y, hy, rfl, rfl⟩⟩
    · rw [if_neg hr, if_neg hr, cp_set]
      refine ⟨rfl, by rw [List.length_set]; exact hV.m, fun y hy => ?_⟩
      rcases List.mem_or_eq_of_mem_set hy with hy | rfl
      · exact ⟨y, hy, rfl, rfl⟩
      · exact ⟨_, hm, rfl, rfl⟩
  · rw [if_neg h67, if_pos (show f.length = 0 ∨ k < 2 ∨ k > 7 by omega)]
    exact ⟨rfl, hV.m, fun y hy => ⟨y, hy, rfl, rfl⟩⟩
/-- Each act. -/
theorem act_ok {f u : List E} (hV : V f u) (k a b n w : Int) : adF f u k a b n w = cpF (rdF f u k a b n w) ∧ (adU f u k a b w).map trE = (rdU u k a b w).map trE ∧ adG f u k a b n = rdG f k n ∧ V (adF f u k a b n w) (adU f u k a b w) := by
  have hch := (ch_V f u).2 hV
  unfold adF adU adG
  rw [if_pos hch, if_pos hch, if_pos hch]
  unfold doQ
  by_cases h9 : k = 9
  · subst h9
    obtain ⟨l1, l2, l3, l4, l5, _⟩ := lower_ok (f := f) hV.p hV.n hV.c a b w
    have e1 : d1Q (cpF f) u (tabF u) 9 a b = offF f (mnI a b) (mxI a b) := l5
    have e2 : d1U u 9 a b w = lwU u a b := rfl
    have e3 : rdF f u 9 a b n w = offF f (mnI a b) (mxI a b) := by
      show lkF f 9 a b = _
      unfold lkF
      rw [if_pos rfl, sx_mn, sy_mx]
    have e4 : rdU u 9 a b w = lkU u 9 a b w := rfl
    have e5 : ∀ q T, d2Q q T 9 b n w = q := fun q T => by
      unfold d2Q
      split
      · rfl
      · rw [if_neg (by decide), if_neg (by decide), if_neg (by decide), if_neg (by decide)]
    have hcp : cpF (offF f (mnI a b) (mxI a b)) = offF f (mnI a b) (mxI a b) := by
      unfold offF
      exact cp_cp _
    rw [e5, e1, e2, e3, e4, hcp]
    refine ⟨rfl, l1, ?_, l2, l3, ?_, fun y hy => ?_⟩
    · unfold doF rdG
      rw [if_neg (by rintro ⟨q, _⟩; omega), if_pos (.inr (by decide))]
    · unfold offF
      rw [List.length_map]
      exact Nat.le_trans (List.length_filter_le _ _) hV.m
    · obtain ⟨z, hz, rfl⟩ := List.mem_map.1 hy
      obtain ⟨hz1, hz2⟩ := List.mem_filter.1 hz
      refine (l4 _ _).2 ⟨hV.c z hz1, fun g => ?_⟩
      unfold offB at hz2
      rw [Bool.not_eq_true', decide_eq_false_iff_not] at hz2
      apply hz2
      have g : ri z 0 = a ∧ ri z 1 = b ∨ ri z 0 = b ∧ ri z 1 = a := g
      unfold mnI mxI
      split <;> split <;> omega
  by_cases h8 : k = 8
  · subst h8
    obtain ⟨l1, l2, l3, l4, _, _⟩ := raise_ok hV.p hV.n a b w
    have e1 : d1Q (cpF f) u (tabF u) 8 a b = cpF f := rfl
    have e2 : d1U u 8 a b w = raU u a b w := rfl
    have e3 : rdF f u 8 a b n w = f := rfl
    have e4 : rdU u 8 a b w = lkU u 8 a b w := rfl
    have e5 : ∀ q T, d2Q q T 8 b n w = q := fun q T => by
      unfold d2Q
      split
      · rfl
      · rw [if_neg (by decide), if_neg (by decide), if_neg (by decide), if_neg (by decide)]
    rw [e5, e1, e2, e3, e4]
    refine ⟨rfl, l1, ?_, l2, l3, by rw [cp_len]; exact hV.m, fun y hy => ?_⟩
    · unfold doF rdG
      rw [if_neg (by rintro ⟨q, _⟩; omega), if_pos (.inr (by decide))]
    · obtain ⟨z, hz, rfl⟩ := List.mem_map.1 hy
      exact l4 _ _ (hV.c z hz)
  · have e1 : d1Q (cpF f) u (tabF u) k a b = cpF f := by
      unfold d1Q
      rw [if_neg h9]
    have e2 : d1U u k a b w = u := by
      unfold d1U
      rw [if_neg h8, if_neg h9]
    have e3 : d1T u (tabF u) k a b w = tabF u := by
      unfold d1T
      rw [if_neg h8, if_neg h9]
    have e4 : rdU u k a b w = u := by
      unfold rdU
      rw [if_neg (by omega)]
    obtain ⟨r1, r2⟩ := rd_other hV (a := a) (b := b) (n := n) (w := w) h8 h9
    rw [e1, e2, e3, e4, r1]
    refine ⟨rfl, rfl, ?_, V_cp (V_sb hV r2)⟩
    unfold doF rdG
    rw [cp_len]
    by_cases h0 : f.length = 0
    · rw [if_neg (by rintro ⟨_, q⟩; exact q h0), if_pos (.inl h0)]
    · by_cases h2 : k = 2
      · rw [if_pos ⟨h2, h0⟩, if_neg (by rintro (q | q); exact h0 q; exact q h2), at_cp n (by omega)]
        rfl
      · rw [if_neg (by rintro ⟨q, _⟩; exact h2 q), if_pos (.inr h2)]
end Go.Proofs.Ytphbfoafgfnmmaa.SkH
