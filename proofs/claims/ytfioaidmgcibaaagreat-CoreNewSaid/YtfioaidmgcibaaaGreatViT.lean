/-
  Views: what the search finds, what inner links are, and how many there are. No condition.
-/
import Derived.Test.YtfioaidmgcibaaaGreatViL
namespace Go.Proofs.YtfioaidmgcibaaaGreat.ViT
open Go Go.Proofs.YtfioaidmgcibaaaGreat.Ry Go.Proofs.YtfioaidmgcibaaaGreat.ViR Go.Proofs.YtfioaidmgcibaaaGreat.ViL

def ln (x y : E) : Prop := ri x 0 < ri y 0 ∨ ri x 0 = ri y 0 ∧ ri x 1 < ri y 1
theorem ln_tr {x y z : E} (h : ln x y) (g : ln y z) : ln x z := by unfold ln at *; omega
theorem ln_irr (x : E) : ¬ ln x x := by unfold ln; omega
theorem may_l {n : List Int} {l : List E} (h : mayV n l = true) : ∀ i, i < l.length → mb1 (l.getD i []) = true ∧ n.contains (ri (l.getD i []) 0) = true ∧ (0 < i → ln (l.getD (i - 1) []) (l.getD i [])) := by
  unfold mayV at h
  rw [Bool.and_eq_true] at h
  intro i hi
  have g := all_iff.1 h.2 i hi
  unfold okL at g
  rw [decide_eq_true_eq] at g
  exact ⟨g.1, g.2.1, fun k => (kcm_lt _ _ _ _).1 (g.2.2 k)⟩
theorem may_n {n : List Int} {l : List E} (h : mayV n l = true) : riseN n = true := by
  unfold mayV at h
  rw [Bool.and_eq_true] at h
  exact h.1
theorem ln_at {n : List Int} {l : List E} (h : mayV n l = true) : ∀ (j i : Nat), i < j → j < l.length → ln (l.getD i []) (l.getD j [])
  | 0, _, h1, _ => absurd h1 (Nat.not_lt_zero _)
  | j + 1, i, h1, h2 => by
    have g := (may_l h (j + 1) h2).2.2 (Nat.zero_lt_succ _)
    rw [Nat.add_sub_cancel] at g
    by_cases e : i = j
    · rw [e]
      exact g
    · exact ln_tr (ln_at h j i (by omega) (by omega)) g
theorem may_pw {n : List Int} {l : List E} (h : mayV n l = true) : l.Pairwise ln := by
  rw [List.pairwise_iff_getElem]
  intro i j hi hj hij
  have := ln_at h j i hij hj
  rw [at_rec l _ hi, at_rec l _ hj] at this
  exact this
theorem may_nd {n : List Int} {l : List E} (h : mayV n l = true) : l.Nodup := List.Pairwise.imp (R := ln) (S := fun x y => x ≠ y) (fun {x y} k e => ln_irr x (by rw [← e] at k; exact k)) (may_pw h)
theorem pw_uni : ∀ {l : List E}, l.Pairwise ln → ∀ {y z : E}, y ∈ l → z ∈ l → ri y 0 = ri z 0 → ri y 1 = ri z 1 → y = z
  | [], _, _, _, hy, _, _, _ => by cases hy
  | x :: l, h, y, z, hy, hz, e0, e1 => by
    obtain ⟨h1, h2⟩ := List.pairwise_cons.1 h
    rcases List.mem_cons.1 hy with rfl | hy
    · rcases List.mem_cons.1 hz with rfl | hz
      · rfl
      · have := h1 z hz
        unfold ln at this
        omega
    · rcases List.mem_cons.1 hz with e | hz
      · have := h1 y hy
        rw [e] at e0 e1
        unfold ln at this
        omega
      · exact pw_uni h2 hy hz e0 e1
/-- In links in order the search finds what is there. -/
theorem bk_mem {n : List Int} {l : List E} (h : mayV n l = true) (a p : Int) : (bkB l a p = true → l.getD (bkL l a p).toNat [] ∈ l ∧ ri (l.getD (bkL l a p).toNat []) 0 = a ∧ ri (l.getD (bkL l a p).toNat []) 1 = p) ∧ ((∃ y ∈ l, ri y 0 = a ∧ ri y 1 = p) → bkB l a p = true) := by
  have hs := bs_spec (ltK l a p) l.length l.length 0 l.length (Int.le_refl 0) (Int.natCast_nonneg _) (Int.le_refl _) (by omega) (fun x x0 x1 => by omega) (fun x x0 x1 => by omega) (fun x y x0 hxy hy hf => by
    unfold ltK at *
    rw [decide_eq_true_eq, kcm_lt] at *
    by_cases e : x = y
    · rw [e]; exact hf
    · have := ln_at h y.toNat x.toNat (by omega) (by omega)
      unfold ln at this
      omega)
  obtain ⟨s0, s1, s2, s3⟩ := hs
  have e : bsN (ltK l a p) l.length 0 l.length = bkL l a p := rfl
  rw [e] at s0 s1 s2 s3
  constructor
  · intro hb
    unfold bkB at hb
    rw [decide_eq_true_eq, kcm_0] at hb
    refine ⟨?_, hb.2⟩
    have hi : (bkL l a p).toNat < l.length := by omega
    rw [at_rec l _ hi]
    exact List.getElem_mem hi
  · rintro ⟨y, hy, y0, y1⟩
    obtain ⟨k, hk, hky⟩ := List.getElem_of_mem hy
    have hk2 : l.getD k [] = y := by rw [at_rec l k hk]; exact hky
    have k1 : bkL l a p ≤ k := by
      by_cases c : bkL l a p ≤ k
      · exact c
      · have := s2 k (by omega) (by omega)
        unfold ltK at this
        rw [decide_eq_true_eq, kcm_lt, Int.toNat_natCast, hk2] at this
        omega
    have k2 : ¬ bkL l a p < k := fun c => by
      have q := ln_at h k (bkL l a p).toNat (by omega) hk
      have b := s3 (bkL l a p) (Int.le_refl _) (by omega)
      unfold ltK at b
      rw [decide_eq_false_iff_not, kcm_lt] at b
      rw [hk2] at q
      unfold ln at q
      omega
    have ee : bkL l a p = k := by omega
    unfold bkB
    rw [ee, Int.toNat_natCast, hk2, decide_eq_true_eq, kcm_0]
    exact ⟨by omega, y0, y1⟩
/-- The answer's inner links. -/
def rin1 (y z : E) : List E := if ri y 0 < ri y 1 ∧ ri y 0 = ri z 1 ∧ ri y 1 = ri z 0 ∧ ri y 2 = ri z 2 ∧ ri y 3 = ri z 3 then [[D.int (ri y 0), D.int (ri y 1), D.int (ri y 2), D.int (ri y 3), D.bool (rb y 4 && rb z 4)]] else []
def rinF (l : List E) : List E := l.flatMap fun y => l.flatMap (rin1 y)
theorem fm_nil {g : E → List E} : ∀ {l : List E}, (∀ z ∈ l, g z = []) → l.flatMap g = []
  | [], _ => rfl
  | x :: l, h => by
    rw [List.flatMap_cons, h x (List.mem_cons_self ..), List.nil_append]
    exact fm_nil fun z hz => h z (List.mem_cons_of_mem _ hz)
theorem fm_one {g : E → List E} {w : E} : ∀ {l : List E}, l.Nodup → w ∈ l → (∀ z ∈ l, z ≠ w → g z = []) → l.flatMap g = g w
  | [], _, h, _ => by cases h
  | x :: l, nd, hw, h => by
    obtain ⟨n1, n2⟩ := List.nodup_cons.1 nd
    rw [List.flatMap_cons]
    by_cases e : x = w
    · rw [e] at n1 ⊢
      rw [fm_nil (fun z hz => h z (List.mem_cons_of_mem _ hz) fun q => n1 (q ▸ hz)), List.append_nil]
    · rw [h x (List.mem_cons_self ..) e, List.nil_append]
      exact fm_one n2 ((List.mem_cons.1 hw).resolve_left fun q => e q.symm) fun z hz => h z (List.mem_cons_of_mem _ hz)
theorem in1_eq {n : List Int} {l : List E} (h : mayV n l = true) (y : E) : l.flatMap (rin1 y) = in1 l y := by
  obtain ⟨b1, b2⟩ := bk_mem h (ri y 1) (ri y 0)
  by_cases hb : bkB l (ri y 1) (ri y 0) = true
  · obtain ⟨m1, m2, m3⟩ := b1 hb
    rw [fm_one (w := l.getD (bkL l (ri y 1) (ri y 0)).toNat []) (may_nd h) m1 (fun z hz ne => ?_)]
    · unfold in1 rin1 knW
      rw [if_pos hb]
      simp only [m2, m3, hb]
      have c : (ri y 0 < ri y 1 ∧ True ∧ True ∧ ri y 2 = ri (l.getD (bkL l (ri y 1) (ri y 0)).toNat []) 2 ∧ ri y 3 = ri (l.getD (bkL l (ri y 1) (ri y 0)).toNat []) 3) ↔ (ri y 0 < ri y 1 ∧ True ∧ ri (l.getD (bkL l (ri y 1) (ri y 0)).toNat []) 2 = ri y 2 ∧ ri (l.getD (bkL l (ri y 1) (ri y 0)).toNat []) 3 = ri y 3) := by
        constructor
        · rintro ⟨a, _, _, b, c⟩
          exact ⟨a, trivial, b.symm, c.symm⟩
        · rintro ⟨a, _, b, c⟩
          exact ⟨a, trivial, trivial, b.symm, c.symm⟩
      simp only [c]
    · unfold rin1
      rw [if_neg]
      rintro ⟨_, e0, e1, _⟩
      exact ne (pw_uni (may_pw h) hz m1 (by rw [m2, e1]) (by rw [m3, e0]))
  · have hn : in1 l y = [] := by
      unfold in1
      rw [if_neg fun q => hb q.2.1]
    rw [hn]
    refine fm_nil fun z hz => ?_
    unfold rin1
    rw [if_neg]
    rintro ⟨_, e0, e1, _⟩
    exact hb (b2 ⟨z, hz, e1.symm, e0.symm⟩)
theorem in_eq {n : List Int} {l : List E} (h : mayV n l = true) : rinF l = inF l := by
  unfold rinF inF
  congr 1
  funext y
  exact in1_eq h y
/-- What an inner link is. -/
theorem in_mem {n : List Int} {l : List E} (h : mayV n l = true) {a : E} (ha : a ∈ inF l) : ∃ y ∈ l, ∃ z ∈ l, ri y 0 < ri y 1 ∧ ri z 0 = ri y 1 ∧ ri z 1 = ri y 0 ∧ ri z 2 = ri y 2 ∧ ri z 3 = ri y 3 ∧ a = [D.int (ri y 0), D.int (ri y 1), D.int (ri y 2), D.int (ri y 3), D.bool (rb y 4 && rb z 4)] := by
  rw [← in_eq h] at ha
  unfold rinF at ha
  obtain ⟨y, hy, ha⟩ := List.mem_flatMap.1 ha
  obtain ⟨z, hz, ha⟩ := List.mem_flatMap.1 ha
  unfold rin1 at ha
  split at ha
  · rename_i c
    rw [List.mem_singleton] at ha
    exact ⟨y, hy, z, hz, c.1, c.2.2.1.symm, c.2.1.symm, c.2.2.2.1.symm, c.2.2.2.2.symm, ha⟩
  · cases ha
theorem nd_len : ∀ {k l : List E}, k.Nodup → (∀ y ∈ k, y ∈ l) → k.length ≤ l.length
  | [], _, _, _ => Nat.zero_le _
  | x :: k, l, nd, h => by
    obtain ⟨n1, n2⟩ := List.nodup_cons.1 nd
    obtain ⟨l1, l2, e⟩ := List.append_of_mem (h x (List.mem_cons_self ..))
    have := nd_len (l := l1 ++ l2) n2 fun y hy => by
      have m := h y (List.mem_cons_of_mem _ hy)
      rw [e] at m
      rcases List.mem_append.1 m with m | m
      · exact List.mem_append_left _ m
      · rcases List.mem_cons.1 m with rfl | m
        · exact absurd hy n1
        · exact List.mem_append_right _ m
    rw [e]
    simp only [List.length_append, List.length_cons] at this ⊢
    omega
open Classical in
theorem count_two {l : List E} (nd : l.Nodup) {y z : E} (hy : y ∈ l) (hz : z ∈ l) (ne : y ≠ z) {p : E → Bool} (hp : ∀ x ∈ l, p x = true ↔ x = y ∨ x = z) : l.countP p = 2 := by
  rw [List.countP_eq_length_filter]
  have e : (l.filter p).Perm [y, z] := (List.perm_ext_iff_of_nodup (nd.sublist List.filter_sublist) (by simp [ne])).2 fun x => by
    rw [List.mem_filter]
    constructor
    · rintro ⟨a, b⟩
      rcases (hp x a).1 b with rfl | rfl <;> simp
    · intro hx
      rcases List.mem_cons.1 hx with rfl | hx
      · exact ⟨hy, (hp _ hy).2 (.inl rfl)⟩
      · rw [List.mem_singleton] at hx
        subst hx
        exact ⟨hz, (hp _ hz).2 (.inr rfl)⟩
  exact e.length_eq
/-- Is a link on the edge of another one, of its session? -/
def onE (a x : E) : Bool := decide (edA (ri x 0) (ri x 1) = edA (ri a 0) (ri a 1) ∧ edB (ri x 0) (ri x 1) = edB (ri a 0) (ri a 1) ∧ ri x 2 = ri a 2 ∧ ri x 3 = ri a 3)
theorem in_two {n : List Int} {l : List E} (h : mayV n l = true) {a : E} (ha : a ∈ inF l) : l.countP (onE a) = 2 ∧ ri a 0 < ri a 1 := by
  obtain ⟨y, hy, z, hz, c0, c1, c2, c3, c4, rfl⟩ := in_mem h ha
  refine ⟨count_two (may_nd h) hy hz (fun e => by rw [← e] at c1; omega) fun x hx => ?_, c0⟩
  unfold onE
  rw [decide_eq_true_eq]
  show edA (ri x 0) (ri x 1) = edA (ri y 0) (ri y 1) ∧ edB (ri x 0) (ri x 1) = edB (ri y 0) (ri y 1) ∧ ri x 2 = ri y 2 ∧ ri x 3 = ri y 3 ↔ _
  constructor
  · rintro ⟨e1, e2, e3, e4⟩
    unfold edA at e1
    unfold edB at e2
    by_cases q : ri x 0 = ri y 0 ∧ ri x 1 = ri y 1
    · exact .inl (pw_uni (may_pw h) hx hy q.1 q.2)
    · refine .inr (pw_uni (may_pw h) hx hz ?_ ?_)
      all_goals (split at e1 <;> split at e1 <;> split at e2 <;> omega)
  · rintro (rfl | rfl)
    · exact ⟨rfl, rfl, rfl, rfl⟩
    · rw [c1, c2, c3, c4]
      unfold edA edB
      refine ⟨?_, ?_, rfl, rfl⟩
      all_goals (split <;> split <;> omega)
theorem fm_filter {f : E → List E} {p : E → Bool} (h1 : ∀ y, p y = true → (f y).length = 1) (h0 : ∀ y, p y = false → f y = []) : ∀ l : List E, (l.flatMap f).length = (l.filter p).length
  | [] => rfl
  | y :: l => by
    rw [List.flatMap_cons, List.length_append, fm_filter h1 h0 l, List.filter_cons]
    cases hp : p y
    · rw [h0 y hp]
      simp
    · rw [h1 y hp]
      simp [Nat.add_comm]
theorem nd_map {f : E → E} : ∀ {l : List E}, l.Nodup → (∀ y ∈ l, ∀ z ∈ l, f y = f z → y = z) → (l.map f).Nodup
  | [], _, _ => List.nodup_nil
  | x :: l, nd, h => by
    obtain ⟨n1, n2⟩ := List.nodup_cons.1 nd
    rw [List.map_cons, List.nodup_cons]
    refine ⟨fun m => ?_, nd_map n2 fun y hy z hz => h y (List.mem_cons_of_mem _ hy) z (List.mem_cons_of_mem _ hz)⟩
    obtain ⟨w, hw, e⟩ := List.mem_map.1 m
    exact n1 (h x (List.mem_cons_self ..) w (List.mem_cons_of_mem _ hw) e.symm ▸ hw)
open Classical in
theorem tells_len {n : List Int} {l : List E} (h : mayV n l = true) : 2 * (inF l).length + (ouF n l).length ≤ l.length := by
  have hI : (inF l).length = (l.filter fun y => decide (in1 l y ≠ [])).length := fm_filter (p := fun y => decide (in1 l y ≠ [])) (fun y hp => by
    have hp := of_decide_eq_true hp
    unfold in1 at hp ⊢
    split
    · rfl
    · rename_i q
      rw [if_neg q] at hp
      exact absurd rfl hp) (fun y hp => by
    have hp := of_decide_eq_false hp
    exact Classical.not_not.1 hp) l
  have hO : (ouF n l).length = (l.filter fun y => decide (ou1 n y ≠ [])).length := fm_filter (p := fun y => decide (ou1 n y ≠ [])) (fun y hp => by
    have hp := of_decide_eq_true hp
    unfold ou1 at hp ⊢
    split
    · rename_i q
      rw [if_pos q] at hp
      exact absurd rfl hp
    · rfl) (fun y hp => by
    have hp := of_decide_eq_false hp
    exact Classical.not_not.1 hp) l
  have iI : ∀ y, in1 l y ≠ [] → ri y 0 < ri y 1 ∧ bkB l (ri y 1) (ri y 0) = true := fun y q => by
    unfold in1 at q
    by_cases c : ri y 0 < ri y 1 ∧ bkB l (ri y 1) (ri y 0) = true ∧ (knW l (ri y 1) (ri y 0)).w = ri y 2 ∧ (knW l (ri y 1) (ri y 0)).s = ri y 3
    · exact ⟨c.1, c.2.1⟩
    · rw [if_neg c] at q
      exact absurd rfl q
  have iO : ∀ y, ou1 n y ≠ [] → ¬ n.contains (ri y 1) = true := fun y q c => by
    unfold ou1 at q
    rw [if_pos c] at q
    exact q rfl
  let f : E → E := fun y => l.getD (bkL l (ri y 1) (ri y 0)).toNat []
  have inN : ∀ y ∈ l, n.contains (ri y 0) = true := fun y hy => by
    obtain ⟨k, hk, e⟩ := List.getElem_of_mem hy
    have := (may_l h k hk).2.1
    rw [at_rec l k hk, e] at this
    exact this
  have fI : ∀ y, in1 l y ≠ [] → f y ∈ l ∧ ri (f y) 0 = ri y 1 ∧ ri (f y) 1 = ri y 0 := fun y q => (bk_mem h _ _).1 (iI y q).2
  have nI := (may_nd h).sublist (List.filter_sublist (p := fun y => decide (in1 l y ≠ [])))
  have nO := (may_nd h).sublist (List.filter_sublist (p := fun y => decide (ou1 n y ≠ [])))
  have mI : ∀ {y}, y ∈ l.filter (fun y => decide (in1 l y ≠ [])) → y ∈ l ∧ in1 l y ≠ [] := fun {y} q => by
    rw [List.mem_filter, decide_eq_true_eq] at q
    exact q
  have mO : ∀ {y}, y ∈ l.filter (fun y => decide (ou1 n y ≠ [])) → y ∈ l ∧ ou1 n y ≠ [] := fun {y} q => by
    rw [List.mem_filter, decide_eq_true_eq] at q
    exact q
  have nJ : ((l.filter fun y => decide (in1 l y ≠ [])).map f).Nodup := nd_map nI fun y hy z hz e => by
    obtain ⟨y1, y2⟩ := mI hy
    obtain ⟨z1, z2⟩ := mI hz
    obtain ⟨_, a1, a2⟩ := fI y y2
    obtain ⟨_, b1, b2⟩ := fI z z2
    rw [e] at a1 a2
    exact pw_uni (may_pw h) y1 z1 (by rw [← a2, b2]) (by rw [← a1, b1])
  have all : ((l.filter fun y => decide (in1 l y ≠ [])) ++ ((l.filter fun y => decide (in1 l y ≠ [])).map f ++ l.filter fun y => decide (ou1 n y ≠ []))).Nodup := by
    rw [List.nodup_append]
    refine ⟨nI, ?_, fun y hy z hz e => ?_⟩
    · rw [List.nodup_append]
      refine ⟨nJ, nO, fun y hy z hz e => ?_⟩
      subst e
      obtain ⟨w, hw, rfl⟩ := List.mem_map.1 hy
      obtain ⟨w1, w2⟩ := mI hw
      obtain ⟨_, a1, a2⟩ := fI w w2
      have := iO _ (mO hz).2
      rw [a2] at this
      exact this (inN w w1)
    · subst e
      obtain ⟨y1, y2⟩ := mI hy
      rcases List.mem_append.1 hz with hz | hz
      · obtain ⟨w, hw, e⟩ := List.mem_map.1 hz
        obtain ⟨w1, w2⟩ := mI hw
        obtain ⟨_, a1, a2⟩ := fI w w2
        have k1 := (iI w w2).1
        have k2 := (iI y y2).1
        rw [e] at a1 a2
        omega
      · have := iO _ (mO hz).2
        obtain ⟨p1, p2, p3⟩ := fI y y2
        have q := inN _ p1
        rw [p2] at q
        exact this q
  have len := nd_len (l := l) all fun y hy => by
    rcases List.mem_append.1 hy with hy | hy
    · exact (mI hy).1
    · rcases List.mem_append.1 hy with hy | hy
      · obtain ⟨w, hw, rfl⟩ := List.mem_map.1 hy
        exact (fI w (mI hw).2).1
      · exact (mO hy).1
  rw [List.length_append, List.length_append, List.length_map] at len
  rw [hI, hO]
  omega
theorem bo_len (l : List E) : (boF l).length ≤ l.length := fm_len bo1_len l
end Go.Proofs.YtfioaidmgcibaaaGreat.ViT
