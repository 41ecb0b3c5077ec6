/-
  Ways node by node: what follows on each; the heaviest edge. No condition.
-/
import Derived.Test.YtodglgdenjjjgaaTrR
namespace Go.Proofs.Ytodglgdenjjjgaa.TrC
open Go Go.Proofs.Ytodglgdenjjjgaa.Ry Go.Proofs.Ytodglgdenjjjgaa.So Go.Proofs.Ytodglgdenjjjgaa.JoS Go.Proofs.Ytodglgdenjjjgaa.EgR Go.Proofs.Ytodglgdenjjjgaa.EgL Go.Proofs.Ytodglgdenjjjgaa.SpR Go.Proofs.Ytodglgdenjjjgaa.SpQ Go.Proofs.Ytodglgdenjjjgaa.SpK Go.Proofs.Ytodglgdenjjjgaa.SpT Go.Proofs.Ytodglgdenjjjgaa.SpL Go.Proofs.Ytodglgdenjjjgaa.SpN Go.Proofs.Ytodglgdenjjjgaa.TrK Go.Proofs.Ytodglgdenjjjgaa.TrB Go.Proofs.Ytodglgdenjjjgaa.TrR Go.Proofs.Ytodglgdenjjjgaa.EcX

theorem nb_ix {p : List Int} {u v : Int} (h : Nb p u v) : ∃ i, i + 1 < p.length ∧ p.getD i 0 = u ∧ p.getD (i + 1) 0 = v := by
  induction h with
  | @here x z p => exact ⟨0, by simp, rfl, rfl⟩
  | @more x z w p _ ih =>
    obtain ⟨i, h1, h2, h3⟩ := ih
    exact ⟨i + 1, by simp only [List.length_cons]; omega, by simpa using h2, by simpa using h3⟩
theorem nd_ix {p : List Int} (nd : p.Nodup) {i j : Nat} (hi : i < p.length) (hj : j < p.length) (e : p.getD i 0 = p.getD j 0) : i = j := by
  rw [List.getD_eq_getElem?_getD, List.getD_eq_getElem?_getD, List.getElem?_eq_getElem hi, List.getElem?_eq_getElem hj] at e
  exact (List.getElem_inj nd).1 e
theorem way_step {l : List T} {a b : Int} {p : List Int} (h : Wy l b a p) : ∀ n, n + 1 < p.length → ∃ y ∈ l, En y (p.getD n 0) (p.getD (n + 1) 0) := by
  induction h with
  | one =>
    intro n hn
    simp at hn
  | @go a c p y hy e w _ ih =>
    intro n hn
    obtain ⟨q, rfl⟩ := way_hd w
    cases n with
    | zero => exact ⟨y, hy, e⟩
    | succ n =>
      obtain ⟨z, hz, ez⟩ := ih n (by simpa using hn)
      exact ⟨z, hz, by simpa using ez⟩
theorem way_last {l : List T} {a b : Int} {p : List Int} (h : Wy l b a p) : ∀ n, n < p.length → (p.getD n 0 = b ↔ n + 1 = p.length) := by
  induction h with
  | one =>
    intro n hn
    simp only [List.length_singleton] at hn ⊢
    have : n = 0 := by omega
    rw [this]
    simp
  | @go a c p y hy e w na ih =>
    intro n hn
    cases n with
    | zero =>
      have := way_end w
      obtain ⟨q, eq⟩ := way_hd w
      constructor
      · intro k
        have k : a = b := k
        rw [k] at na
        exact absurd this na
      · intro k
        rw [eq] at k
        simp at k
    | succ n =>
      have := ih n (by simpa using hn)
      simpa using this
/-- Behind each node of a way comes the next one. -/
theorem way_next {l : List T} (f : Fo l) {a b : Int} {p : List Int} (h : Wy l b a p) {n : Nat} (hn : n + 1 < p.length) :
    (∃ y ∈ l, y.1 ∈ p ∧ y.2.1 ∈ p ∧ En y (p.getD n 0) (p.getD (n + 1) 0)) ∧
    (∀ y ∈ l, y.1 ∈ p → y.2.1 ∈ p → ∀ c, En y (p.getD n 0) c → c = p.getD (n + 1) 0 ∨ (1 ≤ n ∧ c = p.getD (n - 1) 0)) ∧ (1 ≤ n → ¬ p.getD (n + 1) 0 = p.getD (n - 1) 0) := by
  have nd := way_nd h
  refine ⟨?_, fun y hy h1 h2 c e => ?_, fun k e => ?_⟩
  · obtain ⟨y, hy, e⟩ := way_step h n hn
    have m1 := gd_mem (m := p) (i := n) (by omega)
    have m2 := gd_mem hn
    refine ⟨y, hy, ?_, ?_, e⟩
    · rcases e with ⟨e1, _⟩ | ⟨_, e1⟩ <;> rw [e1] <;> assumption
    · rcases e with ⟨_, e1⟩ | ⟨e1, _⟩ <;> rw [e1] <;> assumption
  · obtain ⟨u, v, hb, e2, _, _⟩ := way_on f h hy h1 h2
    obtain ⟨i, i1, i2, i3⟩ := nb_ix hb
    have hne := f.ne hy e
    by_cases k : p.getD n 0 = u
    · have := nd_ix nd (by omega) (by omega) (k.trans i2.symm)
      subst this
      left
      rw [i3]
      rw [k] at e
      exact en_same e e2 (by rw [← k]; exact hne)
    · have kv : p.getD n 0 = v := by
        unfold En at e e2
        omega
      have := nd_ix nd (by omega) i1 (kv.trans i3.symm)
      right
      refine ⟨by omega, ?_⟩
      rw [this, Nat.add_sub_cancel, i2]
      rw [kv] at e
      exact en_same e (en_symm e2) (by rw [← kv]; exact hne)
  · have := nd_ix nd hn (by omega) e
    omega
theorem fol_2 {h : List Int} {a b : Int} {p : List Int} {l : List T} (w : Wy l b a p) (g : Fol h a p) (n : a ≠ b) : 1 < p.length ∧ p.getD 1 0 = ix h a ∧ p.getD 0 0 = a := by
  cases g with
  | one e =>
    cases w with
    | one => exact absurd rfl n
    | go _ _ w _ => cases w
  | go e g2 =>
    cases g2 with
    | one _ => exact ⟨by simp, rfl, rfl⟩
    | go _ _ => exact ⟨by simp, rfl, rfl⟩
theorem fol_1 {h : List Int} {b : Int} {p : List Int} {l : List T} (w : Wy l b b p) (g : Fol h b p) : ix h b = b ∧ p = [b] := by
  cases w with
  | one =>
    cases g with
    | one e => exact ⟨e, rfl⟩
    | go _ g2 => cases g2
  | go _ _ w n => exact absurd (way_end w) n
/-- Is an edge between two of some nodes? -/
def onP (p : List Int) (y : E) : Bool := con p (ri y 0) && con p (ri y 1)
def onF (l : List E) (p : List Int) : List E := (l.filter (onP p)).map e3
theorem onP_iff (p : List Int) (y : E) : onP p y = true ↔ (trE y).1 ∈ p ∧ (trE y).2.1 ∈ p := by
  unfold onP con
  rw [Bool.and_eq_true, decide_eq_true_eq, decide_eq_true_eq]
  exact Iff.rfl
/-- The answer's edges of a way. -/
def onR (l : List E) (a b : Int) : List E := (l.filter fun y => !lkR (butF l (trE y)) a b).map e3
theorem in_but {l : List E} (h : inR l = true) (c : T) : inR (butF l c) = true := by
  obtain ⟨h1, h2⟩ := inR_iff.1 h
  refine inR_iff.2 ⟨Nat.le_trans (but_len l c) h1, fun y hy => ?_⟩
  unfold butF at hy
  obtain ⟨z, hz, rfl⟩ := List.mem_map.1 hy
  exact h2 z ((List.mem_filter.1 hz).1)
theorem but_ok {l : List E} (f : ∀ y ∈ l, okT (trE y)) (c : T) : ∀ y ∈ butF l c, okT (trE y) := by
  intro y hy
  unfold butF at hy
  obtain ⟨z, hz, rfl⟩ := List.mem_map.1 hy
  exact f z ((List.mem_filter.1 hz).1)
theorem but_cn {l : List E} (f : Fo (l.map trE)) (c : T) (a b : Int) : lkR (butF l c) a b = true ↔ nod a ∧ nod b ∧ Cn (wo (l.map trE) c) a b := by
  rw [lk_iff (but_ok (fun y hy => f.ok _ (List.mem_map_of_mem hy)) c), but_map]
  exact Iff.rfl
theorem on_eq {l : List E} (f : Fo (l.map trE)) {a b : Int} (ha : nod a) (hb : nod b) {p : List Int} (w : Wy (l.map trE) b a p) : onR l a b = onF l p := by
  unfold onR onF
  congr 1
  refine List.filter_congr fun y hy => ?_
  have h1 := way_iff f w (List.mem_map_of_mem (f := trE) hy)
  have h2 := but_cn f (trE y) a b
  have h3 := onP_iff p y
  rw [Bool.eq_iff_iff, h3, ← h1, Bool.not_eq_true', ← Bool.not_eq_true, h2]
  exact ⟨fun q c => q ⟨ha, hb, c⟩, fun q c => q c.2.2⟩
theorem on_mem {l : List E} {p : List Int} {y : E} (h : y ∈ onF l p) : trE y ∈ l.map trE ∧ (trE y).1 ∈ p ∧ (trE y).2.1 ∈ p := by
  unfold onF at h
  obtain ⟨z, hz, rfl⟩ := List.mem_map.1 h
  obtain ⟨z1, z2⟩ := List.mem_filter.1 hz
  have := (onP_iff p z).1 z2
  exact ⟨List.mem_map.2 ⟨z, z1, rfl⟩, this.1, this.2⟩
theorem mem_on {l : List E} {p : List Int} {y : T} (hy : y ∈ l.map trE) (h1 : y.1 ∈ p) (h2 : y.2.1 ∈ p) : ∃ z ∈ onF l p, trE z = y := by
  obtain ⟨z, hz, rfl⟩ := List.mem_map.1 hy
  exact ⟨e3 z, List.mem_map_of_mem (List.mem_filter.2 ⟨hz, (onP_iff p z).2 ⟨h1, h2⟩⟩), rfl⟩
/-- The other end, as the answer sees it. -/
def oe (y : E) (n : Int) : Int := if ri y 1 = n then ri y 0 else if ri y 0 = n then ri y 1 else 0
theorem oe_en {y : E} {n : Int} (h : oe y n > 0) : En (trE y) n (oe y n) := by
  unfold oe at *
  unfold En trE
  split at h
  · rename_i e
    rw [if_pos e]
    exact .inr ⟨e, rfl⟩
  · rename_i e
    rw [if_neg e]
    split at h
    · rename_i q
      rw [if_pos q]
      exact .inl ⟨q, rfl⟩
    · omega
theorem en_oe {y : E} {n c : Int} (h : En (trE y) n c) (ne : n ≠ c) : oe y n = c := by
  unfold oe
  unfold En trE at h
  simp only at h
  rcases h with ⟨e1, e2⟩ | ⟨e1, e2⟩
  · rw [if_neg (by omega), if_pos e1]
    exact e2
  · rw [if_pos e1]
    exact e2
/-- May an edge lead on, behind n nodes? -/
def goo (p : List Int) (n : Nat) (y : E) : Prop := oe y (p.getD n 0) > 0 ∧ (n + 1 < 2 ∨ ¬ oe y (p.getD n 0) = p.getD (n - 1) 0)
theorem goo_ok {l : List E} (f : Fo (l.map trE)) {a b : Int} {p : List Int} (hb : nod b) (w : Wy (l.map trE) b a p) {n : Nat} (hn : n + 1 < p.length) : (∃ y ∈ onF l p, goo p n y) ∧ ∀ y ∈ onF l p, goo p n y → oe y (p.getD n 0) = p.getD (n + 1) 0 := by
  obtain ⟨w1, w2, w3⟩ := way_next f w hn
  refine ⟨?_, fun y hy g => ?_⟩
  · obtain ⟨y, hy, h1, h2, e⟩ := w1
    obtain ⟨z, hz, rfl⟩ := mem_on hy h1 h2
    have o := en_oe e (f.ne hy e)
    have := way_nod f w hb _ (gd_mem hn)
    unfold nod at this
    refine ⟨z, hz, by rw [o]; omega, ?_⟩
    rw [o]
    by_cases k : 1 ≤ n
    · exact .inr (w3 k)
    · exact .inl (by omega)
  · obtain ⟨m1, m2, m3⟩ := on_mem hy
    rcases w2 _ m1 m2 m3 _ (oe_en g.1) with k | ⟨k1, k2⟩
    · exact k
    · rcases g.2 with q | q
      · omega
      · exact absurd k2 q
/-- The heaviest. -/
def mx1 (c : T) (y : E) : T := if lsW c.1 c.2.1 c.2.2 (ri y 0) (ri y 1) (ri y 2) = true then trE y else c
def mxT (l : List E) : T := l.foldl mx1 (trE (l.getD 0 []))
def hv1 (p : List Int) (c : T) (y : E) : T := if con p (ri y 0) = true ∧ con p (ri y 1) = true ∧ (c.1 = 0 ∨ cmpF (ri y 0) (ri y 1) (ri y 2) c.1 c.2.1 c.2.2 > 0) then trE y else c
def hvT (p : List Int) (l : List E) : T := l.foldl (hv1 p) (0, 0, 0)
theorem cmp_ls (a b c x y z : Int) : cmpF a b c x y z > 0 ↔ lsW x y z a b c = true := by
  rw [cmpF_neg x y z a b c]
  have h := cmpF_lt x y z a b c
  unfold lsW
  split
  · rw [decide_eq_true_eq]
    omega
  · rw [decide_eq_true_eq]
    omega
theorem hv_fold {p : List Int} : ∀ (l : List E) (c : T), c.1 ≠ 0 → (∀ y ∈ l, ri y 0 ≠ 0) → l.foldl (hv1 p) c = ((l.filter (onP p)).map e3).foldl mx1 c
  | [], _, _, _ => rfl
  | y :: l, c, hc, hl => by
    have ih := fun c h => hv_fold (p := p) l c h fun z hz => hl z (List.mem_cons_of_mem _ hz)
    rw [List.foldl_cons, List.filter_cons]
    have hp : onP p y = true ↔ con p (ri y 0) = true ∧ con p (ri y 1) = true := by
      unfold onP
      rw [Bool.and_eq_true]
    by_cases q : onP p y = true
    · rw [if_pos q, List.map_cons, List.foldl_cons]
      have e : hv1 p c y = mx1 c (e3 y) := by
        unfold hv1 mx1
        show (if _ then trE y else c) = if lsW c.1 c.2.1 c.2.2 (ri y 0) (ri y 1) (ri y 2) = true then trE y else c
        have := hp.1 q
        by_cases k : lsW c.1 c.2.1 c.2.2 (ri y 0) (ri y 1) (ri y 2) = true
        · rw [if_pos k, if_pos ⟨this.1, this.2, .inr ((cmp_ls _ _ _ _ _ _).2 k)⟩]
        · rw [if_neg k, if_neg fun z => z.2.2.elim hc fun g => k ((cmp_ls _ _ _ _ _ _).1 g)]
      rw [e]
      refine ih _ ?_
      unfold mx1
      split
      · exact hl y (List.mem_cons_self ..)
      · exact hc
    · rw [if_neg q]
      have e : hv1 p c y = c := by
        unfold hv1
        rw [if_neg fun z => q (hp.2 ⟨z.1, z.2.1⟩)]
      rw [e]
      exact ih c hc
theorem mx_self (y : E) : mx1 (trE y) y = trE y := by
  unfold mx1
  split <;> rfl
theorem hv_eq {p : List Int} : ∀ (l : List E), (∀ y ∈ l, ri y 0 ≠ 0) → onF l p ≠ [] → hvT p l = mxT (onF l p)
  | [], _, h => absurd rfl h
  | y :: l, hl, h => by
    have hp : onP p y = true ↔ con p (ri y 0) = true ∧ con p (ri y 1) = true := by
      unfold onP
      rw [Bool.and_eq_true]
    unfold hvT
    rw [List.foldl_cons]
    unfold onF at h ⊢
    rw [List.filter_cons] at h ⊢
    by_cases q : onP p y = true
    · rw [if_pos q, List.map_cons]
      have e : hv1 p (0, 0, 0) y = trE y := by
        unfold hv1
        rw [if_pos ⟨(hp.1 q).1, (hp.1 q).2, .inl rfl⟩]
      rw [e, hv_fold l _ (hl y (List.mem_cons_self ..)) fun z hz => hl z (List.mem_cons_of_mem _ hz)]
      unfold mxT
      rw [List.foldl_cons]
      have : mx1 (trE ((e3 y :: List.map e3 (List.filter (onP p) l)).getD 0 [])) (e3 y) = trE y := mx_self (e3 y)
      rw [this]
    · rw [if_neg q] at h ⊢
      have e : hv1 p (0, 0, 0) y = (0, 0, 0) := by
        unfold hv1
        rw [if_neg fun z => q (hp.2 ⟨z.1, z.2.1⟩)]
      rw [e]
      exact hv_eq l (fun z hz => hl z (List.mem_cons_of_mem _ hz)) h
theorem mx_all : ∀ (l : List E) (c : T), (l.foldl mx1 c = c ∨ l.foldl mx1 c ∈ l.map trE) ∧ ¬ lt (l.foldl mx1 c) c ∧ ∀ y ∈ l.map trE, ¬ lt (l.foldl mx1 c) y
  | [], c => ⟨.inl rfl, lt_irr c, fun _ h => by cases h⟩
  | y :: l, c => by
    have st : mx1 c y = c ∧ ¬ lt c (trE y) ∨ mx1 c y = trE y ∧ lt c (trE y) := by
      have k : lsW c.1 c.2.1 c.2.2 (ri y 0) (ri y 1) (ri y 2) = true ↔ lt c (trE y) := by
        unfold lsW lt trE
        split
        · rw [decide_eq_true_eq]
          simp only
          omega
        · rw [decide_eq_true_eq]
          simp only
          omega
      unfold mx1
      split
      · rename_i q
        exact .inr ⟨rfl, k.1 q⟩
      · rename_i q
        exact .inl ⟨rfl, fun z => q (k.2 z)⟩
    obtain ⟨i1, i2, i3⟩ := mx_all l (mx1 c y)
    have tri : ∀ {u v w : T}, ¬ lt u v → ¬ lt v w → ¬ lt u w := fun {u v w} h g k => by
      by_cases e : u = v
      · rw [e] at k
        exact g k
      · rcases lt_or e with q | q
        · exact h q
        · exact g (lt_tr q k)
    rw [List.foldl_cons, List.map_cons]
    rcases st with ⟨e, n⟩ | ⟨e, n⟩
    · rw [e] at i1 i2 i3 ⊢
      refine ⟨i1.elim .inl fun k => .inr (List.mem_cons_of_mem _ k), i2, fun z hz => ?_⟩
      rcases List.mem_cons.1 hz with rfl | hz
      · exact tri i2 n
      · exact i3 z hz
    · rw [e] at i1 i2 i3 ⊢
      refine ⟨.inr (i1.elim (fun k => by rw [k]; exact List.mem_cons_self ..) fun k => List.mem_cons_of_mem _ k), fun k => ?_, fun z hz => ?_⟩
      · exact i2 (lt_tr k n)
      · rcases List.mem_cons.1 hz with rfl | hz
        · exact i2
        · exact i3 z hz
/-- The heaviest of some is one of them, and none is ahead of it. -/
theorem mx_ok {l : List E} (h : l ≠ []) : mxT l ∈ l.map trE ∧ ∀ y ∈ l.map trE, ¬ lt (mxT l) y := by
  obtain ⟨i1, i2, i3⟩ := mx_all l (trE (l.getD 0 []))
  refine ⟨i1.elim (fun k => ?_) id, i3⟩
  unfold mxT
  rw [k]
  cases l with
  | nil => exact absurd rfl h
  | cons y l => exact List.mem_cons_self ..
theorem on_ne {l : List E} (f : Fo (l.map trE)) {a b : Int} {p : List Int} (w : Wy (l.map trE) b a p) (n : a ≠ b) : onF l p ≠ [] := by
  have hl : 1 < p.length := by
    cases w with
    | one => exact absurd rfl n
    | go _ _ w _ =>
      obtain ⟨q, e⟩ := way_hd w
      rw [e]
      simp
  obtain ⟨y, hy, h1, h2, _⟩ := (way_next f w (n := 0) hl).1
  obtain ⟨z, hz, _⟩ := mem_on hy h1 h2
  intro e
  rw [e] at hz
  cases hz
end Go.Proofs.Ytodglgdenjjjgaa.TrC
