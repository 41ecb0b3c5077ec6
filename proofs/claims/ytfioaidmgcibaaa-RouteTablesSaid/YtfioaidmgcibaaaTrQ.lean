
/-
  the answer of ways; the heaviest edge. No condition.
-/
import Derived.Test.YtfioaidmgcibaaaTrR
namespace Go.Proofs.Ytfioaidmgcibaaa.TrC
open Go Go.Proofs.Ytfioaidmgcibaaa.Ry Go.Proofs.Ytfioaidmgcibaaa.So Go.Proofs.Ytfioaidmgcibaaa.JoS Go.Proofs.Ytfioaidmgcibaaa.EgR Go.Proofs.Ytfioaidmgcibaaa.EgL Go.Proofs.Ytfioaidmgcibaaa.SpR Go.Proofs.Ytfioaidmgcibaaa.SpQ Go.Proofs.Ytfioaidmgcibaaa.SpK Go.Proofs.Ytfioaidmgcibaaa.SpT Go.Proofs.Ytfioaidmgcibaaa.SpL Go.Proofs.Ytfioaidmgcibaaa.SpN Go.Proofs.Ytfioaidmgcibaaa.TrK Go.Proofs.Ytfioaidmgcibaaa.TrB Go.Proofs.Ytfioaidmgcibaaa.TrR Go.Proofs.Ytfioaidmgcibaaa.EcX

theorem nb_ix {p : List Int} {u v : Int} (h : Nb p u v) : ∃ i, i + 1 < p.length ∧ p.getD i 0 = u ∧ p.getD (i + 1) 0 = v := by
  induction h with
  | @here x z p => exact ⟨0, by simp, rfl, rfl⟩
  | @more x z w p _ ih =>
    obtain ⟨i, h1, h2, h3⟩ := ih
    exact ⟨i + 1, by simp only [List.length_cons]; omega, by simpa using h2, by simpa using h3⟩
theorem nd_ix {p : List Int} (nd : p.Nodup) {i j : Nat} (hi : i < p.length) (hj : j < p.length) (e : p.getD i 0 = p.getD j 0) : i = j := by
  rw [List.getD_eq_getElem?_getD, List.getD_eq_getElem?_getD, List.getElem?_eq_getElem hi, List.getElem?_eq_getElem hj] at e
  exact (List.getElem_inj nd).1 e
theorem way_step {l : List T} {a b : Int} {p : List Int} (h : Wy l b a p) : ∀ n, n + 1 < p.length → ∃ y ∈ l, En y (p.getD n 0) (p.getD (n + 1) 0) := by
  induction h with
  | one =>
    intro n hn
    simp at hn
  | @go a c p y hy e w _ ih =>
    intro n hn
    obtain ⟨q, rfl⟩ := way_hd w
    cases n with
    | zero => exact ⟨y, hy, e⟩
    | succ n =>
      obtain ⟨z, hz, ez⟩ := ih n (by simpa using hn)
      exact ⟨z, hz, by simpa using ez⟩
theorem way_last {l : List T} {a b : Int} {p : List Int} (h : Wy l b a p) : ∀ n, n < p.length → (p.getD n 0 = b ↔ n + 1 = p.length) := by
  induction h with
  | one =>
    intro n hn
    simp only [List.length_singleton] at hn ⊢
    have : n = 0 := by omega
    rw [this]
    simp
  | @go a c p y hy e w na ih =>
    intro n hn
    cases n with
    | zero =>
      have := way_end w
      obtain ⟨q, eq⟩ := way_hd w
      constructor
      · intro k
        have k : a = b := k
        rw [k] at na
        exact absurd this na
      · intro k
        rw [eq] at k
        simp at k
    | succ n =>
      have := ih n (by simpa using hn)
      simpa using this
/-- Behind each node of a way comes the next one. -/
theorem way_next {l : List T} (f : Fo l) {a b : Int} {p : List Int} (h : Wy l b a p) {n : Nat} (hn : n + 1 < p.length) :
    (∃ y ∈ l, y.1 ∈ p ∧ y.2.1 ∈ p ∧ En y (p.getD n 0) (p.getD (n + 1) 0)) ∧
    (∀ y ∈ l, y.1 ∈ p → y.2.1 ∈ p → ∀ c, En y (p.getD n 0) c → c = p.getD (n + 1) 0 ∨ (1 ≤ n ∧ c = p.getD (n - 1) 0)) ∧ (1 ≤ n → ¬ p.getD (n + 1) 0 = p.getD (n - 1) 0) := by
  have nd := way_nd h
  refine ⟨?_, fun y hy h1 h2 c e => ?_, fun k e => ?_⟩
  · obtain ⟨y, hy, e⟩ := way_step h n hn
    have m1 := gd_mem (m := p) (i := n) (by omega)
    have m2 := gd_mem hn
    refine ⟨y, hy, ?_, ?_, e⟩
    · rcases e with ⟨e1, _⟩ | ⟨_, e1⟩ <;> rw [e1] <;> assumption
    · rcases e with ⟨_, e1⟩ | ⟨e1, _⟩ <;> rw [e1] <;> assumption
  · obtain ⟨u, v, hb, e2, _, _⟩ := way_on f h hy h1 h2
    obtain ⟨i, i1, i2, i3⟩ := nb_ix hb
    have hne := f.ne hy e
    by_cases k : p.getD n 0 = u
    · have := nd_ix nd (by omega) (by omega) (k.trans i2.symm)
      subst this
      left
      rw [i3]
      rw [k] at e
      exact en_same e e2 (by rw [← k]; exact hne)
    · have kv : p.getD n 0 = v := by
        unfold En at e e2
        omega
      have := nd_ix nd (by omega) i1 (kv.trans i3.symm)
      right
      refine ⟨by omega, ?_⟩
      rw [this, Nat.add_sub_cancel, i2]
      rw [kv] at e
      exact en_same e (en_symm e2) (by rw [← kv]; exact hne)
  · have := nd_ix nd hn (by omega) e
    omega
theorem fol_2 {h : List Int} {a b : Int} {p : List Int} {l : List T} (w : Wy l b a p) (g : Fol h a p) (n : a ≠ b) : 1 < p.length ∧ p.getD 1 0 = ix h a ∧ p.getD 0 0 = a := by
  cases g with
  | one e =>
    cases w with
    | one => exact absurd rfl n
    | go _ _ w _ => cases w
  | go e g2 =>
    cases g2 with
    | one _ => exact ⟨by simp, rfl, rfl⟩
    | go _ _ => exact ⟨by simp, rfl, rfl⟩
theorem fol_1 {h : List Int} {b : Int} {p : List Int} {l : List T} (w : Wy l b b p) (g : Fol h b p) : ix h b = b ∧ p = [b] := by
  cases w with
  | one =>
    cases g with
    | one e => exact ⟨e, rfl⟩
    | go _ g2 => cases g2
  | go _ _ w n => exact absurd (way_end w) n
/-- Is an edge between two of some nodes? -/
def onP (p : List Int) (y : E) : Bool := con p (ri y 0) && con p (ri y 1)
def onF (l : List E) (p : List Int) : List E := (l.filter (onP p)).map e3
theorem onP_iff (p : List Int) (y : E) : onP p y = true ↔ (trE y).1 ∈ p ∧ (trE y).2.1 ∈ p := by
  unfold onP con
  rw [Bool.and_eq_true, decide_eq_true_eq, decide_eq_true_eq]
  exact Iff.rfl
/-- The answer's edges of a way. -/
def onR (l : List E) (a b : Int) : List E := (l.filter fun y => !lkR (butF l (trE y)) a b).map e3
theorem in_but {l : List E} (h : inR l = true) (c : T) : inR (butF l c) = true := by
  obtain ⟨h1, h2⟩ := inR_iff.1 h
  refine inR_iff.2 ⟨Nat.le_trans (but_len l c) h1, fun y hy => ?_⟩
  unfold butF at hy
  obtain ⟨z, hz, rfl⟩ := List.mem_map.1 hy
  exact h2 z ((List.mem_filter.1 hz).1)
theorem but_ok {l : List E} (f : ∀ y ∈ l, okT (trE y)) (c : T) : ∀ y ∈ butF l c, okT (trE y) := by
  intro y hy
  unfold butF at hy
  obtain ⟨z, hz, rfl⟩ := List.mem_map.1 hy
  exact f z ((List.mem_filter.1 hz).1)
theorem but_cn {l : List E} (f : Fo (l.map trE)) (c : T) (a b : Int) : lkR (butF l c) a b = true ↔ nod a ∧ nod b ∧ Cn (wo (l.map trE) c) a b := by
  rw [lk_iff (but_ok (fun y hy => f.ok _ (List.mem_map_of_mem hy)) c), but_map]
  exact Iff.rfl
theorem on_eq {l : List E} (f : Fo (l.map trE)) {a b : Int} (ha : nod a) (hb : nod b) {p : List Int} (w : Wy (l.map trE) b a p) : onR l a b = onF l p := by
  unfold onR onF
  congr 1
  refine List.filter_congr fun y hy => ?_
  have h1 := way_iff f w (List.mem_map_of_mem (f := trE) hy)
  have h2 := but_cn f (trE y) a b
  have h3 := onP_iff p y
  rw [Bool.eq_iff_iff, h3, ← h1, Bool.not_eq_true', ← Bool.not_eq_true, h2]
  exact ⟨fun q c => q ⟨ha, hb, c⟩, fun q c => q c.2.2⟩
theorem on_mem {l : List E} {p : List Int} {y : E} (h : y ∈ onF l p) : trE y ∈ l.map trE ∧ (trE y).1 ∈ p ∧ (trE y).2.1 ∈ p := by
  unfold onF at h
  obtain ⟨z, hz, rfl⟩ := List.mem_map.1 h
  obtain ⟨z1, z2⟩ := List.mem_filter.1 hz
  have := (onP_iff p z).1 z2
  exact ⟨List.mem_map.2 ⟨z, z1, rfl⟩, this.1, this.2⟩
theorem mem_on {l : List E} {p : List Int} {y : T} (hy : y ∈ l.map trE) (h1 : y.1 ∈ p) (h2 : y.2.1 ∈ p) : ∃ z ∈ onF l p, trE z = y := by
  obtain ⟨z, hz, rfl⟩ := List.mem_map.1 hy
  exact ⟨e3 z, List.mem_map_of_mem (List.mem_filter.2 ⟨hz, (onP_iff p z).2 ⟨h1, h2⟩⟩), rfl⟩
/-- The other end, as the answer sees it. -/
def oe (y : E) (n : Int) : Int := if ri y 1 = n then ri y 0 else if ri y 0 = n then ri y 1 else 0
theorem oe_en {y : E} {n : Int} (h : oe y n > 0) : En (trE y) n (oe y n) := by
  unfold oe at *
  unfold En trE
  split at h
  · rename_i e
    rw [if_pos e]
    exact .inr ⟨e, rfl⟩
  · rename_i e
    rw [if_neg e]
    split at h
    · rename_i q
      rw [if_pos q]
      exact .inl ⟨q, rfl⟩
    · omega
theorem en_oe {y : E} {n c : Int} (h : En (trE y) n c) (ne : n ≠ c) : oe y n = c := by
  unfold oe
  unfold En trE at h
  simp only at h
  rcases h with ⟨e1, e2⟩ | ⟨e1, e2⟩
  · rw [if_neg (by omega), if_pos e1]
    exact e2
  · rw [if_pos e1]
    exact e2
/-- May an edge lead on, behind n nodes? -/
def goo (p : List Int) (n : Nat) (y : E) : Prop := oe y (p.getD n 0) > 0 ∧ (n + 1 < 2 ∨ ¬ oe y (p.getD n 0) = p.getD (n - 1) 0)
theorem goo_ok {l : List E} (f : Fo (l.map trE)) {a b : Int} {p : List Int} (hb : nod b) (w : Wy (l.map trE) b a p) {n : Nat} (hn : n + 1 < p.length) : (∃ y ∈ onF l p, goo p n y) ∧ ∀ y ∈ onF l p, goo p n y → oe y (p.getD n 0) = p.getD (n + 1) 0 := by
  obtain ⟨w1, w2, w3⟩ := way_next f w hn
  refine ⟨?_, fun y hy g => ?_⟩
  · obtain ⟨y, hy, h1, h2, e⟩ := w1
    obtain ⟨z, hz, rfl⟩ := mem_on hy h1 h2
    have o := en_oe e (f.ne hy e)
    have := way_nod f w hb _ (gd_mem hn)
    unfold nod at this
    refine ⟨z, hz, by rw [o]; omega, ?_⟩
    rw [o]
    by_cases k : 1 ≤ n
    · exact .inr (w3 k)
    · exact .inl (by omega)
  · obtain ⟨m1, m2, m3⟩ := on_mem hy
    rcases w2 _ m1 m2 m3 _ (oe_en g.1) with k | ⟨k1, k2⟩
    · exact k
    · rcases g.2 with q | q
      · omega
      · exact absurd k2 q
/-- The heaviest. -/
def mx1 (c : T) (y : E) : T := if lsW c.1 c.2.1 c.2.2 (ri y 0) (ri y 1) (ri y 2) = true then trE y else c
def mxT (l : List E) : T := l.foldl mx1 (trE (l.getD 0 []))
def hv1 (p : List Int) (c : T) (y : E) : T := if con p (ri y 0) = true ∧ con p (ri y 1) = true ∧ (c.1 = 0 ∨ cmpF (ri y 0) (ri y 1) (ri y 2) c.1 c.2.1 c.2.2 > 0) then trE y else c
def hvT (p : List Int) (l : List E) : T := l.foldl (hv1 p) (0, 0, 0)
theorem cmp_ls (a b c x y z : Int) : cmpF a b c x y z > 0 ↔ lsW x y z a b c = true := by
  rw [cmpF_neg x y z a b c]
  have h := cmpF_lt x y z a b c
  unfold lsW
  split
  · rw [decide_eq_true_eq]
    omega
  · rw [decide_eq_true_eq]
    omega
theorem hv_fold {p : List Int} : ∀ (l : List E) (c : T), c.1 ≠ 0 → (∀ y ∈ l, ri y 0 ≠ 0) → l.foldl (hv1 p) c = ((l.filter (onP p)).map e3).foldl mx1 c
  | [], _, _, _ => rfl
  | y :: l, c, hc, hl => by
    have ih := fun c h => hv_fold (p := p) l c h fun z hz => hl z (List.mem_cons_of_mem _ hz)
    rw [List.foldl_cons, List.filter_cons]
    have hp : onP p y = true ↔ con p (ri y 0) = true ∧ con p (ri y 1) = true := by
      unfold onP
      rw [Bool.and_eq_true]
    by_cases q : onP p y = true
    · rw [if_pos q, List.map_cons, List.foldl_cons]
      have e : hv1 p c y = mx1 c (e3 y) := by
        unfold hv1 mx1
        show (if _ then trE y else c) = if lsW c.1 c.2.1 c.2.2 (ri y 0) (ri y 1) (ri y 2) = true then trE y else c
        have := hp.1 q
        by_cases k : lsW c.1 c.2.1 c.2.2 (ri y 0) (ri y 1) (ri y 2) = true
        · rw [if_pos k, if_pos ⟨this.1, this.2, .inr ((cmp_ls _ _ _ _ _ _).2 k)⟩]
        · rw [if_neg k, if_neg fun z => z.2.2.elim hc fun g => k ((cmp_ls _ _ _ _ _ _).1 g)]
      rw [e]
      refine ih _ ?_
      unfold mx1
      split
      · exact hl y (List.mem_cons_self ..)
      · exact hc
    · rw [if_neg q]
      have e : hv1 p c y = c := by
        unfold hv1
        rw [if_neg fun z => q (hp.2 ⟨z.1, z.2.1⟩)]
      rw [e]
      exact ih c hc
theorem mx_self (y : E) : mx1 (trE y) y = trE y := by
  unfold mx1
  split <;> rfl
theorem hv_eq {p : List Int} : ∀ (l : List E), (∀ y ∈ l, ri y 0 ≠ 0) → onF l p ≠ [] → hvT p l = mxT (onF l p)
  | [], _, h => absurd rfl h
  | y :: l, hl, h => by
    have hp : onP p y = true ↔ con p (ri y 0) = true ∧ con p (ri y 1) = true := by
      unfold onP
      rw [Bool.and_eq_true]
    unfold hvT
    rw [List.foldl_cons]
    unfold onF at h ⊢
    rw [List.filter_cons] at h ⊢
    by_cases q : onP p y = true
    · rw [if_pos q, List.map_cons]
      have e : hv1 p (0, 0, 0) y = trE y := by
        unfold hv1
        rw [if_pos ⟨(hp.1 q).1, (hp.1 q).2, .inl rfl⟩]
      rw [e, hv_fold l _ (hl y (List.mem_cons_self ..)) fun z hz => hl z (List.mem_cons_of_mem _ hz)]
      unfold mxT
      rw [List.foldl_cons]
      have : mx1 (trE ((e3 y :: List.map e3 (List.filter (onP p) l)).getD 0 [])) (e3 y) = trE y := mx_self (e3 y)
      rw [this]
    · rw [if_neg q] at h ⊢
      have e : hv1 p (0, 0, 0) y = (0, 0, 0) := by
        unfold hv1
        rw [if_neg fun z => q (hp.2 ⟨z.1, z.2.1⟩)]
      rw [e]
      exact hv_eq l (fun z hz => hl z (List.mem_cons_of_mem _ hz)) h
theorem mx_all : ∀ (l : List E) (c : T), (l.foldl mx1 c = c ∨ l.foldl mx1 c ∈ l.map trE) ∧ ¬ lt (l.foldl mx1 c) c ∧ ∀ y ∈ l.map trE, ¬ lt (l.foldl mx1 c) y
  | [], c => ⟨.inl rfl, lt_irr c, fun _ h => by cases h⟩
  | y :: l, c => by
    have st : mx1 c y = c ∧ ¬ lt c (trE y) ∨ mx1 c y = trE y ∧ lt c (trE y) := by
      have k : lsW c.1 c.2.1 c.2.2 (ri y 0) (ri y 1) (ri y 2) = true ↔ lt c (trE y) := by
        unfold lsW lt trE
        split
        · rw [decide_eq_true_eq]
          simp only
          omega
        · rw [decide_eq_true_eq]
          simp only
          omega
      unfold mx1
      split
      · rename_i q
        exact .inr ⟨rfl, k.1 q⟩
      · rename_i q
        exact .inl ⟨rfl, fun z => q (k.2 z)⟩
    obtain ⟨i1, i2, i3⟩ := mx_all l (mx1 c y)
    have tri : ∀ {u v w : T}, ¬ lt u v → ¬ lt v w → ¬ lt u w := fun {u v w} h g k => by
      by_cases e : u = v
      · rw [e] at k
        exact g k
      · rcases lt_or e with q | q
        · exact h q
        · exact g (lt_tr q k)
    rw [List.foldl_cons, List.map_cons]
    rcases st with ⟨e, n⟩ | ⟨e, n⟩
    · rw [e] at i1 i2 i3 ⊢
      refine ⟨i1.elim .inl fun k => .inr (List.mem_cons_of_mem _ k), i2, fun z hz => ?_⟩
      rcases List.mem_cons.1 hz with rfl | hz
      · exact tri i2 n
      · exact i3 z hz
    · rw [e] at i1 i2 i3 ⊢
      refine ⟨.inr (i1.elim (fun k => by rw [k]; exact List.mem_cons_self ..) fun k => List.mem_cons_of_mem _ k), fun k => ?_, fun z hz => ?_⟩
      · exact i2 (lt_tr k n)
      · rcases List.mem_cons.1 hz with rfl | hz
        · exact i2
        · exact i3 z hz
/-- The heaviest of some is one of them, and none is ahead of it. -/
theorem mx_ok {l : List E} (h : l ≠ []) : mxT l ∈ l.map trE ∧ ∀ y ∈ l.map trE, ¬ lt (mxT l) y := by
  obtain ⟨i1, i2, i3⟩ := mx_all l (trE (l.getD 0 []))
  refine ⟨i1.elim (fun k => ?_) id, i3⟩
  unfold mxT
  rw [k]
  cases l with
  | nil => exact absurd rfl h
  | cons y l => exact List.mem_cons_self ..
theorem on_ne {l : List E} (f : Fo (l.map trE)) {a b : Int} {p : List Int} (w : Wy (l.map trE) b a p) (n : a ≠ b) : onF l p ≠ [] := by
  have hl : 1 < p.length := by
    cases w with
    | one => exact absurd rfl n
    | go _ _ w _ =>
      obtain ⟨q, e⟩ := way_hd w
      rw [e]
      simp
  obtain ⟨y, hy, h1, h2, _⟩ := (way_next f w (n := 0) hl).1
  obtain ⟨z, hz, _⟩ := mem_on hy h1 h2
  intro e
  rw [e] at hz
  cases hz
end Go.Proofs.Ytfioaidmgcibaaa.TrC
namespace Go.Proofs.Ytfioaidmgcibaaa.TrQ
open Go Go.Proofs.Ytfioaidmgcibaaa.Ry Go.Proofs.Ytfioaidmgcibaaa.So Go.Proofs.Ytfioaidmgcibaaa.JoS Go.Proofs.Ytfioaidmgcibaaa.EcX Go.Proofs.Ytfioaidmgcibaaa.EgR Go.Proofs.Ytfioaidmgcibaaa.EgL Go.Proofs.Ytfioaidmgcibaaa.SpR Go.Proofs.Ytfioaidmgcibaaa.SpQ Go.Proofs.Ytfioaidmgcibaaa.SpK Go.Proofs.Ytfioaidmgcibaaa.SpT Go.Proofs.Ytfioaidmgcibaaa.SpL Go.Proofs.Ytfioaidmgcibaaa.SpN Go.Proofs.Ytfioaidmgcibaaa.TrK Go.Proofs.Ytfioaidmgcibaaa.TrB Go.Proofs.Ytfioaidmgcibaaa.TrR Go.Proofs.Ytfioaidmgcibaaa.TrC

structure XO where
  i : Int
  o : List E
def rdR (n k : Nat) (st : St) : XO := ⟨slotI st n, ctR (match slotC st k with | .sl _ c => c | _ => .recs .nil [])⟩
def foM (l : List E) (y : XO) : Nat := l.length - y.i.toNat
/-- Edges but one. -/
def woQ (l : List E) (c : T) (y : XO) : Prop := 0 ≤ y.i ∧ y.i ≤ l.length ∧ y.o = butF (l.take y.i.toNat) c
noncomputable def woI (l : List E) (a b w : Int) (y : XO) : St := stOf Try.f104.ntmps [(0, .sl none (.recs (.int .i64 (.int .i64 (.int .i64 .nil))) l)), (3, .ptr 1 0), (5, .sl (some (2, 55)) (.recs (.int .i64 (.int .i64 (.int .i64 .nil))) y.o)), (6, .val (.int .i64 y.i))] [(1, .cells 55 [.val (.int .i64 a), .val (.int .i64 b), .val (.int .i64 w)]), (2, .tok)] [Any, Any]
theorem tr_is (y : E) (a b w : Int) : trE y = (a, b, w) ↔ ri y 0 = a ∧ ri y 1 = b ∧ ri y 2 = w := by
  unfold trE
  simp only [Prod.mk.injEq]
theorem wo_next {l : List E} {i : Int} (h0 : 0 ≤ i) (h : i < l.length) (c : T) : butF (l.take (i + 1).toNat) c = butF (l.take i.toNat) c ++ if trE (l.getD i.toNat []) = c then [] else [e3 (l.getD i.toNat [])] := by
  rw [take_next l i h0 h]
  unfold butF
  rw [List.filter_append, List.map_append, List.filter_cons, List.filter_nil]
  congr 1
  by_cases e : trE (l.getD i.toNat []) = c
  · rw [if_pos e, decide_eq_false (fun k => k e)]
    rfl
  · rw [if_neg e, decide_eq_true e]
    rfl
theorem wo_step {l : List E} {a b w : Int} (hl : l.length ≤ 1000000) {i : Int} {o : List E} (hq : woQ l (a, b, w) ⟨i, o⟩) : o.length ≤ 1000000 ∧ (i < l.length → stdBin .add .i64 i 1 = i + 1 ∧ (∀ p, foM l ⟨i + 1, p⟩ < foM l ⟨i, o⟩) ∧
    (ri (l.getD i.toNat []) 0 = a ∧ ri (l.getD i.toNat []) 1 = b ∧ ri (l.getD i.toNat []) 2 = w → woQ l (a, b, w) ⟨i + 1, o⟩) ∧ (¬ (ri (l.getD i.toNat []) 0 = a ∧ ri (l.getD i.toNat []) 1 = b ∧ ri (l.getD i.toNat []) 2 = w) → woQ l (a, b, w) ⟨i + 1, o ++ [[D.int (ri (l.getD i.toNat []) 0), D.int (ri (l.getD i.toNat []) 1), D.int (ri (l.getD i.toNat []) 2)]]⟩)) ∧ (¬ i < l.length → o = butF l (a, b, w)) := by
  obtain ⟨h0, h1, h2⟩ := hq
  simp only at h0 h1 h2
  have hle := but_len (l.take i.toNat) (a, b, w)
  rw [List.length_take, ← h2] at hle
  refine ⟨by omega, fun h => ⟨by rw [b_add, wr _ (by omega) (by omega)], fun p => by simp only [foM]; omega, fun g => ⟨by simp only; omega, by simp only; omega, ?_⟩, fun g => ⟨by simp only; omega, by simp only; omega, ?_⟩⟩, fun h => ?_⟩
  · simp only
    rw [wo_next h0 h, if_pos ((tr_is _ _ _ _).2 g), List.append_nil]
    exact h2
  · simp only
    rw [wo_next h0 h, if_neg (fun k => g ((tr_is _ _ _ _).1 k)), h2]
    rfl
  · have e : i = l.length := by omega
    rw [e, Int.toNat_natCast, List.take_length] at h2
    exact h2
/-- Edges without which there is no way. -/
def on1 (l : List E) (a b : Int) (y : E) : Bool := !lkR (butF l (trE y)) a b
def onQ (l : List E) (a b : Int) (y : XO) : Prop := 0 ≤ y.i ∧ y.i ≤ l.length ∧ y.o = ((l.take y.i.toNat).filter (on1 l a b)).map e3
noncomputable def onI (l : List E) (a b : Int) (y : XO) : St := stOf Try.f72.ntmps [(0, .sl none (.recs (.int .i64 (.int .i64 (.int .i64 .nil))) l)), (1, .val (.int .i64 a)), (2, .val (.int .i64 b)), (7, .sl (some (1, 55)) (.recs (.int .i64 (.int .i64 (.int .i64 .nil))) y.o)), (8, .val (.int .i64 y.i))] [(1, .tok)] [Any, Any, Any]
theorem on_step {l : List E} {a b : Int} (hin : inR l = true) {i : Int} {o : List E} (hq : onQ l a b ⟨i, o⟩) : o.length ≤ 1000000 ∧ (i < l.length → stdBin .add .i64 i 1 = i + 1 ∧ (∀ p, foM l ⟨i + 1, p⟩ < foM l ⟨i, o⟩) ∧ inR (butF l (ri (l.getD i.toNat []) 0, ri (l.getD i.toNat []) 1, ri (l.getD i.toNat []) 2)) = true ∧
    (lkR (butF l (ri (l.getD i.toNat []) 0, ri (l.getD i.toNat []) 1, ri (l.getD i.toNat []) 2)) a b = true → onQ l a b ⟨i + 1, o⟩) ∧ (lkR (butF l (ri (l.getD i.toNat []) 0, ri (l.getD i.toNat []) 1, ri (l.getD i.toNat []) 2)) a b = false → onQ l a b ⟨i + 1, o ++ [[D.int (ri (l.getD i.toNat []) 0), D.int (ri (l.getD i.toNat []) 1), D.int (ri (l.getD i.toNat []) 2)]]⟩)) ∧ (¬ i < l.length → o = onR l a b) := by
  obtain ⟨h0, h1, h2⟩ := hq
  simp only at h0 h1 h2
  have hl := (inR_iff.1 hin).1
  have hle := List.length_filter_le (on1 l a b) (l.take i.toNat)
  rw [List.length_take] at hle
  have nx : ∀ g : i < l.length, ((l.take (i + 1).toNat).filter (on1 l a b)).map e3 = ((l.take i.toNat).filter (on1 l a b)).map e3 ++ if on1 l a b (l.getD i.toNat []) = true then [e3 (l.getD i.toNat [])] else [] := fun g => by
    rw [take_next l i h0 g, List.filter_append, List.map_append, List.filter_cons, List.filter_nil]
    congr 1
    split <;> rfl
  refine ⟨by rw [h2, List.length_map]; omega, fun h => ⟨by rw [b_add, wr _ (by omega) (by omega)], fun p => by simp only [foM]; omega, in_but hin _, fun g => ⟨by simp only; omega, by simp only; omega, ?_⟩, fun g => ⟨by simp only; omega, by simp only; omega, ?_⟩⟩, fun h => ?_⟩
  · have g : lkR (butF l (trE (l.getD i.toNat []))) a b = true := g
    simp only
    rw [nx h, on1, g, h2]
    simp
  · have g : lkR (butF l (trE (l.getD i.toNat []))) a b = false := g
    simp only
    rw [nx h, on1, g, h2]
    rfl
  · have e : i = l.length := by omega
    rw [e, Int.toNat_natCast, List.take_length] at h2
    exact h2
/-- The answer's way. -/
structure XP where
  n : Int
  o : List Int
def rdP (st : St) : XP := ⟨slotI st 9, rdS st 8⟩
def pwQ (p : List Int) (y : XP) : Prop := 0 ≤ y.n ∧ y.n + 1 ≤ p.length ∧ y.o = p.take (y.n + 1).toNat
def pwM (p : List Int) (y : XP) : Nat := p.length - y.n.toNat
noncomputable def pwI (b : Int) (on : List E) (y : XP) : St := stOf Try.f82.ntmps [(2, .val (.int .i64 b)), (7, .sl none (.recs (.int .i64 (.int .i64 (.int .i64 .nil))) on)), (8, .sl (some (1, 3)) (.ints .i64 y.o)), (9, .val (.int .i64 y.n))] [(1, .tok)] [Any, Any, Any]
structure XS where
  i : Int
noncomputable def psI (b : Int) (on : List E) (n last : Int) (o : List Int) (y : XS) : St := stOf Try.f82.ntmps [(2, .val (.int .i64 b)), (7, .sl none (.recs (.int .i64 (.int .i64 (.int .i64 .nil))) on)), (8, .sl (some (1, 3)) (.ints .i64 o)), (9, .val (.int .i64 n)), (10, .val (.int .i64 last)), (11, .val (.int .i64 y.i))] [(1, .tok)] [Any, Any, Any]
def psR (st : St) : XS := ⟨slotI st 11⟩
def psQ (p : List Int) (n : Int) (on : List E) (y : XS) : Prop := 0 ≤ y.i ∧ y.i ≤ on.length ∧ ∀ j : Nat, j < y.i → ¬ goo p n.toNat (on.getD j [])
def psM (on : List E) (y : XS) : Nat := on.length - y.i.toNat
theorem pw_all {l : List E} {a b : Int} (h : rtE l a b = 0) {n : Int} {o : List Int} (hq : pwQ (wyB l a b) ⟨n, o⟩) :
    stdBin .sub .i64 o.length 1 = n ∧ 0 ≤ n ∧ n < o.length ∧ (o.length : Int) = n + 1 ∧ o.length ≤ 64 ∧ n < 64 ∧ o.getD n.toNat 0 = (wyB l a b).getD n.toNat 0 ∧ (o.getD n.toNat 0 = b → o = wyB l a b) ∧
    (¬ o.getD n.toNat 0 = b → n.toNat + 1 < (wyB l a b).length ∧ stdBin .add .i64 n 1 = n + 1 ∧ pwM (wyB l a b) ⟨n + 1, o ++ [(wyB l a b).getD (n.toNat + 1) 0]⟩ < pwM (wyB l a b) ⟨n, o⟩ ∧ pwQ (wyB l a b) ⟨n + 1, o ++ [(wyB l a b).getD (n.toNat + 1) 0]⟩ ∧ (1 ≤ n → stdBin .sub .i64 o.length 2 = n - 1 ∧ o.getD (n - 1).toNat 0 = (wyB l a b).getD (n.toNat - 1) 0)) := by
  obtain ⟨_, nb, _, f, _, w, _, _, lw, _⟩ := rt_0 h
  have e : wyB l a b = wF 65 (twH l b) a := if_pos h
  rw [← e] at w lw
  obtain ⟨h0, h1, h2⟩ := hq
  simp only at h0 h1 h2
  generalize wyB l a b = p at *
  have e2 : (n + 1).toNat = n.toNat + 1 := by omega
  have hlen : (o.length : Int) = n + 1 := by rw [h2, List.length_take]; omega
  have hg : ∀ j, j < n.toNat + 1 → o.getD j 0 = p.getD j 0 := fun j hj => by
    rw [h2, List.getD_eq_getElem?_getD, List.getD_eq_getElem?_getD, List.getElem?_take_of_lt (by omega)]
  have hl := way_last w n.toNat (by omega)
  refine ⟨by rw [b_sub, wr _ (by omega) (by omega)]; omega, h0, by omega, hlen, by omega, by omega, hg _ (by omega), fun g => ?_, fun g => ?_⟩
  · rw [hg _ (by omega)] at g
    have := hl.1 g
    rw [h2, e2, this, List.take_length]
  · rw [hg _ (by omega)] at g
    have ne : ¬ n.toNat + 1 = p.length := fun k => g (hl.2 k)
    refine ⟨by omega, by rw [b_add, wr _ (by omega) (by omega)], by simp only [pwM]; omega, ⟨by simp only; omega, by simp only; omega, ?_⟩, fun k => ⟨by rw [b_sub, wr _ (by omega) (by omega)]; omega, ?_⟩⟩
    · simp only
      have e3 : (n + 1 + 1).toNat = (n.toNat + 1) + 1 := by omega
      rw [e3, List.take_add_one, ← e2, ← h2, e2, List.getElem?_eq_getElem (by omega), List.getD_eq_getElem?_getD, List.getElem?_eq_getElem (by omega)]
      rfl
    · have : (n - 1).toNat = n.toNat - 1 := by omega
      rw [this]
      exact hg _ (by omega)
theorem ps_step {l : List E} {a b : Int} (h : rtE l a b = 0) {n : Int} (h0 : 0 ≤ n) (hn : n.toNat + 1 < (wyB l a b).length) {i : Int} (hq : psQ (wyB l a b) n (onR l a b) ⟨i⟩) (hl : (onR l a b).length ≤ 1000000) :
    (i < (onR l a b).length → stdBin .add .i64 i 1 = i + 1 ∧ psM (onR l a b) ⟨i + 1⟩ < psM (onR l a b) ⟨i⟩ ∧
      ((oe ((onR l a b).getD i.toNat []) ((wyB l a b).getD n.toNat 0) > 0 ∧ (n + 1 < 2 ∨ ¬ oe ((onR l a b).getD i.toNat []) ((wyB l a b).getD n.toNat 0) = (wyB l a b).getD (n.toNat - 1) 0)) → oe ((onR l a b).getD i.toNat []) ((wyB l a b).getD n.toNat 0) = (wyB l a b).getD (n.toNat + 1) 0) ∧
      (¬ (oe ((onR l a b).getD i.toNat []) ((wyB l a b).getD n.toNat 0) > 0 ∧ (n + 1 < 2 ∨ ¬ oe ((onR l a b).getD i.toNat []) ((wyB l a b).getD n.toNat 0) = (wyB l a b).getD (n.toNat - 1) 0)) → psQ (wyB l a b) n (onR l a b) ⟨i + 1⟩)) ∧ (¬ i < (onR l a b).length → False) := by
  obtain ⟨na, nb, _, f, _, w, _, _, lw, _⟩ := rt_0 h
  have e : wyB l a b = wF 65 (twH l b) a := if_pos h
  rw [← e] at w lw
  have eo := on_eq f na nb w
  rw [eo] at hq hl ⊢
  obtain ⟨k0, k1, k2⟩ := hq
  simp only at k0 k1 k2
  generalize wyB l a b = p at *
  obtain ⟨g1, g2⟩ := goo_ok f nb w hn
  refine ⟨fun g => ⟨by rw [b_add, wr _ (by omega) (by omega)], by simp only [psM]; omega, fun q => ?_, fun q => ⟨by simp only; omega, by simp only; omega, fun j hj => ?_⟩⟩, fun g => ?_⟩
  · exact g2 _ (pl_mem k0 g) ⟨q.1, q.2.elim (fun z => .inl (by omega)) .inr⟩
  · simp only at hj
    by_cases z : j = i.toNat
    · rw [z]
      exact fun w => q ⟨w.1, w.2.elim (fun z => .inl (by omega)) .inr⟩
    · exact k2 j (by omega)
  · obtain ⟨y, hy, gy⟩ := g1
    obtain ⟨j, hj, ej⟩ := List.getElem_of_mem hy
    have := k2 j (by omega)
    rw [List.getD_eq_getElem?_getD, List.getElem?_eq_getElem hj, Option.getD_some, ej] at this
    exact this gy
theorem on_len (l : List E) (a b : Int) : (onR l a b).length ≤ l.length := by
  unfold onR
  rw [List.length_map]
  exact List.length_filter_le _ _
theorem wy_0 {l : List E} {a b : Int} (h : rtE l a b = 0) : pwQ (wyB l a b) ⟨0, [a]⟩ := by
  obtain ⟨_, _, _, _, _, w, _, _, _, _⟩ := rt_0 h
  have e : wyB l a b = wF 65 (twH l b) a := if_pos h
  rw [← e] at w
  obtain ⟨q, eq⟩ := way_hd w
  refine ⟨Int.le_refl 0, ?_, ?_⟩
  · simp only
    rw [eq, List.length_cons]
    omega
  · simp only
    rw [eq]
    rfl
/-- The answer's heaviest. -/
structure XM where
  i : Int
  a : Int
  b : Int
  w : Int
def mxQ (l : List E) (y : XM) : Prop := 0 ≤ y.i ∧ y.i ≤ l.length ∧ (y.a, y.b, y.w) = (l.take y.i.toNat).foldl mx1 (trE (l.getD 0 []))
def mxM (l : List E) (y : XM) : Nat := l.length - y.i.toNat
noncomputable def mxI (l : List E) (y : XM) : St := stOf Try.f71.ntmps [(0, .sl none (.recs (.int .i64 (.int .i64 (.int .i64 .nil))) l)), (2, .ptr 1 0), (3, .ptr 2 0), (4, .val (.int .i64 y.i))] [(1, .cells 55 [.num .i64 0, .num .i64 0, .num .i64 0]), (2, .cells 55 [.val (.int .i64 y.a), .val (.int .i64 y.b), .val (.int .i64 y.w)])] [Any]
def mxR (st : St) : XM := ⟨slotI st 4, valI (cellC st 3 0), valI (cellC st 3 1), valI (cellC st 3 2)⟩
theorem mx_step {l : List E} (hl : l.length ≤ 1000000) {i a b w : Int} (hq : mxQ l ⟨i, a, b, w⟩) : (i < l.length → stdBin .add .i64 i 1 = i + 1 ∧ (∀ a' b' w', mxM l ⟨i + 1, a', b', w'⟩ < mxM l ⟨i, a, b, w⟩) ∧
    (lsW a b w (ri (l.getD i.toNat []) 0) (ri (l.getD i.toNat []) 1) (ri (l.getD i.toNat []) 2) = true → mxQ l ⟨i + 1, ri (l.getD i.toNat []) 0, ri (l.getD i.toNat []) 1, ri (l.getD i.toNat []) 2⟩) ∧ (lsW a b w (ri (l.getD i.toNat []) 0) (ri (l.getD i.toNat []) 1) (ri (l.getD i.toNat []) 2) = false → mxQ l ⟨i + 1, a, b, w⟩)) ∧ (¬ i < l.length → a = (mxT l).1 ∧ b = (mxT l).2.1 ∧ w = (mxT l).2.2) := by
  obtain ⟨h0, h1, h2⟩ := hq
  simp only at h0 h1 h2
  have nx : ∀ g : i < l.length, (l.take (i + 1).toNat).foldl mx1 (trE (l.getD 0 [])) = mx1 (a, b, w) (l.getD i.toNat []) := fun g => by
    rw [take_next l i h0 g, List.foldl_append, ← h2]
    rfl
  refine ⟨fun h => ⟨by rw [b_add, wr _ (by omega) (by omega)], fun _ _ _ => by simp only [mxM]; omega, fun g => ⟨by simp only; omega, by simp only; omega, ?_⟩, fun g => ⟨by simp only; omega, by simp only; omega, ?_⟩⟩, fun h => ?_⟩
  · simp only
    rw [nx h]
    unfold mx1
    exact (if_pos g).symm
  · simp only
    rw [nx h]
    unfold mx1
    exact (if_neg (by simp only; rw [g]; decide)).symm
  · have e : i = l.length := by omega
    rw [e, Int.toNat_natCast, List.take_length] at h2
    unfold mxT
    rw [← h2]
    exact ⟨rfl, rfl, rfl⟩
def mayR (l : List E) (a b : Int) : Bool := decide (allE l = 0) && (rfB l && (nodB a && nodB b))
/-- The code's heaviest. -/
def hvE (l : List E) (a b : Int) : Int := if rtE l a b = 0 then (if a = b then 4 else 0) else rtE l a b
def hvB (l : List E) (a b : Int) : T := if hvE l a b = 0 then hvT (wF 65 (twH l b) a) l else (0, 0, 0)
def hvQ (p : List Int) (l : List E) (y : XM) : Prop := 0 ≤ y.i ∧ y.i ≤ l.length ∧ (y.a, y.b, y.w) = hvT p (l.take y.i.toNat)
noncomputable def hvI (A : Ar) (l : List E) (_ p : List Int) (y : XM) : St := stOf Try.f101.ntmps [(0, .sl none (.recs (.int .i64 (.int .i64 (.int .i64 .nil))) l)), (6, .ptr 1 0), (10, .sl none (.ints .i64 p)), (11, .ptr 2 0), (33, .sl none (.recs (.int .i64 (.int .i64 (.int .i64 .nil))) l)), (34, .val (.int .i64 (A.lenE l))), (35, .val (.int .i64 y.i))] [(1, .cells 55 [.num .i64 0, .num .i64 0, .num .i64 0]), (2, .cells 55 [.val (.int .i64 y.a), .val (.int .i64 y.b), .val (.int .i64 y.w)])] [Any, Any, Any]
def hvR (st : St) : XM := ⟨slotI st 35, valI (cellC st 11 0), valI (cellC st 11 1), valI (cellC st 11 2)⟩
theorem hv_zero (p : List Int) (l : List E) : hvQ p l ⟨0, 0, 0, 0⟩ := ⟨Int.le_refl 0, Int.natCast_nonneg _, rfl⟩
theorem hv_step {p : List Int} {l : List E} (hl : l.length ≤ 1000000) {i a b w : Int} (hq : hvQ p l ⟨i, a, b, w⟩) : (i < l.length → stdBin .add .i64 i 1 = i + 1 ∧ (∀ a' b' w', mxM l ⟨i + 1, a', b', w'⟩ < mxM l ⟨i, a, b, w⟩) ∧
    (con p (ri (l.getD i.toNat []) 0) = true ∧ con p (ri (l.getD i.toNat []) 1) = true ∧ (a = 0 ∨ cmpF (ri (l.getD i.toNat []) 0) (ri (l.getD i.toNat []) 1) (ri (l.getD i.toNat []) 2) a b w > 0) → hvQ p l ⟨i + 1, ri (l.getD i.toNat []) 0, ri (l.getD i.toNat []) 1, ri (l.getD i.toNat []) 2⟩) ∧
    (¬ (con p (ri (l.getD i.toNat []) 0) = true ∧ con p (ri (l.getD i.toNat []) 1) = true ∧ (a = 0 ∨ cmpF (ri (l.getD i.toNat []) 0) (ri (l.getD i.toNat []) 1) (ri (l.getD i.toNat []) 2) a b w > 0)) → hvQ p l ⟨i + 1, a, b, w⟩)) ∧ (¬ i < l.length → a = (hvT p l).1 ∧ b = (hvT p l).2.1 ∧ w = (hvT p l).2.2) := by
  obtain ⟨h0, h1, h2⟩ := hq
  simp only at h0 h1 h2
  have nx : ∀ g : i < l.length, hvT p (l.take (i + 1).toNat) = hv1 p (a, b, w) (l.getD i.toNat []) := fun g => by
    unfold hvT at h2 ⊢
    rw [take_next l i h0 g, List.foldl_append, ← h2]
    rfl
  refine ⟨fun h => ⟨by rw [b_add, wr _ (by omega) (by omega)], fun _ _ _ => by simp only [mxM]; omega, fun g => ⟨by simp only; omega, by simp only; omega, ?_⟩, fun g => ⟨by simp only; omega, by simp only; omega, ?_⟩⟩, fun h => ?_⟩
  · simp only
    rw [nx h]
    unfold hv1
    exact (if_pos g).symm
  · simp only
    rw [nx h]
    unfold hv1
    exact (if_neg g).symm
  · have e : i = l.length := by omega
    rw [e, Int.toNat_natCast, List.take_length] at h2
    rw [← h2]
    exact ⟨rfl, rfl, rfl⟩
theorem hv_0 {l : List E} {a b : Int} (h : rtE l a b = 0) : rtH l a b = twH l b ∧ okW (twH l b) a = true ∧ (wF 65 (twH l b) a).length ≤ 64 := by
  obtain ⟨_, _, _, _, _, _, _, k1, k2, _⟩ := rt_0 h
  exact ⟨if_pos h, k1, k2⟩
def awE : List E := [[D.int 1, D.int 2, D.int 0], [D.int 2, D.int 3, D.int 0]]
theorem aw_w : rtE awE 3 1 = 0 ∧ wyB awE 3 1 = [3, 2, 1] := by decide +kernel

structure Tq where
  q_wo : List E → Int → Int → Int → List E
  q_on : List E → Int → Int → List E
  q_wy : List E → Int → Int → List Int
  q_okw : List E → Int → Int → Bool
  q_mx : List E → T
  q_ok1 : List E → Bool
  q_ok : List E → Bool
  q_in : List E → Bool
  q_may : List E → Int → Int → Bool
  q_hv : List E → Int → Int → T
  q_hve : List E → Int → Int → Int
def Tq.std : Tq := ⟨fun l a b w => butF l (a, b, w), onR, wyB, fun l a b => decide (rtE l a b = 0 ∧ l.length ≤ 512), mxT, fun l => decide (0 < l.length ∧ l.length ≤ 1000000), fun l => decide (l.length ≤ 1000000), inR, mayR, hvB, hvE⟩

def c_without (F : Tq) : Con := fun xs h => match xs, h with
  | [.one (.sl none (.recs (.int .i64 (.int .i64 (.int .i64 .nil))) l)), .agg [.val (.int .i64 c_a), .val (.int .i64 c_b), .val (.int .i64 c_w)]], [] => some ⟨F.q_ok l = true, .sa (.one (.sl none (.recs (.int .i64 (.int .i64 (.int .i64 .nil))) (F.q_wo l c_a c_b c_w)))), [], [Any, Any]⟩
  | _, _ => none
set_option cbv.maxSteps 4000000 in
set_option maxHeartbeats 4000000 in
set_option maxRecDepth 100000 in
theorem x_without (l : List E) (c_a : Int) (c_b : Int) (c_w : Int) (hC : Tq.std.q_ok l = true) : Does [] Try.f104 [.one (.sl none (.recs (.int .i64 (.int .i64 (.int .i64 .nil))) l)), .agg [.val (.int .i64 c_a), .val (.int .i64 c_b), .val (.int .i64 c_w)]] [] ⟨Tq.std.q_ok l = true, .sa (.one (.sl none (.recs (.int .i64 (.int .i64 (.int .i64 .nil))) (Tq.std.q_wo l c_a c_b c_w)))), [], [Any, Any]⟩ := by
  intro b gv
  have hk : l.length ≤ 1000000 := of_decide_eq_true (show decide (l.length ≤ 1000000) = true from hC)
  have hfs := FsOk.nil
  generalize hF : Tq.std = F at hC hfs ⊢
  generalize hG0 : EgR.Fs.std = G0 at hC hfs ⊢
  generalize hG1 : SpR.Sp.std = G1 at hC hfs ⊢
  generalize hG2 : SpQ.Sq.std = G2 at hC hfs ⊢
  generalize hG3 : TrR.Tr.std = G3 at hC hfs ⊢
  generalize hA : Ar.std = A
  generalize hL : Lp _ _ _ = L
  obtain ⟨Z, zq⟩ := z_all
  refine cd_open (lp_mono hL) zq rfl ?_
  repeat' (first
    | (refine z_open zq ?_; try dsimp only)
    | refine cd_seq zq ?_ (lp_mono hL)
    | refine cd_blk zq ?_
    | refine cd_ret ?_
    | refine cd_skip ?_
    | refine cd_exit ?_
    | refine cd_loop ?_
    | refine cd_cond rfl ?_
    | refine cd_condT rfl ?_
    | refine cd_condF rfl ?_
    | (refine Cd.mk ?_; cbv)
    | (refine Ends1.mk ?_; cbv)
    | (refine Fin1.mk ?_; cbv)
    | exact trivial
    | refine And.intro ?_ ?_
    | refine orf fun _ => ?_
    | refine ort fun _ => ?_)
  subst hL
  refine loop_z (cx_ok hfs) (woQ l (c_a, c_b, c_w)) (woI l c_a c_b c_w) (foM l) (rdR 6 5) ⟨0, []⟩ ?_ ?_ ?_
  · exact ⟨Int.le_refl 0, Int.natCast_nonneg _, rfl⟩
  · cbv
    repeat' (first | exact trivial | exact rfl | refine And.intro ?_ ?_)
  rintro ⟨i, o⟩ hq O hO
  have hst := wo_step hk hq
  have q0 := hq.1
  have q1 := hq.2.1
  dsimp only at q0 q1
  subst hA
  generalize hA : Ar.std = A
  generalize hL : Lp _ _ _ = L
  refine cd_close zq ?_
  repeat' (first
    | (refine z_open zq ?_; try dsimp only)
    | refine cd_seq zq ?_ (lp_mono hL)
    | refine cd_blk zq ?_
    | refine cd_ret ?_
    | refine cd_skip ?_
    | refine cd_exit ?_
    | refine cd_loop ?_
    | refine cd_cond rfl ?_
    | refine cd_condT rfl ?_
    | refine cd_condF rfl ?_
    | (refine Cd.mk ?_; cbv)
    | (refine Ends1.mk ?_; cbv)
    | (refine Fin1.mk ?_; cbv)
    | exact trivial
    | refine And.intro ?_ ?_
    | refine orf fun _ => ?_
    | refine ort fun _ => ?_)
  all_goals (clear hL hfs zq Z hq; subst hA hF hG0 hG1 hG2 hG3 hO; simp only [Tq.std, Ar.std] at * <;> grind [stdCmp]; done)
theorem ok_without : ConOk Try.prog 104 (c_without Tq.std) := by
  refine con_of FsOk.nil Try.func104 rfl rfl fun xs h p hp => ?_
  unfold c_without at hp
  split at hp
  · cases hp
    exact ⟨lee_le rfl, fun hC _ => x_without _ _ _ _ hC⟩
  · cases hp

def c_on (F : Tq) : Con := fun xs h => match xs, h with
  | [.one (.sl none (.recs (.int .i64 (.int .i64 (.int .i64 .nil))) l)), .one (.val (.int .i64 a)), .one (.val (.int .i64 d))], [] => some ⟨F.q_in l = true, .sa (.one (.sl none (.recs (.int .i64 (.int .i64 (.int .i64 .nil))) (F.q_on l a d)))), [], [Any, Any, Any]⟩
  | _, _ => none
set_option cbv.maxSteps 4000000 in
set_option maxHeartbeats 4000000 in
set_option maxRecDepth 100000 in
theorem x_on (l : List E) (a : Int) (d : Int) (hC : Tq.std.q_in l = true) : Does [(104, c_without Tq.std), (29, c_rlinked SpQ.Sq.std)] Try.f72 [.one (.sl none (.recs (.int .i64 (.int .i64 (.int .i64 .nil))) l)), .one (.val (.int .i64 a)), .one (.val (.int .i64 d))] [] ⟨Tq.std.q_in l = true, .sa (.one (.sl none (.recs (.int .i64 (.int .i64 (.int .i64 .nil))) (Tq.std.q_on l a d)))), [], [Any, Any, Any]⟩ := by
  intro b gv
  have hk : inR l = true := hC
  have hk1 := (inR_iff.1 hk).1
  have hfs := (FsOk.cons ok_without (FsOk.cons ok_rlinked FsOk.nil rfl) rfl)
  generalize hF : Tq.std = F at hC hfs ⊢
  generalize hG0 : EgR.Fs.std = G0 at hC hfs ⊢
  generalize hG1 : SpR.Sp.std = G1 at hC hfs ⊢
  generalize hG2 : SpQ.Sq.std = G2 at hC hfs ⊢
  generalize hG3 : TrR.Tr.std = G3 at hC hfs ⊢
  generalize hA : Ar.std = A
  generalize hL : Lp _ _ _ = L
  obtain ⟨Z, zq⟩ := z_all
  refine cd_open (lp_mono hL) zq rfl ?_
  repeat' (first
    | (refine z_open zq ?_; try dsimp only)
    | refine cd_seq zq ?_ (lp_mono hL)
    | refine cd_blk zq ?_
    | refine cd_ret ?_
    | refine cd_skip ?_
    | refine cd_exit ?_
    | refine cd_loop ?_
    | refine cd_cond rfl ?_
    | refine cd_condT rfl ?_
    | refine cd_condF rfl ?_
    | (refine Cd.mk ?_; cbv)
    | (refine Ends1.mk ?_; cbv)
    | (refine Fin1.mk ?_; cbv)
    | exact trivial
    | refine And.intro ?_ ?_
    | refine orf fun _ => ?_
    | refine ort fun _ => ?_)
  subst hL
  refine loop_z (cx_ok hfs) (onQ l a d) (onI l a d) (foM l) (rdR 8 7) ⟨0, []⟩ ?_ ?_ ?_
  · exact ⟨Int.le_refl 0, Int.natCast_nonneg _, rfl⟩
  · cbv
    repeat' (first | exact trivial | exact rfl | refine And.intro ?_ ?_)
  rintro ⟨i, o⟩ hq O hO
  have hst := on_step hk hq
  have q0 := hq.1
  have q1 := hq.2.1
  dsimp only at q0 q1
  subst hA
  generalize hA : Ar.std = A
  generalize hL : Lp _ _ _ = L
  refine cd_close zq ?_
  repeat' (first
    | (refine z_open zq ?_; try dsimp only)
    | refine cd_seq zq ?_ (lp_mono hL)
    | refine cd_blk zq ?_
    | refine cd_ret ?_
    | refine cd_skip ?_
    | refine cd_exit ?_
    | refine cd_loop ?_
    | refine cd_cond rfl ?_
    | refine cd_condT rfl ?_
    | refine cd_condF rfl ?_
    | (refine Cd.mk ?_; cbv)
    | (refine Ends1.mk ?_; cbv)
    | (refine Fin1.mk ?_; cbv)
    | exact trivial
    | refine And.intro ?_ ?_
    | refine orf fun _ => ?_
    | refine ort fun _ => ?_)
  all_goals (clear hL hfs zq Z hq; subst hA hF hG0 hG1 hG2 hG3 hO; simp only [Tq.std, SpQ.Sq.std, Ar.std] at * <;> grind [stdCmp]; done)
theorem ok_on : ConOk Try.prog 72 (c_on Tq.std) := by
  refine con_of (FsOk.cons ok_without (FsOk.cons ok_rlinked FsOk.nil rfl) rfl) Try.func72 rfl rfl fun xs h p hp => ?_
  unfold c_on at hp
  split at hp
  · cases hp
    exact ⟨lee_le rfl, fun hC _ => x_on _ _ _ hC⟩
  · cases hp

def c_heaviest (F : Tq) : Con := fun xs h => match xs, h with
  | [.one (.sl none (.recs (.int .i64 (.int .i64 (.int .i64 .nil))) l))], [] => some ⟨F.q_ok1 l = true, .sa (.agg [.val (.int .i64 (F.q_mx l).1), .val (.int .i64 (F.q_mx l).2.1), .val (.int .i64 (F.q_mx l).2.2)]), [], [Any]⟩
  | _, _ => none
set_option cbv.maxSteps 4000000 in
set_option maxHeartbeats 4000000 in
set_option maxRecDepth 100000 in
theorem x_heaviest (l : List E) (hC : Tq.std.q_ok1 l = true) : Does [(70, c_rless SpQ.Sq.std)] Try.f71 [.one (.sl none (.recs (.int .i64 (.int .i64 (.int .i64 .nil))) l))] [] ⟨Tq.std.q_ok1 l = true, .sa (.agg [.val (.int .i64 (Tq.std.q_mx l).1), .val (.int .i64 (Tq.std.q_mx l).2.1), .val (.int .i64 (Tq.std.q_mx l).2.2)]), [], [Any]⟩ := by
  intro b gv
  have hk : 0 < l.length ∧ l.length ≤ 1000000 := of_decide_eq_true (show decide (0 < l.length ∧ l.length ≤ 1000000) = true from hC)
  have hfs := (FsOk.cons ok_rless FsOk.nil rfl)
  generalize hF : Tq.std = F at hC hfs ⊢
  generalize hG0 : EgR.Fs.std = G0 at hC hfs ⊢
  generalize hG1 : SpR.Sp.std = G1 at hC hfs ⊢
  generalize hG2 : SpQ.Sq.std = G2 at hC hfs ⊢
  generalize hG3 : TrR.Tr.std = G3 at hC hfs ⊢
  generalize hA : Ar.std = A
  generalize hL : Lp _ _ _ = L
  obtain ⟨Z, zq⟩ := z_all
  refine cd_open (lp_mono hL) zq rfl ?_
  repeat' (first
    | (refine z_open zq ?_; try dsimp only)
    | refine cd_seq zq ?_ (lp_mono hL)
    | refine cd_blk zq ?_
    | refine cd_ret ?_
    | refine cd_skip ?_
    | refine cd_exit ?_
    | refine cd_loop ?_
    | refine cd_cond rfl ?_
    | refine cd_condT rfl ?_
    | refine cd_condF rfl ?_
    | (refine Cd.mk ?_; cbv)
    | (refine Ends1.mk ?_; cbv)
    | (refine Fin1.mk ?_; cbv)
    | exact trivial
    | refine And.intro ?_ ?_
    | refine orf fun _ => ?_
    | refine ort fun _ => ?_)
  all_goals first | (show L _ _ _; skip) | (clear hL hfs zq Z; subst hA hF hG0 hG1 hG2 hG3; simp only [Tq.std, Ar.std] at * <;> grind [stdCmp]; done)
  subst hL
  refine loop_z (cx_ok hfs) (mxQ l) (mxI l) (mxM l) mxR ⟨0, A.ri (A.atE l 0) 0, A.ri (A.atE l 0) 1, A.ri (A.atE l 0) 2⟩ ?_ ?_ ?_
  · (subst hA; exact ⟨Int.le_refl 0, Int.natCast_nonneg _, rfl⟩)
  · cbv
    repeat' (first | exact trivial | exact rfl | refine And.intro ?_ ?_)
  rintro ⟨i, a, d, w⟩ hq O hO
  have hst := mx_step hk.2 hq
  have q0 := hq.1
  have q1 := hq.2.1
  dsimp only at q0 q1
  subst hA
  generalize hA : Ar.std = A
  generalize hL : Lp _ _ _ = L
  refine cd_close zq ?_
  repeat' (first
    | (refine z_open zq ?_; try dsimp only)
    | refine cd_seq zq ?_ (lp_mono hL)
    | refine cd_blk zq ?_
    | refine cd_ret ?_
    | refine cd_skip ?_
    | refine cd_exit ?_
    | refine cd_loop ?_
    | refine cd_cond rfl ?_
    | refine cd_condT rfl ?_
    | refine cd_condF rfl ?_
    | (refine Cd.mk ?_; cbv)
    | (refine Ends1.mk ?_; cbv)
    | (refine Fin1.mk ?_; cbv)
    | exact trivial
    | refine And.intro ?_ ?_
    | refine orf fun _ => ?_
    | refine ort fun _ => ?_)
  all_goals (clear hL hfs zq Z hq; subst hA hF hG0 hG1 hG2 hG3 hO; simp only [Tq.std, SpQ.Sq.std, Ar.std] at * <;> grind [stdCmp]; done)
theorem ok_heaviest : ConOk Try.prog 71 (c_heaviest Tq.std) := by
  refine con_of (FsOk.cons ok_rless FsOk.nil rfl) Try.func71 rfl rfl fun xs h p hp => ?_
  unfold c_heaviest at hp
  split at hp
  · cases hp
    exact ⟨lee_le rfl, fun hC _ => x_heaviest _ hC⟩
  · cases hp

def c_rmay (F : Tq) : Con := fun xs h => match xs, h with
  | [.one (.sl none (.recs (.int .i64 (.int .i64 (.int .i64 .nil))) l)), .one (.val (.int .i64 a)), .one (.val (.int .i64 d))], [] => some ⟨F.q_ok l = true, .sa (B (F.q_may l a d)), [], [Any, Any, Any]⟩
  | _, _ => none
def c_theavy (F : Tq) : Con := fun xs h => match xs, h with
  | [.one (.sl none (.recs (.int .i64 (.int .i64 (.int .i64 .nil))) l)), .one (.val (.int .i64 a)), .one (.val (.int .i64 d))], [] => some ⟨F.q_ok l = true, .tup [.agg [.val (.int .i64 (F.q_hv l a d).1), .val (.int .i64 (F.q_hv l a d).2.1), .val (.int .i64 (F.q_hv l a d).2.2)], I (F.q_hve l a d)], [], [Any, Any, Any]⟩
  | _, _ => none
set_option cbv.maxSteps 4000000 in
set_option maxHeartbeats 4000000 in
set_option maxRecDepth 100000 in
theorem x_theavy (l : List E) (a : Int) (d : Int) (hC : Tq.std.q_ok l = true) : Does [(106, c_route TrR.Tr.std), (108, c_way TrR.Tr.std), (105, c_contains TrR.Tr.std), (102, c_ecmp EgR.Fs.std)] Try.f101 [.one (.sl none (.recs (.int .i64 (.int .i64 (.int .i64 .nil))) l)), .one (.val (.int .i64 a)), .one (.val (.int .i64 d))] [] ⟨Tq.std.q_ok l = true, .tup [.agg [.val (.int .i64 (Tq.std.q_hv l a d).1), .val (.int .i64 (Tq.std.q_hv l a d).2.1), .val (.int .i64 (Tq.std.q_hv l a d).2.2)], I (Tq.std.q_hve l a d)], [], [Any, Any, Any]⟩ := by
  intro b gv
  have hk : l.length ≤ 1000000 := of_decide_eq_true (show decide (l.length ≤ 1000000) = true from hC)
  have h0 := fun h => hv_0 (l := l) (a := a) (b := d) h
  have h65 := rt_len (l := l) (a := a) (b := d)
  have hfs := (FsOk.cons ok_route (FsOk.cons ok_way (FsOk.cons ok_contains (FsOk.cons ok_ecmp FsOk.nil rfl) rfl) rfl) rfl)
  generalize hF : Tq.std = F at hC hfs ⊢
  generalize hG0 : EgR.Fs.std = G0 at hC hfs ⊢
  generalize hG1 : SpR.Sp.std = G1 at hC hfs ⊢
  generalize hG2 : SpQ.Sq.std = G2 at hC hfs ⊢
  generalize hG3 : TrR.Tr.std = G3 at hC hfs ⊢
  generalize hA : Ar.std = A
  generalize hL : Lp _ _ _ = L
  obtain ⟨Z, zq⟩ := z_all
  refine cd_open (lp_mono hL) zq rfl ?_
  repeat' (first
    | (refine z_open zq ?_; try dsimp only)
    | refine cd_seq zq ?_ (lp_mono hL)
    | refine cd_blk zq ?_
    | refine cd_ret ?_
    | refine cd_skip ?_
    | refine cd_exit ?_
    | refine cd_loop ?_
    | refine cd_cond rfl ?_
    | refine cd_condT rfl ?_
    | refine cd_condF rfl ?_
    | (refine Cd.mk ?_; cbv)
    | (refine Ends1.mk ?_; cbv)
    | (refine Fin1.mk ?_; cbv)
    | exact trivial
    | refine And.intro ?_ ?_
    | refine orf fun _ => ?_
    | refine ort fun _ => ?_)
  all_goals first | (show L _ _ _; skip) | (clear hL hfs zq Z; subst hA hF hG0 hG1 hG2 hG3; simp only [Tq.std, TrR.Tr.std, Ar.std] at * <;> grind [stdCmp, hvE, hvB]; done)
  rename_i hx1 hx2
  have hr : rtE l a d = 0 ∧ ¬ a = d := by
    clear hL hfs zq Z h0
    subst hA hF hG0 hG1 hG2 hG3
    simp only [Tq.std, TrR.Tr.std, Ar.std] at *
    grind [stdCmp]
  clear hx1 hx2
  obtain ⟨r1, r2, r3⟩ := h0 hr.1
  have r4 : hvE l a d = 0 := by
    unfold hvE
    rw [if_pos hr.1, if_neg hr.2]
  have r5 : hvB l a d = hvT (wF 65 (twH l d) a) l := if_pos r4
  subst hL
  refine loop_z (cx_ok hfs) (hvQ (wF 65 (twH l d) a) l) (hvI A l (G3.t_rh l a d) (G3.t_w (G3.t_rh l a d) a)) (mxM l) hvR ⟨0, 0, 0, 0⟩ ?_ ?_ ?_
  · exact hv_zero _ _
  · cbv
    repeat' (first | exact trivial | exact rfl | refine And.intro ?_ ?_)
  rintro ⟨i, x, y, w⟩ hq O hO
  have hst := hv_step hk hq
  have q0 := hq.1
  have q1 := hq.2.1
  dsimp only at q0 q1
  subst hA
  generalize hA : Ar.std = A
  generalize hL : Lp _ _ _ = L
  refine cd_close zq ?_
  repeat' (first
    | (refine z_open zq ?_; try dsimp only)
    | refine cd_seq zq ?_ (lp_mono hL)
    | refine cd_blk zq ?_
    | refine cd_ret ?_
    | refine cd_skip ?_
    | refine cd_exit ?_
    | refine cd_loop ?_
    | refine cd_cond rfl ?_
    | refine cd_condT rfl ?_
    | refine cd_condF rfl ?_
    | (refine Cd.mk ?_; cbv)
    | (refine Ends1.mk ?_; cbv)
    | (refine Fin1.mk ?_; cbv)
    | exact trivial
    | refine And.intro ?_ ?_
    | refine orf fun _ => ?_
    | refine ort fun _ => ?_)
  all_goals (clear hL hfs zq Z hq; subst hA hF hG0 hG1 hG2 hG3 hO; simp only [Tq.std, EgR.Fs.std, TrR.Tr.std, Ar.std] at * <;> grind [stdCmp]; done)
theorem ok_theavy : ConOk Try.prog 101 (c_theavy Tq.std) := by
  refine con_of (FsOk.cons ok_route (FsOk.cons ok_way (FsOk.cons ok_contains (FsOk.cons ok_ecmp FsOk.nil rfl) rfl) rfl) rfl) Try.func101 rfl rfl fun xs h p hp => ?_
  unfold c_theavy at hp
  split at hp
  · cases hp
    exact ⟨lee_le rfl, fun hC _ => x_theavy _ _ _ hC⟩
  · cases hp
end Go.Proofs.Ytfioaidmgcibaaa.TrQ
