/-
  which ways fit, which rise, by the code and by the document. No condition but size.
-/
import Derived.Test.YtakebkfhigadiaaGreatTwV
import Derived.Test.YtakebkfhigadiaaGreatRyZ
namespace Go.Proofs.YtakebkfhigadiaaGreat.TwR
open Go Go.Proofs.YtakebkfhigadiaaGreat.Ry Go.Proofs.YtakebkfhigadiaaGreat.Cmp Go.Proofs.YtakebkfhigadiaaGreat.ViR Go.Proofs.YtakebkfhigadiaaGreat.TwV

structure WQ where
  k : Int
  e : Int
  r : Int
  n : List Int
  l : List E
  ck : Int
  ca : Int
  cb : Int
  cs : Int
def sameW (w u : WQ) : Bool := decide (w.k = u.k ∧ w.e = u.e ∧ w.r = u.r ∧ w.ck = u.ck ∧ w.ca = u.ca ∧ w.cb = u.cb ∧ w.cs = u.cs) && sameV w.n w.l u.n u.l
def okQ (w u : WQ) : Bool := decide ((w.n.length ≤ 1000000000000000 ∧ w.l.length ≤ 1000000000000000) ∧ u.n.length ≤ 1000000000000000 ∧ u.l.length ≤ 1000000000000000)
def eW (a : E) : WQ := ⟨ri a 0, ri a 1, ri a 2, rl a 3, rr a 4, ri a 5, ri a 6, ri a 7, ri a 8⟩
def okR (l : List E) : Bool := l.all fun y => decide ((rl y 3).length ≤ 1000000000000000 ∧ (rr y 4).length ≤ 1000000000000000)
theorem okR_at {l : List E} (h : okR l = true) {i : Nat} (hi : i < l.length) : (rl (l.getD i []) 3).length ≤ 1000000000000000 ∧ (rr (l.getD i []) 4).length ≤ 1000000000000000 := by
  unfold okR at h
  rw [List.all_eq_true] at h
  have e : l.getD i [] = l[i] := by rw [List.getD_eq_getElem?_getD, List.getElem?_eq_getElem hi]; rfl
  rw [e]
  exact of_decide_eq_true (h _ (List.getElem_mem hi))
theorem okR_take {l : List E} (h : okR l = true) (n : Nat) : okR (l.take n) = true := by
  unfold okR at h ⊢
  rw [List.all_eq_true] at h ⊢
  exact fun y hy => h y (List.mem_of_mem_take hy)
theorem okQ_at {p q : List E} (hp : okR p = true) (hq : okR q = true) {i : Nat} (h1 : i < p.length) (h2 : i < q.length) : okQ ⟨ri (p.getD i []) 0, ri (p.getD i []) 1, ri (p.getD i []) 2, rl (p.getD i []) 3, rr (p.getD i []) 4, ri (p.getD i []) 5, ri (p.getD i []) 6, ri (p.getD i []) 7, ri (p.getD i []) 8⟩ ⟨ri (q.getD i []) 0, ri (q.getD i []) 1, ri (q.getD i []) 2, rl (q.getD i []) 3, rr (q.getD i []) 4, ri (q.getD i []) 5, ri (q.getD i []) 6, ri (q.getD i []) 7, ri (q.getD i []) 8⟩ = true :=
  decide_eq_true ⟨okR_at hp h1, okR_at hq h2⟩
def eWd (p q : List E) (j : Nat) : Bool := sameW (eW (p.getD j [])) (eW (q.getD j []))
def eqW (p q : List E) : Bool := decide (p.length = q.length) && allL p.length (eWd p q)
def okE (p q : List E) : Bool := decide (p.length ≤ 1000 ∧ q.length ≤ 1000) && (okR p && okR q)
theorem okE_is {p q : List E} (h : okE p q = true) : (p.length ≤ 1000 ∧ q.length ≤ 1000) ∧ okR p = true ∧ okR q = true := by
  unfold okE at h
  rw [Bool.and_eq_true, Bool.and_eq_true, decide_eq_true_eq] at h
  exact h
theorem eqW_no {p q : List E} (h : ¬ p.length = q.length) : eqW p q = false := by
  unfold eqW
  rw [decide_eq_false h]
  rfl
theorem eqW_yes {p q : List E} (h : p.length = q.length) : allL p.length (eWd p q) = eqW p q := by
  unfold eqW
  rw [decide_eq_true h]
  rfl
def begB (s a : List E) : Bool := decide (s.length ≤ a.length) && eqW s (a.take s.length)
theorem beg_ok {p q : List E} (h : okE p q = true) : okE p (q.take p.length) = true ∧ (p.length ≤ q.length → begB p q = eqW p (q.take p.length)) ∧ (¬ p.length ≤ q.length → begB p q = false) := by
  obtain ⟨⟨h1, h2⟩, h3, h4⟩ := okE_is h
  refine ⟨?_, fun g => ?_, fun g => ?_⟩
  · unfold okE
    rw [h3, okR_take h4, Bool.and_true, Bool.and_true, decide_eq_true_eq, List.length_take]
    omega
  · unfold begB
    rw [decide_eq_true g]
    rfl
  · unfold begB
    rw [decide_eq_false g]
    rfl
def mtB (y : E) (a s : Int) : Bool := decide (ri y 0 = a ∧ ri y 1 = s)
def ixG (l : List E) (a s : Int) : Nat := l.findIdx fun y => mtB y a s
def ixF (l : List E) (a s : Int) : Int := if ixG l a s < l.length then ixG l a s else -1
def toF (l : List E) (a s : Int) : List E := if ixG l a s < l.length then rr (l.getD (ixG l a s) []) 2 else []
def ixQ (l : List E) (a s : Int) (y : XI) : Prop := 0 ≤ y.i ∧ y.i ≤ l.length ∧ y.i ≤ ixG l a s
theorem at_get (l : List E) {i : Nat} (h : i < l.length) : l.getD i [] = l[i] := by rw [List.getD_eq_getElem?_getD, List.getElem?_eq_getElem h]; rfl
theorem ixG_at {l : List E} {a s : Int} {i : Nat} (hi : i < l.length) (h : mtB (l.getD i []) a s = true) : ixG l a s ≤ i := by
  refine Nat.le_of_not_lt fun g => ?_
  have := List.not_of_lt_findIdx g
  rw [← at_get l hi, h] at this
  cases this
theorem ixG_get {l : List E} {a s : Int} (h : ixG l a s < l.length) : mtB (l.getD (ixG l a s) []) a s = true := by
  rw [at_get l h]
  exact List.findIdx_getElem (w := h)
theorem ix_step {l : List E} {a s i : Int} (hl : l.length ≤ 1000) (hq : ixQ l a s ⟨i⟩) (h : i < l.length) : stdBin .add .i64 i 1 = i + 1 ∧ allM l.length ⟨i + 1⟩ < allM l.length ⟨i⟩ ∧ (mtB (l.getD i.toNat []) a s = true → ixF l a s = i) ∧ (mtB (l.getD i.toNat []) a s = false → ixQ l a s ⟨i + 1⟩) := by
  obtain ⟨h0, h1, h2⟩ := hq
  simp only at h0 h1 h2
  refine ⟨by rw [b_add, wr _ (by omega) (by omega)], by simp only [allM]; omega, fun g => ?_, fun g => ⟨by simp only; omega, by simp only; omega, ?_⟩⟩
  · have := ixG_at (by omega) g
    unfold ixF
    rw [if_pos (by omega)]
    omega
  · simp only
    by_cases e : (ixG l a s : Int) = i
    · have : ixG l a s = i.toNat := by omega
      have k := ixG_get (l := l) (a := a) (s := s) (by omega)
      rw [this, g] at k
      cases k
    · omega
theorem ix_end {l : List E} {a s i : Int} (hq : ixQ l a s ⟨i⟩) (h : ¬ i < l.length) : ixF l a s = -1 := by
  obtain ⟨h0, h1, h2⟩ := hq
  simp only at h0 h1 h2
  unfold ixF
  rw [if_neg (by omega)]
theorem ix_told (l : List E) (a s : Int) : (0 ≤ ixF l a s → ixF l a s < l.length ∧ toF l a s = rr (l.getD (ixF l a s).toNat []) 2) ∧ (¬ 0 ≤ ixF l a s → toF l a s = []) := by
  unfold ixF toF
  split
  · exact ⟨fun _ => ⟨by omega, by rw [Int.toNat_natCast]⟩, fun h => absurd (Int.natCast_nonneg _) h⟩
  · exact ⟨fun h => absurd h (by decide), fun _ => rfl⟩
def okY (l : List E) : Bool := decide (l.length ≤ 60) && l.all fun y => decide ((rr y 2).length ≤ 60 ∧ (rr y 3).length ≤ 60) && (okR (rr y 2) && okR (rr y 3))
theorem okY_len {l : List E} (h : okY l = true) : l.length ≤ 60 := by
  unfold okY at h
  rw [Bool.and_eq_true, decide_eq_true_eq] at h
  exact h.1
theorem okY_at {l : List E} (h : okY l = true) {i : Nat} (hi : i < l.length) : (rr (l.getD i []) 2).length ≤ 60 ∧ (rr (l.getD i []) 3).length ≤ 60 ∧ okR (rr (l.getD i []) 2) = true ∧ okR (rr (l.getD i []) 3) = true := by
  unfold okY at h
  rw [Bool.and_eq_true, List.all_eq_true] at h
  have := h.2 _ (List.getElem_mem hi)
  rw [← at_get l hi, Bool.and_eq_true, Bool.and_eq_true, decide_eq_true_eq] at this
  exact ⟨this.1.1, this.1.2, this.2.1, this.2.2⟩
def fiB (a : Int) (w : List E) (b : Int) (o : List E) (j : Nat) : Bool := !decide (ri (w.getD j []) 0 = b) || begB (rr (w.getD j []) 3) (toF o a (ri (w.getD j []) 1))
def fitB (a : Int) (w : List E) (b : Int) (o : List E) : Bool := allL w.length (fiB a w b o)
def okF (w o : List E) : Bool := okY w && okY o
theorem okR_nil : okR [] = true := rfl
theorem to_ok {o : List E} (h : okY o = true) (a s : Int) : (toF o a s).length ≤ 60 ∧ okR (toF o a s) = true := by
  unfold toF
  split
  · rename_i g
    have := okY_at h g
    exact ⟨this.1, this.2.2.1⟩
  · exact ⟨Nat.zero_le _, rfl⟩
theorem fi_at {a b : Int} {w o : List E} (h : okF w o = true) {i : Nat} (hi : i < w.length) : okE (rr (w.getD i []) 3) (toF o a (ri (w.getD i []) 1)) = true ∧ (¬ ri (w.getD i []) 0 = b → fiB a w b o i = true) ∧ (ri (w.getD i []) 0 = b → fiB a w b o i = begB (rr (w.getD i []) 3) (toF o a (ri (w.getD i []) 1))) := by
  unfold okF at h
  rw [Bool.and_eq_true] at h
  obtain ⟨h1, h2⟩ := h
  have h3 := okY_at h1 hi
  have h4 := to_ok h2 a (ri (w.getD i []) 1)
  refine ⟨?_, fun g => ?_, fun g => ?_⟩
  · unfold okE
    rw [h3.2.2.2, h4.2, decide_eq_true (by omega)]
    rfl
  · unfold fiB
    rw [decide_eq_false g]
    rfl
  · unfold fiB
    rw [decide_eq_true g]
    rfl

/-! ## sessions that rise -/
theorem find_put (k v n : Int) : ∀ l : List (Int × Int), ((l.map fun p => if p.1 == k then (k, v) else p).find? fun p => p.1 == n) = (l.find? fun p => p.1 == n).map fun p => if p.1 == k then (k, v) else p
  | [] => rfl
  | p :: l => by
    have ih := find_put k v n l
    simp only [List.map_cons, List.find?_cons]
    by_cases e : p.1 = k
    · have e1 : (p.1 == k) = true := by simpa using e
      simp only [e1, if_true]
      by_cases g : k = n
      · have g1 : (k == n) = true := by simpa using g
        have g2 : (p.1 == n) = true := by simpa using e.trans g
        simp only [g1, g2, Option.map_some, e1, if_true]
      · have g1 : (k == n) = false := by simpa using g
        have g2 : (p.1 == n) = false := by simpa using (fun h => g (e.symm.trans h))
        simp only [g1, g2]
        exact ih
    · have e1 : (p.1 == k) = false := by simpa using e
      simp only [e1, Bool.false_eq_true, if_false]
      cases h : (p.1 == n) with
      | true => simp only [Option.map_some, e1, Bool.false_eq_true, if_false]
      | false => exact ih
theorem mget_put (l : List (Int × Int)) (k v n : Int) : mget (mput l k v) n = if n = k then v else mget l n := by
  unfold mput mhas mget
  by_cases h : (l.any fun p => p.1 == k) = true
  · rw [if_pos h, find_put]
    cases hf : l.find? (fun p => p.1 == n) with
    | none =>
      simp only [Option.map_none]
      split
      · rename_i e
        subst e
        obtain ⟨p, hp, e⟩ := List.any_eq_true.1 h
        exact absurd e (by simpa using List.find?_eq_none.1 hf p hp)
      · rfl
    | some p =>
      have hp : p.1 = n := by simpa using List.find?_some hf
      simp only [Option.map_some]
      by_cases e : n = k
      · have : (p.1 == k) = true := by simpa using hp.trans e
        simp only [this, if_true, e]
      · have : (p.1 == k) = false := by simpa using (fun g => e (hp.symm.trans g))
        simp only [this, Bool.false_eq_true, if_false, e]
  · rw [if_neg h]
    have hno : ∀ p ∈ l, ¬ p.1 = k := fun p hp e => h (List.any_eq_true.2 ⟨p, hp, by simpa using e⟩)
    rw [List.find?_append]
    cases hf : l.find? (fun p => p.1 == n) with
    | none =>
      simp only [Option.none_or, List.find?_cons]
      by_cases e : n = k
      · subst e
        simp
      · have : (k == n) = false := by simpa using (fun g => e g.symm)
        simp only [this, List.find?_nil, e, if_false]
    | some p =>
      have hp : p.1 = n := by simpa using List.find?_some hf
      have hm := hno p (List.mem_of_find?_eq_some hf)
      rw [Option.some_or, if_neg (fun e => hm (hp.trans e))]
theorem mhas_put (l : List (Int × Int)) (k v n : Int) : mhas (mput l k v) n = (decide (n = k) || mhas l n) := by
  unfold mput
  split
  · rename_i h
    rw [Bool.eq_iff_iff]
    unfold mhas at h ⊢
    simp only [List.any_map, Bool.or_eq_true, decide_eq_true_eq, List.any_eq_true, Function.comp] at h ⊢
    constructor
    · rintro ⟨p, hp, hh⟩
      split at hh
      · exact .inl (beq_iff_eq.1 hh).symm
      · exact .inr ⟨p, hp, hh⟩
    · rintro (rfl | ⟨p, hp, hh⟩)
      · obtain ⟨p, hp, hh⟩ := h
        exact ⟨p, hp, by rw [if_pos hh]; simp⟩
      · refine ⟨p, hp, ?_⟩
        split
        · rename_i g
          rw [← beq_iff_eq.1 hh, ← beq_iff_eq.1 g]
          simp
        · exact hh
  · unfold mhas
    rw [List.any_append, Bool.or_comm]
    by_cases e : n = k
    · subst e
      simp
    · have e2 : ¬ k = n := fun q => e q.symm
      simp [e, e2]
theorem mput_len (l : List (Int × Int)) (k v : Int) : (mput l k v).length ≤ l.length + 1 := by
  unfold mput
  split
  · rw [List.length_map]
    omega
  · rw [List.length_append]
    exact Nat.le_refl _
def prB (w : List E) (i k : Nat) : Bool := !decide (ri (w.getD k []) 0 = ri (w.getD i []) 0 ∧ ri (w.getD k []) 1 ≥ ri (w.getD i []) 1)
def roB (w : List E) (i : Nat) : Bool := allL i (prB w i)
def risB (w : List E) : Bool := allL w.length (roB w)
structure XMp where
  i : Int
  m : List (Int × Int)
/-- Of each peer the greatest session. -/
def rsQ (w : List E) (y : XMp) : Prop := 0 ≤ y.i ∧ y.i ≤ w.length ∧ y.m.length ≤ y.i ∧ (∀ j : Nat, j < y.i → roB w j = true) ∧ (∀ j : Nat, j < y.i → mhas y.m (ri (w.getD j []) 0) = true ∧ ri (w.getD j []) 1 ≤ mget y.m (ri (w.getD j []) 0)) ∧ ∀ p, mhas y.m p = true → ∃ j : Nat, j < y.i ∧ ri (w.getD j []) 0 = p ∧ ri (w.getD j []) 1 = mget y.m p
def rsM (w : List E) (y : XMp) : Nat := w.length - y.i.toNat
theorem rs_zero (w : List E) : rsQ w ⟨0, []⟩ := ⟨Int.le_refl 0, Int.natCast_nonneg _, Int.le_refl 0, fun j h => (by simp only at h; omega), fun j h => (by simp only at h; omega), fun p h => by cases h⟩
theorem rs_step {w : List E} {i : Int} {m : List (Int × Int)} (hl : w.length ≤ 60) (hq : rsQ w ⟨i, m⟩) (h : i < w.length) :
    stdBin .add .i64 i 1 = i + 1 ∧ (m.length : Int) < 1000000000000 ∧ rsM w ⟨i + 1, mput m (ri (w.getD i.toNat []) 0) (ri (w.getD i.toNat []) 1)⟩ < rsM w ⟨i, m⟩ ∧
    (mhas m (ri (w.getD i.toNat []) 0) = true → mget m (ri (w.getD i.toNat []) 0) ≥ ri (w.getD i.toNat []) 1 → risB w = false) ∧
    ((mhas m (ri (w.getD i.toNat []) 0) = false ∨ ¬ mget m (ri (w.getD i.toNat []) 0) ≥ ri (w.getD i.toNat []) 1) → rsQ w ⟨i + 1, mput m (ri (w.getD i.toNat []) 0) (ri (w.getD i.toNat []) 1)⟩) := by
  obtain ⟨h0, h1, h2, h3, h4, h5⟩ := hq
  simp only at h0 h1 h2 h3 h4 h5
  have hi : i.toNat < w.length := by omega
  refine ⟨by rw [b_add, wr _ (by omega) (by omega)], by omega, by simp only [rsM]; omega, fun g1 g2 => ?_, fun g => ⟨by simp only; omega, by simp only; omega, ?_, ?_, ?_, ?_⟩⟩
  · obtain ⟨j, j1, j2, j3⟩ := h5 _ g1
    unfold risB
    rw [← Bool.not_eq_true, all_iff]
    intro q
    have q1 := q i.toNat hi
    unfold roB at q1
    rw [all_iff] at q1
    have q2 := q1 j (by omega)
    unfold prB at q2
    rw [decide_eq_true ⟨j2, by omega⟩] at q2
    cases q2
  · have := mput_len m (ri (w.getD i.toNat []) 0) (ri (w.getD i.toNat []) 1)
    simp only
    omega
  · intro j hj
    simp only at hj
    by_cases e : j = i.toNat
    · subst e
      unfold roB
      rw [all_iff]
      intro k hk
      unfold prB
      rw [Bool.not_eq_true', decide_eq_false_iff_not]
      rintro ⟨k1, k2⟩
      have k3 := h4 k (by omega)
      rw [k1] at k3
      rcases g with g | g
      · rw [k3.1] at g
        cases g
      · omega
    · exact h3 j (by omega)
  · intro j hj
    simp only at hj ⊢
    rw [mhas_put, mget_put]
    by_cases e : j = i.toNat
    · subst e
      rw [if_pos rfl]
      simp
    · have k3 := h4 j (by omega)
      rw [k3.1, Bool.or_true]
      refine ⟨rfl, ?_⟩
      split
      · rename_i e2
        rw [e2] at k3
        rcases g with g | g
        · rw [k3.1] at g
          cases g
        · omega
      · exact k3.2
  · intro p hp
    simp only at hp ⊢
    rw [mhas_put] at hp
    by_cases e : p = ri (w.getD i.toNat []) 0
    · subst e
      exact ⟨i.toNat, by omega, rfl, by rw [mget_put, if_pos rfl]⟩
    · rw [decide_eq_false e, Bool.false_or] at hp
      obtain ⟨j, j1, j2, j3⟩ := h5 p hp
      exact ⟨j, by omega, j2, by rw [mget_put, if_neg e]; exact j3⟩
theorem rs_end {w : List E} {i : Int} {m : List (Int × Int)} (hq : rsQ w ⟨i, m⟩) (h : ¬ i < w.length) : risB w = true := by
  obtain ⟨h0, h1, _, h3, _⟩ := hq
  simp only at h0 h1 h3
  unfold risB
  rw [all_iff]
  exact fun j hj => h3 j (by omega)
def slotM (st : St) (k : Nat) : List (Int × Int) := match slotC st k with
  | .mp n => (match hget st.heap n with
    | some (.mp l) => l
    | _ => [])
  | _ => []

structure Tw where
  t_sw : WQ → WQ → Bool
  t_oq : WQ → WQ → Bool
  t_eq : List E → List E → Bool
  t_oe : List E → List E → Bool
  t_bg : List E → List E → Bool
  t_m : Int → Int → Int → Int → Bool
  t_ix : List E → Int → Int → Int
  t_l3 : List E → Bool
  t_fi : Int → List E → Int → List E → Bool
  t_of : List E → List E → Bool
  t_ri : List E → Bool
  t_l6 : List E → Bool
def Tw.std : Tw := ⟨sameW, okQ, eqW, okE, begB, fun p s a v => decide (p = a ∧ s = v), ixF, fun l => decide (l.length ≤ 1000), fitB, okF, risB, fun l => decide (l.length ≤ 60)⟩

def c_wsame (F : Tw) : Con := fun xs h => match xs, h with
  | [.agg [.val (.int .i64 w_k), .val (.int .i64 w_e), .val (.int .i64 w_r), .sl none (.ints .i64 w_n), .sl none (.recs (.int .i64 (.int .i64 (.int .i64 (.int .i64 (.bool .nil))))) w_l), .val (.int .i64 w_ck), .val (.int .i64 w_ca), .val (.int .i64 w_cb), .val (.int .i64 w_cs)], .agg [.val (.int .i64 u_k), .val (.int .i64 u_e), .val (.int .i64 u_r), .sl none (.ints .i64 u_n), .sl none (.recs (.int .i64 (.int .i64 (.int .i64 (.int .i64 (.bool .nil))))) u_l), .val (.int .i64 u_ck), .val (.int .i64 u_ca), .val (.int .i64 u_cb), .val (.int .i64 u_cs)]], [] => some ⟨F.t_oq ⟨w_k, w_e, w_r, w_n, w_l, w_ck, w_ca, w_cb, w_cs⟩ ⟨u_k, u_e, u_r, u_n, u_l, u_ck, u_ca, u_cb, u_cs⟩ = true, .sa (B (F.t_sw ⟨w_k, w_e, w_r, w_n, w_l, w_ck, w_ca, w_cb, w_cs⟩ ⟨u_k, u_e, u_r, u_n, u_l, u_ck, u_ca, u_cb, u_cs⟩)), [], [Any, Any]⟩
  | _, _ => none
set_option cbv.maxSteps 4000000 in
set_option maxHeartbeats 4000000 in
set_option maxRecDepth 100000 in
theorem x_wsame (w_k : Int) (w_e : Int) (w_r : Int) (w_n : List Int) (w_l : List E) (w_ck : Int) (w_ca : Int) (w_cb : Int) (w_cs : Int) (u_k : Int) (u_e : Int) (u_r : Int) (u_n : List Int) (u_l : List E) (u_ck : Int) (u_ca : Int) (u_cb : Int) (u_cs : Int) (hC : Tw.std.t_oq ⟨w_k, w_e, w_r, w_n, w_l, w_ck, w_ca, w_cb, w_cs⟩ ⟨u_k, u_e, u_r, u_n, u_l, u_ck, u_ca, u_cb, u_cs⟩ = true) : Does [(121, c_vsame TwV.Vq.std)] Tryz.f75 [.agg [.val (.int .i64 w_k), .val (.int .i64 w_e), .val (.int .i64 w_r), .sl none (.ints .i64 w_n), .sl none (.recs (.int .i64 (.int .i64 (.int .i64 (.int .i64 (.bool .nil))))) w_l), .val (.int .i64 w_ck), .val (.int .i64 w_ca), .val (.int .i64 w_cb), .val (.int .i64 w_cs)], .agg [.val (.int .i64 u_k), .val (.int .i64 u_e), .val (.int .i64 u_r), .sl none (.ints .i64 u_n), .sl none (.recs (.int .i64 (.int .i64 (.int .i64 (.int .i64 (.bool .nil))))) u_l), .val (.int .i64 u_ck), .val (.int .i64 u_ca), .val (.int .i64 u_cb), .val (.int .i64 u_cs)]] [] ⟨Tw.std.t_oq ⟨w_k, w_e, w_r, w_n, w_l, w_ck, w_ca, w_cb, w_cs⟩ ⟨u_k, u_e, u_r, u_n, u_l, u_ck, u_ca, u_cb, u_cs⟩ = true, .sa (B (Tw.std.t_sw ⟨w_k, w_e, w_r, w_n, w_l, w_ck, w_ca, w_cb, w_cs⟩ ⟨u_k, u_e, u_r, u_n, u_l, u_ck, u_ca, u_cb, u_cs⟩)), [], [Any, Any]⟩ := by
  intro b gv
  have hfs := (FsOk.cons ok_vsame FsOk.nil rfl)
  generalize hF : Tw.std = F at hC hfs ⊢
  generalize hG0 : TwV.Vq.std = G0 at hC hfs ⊢
  generalize hA : Ar.std = A
  generalize hL : Lp _ _ _ = L
  obtain ⟨Z, zq⟩ := z_all
  refine @cd_open _ _ _ _ _ _ _ (lp_mono hL) _ _ zq rfl ?_
  repeat' (first
    | (refine z_open zq ?_; try dsimp only)
    | refine cd_seq zq ?_ (lp_mono hL)
    | refine cd_blk zq ?_
    | refine cd_ret ?_
    | refine cd_skip ?_
    | refine cd_exit ?_
    | refine cd_loop ?_
    | refine cd_cond rfl ?_
    | refine cd_condT rfl ?_
    | refine cd_condF rfl ?_
    | (refine Cd.mk ?_; cbv)
    | (refine Ends1.mk ?_; cbv)
    | (refine Fin1.mk ?_; cbv)
    | exact trivial
    | refine And.intro ?_ ?_
    | refine orf fun _ => ?_
    | refine ort fun _ => ?_)
  all_goals
    clear hL zq Z
    try clear hfs
    subst hA hF hG0
    simp only [Tw.std, TwV.Vq.std, Ar.std] at *
    try (grind [stdCmp, sameW, okQ])
theorem ok_wsame : ConOk Tryz.prog 75 (c_wsame Tw.std) := by
  refine con_of (FsOk.cons ok_vsame FsOk.nil rfl) Tryz.func75 rfl rfl fun xs h p hp => ?_
  unfold c_wsame at hp
  split at hp
  · cases hp
    exact ⟨lee_le rfl, fun hC _ => @x_wsame _ _ _ _ _ _ _ _ _ _ _ _ _ _ _ _ _ _ hC⟩
  · cases hp

def c_rwsame (F : Tw) : Con := fun xs h => match xs, h with
  | [.agg [.val (.int .i64 w_k), .val (.int .i64 w_e), .val (.int .i64 w_r), .sl none (.ints .i64 w_n), .sl none (.recs (.int .i64 (.int .i64 (.int .i64 (.int .i64 (.bool .nil))))) w_l), .val (.int .i64 w_ck), .val (.int .i64 w_ca), .val (.int .i64 w_cb), .val (.int .i64 w_cs)], .agg [.val (.int .i64 u_k), .val (.int .i64 u_e), .val (.int .i64 u_r), .sl none (.ints .i64 u_n), .sl none (.recs (.int .i64 (.int .i64 (.int .i64 (.int .i64 (.bool .nil))))) u_l), .val (.int .i64 u_ck), .val (.int .i64 u_ca), .val (.int .i64 u_cb), .val (.int .i64 u_cs)]], [] => some ⟨F.t_oq ⟨w_k, w_e, w_r, w_n, w_l, w_ck, w_ca, w_cb, w_cs⟩ ⟨u_k, u_e, u_r, u_n, u_l, u_ck, u_ca, u_cb, u_cs⟩ = true, .sa (B (F.t_sw ⟨w_k, w_e, w_r, w_n, w_l, w_ck, w_ca, w_cb, w_cs⟩ ⟨u_k, u_e, u_r, u_n, u_l, u_ck, u_ca, u_cb, u_cs⟩)), [], [Any, Any]⟩
  | _, _ => none
set_option cbv.maxSteps 4000000 in
set_option maxHeartbeats 4000000 in
set_option maxRecDepth 100000 in
theorem x_rwsame (w_k : Int) (w_e : Int) (w_r : Int) (w_n : List Int) (w_l : List E) (w_ck : Int) (w_ca : Int) (w_cb : Int) (w_cs : Int) (u_k : Int) (u_e : Int) (u_r : Int) (u_n : List Int) (u_l : List E) (u_ck : Int) (u_ca : Int) (u_cb : Int) (u_cs : Int) (hC : Tw.std.t_oq ⟨w_k, w_e, w_r, w_n, w_l, w_ck, w_ca, w_cb, w_cs⟩ ⟨u_k, u_e, u_r, u_n, u_l, u_ck, u_ca, u_cb, u_cs⟩ = true) : Does [(122, c_rvsame TwV.Vq.std)] Tryz.f76 [.agg [.val (.int .i64 w_k), .val (.int .i64 w_e), .val (.int .i64 w_r), .sl none (.ints .i64 w_n), .sl none (.recs (.int .i64 (.int .i64 (.int .i64 (.int .i64 (.bool .nil))))) w_l), .val (.int .i64 w_ck), .val (.int .i64 w_ca), .val (.int .i64 w_cb), .val (.int .i64 w_cs)], .agg [.val (.int .i64 u_k), .val (.int .i64 u_e), .val (.int .i64 u_r), .sl none (.ints .i64 u_n), .sl none (.recs (.int .i64 (.int .i64 (.int .i64 (.int .i64 (.bool .nil))))) u_l), .val (.int .i64 u_ck), .val (.int .i64 u_ca), .val (.int .i64 u_cb), .val (.int .i64 u_cs)]] [] ⟨Tw.std.t_oq ⟨w_k, w_e, w_r, w_n, w_l, w_ck, w_ca, w_cb, w_cs⟩ ⟨u_k, u_e, u_r, u_n, u_l, u_ck, u_ca, u_cb, u_cs⟩ = true, .sa (B (Tw.std.t_sw ⟨w_k, w_e, w_r, w_n, w_l, w_ck, w_ca, w_cb, w_cs⟩ ⟨u_k, u_e, u_r, u_n, u_l, u_ck, u_ca, u_cb, u_cs⟩)), [], [Any, Any]⟩ := by
  intro b gv
  have hfs := (FsOk.cons ok_rvsame FsOk.nil rfl)
  generalize hF : Tw.std = F at hC hfs ⊢
  generalize hG0 : TwV.Vq.std = G0 at hC hfs ⊢
  generalize hA : Ar.std = A
  generalize hL : Lp _ _ _ = L
  obtain ⟨Z, zq⟩ := z_all
  refine @cd_open _ _ _ _ _ _ _ (lp_mono hL) _ _ zq rfl ?_
  repeat' (first
    | (refine z_open zq ?_; try dsimp only)
    | refine cd_seq zq ?_ (lp_mono hL)
    | refine cd_blk zq ?_
    | refine cd_ret ?_
    | refine cd_skip ?_
    | refine cd_exit ?_
    | refine cd_loop ?_
    | refine cd_cond rfl ?_
    | refine cd_condT rfl ?_
    | refine cd_condF rfl ?_
    | (refine Cd.mk ?_; cbv)
    | (refine Ends1.mk ?_; cbv)
    | (refine Fin1.mk ?_; cbv)
    | exact trivial
    | refine And.intro ?_ ?_
    | refine orf fun _ => ?_
    | refine ort fun _ => ?_)
  all_goals
    clear hL zq Z
    try clear hfs
    subst hA hF hG0
    simp only [Tw.std, TwV.Vq.std, Ar.std] at *
    try (grind [stdCmp, sameW, okQ])
theorem ok_rwsame : ConOk Tryz.prog 76 (c_rwsame Tw.std) := by
  refine con_of (FsOk.cons ok_rvsame FsOk.nil rfl) Tryz.func76 rfl rfl fun xs h p hp => ?_
  unfold c_rwsame at hp
  split at hp
  · cases hp
    exact ⟨lee_le rfl, fun hC _ => @x_rwsame _ _ _ _ _ _ _ _ _ _ _ _ _ _ _ _ _ _ hC⟩
  · cases hp

def c_eqf (F : Tw) : Con := fun xs h => match xs, h with
  | [.one (.sl none (.recs (.int .i64 (.int .i64 (.int .i64 (.ints .i64 (.recs (.int .i64 (.int .i64 (.int .i64 (.int .i64 (.bool .nil))))) (.int .i64 (.int .i64 (.int .i64 (.int .i64 .nil))))))))) p)), .one (.sl none (.recs (.int .i64 (.int .i64 (.int .i64 (.ints .i64 (.recs (.int .i64 (.int .i64 (.int .i64 (.int .i64 (.bool .nil))))) (.int .i64 (.int .i64 (.int .i64 (.int .i64 .nil))))))))) q)), .one (.val (.func (.func 75) ⟨[]⟩ ⟨[]⟩))], [] => some ⟨F.t_oe p q = true, .sa (B (F.t_eq p q)), [], [Any, Any, Any]⟩
  | _, _ => none
set_option cbv.maxSteps 4000000 in
set_option maxHeartbeats 4000000 in
set_option maxRecDepth 100000 in
theorem x_eqf (p : List E) (q : List E) (hC : Tw.std.t_oe p q = true) : Does [(75, c_wsame Tw.std)] Tryz.f74 [.one (.sl none (.recs (.int .i64 (.int .i64 (.int .i64 (.ints .i64 (.recs (.int .i64 (.int .i64 (.int .i64 (.int .i64 (.bool .nil))))) (.int .i64 (.int .i64 (.int .i64 (.int .i64 .nil))))))))) p)), .one (.sl none (.recs (.int .i64 (.int .i64 (.int .i64 (.ints .i64 (.recs (.int .i64 (.int .i64 (.int .i64 (.int .i64 (.bool .nil))))) (.int .i64 (.int .i64 (.int .i64 (.int .i64 .nil))))))))) q)), .one (.val (.func (.func 75) ⟨[]⟩ ⟨[]⟩))] [] ⟨Tw.std.t_oe p q = true, .sa (B (Tw.std.t_eq p q)), [], [Any, Any, Any]⟩ := by
  intro b gv
  have hk := okE_is (show okE p q = true from hC)
  have hk6 : p.length ≤ 1000000 := by have := hk.1.1; omega
  have hne := fun h => eqW_no (p := p) (q := q) h
  have hgo := fun h => eqW_yes (p := p) (q := q) h
  have hfs := (FsOk.cons ok_wsame FsOk.nil rfl)
  generalize hF : Tw.std = F at hC hfs ⊢
  generalize hG0 : TwV.Vq.std = G0 at hC hfs ⊢
  generalize hA : Ar.std = A
  generalize hL : Lp _ _ _ = L
  obtain ⟨Z, zq⟩ := z_all
  refine @cd_open _ _ _ _ _ _ _ (lp_mono hL) _ _ zq rfl ?_
  repeat' (first
    | (refine z_open zq ?_; try dsimp only)
    | refine cd_seq zq ?_ (lp_mono hL)
    | refine cd_blk zq ?_
    | refine cd_ret ?_
    | refine cd_skip ?_
    | refine cd_exit ?_
    | refine cd_loop ?_
    | refine cd_cond rfl ?_
    | refine cd_condT rfl ?_
    | refine cd_condF rfl ?_
    | (refine Cd.mk ?_; cbv)
    | (refine Ends1.mk ?_; cbv)
    | (refine Fin1.mk ?_; cbv)
    | exact trivial
    | refine And.intro ?_ ?_
    | refine orf fun _ => ?_
    | refine ort fun _ => ?_)
  all_goals first | (show L _ _ _; skip) | (clear hL hfs zq Z; subst hA hF hG0; simp only [Tw.std, Ar.std] at * <;> grind [stdCmp]; done)
  rename_i hx
  have hl : p.length = q.length := by
    clear hL zq Z hF hG0 hfs
    subst hA
    simp only [Ar.std] at hx
    grind [stdCmp]
  clear hx
  have hal := hgo hl
  subst hL
  refine loop_z (cx_ok hfs) (allQ p.length (eWd p q)) (fun y => stOf Tryz.f74.ntmps [(0, .sl none (.recs (.int .i64 (.int .i64 (.int .i64 (.ints .i64 (.recs (.int .i64 (.int .i64 (.int .i64 (.int .i64 (.bool .nil))))) (.int .i64 (.int .i64 (.int .i64 (.int .i64 .nil))))))))) p)), (1, .sl none (.recs (.int .i64 (.int .i64 (.int .i64 (.ints .i64 (.recs (.int .i64 (.int .i64 (.int .i64 (.int .i64 (.bool .nil))))) (.int .i64 (.int .i64 (.int .i64 (.int .i64 .nil))))))))) q)), (2, .val (.func (.func 75) ⟨[]⟩ ⟨[]⟩)), (15, .sl none (.recs (.int .i64 (.int .i64 (.int .i64 (.ints .i64 (.recs (.int .i64 (.int .i64 (.int .i64 (.int .i64 (.bool .nil))))) (.int .i64 (.int .i64 (.int .i64 (.int .i64 .nil))))))))) p)), (16, .val (.int .i64 (A.lenE p))), (17, .val (.int .i64 y.i))] [] [Any, Any, Any]) (allM p.length) (iR 17) ⟨0⟩ ?_ ?_ ?_
  · exact all_zero _ _
  · cbv
    repeat' (first | exact trivial | exact rfl | refine And.intro ?_ ?_)
  rintro ⟨i⟩ hq O hO
  obtain ⟨e1, _⟩ := all_num hk6 hq
  have hst := fun h => all_step hk6 hq h
  have hen := fun h => all_end hq h
  have hoq := fun h1 h2 => okQ_at hk.2.1 hk.2.2 (i := i.toNat) h1 h2
  have hz : eWd p q i.toNat = sameW ⟨ri (p.getD i.toNat []) 0, ri (p.getD i.toNat []) 1, ri (p.getD i.toNat []) 2, rl (p.getD i.toNat []) 3, rr (p.getD i.toNat []) 4, ri (p.getD i.toNat []) 5, ri (p.getD i.toNat []) 6, ri (p.getD i.toNat []) 7, ri (p.getD i.toNat []) 8⟩ ⟨ri (q.getD i.toNat []) 0, ri (q.getD i.toNat []) 1, ri (q.getD i.toNat []) 2, rl (q.getD i.toNat []) 3, rr (q.getD i.toNat []) 4, ri (q.getD i.toNat []) 5, ri (q.getD i.toNat []) 6, ri (q.getD i.toNat []) 7, ri (q.getD i.toNat []) 8⟩ := rfl
  have q0 := hq.1
  have q1 := hq.2.1
  dsimp only at q0 q1 hst
  subst hA
  generalize hA : Ar.std = A
  generalize hL : Lp _ _ _ = L
  refine cd_close zq ?_
  repeat' (first
    | (refine z_open zq ?_; try dsimp only)
    | refine cd_seq zq ?_ (lp_mono hL)
    | refine cd_blk zq ?_
    | refine cd_ret ?_
    | refine cd_skip ?_
    | refine cd_exit ?_
    | refine cd_loop ?_
    | refine cd_cond rfl ?_
    | refine cd_condT rfl ?_
    | refine cd_condF rfl ?_
    | (refine Cd.mk ?_; cbv)
    | (refine Ends1.mk ?_; cbv)
    | (refine Fin1.mk ?_; cbv)
    | exact trivial
    | refine And.intro ?_ ?_
    | refine orf fun _ => ?_
    | refine ort fun _ => ?_)
  all_goals (clear hL hfs zq Z hq; subst hA hF hG0 hO; simp only [Tw.std, Ar.std] at * <;> grind [stdCmp]; done)
theorem ok_eqf : ConOk Tryz.prog 74 (c_eqf Tw.std) := by
  refine con_of (FsOk.cons ok_wsame FsOk.nil rfl) Tryz.func74 rfl rfl fun xs h p hp => ?_
  unfold c_eqf at hp
  split at hp
  · cases hp
    exact ⟨lee_le rfl, fun hC _ => @x_eqf _ _ hC⟩
  · cases hp

def c_rwords (F : Tw) : Con := fun xs h => match xs, h with
  | [.one (.sl none (.recs (.int .i64 (.int .i64 (.int .i64 (.ints .i64 (.recs (.int .i64 (.int .i64 (.int .i64 (.int .i64 (.bool .nil))))) (.int .i64 (.int .i64 (.int .i64 (.int .i64 .nil))))))))) p)), .one (.sl none (.recs (.int .i64 (.int .i64 (.int .i64 (.ints .i64 (.recs (.int .i64 (.int .i64 (.int .i64 (.int .i64 (.bool .nil))))) (.int .i64 (.int .i64 (.int .i64 (.int .i64 .nil))))))))) q))], [] => some ⟨F.t_oe p q = true, .sa (B (F.t_eq p q)), [], [Any, Any]⟩
  | _, _ => none
set_option cbv.maxSteps 4000000 in
set_option maxHeartbeats 4000000 in
set_option maxRecDepth 100000 in
theorem x_rwords (p : List E) (q : List E) (hC : Tw.std.t_oe p q = true) : Does [(76, c_rwsame Tw.std)] Tryz.f38 [.one (.sl none (.recs (.int .i64 (.int .i64 (.int .i64 (.ints .i64 (.recs (.int .i64 (.int .i64 (.int .i64 (.int .i64 (.bool .nil))))) (.int .i64 (.int .i64 (.int .i64 (.int .i64 .nil))))))))) p)), .one (.sl none (.recs (.int .i64 (.int .i64 (.int .i64 (.ints .i64 (.recs (.int .i64 (.int .i64 (.int .i64 (.int .i64 (.bool .nil))))) (.int .i64 (.int .i64 (.int .i64 (.int .i64 .nil))))))))) q))] [] ⟨Tw.std.t_oe p q = true, .sa (B (Tw.std.t_eq p q)), [], [Any, Any]⟩ := by
  intro b gv
  have hk := okE_is (show okE p q = true from hC)
  have hk6 : p.length ≤ 1000000 := by have := hk.1.1; omega
  have hne := fun h => eqW_no (p := p) (q := q) h
  have hgo := fun h => eqW_yes (p := p) (q := q) h
  have hfs := (FsOk.cons ok_rwsame FsOk.nil rfl)
  generalize hF : Tw.std = F at hC hfs ⊢
  generalize hG0 : TwV.Vq.std = G0 at hC hfs ⊢
  generalize hA : Ar.std = A
  generalize hL : Lp _ _ _ = L
  obtain ⟨Z, zq⟩ := z_all
  refine @cd_open _ _ _ _ _ _ _ (lp_mono hL) _ _ zq rfl ?_
  repeat' (first
    | (refine z_open zq ?_; try dsimp only)
    | refine cd_seq zq ?_ (lp_mono hL)
    | refine cd_blk zq ?_
    | refine cd_ret ?_
    | refine cd_skip ?_
    | refine cd_exit ?_
    | refine cd_loop ?_
    | refine cd_cond rfl ?_
    | refine cd_condT rfl ?_
    | refine cd_condF rfl ?_
    | (refine Cd.mk ?_; cbv)
    | (refine Ends1.mk ?_; cbv)
    | (refine Fin1.mk ?_; cbv)
    | exact trivial
    | refine And.intro ?_ ?_
    | refine orf fun _ => ?_
    | refine ort fun _ => ?_)
  all_goals first | (show L _ _ _; skip) | (clear hL hfs zq Z; subst hA hF hG0; simp only [Tw.std, Ar.std] at * <;> grind [stdCmp]; done)
  rename_i hx
  have hl : p.length = q.length := by
    clear hL zq Z hF hG0 hfs
    subst hA
    simp only [Ar.std] at hx
    grind [stdCmp]
  clear hx
  have hal := hgo hl
  subst hL
  refine loop_z (cx_ok hfs) (allQ p.length (eWd p q)) (fun y => stOf Tryz.f38.ntmps [(0, .sl none (.recs (.int .i64 (.int .i64 (.int .i64 (.ints .i64 (.recs (.int .i64 (.int .i64 (.int .i64 (.int .i64 (.bool .nil))))) (.int .i64 (.int .i64 (.int .i64 (.int .i64 .nil))))))))) p)), (1, .sl none (.recs (.int .i64 (.int .i64 (.int .i64 (.ints .i64 (.recs (.int .i64 (.int .i64 (.int .i64 (.int .i64 (.bool .nil))))) (.int .i64 (.int .i64 (.int .i64 (.int .i64 .nil))))))))) q)), (5, .val (.int .i64 y.i))] [] [Any, Any]) (allM p.length) (iR 5) ⟨0⟩ ?_ ?_ ?_
  · exact all_zero _ _
  · cbv
    repeat' (first | exact trivial | exact rfl | refine And.intro ?_ ?_)
  rintro ⟨i⟩ hq O hO
  obtain ⟨e1, _⟩ := all_num hk6 hq
  have hst := fun h => all_step hk6 hq h
  have hen := fun h => all_end hq h
  have hoq := fun h1 h2 => okQ_at hk.2.1 hk.2.2 (i := i.toNat) h1 h2
  have hz : eWd p q i.toNat = sameW ⟨ri (p.getD i.toNat []) 0, ri (p.getD i.toNat []) 1, ri (p.getD i.toNat []) 2, rl (p.getD i.toNat []) 3, rr (p.getD i.toNat []) 4, ri (p.getD i.toNat []) 5, ri (p.getD i.toNat []) 6, ri (p.getD i.toNat []) 7, ri (p.getD i.toNat []) 8⟩ ⟨ri (q.getD i.toNat []) 0, ri (q.getD i.toNat []) 1, ri (q.getD i.toNat []) 2, rl (q.getD i.toNat []) 3, rr (q.getD i.toNat []) 4, ri (q.getD i.toNat []) 5, ri (q.getD i.toNat []) 6, ri (q.getD i.toNat []) 7, ri (q.getD i.toNat []) 8⟩ := rfl
  have q0 := hq.1
  have q1 := hq.2.1
  dsimp only at q0 q1 hst
  subst hA
  generalize hA : Ar.std = A
  generalize hL : Lp _ _ _ = L
  refine cd_close zq ?_
  repeat' (first
    | (refine z_open zq ?_; try dsimp only)
    | refine cd_seq zq ?_ (lp_mono hL)
    | refine cd_blk zq ?_
    | refine cd_ret ?_
    | refine cd_skip ?_
    | refine cd_exit ?_
    | refine cd_loop ?_
    | refine cd_cond rfl ?_
    | refine cd_condT rfl ?_
    | refine cd_condF rfl ?_
    | (refine Cd.mk ?_; cbv)
    | (refine Ends1.mk ?_; cbv)
    | (refine Fin1.mk ?_; cbv)
    | exact trivial
    | refine And.intro ?_ ?_
    | refine orf fun _ => ?_
    | refine ort fun _ => ?_)
  all_goals (clear hL hfs zq Z hq; subst hA hF hG0 hO; simp only [Tw.std, Ar.std] at * <;> grind [stdCmp]; done)
theorem ok_rwords : ConOk Tryz.prog 38 (c_rwords Tw.std) := by
  refine con_of (FsOk.cons ok_rwsame FsOk.nil rfl) Tryz.func38 rfl rfl fun xs h p hp => ?_
  unfold c_rwords at hp
  split at hp
  · cases hp
    exact ⟨lee_le rfl, fun hC _ => @x_rwords _ _ hC⟩
  · cases hp

def c_isb (F : Tw) : Con := fun xs h => match xs, h with
  | [.one (.sl none (.recs (.int .i64 (.int .i64 (.int .i64 (.ints .i64 (.recs (.int .i64 (.int .i64 (.int .i64 (.int .i64 (.bool .nil))))) (.int .i64 (.int .i64 (.int .i64 (.int .i64 .nil))))))))) p)), .one (.sl none (.recs (.int .i64 (.int .i64 (.int .i64 (.ints .i64 (.recs (.int .i64 (.int .i64 (.int .i64 (.int .i64 (.bool .nil))))) (.int .i64 (.int .i64 (.int .i64 (.int .i64 .nil))))))))) q))], [] => some ⟨F.t_oe p q = true, .sa (B (F.t_bg p q)), [], [Any, Any]⟩
  | _, _ => none
set_option cbv.maxSteps 4000000 in
set_option maxHeartbeats 4000000 in
set_option maxRecDepth 100000 in
theorem x_isb (p : List E) (q : List E) (hC : Tw.std.t_oe p q = true) : Does [(74, c_eqf Tw.std)] Tryz.f37 [.one (.sl none (.recs (.int .i64 (.int .i64 (.int .i64 (.ints .i64 (.recs (.int .i64 (.int .i64 (.int .i64 (.int .i64 (.bool .nil))))) (.int .i64 (.int .i64 (.int .i64 (.int .i64 .nil))))))))) p)), .one (.sl none (.recs (.int .i64 (.int .i64 (.int .i64 (.ints .i64 (.recs (.int .i64 (.int .i64 (.int .i64 (.int .i64 (.bool .nil))))) (.int .i64 (.int .i64 (.int .i64 (.int .i64 .nil))))))))) q))] [] ⟨Tw.std.t_oe p q = true, .sa (B (Tw.std.t_bg p q)), [], [Any, Any]⟩ := by
  intro b gv
  have hk := okE_is (show okE p q = true from hC)
  obtain ⟨hb1, hb2, hb3⟩ := beg_ok (show okE p q = true from hC)
  have hfs := (FsOk.cons ok_eqf FsOk.nil rfl)
  generalize hF : Tw.std = F at hC hfs ⊢
  generalize hG0 : TwV.Vq.std = G0 at hC hfs ⊢
  generalize hA : Ar.std = A
  generalize hL : Lp _ _ _ = L
  obtain ⟨Z, zq⟩ := z_all
  refine @cd_open _ _ _ _ _ _ _ (lp_mono hL) _ _ zq rfl ?_
  repeat' (first
    | (refine z_open zq ?_; try dsimp only)
    | refine cd_seq zq ?_ (lp_mono hL)
    | refine cd_blk zq ?_
    | refine cd_ret ?_
    | refine cd_skip ?_
    | refine cd_exit ?_
    | refine cd_loop ?_
    | refine cd_cond rfl ?_
    | refine cd_condT rfl ?_
    | refine cd_condF rfl ?_
    | (refine Cd.mk ?_; cbv)
    | (refine Ends1.mk ?_; cbv)
    | (refine Fin1.mk ?_; cbv)
    | exact trivial
    | refine And.intro ?_ ?_
    | refine orf fun _ => ?_
    | refine ort fun _ => ?_)
  all_goals
    clear hL zq Z
    try clear hfs
    subst hA hF hG0
    simp only [Tw.std, Ar.std, List.drop_zero, Int.toNat_natCast, Int.toNat_zero] at *
    try (grind [stdCmp])
theorem ok_isb : ConOk Tryz.prog 37 (c_isb Tw.std) := by
  refine con_of (FsOk.cons ok_eqf FsOk.nil rfl) Tryz.func37 rfl rfl fun xs h p hp => ?_
  unfold c_isb at hp
  split at hp
  · cases hp
    exact ⟨lee_le rfl, fun hC _ => @x_isb _ _ hC⟩
  · cases hp

def c_m1 (F : Tw) : Con := fun xs h => match xs, h with
  | [.agg [.val (.int .i64 o_p), .val (.int .i64 o_s), .sl none (.recs (.int .i64 (.int .i64 (.int .i64 (.ints .i64 (.recs (.int .i64 (.int .i64 (.int .i64 (.int .i64 (.bool .nil))))) (.int .i64 (.int .i64 (.int .i64 (.int .i64 .nil))))))))) _), .sl none (.recs (.int .i64 (.int .i64 (.int .i64 (.ints .i64 (.recs (.int .i64 (.int .i64 (.int .i64 (.int .i64 (.bool .nil))))) (.int .i64 (.int .i64 (.int .i64 (.int .i64 .nil))))))))) _)], .one (.ptr 0 0), .one (.ptr 1 0)], [(0, .cells 3 [.val (.int .i64 a)]), (1, .cells 107 [.val (.int .i64 v_p), .val (.int .i64 v_s), .sl none (.recs (.int .i64 (.int .i64 (.int .i64 (.ints .i64 (.recs (.int .i64 (.int .i64 (.int .i64 (.int .i64 (.bool .nil))))) (.int .i64 (.int .i64 (.int .i64 (.int .i64 .nil))))))))) v_t), .sl none (.recs (.int .i64 (.int .i64 (.int .i64 (.ints .i64 (.recs (.int .i64 (.int .i64 (.int .i64 (.int .i64 (.bool .nil))))) (.int .i64 (.int .i64 (.int .i64 (.int .i64 .nil))))))))) v_h)])] => some ⟨True, .sa (B (F.t_m o_p o_s a v_s)), [(0, .cells 3 [.val (.int .i64 a)]), (1, .cells 107 [.val (.int .i64 v_p), .val (.int .i64 v_s), .sl none (.recs (.int .i64 (.int .i64 (.int .i64 (.ints .i64 (.recs (.int .i64 (.int .i64 (.int .i64 (.int .i64 (.bool .nil))))) (.int .i64 (.int .i64 (.int .i64 (.int .i64 .nil))))))))) v_t), .sl none (.recs (.int .i64 (.int .i64 (.int .i64 (.ints .i64 (.recs (.int .i64 (.int .i64 (.int .i64 (.int .i64 (.bool .nil))))) (.int .i64 (.int .i64 (.int .i64 (.int .i64 .nil))))))))) v_h)])], [Any, .one (.ptr 0 0), .one (.ptr 1 0)]⟩
  | _, _ => none
set_option cbv.maxSteps 4000000 in
set_option maxHeartbeats 4000000 in
set_option maxRecDepth 100000 in
theorem x_m1 (o_p : Int) (o_s : Int) (o_t : List E) (o_h : List E) (a : Int) (v_p : Int) (v_s : Int) (v_t : List E) (v_h : List E) : Does [] Tryz.f36 [.agg [.val (.int .i64 o_p), .val (.int .i64 o_s), .sl none (.recs (.int .i64 (.int .i64 (.int .i64 (.ints .i64 (.recs (.int .i64 (.int .i64 (.int .i64 (.int .i64 (.bool .nil))))) (.int .i64 (.int .i64 (.int .i64 (.int .i64 .nil))))))))) o_t), .sl none (.recs (.int .i64 (.int .i64 (.int .i64 (.ints .i64 (.recs (.int .i64 (.int .i64 (.int .i64 (.int .i64 (.bool .nil))))) (.int .i64 (.int .i64 (.int .i64 (.int .i64 .nil))))))))) o_h)], .one (.ptr 0 0), .one (.ptr 1 0)] [(0, .cells 3 [.val (.int .i64 a)]), (1, .cells 107 [.val (.int .i64 v_p), .val (.int .i64 v_s), .sl none (.recs (.int .i64 (.int .i64 (.int .i64 (.ints .i64 (.recs (.int .i64 (.int .i64 (.int .i64 (.int .i64 (.bool .nil))))) (.int .i64 (.int .i64 (.int .i64 (.int .i64 .nil))))))))) v_t), .sl none (.recs (.int .i64 (.int .i64 (.int .i64 (.ints .i64 (.recs (.int .i64 (.int .i64 (.int .i64 (.int .i64 (.bool .nil))))) (.int .i64 (.int .i64 (.int .i64 (.int .i64 .nil))))))))) v_h)])] ⟨True, .sa (B (Tw.std.t_m o_p o_s a v_s)), [(0, .cells 3 [.val (.int .i64 a)]), (1, .cells 107 [.val (.int .i64 v_p), .val (.int .i64 v_s), .sl none (.recs (.int .i64 (.int .i64 (.int .i64 (.ints .i64 (.recs (.int .i64 (.int .i64 (.int .i64 (.int .i64 (.bool .nil))))) (.int .i64 (.int .i64 (.int .i64 (.int .i64 .nil))))))))) v_t), .sl none (.recs (.int .i64 (.int .i64 (.int .i64 (.ints .i64 (.recs (.int .i64 (.int .i64 (.int .i64 (.int .i64 (.bool .nil))))) (.int .i64 (.int .i64 (.int .i64 (.int .i64 .nil))))))))) v_h)])], [Any, .one (.ptr 0 0), .one (.ptr 1 0)]⟩ := by
  intro b gv
  have hfs := FsOk.nil
  generalize hF : Tw.std = F at hfs ⊢
  generalize hG0 : TwV.Vq.std = G0 at hfs ⊢
  generalize hA : Ar.std = A
  generalize hL : Lp _ _ _ = L
  obtain ⟨Z, zq⟩ := z_all
  refine @cd_open _ _ _ _ _ _ _ (lp_mono hL) _ _ zq rfl ?_
  repeat' (first
    | (refine z_open zq ?_; try dsimp only)
    | refine cd_seq zq ?_ (lp_mono hL)
    | refine cd_blk zq ?_
    | refine cd_ret ?_
    | refine cd_skip ?_
    | refine cd_exit ?_
    | refine cd_loop ?_
    | refine cd_cond rfl ?_
    | refine cd_condT rfl ?_
    | refine cd_condF rfl ?_
    | (refine Cd.mk ?_; cbv)
    | (refine Ends1.mk ?_; cbv)
    | (refine Fin1.mk ?_; cbv)
    | exact trivial
    | refine And.intro ?_ ?_
    | refine orf fun _ => ?_
    | refine ort fun _ => ?_)
  all_goals
    clear hL zq Z
    try clear hfs
    subst hA hF hG0
    simp only [Tw.std, Ar.std] at *
    try (grind [stdCmp])
theorem ok_m1 : ConOk Tryz.prog 36 (c_m1 Tw.std) := by
  refine con_of FsOk.nil Tryz.func36 rfl rfl fun xs h p hp => ?_
  unfold c_m1 at hp
  split at hp
  · cases hp
    exact ⟨lee_le rfl, fun _ _ => @x_m1 _ _ _ _ _ _ _ _ _⟩
  · cases hp
theorem kp_m1 : Keeps (c_m1 Tw.std) := by
  intro xs h p hp
  unfold c_m1 at hp
  split at hp
  · cases hp
    rfl
  · cases hp

def c_ixf (F : Tw) : Con := fun xs h => match xs, h with
  | [.one (.sl none (.recs (.int .i64 (.int .i64 (.recs (.int .i64 (.int .i64 (.int .i64 (.ints .i64 (.recs (.int .i64 (.int .i64 (.int .i64 (.int .i64 (.bool .nil))))) (.int .i64 (.int .i64 (.int .i64 (.int .i64 .nil))))))))) (.recs (.int .i64 (.int .i64 (.int .i64 (.ints .i64 (.recs (.int .i64 (.int .i64 (.int .i64 (.int .i64 (.bool .nil))))) (.int .i64 (.int .i64 (.int .i64 (.int .i64 .nil))))))))) .nil)))) l)), .one (.fn2 36 0 1)], [(0, .cells 3 [.val (.int .i64 a)]), (1, .cells 107 [.val (.int .i64 v_p), .val (.int .i64 v_s), .sl none (.recs (.int .i64 (.int .i64 (.int .i64 (.ints .i64 (.recs (.int .i64 (.int .i64 (.int .i64 (.int .i64 (.bool .nil))))) (.int .i64 (.int .i64 (.int .i64 (.int .i64 .nil))))))))) v_t), .sl none (.recs (.int .i64 (.int .i64 (.int .i64 (.ints .i64 (.recs (.int .i64 (.int .i64 (.int .i64 (.int .i64 (.bool .nil))))) (.int .i64 (.int .i64 (.int .i64 (.int .i64 .nil))))))))) v_h)])] => some ⟨F.t_l3 l = true, .sa (I (F.t_ix l a v_s)), [(0, .cells 3 [.val (.int .i64 a)]), (1, .cells 107 [.val (.int .i64 v_p), .val (.int .i64 v_s), .sl none (.recs (.int .i64 (.int .i64 (.int .i64 (.ints .i64 (.recs (.int .i64 (.int .i64 (.int .i64 (.int .i64 (.bool .nil))))) (.int .i64 (.int .i64 (.int .i64 (.int .i64 .nil))))))))) v_t), .sl none (.recs (.int .i64 (.int .i64 (.int .i64 (.ints .i64 (.recs (.int .i64 (.int .i64 (.int .i64 (.int .i64 (.bool .nil))))) (.int .i64 (.int .i64 (.int .i64 (.int .i64 .nil))))))))) v_h)])], [Any, .one (.fn2 36 0 1)]⟩
  | _, _ => none
set_option cbv.maxSteps 4000000 in
set_option maxHeartbeats 4000000 in
set_option maxRecDepth 100000 in
theorem x_ixf (l : List E) (a : Int) (v_p : Int) (v_s : Int) (v_t : List E) (v_h : List E) (hC : Tw.std.t_l3 l = true) : Does [(36, c_m1 Tw.std), (keepKey 36, noCon)] Tryz.f35 [.one (.sl none (.recs (.int .i64 (.int .i64 (.recs (.int .i64 (.int .i64 (.int .i64 (.ints .i64 (.recs (.int .i64 (.int .i64 (.int .i64 (.int .i64 (.bool .nil))))) (.int .i64 (.int .i64 (.int .i64 (.int .i64 .nil))))))))) (.recs (.int .i64 (.int .i64 (.int .i64 (.ints .i64 (.recs (.int .i64 (.int .i64 (.int .i64 (.int .i64 (.bool .nil))))) (.int .i64 (.int .i64 (.int .i64 (.int .i64 .nil))))))))) .nil)))) l)), .one (.fn2 36 0 1)] [(0, .cells 3 [.val (.int .i64 a)]), (1, .cells 107 [.val (.int .i64 v_p), .val (.int .i64 v_s), .sl none (.recs (.int .i64 (.int .i64 (.int .i64 (.ints .i64 (.recs (.int .i64 (.int .i64 (.int .i64 (.int .i64 (.bool .nil))))) (.int .i64 (.int .i64 (.int .i64 (.int .i64 .nil))))))))) v_t), .sl none (.recs (.int .i64 (.int .i64 (.int .i64 (.ints .i64 (.recs (.int .i64 (.int .i64 (.int .i64 (.int .i64 (.bool .nil))))) (.int .i64 (.int .i64 (.int .i64 (.int .i64 .nil))))))))) v_h)])] ⟨Tw.std.t_l3 l = true, .sa (I (Tw.std.t_ix l a v_s)), [(0, .cells 3 [.val (.int .i64 a)]), (1, .cells 107 [.val (.int .i64 v_p), .val (.int .i64 v_s), .sl none (.recs (.int .i64 (.int .i64 (.int .i64 (.ints .i64 (.recs (.int .i64 (.int .i64 (.int .i64 (.int .i64 (.bool .nil))))) (.int .i64 (.int .i64 (.int .i64 (.int .i64 .nil))))))))) v_t), .sl none (.recs (.int .i64 (.int .i64 (.int .i64 (.ints .i64 (.recs (.int .i64 (.int .i64 (.int .i64 (.int .i64 (.bool .nil))))) (.int .i64 (.int .i64 (.int .i64 (.int .i64 .nil))))))))) v_h)])], [Any, .one (.fn2 36 0 1)]⟩ := by
  intro b gv
  have hk : l.length ≤ 1000 := of_decide_eq_true (show decide (l.length ≤ 1000) = true from hC)
  have hfs := (FsOk.keeps ok_m1 kp_m1 FsOk.nil)
  generalize hF : Tw.std = F at hC hfs ⊢
  generalize hG0 : TwV.Vq.std = G0 at hC hfs ⊢
  generalize hA : Ar.std = A
  generalize hL : Lp _ _ _ = L
  obtain ⟨Z, zq⟩ := z_all
  refine @cd_open _ _ _ _ _ _ _ (lp_mono hL) _ _ zq rfl ?_
  repeat' (first
    | (refine z_open zq ?_; try dsimp only)
    | refine cd_seq zq ?_ (lp_mono hL)
    | refine cd_blk zq ?_
    | refine cd_ret ?_
    | refine cd_skip ?_
    | refine cd_exit ?_
    | refine cd_loop ?_
    | refine cd_cond rfl ?_
    | refine cd_condT rfl ?_
    | refine cd_condF rfl ?_
    | (refine Cd.mk ?_; cbv)
    | (refine Ends1.mk ?_; cbv)
    | (refine Fin1.mk ?_; cbv)
    | exact trivial
    | refine And.intro ?_ ?_
    | refine orf fun _ => ?_
    | refine ort fun _ => ?_)
  subst hL
  refine loop_z (cx_ok hfs) (ixQ l a v_s) (fun y => stOf Tryz.f35.ntmps [(0, .sl none (.recs (.int .i64 (.int .i64 (.recs (.int .i64 (.int .i64 (.int .i64 (.ints .i64 (.recs (.int .i64 (.int .i64 (.int .i64 (.int .i64 (.bool .nil))))) (.int .i64 (.int .i64 (.int .i64 (.int .i64 .nil))))))))) (.recs (.int .i64 (.int .i64 (.int .i64 (.ints .i64 (.recs (.int .i64 (.int .i64 (.int .i64 (.int .i64 (.bool .nil))))) (.int .i64 (.int .i64 (.int .i64 (.int .i64 .nil))))))))) .nil)))) l)), (1, .fn2 36 1 2), (6, .sl none (.recs (.int .i64 (.int .i64 (.recs (.int .i64 (.int .i64 (.int .i64 (.ints .i64 (.recs (.int .i64 (.int .i64 (.int .i64 (.int .i64 (.bool .nil))))) (.int .i64 (.int .i64 (.int .i64 (.int .i64 .nil))))))))) (.recs (.int .i64 (.int .i64 (.int .i64 (.ints .i64 (.recs (.int .i64 (.int .i64 (.int .i64 (.int .i64 (.bool .nil))))) (.int .i64 (.int .i64 (.int .i64 (.int .i64 .nil))))))))) .nil)))) l)), (7, .val (.int .i64 (A.lenE l))), (8, .val (.int .i64 y.i))] [(1, .cells 3 [.val (.int .i64 a)]), (2, .cells 107 [.val (.int .i64 v_p), .val (.int .i64 v_s), .sl none (.recs (.int .i64 (.int .i64 (.int .i64 (.ints .i64 (.recs (.int .i64 (.int .i64 (.int .i64 (.int .i64 (.bool .nil))))) (.int .i64 (.int .i64 (.int .i64 (.int .i64 .nil))))))))) v_t), .sl none (.recs (.int .i64 (.int .i64 (.int .i64 (.ints .i64 (.recs (.int .i64 (.int .i64 (.int .i64 (.int .i64 (.bool .nil))))) (.int .i64 (.int .i64 (.int .i64 (.int .i64 .nil))))))))) v_h)])] [Any, .one (.fn2 36 1 2)]) (allM l.length) (iR 8) ⟨0⟩ ?_ ?_ ?_
  · exact ⟨Int.le_refl 0, Int.natCast_nonneg _, Int.natCast_nonneg _⟩
  · cbv
    repeat' (first | exact trivial | exact rfl | refine And.intro ?_ ?_)
  rintro ⟨i⟩ hq O hO
  have hst := fun h => ix_step hk hq h
  have hen := fun h => ix_end hq h
  have q0 := hq.1
  have q1 := hq.2.1
  dsimp only at q0 q1
  subst hA
  generalize hA : Ar.std = A
  generalize hL : Lp _ _ _ = L
  refine cd_close zq ?_
  repeat' (first
    | (refine z_open zq ?_; try dsimp only)
    | refine cd_seq zq ?_ (lp_mono hL)
    | refine cd_blk zq ?_
    | refine cd_ret ?_
    | refine cd_skip ?_
    | refine cd_exit ?_
    | refine cd_loop ?_
    | refine cd_cond rfl ?_
    | refine cd_condT rfl ?_
    | refine cd_condF rfl ?_
    | (refine Cd.mk ?_; cbv)
    | (refine Ends1.mk ?_; cbv)
    | (refine Fin1.mk ?_; cbv)
    | exact trivial
    | refine And.intro ?_ ?_
    | refine orf fun _ => ?_
    | refine ort fun _ => ?_)
  all_goals (clear hL hfs zq Z hq; subst hA hF hG0 hO; simp only [Tw.std, Ar.std] at * <;> grind [stdCmp, mtB]; done)
theorem ok_ixf : ConOk Tryz.prog 35 (c_ixf Tw.std) := by
  refine con_of (FsOk.keeps ok_m1 kp_m1 FsOk.nil) Tryz.func35 rfl rfl fun xs h p hp => ?_
  unfold c_ixf at hp
  split at hp
  · cases hp
    exact ⟨lee_le rfl, fun hC _ => @x_ixf _ _ _ _ _ _ hC⟩
  · cases hp
theorem kp_ixf : Keeps (c_ixf Tw.std) := by
  intro xs h p hp
  unfold c_ixf at hp
  split at hp
  · cases hp
    rfl
  · cases hp

def c_fits (F : Tw) : Con := fun xs h => match xs, h with
  | [.one (.val (.int .i64 a)), .one (.sl none (.recs (.int .i64 (.int .i64 (.recs (.int .i64 (.int .i64 (.int .i64 (.ints .i64 (.recs (.int .i64 (.int .i64 (.int .i64 (.int .i64 (.bool .nil))))) (.int .i64 (.int .i64 (.int .i64 (.int .i64 .nil))))))))) (.recs (.int .i64 (.int .i64 (.int .i64 (.ints .i64 (.recs (.int .i64 (.int .i64 (.int .i64 (.int .i64 (.bool .nil))))) (.int .i64 (.int .i64 (.int .i64 (.int .i64 .nil))))))))) .nil)))) w)), .one (.val (.int .i64 b9)), .one (.sl none (.recs (.int .i64 (.int .i64 (.recs (.int .i64 (.int .i64 (.int .i64 (.ints .i64 (.recs (.int .i64 (.int .i64 (.int .i64 (.int .i64 (.bool .nil))))) (.int .i64 (.int .i64 (.int .i64 (.int .i64 .nil))))))))) (.recs (.int .i64 (.int .i64 (.int .i64 (.ints .i64 (.recs (.int .i64 (.int .i64 (.int .i64 (.int .i64 (.bool .nil))))) (.int .i64 (.int .i64 (.int .i64 (.int .i64 .nil))))))))) .nil)))) o))], [] => some ⟨F.t_of w o = true, .sa (B (F.t_fi a w b9 o)), [], [Any, Any, Any, Any]⟩
  | _, _ => none
set_option cbv.maxSteps 4000000 in
set_option maxHeartbeats 4000000 in
set_option maxRecDepth 100000 in
theorem x_fits (a : Int) (w : List E) (b9 : Int) (o : List E) (hC : Tw.std.t_of w o = true) : Does [(35, c_ixf Tw.std), (keepKey 35, noCon), (37, denil [some (.recs (.int .i64 (.int .i64 (.int .i64 (.ints .i64 (.recs (.int .i64 (.int .i64 (.int .i64 (.int .i64 (.bool .nil))))) (.int .i64 (.int .i64 (.int .i64 (.int .i64 .nil))))))))) []), some (.recs (.int .i64 (.int .i64 (.int .i64 (.ints .i64 (.recs (.int .i64 (.int .i64 (.int .i64 (.int .i64 (.bool .nil))))) (.int .i64 (.int .i64 (.int .i64 (.int .i64 .nil))))))))) [])] (c_isb Tw.std))] Tryz.f14 [.one (.val (.int .i64 a)), .one (.sl none (.recs (.int .i64 (.int .i64 (.recs (.int .i64 (.int .i64 (.int .i64 (.ints .i64 (.recs (.int .i64 (.int .i64 (.int .i64 (.int .i64 (.bool .nil))))) (.int .i64 (.int .i64 (.int .i64 (.int .i64 .nil))))))))) (.recs (.int .i64 (.int .i64 (.int .i64 (.ints .i64 (.recs (.int .i64 (.int .i64 (.int .i64 (.int .i64 (.bool .nil))))) (.int .i64 (.int .i64 (.int .i64 (.int .i64 .nil))))))))) .nil)))) w)), .one (.val (.int .i64 b9)), .one (.sl none (.recs (.int .i64 (.int .i64 (.recs (.int .i64 (.int .i64 (.int .i64 (.ints .i64 (.recs (.int .i64 (.int .i64 (.int .i64 (.int .i64 (.bool .nil))))) (.int .i64 (.int .i64 (.int .i64 (.int .i64 .nil))))))))) (.recs (.int .i64 (.int .i64 (.int .i64 (.ints .i64 (.recs (.int .i64 (.int .i64 (.int .i64 (.int .i64 (.bool .nil))))) (.int .i64 (.int .i64 (.int .i64 (.int .i64 .nil))))))))) .nil)))) o))] [] ⟨Tw.std.t_of w o = true, .sa (B (Tw.std.t_fi a w b9 o)), [], [Any, Any, Any, Any]⟩ := by
  intro b gv
  have hko : okF w o = true := hC
  have hfb : fitB a w b9 o = allL w.length (fiB a w b9 o) := rfl
  have hkw : w.length ≤ 60 := okY_len (Bool.and_eq_true_iff.1 hko).1
  have hkv : o.length ≤ 60 := okY_len (Bool.and_eq_true_iff.1 hko).2
  have hfs := (FsOk.keeps ok_ixf kp_ixf (FsOk.cons (denil_ok [some (.recs (.int .i64 (.int .i64 (.int .i64 (.ints .i64 (.recs (.int .i64 (.int .i64 (.int .i64 (.int .i64 (.bool .nil))))) (.int .i64 (.int .i64 (.int .i64 (.int .i64 .nil))))))))) []), some (.recs (.int .i64 (.int .i64 (.int .i64 (.ints .i64 (.recs (.int .i64 (.int .i64 (.int .i64 (.int .i64 (.bool .nil))))) (.int .i64 (.int .i64 (.int .i64 (.int .i64 .nil))))))))) [])] ok_isb) FsOk.nil rfl))
  generalize hF : Tw.std = F at hC hfs ⊢
  generalize hG0 : TwV.Vq.std = G0 at hC hfs ⊢
  generalize hA : Ar.std = A
  generalize hL : Lp _ _ _ = L
  obtain ⟨Z, zq⟩ := z_all
  refine @cd_open _ _ _ _ _ _ _ (lp_mono hL) _ _ zq rfl ?_
  repeat' (first
    | (refine z_open zq ?_; try dsimp only)
    | refine cd_seq zq ?_ (lp_mono hL)
    | refine cd_blk zq ?_
    | refine cd_ret ?_
    | refine cd_skip ?_
    | refine cd_exit ?_
    | refine cd_loop ?_
    | refine cd_cond rfl ?_
    | refine cd_condT rfl ?_
    | refine cd_condF rfl ?_
    | (refine Cd.mk ?_; cbv)
    | (refine Ends1.mk ?_; cbv)
    | (refine Fin1.mk ?_; cbv)
    | exact trivial
    | refine And.intro ?_ ?_
    | refine orf fun _ => ?_
    | refine ort fun _ => ?_)
  subst hL
  refine loop_z (cx_ok hfs) (allQ w.length (fiB a w b9 o)) (fun y => stOf Tryz.f14.ntmps [(2, .val (.int .i64 b9)), (3, .sl none (.recs (.int .i64 (.int .i64 (.recs (.int .i64 (.int .i64 (.int .i64 (.ints .i64 (.recs (.int .i64 (.int .i64 (.int .i64 (.int .i64 (.bool .nil))))) (.int .i64 (.int .i64 (.int .i64 (.int .i64 .nil))))))))) (.recs (.int .i64 (.int .i64 (.int .i64 (.ints .i64 (.recs (.int .i64 (.int .i64 (.int .i64 (.int .i64 (.bool .nil))))) (.int .i64 (.int .i64 (.int .i64 (.int .i64 .nil))))))))) .nil)))) o)), (4, .ptr 1 0), (13, .sl none (.recs (.int .i64 (.int .i64 (.recs (.int .i64 (.int .i64 (.int .i64 (.ints .i64 (.recs (.int .i64 (.int .i64 (.int .i64 (.int .i64 (.bool .nil))))) (.int .i64 (.int .i64 (.int .i64 (.int .i64 .nil))))))))) (.recs (.int .i64 (.int .i64 (.int .i64 (.ints .i64 (.recs (.int .i64 (.int .i64 (.int .i64 (.int .i64 (.bool .nil))))) (.int .i64 (.int .i64 (.int .i64 (.int .i64 .nil))))))))) .nil)))) w)), (14, .val (.int .i64 (A.lenE w))), (15, .val (.int .i64 y.i))] [(1, .cells 3 [.val (.int .i64 a)])] [Any, Any, Any, Any]) (allM w.length) (iR 15) ⟨0⟩ ?_ ?_ ?_
  · exact all_zero _ _
  · cbv
    repeat' (first | exact trivial | exact rfl | refine And.intro ?_ ?_)
  rintro ⟨i⟩ hq O hO
  obtain ⟨e1, _⟩ := all_num (by omega) hq
  have hst := fun h => all_step (by omega) hq h
  have hen := fun h => all_end hq h
  have hfi := fun h => fi_at (a := a) (b := b9) hko (i := i.toNat) h
  have hto := ix_told o a (ri (w.getD i.toNat []) 1)
  have q0 := hq.1
  have q1 := hq.2.1
  dsimp only at q0 q1 hst
  subst hA
  generalize hA : Ar.std = A
  generalize hL : Lp _ _ _ = L
  refine cd_close zq ?_
  repeat' (first
    | (refine z_open zq ?_; try dsimp only)
    | refine cd_seq zq ?_ (lp_mono hL)
    | refine cd_blk zq ?_
    | refine cd_ret ?_
    | refine cd_skip ?_
    | refine cd_exit ?_
    | refine cd_loop ?_
    | refine cd_cond rfl ?_
    | refine cd_condT rfl ?_
    | refine cd_condF rfl ?_
    | (refine Cd.mk ?_; cbv)
    | (refine Ends1.mk ?_; cbv)
    | (refine Fin1.mk ?_; cbv)
    | exact trivial
    | refine And.intro ?_ ?_
    | refine orf fun _ => ?_
    | refine ort fun _ => ?_)
  all_goals (clear hL hfs zq Z hq; subst hA hF hG0 hO; simp only [Tw.std, Ar.std] at * <;> grind [stdCmp]; done)
theorem ok_fits : ConOk Tryz.prog 14 (c_fits Tw.std) := by
  refine con_of (FsOk.keeps ok_ixf kp_ixf (FsOk.cons (denil_ok [some (.recs (.int .i64 (.int .i64 (.int .i64 (.ints .i64 (.recs (.int .i64 (.int .i64 (.int .i64 (.int .i64 (.bool .nil))))) (.int .i64 (.int .i64 (.int .i64 (.int .i64 .nil))))))))) []), some (.recs (.int .i64 (.int .i64 (.int .i64 (.ints .i64 (.recs (.int .i64 (.int .i64 (.int .i64 (.int .i64 (.bool .nil))))) (.int .i64 (.int .i64 (.int .i64 (.int .i64 .nil))))))))) [])] ok_isb) FsOk.nil rfl)) Tryz.func14 rfl rfl fun xs h p hp => ?_
  unfold c_fits at hp
  split at hp
  · cases hp
    exact ⟨lee_le rfl, fun hC _ => @x_fits _ _ _ _ hC⟩
  · cases hp

def c_ris (F : Tw) : Con := fun xs h => match xs, h with
  | [.one (.sl none (.recs (.int .i64 (.int .i64 (.recs (.int .i64 (.int .i64 (.int .i64 (.ints .i64 (.recs (.int .i64 (.int .i64 (.int .i64 (.int .i64 (.bool .nil))))) (.int .i64 (.int .i64 (.int .i64 (.int .i64 .nil))))))))) (.recs (.int .i64 (.int .i64 (.int .i64 (.ints .i64 (.recs (.int .i64 (.int .i64 (.int .i64 (.int .i64 (.bool .nil))))) (.int .i64 (.int .i64 (.int .i64 (.int .i64 .nil))))))))) .nil)))) w))], [] => some ⟨F.t_l6 w = true, .sa (B (F.t_ri w)), [], [Any]⟩
  | _, _ => none
set_option cbv.maxSteps 4000000 in
set_option maxHeartbeats 4000000 in
set_option maxRecDepth 100000 in
theorem x_ris (w : List E) (hC : Tw.std.t_l6 w = true) : Does [] Tryz.f16 [.one (.sl none (.recs (.int .i64 (.int .i64 (.recs (.int .i64 (.int .i64 (.int .i64 (.ints .i64 (.recs (.int .i64 (.int .i64 (.int .i64 (.int .i64 (.bool .nil))))) (.int .i64 (.int .i64 (.int .i64 (.int .i64 .nil))))))))) (.recs (.int .i64 (.int .i64 (.int .i64 (.ints .i64 (.recs (.int .i64 (.int .i64 (.int .i64 (.int .i64 (.bool .nil))))) (.int .i64 (.int .i64 (.int .i64 (.int .i64 .nil))))))))) .nil)))) w))] [] ⟨Tw.std.t_l6 w = true, .sa (B (Tw.std.t_ri w)), [], [Any]⟩ := by
  intro b gv
  have hk : w.length ≤ 60 := of_decide_eq_true (show decide (w.length ≤ 60) = true from hC)
  have hfs := FsOk.nil
  generalize hF : Tw.std = F at hC hfs ⊢
  generalize hG0 : TwV.Vq.std = G0 at hC hfs ⊢
  generalize hA : Ar.std = A
  generalize hL : Lp _ _ _ = L
  obtain ⟨Z, zq⟩ := z_all
  refine @cd_open _ _ _ _ _ _ _ (lp_mono hL) _ _ zq rfl ?_
  repeat' (first
    | (refine z_open zq ?_; try dsimp only)
    | refine cd_seq zq ?_ (lp_mono hL)
    | refine cd_blk zq ?_
    | refine cd_ret ?_
    | refine cd_skip ?_
    | refine cd_exit ?_
    | refine cd_loop ?_
    | refine cd_cond rfl ?_
    | refine cd_condT rfl ?_
    | refine cd_condF rfl ?_
    | (refine Cd.mk ?_; cbv)
    | (refine Ends1.mk ?_; cbv)
    | (refine Fin1.mk ?_; cbv)
    | exact trivial
    | refine And.intro ?_ ?_
    | refine orf fun _ => ?_
    | refine ort fun _ => ?_)
  subst hL
  refine loop_z (cx_ok hfs) (rsQ w) (fun y => stOf Tryz.f16.ntmps [(3, .mp 1), (9, .sl none (.recs (.int .i64 (.int .i64 (.recs (.int .i64 (.int .i64 (.int .i64 (.ints .i64 (.recs (.int .i64 (.int .i64 (.int .i64 (.int .i64 (.bool .nil))))) (.int .i64 (.int .i64 (.int .i64 (.int .i64 .nil))))))))) (.recs (.int .i64 (.int .i64 (.int .i64 (.ints .i64 (.recs (.int .i64 (.int .i64 (.int .i64 (.int .i64 (.bool .nil))))) (.int .i64 (.int .i64 (.int .i64 (.int .i64 .nil))))))))) .nil)))) w)), (10, .val (.int .i64 (A.lenE w))), (11, .val (.int .i64 y.i))] [(1, .mp y.m)] [Any]) (rsM w) (fun st => ⟨slotI st 11, slotM st 3⟩) ⟨0, []⟩ ?_ ?_ ?_
  · exact rs_zero _
  · cbv
    repeat' (first | exact trivial | exact rfl | refine And.intro ?_ ?_)
  rintro ⟨i, M⟩ hq O hO
  have hst := fun h => rs_step hk hq h
  have hen := fun h => rs_end hq h
  have q0 := hq.1
  have q1 := hq.2.1
  dsimp only at q0 q1
  subst hA
  generalize hA : Ar.std = A
  generalize hL : Lp _ _ _ = L
  refine cd_close zq ?_
  repeat' (first
    | (refine z_open zq ?_; try dsimp only)
    | refine cd_seq zq ?_ (lp_mono hL)
    | refine cd_blk zq ?_
    | refine cd_ret ?_
    | refine cd_skip ?_
    | refine cd_exit ?_
    | refine cd_loop ?_
    | refine cd_cond rfl ?_
    | refine cd_condT rfl ?_
    | refine cd_condF rfl ?_
    | (refine Cd.mk ?_; cbv)
    | (refine Ends1.mk ?_; cbv)
    | (refine Fin1.mk ?_; cbv)
    | exact trivial
    | refine And.intro ?_ ?_
    | refine orf fun _ => ?_
    | refine ort fun _ => ?_)
  all_goals (clear hL hfs zq Z hq; subst hA hF hG0 hO; simp only [Tw.std, Ar.std] at * <;> grind [stdCmp]; done)
theorem ok_ris : ConOk Tryz.prog 16 (c_ris Tw.std) := by
  refine con_of FsOk.nil Tryz.func16 rfl rfl fun xs h p hp => ?_
  unfold c_ris at hp
  split at hp
  · cases hp
    exact ⟨lee_le rfl, fun hC _ => @x_ris _ hC⟩
  · cases hp
end Go.Proofs.YtakebkfhigadiaaGreat.TwR
