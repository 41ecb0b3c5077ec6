/-
  Two ends that tick, and hear all that is on the ways, are open by one number, or one is over. No condition.
-/
import Derived.Test.YtgemoemkgcmcgaaMeT
namespace Go.Proofs.Ytgemoemkgcmcgaa.MeA
open Go Go.Proofs.Ytgemoemkgcmcgaa.Ry Go.Proofs.Ytgemoemkgcmcgaa.HaR Go.Proofs.Ytgemoemkgcmcgaa.BwS Go.Proofs.Ytgemoemkgcmcgaa.MeR Go.Proofs.Ytgemoemkgcmcgaa.MeM Go.Proofs.Ytgemoemkgcmcgaa.MeQ Go.Proofs.Ytgemoemkgcmcgaa.MeT
/-- The greatest number that an end has seen. -/
def mx (h : HN) : Int := max h.l h.p
/-- What holds at each time. -/
structure J (lim : Int) (d : MS) : Prop where
  may : ∀ e, ok1 e → mayE (en e d) = true
  lim : ∀ e, ok1 e → (en e d).p ≤ lim
  note : ∀ e, ok1 e → ∀ y ∈ wy e d, ri y 1 ≤ mx (en e d)
  cur : ∀ e, ok1 e → (en e d).c ≤ mx (en (1 - e) d)
theorem sub_ok {e : Int} (he : ok1 e) : ok1 (1 - e) ∧ 1 - (1 - e) = e ∧ 1 - e ≠ e := by
  rcases he with rfl | rfl
  · exact ⟨.inr rfl, rfl, by decide⟩
  · exact ⟨.inl rfl, rfl, by decide⟩
theorem two {e f : Int} (he : ok1 e) (hf : ok1 f) (h : e ≠ f) : e = 1 - f := by
  rcases he with rfl | rfl <;> rcases hf with rfl | rfl <;> first | rfl | exact absurd rfl h
theorem j_setW {lim : Int} {d : MS} (h : J lim d) {f : Int} (hf : ok1 f) {w : List E} (hw : ∀ y ∈ w, ri y 1 ≤ mx (en f d)) : J lim (setW f d w) where
  may e he := by rw [en_setW he hf]; exact h.may e he
  lim e he := by rw [en_setW he hf]; exact h.lim e he
  note e he := by
    rw [en_setW he hf, wy_setW he hf]
    by_cases g : e = f
    · rw [if_pos g, g]; exact hw
    · rw [if_neg g]; exact h.note e he
  cur e he := by rw [en_setW he hf, en_setW (sub_ok he).1 hf]; exact h.cur e he
theorem j_setH {lim : Int} {d : MS} (h : J lim d) {f : Int} (hf : ok1 f) {l c p : Int} {o : Bool} (m : mayH l c p o = true) (hp : p ≤ lim) (hm : mx (en f d) ≤ max l p) (hc : c ≤ mx (en (1 - f) d)) : J lim (setH f d l c p o) where
  may e he := by
    rw [en_setH he hf]
    by_cases g : e = f
    · rw [if_pos g]; exact m
    · rw [if_neg g]; exact h.may e he
  lim e he := by
    rw [en_setH he hf]
    by_cases g : e = f
    · rw [if_pos g]; exact hp
    · rw [if_neg g]; exact h.lim e he
  note e he y hy := by
    rw [wy_setH he hf] at hy
    have := h.note e he y hy
    rw [en_setH he hf]
    by_cases g : e = f
    · rw [if_pos g]
      rw [g] at this
      show ri y 1 ≤ max l p
      omega
    · rw [if_neg g]; exact this
  cur e he := by
    rw [en_setH he hf, en_setH (sub_ok he).1 hf]
    by_cases g : e = f
    · rw [if_pos g, if_neg (by rw [g]; exact (sub_ok hf).2.2), g]
      exact hc
    · rw [if_neg g, two he hf g, (sub_ok hf).2.1, if_pos rfl]
      have := h.cur (1 - f) (sub_ok hf).1
      rw [(sub_ok hf).2.1] at this
      show _ ≤ max l p
      omega
theorem may_en {lim : Int} {d : MS} (h : J lim d) {e : Int} (he : ok1 e) : 0 ≤ (en e d).l ∧ (en e d).l ≤ 2147483647 ∧ ((en e d).c = (en e d).l ∧ (en e d).c ≠ 0 ∧ (en e d).p = 0 ∧ (en e d).o = false ∨ (en e d).c = 0 ∧ (en e d).l < (en e d).p ∧ (en e d).p ≤ 2147483647 ∧ (en e d).o = false ∨ (en e d).c = 0 ∧ (en e d).p = 0 ∧ (en e d).o = true) := may_is (show mayH (en e d).l (en e d).c (en e d).p (en e d).o = true from h.may e he)
/-- Numbers that may be: what a welcome makes of an end. -/
theorem j_wel {lim : Int} {d : MS} (h : J lim d) {f : Int} (hf : ok1 f) {q : Int} (hq : q ≤ mx (en (1 - f) d)) : J lim (setH f d (welH (en f d).l (en f d).c (en f d).p (en f d).o q).l (welH (en f d).l (en f d).c (en f d).p (en f d).o q).c (welH (en f d).l (en f d).c (en f d).p (en f d).o q).p (welH (en f d).l (en f d).c (en f d).p (en f d).o q).o) := by
  have k := may_en h hf
  have m := (wel_may q (show mayH (en f d).l (en f d).c (en f d).p (en f d).o = true from h.may f hf)).1
  have hl := h.lim f hf
  have hc := h.cur f hf
  refine j_setH h hf m ?_ ?_ ?_
  · unfold welH
    split <;> simp only <;> omega
  · unfold welH mx
    split <;> simp only <;> omega
  · unfold welH
    split <;> simp only <;> omega
theorem j_hel {lim : Int} (hlim : limitB lim = true) {d : MS} (h : J lim d) {f : Int} (hf : ok1 f) (q : Int) : J lim (setH f d (helH (en f d).l (en f d).c (en f d).p (en f d).o q lim).l (helH (en f d).l (en f d).c (en f d).p (en f d).o q lim).c (helH (en f d).l (en f d).c (en f d).p (en f d).o q lim).p (helH (en f d).l (en f d).c (en f d).p (en f d).o q lim).o) ∧ ((helH (en f d).l (en f d).c (en f d).p (en f d).o q lim).a = true → q ≤ max (helH (en f d).l (en f d).c (en f d).p (en f d).o q lim).l (helH (en f d).l (en f d).c (en f d).p (en f d).o q lim).p) := by
  have k := may_en h hf
  have m := (hel_may q (show mayH (en f d).l (en f d).c (en f d).p (en f d).o = true from h.may f hf) hlim).1
  have hl := h.lim f hf
  have hc := h.cur f hf
  refine ⟨j_setH h hf m ?_ ?_ ?_, ?_⟩
  · unfold helH
    split
    · exact hl
    · split
      · split <;> simp only <;> omega
      · split <;> simp only <;> omega
  · unfold helH mx
    split
    · simp only; omega
    · split
      · split <;> simp only <;> omega
      · split <;> simp only <;> omega
  · unfold helH
    split
    · exact hc
    · split
      · split
        · simp only
          have := may_en h (sub_ok hf).1
          unfold mx
          omega
        · exact hc
      · split <;> exact hc
  · unfold helH
    split
    · intro g; cases g
    · split
      · split
        · intro _; simp only; omega
        · simp only [beq_iff_eq]; intro _; omega
      · split
        · intro _; simp only; omega
        · simp only [beq_iff_eq]; intro _; omega
theorem j_co {lim : Int} (hlim : limitB lim = true) {d : MS} (h : J lim d) {e : Int} (he : ok1 e) (b : Bool) {q : Int} (hq : q ≤ mx (en e d)) : J lim (coN lim e d b q) := by
  obtain ⟨hf, he2, _⟩ := sub_ok he
  unfold coN
  split
  · exact j_wel h hf (by rw [he2]; exact hq)
  · obtain ⟨h1, h2⟩ := j_hel hlim h hf q
    split
    · rename_i g
      refine j_setW h1 hf ?_
      intro y hy
      rw [en_setH hf hf, if_pos rfl]
      rcases List.mem_append.1 hy with hy | hy
      · have := h1.note (1 - e) hf y (by rw [wy_setH hf hf]; exact hy)
        rw [en_setH hf hf, if_pos rfl] at this
        exact this
      · rw [List.mem_singleton] at hy
        subst hy
        exact h2 g
    · exact h1
theorem j_close {lim : Int} (hlim : limitB lim = true) {d : MS} (h : J lim d) {f : Int} (hf : ok1 f) : J lim (setH f d (closeH (en f d).l (en f d).c (en f d).p (en f d).o lim).l (closeH (en f d).l (en f d).c (en f d).p (en f d).o lim).c (closeH (en f d).l (en f d).c (en f d).p (en f d).o lim).p (closeH (en f d).l (en f d).c (en f d).p (en f d).o lim).o) := by
  have k := may_en h hf
  have m := (close_may (show mayH (en f d).l (en f d).c (en f d).p (en f d).o = true from h.may f hf) hlim).1
  have hl := h.lim f hf
  have hc := h.cur f hf
  have k2 := may_en h (sub_ok hf).1
  have hlim := lim_is hlim
  refine j_setH h hf m ?_ ?_ ?_
  · unfold closeH newH
    split
    · split <;> simp only <;> omega
    · exact hl
  · unfold closeH newH mx
    split
    · split <;> simp only <;> omega
    · simp only; omega
  · unfold closeH newH
    split
    · unfold mx
      split <;> simp only <;> omega
    · exact hc
theorem mem_res {w : List E} {i : Int} {y : E} (h : y ∈ res w i) : y ∈ w := by
  unfold res at h
  rcases List.mem_append.1 h with h | h
  · exact List.mem_of_mem_take h
  · exact List.mem_of_mem_drop h
theorem modI_lt {n k : Int} (h : 0 < k) : 0 ≤ modI n k ∧ modI n k < k := by
  unfold modI
  rw [if_neg (by omega)]
  exact ⟨Int.emod_nonneg _ (by omega), Int.emod_lt_of_pos _ h⟩
theorem mem_at {w : List E} (h : w.length ≠ 0) (n : Int) : atN w n ∈ w := by
  have := modI_lt (n := n) (show (0 : Int) < w.length by omega)
  unfold atN
  have hi : (modI n w.length).toNat < w.length := by omega
  rw [List.getD_eq_getElem?_getD, List.getElem?_eq_getElem hi]
  exact List.getElem_mem _
theorem j_do {lim : Int} (hlim : limitB lim = true) {d : MS} (h : J lim d) {e : Int} (he : ok1 e) (k n : Int) : J lim (doN lim k n e d) := by
  have k0 := may_en h he
  have hn := h.note e he
  have m1 : ∀ y ∈ res (wy e d) (modI n (wy e d).length), ri y 1 ≤ mx (en e d) := fun y hy => hn y (mem_res hy)
  unfold doN
  split
  · split
    · refine j_setW h he ?_
      intro y hy
      rcases List.mem_append.1 hy with hy | hy
      · exact hn y hy
      · rw [List.mem_singleton] at hy
        subst hy
        show (en e d).p ≤ max _ _
        omega
    · exact h
  · split
    · exact j_close hlim h he
    · split
      · exact h
      · rename_i g
        have ha := hn _ (mem_at (w := wy e d) (fun z => g (.inl z)) n)
        have m2 : ∀ y ∈ [nO (atN (wy e d) n)], ri y 1 ≤ mx (en e d) := fun y hy => by
          rw [List.mem_singleton] at hy
          subst hy
          exact ha
        split
        · refine j_co hlim (j_setW h he m1) he _ ?_
          rw [en_setW he he]
          exact ha
        · split
          · exact j_setW h he m1
          · split
            · exact j_setW h he fun y hy => (List.mem_append.1 hy).elim (hn y) (m2 y)
            · exact j_setW h he fun y hy => (List.mem_append.1 hy).elim (m1 y) (m2 y)
theorem j_go {lim : Int} (hlim : limitB lim = true) {d : MS} (h : J lim d) (k n a : Int) : J lim (goN lim k n a d) := by
  unfold goN
  split
  · exact j_do hlim h (.inl rfl) k n
  · split
    · exact j_do hlim h (.inr rfl) k n
    · exact h
theorem j_begin {lim : Int} (hlim : limitB lim = true) : J lim (n00 lim) := by
  have h1 := lim_is hlim
  have m := new_may (Int.le_refl 0) (by decide) hlim
  have e : newH 0 lim = ⟨0, 0, 1, false, 0⟩ := by
    unfold newH
    rw [if_neg (by omega)]
    rfl
  have e0 : n00 lim = ⟨0, 0, 1, false, 0, 0, 1, false, [], []⟩ := by
    unfold n00
    rw [e]
  rw [e] at m
  rw [e0]
  refine ⟨?_, ?_, ?_, ?_⟩
  · rintro f (rfl | rfl) <;> exact m
  · rintro f (rfl | rfl) <;> exact h1.1
  · rintro f (rfl | rfl) <;> exact fun y hy => absurd hy (List.not_mem_nil)
  · rintro f (rfl | rfl) <;> exact (by decide : (0 : Int) ≤ max 0 1)
/-! ## All on the ways comes -/
def emp (d : MS) : Prop := d.w0.length = 0 ∧ d.w1.length = 0
def dl (lim : Int) (d : MS) : MS := if d.w0.length = 0 then goN lim 2 0 2 d else goN lim 2 0 1 d
def dls (lim : Int) : Nat → MS → MS
  | 0, d => d
  | n + 1, d => dl lim (dls lim n d)
def tk (lim : Int) (d : MS) : MS := goN lim 1 0 2 (goN lim 1 0 1 d)
theorem mod0 (k : Int) : modI 0 k = 0 := by
  unfold modI
  split
  · rfl
  · exact Int.zero_emod _
theorem dl_0 {lim : Int} {l0 c0 p0 l1 c1 p1 : Int} {o0 o1 : Bool} {y : E} {w w1 : List E} : dl lim ⟨l0, c0, p0, o0, l1, c1, p1, o1, y :: w, w1⟩ = coN lim 0 ⟨l0, c0, p0, o0, l1, c1, p1, o1, w, w1⟩ (rb y 0) (ri y 1) := by
  unfold dl
  rw [if_neg (by simp)]
  unfold goN doN
  rw [if_pos rfl, if_neg (by decide), if_neg (by decide), if_neg (by show ¬ ((y :: w).length = 0 ∨ _ ∨ _); simp), if_pos rfl]
  unfold atN res
  simp only [mod0]
  rfl
theorem dl_1 {lim : Int} {l0 c0 p0 l1 c1 p1 : Int} {o0 o1 : Bool} {y : E} {w : List E} : dl lim ⟨l0, c0, p0, o0, l1, c1, p1, o1, [], y :: w⟩ = coN lim 1 ⟨l0, c0, p0, o0, l1, c1, p1, o1, [], w⟩ (rb y 0) (ri y 1) := by
  unfold dl
  rw [if_pos (show ([] : List E).length = 0 from rfl)]
  unfold goN doN
  rw [if_neg (by decide), if_pos rfl, if_neg (by decide), if_neg (by decide), if_neg (by show ¬ ((y :: w).length = 0 ∨ _ ∨ _); simp), if_pos rfl]
  unfold atN res
  simp only [mod0]
  rfl
theorem dl_e {lim : Int} {d : MS} (h : emp d) : dl lim d = d := by
  unfold dl
  rw [if_pos h.1]
  unfold goN doN
  rw [if_neg (by decide), if_pos rfl, if_neg (by decide), if_neg (by decide), if_pos (.inl h.2)]
theorem dls_e {lim : Int} {d : MS} (k : Nat) (h : emp (dls lim k d)) : ∀ n, k ≤ n → dls lim n d = dls lim k d := fun n hn => by
  obtain ⟨m, rfl⟩ := Nat.exists_eq_add_of_le hn
  clear hn
  induction m with
  | zero => rfl
  | succ m ih =>
    show dl lim (dls lim (k + m) d) = _
    rw [ih]
    exact dl_e h
/-- How many more come. -/
def pw (w : List E) : Nat := (w.map fun y => if rb y 0 = true then 2 else 1).sum
def pot (d : MS) : Nat := pw d.w0 + pw d.w1
theorem pw_le (w : List E) : w.length ≤ pw w ∧ pw w ≤ 2 * w.length := by
  unfold pw
  induction w with
  | nil => exact ⟨Nat.le_refl 0, Nat.le_refl 0⟩
  | cons y w ih =>
    simp only [List.map_cons, List.sum_cons, List.length_cons]
    split <;> omega
theorem pw_snoc (w : List E) (p : Int) : pw (w ++ [[D.bool false, D.int p]]) = pw w + 1 := by
  unfold pw
  rw [List.map_append, List.sum_append]
  rfl
theorem pot_co (lim e : Int) (he : ok1 e) (d : MS) (b : Bool) (p : Int) : pot (coN lim e d b p) ≤ pot d + (if b = true then 1 else 0) := by
  unfold coN
  split
  · rcases he with rfl | rfl <;> exact Nat.le_add_right _ _
  · rename_i g
    have hb : b = true := by
      cases b
      · exact absurd rfl g
      · rfl
    subst hb
    show _ ≤ pot d + 1
    split
    · rcases he with rfl | rfl
      · show pw d.w0 + pw (d.w1 ++ [_]) ≤ _
        rw [pw_snoc]
        exact Nat.le_refl _
      · show pw (d.w0 ++ [_]) + pw d.w1 ≤ _
        rw [pw_snoc]
        unfold pot
        omega
    · rcases he with rfl | rfl <;> exact Nat.le_add_right _ _
theorem pot_dl (lim : Int) (d : MS) (h : ¬ emp d) : pot (dl lim d) < pot d := by
  obtain ⟨l0, c0, p0, o0, l1, c1, p1, o1, w0, w1⟩ := d
  cases w0 with
  | cons y w =>
    rw [dl_0]
    have := pot_co lim 0 (.inl rfl) ⟨l0, c0, p0, o0, l1, c1, p1, o1, w, w1⟩ (rb y 0) (ri y 1)
    refine Nat.lt_of_le_of_lt this ?_
    show pw w + pw w1 + _ < pw (y :: w) + pw w1
    have : pw (y :: w) = (if rb y 0 = true then 2 else 1) + pw w := by simp only [pw, List.map_cons, List.sum_cons]
    rw [this]
    split <;> omega
  | nil =>
    cases w1 with
    | nil => exact absurd ⟨rfl, rfl⟩ h
    | cons y w =>
      rw [dl_1]
      have := pot_co lim 1 (.inr rfl) ⟨l0, c0, p0, o0, l1, c1, p1, o1, [], w⟩ (rb y 0) (ri y 1)
      refine Nat.lt_of_le_of_lt this ?_
      show pw [] + pw w + _ < pw [] + pw (y :: w)
      have : pw (y :: w) = (if rb y 0 = true then 2 else 1) + pw w := by simp only [pw, List.map_cons, List.sum_cons]
      rw [this]
      split <;> omega
theorem emp_pot {d : MS} (h : pot d = 0) : emp d := by
  have h0 := pw_le d.w0
  have h1 := pw_le d.w1
  unfold pot at h
  exact ⟨by omega, by omega⟩
theorem dls_pot (lim : Int) (d : MS) (n : Nat) : emp (dls lim n d) ∨ pot (dls lim n d) + n ≤ pot d := by
  induction n with
  | zero => exact .inr (Nat.le_refl _)
  | succ n ih =>
    by_cases h : emp (dls lim n d)
    · refine .inl ?_
      show emp (dl lim (dls lim n d))
      rw [dl_e h]
      exact h
    · rcases ih with ih | ih
      · exact absurd ih h
      · have := pot_dl lim _ h
        refine .inr ?_
        show pot (dl lim (dls lim n d)) + (n + 1) ≤ pot d
        omega
theorem dls_emp {lim : Int} {d : MS} {n : Nat} (h : pot d ≤ n) : emp (dls lim n d) := by
  rcases dls_pot lim d n with g | g
  · exact g
  · exact emp_pot (by omega)
theorem j_dl {lim : Int} (hlim : limitB lim = true) {d : MS} (h : J lim d) : J lim (dl lim d) := by
  unfold dl
  split <;> exact j_go hlim h _ _ _
theorem j_dls {lim : Int} (hlim : limitB lim = true) {d : MS} (h : J lim d) (n : Nat) : J lim (dls lim n d) := by
  induction n with
  | zero => exact h
  | succ n ih => exact j_dl hlim ih
theorem j_tk {lim : Int} (hlim : limitB lim = true) {d : MS} (h : J lim d) : J lim (tk lim d) := j_go hlim (j_go hlim h _ _ _) _ _ _
/-! ## Rounds -/
def rnd (lim : Int) (n : Nat) (d : MS) : MS := dls lim n (tk lim d)
def Ov (d : MS) : Prop := d.o0 = true ∨ d.o1 = true
def Eq2 (d : MS) : Prop := d.c0 ≠ 0 ∧ d.c0 = d.c1
def Hf (d : MS) : Prop := 0 < d.c0 ∧ d.c0 = d.p1 ∨ 0 < d.c1 ∧ d.c1 = d.p0
def stage (lim : Int) (n : Nat) (d : MS) : Prop := J lim d ∧ (1 ≤ n → emp d) ∧ (2 ≤ n → Ov d ∨ Hf d ∨ Eq2 d) ∧ (3 ≤ n → Ov d ∨ Eq2 d)
theorem wel_o (l c p : Int) (o : Bool) (q : Int) (h : o = true) (hp : p = 0) : (welH l c p o q).o = true := by
  unfold welH
  rw [if_neg (by omega)]
  exact h
theorem ov_do {lim : Int} {d : MS} (h : J lim d) {e f : Int} (he : ok1 e) (hf : ok1 f) (k n : Int) (ho : (en f d).o = true) : (en f (doN lim k n e d)).o = true := by
  have k0 := may_en h hf
  have hp : (en f d).p = 0 ∧ (en f d).c = 0 := by
    rcases k0.2.2 with g | g | g
    · rw [g.2.2.2] at ho; cases ho
    · rw [g.2.2.2] at ho; cases ho
    · exact ⟨g.2.1, g.1⟩
  unfold doN
  split
  · split
    · rw [en_setW hf he]; exact ho
    · exact ho
  · split
    · rw [en_setH hf he]
      by_cases g : f = e
      · rw [if_pos g]
        subst g
        show (closeH _ _ _ _ _).o = true
        unfold closeH
        rw [if_neg (by omega)]
        exact ho
      · rw [if_neg g]; exact ho
    · split
      · exact ho
      · split
        · unfold coN
          have hs := (sub_ok he).1
          split
          · rw [en_setH hf hs]
            by_cases g : f = 1 - e
            · rw [if_pos g, ← g]
              exact wel_o _ _ _ _ _ (by rw [en_setW hf he]; exact ho) (by rw [en_setW hf he]; exact hp.1)
            · rw [if_neg g, en_setW hf he]; exact ho
          · have hh : ∀ l c p q, (helH l c p true q lim) = ⟨l, c, p, true, false, false, 0⟩ := fun l c p q => if_pos (.inl rfl)
            split
            · rw [en_setW hf hs, en_setH hf hs]
              by_cases g : f = 1 - e
              · rw [if_pos g, ← g]
                simp only [en_setW hf he, ho, hh]
              · rw [if_neg g, en_setW hf he]; exact ho
            · rw [en_setH hf hs]
              by_cases g : f = 1 - e
              · rw [if_pos g, ← g]
                simp only [en_setW hf he, ho, hh]
              · rw [if_neg g, en_setW hf he]; exact ho
        · split
          · rw [en_setW hf he]; exact ho
          · split <;> (rw [en_setW hf he]; exact ho)
theorem ov_go {lim : Int} {d : MS} (h : J lim d) (k n a : Int) (ho : Ov d) : Ov (goN lim k n a d) := by
  have key : ∀ e, ok1 e → Ov (doN lim k n e d) := fun e he => by
    rcases ho with ho | ho
    · exact .inl (ov_do h he (.inl rfl) k n ho)
    · exact .inr (ov_do h he (.inr rfl) k n ho)
  unfold goN
  split
  · exact key 0 (.inl rfl)
  · split
    · exact key 1 (.inr rfl)
    · exact ho
theorem ov_dls {lim : Int} (hlim : limitB lim = true) {d : MS} (h : J lim d) (n : Nat) (ho : Ov d) : Ov (dls lim n d) := by
  induction n with
  | zero => exact ho
  | succ n ih =>
    show Ov (dl lim (dls lim n d))
    unfold dl
    split <;> exact ov_go (j_dls hlim h n) _ _ _ ih
theorem ov_rnd {lim : Int} (hlim : limitB lim = true) {d : MS} (h : J lim d) (n : Nat) (ho : Ov d) : Ov (rnd lim n d) :=
  ov_dls hlim (j_tk hlim h) n (ov_go (j_go hlim h _ _ _) _ _ _ (ov_go h _ _ _ ho))
/-- A round with nothing on the ways, no end over. -/
theorem dls_4 {lim : Int} {d d' : MS} {n : Nat} (hn : 4 ≤ n) (h : dls lim 4 d = d') (he : emp d') : dls lim n d = d' := by
  rw [← h] at he ⊢
  exact dls_e 4 he n hn
def st6 (l0 c0 p0 l1 c1 p1 : Int) : MS := ⟨l0, c0, p0, false, l1, c1, p1, false, [], []⟩
theorem tk6 {lim l0 c0 p0 l1 c1 p1 : Int} : tk lim (st6 l0 c0 p0 l1 c1 p1) = ⟨l0, c0, p0, false, l1, c1, p1, false, if 0 < p0 then [[D.bool true, D.int p0]] else [], if 0 < p1 then [[D.bool true, D.int p1]] else []⟩ := by
  unfold tk st6 goN doN
  by_cases h0 : 0 < p0 <;> by_cases h1 : 0 < p1 <;> simp [en, setW, wy, h0, h1]
theorem rnd_oo {lim : Int} {n : Nat} (hn : 4 ≤ n) {l0 c0 l1 c1 : Int} : rnd lim n (st6 l0 c0 0 l1 c1 0) = st6 l0 c0 0 l1 c1 0 := by
  unfold rnd
  rw [tk6]
  rw [if_neg (by decide)]
  refine dls_4 hn ?_ ⟨rfl, rfl⟩
  have e : dls lim 0 (st6 l0 c0 0 l1 c1 0) = st6 l0 c0 0 l1 c1 0 := rfl
  exact (dls_e (d := st6 l0 c0 0 l1 c1 0) 0 ⟨rfl, rfl⟩ 4 (by decide)).trans e
/-- The first is open, the second proposes. -/
theorem rnd_op {lim : Int} {n : Nat} (hn : 4 ≤ n) {l0 c0 l1 p1 : Int} (hc : 0 < c0) (hp : 0 < p1) (hl : p1 ≤ lim) (hm : c0 ≤ p1) : rnd lim n (st6 l0 c0 0 l1 0 p1) = if c0 = p1 then st6 l0 c0 0 p1 p1 0 else st6 l0 0 p1 p1 p1 0 := by
  unfold rnd
  rw [tk6]
  by_cases h : c0 = p1
  · subst h
    rw [if_pos rfl]
    refine dls_4 hn ?_ ⟨rfl, rfl⟩
    have h2 : ¬ c0 < 1 := by omega
    have h3 : ¬ lim < c0 := by omega
    simp [dls, dl, goN, doN, coN, helH, welH, en, setW, setH, wy, atN, modI, res, rb, ri, st6, hc, h2, h3]
  · rw [if_neg h]
    refine dls_4 hn ?_ ⟨rfl, rfl⟩
    have h1 : c0 < p1 := by omega
    have h2 : ¬ p1 < 1 := by omega
    have h3 : ¬ lim < p1 := by omega
    simp [dls, dl, goN, doN, coN, helH, welH, en, setW, setH, wy, atN, modI, res, rb, ri, st6, hc, hp, h1, h2, h3]
theorem rnd_po {lim : Int} {n : Nat} (hn : 4 ≤ n) {l0 p0 l1 c1 : Int} (hc : 0 < c1) (hp : 0 < p0) (hl : p0 ≤ lim) (hm : c1 ≤ p0) : rnd lim n (st6 l0 0 p0 l1 c1 0) = if c1 = p0 then st6 p0 p0 0 l1 c1 0 else st6 p0 p0 0 l1 0 p0 := by
  unfold rnd
  rw [tk6]
  by_cases h : c1 = p0
  · subst h
    rw [if_pos rfl]
    refine dls_4 hn ?_ ⟨rfl, rfl⟩
    have h2 : ¬ c1 < 1 := by omega
    have h3 : ¬ lim < c1 := by omega
    simp [dls, dl, goN, doN, coN, helH, welH, en, setW, setH, wy, atN, modI, res, rb, ri, st6, hc, h2, h3]
  · rw [if_neg h]
    refine dls_4 hn ?_ ⟨rfl, rfl⟩
    have h1 : c1 < p0 := by omega
    have h2 : ¬ p0 < 1 := by omega
    have h3 : ¬ lim < p0 := by omega
    simp [dls, dl, goN, doN, coN, helH, welH, en, setW, setH, wy, atN, modI, res, rb, ri, st6, hc, hp, h1, h2, h3]
theorem rnd_pp {lim : Int} {n : Nat} (hn : 4 ≤ n) {l0 p0 l1 p1 : Int} (hp : 0 < p0) (hq : 0 < p1) (hl : p0 ≤ lim) (hm : p1 ≤ lim) : rnd lim n (st6 l0 0 p0 l1 0 p1) = if p0 = p1 then st6 p0 p0 0 p0 p0 0 else if p1 < p0 then st6 p0 p0 0 l1 0 p0 else st6 l0 0 p1 p1 p1 0 := by
  unfold rnd
  rw [tk6]
  have h2 : ¬ p0 < 1 := by omega
  have h3 : ¬ lim < p0 := by omega
  have h4 : ¬ p1 < 1 := by omega
  have h5 : ¬ lim < p1 := by omega
  by_cases h : p0 = p1
  · subst h
    rw [if_pos rfl]
    refine dls_4 hn ?_ ⟨rfl, rfl⟩
    simp [dls, dl, goN, doN, coN, helH, welH, en, setW, setH, wy, atN, modI, res, rb, ri, st6, hp, h2, h3]
  · rw [if_neg h]
    by_cases g : p1 < p0
    · rw [if_pos g]
      refine dls_4 hn ?_ ⟨rfl, rfl⟩
      have g2 : ¬ p0 < p1 := by omega
      have g3 : ¬ p1 = p0 := by omega
      simp [dls, dl, goN, doN, coN, helH, welH, en, setW, setH, wy, atN, modI, res, rb, ri, st6, hp, hq, h2, h3, h4, h5, g, g2, g3]
    · rw [if_neg g]
      refine dls_4 hn ?_ ⟨rfl, rfl⟩
      have g2 : p0 < p1 := by omega
      simp [dls, dl, goN, doN, coN, helH, welH, en, setW, setH, wy, atN, modI, res, rb, ri, st6, hp, hq, h2, h3, h4, h5, g, g2, h]
theorem stage_next {lim : Int} (hlim : limitB lim = true) {k n : Nat} {d : MS} (h : stage lim k d) (hn : 4 ≤ n) (hp : pot (tk lim d) ≤ n) : stage lim (k + 1) (rnd lim n d) := by
  obtain ⟨hj, h1, h2, h3⟩ := h
  have jr : J lim (rnd lim n d) := j_dls hlim (j_tk hlim hj) n
  refine ⟨jr, fun _ => dls_emp hp, fun hk => ?_, fun hk => ?_⟩
  · by_cases ho : Ov d
    · exact .inl (ov_rnd hlim hj n ho)
    refine .inr ?_
    obtain ⟨e0, e1⟩ := h1 (by omega)
    obtain ⟨l0, c0, p0, o0, l1, c1, p1, o1, w0, w1⟩ := d
    have f0 : o0 = false := by cases o0 <;> first | rfl | exact absurd (.inl rfl) ho
    have f1 : o1 = false := by cases o1 <;> first | rfl | exact absurd (.inr rfl) ho
    have g0 : w0 = [] := List.eq_nil_of_length_eq_zero e0
    have g1 : w1 = [] := List.eq_nil_of_length_eq_zero e1
    subst f0 f1 g0 g1
    have k0 := may_en hj (.inl rfl)
    have k1 := may_en hj (.inr rfl)
    have q0 : p0 ≤ lim := hj.lim 0 (.inl rfl)
    have q1 : p1 ≤ lim := hj.lim 1 (.inr rfl)
    have u0 : c0 ≤ max l1 p1 := hj.cur 0 (.inl rfl)
    have u1 : c1 ≤ max l0 p0 := hj.cur 1 (.inr rfl)
    have m0 : 0 ≤ l0 ∧ _ ∧ (c0 = l0 ∧ c0 ≠ 0 ∧ p0 = 0 ∧ false = false ∨ c0 = 0 ∧ l0 < p0 ∧ p0 ≤ 2147483647 ∧ false = false ∨ c0 = 0 ∧ p0 = 0 ∧ false = true) := k0
    clear k0
    have m1 : 0 ≤ l1 ∧ _ ∧ (c1 = l1 ∧ c1 ≠ 0 ∧ p1 = 0 ∧ false = false ∨ c1 = 0 ∧ l1 < p1 ∧ p1 ≤ 2147483647 ∧ false = false ∨ c1 = 0 ∧ p1 = 0 ∧ false = true) := k1
    clear k1
    show Hf (rnd lim n (st6 l0 c0 p0 l1 c1 p1)) ∨ Eq2 (rnd lim n (st6 l0 c0 p0 l1 c1 p1))
    rcases m0 with ⟨z0, _, m0 | m0 | m0⟩ <;> rcases m1 with ⟨z1, _, m1 | m1 | m1⟩ <;> try (simp at m0 m1; done)
    · obtain ⟨a1, a2, rfl, _⟩ := m0
      obtain ⟨b1, b2, rfl, _⟩ := m1
      rw [rnd_oo hn]
      refine .inr ⟨a2, ?_⟩
      show c0 = c1
      omega
    · obtain ⟨a1, a2, rfl, _⟩ := m0
      obtain ⟨rfl, b2, b3, _⟩ := m1
      rw [rnd_op hn (by omega) (by omega) q1 (by omega)]
      split
      · exact .inr ⟨a2, by assumption⟩
      · exact .inl (.inr ⟨show 0 < p1 by omega, rfl⟩)
    · obtain ⟨rfl, a2, a3, _⟩ := m0
      obtain ⟨b1, b2, rfl, _⟩ := m1
      rw [rnd_po hn (by omega) (by omega) q0 (by omega)]
      split
      · exact .inr ⟨show p0 ≠ 0 by omega, by show p0 = c1; omega⟩
      · exact .inl (.inl ⟨show 0 < p0 by omega, rfl⟩)
    · obtain ⟨rfl, a2, a3, _⟩ := m0
      obtain ⟨rfl, b2, b3, _⟩ := m1
      rw [rnd_pp hn (by omega) (by omega) q0 q1]
      split
      · exact .inr ⟨show p0 ≠ 0 by omega, rfl⟩
      · split
        · exact .inl (.inl ⟨show 0 < p0 by omega, rfl⟩)
        · exact .inl (.inr ⟨show 0 < p1 by omega, rfl⟩)
  · by_cases ho : Ov d
    · exact .inl (ov_rnd hlim hj n ho)
    refine .inr ?_
    obtain ⟨e0, e1⟩ := h1 (by omega)
    have hs := h2 (by omega)
    obtain ⟨l0, c0, p0, o0, l1, c1, p1, o1, w0, w1⟩ := d
    have f0 : o0 = false := by cases o0 <;> first | rfl | exact absurd (.inl rfl) ho
    have f1 : o1 = false := by cases o1 <;> first | rfl | exact absurd (.inr rfl) ho
    have g0 : w0 = [] := List.eq_nil_of_length_eq_zero e0
    have g1 : w1 = [] := List.eq_nil_of_length_eq_zero e1
    subst f0 f1 g0 g1
    have k0 := may_en hj (.inl rfl)
    have k1 := may_en hj (.inr rfl)
    have q0 : p0 ≤ lim := hj.lim 0 (.inl rfl)
    have q1 : p1 ≤ lim := hj.lim 1 (.inr rfl)
    have m0 : 0 ≤ l0 ∧ _ ∧ (c0 = l0 ∧ c0 ≠ 0 ∧ p0 = 0 ∧ false = false ∨ c0 = 0 ∧ l0 < p0 ∧ p0 ≤ 2147483647 ∧ false = false ∨ c0 = 0 ∧ p0 = 0 ∧ false = true) := k0
    clear k0
    have m1 : 0 ≤ l1 ∧ _ ∧ (c1 = l1 ∧ c1 ≠ 0 ∧ p1 = 0 ∧ false = false ∨ c1 = 0 ∧ l1 < p1 ∧ p1 ≤ 2147483647 ∧ false = false ∨ c1 = 0 ∧ p1 = 0 ∧ false = true) := k1
    clear k1
    show Eq2 (rnd lim n (st6 l0 c0 p0 l1 c1 p1))
    rcases hs with hs | (hs | hs) | hs
    · exact absurd hs ho
    · have hs : 0 < c0 ∧ c0 = p1 := hs
      obtain ⟨s1, rfl⟩ := hs
      have e1 : p0 = 0 := by
        rcases m0.2.2 with g | g | g
        · exact g.2.2.1
        · omega
        · exact g.2.1
      have e2 : c1 = 0 := by
        rcases m1.2.2 with g | g | g
        · omega
        · exact g.1
        · exact g.1
      subst e1 e2
      rw [rnd_op hn s1 s1 q1 (Int.le_refl _), if_pos rfl]
      exact ⟨show c0 ≠ 0 by omega, rfl⟩
    · have hs : 0 < c1 ∧ c1 = p0 := hs
      obtain ⟨s1, rfl⟩ := hs
      have e1 : p1 = 0 := by
        rcases m1.2.2 with g | g | g
        · exact g.2.2.1
        · omega
        · exact g.2.1
      have e2 : c0 = 0 := by
        rcases m0.2.2 with g | g | g
        · omega
        · exact g.1
        · exact g.1
      subst e1 e2
      rw [rnd_po hn s1 s1 q0 (Int.le_refl _), if_pos rfl]
      exact ⟨show c1 ≠ 0 by omega, rfl⟩
    · have hs : c0 ≠ 0 ∧ c0 = c1 := hs
      obtain ⟨s1, rfl⟩ := hs
      have e1 : p0 = 0 := by
        rcases m0.2.2 with g | g | g
        · exact g.2.2.1
        · omega
        · exact g.2.1
      have e2 : p1 = 0 := by
        rcases m1.2.2 with g | g | g
        · exact g.2.2.1
        · omega
        · exact g.2.1
      subst e1 e2
      rw [rnd_oo hn]
      exact ⟨s1, rfl⟩
end Go.Proofs.Ytgemoemkgcmcgaa.MeA
