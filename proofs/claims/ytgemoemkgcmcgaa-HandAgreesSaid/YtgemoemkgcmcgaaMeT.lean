/-
  The two ends of the code are the document's, act by act. No condition.
-/
import Derived.Test.YtgemoemkgcmcgaaMeM
import Derived.Test.YtgemoemkgcmcgaaMeQ
namespace Go.Proofs.Ytgemoemkgcmcgaa.MeT
open Go Go.Proofs.Ytgemoemkgcmcgaa.Ry Go.Proofs.Ytgemoemkgcmcgaa.HaR Go.Proofs.Ytgemoemkgcmcgaa.BwS Go.Proofs.Ytgemoemkgcmcgaa.MeR Go.Proofs.Ytgemoemkgcmcgaa.MeM Go.Proofs.Ytgemoemkgcmcgaa.MeQ
def cv (y : E) : E := [D.bool (!rb y 1), D.int (ri y 0)]
def mayE (h : HN) : Bool := mayH h.l h.c h.p h.o
abbrev ok1 (e : Int) : Prop := e = 0 ∨ e = 1
/-! ## Ends -/
theorem may_is {l c p : Int} {o : Bool} (h : mayH l c p o = true) : 0 ≤ l ∧ l ≤ 2147483647 ∧ (c = l ∧ c ≠ 0 ∧ p = 0 ∧ o = false ∨ c = 0 ∧ l < p ∧ p ≤ 2147483647 ∧ o = false ∨ c = 0 ∧ p = 0 ∧ o = true) := by
  unfold mayH openB openingB overB at h
  simp only [Bool.and_eq_true, Bool.or_eq_true, decide_eq_true_eq, beq_iff_eq, bne_iff_ne, Bool.not_eq_true'] at h
  grind
theorem may_of {l c p : Int} {o : Bool} (h : 0 ≤ l ∧ l ≤ 2147483647 ∧ (c = l ∧ c ≠ 0 ∧ p = 0 ∧ o = false ∨ c = 0 ∧ l < p ∧ p ≤ 2147483647 ∧ o = false ∨ c = 0 ∧ p = 0 ∧ o = true)) : mayH l c p o = true := by
  unfold mayH openB openingB overB
  simp only [Bool.and_eq_true, Bool.or_eq_true, decide_eq_true_eq, beq_iff_eq, bne_iff_ne, Bool.not_eq_true']
  grind
theorem opening_is {l c p : Int} {o : Bool} (h : mayH l c p o = true) : openingB l c p o = true ↔ 0 < p := by
  have h := may_is h
  unfold openingB
  simp only [Bool.and_eq_true, decide_eq_true_eq, beq_iff_eq, Bool.not_eq_true']
  grind
theorem lim_is {n : Int} (h : limitB n = true) : 1 ≤ n ∧ n ≤ 2147483647 := by
  unfold limitB at h
  simp only [Bool.and_eq_true, decide_eq_true_eq] at h
  exact h
theorem new_may {l n : Int} (h0 : 0 ≤ l) (h1 : l ≤ 2147483647) (hn : limitB n = true) : mayH (newH l n).l (newH l n).c (newH l n).p (newH l n).o = true := by
  have hn := lim_is hn
  refine may_of ?_
  unfold newH
  split
  · exact ⟨h0, h1, .inr (.inr ⟨rfl, rfl, rfl⟩)⟩
  · refine ⟨h0, h1, .inr (.inl ⟨rfl, ?_, ?_, rfl⟩)⟩ <;> simp only <;> omega
theorem wel_may {l c p : Int} {o : Bool} (q : Int) (h : mayH l c p o = true) : mayH (welH l c p o q).l (welH l c p o q).c (welH l c p o q).p (welH l c p o q).o = true ∧ ((welH l c p o q).c ≠ 0 → c ≠ (welH l c p o q).c → l < (welH l c p o q).c) := by
  have k := may_is h
  unfold welH
  split
  · rename_i g
    refine ⟨may_of (show 0 ≤ q ∧ q ≤ 2147483647 ∧ (q = q ∧ q ≠ 0 ∧ (0 : Int) = 0 ∧ false = false ∨ _) from ⟨by omega, by omega, .inl ⟨rfl, by omega, rfl, rfl⟩⟩), fun _ _ => ?_⟩
    show l < q
    omega
  · exact ⟨h, fun _ g => absurd rfl g⟩
theorem hel_may {l c p : Int} {o : Bool} (q : Int) {n : Int} (h : mayH l c p o = true) (hn : limitB n = true) : mayH (helH l c p o q n).l (helH l c p o q n).c (helH l c p o q n).p (helH l c p o q n).o = true ∧ ((helH l c p o q n).c ≠ 0 → c ≠ (helH l c p o q n).c → l < (helH l c p o q n).c) := by
  have k := may_is h
  have hn := lim_is hn
  unfold helH
  split
  · exact ⟨h, fun _ g => absurd rfl g⟩
  · rename_i g
    have g1 : o = false := by
      cases o
      · rfl
      · exact absurd (.inl rfl) g
    split
    · split
      · refine ⟨may_of ?_, fun z => absurd rfl z⟩
        exact ⟨k.1, k.2.1, .inr (.inl ⟨rfl, show l < q by omega, show q ≤ 2147483647 by omega, rfl⟩)⟩
      · exact ⟨h, fun _ g => absurd rfl g⟩
    · split
      · refine ⟨may_of ?_, fun _ g => absurd rfl g⟩
        refine ⟨k.1, k.2.1, .inr (.inl ?_)⟩
        rcases k.2.2 with k | k | k
        · omega
        · exact ⟨k.1, show l < q by omega, show q ≤ 2147483647 by omega, k.2.2.2⟩
        · rw [k.2.2] at g1
          cases g1
      · exact ⟨h, fun _ g => absurd rfl g⟩
theorem close_may {l c p : Int} {o : Bool} {n : Int} (h : mayH l c p o = true) (hn : limitB n = true) : mayH (closeH l c p o n).l (closeH l c p o n).c (closeH l c p o n).p (closeH l c p o n).o = true ∧ ((closeH l c p o n).c ≠ 0 → c ≠ (closeH l c p o n).c → l < (closeH l c p o n).c) := by
  have k := may_is h
  unfold closeH
  split
  · refine ⟨new_may k.1 k.2.1 hn, fun z => absurd ?_ z⟩
    unfold newH
    split <;> rfl
  · exact ⟨h, fun _ g => absurd rfl g⟩
/-! ## Both ends -/
theorem en_setH {e f : Int} (he : ok1 e) (hf : ok1 f) (d : MS) (l c p : Int) (o : Bool) : en e (setH f d l c p o) = if e = f then ⟨l, c, p, o⟩ else en e d := by
  rcases he with rfl | rfl <;> rcases hf with rfl | rfl <;> rfl
theorem en_setW {e f : Int} (he : ok1 e) (hf : ok1 f) (d : MS) (w : List E) : en e (setW f d w) = en e d := by
  rcases he with rfl | rfl <;> rcases hf with rfl | rfl <;> rfl
theorem wy_setH {e f : Int} (he : ok1 e) (hf : ok1 f) (d : MS) (l c p : Int) (o : Bool) : wy e (setH f d l c p o) = wy e d := by
  rcases he with rfl | rfl <;> rcases hf with rfl | rfl <;> rfl
theorem wy_setW {e f : Int} (he : ok1 e) (hf : ok1 f) (d : MS) (w : List E) : wy e (setW f d w) = if e = f then w else wy e d := by
  rcases he with rfl | rfl <;> rcases hf with rfl | rfl <;> rfl
theorem set_self {e : Int} (he : ok1 e) (d : MS) : setW e d (wy e d) = d := by
  rcases he with rfl | rfl <;> rfl
/-- As the code has them, and as the document does; from where they were: numbers that open are new ones. -/
def Inv (d d' : MS) : Prop := ∀ e, ok1 e → en e d = en e d' ∧ wy e d' = (wy e d).map cv ∧ mayE (en e d) = true
def New (b d : MS) : Prop := ∀ e, ok1 e → ((en e d).c ≠ 0 → (en e b).c ≠ (en e d).c → (en e b).l < (en e d).c)
theorem new_self (d : MS) : New d d := fun _ _ _ h => absurd rfl h
theorem inv_setH {d d' : MS} (h : Inv d d') {f : Int} (hf : ok1 f) {l c p : Int} {o : Bool} (m : mayH l c p o = true) : Inv (setH f d l c p o) (setH f d' l c p o) := fun e he => by
  obtain ⟨h1, h2, h3⟩ := h e he
  rw [en_setH he hf, en_setH he hf, wy_setH he hf, wy_setH he hf]
  by_cases g : e = f
  · rw [if_pos g, if_pos g]
    exact ⟨rfl, h2, m⟩
  · rw [if_neg g, if_neg g]
    exact ⟨h1, h2, h3⟩
theorem inv_setW {d d' : MS} (h : Inv d d') {f : Int} (hf : ok1 f) {w w' : List E} (hw : w' = w.map cv) : Inv (setW f d w) (setW f d' w') := fun e he => by
  obtain ⟨h1, h2, h3⟩ := h e he
  rw [en_setW he hf, en_setW he hf, wy_setW he hf, wy_setW he hf]
  by_cases g : e = f
  · rw [if_pos g, if_pos g]
    exact ⟨h1, hw, h3⟩
  · rw [if_neg g, if_neg g]
    exact ⟨h1, h2, h3⟩
theorem new_setH {b d : MS} (hb : ∀ e, ok1 e → en e b = en e d) {f : Int} (hf : ok1 f) {l c p : Int} {o : Bool} (m : c ≠ 0 → (en f d).c ≠ c → (en f d).l < c) : New b (setH f d l c p o) := fun e he => by
  rw [en_setH he hf, hb e he]
  by_cases g : e = f
  · rw [if_pos g, g]
    exact m
  · rw [if_neg g]
    exact fun _ z => absurd rfl z
theorem new_setW {b d : MS} (h : New b d) {f : Int} (hf : ok1 f) (w : List E) : New b (setW f d w) := fun e he => by
  rw [en_setW he hf]
  exact h e he
theorem ok_1 {e : Int} (he : ok1 e) : ok1 (1 - e) := by
  rcases he with rfl | rfl
  · exact .inr rfl
  · exact .inl rfl
theorem he_inv {lim : Int} (hl : limitB lim = true) {b d d' : MS} (h : Inv d d') (hb : ∀ e, ok1 e → en e b = en e d) {e : Int} (he : ok1 e) (n : Int) (wc : Bool) : Inv (heM lim (1 - e) d n wc) (coN lim e d' (!wc) n) ∧ New b (heM lim (1 - e) d n wc) := by
  have hf := ok_1 he
  obtain ⟨h1, h2, h3⟩ := h (1 - e) hf
  have hm : mayH (en (1 - e) d).l (en (1 - e) d).c (en (1 - e) d).p (en (1 - e) d).o = true := h3
  cases wc with
  | true =>
    simp only [heM, coN, Bool.not_true, if_true, ← h1]
    rw [show welF (en (1 - e) d).l (en (1 - e) d).c (en (1 - e) d).p (en (1 - e) d).o n = welH (en (1 - e) d).l (en (1 - e) d).c (en (1 - e) d).p (en (1 - e) d).o n from if_pos hm]
    obtain ⟨k1, k2⟩ := wel_may n hm
    exact ⟨inv_setH h hf k1, new_setH hb hf k2⟩
  | false =>
    simp only [heM, coN, Bool.not_false, reduceCtorEq, if_false, ← h1]
    rw [show helF (en (1 - e) d).l (en (1 - e) d).c (en (1 - e) d).p (en (1 - e) d).o n lim = helH (en (1 - e) d).l (en (1 - e) d).c (en (1 - e) d).p (en (1 - e) d).o n lim from if_pos ⟨hm, hl⟩]
    obtain ⟨k1, k2⟩ := hel_may n hm hl
    split
    · refine ⟨inv_setW (inv_setH h hf k1) hf ?_, new_setW (new_setH hb hf k2) hf _⟩
      rw [h2, List.map_append]
      rfl
    · exact ⟨inv_setH h hf k1, new_setH hb hf k2⟩
theorem res_map (w : List E) (i : Int) : (res w i).map cv = res (w.map cv) i := by
  unfold res
  rw [List.map_append, List.map_take, List.map_drop]
theorem at_map {w : List E} (h : w.length ≤ 100000) (h0 : 0 < w.length) (n : Int) : atN (w.map cv) n = cv (w.getD (modI n w.length).toNat []) := by
  obtain ⟨_, h2⟩ := bw_i h n
  obtain ⟨a, b, _⟩ := h2 h0
  have hi : (modI n w.length).toNat < w.length := by omega
  unfold atN
  rw [List.length_map, List.getD_eq_getElem?_getD, List.getElem?_map, List.getD_eq_getElem?_getD, List.getElem?_eq_getElem hi]
  rfl
theorem do_inv {lim : Int} (hl : limitB lim = true) {d d' : MS} (h : Inv d d') {e : Int} (he : ok1 e) (hw : (wy e d).length ≤ 100000) (k n : Int) : Inv (doM lim k n e d) (doN lim k n e d') ∧ New d (doM lim k n e d) := by
  obtain ⟨h1, h2, h3⟩ := h e he
  have hm : mayH (en e d).l (en e d).c (en e d).p (en e d).o = true := h3
  unfold doM doN
  rw [← h1]
  by_cases k1 : k = 1
  · rw [if_pos k1, if_pos k1]
    have ho := opening_is hm
    by_cases hp : 0 < (en e d).p
    · rw [if_pos (ho.2 hp), if_pos hp]
      refine ⟨inv_setW h he ?_, new_setW (new_self d) he _⟩
      rw [h2, List.map_append]
      rfl
    · rw [if_neg (fun q => hp (ho.1 q)), if_neg hp]
      exact ⟨h, new_self d⟩
  · rw [if_neg k1, if_neg k1]
    by_cases k9 : k = 9
    · rw [if_pos k9, if_pos k9, show closeF (en e d).l (en e d).c (en e d).p (en e d).o lim = closeH (en e d).l (en e d).c (en e d).p (en e d).o lim from if_pos ⟨hm, hl⟩]
      obtain ⟨m1, m2⟩ := close_may hm hl
      exact ⟨inv_setH h he m1, new_setH (fun _ _ => rfl) he m2⟩
    · rw [if_neg k9, if_neg k9, h2, List.length_map]
      by_cases h0 : (wy e d).length = 0
      · have hb : bwB (wy e d) k = false := decide_eq_false (by omega)
        have hl0 : bwL (wy e d) k n = wy e d := by
          unfold bwL
          rw [if_pos h0]
          exact (List.eq_nil_of_length_eq_zero h0).symm
        rw [hb, if_neg (by decide), if_pos (.inl h0), hl0, set_self he]
        exact ⟨h, new_self d⟩
      · have hp : 0 < (wy e d).length := by omega
        by_cases hk : k < 2 ∨ 5 < k
        · have hb : bwB (wy e d) k = false := decide_eq_false (by omega)
          have hl0 : bwL (wy e d) k n = wy e d := by
            unfold bwL
            rw [if_neg h0, if_neg (by omega), if_neg (by omega), if_neg (by omega)]
          rw [hb, if_neg (by decide), if_pos (.inr hk), hl0, set_self he]
          exact ⟨h, new_self d⟩
        · rw [if_neg (show ¬ ((wy e d).length = 0 ∨ k < 2 ∨ 5 < k) from fun q => q.elim h0 hk)]
          by_cases k2 : k = 2
          · have hb : bwB (wy e d) k = true := decide_eq_true ⟨hp, k2⟩
            have hl0 : bwL (wy e d) k n = res (wy e d) (modI n (wy e d).length) := by
              unfold bwL
              rw [if_neg h0, if_pos (.inl k2)]
            have he0 : bwE (wy e d) k n = ⟨ri ((wy e d).getD (modI n (wy e d).length).toNat []) 0, rb ((wy e d).getD (modI n (wy e d).length).toNat []) 1⟩ := if_pos ⟨hp, k2⟩
            rw [hb, if_pos rfl, if_pos k2, hl0, he0, at_map hw hp]
            refine he_inv hl (inv_setW h he (res_map _ _).symm) (fun f hf => (en_setW hf he d _).symm) he _ _
          · have hb : bwB (wy e d) k = false := decide_eq_false (fun q => k2 q.2)
            rw [hb, if_neg (by decide), if_neg k2]
            by_cases k3 : k = 3
            · have hl0 : bwL (wy e d) k n = res (wy e d) (modI n (wy e d).length) := by
                unfold bwL
                rw [if_neg h0, if_pos (.inr k3)]
              rw [if_pos k3, hl0]
              exact ⟨inv_setW h he (res_map _ _).symm, new_setW (new_self d) he _⟩
            · rw [if_neg k3, at_map hw hp]
              by_cases k4 : k = 4
              · have hl0 : bwL (wy e d) k n = wy e d ++ [eO ((wy e d).getD (modI n (wy e d).length).toNat [])] := by
                  unfold bwL
                  rw [if_neg h0, if_neg (by omega), if_pos k4]
                rw [if_pos k4, hl0]
                refine ⟨inv_setW h he ?_, new_setW (new_self d) he _⟩
                rw [List.map_append]
                rfl
              · have hl0 : bwL (wy e d) k n = res (wy e d) (modI n (wy e d).length) ++ [eO ((wy e d).getD (modI n (wy e d).length).toNat [])] := by
                  unfold bwL
                  rw [if_neg h0, if_neg (by omega), if_neg k4, if_pos (by omega)]
                rw [if_neg k4, hl0]
                refine ⟨inv_setW h he ?_, new_setW (new_self d) he _⟩
                rw [List.map_append, res_map]
                rfl
/-! ## From the beginning -/
def n00 (lim : Int) : MS := ⟨(newH 0 lim).l, (newH 0 lim).c, (newH 0 lim).p, (newH 0 lim).o, (newH 0 lim).l, (newH 0 lim).c, (newH 0 lim).p, (newH 0 lim).o, [], []⟩
def runN (lim : Int) (l : List E) : MS := l.foldl (fun d y => goN lim (ri y 0) (ri y 3) (ri y 1) d) (n00 lim)
theorem begin_inv {lim : Int} (hl : limitB lim = true) : Inv (d00 lim) (n00 lim) := by
  have e : newF 0 lim = newH 0 lim := if_pos ⟨Int.le_refl 0, by decide, hl⟩
  have m := new_may (Int.le_refl 0) (by decide) hl
  rintro f (rfl | rfl)
  · exact ⟨by unfold d00 n00; rw [e], rfl, by unfold d00; rw [e]; exact m⟩
  · exact ⟨by unfold d00 n00; rw [e], rfl, by unfold d00; rw [e]; exact m⟩
theorem runN_next (lim : Int) (l : List E) (i : Int) (h0 : 0 ≤ i) (h : i < l.length) : runN lim (l.take (i + 1).toNat) = goN lim (ri (l.getD i.toNat []) 0) (ri (l.getD i.toNat []) 3) (ri (l.getD i.toNat []) 1) (runN lim (l.take i.toNat)) := by
  have e : (i + 1).toNat = i.toNat + 1 := by omega
  have hi : i.toNat < l.length := by omega
  unfold runN
  rw [e, List.take_add_one, List.foldl_append, List.getD_eq_getElem?_getD, List.getElem?_eq_getElem hi]
  rfl
theorem go_inv {lim : Int} (hl : limitB lim = true) {d d' : MS} (h : Inv d d') (hw : d.w0.length ≤ 100000 ∧ d.w1.length ≤ 100000) (y : E) : Inv (MeM.stM lim y d) (goN lim (ri y 0) (ri y 3) (ri y 1) d') ∧ New d (MeM.stM lim y d) := by
  unfold MeM.stM goN
  by_cases h1 : ri y 1 = 1
  · rw [if_pos (.inl h1), if_pos h1, h1]
    exact do_inv hl h (.inl rfl) hw.1 _ _
  · by_cases h2 : ri y 1 = 2
    · rw [if_pos (.inr h2), if_neg h1, if_pos h2, h2]
      exact do_inv hl h (.inr rfl) hw.2 _ _
    · rw [if_neg (fun q => q.elim h1 h2), if_neg h1, if_neg h2]
      exact ⟨h, new_self d⟩
end Go.Proofs.Ytgemoemkgcmcgaa.MeT
