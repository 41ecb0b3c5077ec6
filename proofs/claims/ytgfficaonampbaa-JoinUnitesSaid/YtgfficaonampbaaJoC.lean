/-
  The order in which sets are joined does not matter. No condition.
-/
import Derived.Test.YtgfficaonampbaaJoN
namespace Go.Proofs.Ytgfficaonampbaa.JoC
open Go Go.Proofs.Ytgfficaonampbaa.Ry Go.Proofs.Ytgfficaonampbaa.JoS Go.Proofs.Ytgfficaonampbaa.JoR Go.Proofs.Ytgfficaonampbaa.JoW

/-- Is joined, through any number of joinings. -/
inductive Eqv (R : Int → Int → Prop) : Int → Int → Prop where
  | rel {x y : Int} : R x y → Eqv R x y
  | refl (x : Int) : Eqv R x x
  | symm {x y : Int} : Eqv R x y → Eqv R y x
  | trans {x y z : Int} : Eqv R x y → Eqv R y z → Eqv R x z
theorem Eqv.mono {R S : Int → Int → Prop} (h : ∀ x y, R x y → S x y) {x y : Int} (e : Eqv R x y) : Eqv S x y := by
  induction e with
  | rel r => exact .rel (h _ _ r)
  | refl x => exact .refl x
  | symm _ ih => exact .symm ih
  | trans _ _ i1 i2 => exact .trans i1 i2
def In (W : List Int) (x : Int) : Prop := 1 ≤ x ∧ x < W.length
/-- The sets are the closure of what was joined. -/
structure Cl (W : List Int) (R : Int → Int → Prop) : Prop where
  dom : ∀ x y, R x y → In W x ∧ In W y
  iff : ∀ x y, In W x → In W y → (ix W x = ix W y ↔ Eqv R x y)
theorem uni_symm (W : List Int) (a b : Int) : uniW W a b = uniW W b a := by
  unfold uniW
  by_cases h : lw W a ≠ 0 ∧ lw W b ≠ 0 ∧ lw W a ≠ lw W b
  · have h' : lw W b ≠ 0 ∧ lw W a ≠ 0 ∧ lw W b ≠ lw W a := ⟨h.2.1, h.1, fun e => h.2.2 e.symm⟩
    rw [if_pos h, if_pos h']
    have hne := h.2.2
    by_cases hl : lw W a < lw W b
    · have n : ¬ lw W b < lw W a := by omega
      rw [if_neg n, if_pos hl, if_pos hl, if_neg n]
    · have n : lw W b < lw W a := by omega
      rw [if_pos n, if_neg hl, if_neg hl, if_pos n]
  · have h' : ¬ (lw W b ≠ 0 ∧ lw W a ≠ 0 ∧ lw W b ≠ lw W a) := fun q => h ⟨q.2.1, q.1, fun e => q.2.2 e.symm⟩
    rw [if_neg h, if_neg h']
theorem lw_in {W : List Int} (hw : WOk W) (a : Int) : lw W a ≠ 0 ↔ In W a := by
  unfold lw In
  by_cases h : 1 ≤ a ∧ a < W.length
  · rw [if_pos h]
    have := hw.lo a h.1 h.2
    exact ⟨fun _ => h, fun _ => by omega⟩
  · rw [if_neg h]
    exact ⟨fun q => absurd rfl q, fun q => absurd q h⟩
theorem lw_ix {W : List Int} {a : Int} (h : In W a) : lw W a = ix W a := by
  unfold lw
  exact if_pos h
/-- What a joining makes of a number's least. -/
theorem uni_ix {W : List Int} (hw : WOk W) {a b : Int} (ha : In W a) (hb : In W b) {x : Int} (hx : In W x) :
    ix (uniW W a b) x = if ix W x = ix W a ∨ ix W x = ix W b then (if ix W b < ix W a then ix W b else ix W a) else ix W x := by
  have ea := lw_ix ha
  have eb := lw_ix hb
  have za := (lw_in hw a).2 ha
  have zb := (lw_in hw b).2 hb
  unfold uniW
  rw [ea] at za
  rw [eb] at zb
  rw [ea, eb]
  by_cases hne : ix W a = ix W b
  · have hc : ¬ (ix W a ≠ 0 ∧ ix W b ≠ 0 ∧ ix W a ≠ ix W b) := fun q => q.2.2 hne
    rw [if_neg hc, hne]
    split
    · rename_i h
      split <;> (rcases h with h | h <;> omega)
    · rfl
  · rw [if_pos ⟨za, zb, hne⟩]
    have e : ∀ lo hi : Int, ix (join W lo hi) x = if ix W x = hi then lo else ix W x := fun lo hi => ix_map W _ x (by have := hx.1; omega) hx.2
    rw [e]
    by_cases hl : ix W a < ix W b
    · have n : ¬ ix W b < ix W a := by omega
      rw [if_neg n, if_pos hl]
      by_cases h1 : ix W x = ix W b
      · rw [if_pos h1, if_pos (.inr h1)]
      · rw [if_neg h1]
        by_cases h2 : ix W x = ix W a
        · rw [if_pos (.inl h2), h2]
        · rw [if_neg fun q => q.elim h2 h1]
    · have n : ix W b < ix W a := by omega
      rw [if_pos n, if_neg hl]
      by_cases h1 : ix W x = ix W a
      · rw [if_pos h1, if_pos (.inl h1)]
      · rw [if_neg h1]
        by_cases h2 : ix W x = ix W b
        · rw [if_pos (.inr h2), h2]
        · rw [if_neg fun q => q.elim h1 h2]
theorem cl_step {W : List Int} {R : Int → Int → Prop} (hw : WOk W) (h : Cl W R) (a b : Int) : Cl (uniW W a b) (fun x y => R x y ∨ (In W a ∧ In W b) ∧ x = a ∧ y = b) := by
  have hlen := uni_len W a b
  have hin : ∀ x, In (uniW W a b) x ↔ In W x := fun x => by unfold In; rw [hlen]
  refine ⟨fun x y hr => ?_, fun x y hx hy => ?_⟩
  · rw [hin, hin]
    rcases hr with hr | ⟨hab, rfl, rfl⟩
    · exact h.dom x y hr
    · exact hab
  rw [hin] at hx hy
  by_cases hab : In W a ∧ In W b
  · obtain ⟨ha, hb⟩ := hab
    have key : ix (uniW W a b) x = ix (uniW W a b) y ↔ (ix W x = ix W y ∨ (ix W x = ix W a ∧ ix W y = ix W b) ∨ (ix W x = ix W b ∧ ix W y = ix W a)) := by
      rw [uni_ix hw ha hb hx, uni_ix hw ha hb hy]
      constructor
      · intro q
        split at q <;> split at q <;> (try split at q) <;> omega
      · intro q
        split <;> split <;> (try split) <;> omega
    rw [key]
    have up : ∀ {x y}, Eqv R x y → Eqv (fun x y => R x y ∨ (In W a ∧ In W b) ∧ x = a ∧ y = b) x y := fun e => e.mono fun _ _ r => .inl r
    have hab' : Eqv (fun x y => R x y ∨ (In W a ∧ In W b) ∧ x = a ∧ y = b) a b := .rel (.inr ⟨⟨ha, hb⟩, rfl, rfl⟩)
    constructor
    · rintro (q | ⟨q1, q2⟩ | ⟨q1, q2⟩)
      · exact up ((h.iff x y hx hy).1 q)
      · exact .trans (up ((h.iff x a hx ha).1 q1)) (.trans hab' (.symm (up ((h.iff y b hy hb).1 q2))))
      · exact .trans (up ((h.iff x b hx hb).1 q1)) (.trans (.symm hab') (.symm (up ((h.iff y a hy ha).1 q2))))
    · intro e
      have gen : ∀ {x y}, Eqv (fun x y => R x y ∨ (In W a ∧ In W b) ∧ x = a ∧ y = b) x y → x = y ∨ In W x ∧ In W y ∧ ix (uniW W a b) x = ix (uniW W a b) y := by
        intro x y e
        induction e with
        | rel r =>
          rename_i x y
          rcases r with r | ⟨_, rfl, rfl⟩
          · obtain ⟨d1, d2⟩ := h.dom _ _ r
            right
            refine ⟨d1, d2, ?_⟩
            have q := (h.iff _ _ d1 d2).2 (.rel r)
            rw [uni_ix hw ha hb d1, uni_ix hw ha hb d2, q]
          · right
            refine ⟨ha, hb, ?_⟩
            rw [uni_ix hw ha hb ha, uni_ix hw ha hb hb]
            simp
        | refl x => exact .inl rfl
        | symm _ ih =>
          rcases ih with e | ⟨h1, h2, h3⟩
          · exact .inl e.symm
          · exact .inr ⟨h2, h1, h3.symm⟩
        | trans _ _ i1 i2 =>
          rcases i1 with e1 | ⟨h1, h2, h3⟩
          · rw [e1]
            exact i2
          · rcases i2 with e2 | ⟨k1, k2, k3⟩
            · rw [← e2]
              exact .inr ⟨h1, h2, h3⟩
            · exact .inr ⟨h1, k2, h3.trans k3⟩
      rcases gen e with rfl | ⟨_, _, q⟩
      · exact .inl rfl
      · exact key.1 q
  · have hu : uniW W a b = W := by
      unfold uniW
      refine if_neg fun q => hab ⟨(lw_in hw a).1 q.1, (lw_in hw b).1 q.2.1⟩
    rw [hu, h.iff x y hx hy]
    constructor
    · exact fun e => e.mono fun _ _ r => .inl r
    · refine fun e => e.mono fun _ _ r => ?_
      rcases r with r | ⟨q, _⟩
      · exact r
      · exact absurd q hab
theorem cl_congr {W : List Int} {R S : Int → Int → Prop} (h : Cl W R) (e : ∀ x y, R x y ↔ S x y) : Cl W S := by
  have : R = S := by
    funext x y
    exact propext (e x y)
  rw [← this]
  exact h
theorem cl_new (n : Int) (h : 0 ≤ n) : Cl (iota n) (fun _ _ => False) := by
  have hl := iota_len n
  refine ⟨fun _ _ q => q.elim, fun x y hx hy => ?_⟩
  unfold In at hx hy
  rw [iota_ix n x (by omega) (by omega), iota_ix n y (by omega) (by omega)]
  constructor
  · rintro rfl
    exact .refl x
  · intro e
    induction e with
    | rel r => exact r.elim
    | refl x => rfl
    | symm _ ih => exact (ih hy hx).symm
    | trans a b ia ib =>
      have gen : ∀ {x y}, Eqv (fun _ _ => False) x y → x = y := by
        intro x y e
        induction e with
        | rel r => exact r.elim
        | refl x => rfl
        | symm _ ih => exact ih.symm
        | trans _ _ i1 i2 => exact i1.trans i2
      exact (gen a).trans (gen b)
/-- The sets of one closure are one. -/
theorem cl_same {V W : List Int} {R : Int → Int → Prop} (hV : WOk V) (hW : WOk W) (hl : V.length = W.length) (h1 : Cl V R) (h2 : Cl W R) {x : Int} (hx : In W x) : ix V x = ix W x := by
  have hxv : In V x := by unfold In at *; omega
  have a1 := hV.lo x hxv.1 hxv.2
  have a2 := hV.hi x hxv.1 hxv.2
  have a3 := hV.fix x hxv.1 hxv.2
  have b1 := hW.lo x hx.1 hx.2
  have b2 := hW.hi x hx.1 hx.2
  have b3 := hW.fix x hx.1 hx.2
  have hx2 := hx.2
  have iv : In W (ix V x) := ⟨a1, by omega⟩
  have iw : In W (ix W x) := ⟨b1, by omega⟩
  have iv' : In V (ix V x) := ⟨a1, by omega⟩
  have iw' : In V (ix W x) := ⟨b1, by omega⟩
  have e1 : ix W (ix V x) = ix W x := (h2.iff _ _ iv hx).2 ((h1.iff _ _ iv' hxv).1 a3)
  have e2 : ix V (ix W x) = ix V x := (h1.iff _ _ iw' hxv).2 ((h2.iff _ _ iw hx).1 b3)
  have c1 := hW.hi (ix V x) iv.1 iv.2
  have c2 := hV.hi (ix W x) iw'.1 iw'.2
  omega
theorem same_sets {V W : List Int} (hl : V.length = W.length) (h : ∀ x, In W x → ix V x = ix W x) : sets V = sets W := by
  unfold sets
  rw [hl]
  apply List.countP_congr
  intro i hi
  have := List.mem_range.1 hi
  simp only [decide_eq_true_eq]
  constructor
  · rintro ⟨q1, q2⟩
    rw [h i ⟨q1, by omega⟩] at q2
    exact ⟨q1, q2⟩
  · rintro ⟨q1, q2⟩
    rw [← h i ⟨q1, by omega⟩] at q2
    exact ⟨q1, q2⟩
theorem same_size {V W : List Int} (hl : V.length = W.length) (h : ∀ x, In W x → ix V x = ix W x) (r : Int) : size V r = size W r := by
  unfold size
  rw [hl]
  apply List.countP_congr
  intro i hi
  have := List.mem_range.1 hi
  simp only [decide_eq_true_eq]
  constructor
  · rintro ⟨q1, q2⟩
    rw [h i ⟨q1, by omega⟩] at q2
    exact ⟨q1, q2⟩
  · rintro ⟨q1, q2⟩
    rw [← h i ⟨q1, by omega⟩] at q2
    exact ⟨q1, q2⟩
theorem same_lw {V W : List Int} (hl : V.length = W.length) (h : ∀ x, In W x → ix V x = ix W x) (r : Int) : lw V r = lw W r := by
  unfold lw
  rw [hl]
  by_cases hr : 1 ≤ r ∧ r < W.length
  · rw [if_pos hr, if_pos hr, h r hr]
  · rw [if_neg hr, if_neg hr]
/-- A set's size, as it is asked for. -/
theorem sz_w {W : List Int} {s : Int} {u z : List Int} (hj : JInv W s u z) {v : List Int} (hv : Up v W) (a : Int) : szI v z a = if lw W a = 0 then 0 else (size W (lw W a) : Int) := by
  unfold szI
  rw [(lst_w hv a).1]
  by_cases h : lw W a = 0
  · rw [if_pos h, if_pos h]
  · rw [if_neg h, if_neg h]
    obtain ⟨q1, q2, q3⟩ := lw_root hj.ok h
    exact hj.z _ q1 q2 q3
end Go.Proofs.Ytgfficaonampbaa.JoC
