/-
  What is put, what falls and what is raised again in an air, in theory. No condition.
-/
import Derived.Test.YtphbfoafgfnmmaaSkJ
namespace Go.Proofs.Ytphbfoafgfnmmaa.SkI
open Go Go.Proofs.Ytphbfoafgfnmmaa.Ry Go.Proofs.Ytphbfoafgfnmmaa.SkR Go.Proofs.Ytphbfoafgfnmmaa.SkT Go.Proofs.Ytphbfoafgfnmmaa.SkO Go.Proofs.Ytphbfoafgfnmmaa.SkC Go.Proofs.Ytphbfoafgfnmmaa.SkD Go.Proofs.Ytphbfoafgfnmmaa.SkP Go.Proofs.Ytphbfoafgfnmmaa.SkS Go.Proofs.Ytphbfoafgfnmmaa.SkQ Go.Proofs.Ytphbfoafgfnmmaa.SkN Go.Proofs.Ytphbfoafgfnmmaa.SkY Go.Proofs.Ytphbfoafgfnmmaa.SkA Go.Proofs.Ytphbfoafgfnmmaa.SkU Go.Proofs.Ytphbfoafgfnmmaa.SkV Go.Proofs.Ytphbfoafgfnmmaa.SkW Go.Proofs.Ytphbfoafgfnmmaa.SkH Go.Proofs.Ytphbfoafgfnmmaa.SkM Go.Proofs.Ytphbfoafgfnmmaa.SkJ Go.Proofs.Ytphbfoafgfnmmaa.SkL
open Go.Proofs.Ytphbfoafgfnmmaa.SkX (offF offB lkU lkF sxI syI)
open Go.Proofs.Ytphbfoafgfnmmaa.EgR (trE prE sameE may1 mayE ofE EE)
open Go.Proofs.Ytphbfoafgfnmmaa.SkB (raU poE po_in)

theorem isU_X {z : E} (h : may1 z = true) (a b : Int) : isU a b z = isX a b z := by
  have h1 := pr_may h (x := ri z 1) (y := ri z 0)
  unfold isU isX loI hiI
  apply decide_eq_decide.2
  have h2 : ¬ ri z 1 ≤ ri z 0 := fun g => h1 g rfl
  split <;> constructor <;> omega
theorem up_ref : ∀ {u : List E} (_ : ∀ z ∈ u, may1 z = true) (a b : Int), (upB u a b = true → upN u a b < u.length ∧ upW u a b = ri (u.getD (upN u a b) []) 2) ∧ (upB u a b = false → upN u a b = u.length ∧ upW u a b = 0)
  | [], _, a, b => ⟨fun h => (by cases h), fun _ => ⟨rfl, rfl⟩⟩
  | z :: u, hu, a, b => by
    have ih := up_ref (u := u) (fun y hy => hu y (List.mem_cons_of_mem _ hy)) a b
    have e := isU_X (hu z (List.mem_cons_self)) a b
    unfold upB upW upN at ih ⊢
    rw [List.any_cons, List.find?_cons, List.findIdx_cons, ← e]
    cases hz : isU a b z with
    | true => exact ⟨fun _ => ⟨Nat.succ_pos _, rfl⟩, fun h => by simp at h⟩
    | false =>
      simp only [Bool.false_or, cond_false, List.length_cons]
      refine ⟨fun h => ?_, fun h => ?_⟩
      · obtain ⟨i1, i2⟩ := ih.1 h
        exact ⟨by omega, by rw [i2]; rfl⟩
      · obtain ⟨i1, i2⟩ := ih.2 h
        exact ⟨by omega, i2⟩
theorem up_says {u : List E} (hu : ∀ z ∈ u, may1 z = true) (a b : Int) : (upB u a b = true ↔ 0 ≤ upX u a b) ∧ (upB u a b = true → upW u a b = ri (u.getD (upX u a b).toNat []) 2) ∧ (upB u a b = false → upW u a b = 0) := by
  obtain ⟨h1, h2⟩ := up_ref hu a b
  refine ⟨?_, fun h => ?_, fun h => (h2 h).2⟩
  · cases h : upB u a b with
    | true =>
      have := (h1 h).1
      unfold upX
      rw [if_pos this]
      exact ⟨fun _ => by omega, fun _ => rfl⟩
    | false =>
      have := (h2 h).1
      unfold upX
      rw [if_neg (by omega)]
      exact ⟨fun h => (by cases h), fun h => by omega⟩
  · obtain ⟨i1, i2⟩ := h1 h
    unfold upX
    rw [if_pos i1, i2]
    rfl
theorem upB_up {u : List E} (hu : ∀ z ∈ u, may1 z = true) (a b : Int) : upB u a b = true ↔ up u a b := (up_says hu a b).1.trans (upX_iff u a b)
theorem pw_eq {u : List E} (h : u.Pairwise lx) {y z : E} (hy : y ∈ u) (hz : z ∈ u) (e : prE y = prE z) : y = z := by
  induction u with
  | nil => cases hy
  | cons x u ih =>
    rw [List.pairwise_cons] at h
    have no : ∀ w ∈ u, prE x ≠ prE w := fun w hw g => by
      have := h.1 w hw
      unfold lx at this
      unfold prE at g
      simp only [Prod.mk.injEq] at g
      omega
    rcases List.mem_cons.1 hy with rfl | hy2
    · rcases List.mem_cons.1 hz with rfl | hz2
      · rfl
      · exact absurd e (no z hz2)
    · rcases List.mem_cons.1 hz with rfl | hz2
      · exact absurd e.symm (no y hy2)
      · exact ih h.2 hy2 hz2
theorem up_one {u : List E} (hP : P u) {a b w : Int} {z : E} (hz : z ∈ u) (hp : prE z = (mnI a b, mxI a b)) (hw : ri z 2 = w) : upB u a b = true ∧ upW u a b = w := by
  have hlo : loI a b = mnI a b ∧ hiI a b = mxI a b := by
    unfold loI hiI mnI mxI
    constructor <;> (split <;> (try split) <;> omega)
  have hi : isU a b z = true := by
    unfold prE at hp
    simp only [Prod.mk.injEq] at hp
    exact decide_eq_true (by rw [hlo.1, hlo.2]; exact hp)
  have hB : upB u a b = true := List.any_eq_true.2 ⟨z, hz, hi⟩
  refine ⟨hB, ?_⟩
  unfold upW
  cases hf : u.find? (isU a b) with
  | none =>
    have := List.find?_eq_none.1 hf z hz
    exact absurd hi this
  | some y =>
    have h1 := List.find?_some hf
    have h2 := List.mem_of_find?_eq_some hf
    have h3 := of_decide_eq_true (show decide _ = true from h1)
    rw [hlo.1, hlo.2] at h3
    have : y = z := pw_eq hP.2 h2 hz (by rw [hp]; unfold prE; rw [h3.1, h3.2])
    rw [this]
    exact hw
theorem up_flip (u : List E) (a b : Int) : upB u b a = upB u a b ∧ upW u b a = upW u a b := by
  have e : isU b a = isU a b := by
    funext z
    unfold isU loI hiI
    apply decide_eq_decide.2
    split <;> split <;> constructor <;> omega
  unfold upB upW
  rw [e]
  exact ⟨rfl, rfl⟩
/-- What is put. -/
theorem no_put {f u : List E} (h : mayA f u = false) (a b : Int) (l : List Int) (x : Bool) : puF f u a b l x = [] ∧ puU f u = [] := by
  have e := no_may h
  unfold puF puU
  rw [e]
  exact ⟨rfl, rfl⟩
theorem ys_put {f u : List E} (h : mayA f u = true) (a b : Int) (l : List Int) (x : Bool) : sameA (puF f u a b l x) (puU f u) (putX f u a b l x) u = true ∧ puU f u = u := by
  have hV := (may_V f u).1 h
  have hch := ys_may h
  unfold puF puU
  rw [if_pos hch, if_pos hch]
  refine ⟨?_, rfl⟩
  unfold sameA sameE sameFl
  rw [Bool.and_eq_true]
  refine ⟨decide_eq_true rfl, decide_eq_true ?_⟩
  unfold putF putX
  by_cases hu : up u a b
  · rw [(car_iff hV.p.1 a b).2 hu, Bool.and_true, cp_len]
    by_cases hl : f.length < 16384
    · rw [if_pos (decide_eq_true hl), if_pos ⟨(upX_iff u a b).2 hu, hl⟩, List.map_append, List.map_append, fT_cp]
    · rw [if_neg (by simp [hl]), if_neg (fun g => hl g.2), fT_cp]
  · have hc : carF (tabF u) a b = false := by
      cases hc : carF (tabF u) a b with
      | false => rfl
      | true => exact absurd ((car_iff hV.p.1 a b).1 hc) hu
    rw [hc, Bool.and_false, if_neg (by decide), if_neg (fun g => hu ((upX_iff u a b).1 g.1)), fT_cp]
theorem pu_len (f u : List E) (a b : Int) (l : List Int) (x : Bool) : (puF f u a b l x).length ≤ f.length + 1 ∧ (puU f u).length ≤ u.length ∧ (putX f u a b l x).length ≤ f.length + 1 := by
  refine ⟨?_, ?_, ?_⟩
  · unfold puF putF
    split
    · split
      · rw [List.length_append, cp_len]
        exact Nat.le_refl _
      · rw [cp_len]
        omega
    · exact Nat.zero_le _
  · unfold puU
    split
    · exact Nat.le_refl _
    · exact Nat.zero_le _
  · unfold putX
    split
    · rw [List.length_append]
      exact Nat.le_refl _
    · omega
/-- What falls. -/
theorem on_in (f : List E) (a b : Int) : 0 ≤ onN f a b ∧ onN f a b ≤ f.length := by
  unfold onN
  have := List.countP_le_length (p := isO a b) (l := f)
  omega
theorem sm_add {f : List E} (h : f.length ≤ 150) (a b : Int) : stdBin .add .i64 (onN f a b) (onN f b a) = onN f a b + onN f b a ∧ stdBin .sub .i64 (f.length : Int) (onN f a b + onN f b a) = f.length - (onN f a b + onN f b a) := by
  have h1 := on_in f a b
  have h2 := on_in f b a
  exact ⟨by rw [b_add, wr _ (by omega) (by omega)], by rw [b_sub, wr _ (by omega) (by omega)]⟩
theorem off_count (a b : Int) : ∀ {f : List E}, (∀ y ∈ f, ¬ ri y 0 = ri y 1) → ((offF f (mnI a b) (mxI a b)).length : Int) = f.length - (onN f a b + onN f b a) ∧ onN (offF f (mnI a b) (mxI a b)) a b = 0
  | [], _ => ⟨rfl, rfl⟩
  | y :: f, h => by
    obtain ⟨i1, i2⟩ := off_count a b (f := f) (fun z hz => h z (List.mem_cons_of_mem _ hz))
    have hy := h y (List.mem_cons_self)
    have hoff : offB (mnI a b) (mxI a b) y = !(isO a b y || isO b a y) := by
      unfold offB isO mnI mxI
      rw [← Bool.decide_or]
      congr 1
      apply decide_eq_decide.2
      split <;> split <;> constructor <;> omega
    have hx : ¬ (isO a b y = true ∧ isO b a y = true) := by
      unfold isO
      rw [decide_eq_true_eq, decide_eq_true_eq]
      omega
    have hn : isO a b (nrm y) = isO a b y := rfl
    unfold offF onN at i1 i2 ⊢
    rw [List.filter_cons, hoff, List.countP_cons, List.countP_cons, List.length_cons]
    cases h1 : isO a b y with
    | true =>
      cases h2 : isO b a y with
      | true => exact absurd ⟨h1, h2⟩ hx
      | false =>
        simp only [Bool.true_or, Bool.not_true, if_neg Bool.false_ne_true, if_true]
        exact ⟨by omega, i2⟩
    | false =>
      cases h2 : isO b a y with
      | true =>
        simp only [Bool.or_true, Bool.not_true, if_neg Bool.false_ne_true, if_true]
        exact ⟨by omega, i2⟩
      | false =>
        simp only [Bool.or_self, Bool.not_false, if_neg Bool.false_ne_true, if_true, List.map_cons, List.length_cons]
        refine ⟨by omega, ?_⟩
        rw [List.countP_cons, hn, h1]
        simpa using i2
theorem on_cp (f : List E) (a b : Int) : onN (cpF f) a b = onN f a b := by
  unfold onN cpF
  rw [List.countP_map]
  rfl
theorem sm_of {f u f' u' : List E} (h1 : f.map fT = f'.map fT) (h2 : u.map trE = u'.map trE) : sameA f u f' u' = true := by
  unfold sameA sameE sameFl
  rw [Bool.and_eq_true]
  exact ⟨decide_eq_true h2, decide_eq_true h1⟩
theorem off_all {f : List E} {x y : Int} (h : ∀ z ∈ f, offB x y z = true) : (offF f x y).map fT = f.map fT := by
  unfold offF
  rw [List.filter_eq_self.2 h]
  exact fT_cp f
theorem tot_cp (f : List E) : totF (cpF f) = totF f := by
  unfold totF cpF
  rw [List.map_map]
  rfl
theorem tot_filter (p : E → Bool) : ∀ f : List E, totF (f.filter p) ≤ totF f
  | [] => Nat.le_refl _
  | y :: f => by
    have ih := tot_filter p f
    unfold totF at ih ⊢
    rw [List.filter_cons]
    split <;> simp only [List.map_cons, List.sum_cons] <;> omega
theorem tot_off (f : List E) (x y : Int) : totF (offF f x y) ≤ totF f := by
  have : totF (offF f x y) = totF (f.filter (offB x y)) := tot_cp _
  rw [this]
  exact tot_filter _ _
/-- A link falls. -/
theorem fall {f u : List E} (h : mayA f u = true) (a b : Int) : adG f u 9 a b 0 = ⟨0, 0, [], false, false⟩ ∧ (upB u a b = false → sameA (adF f u 9 a b 0 0) (adU f u 9 a b 0) f u = true) ∧ upB (adU f u 9 a b 0) a b = false ∧ ((adF f u 9 a b 0 0).length : Int) = f.length - (onN f a b + onN f b a) ∧ onN (adF f u 9 a b 0 0) a b = 0 ∧ mayA (adF f u 9 a b 0 0) (adU f u 9 a b 0) = true ∧ (adU f u 9 a b 0).length ≤ u.length ∧ totF (adF f u 9 a b 0 0) ≤ totF f := by
  have hV := (may_V f u).1 h
  obtain ⟨h1, h2, h3, h4⟩ := act_ok hV 9 a b 0 0
  obtain ⟨l1, l2, l3, l4, l5, l6⟩ := lower_ok (f := f) hV.p hV.n hV.c a b 0
  have hch := ys_may h
  have eF : adF f u 9 a b 0 0 = offF f (mnI a b) (mxI a b) := by
    rw [h1]
    have e3 : rdF f u 9 a b 0 0 = offF f (mnI a b) (mxI a b) := by
      show lkF f 9 a b = _
      unfold lkF
      rw [if_pos rfl, sx_mn, sy_mx]
    rw [e3]
    unfold offF
    exact cp_cp _
  have eU : adU f u 9 a b 0 = lwU u a b := by
    unfold adU
    rw [if_pos hch]
    rfl
  have hne : ∀ y ∈ f, ¬ ri y 0 = ri y 1 := fun y hy => (up_nod hV.p.1 (hV.c y hy)).2.2
  obtain ⟨c1, c2⟩ := off_count a b hne
  rw [eF, eU] at h4 ⊢
  refine ⟨?_, fun hb => ?_, ?_, c1, c2, (may_V _ _).2 h4, ?_, tot_off _ _ _⟩
  · rw [h3]
    unfold rdG
    rw [if_pos (.inr (by decide))]
  · have hnu : ¬ up u a b := fun g => by
      rw [(upB_up hV.p.1 a b).2 g] at hb
      cases hb
    refine sm_of (off_all fun z hz => ?_) (by rw [l6 hnu])
    unfold offB
    rw [Bool.not_eq_true', decide_eq_false_iff_not]
    intro g
    have hz2 := hV.c z hz
    have : up u a b := by
      have hcs : (ri z 0 = a ∧ ri z 1 = b) ∨ (ri z 0 = b ∧ ri z 1 = a) := by
        unfold mnI mxI at g
        split at g <;> split at g <;> omega
      rcases hcs with ⟨g1, g2⟩ | ⟨g1, g2⟩
      · rw [g1, g2] at hz2
        exact hz2
      · rw [g1, g2] at hz2
        exact up_sym.1 hz2
    exact hnu this
  · cases hb : upB (lwU u a b) a b with
    | false => rfl
    | true =>
      have := (l4 a b).1 ((upB_up l2.1 a b).1 hb)
      exact absurd (.inl ⟨rfl, rfl⟩) this.2
  · unfold lwU
    split
    · rw [List.length_append, List.length_take, List.length_drop]
      have hz := po_in u (mnI a b) (mxI a b)
      omega
    · exact Nat.le_refl _
theorem of_ok {a b : Int} (h : ¬ a = b ∧ 1 ≤ a ∧ 1 ≤ b ∧ a ≤ 64 ∧ b ≤ 64) : (ofE a b 3).e = 0 := by
  have hm : mayE (if a < b then a else b) (if a < b then b else a) 3 = true := decide_eq_true (by split <;> omega)
  show (if mayE (if a < b then a else b) (if a < b then b else a) 3 = true then (⟨if a < b then a else b, if a < b then b else a, 3, 0⟩ : EE) else ⟨0, 0, 0, 1⟩).e = 0
  rw [if_pos hm]
/-- A link is raised. -/
theorem rise {f u : List E} (h : mayA f u = true) (hu : u.length < 512) (a b : Int) : onN (adF f u 8 a b 0 3) a b = onN f a b ∧ (adF f u 8 a b 0 3).length = f.length ∧ chA f u = 0 ∧ (adU f u 8 a b 3).length ≤ 512 ∧ (a = b ∨ a < 1 ∨ b < 1 ∨ a > 64 ∨ b > 64 ∨ upB (adU f u 8 a b 3) b a = true ∧ upW (adU f u 8 a b 3) b a = 3) := by
  have hV := (may_V f u).1 h
  obtain ⟨h1, _, _, h4⟩ := act_ok hV 8 a b 0 3
  obtain ⟨l1, l2, l3, l4, l5, l6⟩ := raise_ok hV.p hV.n a b 3
  have hch := ys_may h
  have eF : adF f u 8 a b 0 3 = cpF f := h1
  have eU : adU f u 8 a b 3 = raU u a b 3 := by
    unfold adU
    rw [if_pos hch]
    rfl
  refine ⟨by rw [eF, on_cp], by rw [eF, cp_len], hch, h4.n, ?_⟩
  rw [eU, (up_flip _ a b).1, (up_flip _ a b).2]
  by_cases g : a = b ∨ a < 1 ∨ b < 1 ∨ a > 64 ∨ b > 64
  · omega
  · obtain ⟨z, z1, z2, z3⟩ := l6 (of_ok (by omega)) (.inl hu)
    have := up_one l2 z1 z2 z3
    exact .inr (.inr (.inr (.inr (.inr this))))
end Go.Proofs.Ytphbfoafgfnmmaa.SkI
