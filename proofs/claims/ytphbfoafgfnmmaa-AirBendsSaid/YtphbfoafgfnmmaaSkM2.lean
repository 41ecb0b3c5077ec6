/-
  Airs in which every flight is a frame's bytes, or these bent once, in theory. No condition.
-/
import Derived.Test.YtphbfoafgfnmmaaSkA
import Derived.Test.YtphbfoafgfnmmaaSkY
import Derived.Test.YtphbfoafgfnmmaaSkH
import Derived.Test.YtphbfoafgfnmmaaRyOz
import Derived.Test.YtphbfoafgfnmmaaFrM
namespace Go.Proofs.Ytphbfoafgfnmmaa.SkJ
open Go Go.Proofs.Ytphbfoafgfnmmaa.Ry Go.Proofs.Ytphbfoafgfnmmaa.SkR Go.Proofs.Ytphbfoafgfnmmaa.SkT Go.Proofs.Ytphbfoafgfnmmaa.SkO Go.Proofs.Ytphbfoafgfnmmaa.SkC Go.Proofs.Ytphbfoafgfnmmaa.SkD Go.Proofs.Ytphbfoafgfnmmaa.SkP Go.Proofs.Ytphbfoafgfnmmaa.SkS Go.Proofs.Ytphbfoafgfnmmaa.SkQ Go.Proofs.Ytphbfoafgfnmmaa.SkN Go.Proofs.Ytphbfoafgfnmmaa.SkY Go.Proofs.Ytphbfoafgfnmmaa.SkA Go.Proofs.Ytphbfoafgfnmmaa.SkU Go.Proofs.Ytphbfoafgfnmmaa.SkV Go.Proofs.Ytphbfoafgfnmmaa.SkW Go.Proofs.Ytphbfoafgfnmmaa.SkH Go.Proofs.Ytphbfoafgfnmmaa.SkM

open Go.Proofs.Ytphbfoafgfnmmaa.EgR (trE sameE)
theorem no_may {f u : List E} (h : mayA f u = false) : chA f u = 1 := by
  rcases ch_01 f u with g | g
  · rw [(may_V f u).2 ((ch_V f u).1 g)] at h
    cases h
  · exact g
theorem ys_may {f u : List E} (h : mayA f u = true) : chA f u = 0 := (ch_V f u).2 ((may_V f u).1 h)
theorem no_do {f u : List E} (h : mayA f u = false) (k a b n w : Int) : adF f u k a b n w = [] ∧ adU f u k a b w = [] ∧ adG f u k a b n = ⟨0, 0, [], false, false⟩ := by
  have e := no_may h
  unfold adF adU adG
  rw [e]
  exact ⟨rfl, rfl, rfl⟩
theorem fT_nrm (y : E) : fT (nrm y) = fT y := rfl
theorem fT_cp (f : List E) : (cpF f).map fT = f.map fT := by
  unfold cpF
  rw [List.map_map]
  rfl
theorem fl_self (a b : Int) (l : List Int) (x : Bool) : flB a b l x a b l x = true := decide_eq_true ⟨rfl, rfl, rfl, rfl⟩
theorem sm_nil : sameA [] [] [] [] = true := by decide +kernel
theorem ys_do {f u : List E} (h : mayA f u = true) (k a b n w : Int) : adG f u k a b n = rdG f k n ∧ sameA (adF f u k a b n w) (adU f u k a b w) (rdF f u k a b n w) (rdU u k a b w) = true ∧ mayA (adF f u k a b n w) (adU f u k a b w) = true ∧
    (adF f u k a b n w).length ≤ 16384 ∧ (adU f u k a b w).length ≤ 512 ∧ (rdF f u k a b n w).length ≤ 16384 ∧ (rdU u k a b w).length ≤ 512 := by
  obtain ⟨h1, h2, h3, h4⟩ := act_ok ((may_V f u).1 h) k a b n w
  have e1 : (rdF f u k a b n w).length = (adF f u k a b n w).length := by rw [h1, cp_len]
  have e2 : (rdU u k a b w).length = (adU f u k a b w).length := by
    have := congrArg List.length h2
    rw [List.length_map, List.length_map] at this
    exact this.symm
  refine ⟨h3, ?_, (may_V _ _).2 h4, h4.m, h4.n, by rw [e1]; exact h4.m, by rw [e2]; exact h4.n⟩
  unfold sameA sameE sameFl
  rw [Bool.and_eq_true]
  exact ⟨decide_eq_true h2, decide_eq_true (by rw [h1, fT_cp])⟩
theorem li_sz {f u : List E} (h : liB f u = true) : f.length ≤ 150 ∧ u.length ≤ 600 ∧ totF f ≤ 9000 := by
  have := of_decide_eq_true (show decide _ = true from h)
  omega
theorem li_ad {f u : List E} (h : liB f u = true) : adOk f u = true := by
  have := li_sz h
  exact decide_eq_true (by omega)
theorem lg_of {x : E} (h : wfZ (.recs (.int .i64 (.int .i64 (.ints .u8 (.bool .nil)))) (.recs (.int .i64 (.int .i64 (.int .i64 .nil))) .nil)) x 0) : lgOk (rr x 0) (rr x 1) = true := by
  obtain ⟨h1, h2, _, h3, _⟩ := h
  refine decide_eq_true ⟨h2, h3, fun y hy => ?_⟩
  exact (h1 y hy).2.2.2.1
end Go.Proofs.Ytphbfoafgfnmmaa.SkJ
namespace Go.Proofs.Ytphbfoafgfnmmaa.SkI
open Go Go.Proofs.Ytphbfoafgfnmmaa.Ry Go.Proofs.Ytphbfoafgfnmmaa.SkR Go.Proofs.Ytphbfoafgfnmmaa.SkT Go.Proofs.Ytphbfoafgfnmmaa.SkO Go.Proofs.Ytphbfoafgfnmmaa.SkC Go.Proofs.Ytphbfoafgfnmmaa.SkD Go.Proofs.Ytphbfoafgfnmmaa.SkP Go.Proofs.Ytphbfoafgfnmmaa.SkS Go.Proofs.Ytphbfoafgfnmmaa.SkQ Go.Proofs.Ytphbfoafgfnmmaa.SkN Go.Proofs.Ytphbfoafgfnmmaa.SkY Go.Proofs.Ytphbfoafgfnmmaa.SkA Go.Proofs.Ytphbfoafgfnmmaa.SkU Go.Proofs.Ytphbfoafgfnmmaa.SkV Go.Proofs.Ytphbfoafgfnmmaa.SkW Go.Proofs.Ytphbfoafgfnmmaa.SkH Go.Proofs.Ytphbfoafgfnmmaa.SkM Go.Proofs.Ytphbfoafgfnmmaa.SkJ Go.Proofs.Ytphbfoafgfnmmaa.SkL
open Go.Proofs.Ytphbfoafgfnmmaa.SkX (offF offB lkU lkF sxI syI)
open Go.Proofs.Ytphbfoafgfnmmaa.EgR (trE prE sameE may1 mayE ofE EE)
open Go.Proofs.Ytphbfoafgfnmmaa.SkB (raU poE po_in)

theorem isU_X {z : E} (h : may1 z = true) (a b : Int) : isU a b z = isX a b z := by
  have h1 := pr_may h (x := ri z 1) (y := ri z 0)
  unfold isU isX loI hiI
  apply decide_eq_decide.2
  have h2 : ¬ ri z 1 ≤ ri z 0 := fun g => h1 g rfl
  split <;> constructor <;> omega
theorem up_ref : ∀ {u : List E} (_ : ∀ z ∈ u, may1 z = true) (a b : Int), (upB u a b = true → upN u a b < u.length ∧ upW u a b = ri (u.getD (upN u a b) []) 2) ∧ (upB u a b = false → upN u a b = u.length ∧ upW u a b = 0)
  | [], _, a, b => ⟨fun h => (by cases h), fun _ => ⟨rfl, rfl⟩⟩
  | z :: u, hu, a, b => by
    have ih := up_ref (u := u) (fun y hy => hu y (List.mem_cons_of_mem _ hy)) a b
    have e := isU_X (hu z (List.mem_cons_self)) a b
    unfold upB upW upN at ih ⊢
    rw [List.any_cons, List.find?_cons, List.findIdx_cons, ← e]
    cases hz : isU a b z with
    | true => exact ⟨fun _ => ⟨Nat.succ_pos _, rfl⟩, fun h => by simp at h⟩
    | false =>
      simp only [Bool.false_or, cond_false, List.length_cons]
      refine ⟨fun h => ?_, fun h => ?_⟩
      · obtain ⟨i1, i2⟩ := ih.1 h
        exact ⟨by omega, by rw [i2]; rfl⟩
      · obtain ⟨i1, i2⟩ := ih.2 h
        exact ⟨by omega, i2⟩
theorem up_says {u : List E} (hu : ∀ z ∈ u, may1 z = true) (a b : Int) : (upB u a b = true ↔ 0 ≤ upX u a b) ∧ (upB u a b = true → upW u a b = ri (u.getD (upX u a b).toNat []) 2) ∧ (upB u a b = false → upW u a b = 0) := by
  obtain ⟨h1, h2⟩ := up_ref hu a b
  refine ⟨?_, fun h => ?_, fun h => (h2 h).2⟩
  · cases h : upB u a b with
    | true =>
      have := (h1 h).1
      unfold upX
      rw [if_pos this]
      exact ⟨fun _ => by omega, fun _ => rfl⟩
    | false =>
      have := (h2 h).1
      unfold upX
      rw [if_neg (by omega)]
      exact ⟨fun h => (by cases h), fun h => by omega⟩
  · obtain ⟨i1, i2⟩ := h1 h
    unfold upX
    rw [if_pos i1, i2]
    rfl
theorem upB_up {u : List E} (hu : ∀ z ∈ u, may1 z = true) (a b : Int) : upB u a b = true ↔ up u a b := (up_says hu a b).1.trans (upX_iff u a b)
theorem pw_eq {u : List E} (h : u.Pairwise lx) {y z : E} (hy : y ∈ u) (hz : z ∈ u) (e : prE y = prE z) : y = z := by
  induction u with
  | nil => cases hy
  | cons x u ih =>
    rw [List.pairwise_cons] at h
    have no : ∀ w ∈ u, prE x ≠ prE w := fun w hw g => by
      have := h.1 w hw
      unfold lx at this
      unfold prE at g
      simp only [Prod.mk.injEq] at g
      omega
    rcases List.mem_cons.1 hy with rfl | hy2
    · rcases List.mem_cons.1 hz with rfl | hz2
      · rfl
      · exact absurd e (no z hz2)
    · rcases List.mem_cons.1 hz with rfl | hz2
      · exact absurd e.symm (no y hy2)
      · exact ih h.2 hy2 hz2
theorem up_one {u : List E} (hP : P u) {a b w : Int} {z : E} (hz : z ∈ u) (hp : prE z = (mnI a b, mxI a b)) (hw : ri z 2 = w) : upB u a b = true ∧ upW u a b = w := by
  have hlo : loI a b = mnI a b ∧ hiI a b = mxI a b := by
    unfold loI hiI mnI mxI
    constructor <;> (split <;> (try split) <;> omega)
  have hi : isU a b z = true := by
    unfold prE at hp
    simp only [Prod.mk.injEq] at hp
    exact decide_eq_true (by rw [hlo.1, hlo.2]; exact hp)
  have hB : upB u a b = true := List.any_eq_true.2 ⟨z, hz, hi⟩
  refine ⟨hB, ?_⟩
  unfold upW
  cases hf : u.find? (isU a b) with
  | none =>
    have := List.find?_eq_none.1 hf z hz
    exact absurd hi this
  | some y =>
    have h1 := List.find?_some hf
    have h2 := List.mem_of_find?_eq_some hf
    have h3 := of_decide_eq_true (show decide _ = true from h1)
    rw [hlo.1, hlo.2] at h3
    have : y = z := pw_eq hP.2 h2 hz (by rw [hp]; unfold prE; rw [h3.1, h3.2])
    rw [this]
    exact hw
theorem up_flip (u : List E) (a b : Int) : upB u b a = upB u a b ∧ upW u b a = upW u a b := by
  have e : isU b a = isU a b := by
    funext z
    unfold isU loI hiI
    apply decide_eq_decide.2
    split <;> split <;> constructor <;> omega
  unfold upB upW
  rw [e]
  exact ⟨rfl, rfl⟩
/-- What is put. -/
theorem no_put {f u : List E} (h : mayA f u = false) (a b : Int) (l : List Int) (x : Bool) : puF f u a b l x = [] ∧ puU f u = [] := by
  have e := no_may h
  unfold puF puU
  rw [e]
  exact ⟨rfl, rfl⟩
theorem ys_put {f u : List E} (h : mayA f u = true) (a b : Int) (l : List Int) (x : Bool) : sameA (puF f u a b l x) (puU f u) (putX f u a b l x) u = true ∧ puU f u = u := by
  have hV := (may_V f u).1 h
  have hch := ys_may h
  unfold puF puU
  rw [if_pos hch, if_pos hch]
  refine ⟨?_, rfl⟩
  unfold sameA sameE sameFl
  rw [Bool.and_eq_true]
  refine ⟨decide_eq_true rfl, decide_eq_true ?_⟩
  unfold putF putX
  by_cases hu : up u a b
  · rw [(car_iff hV.p.1 a b).2 hu, Bool.and_true, cp_len]
    by_cases hl : f.length < 16384
    · rw [if_pos (decide_eq_true hl), if_pos ⟨(upX_iff u a b).2 hu, hl⟩, List.map_append, List.map_append, fT_cp]
    · rw [if_neg (by simp [hl]), if_neg (fun g => hl g.2), fT_cp]
  · have hc : carF (tabF u) a b = false := by
      cases hc : carF (tabF u) a b with
      | false => rfl
      | true => exact absurd ((car_iff hV.p.1 a b).1 hc) hu
    rw [hc, Bool.and_false, if_neg (by decide), if_neg (fun g => hu ((upX_iff u a b).1 g.1)), fT_cp]
theorem pu_len (f u : List E) (a b : Int) (l : List Int) (x : Bool) : (puF f u a b l x).length ≤ f.length + 1 ∧ (puU f u).length ≤ u.length ∧ (putX f u a b l x).length ≤ f.length + 1 := by
  refine ⟨?_, ?_, ?_⟩
  · unfold puF putF
    split
    · split
      · rw [List.length_append, cp_len]
        exact Nat.le_refl _
      · rw [cp_len]
        omega
    · exact Nat.zero_le _
  · unfold puU
    split
    · exact Nat.le_refl _
    · exact Nat.zero_le _
  · unfold putX
    split
    · rw [List.length_append]
      exact Nat.le_refl _
    · omega
/-- What falls. -/
theorem on_in (f : List E) (a b : Int) : 0 ≤ onN f a b ∧ onN f a b ≤ f.length := by
  unfold onN
  have := List.countP_le_length (p := isO a b) (l := f)
  omega
theorem sm_add {f : List E} (h : f.length ≤ 150) (a b : Int) : stdBin .add .i64 (onN f a b) (onN f b a) = onN f a b + onN f b a ∧ stdBin .sub .i64 (f.length : Int) (onN f a b + onN f b a) = f.length - (onN f a b + onN f b a) := by
  have h1 := on_in f a b
  have h2 := on_in f b a
  exact ⟨by rw [b_add, wr _ (by omega) (by omega)], by rw [b_sub, wr _ (by omega) (by omega)]⟩
theorem off_count (a b : Int) : ∀ {f : List E}, (∀ y ∈ f, ¬ ri y 0 = ri y 1) → ((offF f (mnI a b) (mxI a b)).length : Int) = f.length - (onN f a b + onN f b a) ∧ onN (offF f (mnI a b) (mxI a b)) a b = 0
  | [], _ => ⟨rfl, rfl⟩
  | y :: f, h => by
    obtain ⟨i1, i2⟩ := off_count a b (f := f) (fun z hz => h z (List.mem_cons_of_mem _ hz))
    have hy := h y (List.mem_cons_self)
    have hoff : offB (mnI a b) (mxI a b) y = !(isO a b y || isO b a y) := by
      unfold offB isO mnI mxI
      rw [← Bool.decide_or]
      congr 1
      apply decide_eq_decide.2
      split <;> split <;> constructor <;> omega
    have hx : ¬ (isO a b y = true ∧ isO b a y = true) := by
      unfold isO
      rw [decide_eq_true_eq, decide_eq_true_eq]
      omega
    have hn : isO a b (nrm y) = isO a b y := rfl
    unfold offF onN at i1 i2 ⊢
    rw [List.filter_cons, hoff, List.countP_cons, List.countP_cons, List.length_cons]
    cases h1 : isO a b y with
    | true =>
      cases h2 : isO b a y with
      | true => exact absurd ⟨h1, h2⟩ hx
      | false =>
        simp only [Bool.true_or, Bool.not_true, if_neg Bool.false_ne_true, if_true]
        exact ⟨by omega, i2⟩
    | false =>
      cases h2 : isO b a y with
      | true =>
        simp only [Bool.or_true, Bool.not_true, if_neg Bool.false_ne_true, if_true]
        exact ⟨by omega, i2⟩
      | false =>
        simp only [Bool.or_self, Bool.not_false, if_neg Bool.false_ne_true, if_true, List.map_cons, List.length_cons]
        refine ⟨by omega, ?_⟩
        rw [List.countP_cons, hn, h1]
        simpa using i2
theorem on_cp (f : List E) (a b : Int) : onN (cpF f) a b = onN f a b := by
  unfold onN cpF
  rw [List.countP_map]
  rfl
theorem sm_of {f u f' u' : List E} (h1 : f.map fT = f'.map fT) (h2 : u.map trE = u'.map trE) : sameA f u f' u' = true := by
  unfold sameA sameE sameFl
  rw [Bool.and_eq_true]
  exact ⟨decide_eq_true h2, decide_eq_true h1⟩
theorem off_all {f : List E} {x y : Int} (h : ∀ z ∈ f, offB x y z = true) : (offF f x y).map fT = f.map fT := by
  unfold offF
  rw [List.filter_eq_self.2 h]
  exact fT_cp f
theorem tot_cp (f : List E) : totF (cpF f) = totF f := by
  unfold totF cpF
  rw [List.map_map]
  rfl
theorem tot_filter (p : E → Bool) : ∀ f : List E, totF (f.filter p) ≤ totF f
  | [] => Nat.le_refl _
  | y :: f => by
    have ih := tot_filter p f
    unfold totF at ih ⊢
    rw [List.filter_cons]
    split <;> simp only [List.map_cons, List.sum_cons] <;> omega
theorem tot_off (f : List E) (x y : Int) : totF (offF f x y) ≤ totF f := by
  have : totF (offF f x y) = totF (f.filter (offB x y)) := tot_cp _
  rw [this]
  exact tot_filter _ _
/-- A link falls. -/
theorem fall {f u : List E} (h : mayA f u = true) (a b : Int) : adG f u 9 a b 0 = ⟨0, 0, [], false, false⟩ ∧ (upB u a b = false → sameA (adF f u 9 a b 0 0) (adU f u 9 a b 0) f u = true) ∧ upB (adU f u 9 a b 0) a b = false ∧ ((adF f u 9 a b 0 0).length : Int) = f.length - (onN f a b + onN f b a) ∧ onN (adF f u 9 a b 0 0) a b = 0 ∧ mayA (adF f u 9 a b 0 0) (adU f u 9 a b 0) = true ∧ (adU f u 9 a b 0).length ≤ u.length ∧ totF (adF f u 9 a b 0 0) ≤ totF f := by
  have hV := (may_V f u).1 h
  obtain ⟨h1, h2, h3, h4⟩ := act_ok hV 9 a b 0 0
  obtain ⟨l1, l2, l3, l4, l5, l6⟩ := lower_ok (f := f) hV.p hV.n hV.c a b 0
  have hch := ys_may h
  have eF : adF f u 9 a b 0 0 = offF f (mnI a b) (mxI a b) := by
    rw [h1]
    have e3 : rdF f u 9 a b 0 0 = offF f (mnI a b) (mxI a b) := by
      show lkF f 9 a b = _
      unfold lkF
      rw [if_pos rfl, sx_mn, sy_mx]
    rw [e3]
    unfold offF
    exact cp_cp _
  have eU : adU f u 9 a b 0 = lwU u a b := by
    unfold adU
    rw [if_pos hch]
    rfl
  have hne : ∀ y ∈ f, ¬ ri y 0 = ri y 1 := fun y hy => (up_nod hV.p.1 (hV.c y hy)).2.2
  obtain ⟨c1, c2⟩ := off_count a b hne
  rw [eF, eU] at h4 ⊢
  refine ⟨?_, fun hb => ?_, ?_, c1, c2, (may_V _ _).2 h4, ?_, tot_off _ _ _⟩
  · rw [h3]
    unfold rdG
    rw [if_pos (.inr (by decide))]
  · have hnu : ¬ up u a b := fun g => by
      rw [(upB_up hV.p.1 a b).2 g] at hb
      cases hb
    refine sm_of (off_all fun z hz => ?_) (by rw [l6 hnu])
    unfold offB
    rw [Bool.not_eq_true', decide_eq_false_iff_not]
    intro g
    have hz2 := hV.c z hz
    have : up u a b := by
      have hcs : (ri z 0 = a ∧ ri z 1 = b) ∨ (ri z 0 = b ∧ ri z 1 = a) := by
        unfold mnI mxI at g
        split at g <;> split at g <;> omega
      rcases hcs with ⟨g1, g2⟩ | ⟨g1, g2⟩
      · rw [g1, g2] at hz2
        exact hz2
      · rw [g1, g2] at hz2
        exact up_sym.1 hz2
    exact hnu this
  · cases hb : upB (lwU u a b) a b with
    | false => rfl
    | true =>
      have := (l4 a b).1 ((upB_up l2.1 a b).1 hb)
      exact absurd (.inl ⟨rfl, rfl⟩) this.2
  · unfold lwU
    split
    · rw [List.length_append, List.length_take, List.length_drop]
      have hz := po_in u (mnI a b) (mxI a b)
      omega
    · exact Nat.le_refl _
theorem of_ok {a b : Int} (h : ¬ a = b ∧ 1 ≤ a ∧ 1 ≤ b ∧ a ≤ 64 ∧ b ≤ 64) : (ofE a b 3).e = 0 := by
  have hm : mayE (if a < b then a else b) (if a < b then b else a) 3 = true := decide_eq_true (by split <;> omega)
  show (if mayE (if a < b then a else b) (if a < b then b else a) 3 = true then (⟨if a < b then a else b, if a < b then b else a, 3, 0⟩ : EE) else ⟨0, 0, 0, 1⟩).e = 0
  rw [if_pos hm]
/-- A link is raised. -/
theorem rise {f u : List E} (h : mayA f u = true) (hu : u.length < 512) (a b : Int) : onN (adF f u 8 a b 0 3) a b = onN f a b ∧ (adF f u 8 a b 0 3).length = f.length ∧ chA f u = 0 ∧ (adU f u 8 a b 3).length ≤ 512 ∧ (a = b ∨ a < 1 ∨ b < 1 ∨ a > 64 ∨ b > 64 ∨ upB (adU f u 8 a b 3) b a = true ∧ upW (adU f u 8 a b 3) b a = 3) := by
  have hV := (may_V f u).1 h
  obtain ⟨h1, _, _, h4⟩ := act_ok hV 8 a b 0 3
  obtain ⟨l1, l2, l3, l4, l5, l6⟩ := raise_ok hV.p hV.n a b 3
  have hch := ys_may h
  have eF : adF f u 8 a b 0 3 = cpF f := h1
  have eU : adU f u 8 a b 3 = raU u a b 3 := by
    unfold adU
    rw [if_pos hch]
    rfl
  refine ⟨by rw [eF, on_cp], by rw [eF, cp_len], hch, h4.n, ?_⟩
  rw [eU, (up_flip _ a b).1, (up_flip _ a b).2]
  by_cases g : a = b ∨ a < 1 ∨ b < 1 ∨ a > 64 ∨ b > 64
  · omega
  · obtain ⟨z, z1, z2, z3⟩ := l6 (of_ok (by omega)) (.inl hu)
    have := up_one l2 z1 z2 z3
    exact .inr (.inr (.inr (.inr (.inr this))))
end Go.Proofs.Ytphbfoafgfnmmaa.SkI
namespace Go.Proofs.Ytphbfoafgfnmmaa.SkK
open Go Go.Proofs.Ytphbfoafgfnmmaa.Ry Go.Proofs.Ytphbfoafgfnmmaa.SkR Go.Proofs.Ytphbfoafgfnmmaa.SkT Go.Proofs.Ytphbfoafgfnmmaa.SkO Go.Proofs.Ytphbfoafgfnmmaa.SkC Go.Proofs.Ytphbfoafgfnmmaa.SkD Go.Proofs.Ytphbfoafgfnmmaa.SkP Go.Proofs.Ytphbfoafgfnmmaa.SkS Go.Proofs.Ytphbfoafgfnmmaa.SkQ Go.Proofs.Ytphbfoafgfnmmaa.SkN Go.Proofs.Ytphbfoafgfnmmaa.SkY Go.Proofs.Ytphbfoafgfnmmaa.SkA Go.Proofs.Ytphbfoafgfnmmaa.SkU Go.Proofs.Ytphbfoafgfnmmaa.SkV Go.Proofs.Ytphbfoafgfnmmaa.SkW Go.Proofs.Ytphbfoafgfnmmaa.SkH Go.Proofs.Ytphbfoafgfnmmaa.SkM Go.Proofs.Ytphbfoafgfnmmaa.SkJ Go.Proofs.Ytphbfoafgfnmmaa.SkI
open Go.Proofs.Ytphbfoafgfnmmaa.SkX (offF lkF)
open Go.Proofs.Ytphbfoafgfnmmaa.BeK (modI)

/-- Of one kind with one of these. -/
def Kin (f : List E) (y : E) : Prop := ∃ z ∈ f, fT y = fT z ∧ (rl y 2).length = (rl z 2).length
theorem kin_self {f : List E} {y : E} (h : y ∈ f) : Kin f y := ⟨y, h, rfl, rfl⟩
theorem kin_nrm {f : List E} {y : E} (h : y ∈ f) : Kin f (nrm y) := ⟨y, h, rfl, rfl⟩
theorem rd_kin {f : List E} {k : Int} (h6 : ¬ k = 6) (h7 : ¬ k = 7) (u : List E) (a b n w : Int) : (∀ y ∈ rdF f u k a b n w, Kin f y) ∧ (rdF f u k a b n w).length ≤ f.length + 1 := by
  unfold rdF
  have hrl : ∀ i, (rmF f i).length ≤ f.length := fun i => by
    unfold rmF
    rw [List.length_append, List.length_take, List.length_drop]
    by_cases h0 : 0 ≤ i
    · omega
    · have e1 : i.toNat = 0 := by omega
      have e2 : (i + 1).toNat = 0 := by omega
      rw [e1, e2]
      omega
  split
  · unfold lkF
    split
    · constructor
      · intro y hy
        obtain ⟨z, hz, rfl⟩ := List.mem_map.1 hy
        exact kin_nrm (List.mem_filter.1 hz).1
      · unfold offF
        rw [List.length_map]
        have := List.length_filter_le (SkX.offB (SkX.sxI a b) (SkX.syI a b)) f
        omega
    · exact ⟨fun y hy => kin_self hy, by omega⟩
  split
  · exact ⟨fun y hy => kin_self hy, by omega⟩
  rename_i h89 h0
  have hpos : 0 < f.length := by omega
  have hm := at_mem n hpos
  split
  · exact ⟨fun y hy => kin_self (rm_sub _ y hy), by have := hrl (modI n f.length); omega⟩
  split
  · split
    · refine ⟨fun y hy => ?_, by rw [List.length_append, List.length_singleton]; omega⟩
      rcases List.mem_append.1 hy with hy | hy
      · exact kin_self hy
      · rw [List.mem_singleton] at hy
        rw [hy]
        exact kin_nrm hm
    · exact ⟨fun y hy => kin_self hy, by omega⟩
  split
  · refine ⟨fun y hy => ?_, by rw [List.length_append, List.length_singleton]; have := hrl (modI n f.length); omega⟩
    rcases List.mem_append.1 hy with hy | hy
    · exact kin_self (rm_sub _ y hy)
    · rw [List.mem_singleton] at hy
      rw [hy]
      exact kin_nrm hm
  · omega
structure T1 where
  i : Int
  e : Int
  f : List E
  u : List E
def t1Q (l : List E) (y : T1) : Prop := 0 ≤ y.i ∧ y.i ≤ l.length ∧ y.e = 0 ∧ y.f = [] ∧ V [] y.u
def t1M (l : List E) (y : T1) : Nat := l.length - y.i.toNat
theorem V_nil : V [] [] := (ch_V [] []).1 z_ch
theorem t1_zero (l : List E) : t1Q l ⟨0, 0, [], []⟩ := ⟨Int.le_refl 0, Int.natCast_nonneg _, rfl, rfl, V_nil⟩
theorem ad_of {f u : List E} (hV : V f u) (h : totF f ≤ 100000) : adOk f u = true := decide_eq_true ⟨by have := hV.m; omega, by have := hV.n; omega, h⟩
theorem t1_step {l : List E} (hl : l.length ≤ 1000000) {i e : Int} {f u : List E} (hq : t1Q l ⟨i, e, f, u⟩) (h : i < l.length) (a b w : Int) : stdBin .add .i64 i 1 = i + 1 ∧ adOk f u = true ∧ t1Q l ⟨i + 1, chA f u, adF f u 8 a b 0 w, adU f u 8 a b w⟩ ∧ t1M l ⟨i + 1, chA f u, adF f u 8 a b 0 w, adU f u 8 a b w⟩ < t1M l ⟨i, e, f, u⟩ := by
  obtain ⟨h0, h1, h2, h3, h4⟩ := hq
  simp only at h0 h1 h2 h3 h4
  subst h3
  obtain ⟨a1, a2, a3, a4⟩ := act_ok h4 8 a b 0 w
  have e0 : adF [] u 8 a b 0 w = [] := a1
  rw [e0] at a4
  refine ⟨by rw [b_add, wr _ (by omega) (by omega)], ad_of h4 (by decide), ⟨by simp only; omega, by simp only; omega, (ch_V [] u).2 h4, e0, a4⟩, by simp only [t1M]; omega⟩
structure T2 where
  i : Int
  e : Int
  f : List E
  u : List E
  p : List E
/-- Every flight is one that was put. -/
def Put (f u p : List E) (n : Int) : Prop := V f u ∧ (∀ y ∈ f, fT y ∈ p.map fT ∧ (rl y 2).length ≤ 100) ∧ f.length ≤ n ∧ n ≤ 1000
theorem put_tot {f u p : List E} {n : Int} (h : Put f u p n) : totF f ≤ 100000 := by
  obtain ⟨_, h2, h3, h4⟩ := h
  have : ∀ g : List E, (∀ y ∈ g, (rl y 2).length ≤ 100) → totF g ≤ 100 * g.length := by
    intro g
    induction g with
    | nil => exact fun _ => Nat.le_refl _
    | cons y g ih =>
      intro hg
      have i1 := ih fun z hz => hg z (List.mem_cons_of_mem _ hz)
      have i2 := hg y (List.mem_cons_self)
      unfold totF at i1 ⊢
      rw [List.map_cons, List.sum_cons, List.length_cons]
      omega
  have := this f fun y hy => (h2 y hy).2
  omega
def t2Q (os : Nat) (y : T2) : Prop := 0 ≤ y.i ∧ y.i ≤ os ∧ y.e = 0 ∧ Put y.f y.u y.p (2 * y.i) ∧ y.p.length ≤ y.i
def t2M (os : Nat) (y : T2) : Nat := os - y.i.toNat
theorem t2_zero {l : List E} {os : Nat} {i e : Int} {f u : List E} (hq : t1Q l ⟨i, e, f, u⟩) : e = 0 ∧ t2Q os ⟨0, e, f, u, []⟩ := by
  obtain ⟨h0, h1, h2, h3, h4⟩ := hq
  simp only at h0 h1 h2 h3 h4
  subst h3
  exact ⟨h2, Int.le_refl 0, Int.natCast_nonneg _, h2, ⟨h4, fun y hy => (by cases hy), Int.le_refl 0, (show (2 : Int) * 0 ≤ 1000 by decide)⟩, Int.le_refl 0⟩
/-- Behind what may be put. -/
def t2P (os : Nat) (y : T2) : Prop := 0 ≤ y.i ∧ y.i < os ∧ Put y.f y.u y.p (2 * y.i + 1) ∧ y.p.length ≤ y.i + 1
theorem t2_in {os : Nat} (ho : os ≤ 200) {i e : Int} {f u p : List E} (hq : t2Q os ⟨i, e, f, u, p⟩) (h : i < os) : stdBin .add .i64 i 1 = i + 1 ∧ e = 0 ∧ 0 ≤ i ∧ t2P os ⟨i, e, f, u, p⟩ := by
  obtain ⟨h0, h1, h2, ⟨h3, h4, h5, h6⟩, h7⟩ := hq
  simp only at h0 h1 h2 h3 h4 h5 h6 h7
  exact ⟨by rw [b_add, wr _ (by omega) (by omega)], h2, h0, h0, h, ⟨h3, h4, by simp only; omega, by simp only; omega⟩, by simp only; omega⟩
theorem t2_put {os : Nat} (ho : os ≤ 200) {i e : Int} {f u p : List E} (hq : t2Q os ⟨i, e, f, u, p⟩) (h : i < os) {a b : Int} {l : List Int} {x : Bool} (hl : l.length ≤ 100) :
    puOk f u l = true ∧ chA f u = 0 ∧ t2P os ⟨i, chA f u, puF f u a b l x, puU f u, p ++ [[.int a, .int b, .ints l, .bool x]]⟩ := by
  obtain ⟨h0, h1, h2, hp, h7⟩ := hq
  simp only at h0 h1 h2 hp h7
  have ht := put_tot hp
  obtain ⟨h3, h4, h5, h6⟩ := hp
  have hch := (ch_V f u).2 h3
  have hpl := pu_len f u a b l x
  have eF : puF f u a b l x = putF (cpF f) (tabF u) a b l x := by
    unfold puF
    rw [if_pos hch]
  have eU : puU f u = u := by
    unfold puU
    rw [if_pos hch]
  have hm := h3.m
  have hn := h3.n
  refine ⟨decide_eq_true (by omega), hch, h0, h, ⟨?_, fun y hy => ?_, by simp only; omega, by simp only; omega⟩, by simp only [List.length_append, List.length_singleton]; omega⟩
  · simp only
    rw [eU]
    refine ⟨h3.p, h3.n, by omega, fun y hy => ?_⟩
    rw [eF] at hy
    unfold putF at hy
    split at hy
    · rename_i hc
      rcases List.mem_append.1 hy with hy | hy
      · obtain ⟨z, hz, rfl⟩ := List.mem_map.1 hy
        exact h3.c z hz
      · rw [List.mem_singleton] at hy
        subst hy
        rw [Bool.and_eq_true] at hc
        exact (car_iff h3.p.1 a b).1 hc.2
    · obtain ⟨z, hz, rfl⟩ := List.mem_map.1 hy
      exact h3.c z hz
  · simp only at hy ⊢
    rw [List.map_append, List.mem_append]
    rw [eF] at hy
    unfold putF at hy
    have old : ∀ y ∈ cpF f, (fT y ∈ p.map fT ∨ fT y ∈ [[D.int a, .int b, .ints l, .bool x]].map fT) ∧ (rl y 2).length ≤ 100 := fun y hy => by
      obtain ⟨z, hz, rfl⟩ := List.mem_map.1 hy
      exact ⟨.inl (h4 z hz).1, (h4 z hz).2⟩
    split at hy
    · rcases List.mem_append.1 hy with hy | hy
      · exact old y hy
      · rw [List.mem_singleton] at hy
        subst hy
        exact ⟨.inr (List.mem_singleton.2 rfl), hl⟩
    · exact old y hy
theorem t2_skip {os : Nat} (ho : os ≤ 200) {i e : Int} {f u p : List E} (hq : t2P os ⟨i, e, f, u, p⟩) : t2Q os ⟨i + 1, 0, f, u, p⟩ ∧ t2M os ⟨i + 1, 0, f, u, p⟩ < t2M os ⟨i, e, f, u, p⟩ := by
  obtain ⟨h0, h1, ⟨h3, h4, h5, h6⟩, h7⟩ := hq
  simp only at h0 h1 h3 h4 h5 h6 h7
  exact ⟨⟨by simp only; omega, by simp only; omega, rfl, ⟨h3, h4, by simp only; omega, by simp only; omega⟩, by simp only; omega⟩, by simp only [t2M]; omega⟩
theorem t2_do {os : Nat} (_ : os ≤ 200) {i e : Int} {f u p : List E} (hq : t2P os ⟨i, e, f, u, p⟩) {k : Int} (h6 : ¬ k = 6) (h7 : ¬ k = 7) (a b n w : Int) :
    adOk f u = true ∧ chA f u = 0 ∧ t2Q os ⟨i + 1, 0, adF f u k a b n w, adU f u k a b w, p⟩ ∧ ((adG f u k a b n).c = true → ∃ z ∈ p, fT z = ((adG f u k a b n).a, (adG f u k a b n).b, (adG f u k a b n).x, bytI (adG f u k a b n).l)) := by
  have ht := put_tot hq.2.2.1
  obtain ⟨h0, h1, ⟨h3, h4, h5, h6'⟩, h7'⟩ := hq
  simp only at h0 h1 h3 h4 h5 h6' h7'
  obtain ⟨a1, a2, a3, a4⟩ := act_ok h3 k a b n w
  obtain ⟨k1, k2⟩ := rd_kin (f := f) h6 h7 u a b n w
  have e1 : (adF f u k a b n w).length = (rdF f u k a b n w).length := by rw [a1, cp_len]
  refine ⟨ad_of h3 ht, (ch_V f u).2 h3, ⟨by simp only; omega, by simp only; omega, rfl, ⟨a4, fun y hy => ?_, by simp only; omega, by simp only; omega⟩, by simp only; omega⟩, fun hc => ?_⟩
  · simp only at hy ⊢
    rw [a1] at hy
    obtain ⟨z, hz, rfl⟩ := List.mem_map.1 hy
    obtain ⟨z', hz', g1, g2⟩ := k1 z hz
    have := h4 z' hz'
    rw [fT_nrm, g1]
    refine ⟨this.1, ?_⟩
    show (rl z 2).length ≤ 100
    rw [g2]
    exact this.2
  · rw [a3] at hc ⊢
    unfold rdG at hc ⊢
    split
    · rename_i g
      rw [if_pos g] at hc
      cases hc
    · rename_i g
      obtain ⟨z, hz, e⟩ := List.mem_map.1 (h4 _ (at_mem n (by omega))).1
      exact ⟨z, hz, e⟩
structure T3 where
  j : Int
  s : Bool
def anF (p : List E) (g : FF) : Bool := p.any fun z => flB (ri z 0) (ri z 1) (rl z 2) (rb z 3) g.a g.b g.l g.x
def t3Q (p : List E) (g : FF) (y : T3) : Prop := 0 ≤ y.j ∧ y.j ≤ p.length ∧ y.s = (!g.c || anF (p.take y.j.toNat) g)
def t3M (p : List E) (y : T3) : Nat := p.length - y.j.toNat
theorem t3_zero (p : List E) (g : FF) : t3Q p g ⟨0, !g.c⟩ := ⟨Int.le_refl 0, Int.natCast_nonneg _, (Bool.or_false _).symm⟩
theorem t3_step {p : List E} {g : FF} (hp : p.length ≤ 1000) {j : Int} {s : Bool} (hq : t3Q p g ⟨j, s⟩) (h : j < p.length) : stdBin .add .i64 j 1 = j + 1 ∧ (∀ t, t3M p ⟨j + 1, t⟩ < t3M p ⟨j, s⟩) ∧ (s = true → t3Q p g ⟨j + 1, true⟩) ∧ (s = false → t3Q p g ⟨j + 1, flB (ri (p.getD j.toNat []) 0) (ri (p.getD j.toNat []) 1) (rl (p.getD j.toNat []) 2) (rb (p.getD j.toNat []) 3) g.a g.b g.l g.x⟩) := by
  obtain ⟨h0, h1, h2⟩ := hq
  simp only at h0 h1 h2
  have ht := tk_next p j h0 h
  refine ⟨by rw [b_add, wr _ (by omega) (by omega)], fun t => by simp only [t3M]; omega, fun g1 => ⟨by simp only; omega, by simp only; omega, ?_⟩, fun g1 => ⟨by simp only; omega, by simp only; omega, ?_⟩⟩
  · simp only
    rw [ht]
    unfold anF at h2 ⊢
    rw [List.any_append, ← Bool.or_assoc, ← h2, g1, Bool.true_or]
  · simp only
    rw [ht]
    unfold anF at h2 ⊢
    rw [List.any_append, ← Bool.or_assoc, ← h2, g1, Bool.false_or, List.any_cons, List.any_nil, Bool.or_false]
theorem t3_end {p : List E} {g : FF} {j : Int} {s : Bool} (hq : t3Q p g ⟨j, s⟩) (h : ¬ j < p.length) (hg : g.c = true → ∃ z ∈ p, fT z = (g.a, g.b, g.x, bytI g.l)) : s = true := by
  obtain ⟨h0, h1, h2⟩ := hq
  simp only at h0 h1 h2
  have e : j = p.length := by omega
  rw [e, Int.toNat_natCast, List.take_length] at h2
  rw [h2]
  cases hc : g.c with
  | false => rfl
  | true =>
    obtain ⟨z, hz, e2⟩ := hg hc
    rw [Bool.not_true, Bool.false_or]
    refine List.any_eq_true.2 ⟨z, hz, ?_⟩
    unfold fT at e2
    simp only [Prod.mk.injEq] at e2
    exact decide_eq_true ⟨e2.1, e2.2.1, e2.2.2.1, e2.2.2.2⟩
end Go.Proofs.Ytphbfoafgfnmmaa.SkK
namespace Go.Proofs.Ytphbfoafgfnmmaa.SkZ
open Go Go.Proofs.Ytphbfoafgfnmmaa.Ry Go.Proofs.Ytphbfoafgfnmmaa.SkR Go.Proofs.Ytphbfoafgfnmmaa.SkT Go.Proofs.Ytphbfoafgfnmmaa.SkO Go.Proofs.Ytphbfoafgfnmmaa.SkC Go.Proofs.Ytphbfoafgfnmmaa.SkD Go.Proofs.Ytphbfoafgfnmmaa.SkP Go.Proofs.Ytphbfoafgfnmmaa.SkN Go.Proofs.Ytphbfoafgfnmmaa.SkY Go.Proofs.Ytphbfoafgfnmmaa.SkA Go.Proofs.Ytphbfoafgfnmmaa.SkU Go.Proofs.Ytphbfoafgfnmmaa.SkV Go.Proofs.Ytphbfoafgfnmmaa.SkW Go.Proofs.Ytphbfoafgfnmmaa.SkH Go.Proofs.Ytphbfoafgfnmmaa.SkM Go.Proofs.Ytphbfoafgfnmmaa.SkJ Go.Proofs.Ytphbfoafgfnmmaa.SkI Go.Proofs.Ytphbfoafgfnmmaa.FrR Go.Proofs.Ytphbfoafgfnmmaa.FrQ Go.Proofs.Ytphbfoafgfnmmaa.FrS
open Go.Proofs.Ytphbfoafgfnmmaa.SkX (offF lkF)
open Go.Proofs.Ytphbfoafgfnmmaa.BeK (modI cutI brI)
open Go.Proofs.Ytphbfoafgfnmmaa.SkK (T1 t1Q V_nil ad_of)
open Go.Proofs.Ytphbfoafgfnmmaa.OctR (byB)

def eF (k s q a : Int) (p : List Int) : List Int := CrcR.sealI (bodyF k s q a p)
theorem e_is {k s q a : Int} {p : List Int} (h : mayF k s q a p = true) : eF k s q a p = encF k s q a p := (enc_len h).1.symm
/-- The bytes of a frame that is not long. -/
def Fb (z : List Int) : Prop := ∃ k s q a p, mayF k s q a p = true ∧ (∀ x ∈ p, 0 ≤ x ∧ x ≤ 255) ∧ p.length ≤ 100 ∧ z = eF k s q a p
theorem mod_in (n : Int) (k : Int) (h : 0 < k) : 0 ≤ modI n k ∧ modI n k < k := by
  unfold modI
  rw [if_neg (by omega)]
  exact ⟨Int.emod_nonneg n (by omega), Int.emod_lt_of_pos n h⟩
theorem err_no {l : List Int} (h : CrcR.errI l = 6) : ¬ (decF l).e = 0 := by
  unfold decF
  split
  · exact fun q => absurd q (by decide)
  split
  · exact fun q => absurd q (by decide)
  rw [h, if_neg (by decide)]
  show ¬ (6 : Int) = 0
  decide
theorem br_by (l : List Int) (a p : Int) (hl : ∀ x ∈ l, 0 ≤ x ∧ x ≤ 255) : ∀ x ∈ brI l a p, 0 ≤ x ∧ x ≤ 255 := CrcW.bu_byte l _ p hl 32
theorem br_len (l : List Int) (a p : Int) : (brI l a p).length = l.length := CrcB.bu_len _ _ _ _
theorem cut_by (l : List Int) (n : Int) (hl : ∀ x ∈ l, 0 ≤ x ∧ x ≤ 255) : ∀ x ∈ cutI l n, 0 ≤ x ∧ x ≤ 255 := fun x hx => hl x (List.mem_of_mem_take hx)
theorem fb_by {z : List Int} (h : Fb z) : (∀ x ∈ z, 0 ≤ x ∧ x ≤ 255) ∧ z.length ≤ 119 := by
  obtain ⟨k, s, q, a, p, h1, h2, h3, rfl⟩ := h
  rw [e_is h1]
  exact ⟨enc_by h2, by have := (enc_len h1).2.1; omega⟩
theorem fb_br {z : List Int} (h : Fb z) (n w : Int) : brI z n w = z ∨ ¬ (decF (brI z n w)).e = 0 := by
  obtain ⟨k, s, q, a, p, h1, h2, _, rfl⟩ := h
  rw [e_is h1]
  have hl := enc_len h1
  have h19 : 0 < 8 * ((encF k s q a p).length : Int) := by omega
  unfold brI
  rcases CrcW.bursts (bodyF k s q a p) (modI n (8 * (encF k s q a p).length)) w (mod_in _ _ h19).1 (of_decide_eq_true (okR_by' (body_ok h1 (decide_eq_true h2)).2.2.2.2.2.2.2)) with g | g
  · rw [← hl.1] at g
    exact .inl g
  · rw [← hl.1] at g
    exact .inr (err_no g)
theorem fb_cut {z : List Int} (h : Fb z) (n : Int) : cutI z n = z ∨ ¬ (decF (cutI z n)).e = 0 := by
  obtain ⟨k, s, q, a, p, h1, h2, _, rfl⟩ := h
  rw [e_is h1]
  have hm := mod_in n ((encF k s q a p).length + 1) (by omega)
  unfold cutI
  by_cases g : (modI n ((encF k s q a p).length + 1)).toNat < (encF k s q a p).length
  · right
    rcases cut h1 h2 _ g with c | c
    · rw [c]; show ¬ (5 : Int) = 0; decide
    · rw [c]; show ¬ (6 : Int) = 0; decide
  · left
    exact List.take_of_length_le (by omega)
/-- Bent once at most. -/
def Bo (z : List Int) (y : E) : Prop := rl y 2 = z ∨ (rb y 3 = true ∧ ((∃ w, rl y 2 = cutI z w) ∨ ∃ b w, rl y 2 = brI z b w))
def Bi (z : List Int) (y : E) : Prop := Fb z ∧ (rb y 3 = false → rl y 2 = z) ∧ Bo z y
theorem bi_nrm {z : List Int} {y : E} (h : Bi z y) : Bi z (nrm y) := h
theorem bi_by {z : List Int} {y : E} (h : Bi z y) : (∀ x ∈ rl y 2, 0 ≤ x ∧ x ≤ 255) ∧ (rl y 2).length ≤ 119 := by
  obtain ⟨h1, _, h2⟩ := h
  have hz := fb_by h1
  rcases h2 with g | ⟨_, ⟨w, g⟩ | ⟨b, w, g⟩⟩
  · rw [g]; exact hz
  · rw [g]
    exact ⟨cut_by _ _ hz.1, by unfold cutI; rw [List.length_take]; omega⟩
  · rw [g]
    exact ⟨br_by _ _ _ hz.1, by rw [br_len]; omega⟩
theorem bi_dec {z : List Int} {y : E} (h : Bi z y) : rl y 2 = z ∨ ¬ (decF (rl y 2)).e = 0 := by
  obtain ⟨h1, _, h2⟩ := h
  rcases h2 with g | ⟨_, ⟨w, g⟩ | ⟨b, w, g⟩⟩
  · exact .inl g
  · rw [g]; exact fb_cut h1 w
  · rw [g]; exact fb_br h1 b w
/-- Each act leaves flights that are as they were, or bent once. -/
theorem rd_bi {f : List E} {P : List Int → Prop} (hf : ∀ y ∈ f, ∃ z, P z ∧ Bi z y) (u : List E) (k a b n w : Int) : (∀ y ∈ SkY.rdF f u k a b n w, ∃ z, P z ∧ Bi z y) ∧ (SkY.rdF f u k a b n w).length ≤ f.length + 1 := by
  unfold SkY.rdF
  have hrl : ∀ i, (rmF f i).length ≤ f.length := fun i => by
    unfold rmF
    rw [List.length_append, List.length_take, List.length_drop]
    by_cases h0 : 0 ≤ i
    · omega
    · have e1 : i.toNat = 0 := by omega
      have e2 : (i + 1).toNat = 0 := by omega
      rw [e1, e2]
      omega
  split
  · unfold lkF
    split
    · constructor
      · intro y hy
        obtain ⟨z, hz, rfl⟩ := List.mem_map.1 hy
        exact hf z (List.mem_filter.1 hz).1
      · unfold offF
        rw [List.length_map]
        have := List.length_filter_le (SkX.offB (SkX.sxI a b) (SkX.syI a b)) f
        omega
    · exact ⟨hf, by omega⟩
  split
  · exact ⟨hf, by omega⟩
  rename_i h89 h0
  have hpos : 0 < f.length := by omega
  have hm := at_mem n hpos
  split
  · exact ⟨fun y hy => hf y (rm_sub _ y hy), by have := hrl (modI n f.length); omega⟩
  split
  · split
    · refine ⟨fun y hy => ?_, by rw [List.length_append, List.length_singleton]; omega⟩
      rcases List.mem_append.1 hy with hy | hy
      · exact hf y hy
      · rw [List.mem_singleton] at hy
        rw [hy]
        obtain ⟨z, g1, g2⟩ := hf _ hm
        exact ⟨z, g1, bi_nrm g2⟩
    · exact ⟨hf, by omega⟩
  split
  · refine ⟨fun y hy => ?_, by rw [List.length_append, List.length_singleton]; have := hrl (modI n f.length); omega⟩
    rcases List.mem_append.1 hy with hy | hy
    · exact hf y (rm_sub _ y hy)
    · rw [List.mem_singleton] at hy
      rw [hy]
      obtain ⟨z, g1, g2⟩ := hf _ hm
      exact ⟨z, g1, bi_nrm g2⟩
  split
  · exact ⟨hf, by omega⟩
  · rename_i hb
    rw [Bool.not_eq_true] at hb
    refine ⟨fun y hy => ?_, by rw [List.length_set]; omega⟩
    rcases List.mem_or_eq_of_mem_set hy with hy | rfl
    · exact hf y hy
    · obtain ⟨z, g1, g2, g3, _⟩ := hf _ hm
      have e := g3 hb
      refine ⟨z, g1, g2, fun q => ?_, .inr ⟨rfl, ?_⟩⟩
      · exact absurd (show true = false from q) (by decide)
      · rw [e]
        by_cases h6 : k = 6
        · left
          refine ⟨w, ?_⟩
          show (if k = 6 then _ else _) = _
          rw [if_pos h6]
          rfl
        · right
          refine ⟨b, IntKind.u32.wrap w, ?_⟩
          show (if k = 6 then _ else _) = _
          rw [if_neg h6]
structure T2 where
  i : Int
  e : Int
  f : List E
  u : List E
  p : List E
def inP (p : List E) (z : List Int) : Prop := ∃ x ∈ p, rs x 0 = z
/-- Every flight is a frame's bytes that was put, bent once at most. -/
def Put (f u p : List E) (n : Int) : Prop := V f u ∧ (∀ y ∈ f, ∃ z, inP p z ∧ Bi z y) ∧ f.length ≤ n ∧ n ≤ 400
theorem put_tot {f u p : List E} {n : Int} (h : Put f u p n) : totF f ≤ 100000 := by
  obtain ⟨_, h2, h3, h4⟩ := h
  have : ∀ g : List E, (∀ y ∈ g, (rl y 2).length ≤ 119) → totF g ≤ 119 * g.length := by
    intro g
    induction g with
    | nil => exact fun _ => Nat.le_refl _
    | cons y g ih =>
      intro hg
      have i1 := ih fun z hz => hg z (List.mem_cons_of_mem _ hz)
      have i2 := hg y (List.mem_cons_self)
      unfold totF at i1 ⊢
      rw [List.map_cons, List.sum_cons, List.length_cons]
      omega
  have := this f fun y hy => by
    obtain ⟨z, _, hz⟩ := h2 y hy
    exact (bi_by hz).2
  omega
def t2Q (os : Nat) (y : T2) : Prop := 0 ≤ y.i ∧ y.i ≤ os ∧ y.e = 0 ∧ Put y.f y.u y.p (2 * y.i) ∧ y.p.length ≤ y.i
def t2M (os : Nat) (y : T2) : Nat := os - y.i.toNat
theorem t2_zero {l : List E} {os : Nat} {i e : Int} {f u : List E} (hq : t1Q l ⟨i, e, f, u⟩) : e = 0 ∧ t2Q os ⟨0, e, f, u, []⟩ := by
  obtain ⟨h0, h1, h2, h3, h4⟩ := hq
  simp only at h0 h1 h2 h3 h4
  subst h3
  exact ⟨h2, Int.le_refl 0, Int.natCast_nonneg _, h2, ⟨h4, fun y hy => (by cases hy), Int.le_refl 0, (show (2 : Int) * 0 ≤ 400 by decide)⟩, Int.le_refl 0⟩
/-- Behind what may be put. -/
def t2P (os : Nat) (y : T2) : Prop := 0 ≤ y.i ∧ y.i < os ∧ Put y.f y.u y.p (2 * y.i + 1) ∧ y.p.length ≤ y.i + 1
theorem t2_in {os : Nat} (ho : os ≤ 150) {i e : Int} {f u p : List E} (hq : t2Q os ⟨i, e, f, u, p⟩) (h : i < os) : stdBin .add .i64 i 1 = i + 1 ∧ e = 0 ∧ 0 ≤ i ∧ t2P os ⟨i, e, f, u, p⟩ := by
  obtain ⟨h0, h1, h2, ⟨h3, h4, h5, h6⟩, h7⟩ := hq
  simp only at h0 h1 h2 h3 h4 h5 h6 h7
  exact ⟨by rw [b_add, wr _ (by omega) (by omega)], h2, h0, h0, h, ⟨h3, h4, by simp only; omega, by simp only; omega⟩, by simp only; omega⟩
theorem byt_of {z : List Int} (h : Fb z) : z.map (fun n => ((UInt8.ofNat n.toNat).toNat : Int)) = z := OctQ.byt_id (fb_by h).1
theorem t2_put {os : Nat} (ho : os ≤ 150) {i e : Int} {f u p : List E} (hq : t2Q os ⟨i, e, f, u, p⟩) (h : i < os) (a b : Int) {k s q c : Int} {pl : List Int} (hm : mayF k s q c pl = true) (hp : ∀ x ∈ pl, 0 ≤ x ∧ x ≤ 255) (hl : pl.length ≤ 100) :
    byB pl = true ∧ puOk f u (CrcR.sealI (bodyF k s q c pl)) = true ∧ chA f u = 0 ∧ t2P os ⟨i, 0, puF f u a b (CrcR.sealI (bodyF k s q c pl)) false, puU f u, p ++ [[.str ((CrcR.sealI (bodyF k s q c pl)).map (fun n => ((UInt8.ofNat n.toNat).toNat : Int)))]]⟩ := by
  have hz : Fb (CrcR.sealI (bodyF k s q c pl)) := ⟨k, s, q, c, pl, hm, hp, hl, rfl⟩
  have hzl := (fb_by hz).2
  have hzb := byt_of hz
  rw [show (CrcR.sealI (bodyF k s q c pl)).map (fun n => ((UInt8.ofNat n.toNat).toNat : Int)) = CrcR.sealI (bodyF k s q c pl) from hzb]
  clear hzb
  generalize CrcR.sealI (bodyF k s q c pl) = z at hz hzl ⊢
  obtain ⟨h0, h1, h2, hp', h7⟩ := hq
  simp only at h0 h1 h2 hp' h7
  have ht := put_tot hp'
  obtain ⟨h3, h4, h5, h6⟩ := hp'
  have hch := (ch_V f u).2 h3
  have hpl := pu_len f u a b z false
  have eF : puF f u a b z false = putF (cpF f) (tabF u) a b z false := by
    unfold puF
    rw [if_pos hch]
  have eU : puU f u = u := by
    unfold puU
    rw [if_pos hch]
  have hm := h3.m
  have hn := h3.n
  refine ⟨decide_eq_true hp, decide_eq_true (by omega), hch, h0, h, ⟨?_, fun y hy => ?_, by simp only; omega, by simp only; omega⟩, by simp only [List.length_append, List.length_singleton]; omega⟩
  · simp only
    rw [eU]
    refine ⟨h3.p, h3.n, by omega, fun y hy => ?_⟩
    rw [eF] at hy
    unfold putF at hy
    split at hy
    · rename_i hc
      rcases List.mem_append.1 hy with hy | hy
      · obtain ⟨z, hz, rfl⟩ := List.mem_map.1 hy
        exact h3.c z hz
      · rw [List.mem_singleton] at hy
        subst hy
        rw [Bool.and_eq_true] at hc
        exact (car_iff h3.p.1 a b).1 hc.2
    · obtain ⟨z, hz, rfl⟩ := List.mem_map.1 hy
      exact h3.c z hz
  · simp only at hy ⊢
    rw [eF] at hy
    unfold putF at hy
    have old : ∀ y ∈ cpF f, ∃ z', inP (p ++ [[.str z]]) z' ∧ Bi z' y := fun y hy => by
      obtain ⟨x, hx, rfl⟩ := List.mem_map.1 hy
      obtain ⟨z', ⟨v, g1, g2⟩, g3⟩ := h4 x hx
      exact ⟨z', ⟨v, List.mem_append.2 (.inl g1), g2⟩, g3⟩
    split at hy
    · rcases List.mem_append.1 hy with hy | hy
      · exact old y hy
      · rw [List.mem_singleton] at hy
        subst hy
        exact ⟨z, ⟨_, List.mem_append.2 (.inr (List.mem_singleton.2 rfl)), rfl⟩, hz, fun _ => rfl, .inl rfl⟩
    · exact old y hy
theorem t2_skip {os : Nat} (ho : os ≤ 150) {i e : Int} {f u p : List E} (hq : t2P os ⟨i, e, f, u, p⟩) : t2M os ⟨i + 1, 0, f, u, p⟩ < t2M os ⟨i, e, f, u, p⟩ := by
  obtain ⟨h0, h1, ⟨h3, h4, h5, h6⟩, h7⟩ := hq
  simp only at h0 h1 h3 h4 h5 h6 h7
  simp only [t2M]
  omega
theorem t2_do {os : Nat} (_ : os ≤ 150) {i e : Int} {f u p : List E} (hq : t2P os ⟨i, e, f, u, p⟩) (k a b n w : Int) :
    adOk f u = true ∧ chA f u = 0 ∧ t2Q os ⟨i + 1, 0, adF f u k a b n w, adU f u k a b w, p⟩ ∧ p.length ≤ 151 ∧ ((adG f u k a b n).c = true → byB (adG f u k a b n).l = true ∧ ((rdecF (adG f u k a b n).l).e = 0 → inP p ((adG f u k a b n).l.map (fun n => ((UInt8.ofNat n.toNat).toNat : Int))))) := by
  have ht := put_tot hq.2.2.1
  obtain ⟨h0, h1, ⟨h3, h4, h5, h6'⟩, h7'⟩ := hq
  simp only at h0 h1 h3 h4 h5 h6' h7'
  obtain ⟨a1, a2, a3, a4⟩ := act_ok h3 k a b n w
  obtain ⟨k1, k2⟩ := rd_bi h4 u k a b n w
  have e1 : (adF f u k a b n w).length = (SkY.rdF f u k a b n w).length := by rw [a1, cp_len]
  refine ⟨ad_of h3 ht, (ch_V f u).2 h3, ⟨by simp only; omega, by simp only; omega, rfl, ⟨a4, fun y hy => ?_, by simp only; omega, by simp only; omega⟩, by simp only; omega⟩, by omega, fun hc => ?_⟩
  · simp only at hy ⊢
    rw [a1] at hy
    obtain ⟨z, hz, rfl⟩ := List.mem_map.1 hy
    exact k1 z hz
  · rw [a3] at hc ⊢
    unfold rdG at hc ⊢
    split
    · rename_i g
      rw [if_pos g] at hc
      cases hc
    · rename_i g
      have hm := at_mem n (show 0 < f.length by omega)
      obtain ⟨z, g1, g2⟩ := h4 _ hm
      have hb := (bi_by g2).1
      refine ⟨decide_eq_true hb, fun hd => ?_⟩
      show inP p ((rl (atF f n) 2).map _)
      rw [OctQ.byt_id hb]
      rcases bi_dec g2 with q | q
      · rw [q]
        exact g1
      · rw [dec_is hb] at hd
        exact absurd hd q
structure T3 where
  j : Int
  s : Bool
def anF (p : List E) (l : List Int) : Bool := p.any fun z => decide (rs z 0 = l)
def t3Q (p : List E) (l : List Int) (y : T3) : Prop := 0 ≤ y.j ∧ y.j ≤ p.length ∧ y.s = anF (p.take y.j.toNat) l
def t3M (p : List E) (y : T3) : Nat := p.length - y.j.toNat
theorem t3_zero (p : List E) (l : List Int) : t3Q p l ⟨0, false⟩ := ⟨Int.le_refl 0, Int.natCast_nonneg _, rfl⟩
theorem t3_step {p : List E} {l : List Int} (hp : p.length ≤ 1000) {j : Int} {s : Bool} (hq : t3Q p l ⟨j, s⟩) (h : j < p.length) : stdBin .add .i64 j 1 = j + 1 ∧ (∀ t, t3M p ⟨j + 1, t⟩ < t3M p ⟨j, s⟩) ∧ (s = true → t3Q p l ⟨j + 1, true⟩) ∧ (s = false → t3Q p l ⟨j + 1, decide (rs (p.getD j.toNat []) 0 = l)⟩) := by
  obtain ⟨h0, h1, h2⟩ := hq
  simp only at h0 h1 h2
  have ht := tk_next p j h0 h
  refine ⟨by rw [b_add, wr _ (by omega) (by omega)], fun t => by simp only [t3M]; omega, fun g1 => ⟨by simp only; omega, by simp only; omega, ?_⟩, fun g1 => ⟨by simp only; omega, by simp only; omega, ?_⟩⟩
  · simp only
    rw [ht]
    unfold anF at h2 ⊢
    rw [List.any_append, ← h2, g1, Bool.true_or]
  · simp only
    rw [ht]
    unfold anF at h2 ⊢
    rw [List.any_append, ← h2, g1, Bool.false_or, List.any_cons, List.any_nil, Bool.or_false]
theorem t3_end {p : List E} {l : List Int} {j : Int} {s : Bool} (hq : t3Q p l ⟨j, s⟩) (h : ¬ j < p.length) (hg : inP p l) : s = true := by
  obtain ⟨h0, h1, h2⟩ := hq
  simp only at h0 h1 h2
  have e : j = p.length := by omega
  rw [e, Int.toNat_natCast, List.take_length] at h2
  rw [h2]
  obtain ⟨x, h3, h4⟩ := hg
  exact List.any_eq_true.2 ⟨x, h3, decide_eq_true h4⟩
end Go.Proofs.Ytphbfoafgfnmmaa.SkZ
