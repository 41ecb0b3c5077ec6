/-
  The least forest: one edge more, one less; another forest; an edge that is lost. No condition.
-/
import Derived.Test.YtfioaidmgcibaaaSpL
namespace Go.Proofs.Ytfioaidmgcibaaa.SpN
open Go Go.Proofs.Ytfioaidmgcibaaa.Ry Go.Proofs.Ytfioaidmgcibaaa.So Go.Proofs.Ytfioaidmgcibaaa.JoS Go.Proofs.Ytfioaidmgcibaaa.JoR Go.Proofs.Ytfioaidmgcibaaa.JoW Go.Proofs.Ytfioaidmgcibaaa.EgR Go.Proofs.Ytfioaidmgcibaaa.EgL Go.Proofs.Ytfioaidmgcibaaa.SpR Go.Proofs.Ytfioaidmgcibaaa.SpQ Go.Proofs.Ytfioaidmgcibaaa.SpK Go.Proofs.Ytfioaidmgcibaaa.SpT Go.Proofs.Ytfioaidmgcibaaa.SpO Go.Proofs.Ytfioaidmgcibaaa.SpL

theorem all_iff (l : List E) : allE l = 0 ↔ goodT (l.map trE) ∧ l.length ≤ 512 := by
  have h := good_T l
  unfold allE
  split
  · rename_i g
    split
    · constructor
      · intro q
        cases q
      · intro q
        omega
    · exact ⟨fun _ => ⟨h.1 g, by omega⟩, fun _ => rfl⟩
  · rename_i g
    exact ⟨fun q => (by cases q), fun q => absurd (h.2 q.1) g⟩
theorem goodT_sub {k l : List T} (h : k.Sublist l) (g : goodT l) : goodT k := ⟨fun y hy => g.1 y (h.subset hy), g.2.sublist (h.map _)⟩
theorem goodT_nd {l : List T} (g : goodT l) : l.Nodup := (List.pairwise_map.1 g.2).imp fun {x y} k e => k (by rw [e])
abbrev S (l : List E) : List T := (srtE l).map trE
theorem lst_sub {l : List E} (h : allE l = 0) : ((lstB l).map trE).Sublist (S l) := by
  rw [lst_kru h]
  exact grd_sub _ _
theorem lst_mem {l : List E} (h : allE l = 0) {y : T} (hy : y ∈ (lstB l).map trE) : y ∈ l.map trE := (mem_srt l y).1 ((lst_sub h).subset hy)
theorem good_l {l : List E} (h : allE l = 0) : goodT (l.map trE) := ((all_iff l).1 h).1
theorem one_less {l : List T} (h : l.Nodup) (i : Nat) (hi : i < l.length) (y : T) : y ∈ l.take i ++ l.drop (i + 1) ↔ y ∈ l ∧ y ≠ l[i] := by
  have e : l = l.take i ++ l[i] :: l.drop (i + 1) := by rw [← List.drop_eq_getElem_cons hi, List.take_append_drop]
  have h2 := h
  rw [e, List.nodup_append] at h2
  obtain ⟨_, h3, h4⟩ := h2
  have h5 := (List.nodup_cons.1 h3).1
  constructor
  · intro q
    rcases List.mem_append.1 q with q | q
    · exact ⟨List.mem_of_mem_take q, fun w => h4 y q _ (List.mem_cons_self ..) w⟩
    · exact ⟨List.mem_of_mem_drop q, fun w => h5 (w ▸ q)⟩
  · rintro ⟨q, w⟩
    have q2 := e ▸ q
    rw [e] at q
    rcases List.mem_append.1 q with q | q
    · exact List.mem_append_left _ q
    · rcases List.mem_cons.1 q with q | q
      · exact absurd q w
      · exact List.mem_append_right _ q
/-- One edge more. -/
theorem grow_ok {l : List E} {e : E} (h : allE (l ++ [e]) = 0) : allE l = 0 ∧ allE (lstB l ++ [e]) = 0 ∧ sameE (lstB (l ++ [e])) (lstB (lstB l ++ [e])) = true := by
  obtain ⟨h1, h2⟩ := (all_iff _).1 h
  rw [List.length_append, List.length_singleton] at h2
  rw [List.map_append] at h1
  have k1 : allE l = 0 := (all_iff l).2 ⟨goodT_sub (List.sublist_append_left _ _) h1, by omega⟩
  have hl := lst_len l
  have k2 : allE (lstB l ++ [e]) = 0 := (all_iff _).2 ⟨by
    rw [List.map_append]
    refine goodT_sub ((lst_sub k1).append (List.Sublist.refl _)) ?_
    exact (goodT_perm ((srt_tr l).1.append (List.Perm.refl _))).2 h1, by rw [List.length_append, List.length_singleton]; omega⟩
  refine ⟨k1, k2, decide_eq_true ?_⟩
  rw [lst_kru h, lst_kru k2]
  refine kru_grow (inc_srt (all_good k1)) (inc_srt (all_good h)) (inc_srt (all_good k2)) (e := trE e) (fun y => ?_) (fun y => ?_)
  · rw [mem_srt, mem_srt, List.map_append, List.mem_append]
    simp
  · rw [mem_srt, ← lst_kru k1, List.map_append, List.mem_append]
    simp
def hasT (f : List E) (x : T) : Prop := ∃ y ∈ f, trE y = x
theorem has_iff (f : List E) (x : T) : hasT f x ↔ x ∈ f.map trE := by
  unfold hasT
  rw [List.mem_map]
/-- One edge less. -/
theorem drop_ok {l : List E} (h : allE l = 0) (i : Nat) (hi : i < l.length) : allE (l.take i ++ l.drop (i + 1)) = 0 ∧ (¬ hasT (lstB l) (trE l[i]) → sameE (lstB (l.take i ++ l.drop (i + 1))) (lstB l) = true) := by
  have hg := good_l h
  have h2 := ((all_iff l).1 h).2
  have em : (l.take i ++ l.drop (i + 1)).map trE = (l.map trE).take i ++ (l.map trE).drop (i + 1) := by rw [List.map_append, List.map_take, List.map_drop]
  have sb : ((l.map trE).take i ++ (l.map trE).drop (i + 1)).Sublist (l.map trE) := by
    have : (l.map trE).Sublist (l.map trE) := List.Sublist.refl _
    conv => rhs; rw [← List.take_append_drop i (l.map trE)]
    exact (List.Sublist.refl _).append (by rw [← List.drop_drop]; exact List.drop_sublist _ _)
  have k : allE (l.take i ++ l.drop (i + 1)) = 0 := (all_iff _).2 ⟨by rw [em]; exact goodT_sub sb hg, by
    have := sb.length_le
    rw [← em, List.length_map, List.length_map] at this
    omega⟩
  refine ⟨k, fun hn => decide_eq_true ?_⟩
  rw [lst_kru k, lst_kru h]
  refine kru_drop (inc_srt (all_good h)) (inc_srt (all_good k)) (e := trE l[i]) ?_ (fun y => ?_)
  · rw [← lst_kru h, ← has_iff]
    exact hn
  · rw [mem_srt, mem_srt, em, one_less (goodT_nd hg) i (by rw [List.length_map]; exact hi), List.getElem_map]
/-- Another forest of some edges. -/
structure Oth (l o : List E) : Prop where
  f : frs [] (o.map trE)
  m : ∀ y ∈ o, trE y ∈ l.map trE
theorem oth_0 (l : List E) : Oth l [] := ⟨trivial, fun _ h => by cases h⟩
theorem oth_may {l o : List E} (h : allE l = 0) (ho : Oth l o) : ∀ y ∈ o, may1 y = true := by
  intro y hy
  obtain ⟨z, hz, e⟩ := List.mem_map.1 (ho.m y hy)
  have := ((good_iff l).1 (all_good h)).1 z hz
  unfold may1 at *
  unfold trE at e
  simp only [Prod.mk.injEq] at e
  rw [← e.1, ← e.2.1, ← e.2.2]
  exact this
theorem oth_in {l o : List E} (h : allE l = 0) (ho : Oth l o) (hl : o.length ≤ 1000000) : inR o = true := inR_iff.2 ⟨hl, fun y hy => by
  have := may_1 (oth_may h ho y hy)
  omega⟩
theorem frs_snoc : ∀ (l c : List T) (y : T), frs c l → ¬ Cn (l ++ c) y.1 y.2.1 → frs c (l ++ [y])
  | [], _, _, _, h => ⟨h, trivial⟩
  | x :: l, c, y, g, h => ⟨g.1, frs_snoc l (x :: c) y g.2 fun q => h (cn_mono (fun w hw => by
      simp only [List.cons_append, List.mem_cons, List.mem_append] at *
      rcases hw with hw | hw | hw
      · exact .inr (.inl hw)
      · exact .inl hw
      · exact .inr (.inr hw)) q)⟩
theorem oth_more {l o : List E} (h : allE l = 0) (ho : Oth l o) {y : E} (hy : y ∈ l) (hn : lkR o (ri y 0) (ri y 1) = false) : Oth l (o ++ [e3 y]) := by
  have hok := fun z hz => may_ok (oth_may h ho z hz)
  have hy2 := may_ok (((good_iff l).1 (all_good h)).1 y hy)
  refine ⟨?_, fun z hz => ?_⟩
  · rw [List.map_append]
    refine frs_snoc _ _ _ ho.f fun q => ?_
    rw [List.append_nil] at q
    have hn2 : lkR o (ri y 0) (ri y 1) = true := (lk_iff hok _ _).2 ⟨hy2.1, hy2.2, q⟩
    rw [hn2] at hn
    cases hn
  · rcases List.mem_append.1 hz with hz | hz
    · exact ho.m z hz
    · rw [List.mem_singleton.1 hz]
      exact List.mem_map.2 ⟨y, hy, rfl⟩
theorem oth_lk {l o : List E} (h : allE l = 0) (ho : Oth l o) {y : E} (hn : lkR o (ri y 0) (ri y 1) = true) : Cn (o.map trE) (ri y 0) (ri y 1) := ((lk_iff (fun z hz => may_ok (oth_may h ho z hz)) _ _).1 hn).2.2
theorem wt_sum : ∀ (l : List E) (n : Int), (∀ y ∈ l, 0 ≤ ri y 2 ∧ ri y 2 ≤ 2147483647) → 0 ≤ n → n + l.length * 2147483647 ≤ 4611686018427387904 → l.foldl wtF n = n + wsum (l.map trE)
  | [], n, _, _, _ => by simp [wsum]
  | y :: l, n, h, h0, h1 => by
    have hy := h y (List.mem_cons_self ..)
    rw [List.length_cons] at h1
    have e : wtF n y = n + ri y 2 := by
      unfold wtF
      rw [b_add, wr _ (by omega) (by omega)]
    rw [List.foldl_cons, e, wt_sum l _ (fun z hz => h z (List.mem_cons_of_mem _ hz)) (by omega) (by omega)]
    unfold wsum
    rw [List.map_cons, List.map_cons, List.sum_cons]
    show n + ri y 2 + _ = n + (ri y 2 + _)
    omega
theorem wt_w {o : List E} (h : ∀ y ∈ o, may1 y = true) (hl : o.length ≤ 100) : wtL o = wsum (o.map trE) := by
  have := wt_sum o 0 (fun y hy => by have := may_1 (h y hy); omega) (Int.le_refl 0) (by omega)
  unfold wtL
  omega
theorem lst_oth {l : List E} (h : allE l = 0) : Oth l (lstB l) := ⟨by rw [lst_kru h]; exact grd_frs _ _, fun y hy => lst_mem h (List.mem_map_of_mem hy)⟩
theorem lst_for {l : List E} (h : allE l = 0) : rfB (lstB l) = true := (rf_iff fun z hz => may_ok (oth_may h (lst_oth h) z hz)).2 (lst_oth h).f
/-- The least forest weighs no more. -/
theorem best_ok {l o : List E} (h : allE l = 0) (hl : l.length ≤ 40) (ho : Oth l o) (hlo : o.length ≤ 100) (hc : ∀ y ∈ l, Cn (o.map trE) (ri y 0) (ri y 1)) : wtL (lstB l) ≤ wtL o := by
  have hg := (good_iff l).1 (all_good h)
  have ll := lst_len l
  rw [wt_w (oth_may h (lst_oth h)) (by omega), wt_w (oth_may h ho) hlo, lst_kru h]
  refine kru_best parts (inc_srt (all_good h)) (fun z hz => ?_) 2147483647 (fun z hz => ?_) ho.f (fun z hz => ?_) (fun z hz => ?_)
  · rw [mem_srt] at hz
    obtain ⟨y, hy, rfl⟩ := List.mem_map.1 hz
    exact may_ok (hg.1 y hy)
  · rw [mem_srt] at hz
    obtain ⟨y, hy, rfl⟩ := List.mem_map.1 hz
    have := may_1 (hg.1 y hy)
    show 0 ≤ ri y 2 ∧ ri y 2 ≤ _
    omega
  · rw [mem_srt]
    obtain ⟨y, hy, rfl⟩ := List.mem_map.1 hz
    exact ho.m y hy
  · rw [mem_srt] at hz
    obtain ⟨y, hy, rfl⟩ := List.mem_map.1 hz
    exact hc y hy
/-- Those ahead of an edge. -/
def ahF (f : List E) (y : E) : List E := (f.filter fun z => lsY z y).map e3
theorem ah_mem (f : List E) (y : E) (z : T) : z ∈ (ahF f y).map trE ↔ z ∈ f.map trE ∧ lt z (trE y) := by
  unfold ahF
  rw [List.map_map]
  have e : (trE ∘ e3) = trE := rfl
  rw [e, List.mem_map, List.mem_map]
  constructor
  · rintro ⟨w, hw, rfl⟩
    rw [List.mem_filter, ls_lt] at hw
    exact ⟨⟨w, hw.1, rfl⟩, hw.2⟩
  · rintro ⟨⟨w, hw, rfl⟩, h⟩
    exact ⟨w, by rw [List.mem_filter, ls_lt]; exact ⟨hw, h⟩, rfl⟩
theorem ah_ok {l : List E} (h : allE l = 0) {y : E} (hy : y ∈ l) (hn : ¬ hasT (lstB l) (trE y)) : lkR (ahF (lstB l) y) (ri y 0) (ri y 1) = true := by
  have hg := (good_iff l).1 (all_good h)
  have hI := inc_srt (all_good h)
  have ho := may_ok (hg.1 y hy)
  refine (lk_iff (fun z hz => ?_) _ _).2 ⟨ho.1, ho.2, ?_⟩
  · have := ((ah_mem (lstB l) y (trE z)).1 (List.mem_map_of_mem hz)).1
    obtain ⟨w, hw, e⟩ := List.mem_map.1 (lst_mem h this)
    rw [← e]
    exact may_ok (hg.1 w hw)
  · have q : Cn (blw (S l) (trE y)) (trE y).1 (trE y).2.1 := by
      by_cases q : Cn (blw (S l) (trE y)) (trE y).1 (trE y).2.1
      · exact q
      · exfalso
        apply hn
        rw [has_iff, lst_kru h]
        exact (kru_iff hI _).2 ⟨(mem_srt l _).2 (List.mem_map_of_mem hy), q⟩
    rw [← kru_blw hI, ← lst_kru h] at q
    exact cn_mono (fun z hz => (ah_mem _ _ _).2 (mem_blw.1 hz)) q
theorem ah_in {l : List E} (h : allE l = 0) (y : E) (k : Nat) (hl : l.length ≤ 1000000) : inR (ahF ((lstB l).take k) y) = true := by
  have hg := (good_iff l).1 (all_good h)
  have ll := lst_len l
  refine inR_iff.2 ⟨?_, fun z hz => ?_⟩
  · unfold ahF
    rw [List.length_map]
    have := List.length_filter_le (fun z => lsY z y) ((lstB l).take k)
    rw [List.length_take] at this
    omega
  · have := ((ah_mem ((lstB l).take k) y (trE z)).1 (List.mem_map_of_mem hz)).1
    rw [List.map_take] at this
    obtain ⟨w, hw, e⟩ := List.mem_map.1 (lst_mem h (List.mem_of_mem_take this))
    have hm := may_1 (hg.1 w hw)
    unfold trE at e
    simp only [Prod.mk.injEq] at e
    omega
/-- What is kept when an edge is lost, and what comes in its place. -/
def butF (f : List E) (c : T) : List E := (f.filter fun z => decide (¬ trE z = c)).map e3
theorem but_map (f : List E) (c : T) : (butF f c).map trE = (f.map trE).filter fun z => decide (¬ z = c) := by
  unfold butF
  rw [List.map_map, List.filter_map]
  rfl
theorem but_mem (f : List E) (c z : T) : z ∈ (butF f c).map trE ↔ z ∈ f.map trE ∧ z ≠ c := by
  rw [but_map, List.mem_filter, decide_eq_true_eq]
theorem but_all {l : List E} (h : allE l = 0) (c : T) : allE (butF l c) = 0 := by
  refine (all_iff _).2 ⟨?_, ?_⟩
  · rw [but_map]
    exact goodT_sub List.filter_sublist (good_l h)
  · have := ((all_iff l).1 h).2
    unfold butF
    rw [List.length_map]
    have := List.length_filter_le (fun z => decide (¬ trE z = c)) l
    omega
theorem but_len (f : List E) (c : T) : (butF f c).length ≤ f.length := by
  unfold butF
  rw [List.length_map]
  exact List.length_filter_le _ _
theorem kept_oth {l : List E} (h : allE l = 0) (c : T) : Oth l (butF (lstB l) c) := ⟨by rw [but_map]; exact frs_sub [] List.filter_sublist (lst_oth h).f, fun y hy => lst_mem h ((but_mem _ _ _).1 (List.mem_map_of_mem hy)).1⟩
theorem lose_ok {l : List E} (h : allE l = 0) {c : T} (hc : c ∈ (lstB l).map trE) (best : List E)
    (hb : (best = [] ∧ ∀ z ∈ (butF l c).map trE, Cn ((butF (lstB l) c).map trE) z.1 z.2.1) ∨
      ∃ y : E, best = [e3 y] ∧ trE y ∈ (butF l c).map trE ∧ ¬ Cn ((butF (lstB l) c).map trE) (trE y).1 (trE y).2.1 ∧ ∀ z ∈ (butF l c).map trE, ¬ Cn ((butF (lstB l) c).map trE) z.1 z.2.1 → z = trE y ∨ lt (trE y) z) :
    sameE (lstB (butF l c)) (rsB (butF (lstB l) c ++ best)) = true := by
  have hr := but_all h c
  have hg := (good_iff l).1 (all_good h)
  have hI := inc_srt (all_good h)
  refine decide_eq_true ?_
  rw [lst_kru hr, rs_srt]
  have key := kru_lose (r := S (butF l c)) (kept := (butF (lstB l) c).map trE) (cut := c) parts hI (inc_srt (all_good hr)) (fun z hz => by
    rw [mem_srt] at hz
    obtain ⟨y, hy, rfl⟩ := List.mem_map.1 hz
    exact may_ok (hg.1 y hy)) (by rw [← lst_kru h]; exact hc) (fun y => by rw [mem_srt, mem_srt, but_mem]) (fun y => by rw [but_mem, ← lst_kru h])
  have hcut : ∀ y ∈ (butF (lstB l) c).map trE, y ∈ l.map trE ∧ y ≠ c := fun y hy => ⟨lst_mem h ((but_mem _ _ _).1 hy).1, ((but_mem _ _ _).1 hy).2⟩
  have gk : goodT ((butF (lstB l) c ++ best).map trE) := by
    have g0 : goodT ((butF (lstB l) c).map trE) := by
      rw [but_map]
      refine goodT_sub List.filter_sublist (goodT_sub (lst_sub h) ?_)
      exact (goodT_perm (srt_tr l).1).2 (good_l h)
    rcases hb with ⟨rfl, _⟩ | ⟨y, rfl, b1, b2, _⟩
    · rw [List.append_nil]
      exact g0
    · rw [List.map_append]
      have hy := ((but_mem _ _ _).1 b1).1
      refine ⟨fun z hz => ?_, ?_⟩
      · rcases List.mem_append.1 hz with hz | hz
        · exact g0.1 z hz
        · rw [List.mem_singleton.1 hz]
          exact (good_l h).1 _ hy
      · rw [List.map_append, List.nodup_append]
        refine ⟨g0.2, by simp, fun p hp q hq e => ?_⟩
        rw [show ([e3 y].map trE).map (fun y => (y.1, y.2.1)) = [(ri y 0, ri y 1)] from rfl, List.mem_singleton] at hq
        obtain ⟨z, hz, rfl⟩ := List.mem_map.1 hp
        rw [hq] at e
        simp only [Prod.mk.injEq] at e
        apply b2
        show Cn _ (ri y 0) (ri y 1)
        rw [← e.1, ← e.2]
        exact cn_edge hz
  have nd : (l.map trE).Nodup := goodT_nd (good_l h)
  refine inc_ext (grd_inc _ (inc_srt (all_good hr))) ?_ (fun y => ?_)
  · exact inc_srt ((good_T _).2 gk)
  · rw [mem_srt, List.map_append, List.mem_append]
    show y ∈ kru _ ↔ _
    rw [key y]
    constructor
    · rintro (q | ⟨q1, q2, q3⟩)
      · exact .inl q
      · right
        rw [mem_srt] at q1
        rcases hb with ⟨rfl, b⟩ | ⟨x, rfl, b1, b2, b3⟩
        · exact absurd (b y q1) q2
        · rw [show [e3 x].map trE = [trE x] from rfl, List.mem_singleton]
          rcases b3 y q1 q2 with e | e
          · exact e
          · rcases q3 (trE x) ((mem_srt _ _).2 b1) b2 with e2 | e2
            · exact e2.symm
            · exact absurd (lt_tr e e2) (lt_irr _)
    · rintro (q | q)
      · exact .inl q
      · right
        rcases hb with ⟨rfl, b⟩ | ⟨x, rfl, b1, b2, b3⟩
        · cases q
        · rw [show [e3 x].map trE = [trE x] from rfl, List.mem_singleton] at q
          rw [q]
          exact ⟨(mem_srt _ _).2 b1, b2, fun z hz hzn => b3 z ((mem_srt _ _).1 hz) hzn⟩
end Go.Proofs.Ytfioaidmgcibaaa.SpN
