/-
  The parts of a graph of which a forest is bound, and what they choose. No condition.
-/
import Derived.Test.YtfioaidmgcibaaaRoV
import Derived.Test.YtfioaidmgcibaaaViT
import Derived.Test.YtfioaidmgcibaaaSpN
import Derived.Test.YtfioaidmgcibaaaTrX
import Derived.Test.YtfioaidmgcibaaaChA
import Derived.Test.YtfioaidmgcibaaaSpQ
namespace Go.Proofs.Ytfioaidmgcibaaa.CgV
open Go Go.Proofs.Ytfioaidmgcibaaa.Ry Go.Proofs.Ytfioaidmgcibaaa.EgR Go.Proofs.Ytfioaidmgcibaaa.EgL Go.Proofs.Ytfioaidmgcibaaa.SpK Go.Proofs.Ytfioaidmgcibaaa.SpT Go.Proofs.Ytfioaidmgcibaaa.SpL Go.Proofs.Ytfioaidmgcibaaa.SpN Go.Proofs.Ytfioaidmgcibaaa.TrK Go.Proofs.Ytfioaidmgcibaaa.RoV Go.Proofs.Ytfioaidmgcibaaa.ViT
open Go.Proofs.Ytfioaidmgcibaaa.ViR (mayV riseN mb1 mbB okN okL kcm)
open Go.Proofs.Ytfioaidmgcibaaa.Cmp (sgn)
open Go.Proofs.Ytfioaidmgcibaaa.ViL (inF ouF ou1 boF boV ouV inV edA edB)
theorem has3_iff (d : List E) (e : E) : has3 d e = true ↔ trE e ∈ d.map trE := by
  unfold has3
  rw [List.any_eq_true, List.mem_map]
  constructor
  · rintro ⟨z, hz, h⟩
    rw [decide_eq_true_eq] at h
    exact ⟨z, hz, by unfold trE; rw [h.1, h.2.1, h.2.2]⟩
  · rintro ⟨z, hz, h⟩
    unfold trE at h
    rw [Prod.mk.injEq, Prod.mk.injEq] at h
    exact ⟨z, hz, decide_eq_true ⟨h.1, h.2.1, h.2.2⟩⟩
/-- A link, as a node knows it. -/
def lnk (d : List E) (a q : Int) (e : E) : E := [D.int a, D.int q, D.int (ri e 2), D.int 1, D.bool (has3 d e)]
theorem lnk_at (d : List E) (a q : Int) (e : E) : ri (lnk d a q e) 0 = a ∧ ri (lnk d a q e) 1 = q ∧ ri (lnk d a q e) 2 = ri e 2 ∧ ri (lnk d a q e) 3 = 1 ∧ rb (lnk d a q e) 4 = has3 d e := ⟨rfl, rfl, rfl, rfl, rfl⟩
theorem vw1_mem {b : List E} {a p : Int} {e y : E} : y ∈ vw1 b a p e ↔ En (trE e) a p ∧ y = lnk b a p e := by
  unfold vw1 En trE
  by_cases h : ri e 0 = a ∧ ri e 1 = p ∨ ri e 1 = a ∧ ri e 0 = p
  · rw [if_pos h, List.mem_singleton]
    exact ⟨fun g => ⟨h, g⟩, fun g => g.2⟩
  · rw [if_neg h]
    exact ⟨fun g => (by cases g), fun g => absurd g.1 h⟩
theorem vw2_mem {l b : List E} {a p : Int} {y : E} : y ∈ vw2 l b a p ↔ ∃ e ∈ l, En (trE e) a p ∧ y = lnk b a p e := by
  unfold vw2
  rw [List.mem_flatMap]
  exact ⟨fun ⟨e, he, h⟩ => ⟨e, he, vw1_mem.1 h⟩, fun ⟨e, he, h⟩ => ⟨e, he, vw1_mem.2 h⟩⟩
theorem vw3_mem {l b : List E} {a : Int} {y : E} : y ∈ vw3 l b a 64 ↔ ∃ q, nod q ∧ ∃ e ∈ l, En (trE e) a q ∧ y = lnk b a q e := by
  unfold vw3
  rw [List.mem_flatMap]
  constructor
  · rintro ⟨k, hk, h⟩
    rw [List.mem_range] at hk
    exact ⟨(k : Int) + 1, by unfold nod; omega, vw2_mem.1 h⟩
  · rintro ⟨q, hq, h⟩
    unfold nod at hq
    refine ⟨(q - 1).toNat, List.mem_range.2 (by omega), ?_⟩
    rw [show (((q - 1).toNat : Nat) : Int) + 1 = q by omega]
    exact vw2_mem.2 h
theorem vw_mem {l b : List E} {n : List Int} {y : E} : y ∈ vw4 l b n ↔ ∃ a ∈ n, ∃ q, nod q ∧ ∃ e ∈ l, En (trE e) a q ∧ y = lnk b a q e := by
  unfold vw4
  rw [List.mem_flatMap]
  exact ⟨fun ⟨a, ha, h⟩ => ⟨a, ha, vw3_mem.1 h⟩, fun ⟨a, ha, h⟩ => ⟨a, ha, vw3_mem.2 h⟩⟩
theorem en_nod {y : T} (h : mayE y.1 y.2.1 y.2.2 = true) {a q : Int} (e : En y a q) : nod a ∧ nod q ∧ a ≠ q := by
  have g := may_T h
  unfold En at e
  rcases e with ⟨rfl, rfl⟩ | ⟨rfl, rfl⟩
  · exact ⟨g.1, g.2.1, by omega⟩
  · exact ⟨g.2.1, g.1, by omega⟩
/-- Edges of one two nodes are one. -/
theorem en_one {y z : T} (hy : mayE y.1 y.2.1 y.2.2 = true) (hz : mayE z.1 z.2.1 z.2.2 = true) {a q : Int} (e : En y a q) (g : En z a q) : (y.1, y.2.1) = (z.1, z.2.1) := by
  have h1 := (may_T hy).2.2
  have h2 := (may_T hz).2.2
  unfold En at e g
  rw [Prod.mk.injEq]
  omega
/-- Which nodes may be told of: in order. -/
structure Ns (n : List Int) : Prop where
  lt : n.Pairwise (· < ·)
  nod : ∀ a ∈ n, nod a
theorem pw_at {α : Type} {R : α → α → Prop} {z : α} : ∀ {l : List α}, l.Pairwise R → ∀ i, 0 < i → i < l.length → R (l.getD (i - 1) z) (l.getD i z)
  | [], _, i, _, h => absurd h (Nat.not_lt_zero i)
  | x :: l, p, i, h0, h => by
    have p := List.pairwise_cons.1 p
    match i, h0 with
    | 1, _ =>
      have h : 0 < l.length := Nat.lt_of_succ_lt_succ h
      refine p.1 _ ?_
      show l.getD 0 z ∈ l
      rw [List.getD_eq_getElem?_getD, List.getElem?_eq_getElem h]
      exact List.getElem_mem h
    | i + 2, _ => exact pw_at p.2 (i + 1) (Nat.succ_pos i) (Nat.lt_of_succ_lt_succ h)
theorem getD_in {α : Type} {z : α} {l : List α} {i : Nat} (h : i < l.length) : l.getD i z ∈ l := by
  rw [List.getD_eq_getElem?_getD, List.getElem?_eq_getElem h]
  exact List.getElem_mem h
theorem nodB_iff (a : Int) : ViR.nodB a = true ↔ nod a := by
  unfold ViR.nodB nod
  rw [decide_eq_true_eq]
theorem rise_ok {n : List Int} (h : Ns n) : riseN n = true := by
  unfold riseN
  rw [ViR.all_iff]
  intro i hi
  unfold okN
  rw [decide_eq_true_eq]
  exact ⟨(nodB_iff _).2 (h.nod _ (getD_in hi)), fun h0 => pw_at h.lt i h0 hi⟩
theorem kcm_ln {x y : E} (h : ln x y) : kcm (ri x 0) (ri x 1) (ri y 0) (ri y 1) < 0 := by
  unfold ln at h
  unfold kcm sgn
  split
  · split
    · omega
    · split <;> omega
  · split
    · omega
    · split <;> omega
theorem vw_pw {l : List E} (g : goodT (l.map trE)) (b : List E) {n : List Int} (h : Ns n) : (vw4 l b n).Pairwise ln := by
  unfold vw4
  rw [List.pairwise_flatMap]
  refine ⟨fun a _ => ?_, h.lt.imp fun {a c} lt x hx y hy => ?_⟩
  · unfold vw3
    rw [List.pairwise_flatMap]
    refine ⟨fun k _ => ?_, List.pairwise_lt_range.imp fun {k j} lt x hx y hy => ?_⟩
    · unfold vw2
      rw [List.pairwise_flatMap]
      refine ⟨fun e _ => ?_, ?_⟩
      · unfold vw1
        split
        · exact List.pairwise_singleton _ _
        · exact List.Pairwise.nil
      · have nd : l.Pairwise fun e f => ((trE e).1, (trE e).2.1) ≠ ((trE f).1, (trE f).2.1) := by
          have h := g.2
          rw [List.map_map] at h
          exact List.pairwise_map.1 h
        refine nd.imp_of_mem fun {e f} he hf ne x hx y hy => ?_
        have e1 := (vw1_mem.1 hx).1
        have e2 := (vw1_mem.1 hy).1
        exact absurd (en_one (g.1 _ (List.mem_map_of_mem he)) (g.1 _ (List.mem_map_of_mem hf)) e1 e2) ne
    · obtain ⟨e, _, _, rfl⟩ := vw2_mem.1 hx
      obtain ⟨f, _, _, rfl⟩ := vw2_mem.1 hy
      exact .inr ⟨rfl, show (k : Int) + 1 < (j : Int) + 1 by omega⟩
  · obtain ⟨_, _, e, _, _, rfl⟩ := vw3_mem.1 hx
    obtain ⟨_, _, f, _, _, rfl⟩ := vw3_mem.1 hy
    exact .inl lt
theorem vw_mb {l : List E} (g : goodT (l.map trE)) {b : List E} {n : List Int} {y : E} (hy : y ∈ vw4 l b n) : mb1 y = true ∧ n.contains (ri y 0) = true := by
  obtain ⟨a, ha, q, hq, e, he, en, rfl⟩ := vw_mem.1 hy
  have m := g.1 _ (List.mem_map_of_mem (f := trE) he)
  obtain ⟨n1, n2, n3⟩ := en_nod m en
  unfold mayE at m
  rw [decide_eq_true_eq] at m
  refine ⟨?_, List.contains_iff_mem.2 ha⟩
  unfold mb1 mbB
  rw [decide_eq_true_eq]
  exact ⟨(nodB_iff _).2 n1, (nodB_iff _).2 n2, n3, m.2.2.2.2.2.1, m.2.2.2.2.2.2, show (1 : Int) ≤ 1 by decide, show (1 : Int) ≤ 2147483647 by decide⟩
/-- A graph's view may be. -/
theorem vw_may {l : List E} (g : goodT (l.map trE)) (b : List E) {n : List Int} (h : Ns n) : mayV n (vw4 l b n) = true := by
  unfold mayV
  rw [Bool.and_eq_true]
  refine ⟨rise_ok h, ?_⟩
  rw [ViR.all_iff]
  intro i hi
  unfold okL
  rw [decide_eq_true_eq]
  have m := vw_mb g (getD_in (z := []) hi)
  exact ⟨m.1, m.2, fun h0 => kcm_ln (pw_at (vw_pw g b h) i h0 hi)⟩
/-- Each edge makes two links at most. -/
theorem vw_two {l : List E} (g : goodT (l.map trE)) (b : List E) {n : List Int} (h : Ns n) : (vw4 l b n).length ≤ 2 * l.length := by
  have e : (l.flatMap fun e => [lnk b (ri e 0) (ri e 1) e, lnk b (ri e 1) (ri e 0) e]).length = 2 * l.length := by
    induction l with
    | nil => rfl
    | cons x l ih =>
      have := ih ⟨fun y hy => g.1 y (List.mem_cons_of_mem _ hy), (List.nodup_cons.1 g.2).2⟩
      simp only [List.flatMap_cons, List.length_append, List.length_cons, List.length_nil] at *
      omega
  rw [← e]
  refine nd_len (may_nd (vw_may g b h)) fun y hy => ?_
  obtain ⟨a, _, q, _, f, hf, en, rfl⟩ := vw_mem.1 hy
  refine List.mem_flatMap.2 ⟨f, hf, ?_⟩
  unfold En trE at en
  rcases en with ⟨rfl, rfl⟩ | ⟨rfl, rfl⟩
  · exact List.mem_cons_self ..
  · exact List.mem_cons_of_mem _ (List.mem_cons_self ..)
/-! ## Inner, bound and outer links of a graph's view -/
theorem inn_mem {l d : List E} (g : goodT (l.map trE)) {n : List Int} (h : Ns n) {y : E} (hy : y ∈ inF (vw4 l d n)) : ∃ e ∈ l, (ri y 0, ri y 1, ri y 2) = trE e ∧ ri y 0 ∈ n ∧ ri y 1 ∈ n ∧ rb y 4 = has3 d e := by
  obtain ⟨x, hx, z, hz, c0, c1, c2, c3, _, rfl⟩ := in_mem (vw_may g d h) hy
  obtain ⟨a, ha, q, _, e, he, en, rfl⟩ := vw_mem.1 hx
  obtain ⟨a', ha', q', _, e', he', en', rfl⟩ := vw_mem.1 hz
  have m := g.1 _ (List.mem_map_of_mem (f := trE) he)
  have m' := g.1 _ (List.mem_map_of_mem (f := trE) he')
  have c0 : a < q := c0
  have c1 : a' = q := c1
  have c2 : q' = a := c2
  subst c1 c2
  have hp := en_one m m' en (en_symm en')
  have ee : e = e' := by
    refine TrX.pw_inj (k := fun y => ((trE y).1, (trE y).2.1)) ?_ he he' hp
    have := g.2
    rw [List.map_map] at this
    exact this
  subst ee
  have lt := (may_T m).2.2
  refine ⟨e, he, ?_, ha, ha', ?_⟩
  · unfold En trE at *
    show ((q', a', ri e 2) : T) = (ri e 0, ri e 1, ri e 2)
    simp only at en lt
    rw [Prod.mk.injEq, Prod.mk.injEq]
    omega
  · show (has3 d e && has3 d e) = has3 d e
    rw [Bool.and_self]
theorem mem_inn {l d : List E} (g : goodT (l.map trE)) {n : List Int} (h : Ns n) {e : E} (he : e ∈ l) (h0 : ri e 0 ∈ n) (h1 : ri e 1 ∈ n) : ∃ y ∈ inF (vw4 l d n), (ri y 0, ri y 1, ri y 2) = trE e ∧ rb y 4 = has3 d e := by
  have m := g.1 _ (List.mem_map_of_mem (f := trE) he)
  have lt : ri e 0 < ri e 1 := (may_T m).2.2
  have hx : lnk d (ri e 0) (ri e 1) e ∈ vw4 l d n := vw_mem.2 ⟨_, h0, _, h.nod _ h1, e, he, .inl ⟨rfl, rfl⟩, rfl⟩
  have hz : lnk d (ri e 1) (ri e 0) e ∈ vw4 l d n := vw_mem.2 ⟨_, h1, _, h.nod _ h0, e, he, .inr ⟨rfl, rfl⟩, rfl⟩
  have hm := vw_may g d h
  rw [← in_eq hm]
  refine ⟨[D.int (ri e 0), D.int (ri e 1), D.int (ri e 2), D.int 1, D.bool (has3 d e && has3 d e)], ?_, rfl, show (has3 d e && has3 d e) = has3 d e from Bool.and_self _⟩
  unfold rinF
  refine List.mem_flatMap.2 ⟨_, hx, List.mem_flatMap.2 ⟨_, hz, ?_⟩⟩
  unfold rin1
  rw [if_pos ⟨lt, rfl, rfl, rfl, rfl⟩]
  exact List.mem_singleton.2 rfl
theorem out_mem {l d : List E} {n : List Int} {y : E} (hy : y ∈ ouF n (vw4 l d n)) : ∃ a ∈ n, ∃ q, nod q ∧ q ∉ n ∧ ∃ e ∈ l, En (trE e) a q ∧ y = lnk d a q e := by
  unfold ouF at hy
  obtain ⟨x, hx, hy⟩ := List.mem_flatMap.1 hy
  obtain ⟨a, ha, q, hq, e, he, en, rfl⟩ := vw_mem.1 hx
  unfold ou1 at hy
  split at hy
  · cases hy
  · rename_i c
    refine ⟨a, ha, q, hq, fun k => c (List.contains_iff_mem.2 k), e, he, en, List.mem_singleton.1 hy⟩
theorem mem_out {l d : List E} {n : List Int} {a q : Int} (ha : a ∈ n) (hq : nod q) (nq : q ∉ n) {e : E} (he : e ∈ l) (en : En (trE e) a q) : lnk d a q e ∈ ouF n (vw4 l d n) := by
  unfold ouF
  refine List.mem_flatMap.2 ⟨_, vw_mem.2 ⟨a, ha, q, hq, e, he, en, rfl⟩, ?_⟩
  unfold ou1
  rw [if_neg (show ¬ n.contains (ri (lnk d a q e) 1) = true from fun c => nq (List.contains_iff_mem.1 c))]
  exact List.mem_singleton.2 rfl
theorem bo_iff {l : List E} (hl : ∀ y ∈ l, ri y 0 < ri y 1) (t : T) : t ∈ (boF l).map trE ↔ ∃ y ∈ l, rb y 4 = true ∧ t = (ri y 0, ri y 1, ri y 2) := by
  rw [List.mem_map]
  unfold boF
  constructor
  · rintro ⟨x, hx, rfl⟩
    obtain ⟨y, hy, hx⟩ := List.mem_flatMap.1 hx
    have lt := hl y hy
    unfold ViL.bo1 at hx
    split at hx
    · rename_i c
      rw [List.mem_singleton.1 hx]
      refine ⟨y, hy, c, ?_⟩
      show (edA (ri y 0) (ri y 1), edB (ri y 0) (ri y 1), ri y 2) = _
      unfold edA edB
      rw [if_neg (by omega), if_neg (by omega)]
    · cases hx
  · rintro ⟨y, hy, c, rfl⟩
    have lt := hl y hy
    refine ⟨[D.int (edA (ri y 0) (ri y 1)), D.int (edB (ri y 0) (ri y 1)), D.int (ri y 2)], List.mem_flatMap.2 ⟨y, hy, ?_⟩, ?_⟩
    · unfold ViL.bo1
      rw [if_pos c]
      exact List.mem_singleton.2 rfl
    · show (edA (ri y 0) (ri y 1), edB (ri y 0) (ri y 1), ri y 2) = _
      unfold edA edB
      rw [if_neg (by omega), if_neg (by omega)]
/-- What is bound, of what the nodes know. -/
theorem bnd_iff {l d : List E} (g : goodT (l.map trE)) (hd : ∀ y ∈ d, trE y ∈ l.map trE) {n : List Int} (h : Ns n) (t : T) : t ∈ (boV n (vw4 l d n)).map trE ↔ t ∈ d.map trE ∧ t.1 ∈ n ∧ t.2.1 ∈ n := by
  have hm := vw_may g d h
  have hlt : ∀ y ∈ inF (vw4 l d n), ri y 0 < ri y 1 := fun y hy => by
    obtain ⟨_, _, _, _, c0, _, _, _, _, rfl⟩ := in_mem hm hy
    exact c0
  unfold boV
  rw [if_pos hm, bo_iff hlt]
  constructor
  · rintro ⟨y, hy, c, rfl⟩
    obtain ⟨e, he, e1, n0, n1, e4⟩ := inn_mem g h hy
    rw [e4, has3_iff] at c
    rw [e1]
    refine ⟨c, ?_, ?_⟩
    · rw [← e1]; exact n0
    · rw [← e1]; exact n1
  · rintro ⟨ht, n0, n1⟩
    obtain ⟨z, hz, rfl⟩ := List.mem_map.1 ht
    obtain ⟨e, he, ee⟩ := List.mem_map.1 (hd z hz)
    have e0 : ri e 0 = ri z 0 := congrArg (fun t : T => t.1) ee
    have e1 : ri e 1 = ri z 1 := congrArg (fun t : T => t.2.1) ee
    obtain ⟨y, hy, f1, f4⟩ := mem_inn (d := d) g h he (by rw [e0]; exact n0) (by rw [e1]; exact n1)
    refine ⟨y, hy, ?_, ?_⟩
    · rw [f4, has3_iff, ee]
      exact ht
    · rw [f1, ee]
/-- Of a forest's edges some, each once. -/
theorem frs_some {k l : List T} (f : Fo l) (nk : k.Nodup) (h : ∀ y ∈ k, y ∈ l) : Fo k := by
  have nl := goodT_nd f.good
  have p : (l.filter fun y => decide (y ∈ k)).Perm k := by
    refine (List.perm_ext_iff_of_nodup (nl.sublist List.filter_sublist) nk).2 fun y => ?_
    rw [List.mem_filter, decide_eq_true_eq]
    exact ⟨fun q => q.2, fun q => ⟨h y q, q⟩⟩
  exact fo_perm (f.sub List.filter_sublist) p.symm
end Go.Proofs.Ytfioaidmgcibaaa.CgV
namespace Go.Proofs.Ytfioaidmgcibaaa.CgT
open Go Go.Proofs.Ytfioaidmgcibaaa.Ry Go.Proofs.Ytfioaidmgcibaaa.EgR Go.Proofs.Ytfioaidmgcibaaa.EgL Go.Proofs.Ytfioaidmgcibaaa.SpK Go.Proofs.Ytfioaidmgcibaaa.SpT Go.Proofs.Ytfioaidmgcibaaa.SpL Go.Proofs.Ytfioaidmgcibaaa.SpN Go.Proofs.Ytfioaidmgcibaaa.TrK Go.Proofs.Ytfioaidmgcibaaa.RoV Go.Proofs.Ytfioaidmgcibaaa.ViT Go.Proofs.Ytfioaidmgcibaaa.CgV Go.Proofs.Ytfioaidmgcibaaa.ChQ
open Go.Proofs.Ytfioaidmgcibaaa.ViR (mayV)
open Go.Proofs.Ytfioaidmgcibaaa.ViL (inF ouF boF boV ouV inV edA edB)
open Go.Proofs.Ytfioaidmgcibaaa.SpQ (lkR lsW rfB)
open Go.Proofs.Ytfioaidmgcibaaa.SpR (forB)
open Go.Proofs.Ytfioaidmgcibaaa.TrQ (hvB)
open Go.Proofs.Ytfioaidmgcibaaa.TrC (onR mxT onF on_eq on_mem mem_on mx_ok)
open Go.Proofs.Ytfioaidmgcibaaa.TrB (hop_way)
open Go.Proofs.Ytfioaidmgcibaaa.ChR (mnT k5)
open Go.Proofs.Ytfioaidmgcibaaa.ChT (liP ev_all ev_in in_two' se_in mn_all)
theorem frs_ne : ∀ (l c : List T), frs c l → ∀ y ∈ l, ¬ Cn c y.1 y.2.1
  | [], _, _, y, hy => by cases hy
  | x :: l, c, h, y, hy => by
    rcases List.mem_cons.1 hy with rfl | hy
    · exact h.1
    · exact fun q => frs_ne l (x :: c) h.2 y hy (cn_mono (fun z hz => List.mem_cons_of_mem _ hz) q)
theorem frs_nd : ∀ (l c : List T), frs c l → (l.map fun y => (y.1, y.2.1)).Nodup
  | [], _, _ => List.nodup_nil
  | x :: l, c, h => by
    rw [List.map_cons, List.nodup_cons]
    refine ⟨fun q => ?_, frs_nd l (x :: c) h.2⟩
    obtain ⟨y, hy, e⟩ := List.mem_map.1 q
    rw [Prod.mk.injEq] at e
    have g := frs_ne l (x :: c) h.2 y hy
    rw [e.1, e.2] at g
    exact g (cn_edge (List.mem_cons_self ..))
theorem oth_fo {l d : List E} (ha : allE l = 0) (o : Oth l d) : Fo (d.map trE) := ⟨⟨fun y hy => by
  obtain ⟨z, hz, rfl⟩ := List.mem_map.1 hy
  exact (good_l ha).1 _ (o.m z hz), frs_nd _ [] o.f⟩, o.f⟩
/-- A way's edges lead along it. -/
theorem way_cn {l : List T} {b : Int} (q : List Int) : ∀ {a : Int} {p : List Int}, Wy l b a p → (∀ x ∈ p, x ∈ q) → Cn (l.filter fun z => decide (z.1 ∈ q ∧ z.2.1 ∈ q)) a b := by
  intro a p h
  induction h with
  | one => exact fun _ => .refl
  | @go a c p y hy e w n ih =>
    intro hq
    have ha := hq a (List.mem_cons_self ..)
    have hc := hq c (List.mem_cons_of_mem _ (way_in w))
    have hm : y ∈ l.filter fun z => decide (z.1 ∈ q ∧ z.2.1 ∈ q) := by
      rw [List.mem_filter, decide_eq_true_eq]
      refine ⟨hy, ?_⟩
      unfold En at e
      rcases e with ⟨rfl, rfl⟩ | ⟨rfl, rfl⟩
      · exact ⟨ha, hc⟩
      · exact ⟨hc, ha⟩
    exact cn_trans (en_cn hm e) (ih fun x hx => hq x (List.mem_cons_of_mem _ hx))
theorem cross {X : List T} {n : List Int} {a b : Int} (h : Cn X a b) (ha : a ∈ n) : b ∉ n → ∃ z ∈ X, ∃ u ∈ n, ∃ t, t ∉ n ∧ En z u t := by
  induction h with
  | refl => exact fun k => absurd ha k
  | @one b c y _ hy e ih =>
    intro k
    by_cases g : b ∈ n
    · exact ⟨y, hy, b, g, c, k, e⟩
    · exact ih g
theorem lsW_lt (a b w a' b' w' : Int) : lsW a b w a' b' w' = true ↔ lt (a, b, w) (a', b', w') := by
  unfold lsW lt
  simp only
  split <;> rw [decide_eq_true_eq] <;> omega
/-- Nodes that bound edges lead nowhere out of. -/
structure Pt (d : List T) (n : List Int) : Prop where
  ns : Ns n
  cl : ∀ e ∈ d, (e.1 ∈ n ↔ e.2.1 ∈ n)
theorem g_fo {l d : List E} (ha : allE l = 0) (o : Oth l d) {n : List Int} (p : Pt (d.map trE) n) : Fo ((boV n (vw4 l d n)).map trE) := by
  have g := good_l ha
  have hm := vw_may g d p.ns
  refine frs_some (oth_fo ha o) ?_ fun y hy => ((bnd_iff g o.m p.ns y).1 hy).1
  have e : boV n (vw4 l d n) = boF (inF (vw4 l d n)) := if_pos hm
  rw [e]
  exact goodT_nd (ChT.bnd_ok hm).1
theorem g_len {l d : List E} (ha : allE l = 0) (hl : l.length ≤ 24) {n : List Int} (p : Pt (d.map trE) n) : (vw4 l d n).length ≤ 48 := by
  have := vw_two (good_l ha) d p.ns
  omega
theorem g_for {l d : List E} (ha : allE l = 0) (hl : l.length ≤ 24) (o : Oth l d) {n : List Int} (p : Pt (d.map trE) n) : forB (boV n (vw4 l d n)) = true ∧ chE n (vw4 l d n) = 0 := by
  have hm := vw_may (good_l ha) d p.ns
  have h1 := ChT.bnd_all hm (by have := g_len ha hl p; omega)
  have f := g_fo ha o p
  have e : forB (boV n (vw4 l d n)) = true := by
    rw [for_same h1.1, rf_iff fun y hy => f.ok _ (List.mem_map_of_mem hy)]
    exact f.frs
  refine ⟨e, ?_⟩
  unfold ChQ.chE
  rw [if_pos hm, if_pos e]
theorem g_ev {l d : List E} (ha : allE l = 0) (hl : l.length ≤ 24) (o : Oth l d) {n : List Int} (p : Pt (d.map trE) n) {y : E} (hy : y ∈ inF (vw4 l d n)) (hp : liP (boV n (vw4 l d n)) y = true) : hvB (boV n (vw4 l d n)) (ri y 0) (ri y 1) ∈ d.map trE ∧ hvB (boV n (vw4 l d n)) (ri y 0) (ri y 1) ∉ kru (S l) ∧ (hvB (boV n (vw4 l d n)) (ri y 0) (ri y 1)).1 ∈ n := by
  have g := good_l ha
  have hm := vw_may g d p.ns
  have f := g_fo ha o p
  have hf := (g_for ha hl o p).1
  obtain ⟨hlk, ea, eb, hpos, hh, _⟩ := ev_in hm hf hy hp
  obtain ⟨_, n0, n1, _⟩ := in_two' hm hy
  have n0 : nod (ri y 0) := (nodB_iff _).1 n0
  have n1 : nod (ri y 1) := (nodB_iff _).1 n1
  obtain ⟨e, he, ee, _⟩ := inn_mem g p.ns hy
  have ne : onR (boV n (vw4 l d n)) (ri y 0) (ri y 1) ≠ [] := fun q => by rw [q] at hpos; exact absurd hpos (by decide)
  have hok : ∀ z ∈ boV n (vw4 l d n), okT (trE z) := fun z hz => f.ok _ (List.mem_map_of_mem hz)
  have hcn := ((lk_iff hok _ _).1 hlk).2.2
  unfold liP at hp
  rw [ea, eb, Bool.and_eq_true, Bool.and_eq_true, ← hh] at hp
  have hlt := (lsW_lt _ _ _ _ _ _).1 hp.2.2
  obtain ⟨m1, m2⟩ := mx_ok ne
  rw [← hh] at m1 m2
  generalize hvB (boV n (vw4 l d n)) (ri y 0) (ri y 1) = h at hlt m1 m2 hh ⊢
  obtain ⟨w, _⟩ := hop_way f n1 (cn_symm hcn)
  rw [on_eq f n0 n1 w] at m1 m2
  generalize TrB.wF 65 (TrB.twH (boV n (vw4 l d n)) (ri y 1)) (ri y 0) = P at *
  obtain ⟨hx, ex⟩ := List.mem_map.1 m1
  obtain ⟨b1, b2, b3⟩ := on_mem ex.1
  rw [ex.2] at b1 b2 b3
  have hno := (way_iff f w b1).2 ⟨b2, b3⟩
  obtain ⟨d1, d2, d3⟩ := (bnd_iff g o.m p.ns h).1 b1
  refine ⟨d1, fun hk => ?_, d2⟩
  have hS := ((kru_iff (inc_srt (all_good ha)) h).1 hk).2
  have hc := way_cn P w fun x hx => hx
  have sub : ∀ z ∈ (boV n (vw4 l d n)).map trE, z ∈ l.map trE := fun z hz => by
    obtain ⟨q1, _⟩ := (bnd_iff g o.m p.ns z).1 hz
    obtain ⟨x, hx, rfl⟩ := List.mem_map.1 q1
    exact o.m x hx
  have inB : ∀ z ∈ ((boV n (vw4 l d n)).map trE).filter fun z => decide (z.1 ∈ P ∧ z.2.1 ∈ P), z ∈ (boV n (vw4 l d n)).map trE ∧ (z = h ∨ lt z h) := fun z hz => by
    obtain ⟨z1, z2⟩ := List.mem_filter.1 hz
    rw [decide_eq_true_eq] at z2
    obtain ⟨x, hx, rfl⟩ := mem_on z1 z2.1 z2.2
    refine ⟨z1, ?_⟩
    by_cases q : trE x = h
    · exact .inl q
    · exact .inr ((lt_or q).resolve_right (m2 _ (List.mem_map_of_mem hx)))
  have hc2 : Cn (h :: (((boV n (vw4 l d n)).map trE).filter fun z => decide (z.1 ∈ P ∧ z.2.1 ∈ P)).filter fun z => decide (¬ z = h)) (ri y 0) (ri y 1) := cn_mono (fun z hz => by
    by_cases q : z = h
    · rw [q]
      exact List.mem_cons_self ..
    · exact List.mem_cons_of_mem _ (List.mem_filter.2 ⟨hz, decide_eq_true q⟩)) hc
  have toW : ∀ {u v : Int}, Cn ((((boV n (vw4 l d n)).map trE).filter fun z => decide (z.1 ∈ P ∧ z.2.1 ∈ P)).filter fun z => decide (¬ z = h)) u v → Cn (wo ((boV n (vw4 l d n)).map trE) h) u v := fun q => cn_mono (fun z hz => by
    obtain ⟨z1, z2⟩ := List.mem_filter.1 hz
    exact mem_wo.2 ⟨(inB z z1).1, of_decide_eq_true z2⟩) q
  have toX : ∀ {u v : Int}, Cn ((((boV n (vw4 l d n)).map trE).filter fun z => decide (z.1 ∈ P ∧ z.2.1 ∈ P)).filter fun z => decide (¬ z = h)) u v → Cn (blw (S l) h) u v := fun q => cn_mono (fun z hz => by
    obtain ⟨z1, z2⟩ := List.mem_filter.1 hz
    obtain ⟨z3, z4⟩ := inB z z1
    exact mem_blw.2 ⟨(mem_srt l z).2 (sub z z3), z4.resolve_left (of_decide_eq_true z2)⟩) q
  have hE : Cn (blw (S l) h) (ri y 0) (ri y 1) := by
    have : (ri y 0, ri y 1, ri y 2) ∈ blw (S l) h := mem_blw.2 ⟨(mem_srt l _).2 (by rw [ee]; exact List.mem_map_of_mem he), hlt⟩
    exact cn_edge this
  rcases cn_cons.1 hc2 with q | ⟨q1, q2⟩ | ⟨q1, q2⟩
  · exact hno (toW q)
  · exact hS (cn_trans (cn_symm (toX q1)) (cn_trans hE (cn_symm (toX q2))))
  · exact hS (cn_trans (toX q2) (cn_trans (cn_symm hE) (toX q1)))
theorem g_gr {l d : List E} (ha : allE l = 0) {n : List Int} {z : E} (hz : z ∈ ouF n (vw4 l d n)) (hmin : ∀ w ∈ ouF n (vw4 l d n), ¬ SoC.ltE w z) : ∃ e ∈ l, En (trE e) (ri z 0) (ri z 1) ∧ trE e ∈ kru (S l) := by
  have g := good_l ha
  obtain ⟨a, ha', q, hq, nq, e, he, en, rfl⟩ := out_mem hz
  refine ⟨e, he, en, (kru_iff (inc_srt (all_good ha)) _).2 ⟨(mem_srt l _).2 (List.mem_map_of_mem he), fun c => ?_⟩⟩
  have c : Cn (blw (S l) (trE e)) a q := by
    unfold En at en
    rcases en with ⟨e1, e2⟩ | ⟨e1, e2⟩
    · rw [← e1, ← e2]; exact c
    · rw [← e1, ← e2]; exact cn_symm c
  obtain ⟨t, ht, u, hu, v, nv, et⟩ := cross c ha' nq
  obtain ⟨t1, t2⟩ := mem_blw.1 ht
  obtain ⟨f, hf, rfl⟩ := List.mem_map.1 ((mem_srt l t).1 t1)
  have mf := g.1 _ (List.mem_map_of_mem (f := trE) hf)
  have me := g.1 _ (List.mem_map_of_mem (f := trE) he)
  have k := hmin _ (mem_out (d := d) hu (en_nod mf et).2.1 nv hf et)
  have l1 := (may_T mf).2.2
  have l2 := (may_T me).2.2
  refine k ?_
  unfold SoC.ltE
  unfold En trE at *
  unfold lt at t2
  show ri f 2 < ri e 2 ∨ ri f 2 = ri e 2 ∧ (min u v < min a q ∨ min u v = min a q ∧ max u v < max a q)
  simp only at *
  omega
/-- What a fragment does is right. -/
theorem g_right {l d : List E} (ha : allE l = 0) (hl : l.length ≤ 24) (o : Oth l d) {n : List Int} (p : Pt (d.map trE) n) : chE n (vw4 l d n) = 0 ∧ ∀ x ∈ l, (ri x 0 = (chF n (vw4 l d n)).a ∧ ri x 1 = (chF n (vw4 l d n)).b ∨ ri x 0 = (chF n (vw4 l d n)).b ∧ ri x 1 = (chF n (vw4 l d n)).a) → (trE x ∈ kru (S l) ↔ (chF n (vw4 l d n)).k = 2) := by
  have g := good_l ha
  have hm := vw_may g d p.ns
  obtain ⟨hf, h0⟩ := g_for ha hl o p
  refine ⟨h0, fun x hx hc => ?_⟩
  have mx := g.1 _ (List.mem_map_of_mem (f := trE) hx)
  have tx := may_T mx
  have one : ∀ t ∈ l.map trE, En t (ri x 0) (ri x 1) → trE x = t := fun t ht e => by
    obtain ⟨y, hy, rfl⟩ := List.mem_map.1 ht
    have hp := en_one mx (g.1 _ ht) (.inl ⟨rfl, rfl⟩) e
    have : x = y := TrX.pw_inj (k := fun y => ((trE y).1, (trE y).2.1)) (by have := g.2; rw [List.map_map] at this; exact this) hx hy hp
    rw [this]
  have ei : inV n (vw4 l d n) = inF (vw4 l d n) := if_pos hm
  have eo : ouV n (vw4 l d n) = ouF n (vw4 l d n) := if_pos hm
  unfold chF at hc ⊢
  rw [if_neg (fun k => k h0)] at hc ⊢
  split at hc
  · rename_i c
    rw [if_pos c]
    rw [ei] at c hc ⊢
    unfold evB at c
    unfold evC at hc ⊢
    cases e : evF (inF (vw4 l d n)) (boV n (vw4 l d n)) with
    | none => rw [e] at c; cases c
    | some y =>
      rw [e] at hc
      obtain ⟨hy, hp, _⟩ := (ev_all hm hf).2 y e
      obtain ⟨k1, k2, _⟩ := g_ev ha hl o p hy hp
      have k3 : hvB (boV n (vw4 l d n)) (ri y 0) (ri y 1) ∈ l.map trE := by
        obtain ⟨z, hz, e⟩ := List.mem_map.1 k1
        rw [← e]
        exact o.m z hz
      have ex := one _ k3 (by unfold En; simp only at hc; omega)
      rw [ex]
      exact ⟨fun q => absurd q k2, fun q => absurd q (show ¬ (3 : Int) = 2 by decide)⟩
  · rename_i c
    rw [if_neg c]
    rw [eo] at hc ⊢
    split at hc
    · rename_i c2
      rw [if_pos c2]
      obtain ⟨z, hz, e1, e2⟩ := mn_all c2
      obtain ⟨e, he, en, ek⟩ := g_gr ha hz e2
      rw [e1] at hc
      have ex := one _ (List.mem_map_of_mem he) (by unfold En k5 at *; simp only at hc; omega)
      rw [ex]
      exact ⟨fun _ => rfl, fun _ => ek⟩
    · exfalso
      simp only at hc
      unfold nod trE at tx
      simp only at tx
      omega
end Go.Proofs.Ytfioaidmgcibaaa.CgT
namespace Go.Proofs.Ytfioaidmgcibaaa.CgR
open Go Go.Proofs.Ytfioaidmgcibaaa.Ry Go.Proofs.Ytfioaidmgcibaaa.EgR Go.Proofs.Ytfioaidmgcibaaa.SpR Go.Proofs.Ytfioaidmgcibaaa.SpQ

def upN (k : Nat) : List Int := (List.range k).map fun i : Nat => (i : Int) + 1
theorem up_next (k : Nat) : upN (k + 1) = upN k ++ [(k : Int) + 1] := by
  unfold upN
  rw [List.range_succ, List.map_append]
  rfl
theorem up_len (k : Nat) : (upN k).length = k := by
  unfold upN
  rw [List.length_map, List.length_range]
theorem up_mem {k : Nat} {x : Int} : x ∈ upN k ↔ 1 ≤ x ∧ x ≤ k := by
  unfold upN
  rw [List.mem_map]
  constructor
  · rintro ⟨i, hi, rfl⟩
    rw [List.mem_range] at hi
    omega
  · rintro ⟨h0, h1⟩
    exact ⟨(x - 1).toNat, List.mem_range.2 (by omega), by omega⟩
theorem up_lt (k : Nat) : (upN k).Pairwise (· < ·) := by
  unfold upN
  rw [List.pairwise_map]
  exact List.pairwise_lt_range.imp fun h => by omega
def hasN (l : List E) (n : Int) : Bool := l.any fun y => decide (ri y 0 = n ∨ ri y 1 = n)
def ndS (l : List E) : List Int := (upN 64).filter (hasN l)
structure XN where
  i : Int
  o : List Int
structure XB where
  k : Int
  b : Bool
def n1Q (l : List E) (y : XN) : Prop := 1 ≤ y.i ∧ y.i ≤ 65 ∧ y.o = (upN (y.i - 1).toNat).filter (hasN l)
def n1M (y : XN) : Nat := 65 - y.i.toNat
noncomputable def n1I (l : List E) (y : XN) : St := stOf Try.f28.ntmps [(0, .sl none (.recs (.int .i64 (.int .i64 (.int .i64 .nil))) l)), (3, .sl (some (1, 3)) (.ints .i64 y.o)), (4, .val (.int .i64 y.i))] [(1, .tok)] [Any]
def n1R (st : St) : XN := ⟨slotI st 4, ctL (match slotC st 3 with | .sl _ c => c | _ => .ints .i64 [])⟩
def n2Q (l : List E) (n : Int) (y : XB) : Prop := 0 ≤ y.k ∧ y.k ≤ l.length ∧ y.b = hasN (l.take y.k.toNat) n
def n2M (l : List E) (y : XB) : Nat := l.length - y.k.toNat
noncomputable def n2I (l : List E) (o : List Int) (i : Int) (y : XB) : St := stOf Try.f28.ntmps [(0, .sl none (.recs (.int .i64 (.int .i64 (.int .i64 .nil))) l)), (3, .sl (some (1, 3)) (.ints .i64 o)), (4, .val (.int .i64 i)), (5, .val (.bool y.b)), (6, .val (.int .i64 y.k))] [(1, .tok)] [Any]
def slotB (st : St) (n : Nat) : Bool := match slotC st n with | .val (.bool b) => b | .tf b => b | _ => false
def n2R (st : St) : XB := ⟨slotI st 6, slotB st 5⟩
theorem n1_len {l : List E} {i : Int} {o : List Int} (hq : n1Q l ⟨i, o⟩) : o.length ≤ 64 := by
  obtain ⟨h0, h1, h2⟩ := hq
  simp only at h0 h1 h2
  have : o.length ≤ (upN (i - 1).toNat).length := by rw [h2]; exact List.length_filter_le ..
  rw [up_len] at this
  omega
theorem n1_step {l : List E} {i : Int} {o : List Int} (hq : n1Q l ⟨i, o⟩) (h : i ≤ 64) : stdBin .add .i64 i 1 = i + 1 ∧ (∀ p, n1M ⟨i + 1, p⟩ < n1M ⟨i, o⟩) ∧ (hasN l i = true → n1Q l ⟨i + 1, o ++ [i]⟩) ∧ (hasN l i = false → n1Q l ⟨i + 1, o⟩) := by
  obtain ⟨h0, h1, h2⟩ := hq
  simp only at h0 h1 h2
  have e : (i + 1 - 1).toNat = (i - 1).toNat + 1 := by omega
  have e2 : (((i - 1).toNat : Nat) : Int) + 1 = i := by omega
  refine ⟨by rw [b_add, wr _ (by omega) (by omega)], fun p => by simp only [n1M]; omega, fun g => ⟨by simp only; omega, by simp only; omega, ?_⟩, fun g => ⟨by simp only; omega, by simp only; omega, ?_⟩⟩
  · simp only
    rw [e, up_next, List.filter_append, e2, ← h2, List.filter_cons_of_pos g]
    rfl
  · simp only
    rw [e, up_next, List.filter_append, e2, ← h2, List.filter_cons_of_neg (by rw [g]; decide)]
    simp
theorem n1_end {l : List E} {i : Int} {o : List Int} (hq : n1Q l ⟨i, o⟩) (h : ¬ i ≤ 64) : o = ndS l := by
  obtain ⟨h0, h1, h2⟩ := hq
  simp only at h0 h1 h2
  rw [h2, show (i - 1).toNat = 64 by omega]
  rfl
theorem n2_step {l : List E} {n : Int} (hl : l.length ≤ 1000000) {k : Int} {b : Bool} (hq : n2Q l n ⟨k, b⟩) : 0 ≤ k ∧ k ≤ l.length ∧ (k < l.length → stdBin .add .i64 k 1 = k + 1 ∧ (∀ c, n2M l ⟨k + 1, c⟩ < n2M l ⟨k, b⟩) ∧ (b = true → n2Q l n ⟨k + 1, true⟩) ∧ (∀ c : Bool, b = false → (c = true ↔ ri (l.getD k.toNat []) 0 = n ∨ ri (l.getD k.toNat []) 1 = n) → n2Q l n ⟨k + 1, c⟩)) ∧ (¬ k < l.length → b = hasN l n) := by
  obtain ⟨h0, h1, h2⟩ := hq
  simp only at h0 h1 h2
  refine ⟨h0, h1, fun h => ?_, fun h => ?_⟩
  · have hx : hasN (l.take (k + 1).toNat) n = (hasN (l.take k.toNat) n || decide (ri (l.getD k.toNat []) 0 = n ∨ ri (l.getD k.toNat []) 1 = n)) := by
      rw [take_next l k h0 h]
      unfold hasN
      rw [List.any_append]
      simp only [List.any_cons, List.any_nil, Bool.or_false]
    refine ⟨by rw [b_add, wr _ (by omega) (by omega)], fun c => by simp only [n2M]; omega, fun g => ⟨by simp only; omega, by simp only; omega, ?_⟩, fun c g hc => ⟨by simp only; omega, by simp only; omega, ?_⟩⟩
    · simp only
      rw [hx, ← h2, g]
      rfl
    · simp only
      rw [hx, ← h2, g, Bool.false_or, Bool.eq_iff_iff, hc, decide_eq_true_eq]
  · rw [h2, List.take_of_length_le (by omega)]
/-! ## Parts -/
def inSt (M : List E) (k : Int) : List E := M.set k.toNat [D.bool true]
def inA (n : List Int) : List E := n.foldl inSt zer
def inPk (n : List Int) (l : List E) (m k : Int) : Bool := rb ((inA n).getD k.toNat []) 0 && rb ((reaB l m).getD k.toNat []) 0
def paP (n : List Int) (l : List E) (m : Int) : List Int := (upN 64).filter (inPk n l m)
def paS (n : List Int) (l : List E) : Nat → List E × List E
  | 0 => ([], zer)
  | k + 1 => if rb ((inA n).getD (k + 1) []) 0 = true ∧ ¬ rb ((paS n l k).2.getD (k + 1) []) 0 = true then ((paS n l k).1 ++ [[D.ints (paP n l ((k : Int) + 1))]], (paP n l ((k : Int) + 1)).foldl inSt (paS n l k).2) else paS n l k
def paO (n : List Int) (l : List E) : List E := (paS n l 64).1
def inI (n : List Int) : Bool := decide (n.length ≤ 1000000 ∧ ∀ x ∈ n, 0 ≤ x ∧ x < 65)
theorem fo_len : ∀ (n : List Int) (M : List E), (n.foldl inSt M).length = M.length
  | [], _ => rfl
  | x :: n, M => by
    show (n.foldl inSt (inSt M x)).length = _
    rw [fo_len n, inSt, List.length_set]
theorem zer_len : zer.length = 65 := by rw [zer, List.length_replicate]
theorem inA_len (n : List Int) : (inA n).length = 65 := by rw [inA, fo_len, zer_len]
theorem paS_len (n : List Int) (l : List E) : ∀ k, (paS n l k).2.length = 65 ∧ (paS n l k).1.length ≤ k
  | 0 => ⟨zer_len, Nat.le_refl 0⟩
  | k + 1 => by
    have := paS_len n l k
    unfold paS
    split
    · exact ⟨by rw [fo_len]; exact this.1, by rw [List.length_append]; simp; omega⟩
    · exact ⟨this.1, by omega⟩
structure XK where
  k : Int
  M : List E
def q1Q (n : List Int) (y : XK) : Prop := 0 ≤ y.k ∧ y.k ≤ n.length ∧ y.M = (n.take y.k.toNat).foldl inSt zer
def q1M (n : List Int) (y : XK) : Nat := n.length - y.k.toNat
noncomputable def q1I (A : Ar) (n : List Int) (l : List E) (y : XK) : St := stOf Try.f34.ntmps [(0, .sl none (.ints .i64 n)), (1, .sl none (.recs (.int .i64 (.int .i64 (.int .i64 .nil))) l)), (5, .ptr 1 0), (6, .ptr 2 0), (7, .val (.int .i64 y.k))] [(1, .row 102 (.recs (.bool .nil) (y.M))), (2, .row 102 (.recs (.bool .nil) (A.repE 65 [D.bool false])))] [Any, Any]
def q1R (st : St) : XK := ⟨slotI st 7, rdA st 5⟩
theorem q1_step {n : List Int} (hn : inI n = true) {k : Int} {M : List E} (hq : q1Q n ⟨k, M⟩) : 0 ≤ k ∧ k ≤ n.length ∧ M.length = 65 ∧ (k < n.length → stdBin .add .i64 k 1 = k + 1 ∧ 0 ≤ n.getD k.toNat 0 ∧ n.getD k.toNat 0 < 65 ∧ (∀ c, q1M n ⟨k + 1, c⟩ < q1M n ⟨k, M⟩) ∧ q1Q n ⟨k + 1, M.set (n.getD k.toNat 0).toNat [D.bool true]⟩) ∧ (¬ k < n.length → M = inA n) := by
  obtain ⟨h0, h1, h2⟩ := hq
  obtain ⟨n1, n2⟩ := of_decide_eq_true (show decide (n.length ≤ 1000000 ∧ ∀ x ∈ n, 0 ≤ x ∧ x < 65) = true from hn)
  simp only at h0 h1 h2
  refine ⟨h0, h1, by rw [h2, fo_len, zer_len], fun h => ?_, fun h => ?_⟩
  · have hi : k.toNat < n.length := by omega
    have eg : n.getD k.toNat 0 = n[k.toNat] := by rw [List.getD_eq_getElem?_getD, List.getElem?_eq_getElem hi]; rfl
    have hm := n2 (n.getD k.toNat 0) (by rw [eg]; exact List.getElem_mem hi)
    refine ⟨by rw [b_add, wr _ (by omega) (by omega)], hm.1, hm.2, fun c => by simp only [q1M]; omega, by simp only; omega, by simp only; omega, ?_⟩
    simp only
    rw [show (k + 1).toNat = k.toNat + 1 by omega, List.take_add_one, List.foldl_append, ← h2, eg, List.getElem?_eq_getElem hi]
    rfl
  · rw [h2, List.take_of_length_le (by omega)]
    rfl
structure XP where
  i : Int
  o : List E
  M : List E
def q2Q (n : List Int) (l : List E) (y : XP) : Prop := 1 ≤ y.i ∧ y.i ≤ 65 ∧ y.o = (paS n l (y.i - 1).toNat).1 ∧ y.M = (paS n l (y.i - 1).toNat).2
def q2M (y : XP) : Nat := 65 - y.i.toNat
noncomputable def q2I (n : List Int) (l I0 : List E) (y : XP) : St := stOf Try.f34.ntmps [(0, .sl none (.ints .i64 n)), (1, .sl none (.recs (.int .i64 (.int .i64 (.int .i64 .nil))) l)), (5, .ptr 1 0), (6, .ptr 2 0), (8, .sl (some (3, 22)) (.recs (.ints .i64 .nil) y.o)), (9, .val (.int .i64 y.i))] [(1, .row 102 (.recs (.bool .nil) (I0))), (2, .row 102 (.recs (.bool .nil) (y.M))), (3, .tok)] [Any, Any]
def q2R (st : St) : XP := ⟨slotI st 9, ctR (match slotC st 8 with | .sl _ c => c | _ => .recs .nil []), rdA st 6⟩
structure XI3 where
  k : Int
  p : List Int
  M : List E
def q3Q (n : List Int) (l : List E) (m : Int) (M0 : List E) (y : XI3) : Prop := 1 ≤ y.k ∧ y.k ≤ 65 ∧ y.p = (upN (y.k - 1).toNat).filter (inPk n l m) ∧ y.M = y.p.foldl inSt M0
def q3M (y : XI3) : Nat := 65 - y.k.toNat
noncomputable def q3I (n : List Int) (l I0 o R : List E) (m : Int) (y : XI3) : St := stOf Try.f34.ntmps [(0, .sl none (.ints .i64 n)), (1, .sl none (.recs (.int .i64 (.int .i64 (.int .i64 .nil))) l)), (5, .ptr 1 0), (6, .ptr 2 0), (8, .sl (some (3, 22)) (.recs (.ints .i64 .nil) o)), (9, .val (.int .i64 m)), (10, .ptr 4 0), (11, .sl (some (5, 3)) (.ints .i64 y.p)), (12, .val (.int .i64 y.k))] [(1, .row 102 (.recs (.bool .nil) (I0))), (2, .row 102 (.recs (.bool .nil) (y.M))), (3, .tok), (4, .row 102 (.recs (.bool .nil) (R))), (5, .tok)] [Any, Any]
def q3R (st : St) : XI3 := ⟨slotI st 12, ctL (match slotC st 11 with | .sl _ c => c | _ => .ints .i64 []), rdA st 6⟩
theorem q2_all {n : List Int} {l : List E} {i : Int} {o M : List E} (hq : q2Q n l ⟨i, o, M⟩) : 1 ≤ i ∧ i ≤ 65 ∧ M.length = 65 ∧ o.length ≤ 64 ∧ (inA n).length = 65 ∧ (i ≤ 64 → stdBin .add .i64 i 1 = i + 1 ∧ (∀ p N, q2M ⟨i + 1, p, N⟩ < q2M ⟨i, o, M⟩) ∧ (¬ (rb ((inA n).getD i.toNat []) 0 = true ∧ ¬ rb (M.getD i.toNat []) 0 = true) → q2Q n l ⟨i + 1, o, M⟩)) ∧ (¬ i ≤ 64 → o = paO n l) := by
  obtain ⟨h0, h1, h2, h3⟩ := hq
  simp only at h0 h1 h2 h3
  have hl := paS_len n l (i - 1).toNat
  refine ⟨h0, h1, by rw [h3]; exact hl.1, by rw [h2]; omega, inA_len n, fun h => ⟨by rw [b_add, wr _ (by omega) (by omega)], fun p N => by simp only [q2M]; omega, fun g => ?_⟩, fun h => ?_⟩
  · have e : paS n l (i + 1 - 1).toNat = paS n l (i - 1).toNat := by
      rw [show (i + 1 - 1).toNat = (i - 1).toNat + 1 by omega]
      conv => lhs; unfold paS
      rw [show (i - 1).toNat + 1 = i.toNat by omega, ← h3, if_neg g]
    exact ⟨by simp only; omega, by simp only; omega, by simp only; rw [e]; exact h2, by simp only; rw [e]; exact h3⟩
  · rw [h2, show (i - 1).toNat = 64 by omega]
    rfl
theorem q3_all {n : List Int} {l : List E} {i : Int} {o M0 : List E} (ho : q2Q n l ⟨i, o, M0⟩) (hi : i ≤ 64) (hg : rb ((inA n).getD i.toNat []) 0 = true ∧ ¬ rb (M0.getD i.toNat []) 0 = true) {k : Int} {p : List Int} {M : List E} (hq : q3Q n l i M0 ⟨k, p, M⟩) : 1 ≤ k ∧ k ≤ 65 ∧ M.length = 65 ∧ p.length ≤ 64 ∧ (k ≤ 64 → stdBin .add .i64 k 1 = k + 1 ∧ (∀ c N, q3M ⟨k + 1, c, N⟩ < q3M ⟨k, p, M⟩) ∧ (rb ((inA n).getD k.toNat []) 0 = true → rb ((reaB l i).getD k.toNat []) 0 = true → q3Q n l i M0 ⟨k + 1, p ++ [k], M.set k.toNat [D.bool true]⟩) ∧ (¬ (rb ((inA n).getD k.toNat []) 0 = true ∧ rb ((reaB l i).getD k.toNat []) 0 = true) → q3Q n l i M0 ⟨k + 1, p, M⟩)) ∧ (¬ k ≤ 64 → q2Q n l ⟨i + 1, o ++ [[D.ints p]], M⟩) := by
  obtain ⟨p0, p1, p2, p3⟩ := ho
  obtain ⟨h0, h1, h2, h3⟩ := hq
  simp only at h0 h1 h2 h3 p0 p1 p2 p3
  have hl := paS_len n l (i - 1).toNat
  have pl : p.length ≤ (upN (k - 1).toNat).length := by rw [h2]; exact List.length_filter_le ..
  rw [up_len] at pl
  have e2 : (((k - 1).toNat : Nat) : Int) + 1 = k := by omega
  refine ⟨h0, h1, by rw [h3, fo_len, p3]; exact hl.1, by omega, fun h => ⟨by rw [b_add, wr _ (by omega) (by omega)], fun c N => by simp only [q3M]; omega, fun g1 g2 => ?_, fun g => ?_⟩, fun h => ?_⟩
  · have g : inPk n l i k = true := by unfold inPk; rw [g1, g2]; rfl
    refine ⟨by simp only; omega, by simp only; omega, ?_, ?_⟩
    · simp only
      rw [show (k + 1 - 1).toNat = (k - 1).toNat + 1 by omega, up_next, List.filter_append, e2, ← h2, List.filter_cons_of_pos g]
      rfl
    · simp only
      rw [List.foldl_append, ← h3]
      rfl
  · have g : inPk n l i k = false := by
      unfold inPk
      rw [Bool.and_eq_false_iff, ← Bool.not_eq_true, ← Bool.not_eq_true]
      exact Decidable.not_and_iff_or_not.1 g
    refine ⟨by simp only; omega, by simp only; omega, ?_, h3⟩
    simp only
    rw [show (k + 1 - 1).toNat = (k - 1).toNat + 1 by omega, up_next, List.filter_append, e2, ← h2, List.filter_cons_of_neg (by rw [g]; decide)]
    simp
  · have ep : p = paP n l i := by
      rw [h2, show (k - 1).toNat = 64 by omega]
      rfl
    have e : paS n l (i + 1 - 1).toNat = ((paS n l (i - 1).toNat).1 ++ [[D.ints (paP n l i)]], (paP n l i).foldl inSt (paS n l (i - 1).toNat).2) := by
      rw [show (i + 1 - 1).toNat = (i - 1).toNat + 1 by omega]
      conv => lhs; unfold paS
      rw [show (((i - 1).toNat : Nat) : Int) + 1 = i by omega, show (i - 1).toNat + 1 = i.toNat by omega, ← p3, if_pos hg]
    exact ⟨by simp only; omega, by simp only; omega, by simp only; rw [e, ← p2, ep], by simp only; rw [e, ← p3, ← ep, h3]⟩
/-! ## Is an edge among some? -/
def hsB (l : List E) (a b w : Int) : Bool := l.any fun z => decide (ri z 0 = a ∧ ri z 1 = b ∧ ri z 2 = w)
structure XI where
  i : Int
def hsQ (l : List E) (a b w : Int) (y : XI) : Prop := 0 ≤ y.i ∧ y.i ≤ l.length ∧ hsB l a b w = hsB (l.drop y.i.toNat) a b w
def hsM (l : List E) (y : XI) : Nat := l.length - y.i.toNat
noncomputable def hsI (l : List E) (a b w : Int) (y : XI) : St := stOf Try.f36.ntmps [(0, .sl none (.recs (.int .i64 (.int .i64 (.int .i64 .nil))) l)), (3, .ptr 1 0), (5, .val (.int .i64 y.i))] [(1, .cells 55 [.val (.int .i64 a), .val (.int .i64 b), .val (.int .i64 w)])] [Any, Any]
def hsR (st : St) : XI := ⟨slotI st 5⟩
theorem hs_step {l : List E} {a b w : Int} (hl : l.length ≤ 1000000) {i : Int} (hq : hsQ l a b w ⟨i⟩) : 0 ≤ i ∧ i ≤ l.length ∧ (i < l.length → stdBin .add .i64 i 1 = i + 1 ∧ hsM l ⟨i + 1⟩ < hsM l ⟨i⟩ ∧ ((ri (l.getD i.toNat []) 0 = a ∧ ri (l.getD i.toNat []) 1 = b ∧ ri (l.getD i.toNat []) 2 = w) → hsB l a b w = true) ∧ (¬ (ri (l.getD i.toNat []) 0 = a ∧ ri (l.getD i.toNat []) 1 = b ∧ ri (l.getD i.toNat []) 2 = w) → hsQ l a b w ⟨i + 1⟩)) ∧ (¬ i < l.length → hsB l a b w = false) := by
  obtain ⟨h0, h1, h2⟩ := hq
  simp only at h0 h1 h2
  refine ⟨h0, h1, fun h => ?_, fun h => ?_⟩
  · have hi : i.toNat < l.length := by omega
    have eg : l.getD i.toNat [] = l[i.toNat] := by rw [List.getD_eq_getElem?_getD, List.getElem?_eq_getElem hi]; rfl
    have ed : l.drop i.toNat = l[i.toNat] :: l.drop (i.toNat + 1) := List.drop_eq_getElem_cons hi
    have hx : hsB (l.drop i.toNat) a b w = (decide (ri (l.getD i.toNat []) 0 = a ∧ ri (l.getD i.toNat []) 1 = b ∧ ri (l.getD i.toNat []) 2 = w) || hsB (l.drop (i.toNat + 1)) a b w) := by
      rw [ed, eg]
      rfl
    refine ⟨by rw [b_add, wr _ (by omega) (by omega)], by simp only [hsM]; omega, fun g => ?_, fun g => ⟨by simp only; omega, by simp only; omega, ?_⟩⟩
    · rw [h2, hx, decide_eq_true g]
      rfl
    · simp only
      rw [h2, hx, decide_eq_false g, Bool.false_or, show (i + 1).toNat = i.toNat + 1 by omega]
  · rw [h2, List.drop_of_length_le (by omega)]
    rfl

structure Cg where
  g_nd : List E → List Int
  g_pa : List Int → List E → List E
  g_hs : List E → Int → Int → Int → Bool
  g_ok : List E → Bool
  g_in : List Int → List E → Bool
def Cg.std : Cg := ⟨ndS, paO, hsB, fun l => decide (l.length ≤ 1000000), fun n l => inI n && inR l⟩

def c_rnodes (F : Cg) : Con := fun xs h => match xs, h with
  | [.one (.sl none (.recs (.int .i64 (.int .i64 (.int .i64 .nil))) l))], [] => some ⟨F.g_ok l = true, .sa (.one (.sl none (.ints .i64 (F.g_nd l)))), [], [Any]⟩
  | _, _ => none
set_option cbv.maxSteps 4000000 in
set_option maxHeartbeats 4000000 in
set_option maxRecDepth 100000 in
theorem x_rnodes (l : List E) (hC : Cg.std.g_ok l = true) : Does [] Try.f28 [.one (.sl none (.recs (.int .i64 (.int .i64 (.int .i64 .nil))) l))] [] ⟨Cg.std.g_ok l = true, .sa (.one (.sl none (.ints .i64 (Cg.std.g_nd l)))), [], [Any]⟩ := by
  intro b gv
  have hk : l.length ≤ 1000000 := of_decide_eq_true (show decide (l.length ≤ 1000000) = true from hC)
  have hfs := FsOk.nil
  generalize hF : Cg.std = F at hC hfs ⊢
  generalize hG0 : SpQ.Sq.std = G0 at hC hfs ⊢
  generalize hA : Ar.std = A
  generalize hL : Lp _ _ _ = L
  obtain ⟨Z, zq⟩ := z_all
  refine cd_open (lp_mono hL) zq rfl ?_
  repeat' (first
    | (refine z_open zq ?_; try dsimp only)
    | refine cd_seq zq ?_ (lp_mono hL)
    | refine cd_blk zq ?_
    | refine cd_ret ?_
    | refine cd_skip ?_
    | refine cd_exit ?_
    | refine cd_loop ?_
    | refine cd_cond rfl ?_
    | refine cd_condT rfl ?_
    | refine cd_condF rfl ?_
    | (refine Cd.mk ?_; cbv)
    | (refine Ends1.mk ?_; cbv)
    | (refine Fin1.mk ?_; cbv)
    | exact trivial
    | refine And.intro ?_ ?_
    | refine orf fun _ => ?_
    | refine ort fun _ => ?_)
  all_goals first | (show L _ _ _; skip) | (clear hL hfs zq Z; subst hA hF hG0 ; simp only [Cg.std, SpQ.Sq.std, Ar.std, List.nil_append] at * <;> grind [stdCmp]; done)
  subst hL
  refine loop_z (cx_ok hfs) (n1Q l) (n1I l) (n1M) n1R ⟨1, []⟩ ?_ ?_ ?_
  · exact ⟨Int.le_refl 1, show (1 : Int) ≤ 65 by decide, rfl⟩
  · cbv
    repeat' (first | exact trivial | exact rfl | refine And.intro ?_ ?_)
  rintro ⟨i, o⟩ hq O hO
  have hln := n1_len hq
  have hst := fun h => n1_step hq h
  have hen := fun h => n1_end hq h
  have q0 := hq.1
  have q1 := hq.2.1
  dsimp only at q0 q1
  subst hA
  generalize hA : Ar.std = A
  generalize hL : Lp _ _ _ = L
  refine cd_close zq ?_
  repeat' (first
    | (refine z_open zq ?_; try dsimp only)
    | refine cd_seq zq ?_ (lp_mono hL)
    | refine cd_blk zq ?_
    | refine cd_ret ?_
    | refine cd_skip ?_
    | refine cd_exit ?_
    | refine cd_loop ?_
    | refine cd_cond rfl ?_
    | refine cd_condT rfl ?_
    | refine cd_condF rfl ?_
    | (refine Cd.mk ?_; cbv)
    | (refine Ends1.mk ?_; cbv)
    | (refine Fin1.mk ?_; cbv)
    | exact trivial
    | refine And.intro ?_ ?_
    | refine orf fun _ => ?_
    | refine ort fun _ => ?_)
  all_goals first | (show L _ _ _; skip) | (clear hL hfs zq Z hq; subst hA hF hG0 hO; simp only [Cg.std, Ar.std] at * <;> grind [stdCmp]; done)
  rename_i hx
  have hi : i ≤ 64 := by
    clear hL hfs zq Z hq hst hen
    subst hA hF hG0 hO
    simp only [Cg.std, Ar.std] at *
    grind [stdCmp]
  clear hx hen
  have hst := hst hi
  subst hL
  refine loop_z (cx_ok hfs) (n2Q l i) (n2I l o i) (n2M l) n2R ⟨0, false⟩ ?_ ?_ ?_
  · exact ⟨Int.le_refl 0, Int.natCast_nonneg _, rfl⟩
  · cbv
    repeat' (first | exact trivial | exact rfl | refine And.intro ?_ ?_)
  rintro ⟨k, b⟩ hq2 O2 hO2
  have hs2 := n2_step hk hq2
  subst hA
  generalize hA : Ar.std = A
  generalize hL : Lp _ _ _ = L
  refine cd_close zq ?_
  repeat' (first
    | (refine z_open zq ?_; try dsimp only)
    | refine cd_seq zq ?_ (lp_mono hL)
    | refine cd_blk zq ?_
    | refine cd_ret ?_
    | refine cd_skip ?_
    | refine cd_exit ?_
    | refine cd_loop ?_
    | refine cd_cond rfl ?_
    | refine cd_condT rfl ?_
    | refine cd_condF rfl ?_
    | (refine Cd.mk ?_; cbv)
    | (refine Ends1.mk ?_; cbv)
    | (refine Fin1.mk ?_; cbv)
    | exact trivial
    | refine And.intro ?_ ?_
    | refine orf fun _ => ?_
    | refine ort fun _ => ?_)
  all_goals (clear hL hfs zq Z hq hq2; subst hA hF hG0 hO hO2; simp only [Cg.std, Ar.std] at * <;> grind [stdCmp]; done)
theorem ok_rnodes : ConOk Try.prog 28 (c_rnodes Cg.std) := by
  refine con_of FsOk.nil Try.func28 rfl rfl fun xs h p hp => ?_
  unfold c_rnodes at hp
  split at hp
  · cases hp
    exact ⟨lee_le rfl, fun hC _ => x_rnodes _ hC⟩
  · cases hp

def c_rparts (F : Cg) : Con := fun xs h => match xs, h with
  | [.one (.sl none (.ints .i64 n)), .one (.sl none (.recs (.int .i64 (.int .i64 (.int .i64 .nil))) l))], [] => some ⟨F.g_in n l = true, .sa (.one (.sl none (.recs (.ints .i64 .nil) (F.g_pa n l)))), [], [Any, Any]⟩
  | _, _ => none
set_option cbv.maxSteps 4000000 in
set_option maxHeartbeats 4000000 in
set_option maxRecDepth 100000 in
theorem x_rparts (n : List Int) (l : List E) (hC : Cg.std.g_in n l = true) : Does [(76, c_reach SpQ.Sq.std)] Try.f34 [.one (.sl none (.ints .i64 n)), .one (.sl none (.recs (.int .i64 (.int .i64 (.int .i64 .nil))) l))] [] ⟨Cg.std.g_in n l = true, .sa (.one (.sl none (.recs (.ints .i64 .nil) (Cg.std.g_pa n l)))), [], [Any, Any]⟩ := by
  intro b gv
  obtain ⟨hn, hl⟩ : inI n = true ∧ inR l = true := by
    have := hC
    simp only [Cg.std, Bool.and_eq_true] at this
    exact this
  have hn1 := (of_decide_eq_true (show decide (n.length ≤ 1000000 ∧ ∀ x ∈ n, 0 ≤ x ∧ x < 65) = true from hn)).1
  have hrl := rea_len l
  have hfs := (FsOk.cons ok_reach FsOk.nil rfl)
  generalize hF : Cg.std = F at hC hfs ⊢
  generalize hG0 : SpQ.Sq.std = G0 at hC hfs ⊢
  generalize hA : Ar.std = A
  generalize hL : Lp _ _ _ = L
  obtain ⟨Z, zq⟩ := z_all
  refine cd_open (lp_mono hL) zq rfl ?_
  repeat' (first
    | (refine z_open zq ?_; try dsimp only)
    | refine cd_seq zq ?_ (lp_mono hL)
    | refine cd_blk zq ?_
    | refine cd_ret ?_
    | refine cd_skip ?_
    | refine cd_exit ?_
    | refine cd_loop ?_
    | refine cd_cond rfl ?_
    | refine cd_condT rfl ?_
    | refine cd_condF rfl ?_
    | (refine Cd.mk ?_; cbv)
    | (refine Ends1.mk ?_; cbv)
    | (refine Fin1.mk ?_; cbv)
    | exact trivial
    | refine And.intro ?_ ?_
    | refine orf fun _ => ?_
    | refine ort fun _ => ?_)
  all_goals first | (show L _ _ _; skip) | (clear hL hfs zq Z; subst hA hF hG0; simp only [Cg.std, Ar.std] at * <;> grind [stdCmp]; done)
  subst hL
  refine loop_z (cx_ok hfs) (q1Q n) (q1I A n l) (q1M n) q1R ⟨0, A.repE 65 [D.bool false]⟩ ?_ ?_ ?_
  · subst hA; exact ⟨Int.le_refl 0, Int.natCast_nonneg _, rfl⟩
  · cbv
    repeat' (first | exact trivial | exact rfl | refine And.intro ?_ ?_)
  rintro ⟨j, N⟩ hq O hO
  have hst := q1_step hn hq
  subst hA
  generalize hA : Ar.std = A
  generalize hL : Lp _ _ _ = L
  refine cd_close zq ?_
  repeat' (first
    | (refine z_open zq ?_; try dsimp only)
    | refine cd_seq zq ?_ (lp_mono hL)
    | refine cd_blk zq ?_
    | refine cd_ret ?_
    | refine cd_skip ?_
    | refine cd_exit ?_
    | refine cd_loop ?_
    | refine cd_cond rfl ?_
    | refine cd_condT rfl ?_
    | refine cd_condF rfl ?_
    | (refine Cd.mk ?_; cbv)
    | (refine Ends1.mk ?_; cbv)
    | (refine Fin1.mk ?_; cbv)
    | exact trivial
    | refine And.intro ?_ ?_
    | refine orf fun _ => ?_
    | refine ort fun _ => ?_)
  all_goals first | (show L _ _ _; skip) | (clear hL hfs zq Z hq; subst hA hF hG0 hO; simp only [Cg.std, Ar.std] at * <;> grind [stdCmp]; done)
  rename_i hx
  have hN : N = inA n := by
    have h := hst.2.2.2.2
    clear hL hfs zq Z hq hst
    subst hA hF hG0 hO
    simp only [Cg.std, Ar.std] at *
    grind [stdCmp]
  clear hx hst hq hO
  subst hL
  refine loop_z (cx_ok hfs) (q2Q n l) (q2I n l N) (q2M) q2R ⟨1, [], A.repE 65 [D.bool false]⟩ ?_ ?_ ?_
  · subst hA; exact ⟨Int.le_refl 1, show (1 : Int) ≤ 65 by decide, rfl, rfl⟩
  · cbv
    repeat' (first | exact trivial | exact rfl | refine And.intro ?_ ?_)
  rintro ⟨i, o, M0⟩ hq U hU
  have hst := q2_all hq
  rw [← hN] at hst
  subst hA
  generalize hA : Ar.std = A
  generalize hL : Lp _ _ _ = L
  refine cd_close zq ?_
  repeat' (first
    | (refine z_open zq ?_; try dsimp only)
    | refine cd_seq zq ?_ (lp_mono hL)
    | refine cd_blk zq ?_
    | refine cd_ret ?_
    | refine cd_skip ?_
    | refine cd_exit ?_
    | refine cd_loop ?_
    | refine cd_cond rfl ?_
    | refine cd_condT rfl ?_
    | refine cd_condF rfl ?_
    | (refine Cd.mk ?_; cbv)
    | (refine Ends1.mk ?_; cbv)
    | (refine Fin1.mk ?_; cbv)
    | exact trivial
    | refine And.intro ?_ ?_
    | refine orf fun _ => ?_
    | refine ort fun _ => ?_)
  all_goals first | (show L _ _ _; skip) | (clear hL hfs zq Z hq; subst hA hF hG0 hU; simp only [Cg.std, SpQ.Sq.std, Ar.std] at * <;> grind [stdCmp]; done)
  rename_i hx1 hx2
  have hi : i ≤ 64 ∧ rb (N.getD i.toNat []) 0 = true ∧ ¬ rb (M0.getD i.toNat []) 0 = true := by
    clear hL hfs zq Z hq hst
    subst hA hF hG0 hU
    simp only [Cg.std, Ar.std] at *
    grind [stdCmp]
  clear hx1 hx2
  subst hL
  refine loop_z (cx_ok hfs) (q3Q n l i M0) (q3I n l N o (G0.r_rea l i) i) (q3M) q3R ⟨1, [], M0⟩ ?_ ?_ ?_
  · exact ⟨Int.le_refl 1, show (1 : Int) ≤ 65 by decide, rfl, rfl⟩
  · cbv
    repeat' (first | exact trivial | exact rfl | refine And.intro ?_ ?_)
  rintro ⟨k, p, M⟩ hq3 V hV
  have hs3 := q3_all hq hi.1 (by rw [← hN]; exact hi.2) hq3
  rw [← hN] at hs3
  subst hA
  generalize hA : Ar.std = A
  generalize hL : Lp _ _ _ = L
  refine cd_close zq ?_
  repeat' (first
    | (refine z_open zq ?_; try dsimp only)
    | refine cd_seq zq ?_ (lp_mono hL)
    | refine cd_blk zq ?_
    | refine cd_ret ?_
    | refine cd_skip ?_
    | refine cd_exit ?_
    | refine cd_loop ?_
    | refine cd_cond rfl ?_
    | refine cd_condT rfl ?_
    | refine cd_condF rfl ?_
    | (refine Cd.mk ?_; cbv)
    | (refine Ends1.mk ?_; cbv)
    | (refine Fin1.mk ?_; cbv)
    | exact trivial
    | refine And.intro ?_ ?_
    | refine orf fun _ => ?_
    | refine ort fun _ => ?_)
  all_goals (clear hL hfs zq Z hq hq3; subst hA hF hG0 hU hV; simp only [Cg.std, SpQ.Sq.std, Ar.std] at * <;> grind [stdCmp]; done)
theorem ok_rparts : ConOk Try.prog 34 (c_rparts Cg.std) := by
  refine con_of (FsOk.cons ok_reach FsOk.nil rfl) Try.func34 rfl rfl fun xs h p hp => ?_
  unfold c_rparts at hp
  split at hp
  · cases hp
    exact ⟨lee_le rfl, fun hC _ => x_rparts _ _ hC⟩
  · cases hp

def c_lhas (F : Cg) : Con := fun xs h => match xs, h with
  | [.one (.sl none (.recs (.int .i64 (.int .i64 (.int .i64 .nil))) l)), .agg [.val (.int .i64 e_a), .val (.int .i64 e_b), .val (.int .i64 e_w)]], [] => some ⟨F.g_ok l = true, .sa (B (F.g_hs l e_a e_b e_w)), [], [Any, Any]⟩
  | _, _ => none
set_option cbv.maxSteps 4000000 in
set_option maxHeartbeats 4000000 in
set_option maxRecDepth 100000 in
theorem x_lhas (l : List E) (e_a : Int) (e_b : Int) (e_w : Int) (hC : Cg.std.g_ok l = true) : Does [] Try.f36 [.one (.sl none (.recs (.int .i64 (.int .i64 (.int .i64 .nil))) l)), .agg [.val (.int .i64 e_a), .val (.int .i64 e_b), .val (.int .i64 e_w)]] [] ⟨Cg.std.g_ok l = true, .sa (B (Cg.std.g_hs l e_a e_b e_w)), [], [Any, Any]⟩ := by
  intro b gv
  have hk : l.length ≤ 1000000 := of_decide_eq_true (show decide (l.length ≤ 1000000) = true from hC)
  have hfs := FsOk.nil
  generalize hF : Cg.std = F at hC hfs ⊢
  generalize hG0 : SpQ.Sq.std = G0 at hC hfs ⊢
  generalize hA : Ar.std = A
  generalize hL : Lp _ _ _ = L
  obtain ⟨Z, zq⟩ := z_all
  refine cd_open (lp_mono hL) zq rfl ?_
  repeat' (first
    | (refine z_open zq ?_; try dsimp only)
    | refine cd_seq zq ?_ (lp_mono hL)
    | refine cd_blk zq ?_
    | refine cd_ret ?_
    | refine cd_skip ?_
    | refine cd_exit ?_
    | refine cd_loop ?_
    | refine cd_cond rfl ?_
    | refine cd_condT rfl ?_
    | refine cd_condF rfl ?_
    | (refine Cd.mk ?_; cbv)
    | (refine Ends1.mk ?_; cbv)
    | (refine Fin1.mk ?_; cbv)
    | exact trivial
    | refine And.intro ?_ ?_
    | refine orf fun _ => ?_
    | refine ort fun _ => ?_)
  subst hL
  refine loop_z (cx_ok hfs) (hsQ l e_a e_b e_w) (hsI l e_a e_b e_w) (hsM l) hsR ⟨0⟩ ?_ ?_ ?_
  · exact ⟨Int.le_refl 0, Int.natCast_nonneg _, rfl⟩
  · cbv
    repeat' (first | exact trivial | exact rfl | refine And.intro ?_ ?_)
  rintro ⟨i⟩ hq O hO
  have hst := hs_step hk hq
  subst hA
  generalize hA : Ar.std = A
  generalize hL : Lp _ _ _ = L
  refine cd_close zq ?_
  repeat' (first
    | (refine z_open zq ?_; try dsimp only)
    | refine cd_seq zq ?_ (lp_mono hL)
    | refine cd_blk zq ?_
    | refine cd_ret ?_
    | refine cd_skip ?_
    | refine cd_exit ?_
    | refine cd_loop ?_
    | refine cd_cond rfl ?_
    | refine cd_condT rfl ?_
    | refine cd_condF rfl ?_
    | (refine Cd.mk ?_; cbv)
    | (refine Ends1.mk ?_; cbv)
    | (refine Fin1.mk ?_; cbv)
    | exact trivial
    | refine And.intro ?_ ?_
    | refine orf fun _ => ?_
    | refine ort fun _ => ?_)
  all_goals (clear hL hfs zq Z hq; subst hA hF hG0 hO; simp only [Cg.std, Ar.std] at * <;> grind [stdCmp]; done)
theorem ok_lhas : ConOk Try.prog 36 (c_lhas Cg.std) := by
  refine con_of FsOk.nil Try.func36 rfl rfl fun xs h p hp => ?_
  unfold c_lhas at hp
  split at hp
  · cases hp
    exact ⟨lee_le rfl, fun hC _ => x_lhas _ _ _ _ hC⟩
  · cases hp
end Go.Proofs.Ytfioaidmgcibaaa.CgR
namespace Go.Proofs.Ytfioaidmgcibaaa.CgL
open Go Go.Proofs.Ytfioaidmgcibaaa.Ry Go.Proofs.Ytfioaidmgcibaaa.EgR Go.Proofs.Ytfioaidmgcibaaa.EgL Go.Proofs.Ytfioaidmgcibaaa.SpK Go.Proofs.Ytfioaidmgcibaaa.SpT Go.Proofs.Ytfioaidmgcibaaa.SpL Go.Proofs.Ytfioaidmgcibaaa.SpN Go.Proofs.Ytfioaidmgcibaaa.TrK Go.Proofs.Ytfioaidmgcibaaa.RoV Go.Proofs.Ytfioaidmgcibaaa.CgV Go.Proofs.Ytfioaidmgcibaaa.CgT Go.Proofs.Ytfioaidmgcibaaa.CgR Go.Proofs.Ytfioaidmgcibaaa.ChQ
open Go.Proofs.Ytfioaidmgcibaaa.SpQ (lkR inR inR_iff reaB rea_len zer)
open Go.Proofs.Ytfioaidmgcibaaa.SpO (rlB)
theorem mk_set {M : List E} {i : Nat} (hi : i < M.length) (j : Nat) : rb ((M.set i [D.bool true]).getD j []) 0 = true ↔ rb (M.getD j []) 0 = true ∨ i = j := by
  rw [List.getD_eq_getElem?_getD, List.getD_eq_getElem?_getD, List.getElem?_set]
  by_cases h : i = j
  · rw [if_pos h, if_pos hi]
    exact ⟨fun _ => .inr h, fun _ => rfl⟩
  · rw [if_neg h]
    exact ⟨.inl, fun g => g.resolve_right h⟩
theorem fold_mk : ∀ (n : List Int) (M : List E), M.length = 65 → (∀ x ∈ n, 0 ≤ x ∧ x < 65) → ∀ j, rb ((n.foldl inSt M).getD j []) 0 = true ↔ rb (M.getD j []) 0 = true ∨ ∃ x ∈ n, x.toNat = j
  | [], M, _, _, j => ⟨.inl, fun h => h.elim id fun ⟨_, h, _⟩ => by cases h⟩
  | x :: n, M, hM, hn, j => by
    have hx := hn x (List.mem_cons_self ..)
    show rb ((n.foldl inSt (inSt M x)).getD j []) 0 = true ↔ _
    rw [fold_mk n (inSt M x) (by rw [inSt, List.length_set]; exact hM) (fun y hy => hn y (List.mem_cons_of_mem _ hy)) j, inSt, mk_set (by omega) j]
    constructor
    · rintro ((h | h) | ⟨y, hy, h⟩)
      · exact .inl h
      · exact .inr ⟨x, List.mem_cons_self .., h⟩
      · exact .inr ⟨y, List.mem_cons_of_mem _ hy, h⟩
    · rintro (h | ⟨y, hy, h⟩)
      · exact .inl (.inl h)
      · rcases List.mem_cons.1 hy with rfl | hy
        · exact .inl (.inr h)
        · exact .inr ⟨y, hy, h⟩
theorem zer_mk (j : Nat) : rb (zer.getD j []) 0 = false := by
  unfold zer
  rw [List.getD_eq_getElem?_getD, List.getElem?_replicate]
  split <;> rfl
theorem inA_mk {n : List Int} (hn : ∀ x ∈ n, nod x) {k : Int} (hk : nod k) : rb ((inA n).getD k.toNat []) 0 = true ↔ k ∈ n := by
  unfold inA
  rw [fold_mk n zer zer_len (fun x hx => by have := hn x hx; unfold nod at this; omega), zer_mk]
  constructor
  · rintro (h | ⟨x, hx, e⟩)
    · cases h
    · have := hn x hx
      unfold nod at this hk
      rw [show k = x by omega]
      exact hx
  · exact fun h => .inr ⟨k, h, rfl⟩
theorem nd_mem {l : List E} {k : Int} : k ∈ ndS l ↔ nod k ∧ ∃ y ∈ l, ri y 0 = k ∨ ri y 1 = k := by
  unfold ndS hasN nod
  rw [List.mem_filter, up_mem, List.any_eq_true]
  simp only [decide_eq_true_eq]
  exact ⟨fun ⟨a, b⟩ => ⟨by omega, b⟩, fun ⟨a, b⟩ => ⟨by omega, b⟩⟩
theorem nd_nod {l : List E} : ∀ x ∈ ndS l, nod x := fun _ h => (nd_mem.1 h).1
theorem nd_in (l : List E) : inI (ndS l) = true := by
  have h : (ndS l).length ≤ (upN 64).length := List.length_filter_le ..
  rw [up_len] at h
  exact decide_eq_true ⟨by omega, fun x hx => by have := nd_nod x hx; unfold nod at this; omega⟩
theorem pa_mem {n : List Int} (hn : ∀ x ∈ n, nod x) {d : List E} (hd : ∀ y ∈ d, okT (trE y)) {m : Int} (hm : nod m) {k : Int} : k ∈ paP n d m ↔ nod k ∧ k ∈ n ∧ Cn (d.map trE) m k := by
  unfold paP inPk
  rw [List.mem_filter, up_mem, Bool.and_eq_true]
  constructor
  · rintro ⟨a, b, c⟩
    have hk : nod k := by unfold nod; omega
    exact ⟨hk, (inA_mk hn hk).1 b, (rea_iff hd hm hk).1 c⟩
  · rintro ⟨a, b, c⟩
    exact ⟨by unfold nod at a; omega, (inA_mk hn a).2 b, (rea_iff hd hm a).2 c⟩
theorem pa_ns {n : List Int} (hn : ∀ x ∈ n, nod x) {d : List E} (hd : ∀ y ∈ d, okT (trE y)) {m : Int} (hm : nod m) : Ns (paP n d m) ∧ (paP n d m).length ≤ 64 := by
  refine ⟨⟨(up_lt 64).sublist List.filter_sublist, fun a h => ((pa_mem hn hd hm).1 h).1⟩, ?_⟩
  have h : (paP n d m).length ≤ (upN 64).length := List.length_filter_le ..
  rw [up_len] at h
  exact h
theorem pas_mem {n : List Int} (hn : ∀ x ∈ n, nod x) (d : List E) : ∀ k : Nat, k ≤ 64 → ∀ p ∈ (paS n d k).1, ∃ m, nod m ∧ m ∈ n ∧ p = [D.ints (paP n d m)]
  | 0, _, p, h => by cases h
  | k + 1, hk, p, h => by
    unfold paS at h
    split at h
    · rename_i c
      rcases List.mem_append.1 h with h | h
      · exact pas_mem hn d k (by omega) p h
      · have hm : nod ((k : Int) + 1) := by unfold nod; omega
        refine ⟨(k : Int) + 1, hm, (inA_mk hn hm).1 ?_, List.mem_singleton.1 h⟩
        rw [show ((k : Int) + 1).toNat = k + 1 by omega]
        exact c.1
    · exact pas_mem hn d k (by omega) p h
theorem pa_pt {l d : List E} (ha : allE l = 0) (o : Oth l d) {m : Int} (hm : nod m) : Pt (d.map trE) (paP (ndS l) d m) ∧ (paP (ndS l) d m).length ≤ 64 := by
  have hd : ∀ y ∈ d, okT (trE y) := fun z hz => may_ok (oth_may ha o z hz)
  have hn := nd_nod (l := l)
  obtain ⟨h1, h2⟩ := pa_ns hn hd hm
  refine ⟨⟨h1, fun e he => ?_⟩, h2⟩
  obtain ⟨z, hz, rfl⟩ := List.mem_map.1 he
  obtain ⟨y, hy, ey⟩ := List.mem_map.1 (o.m z hz)
  have k := hd z hz
  have e0 : ri y 0 = (trE z).1 := congrArg (fun t : T => t.1) ey
  have e1 : ri y 1 = (trE z).2.1 := congrArg (fun t : T => t.2.1) ey
  have n0 : (trE z).1 ∈ ndS l := nd_mem.2 ⟨k.1, y, hy, .inl e0⟩
  have n1 : (trE z).2.1 ∈ ndS l := nd_mem.2 ⟨k.2, y, hy, .inr e1⟩
  rw [pa_mem hn hd hm, pa_mem hn hd hm]
  exact ⟨fun g => ⟨k.2, n1, cn_trans g.2.2 (cn_edge he)⟩, fun g => ⟨k.1, n0, cn_trans g.2.2 (cn_back he)⟩⟩
theorem hs_iff (l : List E) (x : E) : hsB l (ri x 0) (ri x 1) (ri x 2) = true ↔ trE x ∈ l.map trE := by
  have := has3_iff l x
  exact this
/-- What a part chooses. -/
theorem cr_part {l d : List E} (ha : allE l = 0) (hl : l.length ≤ 24) (o : Oth l d) {i : Int} (h0 : 0 ≤ i) (hi : i < (paO (ndS l) d).length) :
    (rl ((paO (ndS l) d).getD i.toNat []) 0).length ≤ 64 ∧ (vw4 l d (rl ((paO (ndS l) d).getD i.toNat []) 0)).length ≤ 48 ∧ chE (rl ((paO (ndS l) d).getD i.toNat []) 0) (vw4 l d (rl ((paO (ndS l) d).getD i.toNat []) 0)) = 0 ∧
    ∀ x ∈ l, (ri x 0 = (chF (rl ((paO (ndS l) d).getD i.toNat []) 0) (vw4 l d (rl ((paO (ndS l) d).getD i.toNat []) 0))).a ∧ ri x 1 = (chF (rl ((paO (ndS l) d).getD i.toNat []) 0) (vw4 l d (rl ((paO (ndS l) d).getD i.toNat []) 0))).b ∨ ri x 0 = (chF (rl ((paO (ndS l) d).getD i.toNat []) 0) (vw4 l d (rl ((paO (ndS l) d).getD i.toNat []) 0))).b ∧ ri x 1 = (chF (rl ((paO (ndS l) d).getD i.toNat []) 0) (vw4 l d (rl ((paO (ndS l) d).getD i.toNat []) 0))).a) →
      (hsB (rlB l) (ri x 0) (ri x 1) (ri x 2) = true ↔ (chF (rl ((paO (ndS l) d).getD i.toNat []) 0) (vw4 l d (rl ((paO (ndS l) d).getD i.toNat []) 0))).k = 2) := by
  obtain ⟨m, hm, _, e⟩ := pas_mem (nd_nod (l := l)) d 64 (Nat.le_refl 64) _ (CgV.getD_in (z := ([] : E)) (show i.toNat < (paO (ndS l) d).length by omega))
  have e : (paO (ndS l) d).getD i.toNat [] = [D.ints (paP (ndS l) d m)] := e
  rw [e]
  show (paP (ndS l) d m).length ≤ 64 ∧ (vw4 l d (paP (ndS l) d m)).length ≤ 48 ∧ chE (paP (ndS l) d m) (vw4 l d (paP (ndS l) d m)) = 0 ∧ ∀ x ∈ l, (ri x 0 = (chF (paP (ndS l) d m) (vw4 l d (paP (ndS l) d m))).a ∧ ri x 1 = (chF (paP (ndS l) d m) (vw4 l d (paP (ndS l) d m))).b ∨ ri x 0 = (chF (paP (ndS l) d m) (vw4 l d (paP (ndS l) d m))).b ∧ ri x 1 = (chF (paP (ndS l) d m) (vw4 l d (paP (ndS l) d m))).a) → (hsB (rlB l) (ri x 0) (ri x 1) (ri x 2) = true ↔ (chF (paP (ndS l) d m) (vw4 l d (paP (ndS l) d m))).k = 2)
  obtain ⟨p, hp⟩ := pa_pt ha o hm
  obtain ⟨c0, c1⟩ := g_right ha hl o p
  refine ⟨hp, g_len ha hl p, c0, fun x hx hc => ?_⟩
  rw [hs_iff, rl_kru (all_good ha)]
  exact c1 x hx hc
/-! ## How the bound edges come -/
structure XO2 where
  i : Int
  o : List E
def pQ (l : List E) (y : XO2) : Prop := 0 ≤ y.i ∧ y.i ≤ l.length ∧ Oth l y.o ∧ y.o.length ≤ y.i
def pM (l : List E) (y : XO2) : Nat := l.length - y.i.toNat
def pR (n m : Nat) (st : St) : XO2 := ⟨slotI st n, ctR (match slotC st m with | .sl _ c => c | _ => .recs .nil [])⟩
theorem p_all {l : List E} (h : allE l = 0) (hl : l.length ≤ 24) {i : Int} {o : List E} (hq : pQ l ⟨i, o⟩) : 0 ≤ i ∧ i ≤ l.length ∧ inR o = true ∧ o.length ≤ 24 ∧ (i < l.length → stdBin .add .i64 i 1 = i + 1 ∧ (∀ p, pM l ⟨i + 1, p⟩ < pM l ⟨i, o⟩) ∧ pQ l ⟨i + 1, o⟩ ∧ (lkR o (ri (l.getD i.toNat []) 0) (ri (l.getD i.toNat []) 1) = false → pQ l ⟨i + 1, o ++ [[D.int (ri (l.getD i.toNat []) 0), D.int (ri (l.getD i.toNat []) 1), D.int (ri (l.getD i.toNat []) 2)]]⟩)) := by
  obtain ⟨h0, h1, h2, h3⟩ := hq
  simp only at h0 h1 h2 h3
  refine ⟨h0, h1, oth_in h h2 (by omega), by omega, fun hi => ⟨by rw [b_add, wr _ (by omega) (by omega)], fun p => by simp only [pM]; omega, ⟨by simp only; omega, by simp only; omega, h2, by simp only; omega⟩, fun g => ⟨by simp only; omega, by simp only; omega, oth_more h h2 (CgV.getD_in (by omega)) g, by simp only [List.length_append, List.length_singleton]; omega⟩⟩⟩
structure XG where
  i : Int
def gQ (l : List E) (y : XG) : Prop := 0 ≤ y.i ∧ y.i ≤ l.length
def gM (l : List E) (y : XG) : Nat := l.length - y.i.toNat
def gR (n : Nat) (st : St) : XG := ⟨slotI st n⟩
theorem g_all {l : List E} (hl : l.length ≤ 1000000) {i : Int} (hq : gQ l ⟨i⟩) : 0 ≤ i ∧ i ≤ l.length ∧ (i < l.length → stdBin .add .i64 i 1 = i + 1 ∧ gQ l ⟨i + 1⟩ ∧ gM l ⟨i + 1⟩ < gM l ⟨i⟩) := by
  obtain ⟨h0, h1⟩ := hq
  simp only at h0 h1
  exact ⟨h0, h1, fun h => ⟨by rw [b_add, wr _ (by omega) (by omega)], ⟨by simp only; omega, by simp only; omega⟩, by simp only [gM]; omega⟩⟩
theorem pao_len (n : List Int) (l : List E) : (paO n l).length ≤ 64 := (paS_len n l 64).2
end Go.Proofs.Ytfioaidmgcibaaa.CgL
