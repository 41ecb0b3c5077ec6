/-
  What a root does, by the code and by the document. No condition.
-/
import Derived.Test.YtfioaidmgcibaaaChQ
import Derived.Test.YtfioaidmgcibaaaTrX
import Derived.Test.YtfioaidmgcibaaaRoV
namespace Go.Proofs.Ytfioaidmgcibaaa.ChT
open Go Go.Proofs.Ytfioaidmgcibaaa.Ry Go.Proofs.Ytfioaidmgcibaaa.ViR Go.Proofs.Ytfioaidmgcibaaa.ViL Go.Proofs.Ytfioaidmgcibaaa.ViT Go.Proofs.Ytfioaidmgcibaaa.ChR Go.Proofs.Ytfioaidmgcibaaa.ChQ
open Go.Proofs.Ytfioaidmgcibaaa.EcX (cmpF cmpF_neg)
open Go.Proofs.Ytfioaidmgcibaaa.SpR (forB)
open Go.Proofs.Ytfioaidmgcibaaa.SpQ (lkR lsW inR inR_iff)
open Go.Proofs.Ytfioaidmgcibaaa.EgR (trE)
open Go.Proofs.Ytfioaidmgcibaaa.TrC (onR mxT mx_ok cmp_ls)
open Go.Proofs.Ytfioaidmgcibaaa.TrR (for_fo ckF)
open Go.Proofs.Ytfioaidmgcibaaa.TrQ (hvE hvB)
open Go.Proofs.Ytfioaidmgcibaaa.TrX (rt_mk ways_all)
open Go.Proofs.Ytfioaidmgcibaaa.SoC (srtC srtC_all)

section
open Go.Proofs.Ytfioaidmgcibaaa.So Go.Proofs.Ytfioaidmgcibaaa.JoS Go.Proofs.Ytfioaidmgcibaaa.EcX Go.Proofs.Ytfioaidmgcibaaa.EgR Go.Proofs.Ytfioaidmgcibaaa.EgL Go.Proofs.Ytfioaidmgcibaaa.SpR Go.Proofs.Ytfioaidmgcibaaa.SpQ Go.Proofs.Ytfioaidmgcibaaa.SpK Go.Proofs.Ytfioaidmgcibaaa.SpT Go.Proofs.Ytfioaidmgcibaaa.SpL Go.Proofs.Ytfioaidmgcibaaa.SpN
theorem may_mem {n : List Int} {l : List E} (h : mayV n l = true) {y : E} (hy : y ∈ l) : mb1 y = true ∧ n.contains (ri y 0) = true := by
  obtain ⟨k, hk, e⟩ := List.getElem_of_mem hy
  have := may_l h k hk
  rw [Go.Proofs.Ytfioaidmgcibaaa.ViR.at_rec l k hk, e] at this
  exact ⟨this.1, this.2.1⟩
def key (y : E) : Int × Int := (ri y 0, ri y 1)
theorem in_sub (l0 : List E) : ∀ l : List E, ((l.flatMap (ViL.in1 l0)).map key).Sublist (l.map key)
  | [] => .slnil
  | y :: l => by
    rw [List.flatMap_cons, List.map_append, List.map_cons]
    unfold ViL.in1
    split
    · exact (in_sub l0 l).cons_cons _
    · exact (in_sub l0 l).cons _
theorem bo_sub : ∀ l : List E, (∀ y ∈ l, ri y 0 < ri y 1) → (((boF l).map trE).map fun y => (y.1, y.2.1)).Sublist (l.map key)
  | [], _ => .slnil
  | y :: l, h => by
    have ih := bo_sub l fun z hz => h z (List.mem_cons_of_mem _ hz)
    have hy := h y (List.mem_cons_self ..)
    unfold boF at ih ⊢
    rw [List.flatMap_cons, List.map_append, List.map_append, List.map_cons]
    unfold bo1
    split
    · have e : ([[D.int (edA (ri y 0) (ri y 1)), D.int (edB (ri y 0) (ri y 1)), D.int (ri y 2)]].map trE).map (fun y => (y.1, y.2.1)) = [key y] := by
        show [(edA (ri y 0) (ri y 1), edB (ri y 0) (ri y 1))] = _
        unfold edA edB key
        rw [if_neg (by omega), if_neg (by omega)]
      rw [e]
      exact ih.cons_cons _
    · exact ih.cons _
theorem bo_mem {l : List E} {e : T} (h : e ∈ (boF l).map trE) : ∃ y ∈ l, e = (edA (ri y 0) (ri y 1), edB (ri y 0) (ri y 1), ri y 2) := by
  obtain ⟨z, hz, rfl⟩ := List.mem_map.1 h
  unfold boF at hz
  obtain ⟨y, hy, hz⟩ := List.mem_flatMap.1 hz
  unfold bo1 at hz
  split at hz
  · rw [List.mem_singleton.1 hz]
    exact ⟨y, hy, rfl⟩
  · cases hz
/-- What is bound is edges that may be together, between nodes of the view. -/
theorem bnd_ok {n : List Int} {l : List E} (h : mayV n l = true) : goodT ((boF (inF l)).map trE) ∧ ∀ e ∈ (boF (inF l)).map trE, n.contains e.1 = true ∧ n.contains e.2.1 = true := by
  have pw := may_pw h
  have one : ∀ e ∈ (boF (inF l)).map trE, mayE e.1 e.2.1 e.2.2 = true ∧ n.contains e.1 = true ∧ n.contains e.2.1 = true := fun e he => by
    obtain ⟨a, ha, rfl⟩ := bo_mem he
    obtain ⟨y, hy, z, hz, c0, c1, c2, c3, c4, rfl⟩ := in_mem h ha
    obtain ⟨m1, m2⟩ := may_mem h hy
    obtain ⟨_, m4⟩ := may_mem h hz
    rw [c1] at m4
    unfold mb1 ViR.mbB ViR.nodB at m1
    rw [decide_eq_true_eq, decide_eq_true_eq, decide_eq_true_eq] at m1
    show mayE (edA (ri y 0) (ri y 1)) (edB (ri y 0) (ri y 1)) (ri y 2) = true ∧ n.contains (edA (ri y 0) (ri y 1)) = true ∧ n.contains (edB (ri y 0) (ri y 1)) = true
    unfold edA edB mayE
    rw [if_neg (by omega), if_neg (by omega), decide_eq_true_eq]
    exact ⟨by omega, m2, m4⟩
  refine ⟨⟨fun e he => (one e he).1, ?_⟩, fun e he => (one e he).2⟩
  have nd : (l.map key).Nodup := by
    refine List.pairwise_map.2 (pw.imp fun {x y} k e => ?_)
    unfold key at e
    rw [Prod.mk.injEq] at e
    unfold ln at k
    omega
  refine nd.sublist ((bo_sub (inF l) fun y hy => ?_).trans (in_sub l l))
  obtain ⟨y, _, z, _, c0, _, _, _, _, rfl⟩ := in_mem h hy
  exact c0
theorem bnd_all {n : List Int} {l : List E} (h : mayV n l = true) (hl : l.length ≤ 512) : allE (boV n l) = 0 ∧ boV n l = boF (rinF l) ∧ (boV n l).length ≤ 512 := by
  have e : boV n l = boF (inF l) := if_pos h
  have a := bo_len (inF l)
  have b := in_len l
  rw [e, in_eq h]
  exact ⟨(all_iff _).2 ⟨(bnd_ok h).1, by omega⟩, rfl, by omega⟩
end
theorem cmp_lt (a b c x y z : Int) : cmpF a b c x y z < 0 ↔ lsW a b c x y z = true := by
  rw [← cmp_ls, cmpF_neg a b c x y z]
  omega
/-! ## The first of links -/
def lsK (x y : K5) : Bool := lsW (edA x.1 x.2.1) (edB x.1 x.2.1) x.2.2.1 (edA y.1 y.2.1) (edB y.1 y.2.1) y.2.2.1
def fi1 (l : List E) (b : Int) (i : Nat) : Int := if b < 0 ∨ lsK (k5 (l.getD i [])) (k5 (l.getD b.toNat [])) = true then (i : Int) else b
def fiF (l : List E) (k : Nat) : Int := (List.range k).foldl (fi1 l) (-1)
theorem fi_next (l : List E) (k : Nat) : fiF l (k + 1) = fi1 l (fiF l k) k := by
  unfold fiF
  rw [List.range_succ, List.foldl_append]
  rfl
theorem mn_k (c : K5) (y : E) : mn1 c y = if lsK (k5 y) c = true then k5 y else c := by
  have e : (cK (ri y 0) (ri y 1) (ri y 2) c.1 c.2.1 c.2.2.1 < 0) ↔ lsK (k5 y) c = true := cmp_lt _ _ _ _ _ _
  unfold mn1
  by_cases h : lsK (k5 y) c = true
  · rw [if_pos h, if_pos (e.2 h)]
  · rw [if_neg h, if_neg (fun g => h (e.1 g))]
theorem fi_ok (l : List E) : ∀ k : Nat, k + 1 ≤ l.length → 0 ≤ fiF l (k + 1) ∧ fiF l (k + 1) < (k : Int) + 1 ∧ k5 (l.getD (fiF l (k + 1)).toNat []) = mnT (l.take (k + 1))
  | 0, h => by
    have e : fiF l 1 = 0 := rfl
    rw [e]
    refine ⟨Int.le_refl 0, by omega, ?_⟩
    cases l with
    | nil => exact absurd h (by decide)
    | cons y l => exact (mn_self y).symm
  | k + 1, h => by
    obtain ⟨h0, h1, h2⟩ := fi_ok l k (by omega)
    have hn := mn_next (l := l) (i := (k : Int) + 1) (by omega) (by omega)
    rw [show ((k : Int) + 1 + 1).toNat = k + 1 + 1 by omega, show ((k : Int) + 1).toNat = k + 1 by omega, mn_k, ← h2] at hn
    rw [fi_next]
    unfold fi1
    by_cases c : lsK (k5 (l.getD (k + 1) [])) (k5 (l.getD (fiF l (k + 1)).toNat [])) = true
    · rw [if_pos (.inr c)]
      rw [if_pos c] at hn
      refine ⟨by omega, by omega, ?_⟩
      rw [hn]
      rfl
    · rw [if_neg (by rintro (g | g) <;> first | omega | exact c g)]
      rw [if_neg c] at hn
      exact ⟨h0, by omega, hn.symm⟩
theorem fi_end (l : List E) : (l.length = 0 → fiF l l.length = -1) ∧ (0 < l.length → 0 ≤ fiF l l.length ∧ fiF l l.length < l.length ∧ k5 (l.getD (fiF l l.length).toNat []) = mnT l) := by
  constructor
  · intro h
    rw [h]
    rfl
  · intro h
    have g := fi_ok l (l.length - 1) (by omega)
    rw [show l.length - 1 + 1 = l.length by omega, List.take_length] at g
    exact ⟨g.1, by omega, g.2.2⟩
/-- What the first is ahead of. -/
theorem ls_irr (x : K5) : lsK x x = false := by
  rw [← Bool.not_eq_true]
  unfold lsK
  rw [← cmp_lt]
  have := cmpF_neg (edA x.1 x.2.1) (edB x.1 x.2.1) x.2.2.1 (edA x.1 x.2.1) (edB x.1 x.2.1) x.2.2.1
  omega
theorem ls_iff (x y : E) : lsK (k5 x) (k5 y) = true ↔ SoC.ltE x y := by
  have ea : ∀ n p : Int, edA n p = min n p := fun n p => by unfold edA; split <;> omega
  have eb : ∀ n p : Int, edB n p = max n p := fun n p => by unfold edB; split <;> omega
  show lsW (edA (ri x 0) (ri x 1)) (edB (ri x 0) (ri x 1)) (ri x 2) (edA (ri y 0) (ri y 1)) (edB (ri y 0) (ri y 1)) (ri y 2) = true ↔ _
  rw [← cmp_lt, ea, eb, ea, eb]
  exact EcX.cmpF_lt _ _ _ _ _ _
theorem lt_tr {x y z : E} (h : SoC.ltE x y) (g : SoC.ltE y z) : SoC.ltE x z := by unfold SoC.ltE at *; omega
theorem mn_min : ∀ (l : List E) (y : E), ∃ z, (z = y ∨ z ∈ l) ∧ l.foldl mn1 (k5 y) = k5 z ∧ ¬ SoC.ltE y z ∧ ∀ w ∈ l, ¬ SoC.ltE w z
  | [], y => ⟨y, .inl rfl, rfl, fun h => by unfold SoC.ltE at h; omega, fun w hw => by cases hw⟩
  | x :: l, y => by
    rw [List.foldl_cons, mn_k]
    by_cases c : lsK (k5 x) (k5 y) = true
    · rw [if_pos c]
      obtain ⟨z, h1, h2, h3, h4⟩ := mn_min l x
      have c' := (ls_iff x y).1 c
      refine ⟨z, .inr (h1.elim (fun e => by rw [e]; exact List.mem_cons_self ..) fun e => List.mem_cons_of_mem _ e), h2, fun k => h3 (lt_tr c' k), fun w hw => ?_⟩
      rcases List.mem_cons.1 hw with rfl | hw
      · exact h3
      · exact h4 w hw
    · rw [if_neg c]
      obtain ⟨z, h1, h2, h3, h4⟩ := mn_min l y
      have c' : ¬ SoC.ltE x y := fun k => c ((ls_iff x y).2 k)
      refine ⟨z, h1.elim .inl fun e => .inr (List.mem_cons_of_mem _ e), h2, h3, fun w hw => ?_⟩
      rcases List.mem_cons.1 hw with rfl | hw
      · intro k
        unfold SoC.ltE at *
        omega
      · exact h4 w hw
theorem mn_all {l : List E} (h : 0 < l.length) : ∃ z ∈ l, mnT l = k5 z ∧ ∀ w ∈ l, ¬ SoC.ltE w z := by
  cases l with
  | nil => exact absurd h (by decide)
  | cons y l =>
    obtain ⟨z, h1, h2, h3, h4⟩ := mn_min (y :: l) y
    refine ⟨z, h1.elim (fun e => by rw [e]; exact List.mem_cons_self ..) id, h2, h4⟩
/-! ## Inner links -/
theorem in_two' {n : List Int} {l : List E} (h : mayV n l = true) {y : E} (hy : y ∈ inF l) : ri y 0 < ri y 1 ∧ nodB (ri y 0) = true ∧ nodB (ri y 1) = true ∧ 1 ≤ ri y 3 ∧ ri y 3 ≤ 2147483647 := by
  obtain ⟨x, hx, z, hz, c0, _, _, _, _, rfl⟩ := in_mem h hy
  have m := (may_mem h hx).1
  unfold mb1 mbB at m
  rw [decide_eq_true_eq] at m
  exact ⟨c0, m.1, m.2.1, m.2.2.2.2.2.1, m.2.2.2.2.2.2⟩
theorem in_nd {n : List Int} {l : List E} (h : mayV n l = true) : ((inF l).map key).Nodup := by
  refine List.Nodup.sublist (in_sub l l) ?_
  refine List.pairwise_map.2 ((may_pw h).imp fun {x y} k e => ?_)
  unfold key at e
  rw [Prod.mk.injEq] at e
  unfold ln at k
  omega
theorem in_uni {n : List Int} {l : List E} (h : mayV n l = true) {y z : E} (hy : y ∈ inF l) (hz : z ∈ inF l) (e0 : ri y 0 = ri z 0) (e1 : ri y 1 = ri z 1) : y = z :=
  TrX.pw_inj (in_nd h) hy hz (by unfold key; rw [e0, e1])
/-- Links by their edges: of inner links those that are not ahead of one another are one. -/
theorem in_lt {n : List Int} {l : List E} (h : mayV n l = true) {y z : E} (hy : y ∈ inF l) (hz : z ∈ inF l) (g1 : ¬ SoC.ltE y z) (g2 : ¬ SoC.ltE z y) : y = z := by
  have a := (in_two' h hy).1
  have b := (in_two' h hz).1
  refine in_uni h hy hz ?_ ?_ <;> (unfold SoC.ltE at g1 g2; omega)
/-! ## Light links -/
def e5 (y : E) : E := [D.int (ri y 0), D.int (ri y 1), D.int (ri y 2), D.int (ri y 3), D.bool (rb y 4)]
def liP (d : List E) (y : E) : Bool := !rb y 4 && (lkR d (edA (ri y 0) (ri y 1)) (edB (ri y 0) (ri y 1)) && lsW (edA (ri y 0) (ri y 1)) (edB (ri y 0) (ri y 1)) (ri y 2) (mxT (onR d (edA (ri y 0) (ri y 1)) (edB (ri y 0) (ri y 1)))).1 (mxT (onR d (edA (ri y 0) (ri y 1)) (edB (ri y 0) (ri y 1)))).2.1 (mxT (onR d (edA (ri y 0) (ri y 1)) (edB (ri y 0) (ri y 1)))).2.2)
def li1 (d : List E) (y : E) : List E := if liP d y = true then [e5 y] else []
def liF (d l : List E) : List E := l.flatMap (li1 d)
theorem li1_len (d : List E) (y : E) : (li1 d y).length ≤ 1 := by unfold li1; split <;> simp
/-- An edge's way on a forest, and its heaviest edge. -/
theorem hv_all {d : List E} (hd : forB d = true) {a b : Int} (ha : nodB a = true) (hb : nodB b = true) (ne : a ≠ b) : (hvE d a b = 0 ↔ lkR d a b = true) ∧ (lkR d a b = true → 0 < (onR d a b).length ∧ hvB d a b = mxT (onR d a b)) := by
  have hc : ckF d a b = 0 := if_pos ⟨ha, hb, hd⟩
  have hm := rt_mk hc
  obtain ⟨_, _, _, w4, w5⟩ := ways_all d a b
  constructor
  · constructor
    · intro h
      refine hm.1 (Decidable.byContradiction fun g => ?_)
      have := (w4 g).2.2.1
      rw [h] at this
      exact g this.symm
    · intro h
      exact ((w5 (hm.2 h)).2.2 ne).2.2.1
  · intro h
    have := ((w5 (hm.2 h)).2.2 ne).2.2.2
    exact this
theorem ed_lt {n p : Int} (h : n < p) : edA n p = n ∧ edB n p = p := by
  unfold edA edB
  rw [if_neg (by omega), if_neg (by omega)]
  exact ⟨rfl, rfl⟩
theorem ev_li {n : List Int} {l d : List E} (h : mayV n l = true) (hd : forB d = true) {y : E} (hy : y ∈ inF l) : evP d y = liP d y := by
  obtain ⟨h1, h2, h3, _⟩ := in_two' h hy
  obtain ⟨ea, eb⟩ := ed_lt h1
  obtain ⟨v1, v2⟩ := hv_all hd h2 h3 (by omega)
  unfold evP liP
  rw [ea, eb]
  congr 1
  rw [Bool.eq_iff_iff, Bool.and_eq_true, Bool.and_eq_true, decide_eq_true_eq, decide_eq_true_eq, v1]
  constructor
  · rintro ⟨g1, g2⟩
    rw [(v2 g1).2, cmp_lt] at g2
    exact ⟨g1, g2⟩
  · rintro ⟨g1, g2⟩
    rw [(v2 g1).2, cmp_lt]
    exact ⟨g1, g2⟩
theorem li_mem {d l : List E} {t : E} : t ∈ liF d l ↔ ∃ y ∈ l, liP d y = true ∧ t = e5 y := by
  unfold liF li1
  rw [List.mem_flatMap]
  constructor
  · rintro ⟨y, hy, g⟩
    split at g
    · rename_i c
      exact ⟨y, hy, c, List.mem_singleton.1 g⟩
    · cases g
  · rintro ⟨y, hy, c, rfl⟩
    exact ⟨y, hy, by rw [if_pos c]; exact List.mem_singleton.2 rfl⟩
/-- The first that the code finds is the document's first. -/
theorem ev_all {n : List Int} {l d : List E} (h : mayV n l = true) (hd : forB d = true) :
    (evF (inF l) d = none → (liF d (inF l)).length = 0) ∧ ∀ y, evF (inF l) d = some y → y ∈ inF l ∧ liP d y = true ∧ 0 < (liF d (inF l)).length ∧ mnT (liF d (inF l)) = k5 y := by
  obtain ⟨_, hp, hs⟩ := srtC_all (inF l)
  constructor
  · intro g
    unfold evF at g
    rw [List.find?_eq_none] at g
    cases e : liF d (inF l) with
    | nil => rfl
    | cons t r =>
      have ht : t ∈ liF d (inF l) := by rw [e]; exact List.mem_cons_self ..
      obtain ⟨y, hy, c, _⟩ := li_mem.1 ht
      exact absurd (by rw [ev_li h hd hy]; exact c) (g y (hp.mem_iff.2 hy))
  · intro y g
    unfold evF at g
    obtain ⟨gp, us, bs, e, gn⟩ := List.find?_eq_some_iff_append.1 g
    have hy : y ∈ inF l := hp.mem_iff.1 (by rw [e]; simp)
    rw [ev_li h hd hy] at gp
    have hm : e5 y ∈ liF d (inF l) := li_mem.2 ⟨y, hy, gp, rfl⟩
    have hl : 0 < (liF d (inF l)).length := List.length_pos_of_mem hm
    refine ⟨hy, gp, hl, ?_⟩
    obtain ⟨t, ht, e1, e2⟩ := mn_all hl
    obtain ⟨z, hz, cz, rfl⟩ := li_mem.1 ht
    have a1 : ¬ SoC.ltE y z := e2 (e5 y) hm
    have a2 : ¬ SoC.ltE z y := by
      have hz' : z ∈ us ++ y :: bs := by rw [← e]; exact hp.mem_iff.2 hz
      rcases List.mem_append.1 hz' with q | q
      · have := gn z q
        rw [ev_li h hd hz, cz] at this
        cases this
      · rcases List.mem_cons.1 q with rfl | q
        · exact a1
        · rw [e, List.pairwise_append] at hs
          exact (List.pairwise_cons.1 hs.2.1).1 z q
    rw [e1, in_lt h hy hz a1 a2]
    rfl
/-- What is evicted is an inner link's edge. -/
theorem ev_in {n : List Int} {l : List E} (h : mayV n l = true) (hd : forB (boV n l) = true) {y : E} (hy : y ∈ inF l) (hl : liP (boV n l) y = true) :
    lkR (boV n l) (ri y 0) (ri y 1) = true ∧ edA (ri y 0) (ri y 1) = ri y 0 ∧ edB (ri y 0) (ri y 1) = ri y 1 ∧ 0 < (onR (boV n l) (ri y 0) (ri y 1)).length ∧ hvB (boV n l) (ri y 0) (ri y 1) = mxT (onR (boV n l) (ri y 0) (ri y 1)) ∧
    ∃ z ∈ inF l, hvB (boV n l) (ri y 0) (ri y 1) = (ri z 0, ri z 1, ri z 2) ∧ isE (hvB (boV n l) (ri y 0) (ri y 1)).1 (hvB (boV n l) (ri y 0) (ri y 1)).2.1 (hvB (boV n l) (ri y 0) (ri y 1)).2.2 z = true := by
  obtain ⟨h1, h2, h3, _⟩ := in_two' h hy
  obtain ⟨ea, eb⟩ := ed_lt h1
  unfold liP at hl
  rw [ea, eb, Bool.and_eq_true, Bool.and_eq_true] at hl
  obtain ⟨v1, v2⟩ := (hv_all hd h2 h3 (by omega)).2 hl.2.1
  refine ⟨hl.2.1, ea, eb, v1, v2, ?_⟩
  have hne : onR (boV n l) (ri y 0) (ri y 1) ≠ [] := fun e => by rw [e] at v1; exact absurd v1 (by decide)
  have hm := (mx_ok hne).1
  rw [← v2] at hm
  obtain ⟨w, hw, e⟩ := List.mem_map.1 hm
  unfold onR at hw
  obtain ⟨x, hx, rfl⟩ := List.mem_map.1 hw
  have hx2 := (List.mem_filter.1 hx).1
  have ex : trE (SpQ.e3 x) = trE x := rfl
  rw [ex] at e
  have hb : boV n l = boF (inF l) := if_pos h
  rw [hb] at hx2
  obtain ⟨z, hz, ez⟩ := bo_mem (List.mem_map_of_mem (f := trE) hx2)
  obtain ⟨f1, f2⟩ := ed_lt (in_two' h hz).1
  rw [f1, f2, e] at ez
  refine ⟨z, hz, ez, ?_⟩
  unfold isE
  rw [decide_eq_true_eq, f1, f2, ez]
  exact ⟨rfl, rfl, rfl⟩
theorem se_in {l : List E} {a b w : Int} (h : ∃ z ∈ l, isE a b w z = true) : ∃ z ∈ l, isE a b w z = true ∧ seF l a b w = ri z 3 := by
  unfold seF
  cases e : l.find? (isE a b w) with
  | none =>
    obtain ⟨z, hz, g⟩ := h
    rw [List.find?_eq_none] at e
    exact absurd g (e z hz)
  | some z => exact ⟨z, List.mem_of_find?_eq_some e, List.find?_some e, rfl⟩
/-- A choice may be. -/
theorem ch_may {n : List Int} {l : List E} (h0 : chE n l = 0) : mayC (chF n l).k (chF n l).a (chF n l).b (chF n l).s = true := by
  have hm : mayV n l = true ∧ forB (boV n l) = true := by
    unfold chE at h0
    split at h0
    · split at h0
      · exact ⟨‹_›, ‹_›⟩
      · cases h0
    · cases h0
  obtain ⟨h, hd⟩ := hm
  have ei : inV n l = inF l := if_pos h
  unfold chF
  rw [if_neg (fun k => k h0)]
  split
  · rename_i c
    rw [ei] at c ⊢
    unfold evB at c
    unfold evC
    cases e : evF (inF l) (boV n l) with
    | none => rw [e] at c; cases c
    | some y =>
      obtain ⟨hy, hp, _⟩ := (ev_all h hd).2 y e
      obtain ⟨_, _, _, _, _, z, hz, e1, e2⟩ := ev_in h hd hy hp
      obtain ⟨x, hx, _, e3⟩ := se_in ⟨z, hz, e2⟩
      obtain ⟨a1, a2, a3, _⟩ := in_two' h hz
      obtain ⟨_, _, _, b4, b5⟩ := in_two' h hx
      unfold mayC
      rw [decide_eq_true_eq]
      right
      simp only
      rw [e3, e1]
      exact ⟨.inr trivial, a2, a3, by simp only; omega, b4, b5, .inr a1⟩
  · split
    · rename_i c
      obtain ⟨z, hz, e1, _⟩ := mn_all c
      have eo : ouV n l = ouF n l := if_pos h
      rw [eo] at hz
      unfold ouF at hz
      obtain ⟨y, hy, g⟩ := List.mem_flatMap.1 hz
      unfold ou1 at g
      split at g
      · cases g
      · rw [List.mem_singleton.1 g] at e1
        have m := (may_mem h hy).1
        unfold mb1 mbB at m
        rw [decide_eq_true_eq] at m
        unfold mayC
        rw [decide_eq_true_eq, e1]
        right
        exact ⟨.inl rfl, m.1, m.2.1, m.2.2.1, m.2.2.2.2.2.1, m.2.2.2.2.2.2, .inl rfl⟩
    · rfl
end Go.Proofs.Ytfioaidmgcibaaa.ChT
namespace Go.Proofs.Ytfioaidmgcibaaa.ChA
open Go Go.Proofs.Ytfioaidmgcibaaa.Ry Go.Proofs.Ytfioaidmgcibaaa.Cmp Go.Proofs.Ytfioaidmgcibaaa.ViR Go.Proofs.Ytfioaidmgcibaaa.ViL Go.Proofs.Ytfioaidmgcibaaa.ViT Go.Proofs.Ytfioaidmgcibaaa.ChR Go.Proofs.Ytfioaidmgcibaaa.ChQ Go.Proofs.Ytfioaidmgcibaaa.ChT

open Go.Proofs.Ytfioaidmgcibaaa.ViQ (c_rinner ok_rinner c_rbound ok_rbound c_router ok_router c_redge ok_redge)
open Go.Proofs.Ytfioaidmgcibaaa.SpQ (c_rlinked ok_rlinked c_rless ok_rless lkR lsW inR inR_iff)
open Go.Proofs.Ytfioaidmgcibaaa.TrQ (c_on ok_on c_heaviest ok_heaviest hvB on_len)
open Go.Proofs.Ytfioaidmgcibaaa.TrC (onR mxT)
open Go.Proofs.Ytfioaidmgcibaaa.RoV (c_rview ok_rview)
open Go.Proofs.Ytfioaidmgcibaaa.SpR (forB)
open Go.Proofs.Ytfioaidmgcibaaa.EgR (trE)
structure XF where
  i : Int
  b : Int
def fiQ (l : List E) (y : XF) : Prop := 0 ≤ y.i ∧ y.i ≤ l.length ∧ y.b = fiF l y.i.toNat
def fiM (l : List E) (y : XF) : Nat := l.length - y.i.toNat
noncomputable def fiI (l : List E) (y : XF) : St := stOf Try.f73.ntmps [(0, .sl none (.recs (.int .i64 (.int .i64 (.int .i64 (.int .i64 (.bool .nil))))) l)), (3, .val (.int .i64 y.b)), (4, .val (.int .i64 y.i))] [] [Any]
def fiR (st : St) : XF := ⟨slotI st 4, slotI st 3⟩
theorem fi_bd (l : List E) : ∀ k : Nat, k ≤ l.length → -1 ≤ fiF l k ∧ fiF l k < k
  | 0, _ => ⟨Int.le_refl _, by show (-1 : Int) < 0; decide⟩
  | k + 1, h => by
    obtain ⟨h0, h1, _⟩ := fi_ok l k (by omega)
    omega
theorem fi_step {l : List E} (hl : l.length ≤ 1000000) {i b : Int} (hq : fiQ l ⟨i, b⟩) : 0 ≤ i ∧ i ≤ l.length ∧ -1 ≤ b ∧ b < i + 1 ∧ (¬ b < 0 → b < i) ∧ (i < l.length → stdBin .add .i64 i 1 = i + 1 ∧ (∀ b', fiM l ⟨i + 1, b'⟩ < fiM l ⟨i, b⟩) ∧
    ((b < 0 ∨ lsW (edA (ri (l.getD i.toNat []) 0) (ri (l.getD i.toNat []) 1)) (edB (ri (l.getD i.toNat []) 0) (ri (l.getD i.toNat []) 1)) (ri (l.getD i.toNat []) 2) (edA (ri (l.getD b.toNat []) 0) (ri (l.getD b.toNat []) 1)) (edB (ri (l.getD b.toNat []) 0) (ri (l.getD b.toNat []) 1)) (ri (l.getD b.toNat []) 2) = true) → fiQ l ⟨i + 1, i⟩) ∧
    (¬ (b < 0 ∨ lsW (edA (ri (l.getD i.toNat []) 0) (ri (l.getD i.toNat []) 1)) (edB (ri (l.getD i.toNat []) 0) (ri (l.getD i.toNat []) 1)) (ri (l.getD i.toNat []) 2) (edA (ri (l.getD b.toNat []) 0) (ri (l.getD b.toNat []) 1)) (edB (ri (l.getD b.toNat []) 0) (ri (l.getD b.toNat []) 1)) (ri (l.getD b.toNat []) 2) = true) → fiQ l ⟨i + 1, b⟩)) ∧ (¬ i < l.length → b = fiF l l.length) := by
  obtain ⟨h0, h1, h2⟩ := hq
  simp only at h0 h1 h2
  obtain ⟨b0, b1⟩ := fi_bd l i.toNat (by omega)
  have en : (i + 1).toNat = i.toNat + 1 := by omega
  have ei : ((i.toNat : Nat) : Int) = i := by omega
  have nx := fi_next l i.toNat
  rw [← h2] at nx b0 b1
  unfold fi1 at nx
  rw [ei] at nx
  refine ⟨h0, h1, b0, by omega, fun _ => by omega, fun h => ⟨by rw [b_add, wr _ (by omega) (by omega)], fun _ => by simp only [fiM]; omega, fun g => ⟨by simp only; omega, by simp only; omega, ?_⟩, fun g => ⟨by simp only; omega, by simp only; omega, ?_⟩⟩, fun h => ?_⟩
  · simp only
    rw [en, nx]
    exact (if_pos g).symm
  · simp only
    rw [en, nx]
    exact (if_neg g).symm
  · rw [h2, show i.toNat = l.length by omega]
/-- Light links, one by one. -/
noncomputable def l1I (n : List Int) (l q d : List E) (y : XC) : St := stOf Try.f26.ntmps [(1, .ptr 1 0), (2, .ptr 2 0), (3, .sl none (.recs (.int .i64 (.int .i64 (.int .i64 (.int .i64 (.bool .nil))))) q)), (4, .sl none (.recs (.int .i64 (.int .i64 (.int .i64 .nil))) d)), (5, .sl (some (3, 38)) (.recs (.int .i64 (.int .i64 (.int .i64 (.int .i64 (.bool .nil))))) y.o)), (6, .val (.int .i64 y.i))] [(1, .cells 25 [.sl none (.ints .i64 n), .sl none (.recs (.int .i64 (.int .i64 (.int .i64 (.int .i64 (.bool .nil))))) l)]), (2, .cells 41 [.num .i64 0, .num .i64 0, .num .i64 0, .num .i64 0]), (3, .tok)] [Any]
def l1R (st : St) : XC := ⟨slotI st 6, ctR (match slotC st 5 with | .sl _ c => c | _ => .recs .nil [])⟩
noncomputable def l2I (n : List Int) (l q : List E) (a b w : Int) (y : XF) : St := stOf Try.f26.ntmps [(1, .ptr 1 0), (2, .ptr 2 0), (3, .sl none (.recs (.int .i64 (.int .i64 (.int .i64 (.int .i64 (.bool .nil))))) q)), (10, .ptr 3 0), (11, .val (.int .i64 y.i))] [(1, .cells 25 [.sl none (.ints .i64 n), .sl none (.recs (.int .i64 (.int .i64 (.int .i64 (.int .i64 (.bool .nil))))) l)]), (2, .cells 41 [.num .i64 0, .num .i64 0, .num .i64 0, .num .i64 0]), (3, .cells 55 [.val (.int .i64 a), .val (.int .i64 b), .val (.int .i64 w)])] [Any]
def l2R (st : St) : XF := ⟨slotI st 11, 0⟩
def rsQ (l : List E) (a b w : Int) (y : XF) : Prop := 0 ≤ y.i ∧ y.i ≤ l.length ∧ seF l a b w = seF (l.drop y.i.toNat) a b w ∧ (∃ z ∈ l.drop y.i.toNat, isE a b w z = true)
theorem rs_step {l : List E} (hl : l.length ≤ 1000000) {a b w i c : Int} (hq : rsQ l a b w ⟨i, c⟩) : 0 ≤ i ∧ i ≤ l.length ∧ i < l.length ∧ stdBin .add .i64 i 1 = i + 1 ∧ (∀ c', fiM l ⟨i + 1, c'⟩ < fiM l ⟨i, c⟩) ∧
    ((edA (ri (l.getD i.toNat []) 0) (ri (l.getD i.toNat []) 1) = a ∧ edB (ri (l.getD i.toNat []) 0) (ri (l.getD i.toNat []) 1) = b ∧ ri (l.getD i.toNat []) 2 = w) → seF l a b w = ri (l.getD i.toNat []) 3) ∧
    (¬ (edA (ri (l.getD i.toNat []) 0) (ri (l.getD i.toNat []) 1) = a ∧ edB (ri (l.getD i.toNat []) 0) (ri (l.getD i.toNat []) 1) = b ∧ ri (l.getD i.toNat []) 2 = w) → ∀ c', rsQ l a b w ⟨i + 1, c'⟩) := by
  obtain ⟨h0, h1, h2, z, hz, h3⟩ := hq
  simp only at h0 h1 h2 hz
  have hi : i < l.length := by
    refine Decidable.byContradiction fun k => ?_
    rw [List.drop_of_length_le (by omega)] at hz
    cases hz
  have hs := se_step hl (a := a) (b := b) (w := w) (i := i) ⟨h0, h1, h2⟩
  obtain ⟨_, _, g, _⟩ := hs
  obtain ⟨g1, _, g3, g4⟩ := g hi
  refine ⟨h0, h1, hi, g1, fun _ => by simp only [fiM]; omega, g3, fun k c' => ?_⟩
  obtain ⟨k0, k1, k2⟩ := g4 k
  refine ⟨k0, k1, k2, z, ?_, h3⟩
  rw [dr_next l i h0 hi] at hz
  rcases List.mem_cons.1 hz with e | hz
  · rw [e] at h3
    unfold isE at h3
    rw [decide_eq_true_eq] at h3
    exact absurd h3 k
  · exact hz
def okC (n : List Int) (l : List E) : Bool := decide (mayV n l = true ∧ forB (boV n l) = true ∧ n.length ≤ 70 ∧ l.length ≤ 60)
theorem pl_in {l : List E} {i : Int} (h0 : 0 ≤ i) (h : i < l.length) : l.getD i.toNat [] ∈ l := by
  rw [List.getD_eq_getElem?_getD, List.getElem?_eq_getElem (show i.toNat < l.length by omega)]
  exact List.getElem_mem _
theorem in_R' {n : List Int} {l : List E} (h : mayV n l = true) (hl : l.length ≤ 60) : inR (boV n l) = true := by
  have := bnd_all h (by omega)
  exact SpL.in_R (SpL.all_good this.1) (by omega)
/-- What is asked of the first light link. -/
theorem cho_all {n : List Int} {l : List E} (h : okC n l = true) : mayV n l = true ∧ n.length ≤ 70 ∧ l.length ≤ 60 ∧ inR (boF (rinF l)) = true ∧ (rinF l).length ≤ 60 ∧ (boF (rinF l)).length ≤ 60 ∧ (ouF n l).length ≤ 60 ∧ (∀ a b, (onR (boF (rinF l)) a b).length ≤ 60) ∧
    (∀ y ∈ rinF l, lkR (boF (rinF l)) (edA (ri y 0) (ri y 1)) (edB (ri y 0) (ri y 1)) = true → 0 < (onR (boF (rinF l)) (edA (ri y 0) (ri y 1)) (edB (ri y 0) (ri y 1))).length) := by
  have h := of_decide_eq_true h
  obtain ⟨hm, hf, hn, hl⟩ := h
  have hb := bnd_all hm (by omega)
  have eb : boF (rinF l) = boV n l := hb.2.1.symm
  have e := in_eq hm
  have h1 := in_len l
  have h2 := bo_le n l
  have h3 : (ouF n l).length ≤ l.length := fm_len (ou1_len n) l
  rw [eb, e]
  refine ⟨hm, hn, hl, in_R' hm hl, by omega, by omega, by omega, fun a b => ?_, fun y hy g => ?_⟩
  · have := on_len (boV n l) a b
    omega
  · obtain ⟨g1, g2, g3, _⟩ := in_two' hm hy
    obtain ⟨ea, eb'⟩ := ed_lt g1
    rw [ea, eb'] at g ⊢
    exact ((hv_all hf g2 g3 (by omega)).2 g).1
theorem cho_0 {n : List Int} {l : List E} (h : okC n l = true) : chE n l = 0 := by
  have h := of_decide_eq_true h
  unfold chE
  rw [if_pos h.1, if_pos h.2.1]
theorem cho_yes {n : List Int} {l : List E} (h : okC n l = true) {o : List E} (ho : o = liF (boF (rinF l)) (rinF l)) (k : 0 ≤ fiF o o.length) :
    fiF o o.length < o.length ∧ 0 < (onR (boF (rinF l)) (edA (ri (o.getD (fiF o o.length).toNat []) 0) (ri (o.getD (fiF o o.length).toNat []) 1)) (edB (ri (o.getD (fiF o o.length).toNat []) 0) (ri (o.getD (fiF o o.length).toNat []) 1))).length ∧
    rsQ (rinF l) (mxT (onR (boF (rinF l)) (edA (ri (o.getD (fiF o o.length).toNat []) 0) (ri (o.getD (fiF o o.length).toNat []) 1)) (edB (ri (o.getD (fiF o o.length).toNat []) 0) (ri (o.getD (fiF o o.length).toNat []) 1)))).1 (mxT (onR (boF (rinF l)) (edA (ri (o.getD (fiF o o.length).toNat []) 0) (ri (o.getD (fiF o o.length).toNat []) 1)) (edB (ri (o.getD (fiF o o.length).toNat []) 0) (ri (o.getD (fiF o o.length).toNat []) 1)))).2.1 (mxT (onR (boF (rinF l)) (edA (ri (o.getD (fiF o o.length).toNat []) 0) (ri (o.getD (fiF o o.length).toNat []) 1)) (edB (ri (o.getD (fiF o o.length).toNat []) 0) (ri (o.getD (fiF o o.length).toNat []) 1)))).2.2 ⟨0, 0⟩ ∧
    chF n l = ⟨3, (mxT (onR (boF (rinF l)) (edA (ri (o.getD (fiF o o.length).toNat []) 0) (ri (o.getD (fiF o o.length).toNat []) 1)) (edB (ri (o.getD (fiF o o.length).toNat []) 0) (ri (o.getD (fiF o o.length).toNat []) 1)))).1, (mxT (onR (boF (rinF l)) (edA (ri (o.getD (fiF o o.length).toNat []) 0) (ri (o.getD (fiF o o.length).toNat []) 1)) (edB (ri (o.getD (fiF o o.length).toNat []) 0) (ri (o.getD (fiF o o.length).toNat []) 1)))).2.1, seF (rinF l) (mxT (onR (boF (rinF l)) (edA (ri (o.getD (fiF o o.length).toNat []) 0) (ri (o.getD (fiF o o.length).toNat []) 1)) (edB (ri (o.getD (fiF o o.length).toNat []) 0) (ri (o.getD (fiF o o.length).toNat []) 1)))).1 (mxT (onR (boF (rinF l)) (edA (ri (o.getD (fiF o o.length).toNat []) 0) (ri (o.getD (fiF o o.length).toNat []) 1)) (edB (ri (o.getD (fiF o o.length).toNat []) 0) (ri (o.getD (fiF o o.length).toNat []) 1)))).2.1 (mxT (onR (boF (rinF l)) (edA (ri (o.getD (fiF o o.length).toNat []) 0) (ri (o.getD (fiF o o.length).toNat []) 1)) (edB (ri (o.getD (fiF o o.length).toNat []) 0) (ri (o.getD (fiF o o.length).toNat []) 1)))).2.2⟩ := by
  have h0 := cho_0 h
  have hh := of_decide_eq_true h
  obtain ⟨hm, hf, _, hl⟩ := hh
  have eb : boF (rinF l) = boV n l := (bnd_all hm (by omega)).2.1.symm
  have ei : inV n l = inF l := if_pos hm
  rw [eb, in_eq hm] at ho ⊢
  have pos : 0 < o.length := by
    refine Nat.pos_of_ne_zero fun z => ?_
    rw [(fi_end o).1 z] at k
    omega
  obtain ⟨f0, f1, f2⟩ := (fi_end o).2 pos
  obtain ⟨a0, a1⟩ := ev_all hm hf
  cases e : evF (inF l) (boV n l) with
  | none =>
    rw [ho, a0 e] at pos
    exact absurd pos (by decide)
  | some y =>
    obtain ⟨y1, y2, _, y4⟩ := a1 y e
    rw [← ho] at y4
    rw [y4] at f2
    have g0 : ri (o.getD (fiF o o.length).toNat []) 0 = ri y 0 := congrArg (fun c : K5 => c.1) f2
    have g1 : ri (o.getD (fiF o o.length).toNat []) 1 = ri y 1 := congrArg (fun c : K5 => c.2.1) f2
    obtain ⟨_, v2, v3, v4, v5, z, z1, _, z3⟩ := ev_in hm hf y1 y2
    rw [g0, g1, v2, v3, ← v5]
    refine ⟨f1, v4, ⟨Int.le_refl 0, Int.natCast_nonneg _, rfl, z, z1, z3⟩, ?_⟩
    unfold chF
    rw [if_neg (fun w => w h0), ei, if_pos (by unfold evB; rw [e]; rfl)]
    unfold evC
    rw [e]
theorem cho_no {n : List Int} {l : List E} (h : okC n l = true) {o : List E} (ho : o = liF (boF (rinF l)) (rinF l)) (k : ¬ 0 ≤ fiF o o.length) :
    (0 ≤ fiF (ouF n l) (ouF n l).length → fiF (ouF n l) (ouF n l).length < (ouF n l).length ∧ chF n l = ⟨2, ri ((ouF n l).getD (fiF (ouF n l) (ouF n l).length).toNat []) 0, ri ((ouF n l).getD (fiF (ouF n l) (ouF n l).length).toNat []) 1, ri ((ouF n l).getD (fiF (ouF n l) (ouF n l).length).toNat []) 3⟩) ∧
    (¬ 0 ≤ fiF (ouF n l) (ouF n l).length → chF n l = ⟨1, 0, 0, 0⟩) := by
  have h0 := cho_0 h
  have hh := of_decide_eq_true h
  obtain ⟨hm, hf, _, hl⟩ := hh
  have eb : boF (rinF l) = boV n l := (bnd_all hm (by omega)).2.1.symm
  have ei : inV n l = inF l := if_pos hm
  have eo : ouV n l = ouF n l := if_pos hm
  rw [eb, in_eq hm] at ho
  obtain ⟨_, a1⟩ := ev_all hm hf
  have e : evF (inF l) (boV n l) = none := by
    cases e : evF (inF l) (boV n l) with
    | none => rfl
    | some y =>
      obtain ⟨_, _, y3, _⟩ := a1 y e
      rw [← ho] at y3
      exact absurd ((fi_end o).2 y3).1 k
  have ec : chF n l = if 0 < (ouF n l).length then ⟨2, (mnT (ouF n l)).1, (mnT (ouF n l)).2.1, (mnT (ouF n l)).2.2.2.1⟩ else ⟨1, 0, 0, 0⟩ := by
    unfold chF
    rw [if_neg (fun w => w h0), ei, if_neg (by unfold evB; rw [e]; decide), eo]
  rw [ec]
  by_cases p : 0 < (ouF n l).length
  · obtain ⟨f0, f1, f2⟩ := (fi_end (ouF n l)).2 p
    rw [if_pos p, ← f2]
    exact ⟨fun _ => ⟨f1, rfl⟩, fun w => absurd f0 w⟩
  · rw [if_neg p, (fi_end (ouF n l)).1 (by omega)]
    exact ⟨fun w => absurd w (by decide), fun _ => rfl⟩
/-- The graph of three. -/
def cE : List E := [[D.int 1, D.int 2, D.int 5], [D.int 1, D.int 3, D.int 1], [D.int 2, D.int 3, D.int 2]]
def cB : List E := [[D.int 1, D.int 2, D.int 5], [D.int 1, D.int 3, D.int 1]]
def cV : List E := [[D.int 1, D.int 2, D.int 5, D.int 1, D.bool true], [D.int 1, D.int 3, D.int 1, D.int 1, D.bool true], [D.int 2, D.int 1, D.int 5, D.int 1, D.bool true], [D.int 2, D.int 3, D.int 2, D.int 1, D.bool false], [D.int 3, D.int 1, D.int 1, D.int 1, D.bool true], [D.int 3, D.int 2, D.int 2, D.int 1, D.bool false]]
set_option maxRecDepth 100000 in
theorem aw_v : RoV.vw4 cE cB [1, 2, 3] = cV := by rfl
theorem aw_m : mayV [1, 2, 3] cV = true := by decide +kernel
set_option maxRecDepth 100000 in
theorem aw_b : boF (rinF cV) = cB := by rfl
theorem aw_f : forB cB = true := by decide +kernel
theorem aw_o : okC [1, 2, 3] cV = true := by
  have hb := bnd_all aw_m (show cV.length ≤ 512 by decide)
  refine decide_eq_true ⟨aw_m, ?_, by decide, by decide⟩
  rw [hb.2.1, aw_b]
  exact aw_f
set_option maxRecDepth 100000 in
theorem aw_i : liF cB (rinF cV) = [[D.int 2, D.int 3, D.int 2, D.int 1, D.bool false]] := by
  have h : (rinF cV).map (liP cB) = [false, false, true] := by decide +kernel
  have e : rinF cV = [[D.int 1, D.int 2, D.int 5, D.int 1, D.bool true], [D.int 1, D.int 3, D.int 1, D.int 1, D.bool true], [D.int 2, D.int 3, D.int 2, D.int 1, D.bool false]] := by rfl
  rw [e] at h ⊢
  simp only [List.map_cons, List.map_nil, List.cons.injEq] at h
  unfold liF li1
  simp only [List.flatMap_cons, List.flatMap_nil, h.1, h.2.1, h.2.2.1]
  rfl
theorem aw_x : mxT (onR cB 2 3) = (1, 2, 5) := by decide +kernel
set_option maxRecDepth 100000 in
theorem aw_c : chE [1, 2, 3] cV = 0 ∧ (chF [1, 2, 3] cV).k = 3 ∧ (chF [1, 2, 3] cV).a = 1 ∧ (chF [1, 2, 3] cV).b = 2 ∧ (chF [1, 2, 3] cV).s = 1 := by
  have g : 0 ≤ fiF (liF (boF (rinF cV)) (rinF cV)) (liF (boF (rinF cV)) (rinF cV)).length := by
    rw [aw_b, aw_i]
    decide
  have h := (cho_yes aw_o rfl g).2.2.2
  rw [aw_b, aw_i] at h
  have e : mxT (onR cB (edA 2 3) (edB 2 3)) = (1, 2, 5) := aw_x
  have h : chF [1, 2, 3] cV = ⟨3, (mxT (onR cB (edA 2 3) (edB 2 3))).1, (mxT (onR cB (edA 2 3) (edB 2 3))).2.1, seF (rinF cV) (mxT (onR cB (edA 2 3) (edB 2 3))).1 (mxT (onR cB (edA 2 3) (edB 2 3))).2.1 (mxT (onR cB (edA 2 3) (edB 2 3))).2.2⟩ := h
  rw [e] at h
  rw [h]
  exact ⟨cho_0 aw_o, rfl, rfl, rfl, rfl⟩

structure Ca where
  f_k : List Int → List E → Int
  f_a : List Int → List E → Int
  f_b : List Int → List E → Int
  f_s : List Int → List E → Int
  f_oc : List Int → List E → Bool
  f_fi : List E → Int
  f_ok : List E → Bool
def Ca.std : Ca := ⟨fun n l => (chF n l).k, fun n l => (chF n l).a, fun n l => (chF n l).b, fun n l => (chF n l).s, okC, fun l => fiF l l.length, fun l => decide (l.length ≤ 1000000)⟩

def c_first (F : Ca) : Con := fun xs h => match xs, h with
  | [.one (.sl none (.recs (.int .i64 (.int .i64 (.int .i64 (.int .i64 (.bool .nil))))) l))], [] => some ⟨F.f_ok l = true, .sa (I (F.f_fi l)), [], [Any]⟩
  | _, _ => none
set_option cbv.maxSteps 4000000 in
set_option maxHeartbeats 4000000 in
set_option maxRecDepth 100000 in
theorem x_first (l : List E) (hC : Ca.std.f_ok l = true) : Does [(69, c_redge ViQ.Vm.std), (70, c_rless SpQ.Sq.std)] Try.f73 [.one (.sl none (.recs (.int .i64 (.int .i64 (.int .i64 (.int .i64 (.bool .nil))))) l))] [] ⟨Ca.std.f_ok l = true, .sa (I (Ca.std.f_fi l)), [], [Any]⟩ := by
  intro b gv
  have hk : l.length ≤ 1000000 := of_decide_eq_true (show decide (l.length ≤ 1000000) = true from hC)
  have hfs := (FsOk.cons ok_redge (FsOk.cons ok_rless FsOk.nil rfl) rfl)
  generalize hF : Ca.std = F at hC hfs ⊢
  generalize hG0 : ViQ.Vm.std = G0 at hC hfs ⊢
  generalize hG1 : SpQ.Sq.std = G1 at hC hfs ⊢
  generalize hG2 : TrQ.Tq.std = G2 at hC hfs ⊢
  generalize hG3 : ChQ.Cq.std = G3 at hC hfs ⊢
  generalize hG4 : RoV.Rv.std = G4 at hC hfs ⊢
  generalize hA : Ar.std = A
  generalize hL : Lp _ _ _ = L
  obtain ⟨Z, zq⟩ := z_all
  refine cd_open (lp_mono hL) zq rfl ?_
  repeat' (first
    | (refine z_open zq ?_; try dsimp only)
    | refine cd_seq zq ?_ (lp_mono hL)
    | refine cd_blk zq ?_
    | refine cd_ret ?_
    | refine cd_skip ?_
    | refine cd_exit ?_
    | refine cd_loop ?_
    | refine cd_cond rfl ?_
    | refine cd_condT rfl ?_
    | refine cd_condF rfl ?_
    | (refine Cd.mk ?_; cbv)
    | (refine Ends1.mk ?_; cbv)
    | (refine Fin1.mk ?_; cbv)
    | exact trivial
    | refine And.intro ?_ ?_
    | refine orf fun _ => ?_
    | refine ort fun _ => ?_)
  subst hL
  refine loop_z (cx_ok hfs) (fiQ l) (fiI l) (fiM l) fiR ⟨0, -1⟩ ?_ ?_ ?_
  · exact ⟨Int.le_refl 0, Int.natCast_nonneg _, rfl⟩
  · cbv
    repeat' (first | exact trivial | exact rfl | refine And.intro ?_ ?_)
  rintro ⟨i, b⟩ hq O hO
  have hst := fi_step hk hq
  subst hA
  generalize hA : Ar.std = A
  generalize hL : Lp _ _ _ = L
  refine cd_close zq ?_
  repeat' (first
    | (refine z_open zq ?_; try dsimp only)
    | refine cd_seq zq ?_ (lp_mono hL)
    | refine cd_blk zq ?_
    | refine cd_ret ?_
    | refine cd_skip ?_
    | refine cd_exit ?_
    | refine cd_loop ?_
    | refine cd_cond rfl ?_
    | refine cd_condT rfl ?_
    | refine cd_condF rfl ?_
    | (refine Cd.mk ?_; cbv)
    | (refine Ends1.mk ?_; cbv)
    | (refine Fin1.mk ?_; cbv)
    | exact trivial
    | refine And.intro ?_ ?_
    | refine orf fun _ => ?_
    | refine ort fun _ => ?_)
  all_goals (clear hL hfs zq Z hq; subst hA hF hG0 hG1 hG2 hG3 hG4 hO; simp only [Ca.std, ViQ.Vm.std, SpQ.Sq.std, Ar.std] at * <;> grind [stdCmp]; done)
theorem ok_first : ConOk Try.prog 73 (c_first Ca.std) := by
  refine con_of (FsOk.cons ok_redge (FsOk.cons ok_rless FsOk.nil rfl) rfl) Try.func73 rfl rfl fun xs h p hp => ?_
  unfold c_first at hp
  split at hp
  · cases hp
    exact ⟨lee_le rfl, fun hC _ => x_first _ hC⟩
  · cases hp

def c_rcho (F : Ca) : Con := fun xs h => match xs, h with
  | [.agg [.sl none (.ints .i64 v_n), .sl none (.recs (.int .i64 (.int .i64 (.int .i64 (.int .i64 (.bool .nil))))) v_l)]], [] => some ⟨F.f_oc v_n v_l = true, .sa (.agg [.val (.int .i64 (F.f_k v_n v_l)), .val (.int .i64 (F.f_a v_n v_l)), .val (.int .i64 (F.f_b v_n v_l)), .val (.int .i64 (F.f_s v_n v_l))]), [], [Any]⟩
  | _, _ => none
set_option cbv.maxSteps 4000000 in
set_option maxHeartbeats 4000000 in
set_option maxRecDepth 100000 in
theorem x_rcho (v_n : List Int) (v_l : List E) (hC : Ca.std.f_oc v_n v_l = true) : Does [(68, c_rinner ViQ.Vm.std), (25, c_rbound ViQ.Vm.std), (69, c_redge ViQ.Vm.std), (29, c_rlinked SpQ.Sq.std), (72, c_on TrQ.Tq.std), (71, c_heaviest TrQ.Tq.std), (70, c_rless SpQ.Sq.std), (73, c_first Ca.std), (74, c_router ViQ.Vm.std)] Try.f26 [.agg [.sl none (.ints .i64 v_n), .sl none (.recs (.int .i64 (.int .i64 (.int .i64 (.int .i64 (.bool .nil))))) v_l)]] [] ⟨Ca.std.f_oc v_n v_l = true, .sa (.agg [.val (.int .i64 (Ca.std.f_k v_n v_l)), .val (.int .i64 (Ca.std.f_a v_n v_l)), .val (.int .i64 (Ca.std.f_b v_n v_l)), .val (.int .i64 (Ca.std.f_s v_n v_l))]), [], [Any]⟩ := by
  intro b gv
  have hCC : okC v_n v_l = true := hC
  obtain ⟨hm, hn, hl, hR, hq1, hd1, ho1, hon, hH⟩ := cho_all hCC
  have hfs := (FsOk.cons ok_rinner (FsOk.cons ok_rbound (FsOk.cons ok_redge (FsOk.cons ok_rlinked (FsOk.cons ok_on (FsOk.cons ok_heaviest (FsOk.cons ok_rless (FsOk.cons ok_first (FsOk.cons ok_router FsOk.nil rfl) rfl) rfl) rfl) rfl) rfl) rfl) rfl) rfl)
  generalize hF : Ca.std = F at hC hfs ⊢
  generalize hG0 : ViQ.Vm.std = G0 at hC hfs ⊢
  generalize hG1 : SpQ.Sq.std = G1 at hC hfs ⊢
  generalize hG2 : TrQ.Tq.std = G2 at hC hfs ⊢
  generalize hG3 : ChQ.Cq.std = G3 at hC hfs ⊢
  generalize hG4 : RoV.Rv.std = G4 at hC hfs ⊢
  generalize hA : Ar.std = A
  generalize hL : Lp _ _ _ = L
  obtain ⟨Z, zq⟩ := z_all
  refine cd_open (lp_mono hL) zq rfl ?_
  repeat' (first
    | (refine z_open zq ?_; try dsimp only)
    | refine cd_seq zq ?_ (lp_mono hL)
    | refine cd_blk zq ?_
    | refine cd_ret ?_
    | refine cd_skip ?_
    | refine cd_exit ?_
    | refine cd_loop ?_
    | refine cd_cond rfl ?_
    | refine cd_condT rfl ?_
    | refine cd_condF rfl ?_
    | (refine Cd.mk ?_; cbv)
    | (refine Ends1.mk ?_; cbv)
    | (refine Fin1.mk ?_; cbv)
    | exact trivial
    | refine And.intro ?_ ?_
    | refine orf fun _ => ?_
    | refine ort fun _ => ?_)
  all_goals first | (show L _ _ _; skip) | (clear hL hfs zq Z; subst hA hF hG0 hG1 hG2 hG3 hG4; simp only [Ca.std, ViQ.Vm.std] at * <;> grind [stdCmp]; done)
  subst hL
  refine loop_z (cx_ok hfs) (coQ (rinF v_l) (li1 (boF (rinF v_l)))) (l1I v_n v_l (G0.m_in v_l) (G0.m_bo v_l)) (coM (rinF v_l)) l1R ⟨0, []⟩ ?_ ?_ ?_
  · exact co_zero _ _
  · cbv
    repeat' (first | exact trivial | exact rfl | refine And.intro ?_ ?_)
  rintro ⟨i, o⟩ hq O hO
  have hst := fun h => co_step (by omega) hq h
  have hol := co_len (li1_len _) hq
  have hen : ¬ i < (rinF v_l).length → o = liF (boF (rinF v_l)) (rinF v_l) := fun h => co_end hq h
  have q0 := hq.1
  have q1 := hq.2.1
  dsimp only at q0 q1 hst
  have hHi := fun h => hH _ (pl_in q0 h)
  have hli : li1 (boF (rinF v_l)) ((rinF v_l).getD i.toNat []) = if liP (boF (rinF v_l)) ((rinF v_l).getD i.toNat []) = true then [[D.int (ri ((rinF v_l).getD i.toNat []) 0), D.int (ri ((rinF v_l).getD i.toNat []) 1), D.int (ri ((rinF v_l).getD i.toNat []) 2), D.int (ri ((rinF v_l).getD i.toNat []) 3), D.bool (rb ((rinF v_l).getD i.toNat []) 4)]] else [] := rfl
  have hlp : liP (boF (rinF v_l)) ((rinF v_l).getD i.toNat []) = (!rb ((rinF v_l).getD i.toNat []) 4 && (lkR (boF (rinF v_l)) (edA (ri ((rinF v_l).getD i.toNat []) 0) (ri ((rinF v_l).getD i.toNat []) 1)) (edB (ri ((rinF v_l).getD i.toNat []) 0) (ri ((rinF v_l).getD i.toNat []) 1)) && lsW (edA (ri ((rinF v_l).getD i.toNat []) 0) (ri ((rinF v_l).getD i.toNat []) 1)) (edB (ri ((rinF v_l).getD i.toNat []) 0) (ri ((rinF v_l).getD i.toNat []) 1)) (ri ((rinF v_l).getD i.toNat []) 2) (mxT (onR (boF (rinF v_l)) (edA (ri ((rinF v_l).getD i.toNat []) 0) (ri ((rinF v_l).getD i.toNat []) 1)) (edB (ri ((rinF v_l).getD i.toNat []) 0) (ri ((rinF v_l).getD i.toNat []) 1)))).1 (mxT (onR (boF (rinF v_l)) (edA (ri ((rinF v_l).getD i.toNat []) 0) (ri ((rinF v_l).getD i.toNat []) 1)) (edB (ri ((rinF v_l).getD i.toNat []) 0) (ri ((rinF v_l).getD i.toNat []) 1)))).2.1 (mxT (onR (boF (rinF v_l)) (edA (ri ((rinF v_l).getD i.toNat []) 0) (ri ((rinF v_l).getD i.toNat []) 1)) (edB (ri ((rinF v_l).getD i.toNat []) 0) (ri ((rinF v_l).getD i.toNat []) 1)))).2.2)) := rfl
  have hyes := fun g k => cho_yes hCC (hen g) k
  have hno := fun g k => cho_no hCC (hen g) k
  subst hA
  generalize hA : Ar.std = A
  generalize hL : Lp _ _ _ = L
  refine cd_close zq ?_
  repeat' (first
    | (refine z_open zq ?_; try dsimp only)
    | refine cd_seq zq ?_ (lp_mono hL)
    | refine cd_blk zq ?_
    | refine cd_ret ?_
    | refine cd_skip ?_
    | refine cd_exit ?_
    | refine cd_loop ?_
    | refine cd_cond rfl ?_
    | refine cd_condT rfl ?_
    | refine cd_condF rfl ?_
    | (refine Cd.mk ?_; cbv)
    | (refine Ends1.mk ?_; cbv)
    | (refine Fin1.mk ?_; cbv)
    | exact trivial
    | refine And.intro ?_ ?_
    | refine orf fun _ => ?_
    | refine ort fun _ => ?_)
  all_goals first | (show L _ _ _; skip) | (clear hL hfs zq Z hq hH; subst hA hF hG0 hG1 hG2 hG3 hG4 hO; simp only [Ca.std, ViQ.Vm.std, SpQ.Sq.std, TrQ.Tq.std, Ar.std] at * <;> grind [stdCmp]; done)
  rename_i hx1 hx2
  have hg : ¬ i < (rinF v_l).length ∧ 0 ≤ fiF o o.length := by
    clear hL hfs zq Z hq hH hyes hno hst hHi
    subst hA hF hG0 hG1 hG2 hG3 hG4 hO
    simp only [Ca.std, ViQ.Vm.std, Ar.std] at *
    grind [stdCmp]
  clear hx1 hx2
  obtain ⟨y1, y2, y3, y4⟩ := hyes hg.1 hg.2
  clear hyes hno hst hHi hli hlp
  subst hL
  refine loop_z (cx_ok hfs) (rsQ (rinF v_l) (mxT (onR (boF (rinF v_l)) (edA (ri (o.getD (fiF o o.length).toNat []) 0) (ri (o.getD (fiF o o.length).toNat []) 1)) (edB (ri (o.getD (fiF o o.length).toNat []) 0) (ri (o.getD (fiF o o.length).toNat []) 1)))).1 (mxT (onR (boF (rinF v_l)) (edA (ri (o.getD (fiF o o.length).toNat []) 0) (ri (o.getD (fiF o o.length).toNat []) 1)) (edB (ri (o.getD (fiF o o.length).toNat []) 0) (ri (o.getD (fiF o o.length).toNat []) 1)))).2.1 (mxT (onR (boF (rinF v_l)) (edA (ri (o.getD (fiF o o.length).toNat []) 0) (ri (o.getD (fiF o o.length).toNat []) 1)) (edB (ri (o.getD (fiF o o.length).toNat []) 0) (ri (o.getD (fiF o o.length).toNat []) 1)))).2.2) (l2I v_n v_l (G0.m_in v_l) (G2.q_mx (G2.q_on (G0.m_bo v_l) (G0.m_a (A.ri (A.atE o (F.f_fi o)) 0) (A.ri (A.atE o (F.f_fi o)) 1)) (G0.m_b (A.ri (A.atE o (F.f_fi o)) 0) (A.ri (A.atE o (F.f_fi o)) 1)))).1 (G2.q_mx (G2.q_on (G0.m_bo v_l) (G0.m_a (A.ri (A.atE o (F.f_fi o)) 0) (A.ri (A.atE o (F.f_fi o)) 1)) (G0.m_b (A.ri (A.atE o (F.f_fi o)) 0) (A.ri (A.atE o (F.f_fi o)) 1)))).2.1 (G2.q_mx (G2.q_on (G0.m_bo v_l) (G0.m_a (A.ri (A.atE o (F.f_fi o)) 0) (A.ri (A.atE o (F.f_fi o)) 1)) (G0.m_b (A.ri (A.atE o (F.f_fi o)) 0) (A.ri (A.atE o (F.f_fi o)) 1)))).2.2) (fiM (rinF v_l)) l2R ⟨0, 0⟩ ?_ ?_ ?_
  · exact y3
  · cbv
    repeat' (first | exact trivial | exact rfl | refine And.intro ?_ ?_)
  rintro ⟨k, c⟩ hq2 O2 hO2
  have hs2 := rs_step (by omega) hq2
  subst hA
  generalize hA : Ar.std = A
  generalize hL : Lp _ _ _ = L
  refine cd_close zq ?_
  repeat' (first
    | (refine z_open zq ?_; try dsimp only)
    | refine cd_seq zq ?_ (lp_mono hL)
    | refine cd_blk zq ?_
    | refine cd_ret ?_
    | refine cd_skip ?_
    | refine cd_exit ?_
    | refine cd_loop ?_
    | refine cd_cond rfl ?_
    | refine cd_condT rfl ?_
    | refine cd_condF rfl ?_
    | (refine Cd.mk ?_; cbv)
    | (refine Ends1.mk ?_; cbv)
    | (refine Fin1.mk ?_; cbv)
    | exact trivial
    | refine And.intro ?_ ?_
    | refine orf fun _ => ?_
    | refine ort fun _ => ?_)
  all_goals (clear hL hfs zq Z hq hq2 hH; subst hA hF hG0 hG1 hG2 hG3 hG4 hO hO2; simp only [Ca.std, ViQ.Vm.std, TrQ.Tq.std, Ar.std] at * <;> grind [stdCmp]; done)
theorem ok_rcho : ConOk Try.prog 26 (c_rcho Ca.std) := by
  refine con_of (FsOk.cons ok_rinner (FsOk.cons ok_rbound (FsOk.cons ok_redge (FsOk.cons ok_rlinked (FsOk.cons ok_on (FsOk.cons ok_heaviest (FsOk.cons ok_rless (FsOk.cons ok_first (FsOk.cons ok_router FsOk.nil rfl) rfl) rfl) rfl) rfl) rfl) rfl) rfl) rfl) Try.func26 rfl rfl fun xs h p hp => ?_
  unfold c_rcho at hp
  split at hp
  · cases hp
    exact ⟨lee_le rfl, fun hC _ => x_rcho _ _ hC⟩
  · cases hp

def c_cawake (_ : Ca) : Con := fun xs h => match xs, h with
  | [], [] => some ⟨True, .sa (B true), [], []⟩
  | _, _ => none
set_option cbv.maxSteps 4000000 in
set_option maxHeartbeats 4000000 in
set_option maxRecDepth 100000 in
theorem x_cawake  : Does [(35, c_rview RoV.Rv.std), (23, c_choose ChQ.Cq.std)] Try.f22 [] [] ⟨True, .sa (B true), [], []⟩ := by
  intro b gv
  have g1 : RoV.vw4 cE (List.drop (Int.toNat 0) (List.take (Int.toNat 2) cE)) [1, 2, 3] = cV := aw_v
  obtain ⟨g2, g3, g4, g5, g6⟩ := aw_c
  unfold cE at g1
  have hfs := (FsOk.cons ok_rview (FsOk.cons ok_choose FsOk.nil rfl) rfl)
  generalize hF : Ca.std = F at hfs ⊢
  generalize hG0 : ViQ.Vm.std = G0 at hfs ⊢
  generalize hG1 : SpQ.Sq.std = G1 at hfs ⊢
  generalize hG2 : TrQ.Tq.std = G2 at hfs ⊢
  generalize hG3 : ChQ.Cq.std = G3 at hfs ⊢
  generalize hG4 : RoV.Rv.std = G4 at hfs ⊢
  generalize hA : Ar.std = A
  generalize hL : Lp _ _ _ = L
  obtain ⟨Z, zq⟩ := z_all
  refine cd_open (lp_mono hL) zq rfl ?_
  repeat' (first
    | (refine z_open zq ?_; try dsimp only)
    | refine cd_seq zq ?_ (lp_mono hL)
    | refine cd_blk zq ?_
    | refine cd_ret ?_
    | refine cd_skip ?_
    | refine cd_exit ?_
    | refine cd_loop ?_
    | refine cd_cond rfl ?_
    | refine cd_condT rfl ?_
    | refine cd_condF rfl ?_
    | (refine Cd.mk ?_; cbv)
    | (refine Ends1.mk ?_; cbv)
    | (refine Fin1.mk ?_; cbv)
    | exact trivial
    | refine And.intro ?_ ?_
    | refine orf fun _ => ?_
    | refine ort fun _ => ?_)
  all_goals
    clear hL zq Z
    try clear hfs
    subst hA hF hG0 hG1 hG2 hG3 hG4
    simp only [ChQ.Cq.std, RoV.Rv.std, Ar.std] at *
    first | (rw [g1, g2, g3, g4, g5, g6]; rfl) | (rw [g1]; rfl) | skip
    try (grind [stdCmp])
theorem ok_cawake : ConOk Try.prog 22 (c_cawake Ca.std) := by
  refine con_of (FsOk.cons ok_rview (FsOk.cons ok_choose FsOk.nil rfl) rfl) Try.func22 rfl rfl fun xs h p hp => ?_
  unfold c_cawake at hp
  split at hp
  · cases hp
    exact ⟨lee_le rfl, fun _ _ => x_cawake ⟩
  · cases hp
end Go.Proofs.Ytfioaidmgcibaaa.ChA
