/-
  What routes do: leaders, the way back, hop by hop. No condition.
-/
import Derived.Test.YtfioaidmgcibaaaRoR
namespace Go.Proofs.Ytfioaidmgcibaaa.RoT
open Go Go.Proofs.Ytfioaidmgcibaaa.Ry Go.Proofs.Ytfioaidmgcibaaa.So Go.Proofs.Ytfioaidmgcibaaa.JoS Go.Proofs.Ytfioaidmgcibaaa.EgR Go.Proofs.Ytfioaidmgcibaaa.EgL Go.Proofs.Ytfioaidmgcibaaa.SpR Go.Proofs.Ytfioaidmgcibaaa.SpQ Go.Proofs.Ytfioaidmgcibaaa.SpK Go.Proofs.Ytfioaidmgcibaaa.SpT Go.Proofs.Ytfioaidmgcibaaa.SpL Go.Proofs.Ytfioaidmgcibaaa.SpN Go.Proofs.Ytfioaidmgcibaaa.TrK Go.Proofs.Ytfioaidmgcibaaa.TrB Go.Proofs.Ytfioaidmgcibaaa.TrR Go.Proofs.Ytfioaidmgcibaaa.TrC Go.Proofs.Ytfioaidmgcibaaa.TrQ Go.Proofs.Ytfioaidmgcibaaa.TrD Go.Proofs.Ytfioaidmgcibaaa.RoR
open Go.Proofs.Ytfioaidmgcibaaa.ViR (mayV)
open Go.Proofs.Ytfioaidmgcibaaa.ViL (boV boF inF)

theorem hp_0 {n : List Int} {l : List E} {a d : Int} (h : hpE n l a d = 0) : tfE n l a d = 0 ∧ rtE (boV n l) a d = 0 ∧ hpN n l a d = nxB (boV n l) a d := by
  unfold hpE at h
  by_cases q : tfE n l a d = 0
  · rw [if_pos q] at h
    exact ⟨q, h, if_pos q⟩
  · rw [if_neg q] at h
    exact absurd h q
theorem in_n {n : List Int} {l : List E} (h : mayV n l = true) {e : T} (he : e ∈ (boV n l).map trE) : e.1 ∈ n ∧ e.2.1 ∈ n := by
  rw [show boV n l = boF (inF l) from if_pos h] at he
  have := (bnd_ok h).2 e he
  rw [List.contains_iff_mem, List.contains_iff_mem] at this
  exact this
theorem way_n {n : List Int} {L : List T} (hL : ∀ e ∈ L, e.1 ∈ n ∧ e.2.1 ∈ n) {a b : Int} {p : List Int} (w : Wy L b a p) : a ∈ n → ∀ x ∈ p, x ∈ n := by
  induction w with
  | one =>
    intro ha x hx
    rw [List.mem_singleton.1 hx]
    exact ha
  | @go a c p y hy e w _ ih =>
    intro ha x hx
    rcases List.mem_cons.1 hx with rfl | hx
    · exact ha
    · refine ih ?_ x hx
      have := hL y hy
      rcases e with ⟨_, rfl⟩ | ⟨_, rfl⟩
      · exact this.2
      · exact this.1
theorem tf_mk {n : List Int} {l : List E} {a d x y : Int} (h : tfE n l a d = 0) (hx : nod x) (hy : nod y) (mx : x ∈ n) : tfE n l x y = 0 := by
  obtain ⟨h1, _, _, h4, _⟩ := tf_0 h
  unfold tfE
  rw [if_pos ⟨h1, (node_iff x).2 hx, (node_iff y).2 hy⟩, if_pos h4, if_pos (show con n x = true from decide_eq_true mx)]
theorem wy_rt {l : List E} {a b : Int} (h : rtE l a b = 0) : wyB l a b = wF 65 (twH l b) a := if_pos h
/-- The way back. -/
theorem back_ok {n : List Int} {l : List E} {a b : Int} (h : hpE n l a b = 0) (ne : ¬ a = b) : hpE n l (hpN n l a b) a = 0 ∧ hpN n l (hpN n l a b) a = a ∧ ¬ hpN n l a b = a := by
  obtain ⟨t, r, e⟩ := hp_0 h
  rw [e]
  obtain ⟨na, nb, h1, f, c, w, g, _, lw, ck⟩ := rt_0 r
  obtain ⟨_, _, _, _, w5⟩ := TrX.ways_all (boV n l) a b
  obtain ⟨v1, v2, _⟩ := (w5 r).2.2 ne
  rw [← wy_rt r] at w
  rw [v2]
  have h0 : (wyB (boV n l) a b).getD 0 0 = a := by
    obtain ⟨q, eq⟩ := way_hd w
    rw [eq]
    rfl
  obtain ⟨y, hy, ey⟩ := way_step w 0 v1
  rw [h0] at ey
  have m1 := gd_mem v1
  have nx := way_nod f w nb _ m1
  have mn := way_n (fun e he => in_n (tf_0 t).1 he) w (tf_0 t).2.2.2.2 _ m1
  have d := f.ne hy ey
  generalize (wyB (boV n l) a b).getD 1 0 = x at *
  have t2 := tf_mk t nx na mn
  have ck2 := tf_ck t2
  have cn : Cn ((boV n l).map trE) x a := cn_symm (en_cn hy ey)
  have r2 : rtE (boV n l) x a = 0 := (TrX.rt_mk ck2).2 ((lk_iff (fun y hy => f.ok _ (List.mem_map_of_mem hy)) x a).2 ⟨nx, na, cn⟩)
  refine ⟨by unfold hpE; rw [if_pos t2]; exact r2, ?_, fun e => d e.symm⟩
  unfold hpN
  rw [if_pos t2]
  obtain ⟨_, _, _, _, u5⟩ := TrX.ways_all (boV n l) x a
  rw [((u5 r2).2.2 fun e => d e.symm).2.1]
  obtain ⟨_, _, _, _, _, w2, _, _, _, _⟩ := rt_0 r2
  rw [← wy_rt r2] at w2
  have w3 : Wy ((boV n l).map trE) a x [x, a] := .go hy (en_symm ey) .one (by simpa using fun e => d e.symm)
  rw [way_uni f w2 w3]
  rfl
/-- One leader, just if linked. -/
theorem lk_cn {l : List E} (f : Fo (l.map trE)) {a : Int} (ha : nod a) (n : Int) : n ∈ lkF (twH l a) 65 ↔ nod n ∧ Cn (l.map trE) a n := by
  rw [lk_mem]
  have z := (tw_ok f ha).1.z0
  constructor
  · rintro ⟨h0, h1, h2⟩
    have n0 : nod n := by
      unfold nod
      by_cases e : n = 0
      · rw [e] at h2
        exact absurd z h2
      · omega
    exact ⟨n0, (hop_iff f ha n0).1 h2⟩
  · rintro ⟨h0, h1⟩
    have := (hop_iff f ha h0).2 h1
    unfold nod at h0
    exact ⟨by omega, by omega, this⟩
theorem lk_same2 {l : List E} (f : Fo (l.map trE)) {a b : Int} (ha : nod a) (hb : nod b) (c : Cn (l.map trE) a b) : lkF (twH l a) 65 = lkF (twH l b) 65 := by
  unfold lkF
  congr 1
  refine List.filter_congr fun j hj => ?_
  have e1 := lk_cn f ha (j : Int)
  have e2 := lk_cn f hb (j : Int)
  rw [lk_mem, Int.toNat_natCast] at e1 e2
  have hj := List.mem_range.1 hj
  have k : Cn (l.map trE) a j ↔ Cn (l.map trE) b j := ⟨cn_trans (cn_symm c), cn_trans c⟩
  rw [decide_eq_decide]
  constructor
  · intro q
    have := e1.1 ⟨by omega, by omega, q⟩
    exact (e2.2 ⟨this.1, k.1 this.2⟩).2.2
  · intro q
    have := e2.1 ⟨by omega, by omega, q⟩
    exact (e1.2 ⟨this.1, k.2 this.2⟩).2.2
theorem ld_mem {n : List Int} {l : List E} {a : Int} (h : tfE n l a a = 0) : nod a ∧ Fo ((boV n l).map trE) ∧ ldN n l a ∈ lkF (twH (boV n l) a) 65 ∧ nod (ldN n l a) ∧ Cn ((boV n l).map trE) a (ldN n l a) ∧ ldN n l a = (lkF (twH (boV n l) a) 65).getD 0 0 := by
  obtain ⟨t1, _, _, t4, _⟩ := tf_ld h
  obtain ⟨na, nb, h1, f, c, w, g, _, lw, ck⟩ := rt_0 t1
  have e : ldN n l a = (lkF (twH (boV n l) a) 65).getD 0 0 := if_pos h
  have m : ldN n l a ∈ lkF (twH (boV n l) a) 65 := by rw [e]; exact gd_mem t4
  have := (lk_cn f na _).1 m
  exact ⟨na, f, m, this.1, this.2, e⟩
theorem ld_iff {n : List Int} {l : List E} {a b : Int} (ha : tfE n l a a = 0) (hb : tfE n l b b = 0) : ldN n l a = ldN n l b ↔ lkR (boV n l) a b = true := by
  obtain ⟨na, f, m, _, c, e⟩ := ld_mem ha
  obtain ⟨nb, _, m2, _, c2, e2⟩ := ld_mem hb
  rw [lk_iff (fun y hy => f.ok _ (List.mem_map_of_mem hy))]
  constructor
  · intro q
    rw [← q] at c2
    exact ⟨na, nb, cn_trans c (cn_symm c2)⟩
  · rintro ⟨_, _, k⟩
    rw [e, e2, lk_same2 f na nb k]
theorem ndi_len : ∀ {k l : List Int}, k.Nodup → (∀ y ∈ k, y ∈ l) → k.length ≤ l.length
  | [], _, _, _ => Nat.zero_le _
  | x :: k, l, nd, h => by
    obtain ⟨n1, n2⟩ := List.nodup_cons.1 nd
    obtain ⟨l1, l2, e⟩ := List.append_of_mem (h x (List.mem_cons_self ..))
    have := ndi_len (l := l1 ++ l2) n2 fun y hy => by
      have m := h y (List.mem_cons_of_mem _ hy)
      rw [e] at m
      rcases List.mem_append.1 m with m | m
      · exact List.mem_append_left _ m
      · rcases List.mem_cons.1 m with e2 | m
        · exact absurd (e2 ▸ hy) n1
        · exact List.mem_append_right _ m
    rw [e]
    simp only [List.length_append, List.length_cons] at this ⊢
    omega
/-- Hop by hop. -/
structure XG where
  i : Int
  t : Int
def gQ (n : List Int) (l : List E) (a b : Int) (y : XG) : Prop := 0 ≤ y.i ∧ y.i ≤ n.length ∧ (lkR (boV n l) a b = true → y.i < (wyB (boV n l) a b).length ∧ y.t = (wyB (boV n l) a b).getD y.i.toNat 0)
def gM (n : List Int) (y : XG) : Nat := n.length - y.i.toNat
theorem g_zero {n : List Int} {l : List E} {a b : Int} (ha : tfE n l a a = 0) (hb : tfE n l b b = 0) : gQ n l a b ⟨0, a⟩ := by
  refine ⟨Int.le_refl 0, Int.natCast_nonneg _, fun h => ?_⟩
  obtain ⟨na, _, _⟩ := ld_mem ha
  obtain ⟨nb, _, _⟩ := ld_mem hb
  have t := tf_mk ha na nb (tf_0 ha).2.2.2.2
  have r := (TrX.rt_mk (tf_ck t)).2 h
  obtain ⟨_, _, _, _, _, w, _, _, _, _⟩ := rt_0 r
  rw [← wy_rt r] at w
  obtain ⟨q, e⟩ := way_hd w
  rw [e]
  exact ⟨by simp only [List.length_cons]; omega, rfl⟩
theorem g_step {n : List Int} {l : List E} {a b : Int} (ha : tfE n l a a = 0) (hb : tfE n l b b = 0) (hn : n.length ≤ 70) {i t : Int} (hq : gQ n l a b ⟨i, t⟩) : 0 ≤ i ∧ i ≤ n.length ∧ stdBin .sub .i64 n.length 1 = n.length - 1 ∧
    (lkR (boV n l) a b = true → (¬ t = b → hpE n l t b = 0 ∧ ¬ i = n.length - 1 ∧ i < n.length ∧ stdBin .add .i64 i 1 = i + 1 ∧ gQ n l a b ⟨i + 1, hpN n l t b⟩ ∧ (∀ x, gM n ⟨i + 1, x⟩ < gM n ⟨i, t⟩)) ∧ (i < n.length ∨ t = b)) := by
  obtain ⟨h0, h1, h2⟩ := hq
  simp only at h0 h1 h2
  refine ⟨h0, h1, by rw [b_sub, wr _ (by omega) (by omega)], fun h => ?_⟩
  obtain ⟨k1, k2⟩ := h2 h
  obtain ⟨na, _, _⟩ := ld_mem ha
  obtain ⟨nb, _, _⟩ := ld_mem hb
  have t0 := tf_mk ha na nb (tf_0 ha).2.2.2.2
  have r := (TrX.rt_mk (tf_ck t0)).2 h
  obtain ⟨_, _, _, f, _, w, g, _, _, _⟩ := rt_0 r
  have e := wy_rt r
  rw [← e] at w g
  have inn := way_n (fun e he => in_n (tf_0 ha).1 he) w (tf_0 ha).2.2.2.2
  have ln := ndi_len (way_nd w) inn
  have hi : i.toNat < (wyB (boV n l) a b).length := by omega
  have mt : t ∈ wyB (boV n l) a b := by rw [k2]; exact gd_mem hi
  refine ⟨fun ne => ?_, .inl (by omega)⟩
  have lst := way_last w i.toNat hi
  rw [← k2] at lst
  have nl : ¬ i.toNat + 1 = (wyB (boV n l) a b).length := fun q => ne (lst.2 q)
  obtain ⟨r1, r2⟩ := TrX.rt_cn r mt
  have nt := way_nod f w nb t mt
  have t1 := tf_mk ha nt nb (inn t mt)
  refine ⟨by unfold hpE; rw [if_pos t1]; exact r1, by omega, by omega, by rw [b_add, wr _ (by omega) (by omega)], ⟨by simp only; omega, by simp only; omega, fun _ => ⟨by simp only; omega, ?_⟩⟩, fun x => by simp only [gM]; omega⟩
  simp only
  have fx := TrX.fol_ix g i.toNat hi
  rw [← k2, if_pos (by omega)] at fx
  have s2 : (i + 1).toNat = i.toNat + 1 := by omega
  unfold hpN
  rw [if_pos t1, r2, fx, s2]
end Go.Proofs.Ytfioaidmgcibaaa.RoT
