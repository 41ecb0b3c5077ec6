
/-
  what the laws of ways ask; awake. No condition.
-/
import Derived.Test.YtfioaidmgcibaaaTrW
namespace Go.Proofs.Ytfioaidmgcibaaa.TrX
open Go Go.Proofs.Ytfioaidmgcibaaa.Ry Go.Proofs.Ytfioaidmgcibaaa.So Go.Proofs.Ytfioaidmgcibaaa.JoS Go.Proofs.Ytfioaidmgcibaaa.EcX Go.Proofs.Ytfioaidmgcibaaa.EgR Go.Proofs.Ytfioaidmgcibaaa.EgL Go.Proofs.Ytfioaidmgcibaaa.SpR Go.Proofs.Ytfioaidmgcibaaa.SpQ Go.Proofs.Ytfioaidmgcibaaa.SpK Go.Proofs.Ytfioaidmgcibaaa.SpT Go.Proofs.Ytfioaidmgcibaaa.SpL Go.Proofs.Ytfioaidmgcibaaa.SpN Go.Proofs.Ytfioaidmgcibaaa.TrK Go.Proofs.Ytfioaidmgcibaaa.TrB Go.Proofs.Ytfioaidmgcibaaa.TrR Go.Proofs.Ytfioaidmgcibaaa.TrC Go.Proofs.Ytfioaidmgcibaaa.TrQ

structure XI where
  i : Int
def allQ (n : Nat) (p : Nat → Bool) (y : XI) : Prop := 0 ≤ y.i ∧ y.i ≤ n ∧ ∀ j : Nat, j < y.i → p j = true
def allM (n : Nat) (y : XI) : Nat := n - y.i.toNat
def sameI (p q : List Int) : Bool := decide (p = q)
def eI (p q : List Int) (i : Nat) : Bool := decide (p.getD i 0 = q.getD i 0)
noncomputable def s3I (p q : List Int) (y : XI) : St := stOf Try.f46.ntmps [(0, .sl none (.ints .i64 p)), (1, .sl none (.ints .i64 q)), (5, .val (.int .i64 y.i))] [] [Any, Any]
def s3R (st : St) : XI := ⟨slotI st 5⟩
theorem eI_step {p q : List Int} (hn : p.length ≤ 1000000) (hl : p.length = q.length) {i : Int} (hq : allQ p.length (eI p q) ⟨i⟩) : (i < p.length → stdBin .add .i64 i 1 = i + 1 ∧ allM p.length ⟨i + 1⟩ < allM p.length ⟨i⟩ ∧ (p.getD i.toNat 0 = q.getD i.toNat 0 → allQ p.length (eI p q) ⟨i + 1⟩) ∧ (¬ p.getD i.toNat 0 = q.getD i.toNat 0 → sameI p q = false)) ∧ (¬ i < p.length → sameI p q = true) := by
  obtain ⟨h0, h1, h2⟩ := hq
  simp only at h0 h1 h2
  refine ⟨fun h => ⟨by rw [b_add, wr _ (by omega) (by omega)], by simp only [allM]; omega, fun g => ⟨by simp only; omega, by simp only; omega, fun j hj => ?_⟩, fun g => decide_eq_false fun e => g (by rw [e])⟩, fun h => decide_eq_true ?_⟩
  · simp only at hj
    by_cases e : j = i.toNat
    · rw [e]
      exact decide_eq_true g
    · exact h2 j (by omega)
  · refine List.ext_getElem hl fun j a b => ?_
    have := of_decide_eq_true (h2 j (by omega))
    rw [List.getD_eq_getElem?_getD, List.getD_eq_getElem?_getD, List.getElem?_eq_getElem a, List.getElem?_eq_getElem b] at this
    exact this
theorem nI {p q : List Int} (h : p.length ≠ q.length) : sameI p q = false := decide_eq_false fun e => h (by rw [e])
theorem same_I (p : List Int) : sameI p p = true := decide_eq_true rfl
theorem may_ck {l : List E} {a b : Int} : mayR l a b = true ↔ ckF l a b = 0 := by
  unfold mayR ckF
  rw [Bool.and_eq_true, Bool.and_eq_true, Bool.and_eq_true, decide_eq_true_eq]
  constructor
  · rintro ⟨h1, h2, h3, h4⟩
    rw [if_pos ⟨h3, h4, by rw [for_same h1]; exact h2⟩]
  · intro h
    split at h
    · rename_i q
      have h1 := (for_fo q.2.2).1
      exact ⟨h1, by rw [← for_same h1]; exact q.2.2, q.1, q.2.1⟩
    · cases h
theorem rt_mk {l : List E} {a b : Int} (h : ckF l a b = 0) : rtE l a b = 0 ↔ lkR l a b = true := by
  obtain ⟨h1, h2, h3⟩ := ck_0 h
  obtain ⟨f1, f2, f3⟩ := for_fo h3
  have na := (node_iff a).1 h1
  have nb := (node_iff b).1 h2
  have k := hop_iff f2 nb na
  rw [lk_iff (fun y hy => f2.ok _ (List.mem_map_of_mem hy))]
  unfold rtE
  rw [if_pos h]
  constructor
  · intro g
    split at g
    · cases g
    · rename_i q
      exact ⟨na, nb, cn_symm (k.1 q)⟩
  · rintro ⟨_, _, c⟩
    rw [if_neg (k.2 (cn_symm c))]
theorem rt_or {l : List E} {a b : Int} : rtE l a b = 0 ∨ rtE l a b = 1 ∨ rtE l a b = 9 := by
  unfold rtE
  split
  · split
    · exact .inr (.inr rfl)
    · exact .inl rfl
  · exact .inr (.inl rfl)
theorem rt_1 {l : List E} {a b : Int} : rtE l a b = 1 ↔ ¬ ckF l a b = 0 := by
  unfold rtE
  split
  · rename_i h
    split <;> exact ⟨fun q => by omega, fun q => absurd h q⟩
  · rename_i h
    exact ⟨fun _ => h, fun _ => rfl⟩
/-- What the law of ways asks. -/
theorem ways_all (l : List E) (a b : Int) : (mayR l a b = false → rtE l a b = 1) ∧ (mayR l a b = true → lkR l a b = false → rtE l a b = 9) ∧ (mayR l a b = true → lkR l a b = true → rtE l a b = 0) ∧
    (¬ rtE l a b = 0 → wyB l a b = [] ∧ nxB l a b = 0 ∧ hvE l a b = rtE l a b ∧ hvB l a b = (0, 0, 0)) ∧
    (rtE l a b = 0 → (wyB l a b).length ≤ 64 ∧ (a = b → nxB l a b = b ∧ hvE l a b = 4 ∧ hvB l a b = (0, 0, 0)) ∧ (¬ a = b → 1 < (wyB l a b).length ∧ nxB l a b = (wyB l a b).getD 1 0 ∧ hvE l a b = 0 ∧ 0 < (onR l a b).length ∧ hvB l a b = mxT (onR l a b))) := by
  refine ⟨fun h => rt_1.2 fun k => ?_, fun h g => ?_, fun h g => (rt_mk (may_ck.1 h)).2 g, fun h => ⟨if_neg h, if_neg h, if_neg h, ?_⟩, fun h => ?_⟩
  · rw [may_ck.2 k] at h
    cases h
  · have k := may_ck.1 h
    have n0 : ¬ rtE l a b = 0 := fun q => by
      rw [(rt_mk k).1 q] at g
      cases g
    rcases @rt_or l a b with q | q | q
    · exact absurd q n0
    · exact absurd k (rt_1.1 q)
    · exact q
  · unfold hvB
    rw [if_neg]
    unfold hvE
    rw [if_neg h]
    exact h
  · obtain ⟨na, nb, h1, f, c, w, g, _, lw, _⟩ := rt_0 h
    have e : wyB l a b = wF 65 (twH l b) a := if_pos h
    have ex : nxB l a b = ix (twH l b) a := if_pos h
    refine ⟨by rw [e]; exact lw, fun q => ?_, fun q => ?_⟩
    · subst q
      obtain ⟨e1, _⟩ := fol_1 w g
      have hv : hvE l a a = 4 := by
        unfold hvE
        rw [if_pos h, if_pos rfl]
      refine ⟨by rw [ex]; exact e1, hv, ?_⟩
      unfold hvB
      rw [hv]
      rfl
    · obtain ⟨e1, e2, _⟩ := fol_2 w g q
      have hv : hvE l a b = 0 := by
        unfold hvE
        rw [if_pos h, if_neg q]
      have on := on_eq f na nb w
      have ne := on_ne f w q
      refine ⟨by rw [e]; exact e1, by rw [ex, e, e2], hv, ?_, ?_⟩
      · rw [on]
        exact List.length_pos_iff.2 ne
      · unfold hvB
        rw [if_pos hv, on]
        refine hv_eq l (fun y hy => ?_) ne
        have := (may_T (f.good.1 _ (List.mem_map_of_mem hy))).1
        unfold nod trE at this
        simp only at this
        omega
/-- What the law of going asks. -/
theorem fol_ix {h : List Int} {a : Int} {p : List Int} (f : Fol h a p) : ∀ i, i < p.length → ix h (p.getD i 0) = if i + 1 < p.length then p.getD (i + 1) 0 else p.getD i 0 := by
  induction f with
  | one e =>
    intro i hi
    simp only [List.length_singleton] at hi
    have : i = 0 := by omega
    subst this
    exact e
  | @go n p e g ih =>
    intro i hi
    cases i with
    | zero =>
      cases g with
      | one _ => simp
      | go _ _ => simp
    | succ i =>
      have := ih i (by simpa using hi)
      simpa using this
theorem rt_cn {l : List E} {a b x : Int} (h : rtE l a b = 0) (hx : x ∈ wyB l a b) : rtE l x b = 0 ∧ nxB l x b = ix (twH l b) x := by
  obtain ⟨na, nb, h1, f, c, w, g, _, lw, ck⟩ := rt_0 h
  have e : wyB l a b = wF 65 (twH l b) a := if_pos h
  rw [e] at hx
  have nx := way_nod f w nb x hx
  have cx : Cn (l.map trE) x b := cn_trans (cn_symm (way_all w x hx)) (way_cn w)
  have ckx : ckF l x b = 0 := by
    unfold ckF
    rw [if_pos ⟨(node_iff x).2 nx, (ck_0 ck).2.1, (ck_0 ck).2.2⟩]
  have r : rtE l x b = 0 := (rt_mk ckx).2 ((lk_iff (fun y hy => f.ok _ (List.mem_map_of_mem hy)) x b).2 ⟨nx, nb, cx⟩)
  exact ⟨r, if_pos r⟩
theorem rt_back {l : List E} {a b : Int} (h : rtE l a b = 0) : rtE l b a = 0 ∧ wyB l b a = (wyB l a b).reverse := by
  obtain ⟨na, nb, h1, f, c, w, g, _, lw, ck⟩ := rt_0 h
  have e : wyB l a b = wF 65 (twH l b) a := if_pos h
  have ck2 : ckF l b a = 0 := by
    unfold ckF
    rw [if_pos ⟨(ck_0 ck).2.1, (ck_0 ck).1, (ck_0 ck).2.2⟩]
  have r : rtE l b a = 0 := (rt_mk ck2).2 ((lk_iff (fun y hy => f.ok _ (List.mem_map_of_mem hy)) b a).2 ⟨nb, na, cn_symm c⟩)
  obtain ⟨_, _, _, _, _, w2, _, _, _, _⟩ := rt_0 r
  have e2 : wyB l b a = wF 65 (twH l a) b := if_pos r
  exact ⟨r, by rw [e, e2]; exact way_uni f w2 (way_rev w)⟩
def goQ (p : List Int) (b : Int) (y : Int × Int) : Prop := 0 ≤ y.1 ∧ y.1 ≤ p.length ∧ y.2 = if y.1 < p.length then p.getD y.1.toNat 0 else b
theorem go_step {l : List E} {a b : Int} (h : rtE l a b = 0) {i t : Int} (hq : goQ (wyB l a b) b (i, t)) : (i < (wyB l a b).length → stdBin .add .i64 i 1 = i + 1 ∧ stdBin .sub .i64 (stdBin .sub .i64 (wyB l b a).length 1) i = (wyB l b a).length - 1 - i ∧ (wyB l b a).length = (wyB l a b).length ∧ 0 ≤ ((wyB l b a).length : Int) - 1 - i ∧ ((wyB l b a).length : Int) - 1 - i < (wyB l b a).length ∧ (wyB l a b).getD i.toNat 0 = (wyB l b a).getD ((wyB l b a).length - 1 - i : Int).toNat 0 ∧ (wyB l a b).getD i.toNat 0 = t ∧ rtE l t b = 0 ∧ goQ (wyB l a b) b (i + 1, nxB l t b)) ∧ (¬ i < (wyB l a b).length → t = b) := by
  obtain ⟨q0, q1, q2⟩ := hq
  simp only at q0 q1 q2
  obtain ⟨na, nb, h1, f, c, w, g, _, lw, ck⟩ := rt_0 h
  have e : wyB l a b = wF 65 (twH l b) a := if_pos h
  obtain ⟨_, er⟩ := rt_back h
  rw [← e] at w g lw
  have hl : (wyB l b a).length = (wyB l a b).length := by rw [er, List.length_reverse]
  refine ⟨fun k => ?_, fun k => by rw [if_neg k] at q2; exact q2⟩
  rw [if_pos k] at q2
  have hi : i.toNat < (wyB l a b).length := by omega
  have hx : t ∈ wyB l a b := by rw [q2]; exact gd_mem hi
  obtain ⟨r1, r2⟩ := rt_cn h hx
  have e1 : stdBin .sub .i64 ((wyB l b a).length : Int) 1 = (wyB l b a).length - 1 := by rw [b_sub, wr _ (by omega) (by omega)]
  refine ⟨by rw [b_add, wr _ (by omega) (by omega)], by rw [e1, b_sub, wr _ (by omega) (by omega)], hl, by omega, by omega, ?_, q2.symm, r1, by simp only; omega, by simp only; omega, ?_⟩
  · have hj : ((wyB l b a).length - 1 - i : Int).toNat = (wyB l a b).length - 1 - i.toNat := by omega
    rw [hj, er, List.getD_eq_getElem?_getD, List.getD_eq_getElem?_getD, List.getElem?_eq_getElem hi, List.getElem?_eq_getElem (by rw [List.length_reverse]; omega), List.getElem_reverse]
    simp only [Option.getD_some]
    congr 1
    omega
  · simp only
    rw [r2]
    have fx := fol_ix g i.toNat hi
    rw [← q2] at fx
    have s2 : (i + 1).toNat = i.toNat + 1 := by omega
    rw [fx, s2]
    by_cases z : i.toNat + 1 < (wyB l a b).length
    · rw [if_pos z, if_pos (by omega)]
    · rw [if_neg z, if_neg (by omega), q2]
      exact (way_last w i.toNat hi).2 (by omega)
/-- What the law of swaps asks. -/
theorem pw_inj {α β : Type} {k : α → β} : ∀ {l : List α}, (l.map k).Nodup → ∀ {x y : α}, x ∈ l → y ∈ l → k x = k y → x = y
  | [], _, _, _, hx, _, _ => by cases hx
  | z :: l, nd, x, y, hx, hy, e => by
    rw [List.map_cons, List.nodup_cons] at nd
    rcases List.mem_cons.1 hx with e1 | hx2
    · rcases List.mem_cons.1 hy with e2 | hy2
      · rw [e1, e2]
      · exact (nd.1 (List.mem_map.2 ⟨y, hy2, by rw [← e, e1]⟩)).elim
    · rcases List.mem_cons.1 hy with e2 | hy2
      · exact (nd.1 (List.mem_map.2 ⟨x, hx2, by rw [e, e2]⟩)).elim
      · exact pw_inj nd.2 hx2 hy2 e
theorem sw_all {l : List E} {e : E} (he : may1 e = true) (hc : ckF l (ri e 0) (ri e 1) = 0) (hk : lkR l (ri e 0) (ri e 1) = true) :
    hvE l (ri e 0) (ri e 1) = 0 ∧ (∀ y ∈ l, ri y 0 = ri e 0 ∧ ri y 1 = ri e 1 → trE y = hvB l (ri e 0) (ri e 1)) ∧ rfB (e3 e :: butF l (hvB l (ri e 0) (ri e 1))) = true ∧ (∀ a, lkR l a (ri e 0) = lkR (e3 e :: butF l (hvB l (ri e 0) (ri e 1))) a (ri e 0)) ∧ inR (e3 e :: butF l (hvB l (ri e 0) (ri e 1))) = true := by
  have me := may_T (y := trE e) he
  have ne : ¬ ri e 0 = ri e 1 := by
    have := me.2.2
    unfold trE at this
    simp only at this
    omega
  have r := (rt_mk hc).2 hk
  obtain ⟨_, _, _, _, hw⟩ := ways_all l (ri e 0) (ri e 1)
  obtain ⟨lw0, _, hw⟩ := hw r
  obtain ⟨_, _, h0, hpos, hm⟩ := hw ne
  obtain ⟨na, nb, h1, f, c, w, g, _, lw, ck⟩ := rt_0 r
  have on := on_eq f na nb w
  have ne2 : onR l (ri e 0) (ri e 1) ≠ [] := List.length_pos_iff.1 hpos
  obtain ⟨m1, _⟩ := mx_ok ne2
  rw [← hm] at m1
  generalize hvB l (ri e 0) (ri e 1) = h at *
  rw [on] at m1
  obtain ⟨z, hz, ez⟩ := List.mem_map.1 m1
  obtain ⟨z1, z2, z3⟩ := on_mem hz
  rw [ez] at z1 z2 z3
  have cut := (way_iff f w z1).2 ⟨z2, z3⟩
  have hno : ∀ y ∈ l, ri y 0 = ri e 0 ∧ ri y 1 = ri e 1 → trE y = h := fun y hy q => by
    have w2 : Wy (l.map trE) (ri e 1) (ri e 0) [ri e 0, ri e 1] := .go (List.mem_map_of_mem hy) (.inl ⟨q.1, q.2⟩) .one (by simpa using ne)
    have ep := way_uni f w w2
    rw [ep] at z2 z3
    have mh := may_T (f.good.1 h z1)
    have meq := me.2.2
    unfold trE at meq
    simp only [List.mem_cons, List.not_mem_nil, or_false] at z2 z3 meq
    refine pw_inj f.good.2 (List.mem_map_of_mem hy) z1 ?_
    show (ri y 0, ri y 1) = (h.1, h.2.1)
    rw [q.1, q.2]
    rw [Prod.mk.injEq]
    omega
  have km : (butF l h).map trE = wo (l.map trE) h := but_map l h
  have gk : goodT (wo (l.map trE) h) := goodT_sub List.filter_sublist f.good
  have gn : goodT (trE e :: wo (l.map trE) h) := by
    refine ⟨fun y hy => ?_, ?_⟩
    · rcases List.mem_cons.1 hy with rfl | hy
      · exact he
      · exact gk.1 y hy
    · rw [List.map_cons, List.nodup_cons]
      refine ⟨fun q => ?_, gk.2⟩
      obtain ⟨y, hy, ey⟩ := List.mem_map.1 q
      obtain ⟨y1, y2⟩ := mem_wo.1 hy
      obtain ⟨x, hx, rfl⟩ := List.mem_map.1 y1
      unfold trE at ey
      simp only [Prod.mk.injEq] at ey
      exact y2 (hno x hx ey)
  have fk : frs [] (wo (l.map trE) h) := frs_sub [] List.filter_sublist f.frs
  have fs : frs [] (wo (l.map trE) h ++ [trE e]) := frs_snoc _ _ _ fk (by rw [List.append_nil]; exact cut)
  have pm : (trE e :: wo (l.map trE) h).Perm (wo (l.map trE) h ++ [trE e]) := by
    have := (List.perm_append_comm (l₁ := [trE e]) (l₂ := wo (l.map trE) h))
    exact this
  have fo2 : Fo (wo (l.map trE) h ++ [trE e]) := ⟨(goodT_perm pm).1 gn, fs⟩
  have fo := fo_perm fo2 pm
  have mp : (e3 e :: butF l h).map trE = trE e :: wo (l.map trE) h := by
    rw [List.map_cons, km]
    rfl
  rw [← mp] at fo
  have ok := fun y hy => fo.ok (trE y) (List.mem_map_of_mem (f := trE) (a := y) (l := e3 e :: butF l h) hy)
  have ok0 := fun y hy => f.ok (trE y) (List.mem_map_of_mem (f := trE) (a := y) (l := l) hy)
  refine ⟨h0, hno, (rf_iff ok).2 fo.frs, fun a => ?_, inR_iff.2 ⟨?_, fun y hy => ?_⟩⟩
  · rw [Bool.eq_iff_iff, lk_iff ok0, lk_iff ok, mp]
    have both : Cn (l.map trE) a (ri e 0) ↔ Cn (trE e :: wo (l.map trE) h) a (ri e 0) := by
      constructor
      · refine cn_sub fun y hy => ?_
        by_cases q : y = h
        · obtain ⟨u, v, _, en, c1, c2⟩ := way_on f w z1 z2 z3
          have up : ∀ {s t}, Cn (wo (l.map trE) h) s t → Cn (trE e :: wo (l.map trE) h) s t := fun k => cn_mono (fun _ hx => List.mem_cons_of_mem _ hx) k
          have ce : Cn (trE e :: wo (l.map trE) h) (ri e 0) (ri e 1) := cn_edge (y := trE e) (List.mem_cons_self ..)
          have uv : Cn (trE e :: wo (l.map trE) h) u v := cn_trans (cn_symm (up c1)) (cn_trans ce (cn_symm (up c2)))
          rw [q]
          rcases en with ⟨rfl, rfl⟩ | ⟨rfl, rfl⟩
          · exact uv
          · exact cn_symm uv
        · exact cn_edge (List.mem_cons_of_mem _ (mem_wo.2 ⟨hy, q⟩))
      · refine cn_sub fun y hy => ?_
        rcases List.mem_cons.1 hy with rfl | hy
        · exact c
        · exact cn_edge (mem_wo.1 hy).1
    rw [both]
  · have a1 := but_len l h
    have a2 := (for_fo (ck_0 hc).2.2).2.2
    rw [List.length_cons]
    omega
  · have := ok y hy
    have k1 : nod (ri y 0) := this.1
    have k2 : nod (ri y 1) := this.2
    unfold nod at k1 k2
    omega

structure Tx where
  x_s : List Int → List Int → Bool
  x_o : List Int → List Int → Bool
def Tx.std : Tx := ⟨sameI, fun p q => decide (p.length ≤ 1000000 ∧ q.length ≤ 1000000)⟩

def c_rints (F : Tx) : Con := fun xs h => match xs, h with
  | [.one (.sl none (.ints .i64 p)), .one (.sl none (.ints .i64 q))], [] => some ⟨F.x_o p q = true, .sa (B (F.x_s p q)), [], [Any, Any]⟩
  | _, _ => none
set_option cbv.maxSteps 4000000 in
set_option maxHeartbeats 4000000 in
set_option maxRecDepth 100000 in
theorem x_rints (p : List Int) (q : List Int) (hC : Tx.std.x_o p q = true) : Does [] Try.f46 [.one (.sl none (.ints .i64 p)), .one (.sl none (.ints .i64 q))] [] ⟨Tx.std.x_o p q = true, .sa (B (Tx.std.x_s p q)), [], [Any, Any]⟩ := by
  intro b gv
  have hk : p.length ≤ 1000000 ∧ q.length ≤ 1000000 := of_decide_eq_true (show decide (p.length ≤ 1000000 ∧ q.length ≤ 1000000) = true from hC)
  have hne := fun h => nI (p := p) (q := q) h
  generalize hF : Tx.std = F at hC ⊢
  generalize hG0 : TrR.Tr.std = G0 at hC ⊢
  generalize hA : Ar.std = A
  generalize hL : Lp _ _ _ = L
  obtain ⟨Z, zq⟩ := z_all
  refine cd_open (lp_mono hL) zq rfl ?_
  repeat' (first
    | (refine z_open zq ?_; try dsimp only)
    | refine cd_seq zq ?_ (lp_mono hL)
    | refine cd_blk zq ?_
    | refine cd_ret ?_
    | refine cd_skip ?_
    | refine cd_exit ?_
    | refine cd_loop ?_
    | refine cd_cond rfl ?_
    | refine cd_condT rfl ?_
    | refine cd_condF rfl ?_
    | (refine Cd.mk ?_; cbv)
    | (refine Ends1.mk ?_; cbv)
    | (refine Fin1.mk ?_; cbv)
    | exact trivial
    | refine And.intro ?_ ?_
    | refine orf fun _ => ?_
    | refine ort fun _ => ?_)
  all_goals first | (show L _ _ _; skip) | (clear hL  zq Z; subst hA hF hG0; simp only [Tx.std, Ar.std] at * <;> grind [stdCmp]; done)
  rename_i hx
  have hl : p.length = q.length := by
    clear hL zq Z hF hG0
    subst hA
    simp only [Ar.std] at hx
    grind [stdCmp]
  clear hx
  subst hL
  refine loop_z (cx_ok FsOk.nil) (allQ p.length (eI p q)) (s3I p q) (allM p.length) s3R ⟨0⟩ ?_ ?_ ?_
  · exact ⟨Int.le_refl 0, Int.natCast_nonneg _, fun j hj => by simp only at hj; omega⟩
  · cbv
    repeat' (first | exact trivial | exact rfl | refine And.intro ?_ ?_)
  rintro ⟨i⟩ hq O hO
  have hst := eI_step hk.1 hl hq
  have q0 := hq.1
  have q1 := hq.2.1
  dsimp only at q0 q1
  subst hA
  generalize hA : Ar.std = A
  generalize hL : Lp _ _ _ = L
  refine cd_close zq ?_
  repeat' (first
    | (refine z_open zq ?_; try dsimp only)
    | refine cd_seq zq ?_ (lp_mono hL)
    | refine cd_blk zq ?_
    | refine cd_ret ?_
    | refine cd_skip ?_
    | refine cd_exit ?_
    | refine cd_loop ?_
    | refine cd_cond rfl ?_
    | refine cd_condT rfl ?_
    | refine cd_condF rfl ?_
    | (refine Cd.mk ?_; cbv)
    | (refine Ends1.mk ?_; cbv)
    | (refine Fin1.mk ?_; cbv)
    | exact trivial
    | refine And.intro ?_ ?_
    | refine orf fun _ => ?_
    | refine ort fun _ => ?_)
  all_goals (clear hL  zq Z hq; subst hA hF hG0 hO; simp only [Tx.std, Ar.std] at * <;> grind [stdCmp]; done)
theorem ok_rints : ConOk Try.prog 46 (c_rints Tx.std) := by
  refine con_of FsOk.nil Try.func46 rfl rfl fun xs h p hp => ?_
  unfold c_rints at hp
  split at hp
  · cases hp
    exact ⟨lee_le rfl, fun hC _ => x_rints _ _ hC⟩
  · cases hp

def c_tawake (_ : Tx) : Con := fun xs h => match xs, h with
  | [], [] => some ⟨True, .sa (B true), [], []⟩
  | _, _ => none
end Go.Proofs.Ytfioaidmgcibaaa.TrX
