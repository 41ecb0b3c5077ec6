/-
  The code's forests, and the answer's, are those of the theory. No condition.
-/
import Derived.Test.YtodglgdenjjjgaaSpQ
import Derived.Test.YtodglgdenjjjgaaSpK
import Derived.Test.YtodglgdenjjjgaaEgL
namespace Go.Proofs.Ytodglgdenjjjgaa.SpT
open Go Go.Proofs.Ytodglgdenjjjgaa.Ry Go.Proofs.Ytodglgdenjjjgaa.So Go.Proofs.Ytodglgdenjjjgaa.JoS Go.Proofs.Ytodglgdenjjjgaa.JoR Go.Proofs.Ytodglgdenjjjgaa.JoW Go.Proofs.Ytodglgdenjjjgaa.EgR Go.Proofs.Ytodglgdenjjjgaa.EgL Go.Proofs.Ytodglgdenjjjgaa.SpR Go.Proofs.Ytodglgdenjjjgaa.SpQ Go.Proofs.Ytodglgdenjjjgaa.SpK

def nod (a : Int) : Prop := 1 ≤ a ∧ a ≤ 64
def okT (y : T) : Prop := nod y.1 ∧ nod y.2.1
structure Rel (W : List Int) (c : List T) : Prop where
  len : W.length = 65
  ok : WOk W
  cn : ∀ a b, nod a → nod b → (ix W a = ix W b ↔ Cn c a b)
theorem cn_nil {a b : Int} (h : Cn [] a b) : a = b := by
  cases h with
  | refl => rfl
  | one _ hy _ => cases hy
theorem rel_0 : Rel (iota 64) [] := ⟨by rw [iota_len]; rfl, (jinv_new 64 (by omega)).ok, fun a b ha hb => by
  unfold nod at ha hb
  rw [iota_ix 64 a (by omega) (by omega), iota_ix 64 b (by omega) (by omega)]
  exact ⟨fun e => e ▸ .refl, cn_nil⟩⟩
theorem lw_nod {W : List Int} (h : W.length = 65) {a : Int} (ha : nod a) : lw W a = ix W a := by
  unfold lw
  unfold nod at ha
  rw [if_pos (by omega)]
theorem ix_lo {W : List Int} {c : List T} (h : Rel W c) {a : Int} (ha : nod a) : 1 ≤ ix W a ∧ ix W a ≤ a ∧ ix W (ix W a) = ix W a := by
  have l := h.len
  unfold nod at ha
  exact ⟨h.ok.lo a ha.1 (by omega), h.ok.hi a ha.1 (by omega), h.ok.fix a ha.1 (by omega)⟩
theorem up_self {W : List Int} (h : WOk W) : Up W W := ⟨rfl, h.lo, h.hi, h.fix, fun _ _ _ => Iff.rfl⟩
theorem uni_not {W : List Int} {c : List T} (h : Rel W c) {y : T} (hy : okT y) (hc : ix W y.1 = ix W y.2.1) : uniW W y.1 y.2.1 = W := by
  unfold uniW
  rw [lw_nod h.len hy.1, lw_nod h.len hy.2, if_neg (by rw [hc]; omega)]
theorem uni_do {W : List Int} {c : List T} (h : Rel W c) {y : T} (hy : okT y) (hc : ix W y.1 ≠ ix W y.2.1) : ∃ lo hi, uniW W y.1 y.2.1 = join W lo hi ∧ 1 ≤ lo ∧ lo < hi ∧ hi < W.length ∧ ix W lo = lo ∧ ix W hi = hi ∧ (lo = ix W y.1 ∧ hi = ix W y.2.1 ∨ lo = ix W y.2.1 ∧ hi = ix W y.1) := by
  obtain ⟨a1, a2, a3⟩ := ix_lo h hy.1
  obtain ⟨b1, b2, b3⟩ := ix_lo h hy.2
  have l := h.len
  have n1 := hy.1
  have n2 := hy.2
  unfold nod at n1 n2
  unfold uniW
  rw [lw_nod h.len hy.1, lw_nod h.len hy.2, if_pos ⟨by omega, by omega, hc⟩]
  by_cases q : ix W y.1 < ix W y.2.1
  · rw [if_neg (by omega), if_pos q]
    exact ⟨_, _, rfl, a1, q, by omega, a3, b3, .inl ⟨rfl, rfl⟩⟩
  · rw [if_pos (by omega), if_neg q]
    exact ⟨_, _, rfl, b1, by omega, by omega, b3, a3, .inr ⟨rfl, rfl⟩⟩
theorem rel_uni {W : List Int} {c : List T} (h : Rel W c) {y : T} (hy : okT y) : Rel (uniW W y.1 y.2.1) (y :: c) := by
  have l := h.len
  by_cases hc : ix W y.1 = ix W y.2.1
  · rw [uni_not h hy hc]
    refine ⟨l, h.ok, fun a b ha hb => ?_⟩
    have k := (h.cn _ _ hy.1 hy.2).1 hc
    rw [h.cn a b ha hb, cn_cons]
    constructor
    · exact .inl
    · rintro (q | ⟨q1, q2⟩ | ⟨q1, q2⟩)
      · exact q
      · exact cn_trans q1 (cn_trans k q2)
      · exact cn_trans q1 (cn_trans (cn_symm k) q2)
  · obtain ⟨lo, hi, e, h1, h2, h3, h4, h5, h6⟩ := uni_do h hy hc
    obtain ⟨_, j2⟩ := join_up (up_self h.ok) h.ok h1 h2 h3 h4 h5
    have hlen : (join W lo hi).length = W.length := by unfold join; rw [List.length_map]
    rw [e]
    refine ⟨by rw [hlen, l], j2, fun a b ha hb => ?_⟩
    have hix : ∀ i : Int, nod i → ix (join W lo hi) i = if ix W i = hi then lo else ix W i := fun i hn => by
      unfold nod at hn
      exact ix_map W _ i (by omega) (by omega)
    rw [hix a ha, hix b hb, cn_cons, ← h.cn a b ha hb, ← h.cn a y.1 ha hy.1, ← h.cn y.2.1 b hy.2 hb, ← h.cn a y.2.1 ha hy.2, ← h.cn y.1 b hy.1 hb]
    split <;> split <;> omega
theorem rel_same {W : List Int} {c d : List T} (h : Rel W c) (e : ∀ a b, Cn c a b ↔ Cn d a b) : Rel W d := ⟨h.len, h.ok, fun a b ha hb => (h.cn a b ha hb).trans (e a b)⟩
theorem un_iff {W : List Int} {J : JT} {c : List T} (hJ : JOk W J) (h : Rel W c) {a b : Int} (ha : nod a) (hb : nod b) : unB J.u a b = true ↔ ¬ Cn c a b := by
  have l := h.len
  have a1 := (ix_lo h ha).1
  have b1 := (ix_lo h hb).1
  rw [(jinv_unite hJ.2 (by omega) a b).2.1, decide_eq_true_eq, lw_nod h.len ha, lw_nod h.len hb, ← h.cn a b ha hb]
  omega
theorem cn_drop {c : List T} {y : T} (h : Cn c y.1 y.2.1) (a b : Int) : Cn (y :: c) a b ↔ Cn c a b := ⟨cn_sub fun z hz => by
  rcases List.mem_cons.1 hz with rfl | hz
  · exact h
  · exact cn_edge hz, cn_mono fun _ hz => List.mem_cons_of_mem _ hz⟩
theorem rel_jF {W : List Int} {J : JT} {c : List T} (hJ : JOk W J) (h : Rel W c) {y : E} (hy : okT (trE y)) : JOk (uniW W (ri y 0) (ri y 1)) (jF J y) ∧ Rel (uniW W (ri y 0) (ri y 1)) (trE y :: c) := ⟨jF_ok hJ y, rel_uni h hy⟩
/-- The code's choice is the greedy one. -/
theorem ls_grd : ∀ (s : List E) {W : List Int} {J : JT} {c : List T}, JOk W J → Rel W c → (∀ y ∈ s, okT (trE y)) → (lsF J s).map trE = grd c (s.map trE)
  | [], _, _, _, _, _, _ => rfl
  | y :: s, W, J, c, hJ, h, hs => by
    have hy := hs y (List.mem_cons_self ..)
    have ht := fun z hz => hs z (List.mem_cons_of_mem _ hz)
    obtain ⟨k1, k2⟩ := rel_jF hJ h hy
    have hu : unB J.u (ri y 0) (ri y 1) = true ↔ ¬ Cn c (trE y).1 (trE y).2.1 := un_iff hJ h hy.1 hy.2
    rw [List.map_cons]
    unfold grd lsF
    by_cases q : Cn c (trE y).1 (trE y).2.1
    · rw [if_pos q, if_neg (by rw [hu]; exact fun g => g q)]
      exact ls_grd s k1 (rel_same k2 (cn_drop q)) ht
    · rw [if_neg q, if_pos (hu.2 q), List.map_cons, ls_grd s k1 k2 ht]
      rfl
theorem for_frs : ∀ (s : List E) {W : List Int} {J : JT} {c : List T}, JOk W J → Rel W c → (∀ y ∈ s, okT (trE y)) → (forF J s = true ↔ frs c (s.map trE))
  | [], _, _, _, _, _, _ => ⟨fun _ => trivial, fun _ => rfl⟩
  | y :: s, W, J, c, hJ, h, hs => by
    have hy := hs y (List.mem_cons_self ..)
    have ht := fun z hz => hs z (List.mem_cons_of_mem _ hz)
    obtain ⟨k1, k2⟩ := rel_jF hJ h hy
    have hu : unB J.u (ri y 0) (ri y 1) = true ↔ ¬ Cn c (trE y).1 (trE y).2.1 := un_iff hJ h hy.1 hy.2
    have ih := for_frs s k1 k2 ht
    rw [List.map_cons]
    unfold frs forF
    by_cases q : Cn c (trE y).1 (trE y).2.1
    · rw [if_neg (by rw [hu]; exact fun g => g q)]
      exact ⟨fun g => (by cases g), fun g => absurd q g.1⟩
    · rw [if_pos (hu.2 q), ih]
      exact ⟨fun g => ⟨q, g⟩, fun g => g.2⟩
theorem fold_rel : ∀ (s : List E) {W : List Int} {J : JT} {c : List T}, JOk W J → Rel W c → (∀ y ∈ s, okT (trE y)) → ∃ V, JOk V (s.foldl jF J) ∧ Rel V ((s.map trE).reverse ++ c)
  | [], W, _, _, hJ, h, _ => ⟨W, hJ, h⟩
  | y :: s, W, J, c, hJ, h, hs => by
    obtain ⟨k1, k2⟩ := rel_jF hJ h (hs y (List.mem_cons_self ..))
    obtain ⟨V, v1, v2⟩ := fold_rel s k1 k2 fun z hz => hs z (List.mem_cons_of_mem _ hz)
    refine ⟨V, v1, ?_⟩
    rw [List.map_cons, List.reverse_cons, List.append_assoc]
    exact v2
theorem same_iff {l : List E} (hs : ∀ y ∈ l, okT (trE y)) (a b : Int) : sameB (jJ l).u a b = true ↔ nod a ∧ nod b ∧ Cn (l.map trE) a b := by
  obtain ⟨V, v1, v2⟩ := fold_rel l j0_ok rel_0 hs
  rw [List.append_nil] at v2
  have v2 := rel_same v2 (d := l.map trE) (cn_same fun y => by rw [List.mem_reverse])
  have v1 : JOk V (jJ l) := v1
  have len := v2.len
  obtain ⟨p1, p2⟩ := lst_w v1.2.up a
  obtain ⟨p3, _⟩ := lst_w p2 b
  have hz : ∀ i, lw V i = if 1 ≤ i ∧ i ≤ 64 then ix V i else 0 := fun i => by
    unfold lw
    rw [len]
    by_cases q : 1 ≤ i ∧ i ≤ 64
    · rw [if_pos q, if_pos (by omega)]
    · rw [if_neg q, if_neg (by omega)]
  unfold sameB
  rw [decide_eq_true_eq, p1, p3, hz, hz]
  by_cases ha : nod a
  · have a1 := (ix_lo v2 ha).1
    rw [if_pos (show 1 ≤ a ∧ a ≤ 64 from ha)]
    by_cases hb : nod b
    · rw [if_pos (show 1 ≤ b ∧ b ≤ 64 from hb), v2.cn a b ha hb]
      exact ⟨fun g => ⟨ha, hb, g.2⟩, fun g => ⟨by omega, g.2.2⟩⟩
    · rw [if_neg (show ¬ (1 ≤ b ∧ b ≤ 64) from hb)]
      exact ⟨fun g => absurd g.2 g.1, fun g => absurd g.2.1 hb⟩
  · rw [if_neg (show ¬ (1 ≤ a ∧ a ≤ 64) from ha)]
    exact ⟨fun g => absurd rfl g.1, fun g => absurd g.1 ha⟩
/-- How many parts edges leave. -/
def wOf (c : List T) : List Int := c.foldr (fun y W => uniW W y.1 y.2.1) (iota 64)
theorem wof_rel : ∀ c : List T, (∀ z ∈ c, okT z) → Rel (wOf c) c
  | [], _ => rel_0
  | y :: c, h => rel_uni (wof_rel c fun z hz => h z (List.mem_cons_of_mem _ hz)) (h y (List.mem_cons_self ..))
theorem parts : SpK.Parts (fun c => sets (wOf c)) okT := by
  refine ⟨fun c y hc hy hn => ?_, fun c d hc hd h => ?_⟩
  · have r := wof_rel c hc
    obtain ⟨lo, hi, e, h1, h2, h3, h4, h5, h6⟩ := uni_do r hy (fun q => hn ((r.cn _ _ hy.1 hy.2).1 q))
    have e2 : wOf (y :: c) = join (wOf c) lo hi := e
    show sets (wOf (y :: c)) + 1 = _
    rw [e2]
    exact join_sets r.ok h1 h2 h3 h5
  · have rc := wof_rel c hc
    have rd := wof_rel d hd
    show sets (wOf d) ≤ sets (wOf c)
    unfold sets
    rw [rc.len, rd.len]
    refine List.countP_mono_left fun i hi q => ?_
    have hi := List.mem_range.1 hi
    simp only [decide_eq_true_eq] at q ⊢
    have ni : nod i := ⟨q.1, by omega⟩
    obtain ⟨a1, a2, a3⟩ := ix_lo rc ni
    have nr : nod (ix (wOf c) i) := by unfold nod at *; omega
    have g := (rd.cn _ _ nr ni).2 (h _ _ ((rc.cn _ _ nr ni).1 a3))
    have b2 := (ix_lo rd nr).2.1
    omega
/-- Which nodes are marked. -/
abbrev mk (M : List E) (i : Nat) : Bool := rb (M.getD i []) 0
def num (M : List E) : Nat := (List.range 65).countP (mk M)
theorem countP_eq_all {α : Type} {p q : α → Bool} : ∀ {l : List α}, (∀ x ∈ l, p x = true → q x = true) → l.countP q ≤ l.countP p → ∀ x ∈ l, q x = true → p x = true
  | [], _, _, x, hx, _ => by cases hx
  | y :: l, h, e, x, hx, hq => by
    have hl := fun z hz => h z (List.mem_cons_of_mem _ hz)
    have m : l.countP p ≤ l.countP q := List.countP_mono_left hl
    rw [List.countP_cons, List.countP_cons] at e
    have hy := h y (List.mem_cons_self ..)
    have e2 : l.countP q ≤ l.countP p ∧ (q y = true → p y = true) := by
      cases hp : p y <;> cases hq2 : q y <;> simp_all <;> omega
    rcases List.mem_cons.1 hx with rfl | hx
    · exact e2.2 hq
    · exact countP_eq_all hl e2.1 x hx hq
theorem st_mk {M : List E} (hM : M.length = 65) {y : E} (hy : okT (trE y)) (i : Nat) : mk (rSt M y) i = true ↔ mk M i = true ∨ ((mk M (ri y 0).toNat = true ∨ mk M (ri y 1).toNat = true) ∧ (i = (ri y 0).toNat ∨ i = (ri y 1).toNat)) := by
  obtain ⟨h1, h2⟩ := hy
  have h1 : nod (ri y 0) := h1
  have h2 : nod (ri y 1) := h2
  unfold nod at h1 h2
  unfold rSt
  split
  · rename_i q
    show rb _ 0 = true ↔ _
    rw [rb_set _ _ _ (by rw [List.length_set]; omega), rb_set _ _ _ (by omega)]
    constructor
    · rintro (e | e | e)
      · exact .inr ⟨q, .inr e⟩
      · exact .inr ⟨q, .inl e⟩
      · exact .inl e
    · rintro (e | ⟨_, e | e⟩)
      · exact .inr (.inr e)
      · exact .inr (.inl e)
      · exact .inl e
  · rename_i q
    exact ⟨.inl, fun e => e.elim id fun e => absurd e.1 q⟩
theorem ps_mono : ∀ (l : List E) {M : List E}, M.length = 65 → (∀ y ∈ l, okT (trE y)) → ∀ i, mk M i = true → mk (rPs l M) i = true
  | [], _, _, _, _, h => h
  | y :: l, M, hM, hl, i, h => ps_mono l (by rw [st_len, hM]) (fun z hz => hl z (List.mem_cons_of_mem _ hz)) i ((st_mk hM (hl y (List.mem_cons_self ..)) i).2 (.inl h))
def shut (l : List E) (M : List E) : Prop := ∀ y ∈ l, (mk M (ri y 0).toNat = true ↔ mk M (ri y 1).toNat = true)
theorem num_mono {M K : List E} (h : ∀ i, mk M i = true → mk K i = true) : num M ≤ num K := List.countP_mono_left fun i _ => h i
/-- A pass that marks no more leaves all shut. -/
theorem ps_shut : ∀ (l : List E) {M : List E}, M.length = 65 → (∀ y ∈ l, okT (trE y)) → num (rPs l M) ≤ num M → shut l M
  | [], _, _, _, _ => fun _ h => by cases h
  | y :: l, M, hM, hl, h => by
    have hy := hl y (List.mem_cons_self ..)
    have ht := fun z hz => hl z (List.mem_cons_of_mem _ hz)
    have m1 := ps_mono l (M := rSt M y) (by rw [st_len, hM]) ht
    have m0 : ∀ i, mk M i = true → mk (rSt M y) i = true := fun i k => (st_mk hM hy i).2 (.inl k)
    have n1 := num_mono m1
    have n0 := num_mono m0
    have h : num (rPs l (rSt M y)) ≤ num M := h
    have same : ∀ i, i < 65 → (mk (rSt M y) i = true ↔ mk M i = true) := fun i hi => ⟨countP_eq_all (fun x _ => m0 x) (show num (rSt M y) ≤ num M by omega) i (List.mem_range.2 hi), m0 i⟩
    have ih := ps_shut l (M := rSt M y) (by rw [st_len, hM]) ht (by omega)
    intro z hz
    rcases List.mem_cons.1 hz with rfl | hz
    · have k1 := hy.1
      have k2 := hy.2
      have k1 : nod (ri z 0) := k1
      have k2 : nod (ri z 1) := k2
      unfold nod at k1 k2
      constructor
      · exact fun g => (same _ (by omega)).1 ((st_mk hM hy _).2 (.inr ⟨.inl g, .inr rfl⟩))
      · exact fun g => (same _ (by omega)).1 ((st_mk hM hy _).2 (.inr ⟨.inr g, .inl rfl⟩))
    · have k1 := (ht z hz).1
      have k2 := (ht z hz).2
      have k1 : nod (ri z 0) := k1
      have k2 : nod (ri z 1) := k2
      unfold nod at k1 k2
      rw [← same _ (by omega), ← same (ri z 1).toNat (by omega)]
      exact ih z hz
theorem shut_st {M : List E} (hM : M.length = 65) {y : E} (hy : okT (trE y)) (h : mk M (ri y 0).toNat = true ↔ mk M (ri y 1).toNat = true) (i : Nat) : mk (rSt M y) i = true ↔ mk M i = true := by
  rw [st_mk hM hy]
  constructor
  · rintro (e | ⟨e, rfl | rfl⟩)
    · exact e
    · exact e.elim id h.2
    · exact e.elim h.1 id
  · exact .inl
theorem shut_ps : ∀ (l : List E) {M : List E}, M.length = 65 → (∀ y ∈ l, okT (trE y)) → shut l M → ∀ i, mk (rPs l M) i = true ↔ mk M i = true
  | [], _, _, _, _, _ => Iff.rfl
  | y :: l, M, hM, hl, h, i => by
    have e := shut_st hM (hl y (List.mem_cons_self ..)) (h y (List.mem_cons_self ..))
    have ih := shut_ps l (M := rSt M y) (by rw [st_len, hM]) (fun z hz => hl z (List.mem_cons_of_mem _ hz)) (fun z hz => by rw [e, e]; exact h z (List.mem_cons_of_mem _ hz)) i
    exact ih.trans (e i)
theorem bas_mk {f : Int} (hf : nod f) (i : Nat) : mk (bas f) i = true ↔ i = f.toNat := by
  unfold bas zer
  unfold nod at hf
  show rb _ 0 = true ↔ _
  rw [rb_set _ _ _ (by rw [List.length_replicate]; omega)]
  constructor
  · rintro (e | e)
    · exact e
    · rw [List.getD_eq_getElem?_getD, List.getElem?_replicate] at e
      split at e <;> simp [rb] at e
  · exact .inl
theorem it_mk (l : List E) (hl : ∀ y ∈ l, okT (trE y)) {f : Int} (hf : nod f) : ∀ k, shut l (rIt l k (bas f)) ∨ k + 1 ≤ num (rIt l k (bas f))
  | 0 => by
    right
    show 0 < List.countP _ _
    rw [List.countP_pos_iff]
    unfold nod at hf
    exact ⟨f.toNat, List.mem_range.2 (by omega), (bas_mk hf _).2 rfl⟩
  | k + 1 => by
    have hM : (rIt l k (bas f)).length = 65 := by rw [it_len, bas_len]
    have s := fun q => shut_ps l hM hl q
    unfold rIt
    by_cases q : shut l (rIt l k (bas f))
    · left
      intro z hz
      rw [s q, s q]
      exact q z hz
    · right
      have ih := (it_mk l hl hf k).resolve_left q
      have n : ¬ num (rPs l (rIt l k (bas f))) ≤ num (rIt l k (bas f)) := fun g => q (ps_shut l hM hl g)
      omega
theorem it_sound (l : List E) (hl : ∀ y ∈ l, okT (trE y)) {f : Int} : ∀ (k : List E), (∀ y ∈ k, y ∈ l) → ∀ {M : List E}, M.length = 65 → (∀ i : Nat, mk M i = true → Cn (l.map trE) f i) → ∀ i : Nat, mk (rPs k M) i = true → Cn (l.map trE) f i
  | [], _, _, _, h => h
  | y :: k, hk, M, hM, h => by
    have my := hk y (List.mem_cons_self ..)
    have hy := hl y my
    refine it_sound l hl k (fun z hz => hk z (List.mem_cons_of_mem _ hz)) (M := rSt M y) (by rw [st_len, hM]) fun i q => ?_
    have k1 : nod (ri y 0) := hy.1
    have k2 : nod (ri y 1) := hy.2
    have c1 : Cn (l.map trE) (ri y 0) (ri y 1) := cn_edge (y := trE y) (List.mem_map_of_mem my)
    unfold nod at k1 k2
    have t1 : (((ri y 0).toNat : Nat) : Int) = ri y 0 := by omega
    have t2 : (((ri y 1).toNat : Nat) : Int) = ri y 1 := by omega
    rcases (st_mk hM hy i).1 q with q | ⟨q | q, e | e⟩
    · exact h i q
    · rw [e, t1]
      have := h _ q
      rw [t1] at this
      exact this
    · rw [e, t2]
      have := h _ q
      rw [t1] at this
      exact cn_trans this c1
    · rw [e, t1]
      have := h _ q
      rw [t2] at this
      exact cn_trans this (cn_symm c1)
    · rw [e, t2]
      have := h _ q
      rw [t2] at this
      exact this
theorem it_sound2 (l : List E) (hl : ∀ y ∈ l, okT (trE y)) {f : Int} (hf : nod f) : ∀ (k i : Nat), mk (rIt l k (bas f)) i = true → Cn (l.map trE) f i
  | 0, i, q => by
    have e := (bas_mk hf i).1 q
    unfold nod at hf
    have : (i : Int) = f := by omega
    rw [this]
    exact .refl
  | k + 1, i, q => it_sound l hl l (fun _ h => h) (by rw [it_len, bas_len]) (it_sound2 l hl hf k) i q
/-- What is reached is what is linked. -/
theorem rea_iff {l : List E} (hl : ∀ y ∈ l, okT (trE y)) {f b : Int} (hf : nod f) (hb : nod b) : rb ((reaB l f).getD b.toNat []) 0 = true ↔ Cn (l.map trE) f b := by
  have e : reaB l f = rIt l 64 (bas f) := by
    unfold reaB
    rw [if_pos (show nodB f = true from decide_eq_true (show 1 ≤ f ∧ f ≤ 64 from hf))]
  have hM : (rIt l 64 (bas f)).length = 65 := by rw [it_len, bas_len]
  rw [e]
  unfold nod at hb
  constructor
  · intro q
    have := it_sound2 l hl hf 64 b.toNat q
    rw [show ((b.toNat : Nat) : Int) = b by omega] at this
    exact this
  · have hs : shut l (rIt l 64 (bas f)) := by
      rcases it_mk l hl hf 64 with q | q
      · exact q
      · have all : ∀ i, i < 65 → mk (rIt l 64 (bas f)) i = true := fun i hi => by
          have := List.countP_eq_length (p := mk (rIt l 64 (bas f))) (l := List.range 65)
          have hle := List.countP_le_length (p := mk (rIt l 64 (bas f))) (l := List.range 65)
          unfold num at q
          rw [List.length_range] at this hle
          exact this.1 (by omega) i (List.mem_range.2 hi)
        intro z hz
        have k1 : nod (ri z 0) := (hl z hz).1
        have k2 : nod (ri z 1) := (hl z hz).2
        unfold nod at k1 k2
        exact ⟨fun _ => all _ (by omega), fun _ => all _ (by omega)⟩
    have hbase : ∀ k, mk (rIt l k (bas f)) f.toNat = true := by
      intro k
      induction k with
      | zero => exact (bas_mk hf _).2 rfl
      | succ k ih => exact ps_mono l (by rw [it_len, bas_len]) hl _ ih
    intro q
    suffices h : ∀ c, Cn (l.map trE) f c → mk (rIt l 64 (bas f)) c.toNat = true from h b q
    intro c q
    induction q with
    | refl => exact hbase 64
    | one _ hy e ih =>
      obtain ⟨z, hz, rfl⟩ := List.mem_map.1 hy
      rcases e with ⟨e1, e2⟩ | ⟨e1, e2⟩
      · have e1 : ri z 0 = _ := e1
        have e2 : ri z 1 = _ := e2
        rw [← e2]
        rw [← e1] at ih
        exact (hs z hz).1 ih
      · have e1 : ri z 1 = _ := e1
        have e2 : ri z 0 = _ := e2
        rw [← e2]
        rw [← e1] at ih
        exact (hs z hz).2 ih
theorem lk_iff {l : List E} (hl : ∀ y ∈ l, okT (trE y)) (a b : Int) : lkR l a b = true ↔ nod a ∧ nod b ∧ Cn (l.map trE) a b := by
  unfold lkR
  rw [Bool.and_eq_true, Bool.and_eq_true]
  constructor
  · rintro ⟨h1, h2, h3⟩
    have ha : nod a := (of_decide_eq_true h1 : 1 ≤ a ∧ a ≤ 64)
    have hb : nod b := (of_decide_eq_true h2 : 1 ≤ b ∧ b ≤ 64)
    exact ⟨ha, hb, (rea_iff hl ha hb).1 h3⟩
  · rintro ⟨ha, hb, h⟩
    exact ⟨decide_eq_true (show 1 ≤ a ∧ a ≤ 64 from ha), decide_eq_true (show 1 ≤ b ∧ b ≤ 64 from hb), (rea_iff hl ha hb).2 h⟩
theorem frs_iff : ∀ (l c : List T), frs c l ↔ ∀ i (h : i < l.length), ¬ Cn (l.take i ++ c) l[i].1 l[i].2.1
  | [], _ => ⟨fun _ _ h => absurd h (Nat.not_lt_zero _), fun _ => trivial⟩
  | y :: l, c => by
    unfold frs
    rw [frs_iff l (y :: c)]
    have e : ∀ i a b, Cn ((y :: l).take (i + 1) ++ c) a b ↔ Cn (l.take i ++ (y :: c)) a b := fun i a b => cn_same (fun w => by
      simp only [List.take_succ_cons, List.mem_append, List.mem_cons]
      constructor
      · rintro ((h | h) | h)
        · exact .inr (.inl h)
        · exact .inl h
        · exact .inr (.inr h)
      · rintro (h | h | h)
        · exact .inl (.inr h)
        · exact .inl (.inl h)
        · exact .inr h) a b
    constructor
    · rintro ⟨h1, h2⟩ i hi
      cases i with
      | zero => exact h1
      | succ i =>
        rw [e]
        exact h2 i (by simpa using hi)
    · intro h
      refine ⟨h 0 (Nat.zero_lt_succ _), fun i hi => ?_⟩
      rw [← e]
      exact h (i + 1) (by simpa using hi)
theorem rf_iff {l : List E} (hl : ∀ y ∈ l, okT (trE y)) : rfB l = true ↔ frs [] (l.map trE) := by
  rw [frs_iff]
  unfold rfB
  rw [List.all_eq_true]
  have key : ∀ i (h : i < l.length), (!atR l i) = true ↔ ¬ Cn ((l.map trE).take i ++ []) ((l.map trE)[i]'(by rw [List.length_map]; exact h)).1 ((l.map trE)[i]'(by rw [List.length_map]; exact h)).2.1 := by
    intro i h
    have eg : l.getD i [] = l[i] := by rw [List.getD_eq_getElem?_getD, List.getElem?_eq_getElem h]; rfl
    have hi := hl l[i] (List.getElem_mem h)
    unfold atR
    rw [eg, List.append_nil, List.getElem_map, ← List.map_take, Bool.not_eq_true', ← Bool.not_eq_true, lk_iff fun y hy => hl y (List.mem_of_mem_take hy)]
    exact ⟨fun g q => g ⟨hi.1, hi.2, q⟩, fun g q => g q.2.2⟩
  exact ⟨fun g i h => (key i (by rw [List.length_map] at h; exact h)).1 (g i (List.mem_range.2 (by rw [List.length_map] at h; exact h))), fun g i h => (key i (List.mem_range.1 h)).2 (g i (by rw [List.length_map]; exact List.mem_range.1 h))⟩
/-- The answer's choice. -/
def rlF : List E → List E → List E
  | o, [] => o
  | o, y :: s => if lkR o (ri y 0) (ri y 1) = true then rlF o s else rlF (o ++ [e3 y]) s
theorem grd_congr : ∀ (s : List T) {c d : List T}, (∀ a b, Cn c a b ↔ Cn d a b) → grd c s = grd d s
  | [], _, _, _ => rfl
  | y :: s, c, d, h => by
    unfold grd
    have h2 : ∀ a b, Cn (y :: c) a b ↔ Cn (y :: d) a b := fun a b => by
      rw [cn_cons, cn_cons, h, h, h, h, h]
    rw [grd_congr s h, grd_congr s h2]
    by_cases q : Cn c y.1 y.2.1
    · rw [if_pos q, if_pos ((h _ _).1 q)]
    · rw [if_neg q, if_neg (fun g => q ((h _ _).2 g))]
theorem rl_grd : ∀ (s o : List E), (∀ y ∈ s, okT (trE y)) → (∀ y ∈ o, okT (trE y)) → (rlF o s).map trE = o.map trE ++ grd (o.map trE) (s.map trE)
  | [], o, _, _ => by
    show o.map trE = _ ++ []
    rw [List.append_nil]
  | y :: s, o, hs, ho => by
    have hy := hs y (List.mem_cons_self ..)
    have ht := fun z hz => hs z (List.mem_cons_of_mem _ hz)
    have e3t : trE (e3 y) = trE y := rfl
    have hk := lk_iff ho (ri y 0) (ri y 1)
    rw [List.map_cons]
    unfold rlF grd
    by_cases q : Cn (o.map trE) (trE y).1 (trE y).2.1
    · rw [if_pos q, if_pos (hk.2 ⟨hy.1, hy.2, q⟩)]
      exact rl_grd s o ht ho
    · rw [if_neg q, if_neg (fun g => q (hk.1 g).2.2), rl_grd s (o ++ [e3 y]) ht (fun z hz => by
        rcases List.mem_append.1 hz with hz | hz
        · exact ho z hz
        · rw [List.mem_singleton.1 hz]
          exact hy)]
      rw [List.map_append, List.map_cons, List.map_nil, e3t, List.append_assoc]
      congr 1
      show trE y :: _ = _
      congr 1
      exact grd_congr _ (cn_same fun w => by
        simp only [List.mem_append, List.mem_cons, List.not_mem_nil, or_false]
        exact Or.comm)
/-- Sorting by swaps. -/
abbrev at3 (s : List E) (i : Nat) : T := trE (s.getD i [])
theorem ls_lt (x y : E) : lsY x y = true ↔ lt (trE x) (trE y) := by
  unfold lsY lsW lt trE
  simp only
  split
  · rw [decide_eq_true_eq]
    omega
  · rw [decide_eq_true_eq]
    omega
theorem sw_at {s : List E} {j : Nat} (h : j + 1 < s.length) (i : Nat) : at3 (swS s j) i = if i = j then at3 s (j + 1) else if i = j + 1 then at3 s j else at3 s i := by
  have g : ∀ (l : List E) (k : Nat) (x : E) (i : Nat), k < l.length → (l.set k x).getD i [] = if i = k then x else l.getD i [] := by
    intro l k x i hk
    rw [List.getD_eq_getElem?_getD, List.getD_eq_getElem?_getD, List.getElem?_set]
    by_cases e : k = i
    · rw [if_pos e, if_pos hk, if_pos e.symm]
      rfl
    · rw [if_neg e, if_neg (fun q => e q.symm)]
  unfold at3 swS
  rw [g _ _ _ _ (by rw [List.length_set]; omega), g _ _ _ _ h]
  by_cases e : i = j
  · rw [if_pos e, if_pos e]
    rfl
  · rw [if_neg e, if_neg e]
    by_cases e2 : i = j + 1
    · rw [if_pos e2, if_pos e2]
      rfl
    · rw [if_neg e2, if_neg e2]
theorem sw_perm {s : List E} {j : Nat} (h : j + 1 < s.length) : ((swS s j).map trE).Perm (s.map trE) := by
  have ej : s.getD j [] = s[j] := by rw [List.getD_eq_getElem?_getD, List.getElem?_eq_getElem (by omega)]; rfl
  have ek : s.getD (j + 1) [] = s[j + 1] := by rw [List.getD_eq_getElem?_getD, List.getElem?_eq_getElem h]; rfl
  unfold swS
  rw [List.map_set, List.map_set, ej, ek]
  have hp := List.set_set_perm («as» := s.map trE) (i := j + 1) (j := j) (by simpa using h) (by simp; omega)
  rw [List.getElem_map, List.getElem_map] at hp
  exact hp
def part (n j : Nat) (s : List E) : Prop := ∀ i k, i < k → k ≤ n → k ≠ j → ¬ lt (at3 s k) (at3 s i)
theorem in_ok {n : Nat} : ∀ (j : Nat) (s : List E), j ≤ n → n < s.length → part n j s → ((inF j s).map trE).Perm (s.map trE) ∧ ∀ i k, i < k → k ≤ n → ¬ lt (at3 (inF j s) k) (at3 (inF j s) i)
  | 0, s, _, _, h => ⟨List.Perm.refl _, fun i k h1 h2 => h i k h1 h2 (by omega)⟩
  | j + 1, s, hj, hn, h => by
    unfold inF
    split
    · rename_i q
      rw [ls_lt] at q
      have q : lt (at3 s (j + 1)) (at3 s j) := q
      have sw := sw_at (s := s) (j := j) (by omega)
      obtain ⟨a, b⟩ := in_ok (n := n) j (swS s j) (by omega) (by rw [SpQ.sw_len]; exact hn) (fun i k h1 h2 h3 => by
        rw [sw, sw]
        by_cases k1 : k = j + 1
        · rw [if_neg h3, if_pos k1]
          by_cases i1 : i = j
          · rw [if_pos i1]
            exact fun g => lt_irr _ (lt_tr g q)
          · rw [if_neg i1, if_neg (by omega)]
            exact h i j (by omega) (by omega) (by omega)
        · rw [if_neg h3, if_neg k1]
          by_cases i1 : i = j
          · rw [if_pos i1]
            exact h (j + 1) k (by omega) h2 k1
          · rw [if_neg i1]
            by_cases i2 : i = j + 1
            · rw [if_pos i2]
              exact h j k (by omega) h2 k1
            · rw [if_neg i2]
              exact h i k h1 h2 k1)
      exact ⟨a.trans (sw_perm (by omega)), b⟩
    · rename_i q
      rw [ls_lt] at q
      have q : ¬ lt (at3 s (j + 1)) (at3 s j) := q
      refine ⟨List.Perm.refl _, fun i k h1 h2 => ?_⟩
      by_cases k1 : k = j + 1
      · subst k1
        by_cases i1 : i = j
        · rw [i1]
          exact q
        · have g := h i j (by omega) (by omega) (by omega)
          unfold lt at *
          omega
      · exact h i k h1 h2 k1
theorem ou_ok (l : List E) : ∀ i, i ≤ l.length → ((ouF l i).map trE).Perm (l.map trE) ∧ ∀ p k, p < k → k < i → ¬ lt (at3 (ouF l i) k) (at3 (ouF l i) p)
  | 0, _ => ⟨List.Perm.refl _, fun _ _ _ h => absurd h (Nat.not_lt_zero _)⟩
  | i + 1, hi => by
    obtain ⟨a, b⟩ := ou_ok l i (by omega)
    unfold ouF
    obtain ⟨c, d⟩ := in_ok (n := i) i (ouF l i) (Nat.le_refl _) (by rw [ou_len]; omega) (fun p k h1 h2 h3 => b p k h1 (by omega))
    exact ⟨c.trans a, fun p k h1 h2 => d p k h1 (by omega)⟩
theorem rs_ok (l : List E) : ((rsB l).map trE).Perm (l.map trE) ∧ ((rsB l).map trE).Pairwise fun x y => ¬ lt y x := by
  obtain ⟨a, b⟩ := ou_ok l l.length (Nat.le_refl _)
  refine ⟨a, ?_⟩
  rw [List.pairwise_iff_getElem]
  intro i k hi hk h
  have hl : (rsB l).length = l.length := ou_len l _
  rw [List.length_map, hl] at hi hk
  have g := b i k h hk
  have e : ∀ {p : Nat} (hp : p < l.length), at3 (ouF l l.length) p = ((rsB l).map trE)[p]'(by rw [List.length_map, hl]; exact hp) := fun {p} hp => by
    unfold at3
    rw [List.getElem_map, List.getD_eq_getElem?_getD, List.getElem?_eq_getElem (show p < (ouF l l.length).length by rw [ou_len]; exact hp)]
    rfl
  rw [e hi, e hk] at g
  exact g
theorem rs_srt (l : List E) : (rsB l).map trE = (srtE l).map trE := by
  obtain ⟨a1, a2⟩ := srt_tr l
  obtain ⟨b1, b2⟩ := rs_ok l
  refine List.Perm.eq_of_pairwise (fun x y _ _ g1 g2 => ?_) b2 a2 (b1.trans a1.symm)
  obtain ⟨x1, x2, x3⟩ := x
  obtain ⟨y1, y2, y3⟩ := y
  simp only [lt] at g1 g2
  simp only [Prod.mk.injEq]
  omega
end Go.Proofs.Ytodglgdenjjjgaa.SpT
