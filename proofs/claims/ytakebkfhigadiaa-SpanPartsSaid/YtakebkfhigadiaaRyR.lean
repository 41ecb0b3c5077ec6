/-
  Rows of slices each of which may be appended to in place: a row is appended to, a slice is taken out and put back. No condition.
-/
import Derived.Test.YtakebkfhigadiaaRyF
namespace Go.Proofs.Ytakebkfhigadiaa.Ry
open Go Go.RowKit
variable {P : Program} {cx : Cx} {bs : Bs} {gv : List Value} {G : Gm} {st : St} {ν : Nat → Option (Nat × Nat)} {a : Act} {w : World}

/-- Which room's name it is. -/
def ofRoom (n k : Nat) : Option Nat := if hidN * (n + 1) ≤ k ∧ k < hidN * (n + 1) + hidN then some (k - hidN * (n + 1)) else none
theorem ofRoom_hid {n i : Nat} (h : i < hidN) : ofRoom n (hid n i) = some i := by
  unfold ofRoom hid
  generalize hidN * (n + 1) = X
  rw [if_pos ⟨Nat.le_add_right _ _, Nat.add_lt_add_left h _⟩, Nat.add_sub_cancel_left]
theorem ofRoom_some {n k i : Nat} (h : ofRoom n k = some i) : k = hid n i ∧ i < hidN := by
  unfold ofRoom at h
  unfold hid
  revert h
  generalize hidN * (n + 1) = X
  generalize hidN = M
  intro h
  split at h
  · cases h
    omega
  · cases h
def rrO (G : Gm) (src d cnt : Nat) (x : Option (Nat × Nat)) (k : Nat) : Option (Nat × Nat) :=
  if k = d then x else match ofRoom d k with
    | some i => if i < cnt then G.o (hid src i) else none
    | none => G.o k
theorem no_hid (hm : Mem G) (k i : Nat) : hget G.h (hid k i) = none := by
  cases h : hget G.h (hid k i) with
  | none => rfl
  | some b =>
    have := hm.vis _ _ h
    have := hid_big k i
    omega
theorem hid_alive {h : H} {k i : Nat} (hn : hget h (hid k i) = none) (hi : i < hidN) (ha : alive h (hid k i)) : ∃ b, hget h k = some b ∧ b.roomy i := by
  rcases ha with ⟨b, hb, _⟩ | ⟨_, k', i', b, e, hb, hr⟩
  · rw [hn] at hb
    cases hb
  · obtain ⟨rfl, rfl⟩ := hid_inj e hi (roomy_lt hr)
    exact ⟨b, hb, hr⟩
/-- A row of slices moves, with one slice more that is nil. -/
theorem rr_step (hm : Mem G) {src d g off : Nat} {t e : TypeId} {c1 ct : Ct} {h1 : H} {w' : World} {pre vs rest : List Value}
    (hd : hget G.h d = none) (hdl : d < hidN)
    (hsrc : (src = d ∧ c1.n = 0 ∧ vs = [] ∧ h1 = G.h) ∨ (src ≠ d ∧ hget G.h src = some (.rr t e c1 none) ∧ h1 = hset G.h src .dead ∧ roomsIs G src e (isz c1) none vs))
    (hvl : vs.length = c1.n) (hos : w'.os = G.w.os) (ht : w'.tape = G.w.tape) (hop : w'.output = G.w.output) (hsz : G.w.heap.size ≤ w'.heap.size)
    (hoth : ∀ b, b < G.w.heap.size → b ≠ g → w'.heap[b]? = G.w.heap[b]?)
    (hg : G.w.heap.size ≤ g ∨ (src ≠ d ∧ ∃ off0, G.o src = some (g, off0) ∧ off0 ≤ off ∧ ∀ j, j < off0 → w'.cell? ⟨g, j, none⟩ = G.w.cell? ⟨g, j, none⟩))
    (hsh : Shp G.w w') (hw : w'.heap[g]? = some (.cells (pre ++ ((vs ++ [Value.slice none 0 0]) ++ rest)).toArray t (0, 0))) (hpre : pre.length = off)
    (hcn : ct.n = c1.n + 1) (hcs : ct.sz = 1) (hci : isz ct = isz c1) (hlt : ct.n < hidN)
    (hfl : flatIs G ct (vs ++ [Value.slice none 0 0])) (hone : ∀ u ∈ vs, u.oneCell' = true) :
    Ext G ⟨rrO G src d c1.n (some (g, off)), hset h1 d (.rr t e ct none), G.bs, w'⟩ ∧ Mem ⟨rrO G src d c1.n (some (g, off)), hset h1 d (.rr t e ct none), G.bs, w'⟩ := by
  have hsl : src < hidN := by
    rcases hsrc with ⟨rfl, _⟩ | ⟨_, hb, _⟩
    · exact hdl
    · exact hm.vis _ _ hb
  have hgd : hget (hset h1 d (.rr t e ct none)) d = some (.rr t e ct none) := hget_self _ _ _
  have hgs : src ≠ d → hget (hset h1 d (.rr t e ct none)) src = some .dead := fun q => by
    rcases hsrc with ⟨e0, _⟩ | ⟨_, _, e1, _⟩
    · exact absurd e0 q
    · rw [hget_other _ _ (Ne.symm q), e1, hget_self]
  have hgo : ∀ k, k ≠ d → k ≠ src → hget (hset h1 d (.rr t e ct none)) k = hget G.h k := fun k q1 q2 => by
    rw [hget_other _ _ (Ne.symm q1)]
    rcases hsrc with ⟨_, _, _, e1⟩ | ⟨_, _, e1, _⟩
    · rw [e1]
    · rw [e1, hget_other _ _ (Ne.symm q2)]
  have hbig : ∀ k i, hid k i ≠ d ∧ hid k i ≠ src := fun k i => by
    have := hid_big k i
    omega
  have hn' : ∀ k i, hget (hset h1 d (.rr t e ct none)) (hid k i) = none := fun k i => by
    rw [hgo _ (hbig k i).1 (hbig k i).2]
    exact no_hid hm k i
  have hcl : c1.n < hidN := by omega
  have hrooms : ∀ i v, vs[i]? = some v → src ≠ d ∧ roomAt G (hid src i) e (isz c1) v := fun i v hv => by
    rcases hsrc with ⟨_, _, e1, _⟩ | ⟨q, _, _, hr⟩
    · rw [e1] at hv
      cases hv
    · exact ⟨q, (hr i v hv rfl).2⟩
  have has : src ≠ d → alive G.h src := fun q => by
    rcases hsrc with ⟨e0, _⟩ | ⟨_, hb, _⟩
    · exact absurd e0 q
    · exact .inl ⟨_, hb, rfl⟩
  have hah : src ≠ d → ∀ i, i < c1.n → alive G.h (hid src i) := fun q i hi => by
    rcases hsrc with ⟨e0, _⟩ | ⟨_, hb, _⟩
    · exact absurd e0 q
    · exact .inr ⟨no_hid hm _ _, src, i, _, rfl, hb, hi, by omega, rfl⟩
  have hnz : ∀ i, i < c1.n → src ≠ d := fun i hi => by
    rcases hsrc with ⟨_, e0, _⟩ | ⟨q, _⟩
    · omega
    · exact q
  have hod : rrO G src d c1.n (some (g, off)) d = some (g, off) := by unfold rrO; rw [if_pos rfl]
  have hoh : ∀ i, i < hidN → rrO G src d c1.n (some (g, off)) (hid d i) = if i < c1.n then G.o (hid src i) else none := fun i hi => by
    unfold rrO
    rw [if_neg (hbig d i).1, ofRoom_hid hi]
  have hal : ∀ k, (k = d ∨ k = src ∨ ∃ i, i < hidN ∧ (k = hid src i ∨ k = hid d i)) → alive (hset h1 d (.rr t e ct none)) k → ∀ b m, rrO G src d c1.n (some (g, off)) k = some (b, m) →
      (k = d ∧ b = g ∧ m = off) ∨ ∃ i, i < c1.n ∧ k = hid d i ∧ G.o (hid src i) = some (b, m) := by
    have hh : ∀ i, i < hidN → alive (hset h1 d (.rr t e ct none)) (hid d i) → ∀ b m, rrO G src d c1.n (some (g, off)) (hid d i) = some (b, m) → ∃ j, j < c1.n ∧ hid d i = hid d j ∧ G.o (hid src j) = some (b, m) := fun i hi _ b m ho => by
      rw [hoh i hi] at ho
      split at ho
      · exact ⟨i, ‹_›, rfl, ho⟩
      · cases ho
    rintro k (rfl | rfl | ⟨i, hi, rfl | rfl⟩) ha b m ho
    · rw [hod] at ho
      cases ho
      exact .inl ⟨rfl, rfl, rfl⟩
    · by_cases q : k = d
      · subst q
        rw [hod] at ho
        cases ho
        exact .inl ⟨rfl, rfl, rfl⟩
      · have h9 := see_alive (hgs q) ha
        cases h9
    · by_cases q : src = d
      · subst q
        exact .inr (hh i hi ha b m ho)
      · obtain ⟨b9, h9, h8⟩ := hid_alive (hn' _ _) hi ha
        rw [hgs q] at h9
        cases h9
        exact h8.elim
    · exact .inr (hh i hi ha b m ho)
  have hsrcg : ∀ k m, alive G.h k → G.o k = some (g, m) → src ≠ d ∧ k = src := fun k m ha ho => by
    have hlt := (hm.own k ha g m ho).1
    rcases hg with hg | ⟨q, off0, ho0, _⟩
    · omega
    · exact ⟨q, hm.inj k src ha (has q) g m off0 ho ho0⟩
  refine mem_stepH hm (G' := ⟨rrO G src d c1.n (some (g, off)), hset h1 d (.rr t e ct none), G.bs, w'⟩) (fun k => k = d ∨ k = src ∨ ∃ i, i < hidN ∧ (k = hid src i ∨ k = hid d i)) rfl
    (fun k hk => ?_) hos ht hop hsz (fun b hb hno => hoth b hb fun q => ?_) (fun k b m j hD ha ho hj => ?_) (fun k hD ha b m ho => ?_) (fun k k' hD hD' ha ha' b m m' ho ho' => ?_) (fun k hD kk hk => ?_) (fun k hD kk hk hx => ?_) hsh (fun k b hD hb => ?_) (fun k i hi hD hh => ?_) (fun k b i hD hb hr => ?_)
  · have q1 : k ≠ d := fun q => hk (.inl q)
    have q2 : k ≠ src := fun q => hk (.inr (.inl q))
    refine ⟨hgo k q1 q2, ?_⟩
    show rrO G src d c1.n (some (g, off)) k = G.o k
    unfold rrO
    rw [if_neg q1]
    cases ho : ofRoom d k with
    | none => rfl
    | some i =>
      obtain ⟨e1, e2⟩ := ofRoom_some ho
      exact absurd (.inr (.inr ⟨i, e2, .inr e1⟩)) hk
  · subst q
    rcases hg with hg | ⟨q, off0, ho0, _⟩
    · omega
    · exact hno src off0 (.inr (.inl rfl)) (has q) ho0
  · have hb := (hm.own k ha b m ho).1
    by_cases q : b = g
    · subst q
      obtain ⟨q, rfl⟩ := hsrcg k m ha ho
      rcases hg with hg | ⟨_, off0, ho0, _, hc⟩
      · omega
      · rw [ho] at ho0
        cases ho0
        exact hc j hj
    · simp only [World.cell?, hoth b hb q]
  · rcases hal k hD ha b m ho with ⟨rfl, rfl, rfl⟩ | ⟨i, hi, rfl, ho2⟩
    · refine ⟨heap_lt hw, ?_⟩
      rcases hg with hg | ⟨q, off0, ho0, h2, _⟩
      · exact .inl hg
      · exact .inr ⟨src, off0, .inr (.inl rfl), has q, ho0, h2⟩
    · have ha0 := hah (hnz i hi) i hi
      exact ⟨Nat.lt_of_lt_of_le (hm.own _ ha0 b m ho2).1 hsz, .inr ⟨hid src i, m, .inr (.inr ⟨i, by omega, .inl rfl⟩), ha0, ho2, Nat.le_refl _⟩⟩
  · have hdh : ∀ i m, i < c1.n → G.o (hid src i) = some (g, m) → False := fun i m hi ho => (hbig src i).2 (hsrcg _ m (hah (hnz i hi) i hi) ho).2
    rcases hal k hD ha b m ho with ⟨rfl, rfl, rfl⟩ | ⟨i, hi, rfl, ho2⟩ <;> rcases hal k' hD' ha' b m' ho' with ⟨rfl, q, _⟩ | ⟨j, hj, rfl, ho3⟩
    · rfl
    · exact (hdh j m' hj ho3).elim
    · subst q
      exact (hdh i m hi ho2).elim
    · have := hm.inj _ _ (hah (hnz i hi) i hi) (hah (hnz j hj) j hj) b m m' ho2 ho3
      obtain ⟨_, rfl⟩ := hid_inj this (by omega) (by omega)
      rfl
  · rcases hD with rfl | rfl | ⟨i, hi, rfl | rfl⟩
    · rw [hd] at hk
      cases hk
    · by_cases q : k = d
      · subst q
        rw [hd] at hk
        cases hk
      · exact ⟨.dead, hgs q, fun _ => by cases kk <;> trivial⟩
    · rw [no_hid hm] at hk
      cases hk
    · rw [no_hid hm] at hk
      cases hk
  · have hrr : BlkIs ⟨rrO G src d c1.n (some (g, off)), hset h1 d (.rr t e ct none), G.bs, w'⟩ d (.rr t e ct none) := by
      refine ⟨⟨hcs, hlt⟩, .inr ⟨g, pre, vs ++ [Value.slice none 0 0], rest, by rw [hpre]; exact hod, hw, hfl.sub hx.toSub, fun u hu => ?_, fun i v hv _ => ⟨hn' d i, ?_⟩⟩⟩
      · rcases List.mem_append.1 hu with hu | hu
        · exact hone u hu
        · rw [List.mem_singleton.1 hu]
          rfl
      · by_cases hi : i < vs.length
        · rw [List.getElem?_append_left hi] at hv
          obtain ⟨q, hr⟩ := hrooms i v hv
          rcases hr with hr | ⟨g', off', n', cap, cur, r2, r3, r4, r5⟩
          · exact .inl hr
          · have ha0 := hah q i (by omega)
            have hne : g' ≠ g := fun e9 => by
              subst e9
              exact (hbig src i).2 (hsrcg _ _ ha0 r3).2
            refine .inr ⟨g', off', n', cap, cur, r2, ?_, (hoth g' (heap_lt r4) hne).trans r4, by rw [hci]; exact r5⟩
            show rrO G src d c1.n (some (g, off)) (hid d i) = _
            rw [hoh i (by omega), if_pos (by omega), hci]
            exact r3
        · rw [List.getElem?_append_right (by omega)] at hv
          have hv := List.mem_of_getElem? hv
          rw [List.mem_singleton.1 hv]
          exact .inl ⟨none, rfl⟩
    rcases hD with rfl | rfl | ⟨i, hi, rfl | rfl⟩
    · rw [show hget _ k = some _ from hgd] at hk
      cases hk
      exact hrr
    · by_cases q : k = d
      · subst q
        rw [show hget _ k = some _ from hgd] at hk
        cases hk
        exact hrr
      · rw [show hget _ k = some _ from hgs q] at hk
        cases hk
        trivial
    · rw [show hget _ (hid src i) = none from hn' _ _] at hk
      cases hk
    · rw [show hget _ (hid d i) = none from hn' _ _] at hk
      cases hk
  · rcases hD with rfl | rfl | ⟨i, hi, rfl | rfl⟩
    · exact hdl
    · exact hsl
    · rw [show hget _ (hid src i) = none from hn' _ _] at hb
      cases hb
    · rw [show hget _ (hid d i) = none from hn' _ _] at hb
      cases hb
  · rcases hD with q | q | ⟨j, hj, q | q⟩
    · exact absurd q (hbig k i).1
    · exact absurd q (hbig k i).2
    · exact .inr (.inl (hid_inj q hi hj).1)
    · exact .inl (hid_inj q hi hj).1
  · have hi := roomy_lt hr
    rcases hD with rfl | rfl | ⟨j, hj, rfl | rfl⟩
    · exact .inl (.inr (.inr ⟨i, hi, .inr rfl⟩))
    · exact .inl (.inr (.inr ⟨i, hi, .inl rfl⟩))
    · rw [show hget _ (hid src j) = none from hn' _ _] at hb
      cases hb
    · rw [show hget _ (hid d j) = none from hn' _ _] at hb
      cases hb
/-! ### Appending -/
theorem rowIs_none {α : Type} {sz : Nat} {Q : α → List Value → Prop} : rowIs G sz Q [] (.slice none 0 0) := ⟨none, 0, rfl, Nat.le_refl _, Nat.zero_le _, fun h => absurd rfl h⟩
theorem nilCt_flat {c c2 : Ct} (h : nilCt c = some c2) : flatIs G c2 [Value.slice none 0 0] ∧ c2.n = 1 ∧ c2.sz = 1 := by
  unfold nilCt at h
  split at h
  · cases h
    refine ⟨⟨rfl, fun i x hx => ?_⟩, rfl, rfl⟩
    match i, hx with
    | 0, hx =>
      cases hx
      exact ⟨_, _, rfl, rowIs_none, rfl⟩
  · cases h
    refine ⟨⟨rfl, fun i x hx => ?_⟩, rfl, rfl⟩
    match i, hx with
    | 0, hx =>
      cases hx
      exact ⟨_, _, rfl, rowIs_none, rfl⟩
  · cases h
theorem nilCt_isz {c c2 ct : Ct} (h : nilCt c = some c2) (hj : joinCt Ar.std c c2 = some ct) : isz ct = isz c := by
  unfold nilCt at h
  split at h
  · cases h
    unfold joinCt at hj
    simp only at hj
    split at hj
    · cases hj
      rfl
    · cases hj
  · cases h
    unfold joinCt at hj
    simp only at hj
    split at hj
    · cases hj
      rfl
    · cases hj
  · cases h
theorem nil1_holds {c c2 : Ct} {v : Value} (h : nilCt c = some c2) (hv : SC.nil1.is G v) : ∃ A cap, v = .slice A c2.n cap ∧ c2.n ≤ cap ∧ cap ≤ maxLen ∧ (c2.n ≠ 0 → ∃ g o, A = some ⟨g, o, none⟩ ∧ ∀ j u, [Value.slice none 0 0][j]? = some u → G.w.cell? ⟨g, o + j, none⟩ = some u) := by
  obtain ⟨_, hn, _⟩ := nilCt_flat (G := G) h
  obtain ⟨b, o, c, e, h1, h2, h3⟩ := hv
  refine ⟨_, c, by rw [hn]; exact e, by omega, h2, fun _ => ⟨b, o, rfl, fun j u hu => ?_⟩⟩
  match j, hu with
  | 0, hu =>
    cases hu
    exact h3.cell
theorem rr_holds (hm : Mem G) {n : Nat} {t e : TypeId} {c : Ct} (h : hget G.h n = some (.rr t e c none)) {v : Value} (hv : ownIs G n c v) :
    ∃ A cap us, v = .slice A c.n cap ∧ c.n ≤ cap ∧ cap ≤ maxLen ∧ flatIs G c us ∧ (∀ u ∈ us, u.oneCell' = true) ∧ (c.n ≠ 0 → ∃ g o, A = some ⟨g, o, none⟩ ∧ ∀ j u, us[j]? = some u → G.w.cell? ⟨g, o + j, none⟩ = some u) ∧ roomsIs G n e (isz c) none us ∧
      (c.n ≤ cap ∧ cap ≠ 0 → ∃ g pre rest k, A = some ⟨g, List.length pre, none⟩ ∧ G.o n = some (g, pre.length) ∧ G.w.heap[g]? = some (.cells (pre ++ (us ++ rest)).toArray t (0, 0)) ∧ G.w.shape? g = some k ∧ pre.length + cap * c.sz ≤ k.2) := by
  rcases hv with ⟨h0, _, A0, rfl⟩ | ⟨g, off, cap, t9, k, h1, rfl, h2, h3, h4, h5, h6⟩
  · have hc : flatIs G c [] := by
      cases c with
      | ints k l =>
        have hl : l = [] := List.eq_nil_of_length_eq_zero h0
        subst hl
        exact rfl
      | recs s l =>
        have hl : l = [] := List.eq_nil_of_length_eq_zero h0
        subst hl
        exact ⟨by simp, fun i x hx => by cases hx⟩
    exact ⟨A0, 0, [], by rw [h0], by omega, Nat.zero_le _, hc, (fun _ hu => by cases hu), (fun q => absurd h0 q), (fun i v hv _ => by cases hv), fun q => absurd rfl q.2⟩
  · obtain ⟨pre, vs, rest, h0, e2, e3, e4, e5⟩ := hm.rrAt h h1
    subst h0
    exact ⟨_, cap, vs, rfl, h2, h3, e3, e4, fun _ => ⟨g, pre.length, rfl, fun j u hu => row_cell e2 hu⟩, e5, fun _ => ⟨g, pre, rest, _, rfl, h1, e2, h4, h5⟩⟩
theorem app_rr (hm : Mem G) {src d : Nat} {e e2 : TypeId} {h1 : H} (hd : hget G.h d = none) {t : TypeId} {i : TypeInfo} {z : Value} (ht : P.underlying t = some (.slice e)) (hi : P.info? e = some i) (hz : i.zero = some z) (hsz : i.size = 1) (hzs : z.cells.size = 1) (hb1 : 1 ≤ i.bytes)
    {c1 c2 ct : Ct} {v1 v2 : Value} (hj : joinCt Ar.std c1 c2 = some ct) (hnil : nilCt c1 = some c2) (h2 : SC.nil1.is G v2) (hc1 : c1.sz = 1) (hfit : ct.n * i.bytes ≤ 140737488355328) (ty : TypeId) (hdl : d < hidN)
    (hsrc : (src = d ∧ c1.n = 0 ∧ h1 = G.h ∧ v1 = .slice none 0 0) ∨ (src ≠ d ∧ hget G.h src = some (.rr e e2 c1 none) ∧ h1 = hset G.h src .dead ∧ ownIs G src c1 v1)) :
    ∃ v' w' ν', (Builtin.append_ #[t, t] ty #[v1, v2]).run P G.w = .ok v' w' ∧ Ext G ⟨ν', hset h1 d (.rr e e2 ct none), G.bs, w'⟩ ∧ Mem ⟨ν', hset h1 d (.rr e e2 ct none), G.bs, w'⟩ ∧ (SC.own d).is ⟨ν', hset h1 d (.rr e e2 ct none), G.bs, w'⟩ v' := by
  obtain ⟨f2, n2, s2⟩ := nilCt_flat (G := G) hnil
  have hci := nilCt_isz hnil hj
  obtain ⟨A2, cap2, w2, hcap2, hcm2, r2⟩ := nil1_holds hnil h2
  have hH2 : Holds G c2 v2 := ⟨A2, cap2, _, w2, hcap2, hcm2, f2, fun u hu => by rw [List.mem_singleton.1 hu]; rfl, r2⟩
  obtain ⟨A1, cap1, xs, e1, hcap1, hcm1, f1, o1, r1, hro, hblk⟩ : ∃ A cap us, v1 = .slice A c1.n cap ∧ c1.n ≤ cap ∧ cap ≤ maxLen ∧ flatIs G c1 us ∧ (∀ u ∈ us, u.oneCell' = true) ∧ (c1.n ≠ 0 → ∃ g o, A = some ⟨g, o, none⟩ ∧ ∀ j u, us[j]? = some u → G.w.cell? ⟨g, o + j, none⟩ = some u) ∧
      ((src = d ∧ c1.n = 0 ∧ us = [] ∧ h1 = G.h) ∨ (src ≠ d ∧ hget G.h src = some (.rr e e2 c1 none) ∧ h1 = hset G.h src .dead ∧ roomsIs G src e2 (isz c1) none us)) ∧
      (cap ≠ 0 → ∃ g pre rest k, A = some ⟨g, List.length pre, none⟩ ∧ G.o src = some (g, pre.length) ∧ src ≠ d ∧ G.w.heap[g]? = some (.cells (pre ++ (us ++ rest)).toArray e (0, 0)) ∧ G.w.shape? g = some k ∧ pre.length + cap * c1.sz ≤ k.2) := by
    rcases hsrc with ⟨rfl, q1, q2, rfl⟩ | ⟨q1, q2, q3, q4⟩
    · have hc : flatIs G c1 [] := by
        cases c1 with
        | ints k l =>
          have hl : l = [] := List.eq_nil_of_length_eq_zero q1
          subst hl
          exact rfl
        | recs s l =>
          have hl : l = [] := List.eq_nil_of_length_eq_zero q1
          subst hl
          exact ⟨by simp, fun i x hx => by cases hx⟩
      exact ⟨none, 0, [], by rw [q1], by omega, Nat.zero_le _, hc, fun _ hu => by (cases hu), fun q => absurd q1 q, .inl ⟨rfl, q1, rfl, q2⟩, fun q => absurd rfl q⟩
    · obtain ⟨A, cap, us, k1, k2, k3, k4, k5, k6, k7, k8⟩ := rr_holds hm q2 q4
      exact ⟨A, cap, us, k1, k2, k3, k4, k5, k6, .inr ⟨q1, q2, q3, k7⟩, fun q => by
        obtain ⟨g, pre, rest, k, j1, j2, j3, j4, j5⟩ := k8 ⟨k2, q⟩
        exact ⟨g, pre, rest, k, j1, j2, q1, j3, j4, j5⟩⟩
  obtain ⟨fj, jn, js, js2⟩ := flatIs.append hj f1 f2
  have hlx := f1.len
  rw [hc1, Nat.mul_one] at hlx
  rw [n2] at jn
  have h63 : ct.n ≤ maxLen := by
    have : ct.n ≤ ct.n * i.bytes := Nat.le_mul_of_pos_right _ (by omega)
    unfold maxLen
    omega
  have hltn : ct.n < hidN := by
    have : ct.n ≤ ct.n * i.bytes := Nat.le_mul_of_pos_right _ (by omega)
    unfold hidN
    omega
  have hlen2 : (Builtin.lenOf v2).run P G.w = .ok c2.n G.w := lenOf_holds hH2 _
  rw [n2] at hlen2
  have hfw : ∀ w' : World, (∀ b j, w'.cell? ⟨b, j, none⟩ = G.w.cell? ⟨b, j, none⟩) → (Builtin.firstCells i.size 1 v2).run P w' = .ok [Value.slice none 0 0].toArray w' := fun w' hw => by
    have := run_first (P := P) w2 f2 r2 (w' := w') hw
    rw [s2, n2] at this
    rw [hsz]
    exact this
  by_cases hroom : c1.n + 1 ≤ cap1
  · obtain ⟨g, pre, rest, k, g1, g2, g0, g3, g4, g5⟩ := hblk (by omega)
    subst g1
    have hkk : pre.length + (xs.length + rest.length) = k.2 := by
      unfold World.shape? at g4
      rw [g3] at g4
      have := Option.some.inj g4
      rw [← this]
      simp
    rw [hc1, Nat.mul_one] at g5
    have hrun := run_app_room (P := P) (w := G.w) ht hi (g := g) (off := pre.length) (n := c1.n) (cap := cap1) (m := 1) (sz := 1) g3 (v := v2) (ys := [Value.slice none 0 0]) hlen2 (hfw _ fun _ _ => rfl) (fun u hu => by rw [List.mem_singleton.1 hu]; rfl) hsz hroom (by simp; omega) ty
    have hcs : (pre ++ (xs ++ rest)).take (pre.length + c1.n * 1) ++ [Value.slice none 0 0] ++ (pre ++ (xs ++ rest)).drop (pre.length + c1.n * 1 + [Value.slice none 0 0].length) = pre ++ ((xs ++ [Value.slice none 0 0]) ++ rest.drop 1) := by
      rw [Nat.mul_one, ← hlx, Nat.add_assoc, take_pre, drop_pre, List.take_append_of_le_length (Nat.le_refl _), List.take_length, List.drop_append, List.drop_of_length_le (by simp)]
      simp
    simp only at hrun
    rw [hcs] at hrun
    obtain ⟨x2, m2⟩ := rr_step hm (src := src) (d := d) (g := g) (off := pre.length) (t := e) (e := e2) (c1 := c1) (ct := ct) (h1 := h1) (w' := G.w.setRow g (pre ++ ((xs ++ [Value.slice none 0 0]) ++ rest.drop 1)).toArray) (pre := pre) (vs := xs) (rest := rest.drop 1) hd hdl hro hlx (by simp) (by simp) (by simp) (by simp)
      (fun b _ hb => setRow_other _ _ _ _ hb) (.inr ⟨g0, _, g2, Nat.le_refl _, fun j hj => by
        simp only [World.cell?, setRow_heap G.w g _ _ _ _ g3, g3]
        have := pre_same (pre := pre) (q := xs ++ [Value.slice none 0 0] ++ rest.drop 1) (q' := xs ++ rest) hj
        simpa using this⟩)
      (shp_row g3 (by simp; omega)) (setRow_at _ _ _ _ _ g3) rfl jn (js.trans hc1) hci hltn fj o1
    refine ⟨_, _, _, by rw [e1]; exact hrun, x2, m2, ⟨_, _, _, rfl⟩, ?_⟩
    unfold ownAt
    rw [show hget (hset h1 d (.rr e e2 ct none)) d = some (.rr e e2 ct none) from hget_self _ _ _]
    refine .inr ⟨g, pre.length, cap1, k.1, k.2, ?_, by rw [jn], by omega, hcm1, shp_row g3 (by simp; omega) _ _ g4, by rw [js, hc1]; omega, by omega⟩
    show rrO G src d c1.n (some (g, pre.length)) d = _
    unfold rrO
    rw [if_pos rfl]
  · have hrun := run_app_grow (P := P) (w := G.w) ht hi hz (A := A1) (n := c1.n) (cap := cap1) (m := 1) (v := v2) (xs := xs) (ys := [Value.slice none 0 0]) hlen2 (hfw _ fun _ _ => rfl)
      (by
        have := run_first (P := P) (v := .slice A1 c1.n cap1) rfl f1 r1 (w' := G.w.drew) (fun _ _ => rfl)
        rw [hc1] at this
        rw [hsz]
        exact this) (by omega) (by omega) (by rw [← jn]; exact hfit) ty
    have hcge := grownCap_ge G.w (c1.n + 1) cap1 e
    have hcle := grownCap_le_maxLen G.w (c1.n + 1) cap1 e (by omega)
    generalize hcp : grownCap G.w (c1.n + 1) cap1 e = cap at hrun hcge hcle
    have hb : Below G.w.heap.size G.w (G.w.drew.alloc (.cells (xs ++ [Value.slice none 0 0] ++ (Builtin.zeroCells z.cells (cap - (c1.n + 1))).toList).toArray e)) := ((Below.refl _ _).drew).alloc (by simp) _
    obtain ⟨x2, m2⟩ := rr_step hm (src := src) (d := d) (g := G.w.heap.size) (off := 0) (t := e) (e := e2) (c1 := c1) (ct := ct) (h1 := h1) (pre := []) (vs := xs) (rest := (Builtin.zeroCells z.cells (cap - (c1.n + 1))).toList) hd hdl hro hlx hb.os hb.tape hb.output hb.size
      (fun b h _ => hb.block b h) (.inl (Nat.le_refl _)) (shp_of fun b h => hb.block b h) (heap_alloc_new G.w.drew _) rfl jn (js.trans hc1) hci hltn fj o1
    refine ⟨_, _, _, by rw [e1]; exact hrun, x2, m2, ⟨_, _, _, rfl⟩, ?_⟩
    unfold ownAt
    rw [show hget (hset h1 d (.rr e e2 ct none)) d = some (.rr e e2 ct none) from hget_self _ _ _]
    refine .inr ⟨G.w.heap.size, 0, cap, e, cap, ?_, by rw [jn], by omega, hcle, ?_, by rw [js, hc1]; omega, by omega⟩
    · show rrO G src d c1.n (some (G.w.heap.size, 0)) d = _
      unfold rrO
      rw [if_pos rfl]
    · have hh : (G.w.drew.alloc (.cells (xs ++ [Value.slice none 0 0] ++ (Builtin.zeroCells z.cells (cap - (c1.n + 1))).toList).toArray e)).heap[G.w.heap.size]? = some (.cells (xs ++ [Value.slice none 0 0] ++ (Builtin.zeroCells z.cells (cap - (c1.n + 1))).toList).toArray e (0, 0)) := heap_alloc_new G.w.drew _
      show World.shape? (G.w.drew.alloc _) _ = _
      unfold World.shape?
      simp only [hh]
      congr 2
      simp only [List.size_toArray, List.length_append, Array.length_toList, size_zeroCells, hzs, hlx, List.length_singleton, Nat.mul_one]
      omega
/-! ### A slice is taken out, and put back -/
theorem rr_take (hm : Mem G) {n d : Nat} {t e : TypeId} {c : Ct} {i : Int} (hn : hget G.h n = some (.rr t e c none)) (hd : hget G.h d = none) (hdl : d < hidN) (h0 : 0 ≤ i) (hi : i.toNat < c.n) :
    Ext G ⟨fun k => if k = d then G.o (hid n i.toNat) else G.o k, hset (hset G.h n (.rr t e c (some i))) d .tok, G.bs, G.w⟩ ∧ Mem ⟨fun k => if k = d then G.o (hid n i.toNat) else G.o k, hset (hset G.h n (.rr t e c (some i))) d .tok, G.bs, G.w⟩ := by
  have hnl := hm.vis _ _ hn
  have hne : n ≠ d := by rintro rfl; rw [hn] at hd; cases hd
  obtain ⟨⟨z1, z2⟩, hblk⟩ := hm.blk n _ hn
  have hil : i.toNat < hidN := by omega
  have hbig : ∀ j, hid n j ≠ d ∧ hid n j ≠ n := fun j => by
    have := hid_big n j
    omega
  have hgd : hget (hset (hset G.h n (.rr t e c (some i))) d .tok) d = some .tok := hget_self _ _ _
  have hgn : hget (hset (hset G.h n (.rr t e c (some i))) d .tok) n = some (.rr t e c (some i)) := by rw [hget_other _ _ (Ne.symm hne), hget_self]
  have hgo : ∀ k, k ≠ d → k ≠ n → hget (hset (hset G.h n (.rr t e c (some i))) d .tok) k = hget G.h k := fun k q1 q2 => by rw [hget_other _ _ (Ne.symm q1), hget_other _ _ (Ne.symm q2)]
  have hn' : ∀ j, hget (hset (hset G.h n (.rr t e c (some i))) d .tok) (hid n j) = none := fun j => by rw [hgo _ (hbig j).1 (hbig j).2]; exact no_hid hm n j
  have han : alive G.h n := .inl ⟨_, hn, rfl⟩
  have hah : ∀ j, j < c.n → alive G.h (hid n j) := fun j hj => .inr ⟨no_hid hm _ _, n, j, _, rfl, hn, hj, by omega, rfl⟩
  have hdead : ¬ alive (hset (hset G.h n (.rr t e c (some i))) d .tok) (hid n i.toNat) := fun ha => by
    obtain ⟨b9, h9, h8⟩ := hid_alive (hn' _) hil ha
    rw [hgn] at h9
    cases h9
    have h7 : holeAt (some i) i.toNat = false := h8.2.2
    unfold holeAt at h7
    have := of_decide_eq_false h7
    omega
  have hal : ∀ k, (k = n ∨ k = d ∨ k = hid n i.toNat) → alive (hset (hset G.h n (.rr t e c (some i))) d .tok) k → ∀ b m, (if k = d then G.o (hid n i.toNat) else G.o k) = some (b, m) → (k = n ∧ G.o n = some (b, m)) ∨ (k = d ∧ G.o (hid n i.toNat) = some (b, m)) := by
    rintro k (rfl | rfl | rfl) ha b m ho
    · rw [if_neg hne] at ho
      exact .inl ⟨rfl, ho⟩
    · rw [if_pos rfl] at ho
      exact .inr ⟨rfl, ho⟩
    · exact absurd ha hdead
  refine mem_stepH hm (G' := ⟨fun k => if k = d then G.o (hid n i.toNat) else G.o k, hset (hset G.h n (.rr t e c (some i))) d .tok, G.bs, G.w⟩) (fun k => k = n ∨ k = d ∨ k = hid n i.toNat) rfl
    (fun k hk => ?_) rfl rfl rfl (Nat.le_refl _) (fun _ _ _ => rfl) (fun _ _ _ _ _ _ _ _ => rfl) (fun k hD ha b m ho => ?_) (fun k k' hD hD' ha ha' b m m' ho ho' => ?_) (fun k hD kk hk => ?_) (fun k hD kk hk hx => ?_) (Shp.refl _) (fun k b hD hb => ?_) (fun k j hj hD hh => ?_) (fun k b j hD hb hr => ?_)
  · have q1 : k ≠ d := fun q => hk (.inr (.inl q))
    have q2 : k ≠ n := fun q => hk (.inl q)
    exact ⟨hgo k q1 q2, if_neg q1⟩
  · rcases hal k hD ha b m ho with ⟨rfl, ho2⟩ | ⟨rfl, ho2⟩
    · exact ⟨(hm.own _ han b m ho2).1, .inr ⟨k, m, .inl rfl, han, ho2, Nat.le_refl _⟩⟩
    · have ha0 := hah _ hi
      exact ⟨(hm.own _ ha0 b m ho2).1, .inr ⟨hid n i.toNat, m, .inr (.inr rfl), ha0, ho2, Nat.le_refl _⟩⟩
  · rcases hal k hD ha b m ho with ⟨rfl, ho2⟩ | ⟨rfl, ho2⟩ <;> rcases hal k' hD' ha' b m' ho' with ⟨rfl, ho3⟩ | ⟨rfl, ho3⟩
    · rfl
    · exact absurd (hm.inj _ _ han (hah _ hi) b m m' ho2 ho3).symm (hbig _).2
    · exact absurd (hm.inj _ _ (hah _ hi) han b m m' ho2 ho3) (hbig _).2
    · rfl
  · rcases hD with rfl | rfl | rfl
    · rw [hn] at hk
      cases hk
      exact ⟨_, hgn, fun _ => ⟨if_neg hne, rfl, rfl⟩⟩
    · rw [hd] at hk
      cases hk
    · rw [no_hid hm] at hk
      cases hk
  · rcases hD with rfl | rfl | rfl
    · rw [show hget _ k = some _ from hgn] at hk
      cases hk
      refine ⟨⟨z1, z2⟩, ?_⟩
      rcases hblk with ⟨y1, y2⟩ | ⟨g, pre, vs, rest, y1, y2, y3, y4, y5⟩
      · exact .inl ⟨y1, (if_neg hne).trans y2⟩
      · refine .inr ⟨g, pre, vs, rest, (if_neg hne).trans y1, y2, y3.sub hx.toSub, y4, fun j v hv hq => ?_⟩
        obtain ⟨r1, r2⟩ := y5 j v hv rfl
        refine ⟨hn' j, ?_⟩
        rcases r2 with r2 | ⟨g', off, n', cap, cur, r2, r3, r4, r5⟩
        · exact .inl r2
        · exact .inr ⟨g', off, n', cap, cur, r2, (if_neg (hbig j).1).trans r3, r4, r5⟩
    · rw [show hget _ k = some _ from hgd] at hk
      cases hk
      trivial
    · rw [show hget _ (hid n i.toNat) = none from hn' _] at hk
      cases hk
  · rcases hD with rfl | rfl | rfl
    · exact hnl
    · exact hdl
    · rw [show hget _ (hid n i.toNat) = none from hn' _] at hb
      cases hb
  · have := hid_big k j
    rcases hD with q | q | q
    · omega
    · omega
    · exact .inl (hid_inj q hj hil).1
  · rcases hD with rfl | rfl | rfl
    · rw [show hget _ k = some _ from hgn] at hb
      cases hb
      exact .inr ⟨_, hn, hr.1, hr.2.1, rfl⟩
    · rw [show hget _ k = some _ from hgd] at hb
      cases hb
      exact hr.elim
    · rw [show hget _ (hid n i.toNat) = none from hn' _] at hb
      cases hb
theorem rr_put (hm : Mem G) {n id g : Nat} {t e : TypeId} {c c' : Ct} {q : Int} {u : Value} {pre vs rest : List Value} (hn : hget G.h n = some (.rr t e c (some q))) (hid' : hget G.h id = some .tok) (ho : G.o n = some (g, pre.length))
    (hg : G.w.heap[g]? = some (.cells (pre ++ (vs ++ rest)).toArray t (0, 0))) (hro : roomsIs G n e (isz c) (some q) vs) (h0 : 0 ≤ q) (hi : q.toNat < vs.length) (hvl : vs.length = c.n) (hu : roomAt G id e (isz c) u) (hone : u.oneCell' = true) (h1 : ∀ v ∈ vs, v.oneCell' = true)
    (hci : isz c' = isz c) (hcz : c'.sz = c.sz) (hcn : c'.n = c.n) (hfl : flatIs G c' (vs.take q.toNat ++ [u] ++ vs.drop (q.toNat + 1))) :
    Ext G ⟨fun k => if k = hid n q.toNat then G.o id else G.o k, hset (hset G.h n (.rr t e c' none)) id .dead, G.bs, G.w.setRow g (pre ++ ((vs.take q.toNat ++ [u] ++ vs.drop (q.toNat + 1)) ++ rest)).toArray⟩ ∧
      Mem ⟨fun k => if k = hid n q.toNat then G.o id else G.o k, hset (hset G.h n (.rr t e c' none)) id .dead, G.bs, G.w.setRow g (pre ++ ((vs.take q.toNat ++ [u] ++ vs.drop (q.toNat + 1)) ++ rest)).toArray⟩ := by
  have hnl := hm.vis _ _ hn
  have hdl := hm.vis _ _ hid'
  have hne : n ≠ id := by rintro rfl; rw [hn] at hid'; cases hid'
  obtain ⟨⟨z1, z2⟩, hblk⟩ := hm.blk n _ hn
  have hil : q.toNat < hidN := by omega
  have hbig : ∀ j, hid n j ≠ id ∧ hid n j ≠ n := fun j => by
    have := hid_big n j
    omega
  have hgd : hget (hset (hset G.h n (.rr t e c' none)) id .dead) id = some .dead := hget_self _ _ _
  have hgn : hget (hset (hset G.h n (.rr t e c' none)) id .dead) n = some (.rr t e c' none) := by rw [hget_other _ _ (Ne.symm hne), hget_self]
  have hgo : ∀ k, k ≠ id → k ≠ n → hget (hset (hset G.h n (.rr t e c' none)) id .dead) k = hget G.h k := fun k q1 q2 => by rw [hget_other _ _ (Ne.symm q1), hget_other _ _ (Ne.symm q2)]
  have hn' : ∀ j, hget (hset (hset G.h n (.rr t e c' none)) id .dead) (hid n j) = none := fun j => by rw [hgo _ (hbig j).1 (hbig j).2]; exact no_hid hm n j
  have han : alive G.h n := .inl ⟨_, hn, rfl⟩
  have hat : alive G.h id := .inl ⟨_, hid', rfl⟩
  have hhole : ∀ j : Nat, j ≠ q.toNat → holeAt (some q) j = false := fun j hj => by
    unfold holeAt
    exact decide_eq_false fun h => hj (by omega)
  have hah : ∀ j, j < c.n → j ≠ q.toNat → alive G.h (hid n j) := fun j hj hq => .inr ⟨no_hid hm _ _, n, j, _, rfl, hn, hj, by omega, hhole j hq⟩
  have hdead : ¬ alive G.h (hid n q.toNat) := fun ha => by
    obtain ⟨b9, h9, h8⟩ := hid_alive (no_hid hm _ _) hil ha
    rw [hn] at h9
    cases h9
    have h7 : holeAt (some q) q.toNat = false := h8.2.2
    unfold holeAt at h7
    have := of_decide_eq_false h7
    omega
  have hdead2 : ¬ alive (hset (hset G.h n (.rr t e c' none)) id .dead) id := fun ha => by
    have h9 := see_alive hgd ha
    cases h9
  have hoth : ∀ k m, alive G.h k → k ≠ n → G.o k ≠ some (g, m) := fun k m ha hk h => hk (hm.inj k n ha han g m _ h ho)
  have hal : ∀ k, (k = n ∨ k = id ∨ k = hid n q.toNat) → alive (hset (hset G.h n (.rr t e c' none)) id .dead) k → ∀ b m, (if k = hid n q.toNat then G.o id else G.o k) = some (b, m) → (k = n ∧ G.o n = some (b, m)) ∨ (k = hid n q.toNat ∧ G.o id = some (b, m)) := by
    rintro k (rfl | rfl | rfl) ha b m ho
    · rw [if_neg (Ne.symm (hbig _).2)] at ho
      exact .inl ⟨rfl, ho⟩
    · exact absurd ha hdead2
    · rw [if_pos rfl] at ho
      exact .inr ⟨rfl, ho⟩
  have hlen : (vs.take q.toNat ++ [u] ++ vs.drop (q.toNat + 1)).length = vs.length := by simp; omega
  refine mem_stepH hm (G' := ⟨fun k => if k = hid n q.toNat then G.o id else G.o k, hset (hset G.h n (.rr t e c' none)) id .dead, G.bs, G.w.setRow g (pre ++ ((vs.take q.toNat ++ [u] ++ vs.drop (q.toNat + 1)) ++ rest)).toArray⟩) (fun k => k = n ∨ k = id ∨ k = hid n q.toNat) rfl
    (fun k hk => ?_) (by simp) (by simp) (by simp) (by simp) (fun b hb hno => setRow_other _ _ _ _ fun e9 => hno n pre.length (.inl rfl) han (e9 ▸ ho)) (fun k b m j hD ha hok hj => ?_) (fun k hD ha b m ho => ?_) (fun k k' hD hD' ha ha' b m m' ho ho' => ?_) (fun k hD kk hk => ?_) (fun k hD kk hk hx => ?_)
    (shp_row hg (by simp only [List.size_toArray, List.length_append, hlen])) (fun k b hD hb => ?_) (fun k j hj hD hh => ?_) (fun k b j hD hb hr => ?_)
  · have q1 : k ≠ id := fun q => hk (.inr (.inl q))
    have q2 : k ≠ n := fun q => hk (.inl q)
    exact ⟨hgo k q1 q2, if_neg fun q => hk (.inr (.inr q))⟩
  · by_cases hb : b = g
    · subst hb
      have hkn : k = n := Classical.byContradiction fun hk => hoth k m ha hk hok
      subst hkn
      rw [ho] at hok
      cases hok
      simp only [World.cell?, setRow_heap G.w b _ _ _ _ hg, hg]
      have := pre_same (pre := pre) (q := vs.take q.toNat ++ [u] ++ vs.drop (q.toNat + 1) ++ rest) (q' := vs ++ rest) hj
      simpa using this
    · simp only [World.cell?, setRow_other _ _ _ _ hb]
  · rcases hal k hD ha b m ho with ⟨rfl, ho2⟩ | ⟨rfl, ho2⟩
    · exact ⟨by simpa using (hm.own _ han b m ho2).1, .inr ⟨k, m, .inl rfl, han, ho2, Nat.le_refl _⟩⟩
    · exact ⟨by simpa using (hm.own _ hat b m ho2).1, .inr ⟨id, m, .inr (.inl rfl), hat, ho2, Nat.le_refl _⟩⟩
  · rcases hal k hD ha b m ho with ⟨rfl, ho2⟩ | ⟨rfl, ho2⟩ <;> rcases hal k' hD' ha' b m' ho' with ⟨rfl, ho3⟩ | ⟨rfl, ho3⟩
    · rfl
    · exact absurd (hm.inj _ _ han hat b m m' ho2 ho3) hne
    · exact absurd (hm.inj _ _ hat han b m m' ho2 ho3).symm hne
    · rfl
  · rcases hD with rfl | rfl | rfl
    · rw [hn] at hk
      cases hk
      exact ⟨_, hgn, fun _ => ⟨if_neg (Ne.symm (hbig _).2), hcz, hcn⟩⟩
    · exact ⟨.dead, hgd, fun _ => by cases kk <;> trivial⟩
    · rw [no_hid hm] at hk
      cases hk
  · rcases hD with rfl | rfl | rfl
    · rw [show hget _ k = some _ from hgn] at hk
      cases hk
      refine ⟨⟨hcz.trans z1, by omega⟩, .inr ⟨g, pre, _, rest, (if_neg (Ne.symm (hbig _).2)).trans ho, setRow_at _ _ _ _ _ hg, hfl.sub hx.toSub, fun x hx9 => ?_, fun j v hv _ => ⟨hn' j, ?_⟩⟩⟩
      · rcases List.mem_append.1 hx9 with hx9 | hx9
        · rcases List.mem_append.1 hx9 with hx9 | hx9
          · exact h1 x (List.mem_of_mem_take hx9)
          · rw [List.mem_singleton.1 hx9]
            exact hone
        · exact h1 x (List.mem_of_mem_drop hx9)
      · have hjl : j < vs.length := by
          have := (List.getElem?_eq_some_iff.1 hv).1
          omega
        have room : ∀ k0, alive G.h k0 → k0 ≠ k → (if hid k j = hid k q.toNat then G.o id else G.o (hid k j)) = G.o k0 → roomAt G k0 e (isz c) v → roomAt ⟨fun x => if x = hid k q.toNat then G.o id else G.o x, hset (hset G.h k (.rr t e c' none)) id .dead, G.bs, G.w.setRow g (pre ++ ((vs.take q.toNat ++ [u] ++ vs.drop (q.toNat + 1)) ++ rest)).toArray⟩ (hid k j) e (isz c') v := by
          intro k0 ha0 hk0 heq hr
          rcases hr with hr | ⟨g', off, n', cap, cur, r2, r3, r4, r5⟩
          · exact .inl hr
          · have hgg : g' ≠ g := fun e9 => hoth k0 _ ha0 hk0 (by rw [← e9]; exact r3)
            exact .inr ⟨g', off, n', cap, cur, r2, by rw [hci]; exact heq.trans r3, (setRow_other _ _ _ _ hgg).trans r4, by rw [hci]; exact r5⟩
        by_cases hjq : j = q.toNat
        · subst hjq
          have hvu : v = u := by
            rw [List.append_assoc, List.getElem?_append_right (by simp; omega)] at hv
            have e9 : q.toNat - (vs.take q.toNat).length = 0 := by simp; omega
            rw [e9] at hv
            exact (Option.some.inj hv).symm
          rw [hvu] at room ⊢
          exact room id hat (Ne.symm hne) (if_pos rfl) hu
        · have hvv : vs[j]? = some v := by
            by_cases hlt : j < q.toNat
            · rw [List.append_assoc, List.getElem?_append_left (by simp; omega), List.getElem?_take_of_lt hlt] at hv
              exact hv
            · rw [List.getElem?_append_right (by simp; omega), List.getElem?_drop] at hv
              rw [← hv]
              congr 1
              simp
              omega
          have hne9 : hid k j ≠ hid k q.toNat := fun e9 => hjq (hid_inj e9 (by omega) hil).2
          exact room (hid k j) (hah j (by omega) hjq) (hbig j).2 (if_neg hne9) (hro j v hvv (hhole j hjq)).2
    · rw [show hget _ k = some _ from hgd] at hk
      cases hk
      trivial
    · rw [show hget _ (hid n q.toNat) = none from hn' _] at hk
      cases hk
  · rcases hD with rfl | rfl | rfl
    · exact hnl
    · exact hdl
    · rw [show hget _ (hid n q.toNat) = none from hn' _] at hb
      cases hb
  · have := hid_big k j
    rcases hD with q | q | q
    · omega
    · omega
    · exact .inl (hid_inj q hj hil).1
  · rcases hD with rfl | rfl | rfl
    · rw [show hget _ k = some _ from hgn] at hb
      cases hb
      by_cases hjq : j = q.toNat
      · exact .inl (.inr (.inr (by rw [hjq])))
      · exact .inr ⟨_, hn, by have := hr.1; omega, hr.2.1, hhole j hjq⟩
    · rw [show hget _ k = some _ from hgd] at hb
      cases hb
      exact hr.elim
    · rw [show hget _ (hid n q.toNat) = none from hn' _] at hb
      cases hb
/-! ### The operations -/
attribute [local irreducible] hid
theorem if_self {α : Type} (d : Nat) (x y : α) : (if d = d then x else y) = x := if_pos rfl
theorem tokAt_is {h : H} {id : Nat} (e : tokAt h id = true) : hget h id = some .tok := by
  unfold tokAt at e
  split at e
  · assumption
  · cases e
theorem nilE1_ok {es : List Ent} (h : nilE1 es = true) : es = [⟨none, .sa (.one (.val (.slice none 0 0)))⟩] := by
  unfold nilE1 at h
  split at h
  · rfl
  · cases h
theorem nil1_ok (hc : CxOk P cx) (hr : Rep bs gv st ν a w) {o : Oper} {t : TypeId} {n : Nat} {ps : Array (Nat × Operand)} (ho : o.op = .buildSlice t n ps) {E : Eff} (h : effNil1 cx t n (ps.toList.map (·.1)) (ps.toList.map fun p => evalE st p.2) = some E) : Runs P o a w (Res bs st ν w E) := by
  unfold effNil1 at h
  split at h
  · rename_i e sz _ _ _ _ hl
    split at h
    · rename_i te he hcond
      cases h
      simp only [Bool.and_eq_true] at hcond
      obtain ⟨c1, c2, c3, c4⟩ := hcond
      have c2 := eqn_eq c2
      have c3 := eqn_eq c3
      subst c2 c3
      obtain ⟨p0, hp0⟩ : ∃ p0, ps.toList = [p0] := by
        have := nilE1_ok c1
        have hlen := congrArg List.length this
        rw [List.length_map] at hlen
        exact List.length_eq_one_iff.1 hlen
      rw [hp0] at c1 c4
      have hx := evalE_is hr p0.2
      have hq := nilE1_ok c1
      simp only [List.map_cons, List.map_nil, List.cons.injEq, and_true] at hq
      rw [hq] at hx
      have hv : a.eval p0.2 = .slice none 0 0 := hx
      obtain ⟨x1, x2⟩ := idxs_eq c4
      have hp1 : p0.1 = 0 := by
        simp at x1
        exact x1
      obtain ⟨hu, ⟨ie, hie⟩, hsz⟩ := tiOf_slice (hc.tt _ _ hl)
      obtain ⟨i, zv, dd, hi, hz, _, hsi, hzz, _⟩ := tiOf_info (hc.tt _ _ he)
      have hszi : i.size = 1 := by rw [show (1 : Nat) = _ from hsz]; simp [Program.cellsOf, hi]
      have hps : ps.map (fun (i, x) => (i, a.eval x)) = #[(0, Value.slice none 0 0)] := by
        apply Array.ext'
        simp only [Array.toList_map, hp0, List.map_cons, List.map_nil]
        rw [hp1, hv]
      have hrun : (execOp a.eval o).run P w = .ok (.value (.slice (some ⟨w.heap.size, 0, none⟩) 1 1)) (w.alloc (.cells [Value.slice none 0 0].toArray e)) := by
        have hfl : Instr.fill (fun i => some (i * 1, 1)) ((Array.range (1 * 1)).map (zv.cells[· % zv.cells.size]!)) [(0, Value.slice none 0 0)] = some [Value.slice none 0 0].toArray := by
          have h0 := fill_full 1 [Value.slice none 0 0] 0 ((List.range (1 * 1)).map (zv.cells[· % zv.cells.size]!)) (fun u hu => by rw [List.mem_singleton.1 hu]; rfl) (by simp)
          have e3 : (Array.range (1 * 1)).map (zv.cells[· % zv.cells.size]!) = ((List.range (1 * 1)).map (zv.cells[· % zv.cells.size]!)).toArray := by apply Array.ext'; simp
          rw [e3]
          have hc9 : (Value.slice none 0 0).cells = #[Value.slice none 0 0] := rfl
          simpa [rowOf, List.range', hc9] using h0
        have := run_buildSlice (P := P) w t e 1 (ps.map fun (i, x) => (i, a.eval x)) [Value.slice none 0 0].toArray i zv hu hi hz (by rw [hszi]; decide) (by rw [hszi]; decide) (by rw [hszi, hps]; exact hfl)
        simp only [execOp, ho]
        simp only [Sem.run_bind, this, Result.andThen_ok, Sem.run_pure]
      obtain ⟨hx', hm'⟩ := mem_grow (G := gg bs st ν w) hr.mem (below_alloc w (.cells [Value.slice none 0 0].toArray e))
      refine runs_value hrun ⟨ν, hx', ⟨_, 0, 1, rfl, Nat.le_refl _, by unfold maxLen; decide, ⟨⟨heap_lt (heap_alloc_new w _), fun hlt => ?_, fun k hk g m ho' hg => ?_⟩, ?_, rfl⟩⟩, hm'⟩
      · have : bs.W.heap.size ≤ w.heap.size := hr.mem.size
        have hlt : w.heap.size < bs.W.heap.size := hlt
        omega
      · have : g < w.heap.size := (hr.mem.own k hk g m ho').1
        omega
      · simp only [World.cell?, heap_alloc_new]
        rfl
    · cases h
  · cases h
theorem appRN_ok (hc : CxOk P cx) (hr : Rep bs gv st ν a w) {o : Oper} {c : Call} (ho : o.op = .call c) (hf : c.callee = .builtin .append) {u t t' : Nat} {x y : Ent} (ht : c.argTypes.toList = [t, t']) (hv : c.args.toList.map (evalE st) = [x, y])
    {E : Eff} (h : effAppRN Ar.std cx st.heap u t t' x y = some E) (hs : E.side) : Runs P o a w (Res bs st ν w E) := by
  obtain ⟨ox, oy, hargs, hx0, hy0⟩ : ∃ ox oy, c.args.toList = [ox, oy] ∧ evalE st ox = x ∧ evalE st oy = y := by
    generalize c.args.toList = l at hv
    match l, hv with
    | [ox, oy], hv =>
      simp at hv
      exact ⟨ox, oy, rfl, hv.1, hv.2⟩
  have hx := evalE_is hr ox
  have hy := evalE_is hr oy
  rw [hx0] at hx
  rw [hy0] at hy
  unfold effAppRN at h
  split at h
  · rename_i gx gy
    split at h
    · rename_i e sz0 _ _ _ _ hl
      split at h
      · rename_i e2 z2 s2 _ _ _ b c0 he hb hcs
        split at h
        · rename_i c2 h2
          split at h
          · rename_i ct hj
            split at h
            · rename_i hcond
              cases h
              simp only [Bool.and_eq_true] at hcond
              obtain ⟨c0', c1', c2', c5, c6, c7, c8⟩ := hcond
              have c0' := eqn_eq c0'
              have c1' := eqn_eq c1'
              have c5 := eqn_eq c5
              have c6 := lee_le c6
              have c7 := eqn_eq c7
              subst c1'
              obtain ⟨n1, n2, n3⟩ := hs
              obtain ⟨hu, ⟨ie, hie⟩, hsz⟩ := tiOf_slice (hc.tt _ _ hl)
              obtain ⟨i, zv, dd, hi, hz, _, hsi, hzz, _⟩ := tiOf_info (hc.tt _ _ he)
              obtain ⟨ib, hib, hbb⟩ := hc.bs _ _ hb
              have : ib = i := by rw [hi] at hib; exact (Option.some.inj hib).symm
              subst this
              have hszi : ib.size = sz0 := by rw [hsz]; simp [Program.cellsOf, hi]
              have hzs : zv.cells.size = sz0 := by
                have := hc.sz _ _ he
                rw [hzz] at this
                simp at this
                omega
              have hd := freeAt_ok c2'
              have hdl := freeAt_lt c2'
              have hfit : ct.n * ib.bytes ≤ 140737488355328 := by
                have n3 : decide (ct.len Ar.std * (b : Int) ≤ 140737488355328) = true := n3
                have n4 := of_decide_eq_true n3
                rw [Ct.len_n, ← hbb, ← Int.natCast_mul] at n4
                omega
              have hh2 : SC.nil1.is (gg bs st ν w) (a.eval oy) := hy.of n2
              have hv0 : a.eval ox = .slice none 0 0 := hx.of n1
              obtain ⟨v', w', ν', hrun, hx', hm', hi'⟩ := app_rr (P := P) (G := gg bs st ν w) (src := bid u) (d := bid u) (e2 := e2) (h1 := st.heap) (v1 := .slice none 0 0) hr.mem hd hu hi hz (by omega) (by omega) (by omega) hj h2 hh2 (by rw [empC_sz]; omega) hfit o.type hdl (.inl ⟨rfl, empC_n c0, rfl, rfl⟩)
              refine runs_value ?_ ⟨ν', hx', hi', hm'⟩
              have ha : c.args.map a.eval = #[.slice none 0 0, a.eval oy] := by
                apply Array.ext'
                simp [hargs, hv0]
              have ht' : c.argTypes = #[t, t] := by
                apply Array.ext'
                simpa using ht
              have hrun : (Builtin.append_ #[t, t] o.type #[.slice none 0 0, a.eval oy]).run P w = .ok v' w' := hrun
              simp [execOp, ho, resolve, hf, invoke, builtin, ha, ht', hrun]
            · cases h
          · cases h
        · cases h
      · cases h
    · cases h
  · cases h
theorem rrRow_ok {h : H} {e : TypeId} {c : SC} {n : Nat} {e2 : TypeId} {c1 : Ct} (hq : rrRow h e c = some (n, e2, c1)) : c = .own n ∧ hget h n = some (.rr e e2 c1 none) := by
  unfold rrRow at hq
  split at hq
  · split at hq
    · rename_i e' e2' c' hg
      split at hq
      · rename_i he
        cases hq
        rw [eqn_eq he]
        exact ⟨rfl, hg⟩
      · cases hq
    · cases hq
  · cases hq
theorem appRO_ok (hc : CxOk P cx) (hr : Rep bs gv st ν a w) {o : Oper} {c : Call} (ho : o.op = .call c) (hf : c.callee = .builtin .append) {u t t' : Nat} {x y : Ent} (ht : c.argTypes.toList = [t, t']) (hv : c.args.toList.map (evalE st) = [x, y])
    {g0 : Option Bool} {q : SC} (hxq : x = ⟨g0, .sa (.one q)⟩) {e0 : TypeId} {sz0 : Nat} {n0 : Nat} {zz : List Value} {bb : Bool} {ff : Option Sh} (hl0 : look cx.tt t = some ⟨.slice e0 sz0, n0, zz, bb, ff⟩) {n : Nat} {e2 : TypeId} {c1 : Ct} (hq : rrRow st.heap e0 q = some (n, e2, c1))
    {E : Eff} (h : effAppRO Ar.std cx st.heap u n e2 c1 t t' x y = some E) (hs : E.side) : Runs P o a w (Res bs st ν w E) := by
  obtain ⟨ox, oy, hargs, hx0, hy0⟩ : ∃ ox oy, c.args.toList = [ox, oy] ∧ evalE st ox = x ∧ evalE st oy = y := by
    generalize c.args.toList = l at hv
    match l, hv with
    | [ox, oy], hv =>
      simp at hv
      exact ⟨ox, oy, rfl, hv.1, hv.2⟩
  have hx := evalE_is hr ox
  have hy := evalE_is hr oy
  rw [hx0] at hx
  rw [hy0] at hy
  subst hxq
  obtain ⟨rfl, hge⟩ := rrRow_ok hq
  unfold effAppRO at h
  split at h
  · rename_i gx _ gy hgx
    cases hgx
    split at h
    · rename_i e sz _ _ _ _ hl
      rw [hl0] at hl
      cases hl
      split at h
      · rename_i te b he hb
        split at h
        · rename_i c2 h2
          split at h
          · rename_i ct hj
            split at h
            · rename_i hcond
              cases h
              simp only [Bool.and_eq_true] at hcond
              obtain ⟨c0, c1', c2', c5, c6, c7⟩ := hcond
              have c0 := eqn_eq c0
              have c1' := eqn_eq c1'
              have c5 := eqn_eq c5
              have c6 := lee_le c6
              have c7 := eqn_eq c7
              subst c1'
              obtain ⟨n1, n2, n3⟩ := hs
              obtain ⟨hu, ⟨ie, hie⟩, hsz⟩ := tiOf_slice (hc.tt _ _ hl0)
              obtain ⟨i, zv, dd, hi, hz, _, hsi, hzz, _⟩ := tiOf_info (hc.tt _ _ he)
              obtain ⟨ib, hib, hbb⟩ := hc.bs _ _ hb
              have : ib = i := by rw [hi] at hib; exact (Option.some.inj hib).symm
              subst this
              have hszi : ib.size = sz0 := by rw [hsz]; simp [Program.cellsOf, hi]
              have hzs : zv.cells.size = sz0 := by
                have := hc.sz _ _ he
                rw [hzz] at this
                simp at this
                omega
              have hd := freeAt_ok c2'
              have hdl := freeAt_lt c2'
              have hfit : ct.n * ib.bytes ≤ 140737488355328 := by
                have n3 : decide (ct.len Ar.std * (b : Int) ≤ 140737488355328) = true := n3
                have n4 := of_decide_eq_true n3
                rw [Ct.len_n, ← hbb, ← Int.natCast_mul] at n4
                omega
              have hh2 : SC.nil1.is (gg bs st ν w) (a.eval oy) := hy.of n2
              have hown : (SC.own n).is (gg bs st ν w) (a.eval ox) := hx.of n1
              have hnd : n ≠ bid u := by
                rintro rfl
                rw [hge] at hd
                cases hd
              have hown2 : ownIs (gg bs st ν w) n c1 (a.eval ox) := by
                have h9 : ownAt (gg bs st ν w) n (a.eval ox) := hown.2
                unfold ownAt at h9
                rw [show hget (gg bs st ν w).h n = _ from hge] at h9
                exact h9
              obtain ⟨v', w', ν', hrun, hx', hm', hi'⟩ := app_rr (P := P) (G := gg bs st ν w) (src := n) (d := bid u) (e2 := e2) (h1 := hset st.heap n .dead) hr.mem hd hu hi hz (by omega) (by omega) (by omega) hj h2 hh2 (by omega) hfit o.type hdl (.inr ⟨hnd, hge, rfl, hown2⟩)
              refine runs_value ?_ ⟨ν', hx', hi', hm'⟩
              have ha : c.args.map a.eval = #[a.eval ox, a.eval oy] := by
                apply Array.ext'
                simp [hargs]
              have ht' : c.argTypes = #[t, t] := by
                apply Array.ext'
                simpa using ht
              have hrun : (Builtin.append_ #[t, t] o.type #[a.eval ox, a.eval oy]).run P w = .ok v' w' := hrun
              simp [execOp, ho, resolve, hf, invoke, builtin, ha, ht', hrun]
            · cases h
          · cases h
        · cases h
      · cases h
    · cases h
  · cases h
theorem take_ok (hc : CxOk P cx) (hr : Rep bs gv st ν a w) {o : Oper} {u : Nat} {t : TypeId} {x : Operand} (ho : o.op = .load t x) {E : Eff} (h : effTake Ar.std cx st.heap u t (evalE st x) = some E) (hs : E.side) : Runs P o a w (Res bs st ν w E) := by
  have hx := evalE_is hr x
  unfold effTake at h
  split at h
  · rename_i g b i hex
    rw [hex] at hx
    split at h
    · rename_i rt e c e2 z2 _ _ _ _ hb hl
      split at h
      · rename_i dct hat
        split at h
        · rename_i hcond
          cases h
          simp only [Bool.and_eq_true] at hcond
          obtain ⟨c1, c2, c3, c4⟩ := hcond
          have hd := freeAt_ok c1
          have hdl := freeAt_lt c1
          generalize bid u = d at hd hdl ⊢
          have c2 := eqn_eq c2
          have c3 := eqn_eq c3
          have c4 := eqn_eq c4
          obtain ⟨inf, z, d9, hi, _, hu, hsz, _, hag⟩ := tiOf_info (hc.tt _ _ hl)
          have hp : rpAt (gg bs st ν w) b i 0 (a.eval x) := (hx.of hs).2
          unfold rpAt at hp
          have hb' : hget (gg bs st ν w).h b = some (.rr rt e c none) := hb
          rw [hb'] at hp
          obtain ⟨gb, off, hob, ⟨h0, h2⟩, h3⟩ := hp
          obtain ⟨pre, vs, rest, hpre, hg, hf, h1, hro⟩ := hr.mem.rrAt hb hob
          subst hpre
          have hg : w.heap[gb]? = some (.cells (pre ++ (vs ++ rest)).toArray rt (0, 0)) := hg
          have hc1 : c.sz = 1 := (hr.mem.blk b _ hb).1.1
          have hlen := hf.len
          have h4 := at_is hf h1 h2 (j := 0) (n := 1) (by omega)
          rw [hat, hc1, Nat.mul_one, Nat.add_zero] at h4
          obtain ⟨x9, m9⟩ := rr_take (G := gg bs st ν w) hr.mem hb hd hdl h0 h2
          cases hq : (vs.drop i.toNat).take 1 with
          | nil => rw [hq] at h4; exact h4.elim
          | cons u9 us =>
            rw [hq] at h4
            have hv9 : vs[i.toNat]? = some u9 := by
              have := congrArg (·[0]?) hq
              simpa using this
            rw [hc1, Nat.mul_one, Nat.add_zero] at h3
            have hcell : w.cell? ⟨gb, pre.length + i.toNat, none⟩ = some u9 := by
              have h5 : (pre ++ (vs ++ rest))[pre.length + i.toNat]? = some u9 := by
                rw [get_pre, List.getElem?_append_left (get_lt hv9)]
                exact hv9
              simp only [World.cell?, hg]
              simpa using h5
            have hrm := (hro i.toNat u9 hv9 rfl).2
            refine runs_value (v := u9) (w' := w) ?_ ⟨_, x9, ⟨h4.1.1.1.sub x9.toSub, ?_⟩, m9⟩
            · simp [execOp, ho, h3, Instr.loadAt, Instr.sureAddr, loadVar, run_isAgg (w := w) hu, hag, TK.agg, hcell]
            · unfold TokOk
              simp only
              rw [show hget (setAll st.heap [(b, .rr rt e c (some i)), (d, .tok)]) d = some .tok from hget_self _ _ _]
              rcases hrm with hrm | ⟨g', off', n', cap, cur, r2, r3, r4, r5⟩
              · exact .inl hrm
              · refine .inr ⟨g', off', n', cap, cur, r2, ?_, r4, ?_⟩
                · rw [c4, ← c3]
                  exact (if_self d _ _).trans r3
                · rw [c4, ← c3]
                  exact r5
        · cases h
      · cases h
    · cases h
  · cases h
theorem setCt_isz {c c' : Ct} {i : Int} {j : Nat} {v : SA} (h : setCt Ar.std c i j v = some c') : isz c' = isz c := by
  unfold setCt at h
  split at h
  · split at h
    · split at h
      · split at h
        · cases h
          rfl
        · cases h
      · cases h
    · cases h
  · rename_i s l
    have key : ∀ l l', isz (.recs s l) = isz (.recs s l') := fun l l' => by
      cases s with
      | ints k r => cases r <;> rfl
      | recs s2 r => cases r <;> rfl
      | _ => rfl
    split at h
    · split at h
      · cases h
        exact key _ _
      · cases h
    · cases h
theorem put_ok (hc : CxOk P cx) (hr : Rep bs gv st ν a w) {o : Oper} {t : TypeId} {x y : Operand} (ho : o.op = .store t x y) {E : Eff} (h : effPut Ar.std cx st.heap t (evalE st x) (evalE st y) = some E) (hs : E.side) : Runs P o a w (Res bs st ν w E) := by
  have hx := evalE_is hr x
  have hy := evalE_is hr y
  unfold effPut at h
  split at h
  · rename_i g b i g' id e' dct e2 z2 s9 _ _ _ hex hey hl
    rw [hex] at hx
    rw [hey] at hy
    obtain ⟨inf, z, d9, hi, _, hu, hsz, _, hag⟩ := tiOf_info (hc.tt _ _ hl)
    split at h
    · rename_i bt e c q hb
      split at h
      · rename_i hcond
        simp only [Bool.and_eq_true] at hcond
        obtain ⟨l9, l0, l1, l2, l3, l4⟩ := hcond
        have l9 := eqn_eq l9
        have l1 := eqn_eq l1
        have l2 := eqn_eq l2
        have l3 := eqn_eq l3
        have l4 := eqn_eq l4
        subst l1
        split at h
        · rename_i c' hset
          cases h
          obtain ⟨n1, n2, n3⟩ := hs
          have hqi : q = i := of_decide_eq_true n3
          subst hqi
          have htok := tokAt_is l0
          obtain ⟨hyc, hyt⟩ : dct.is (gg bs st ν w) (a.eval y) ∧ TokOk (gg bs st ν w) dct.sz (a.eval y) (some (id, e)) := hy.of n2
          have hp : rpAt (gg bs st ν w) b q 0 (a.eval x) := (hx.of n1).2
          unfold rpAt at hp
          have hb' : hget (gg bs st ν w).h b = some (.rr bt e c (some q)) := hb
          rw [hb'] at hp
          obtain ⟨gb, off, hob, ⟨h0, hin⟩, e9⟩ := hp
          obtain ⟨pre, vs, rest, hpre, hg, hf, h1, hro⟩ := hr.mem.rrAt hb hob
          subst hpre
          have hg : w.heap[gb]? = some (.cells (pre ++ (vs ++ rest)).toArray bt (0, 0)) := hg
          have hc1 : c.sz = 1 := (hr.mem.blk b _ hb).1.1
          have hlen := hf.len
          rw [hc1, Nat.mul_one] at hlen
          unfold TokOk at hyt
          simp only at hyt
          rw [show hget (gg bs st ν w).h id = some .tok from htok] at hyt
          simp only at hyt
          have hone : (a.eval y).oneCell' = true := by
            obtain ⟨A, cap, us, e8, _⟩ := flat_of_is hyc
            rw [e8]
            rfl
          have hcells : (a.eval y).cells = #[a.eval y] := by
            obtain ⟨A, cap, us, e8, _⟩ := flat_of_is hyc
            rw [e8]
            rfl
          generalize hu2 : a.eval y = u at *
          obtain ⟨f1, f2, f3⟩ := setCt_is (us := [u]) hset hf h1 hin (by rw [hc1]; exact Nat.le_refl _) ⟨⟨⟨hyc, trivial⟩, hone⟩, trivial⟩
          rw [hc1, Nat.mul_one, Nat.add_zero, List.length_singleton] at f1
          obtain ⟨hx', hm'⟩ := rr_put (G := gg bs st ν w) (c' := c') (u := u) hr.mem hb htok hob hg hro h0 (by omega) hlen (by rw [l4, ← l3]; exact hyt) hone h1 (setCt_isz hset) f2 f3 f1
          refine runs_skip (w' := w.setRow gb (pre ++ ((vs.take q.toNat ++ [u] ++ vs.drop (q.toNat + 1)) ++ rest)).toArray) ?_ ⟨_, hx', trivial, hm'⟩
          have hpe := set_mid (pre := pre) (vs := vs) (rest := rest) (us := [u]) (k := q.toNat) (by simp; omega)
          have hrun := run_storeCells_at (P := P) gb (pre.length + q.toNat) bt [u] 0 (pre ++ (vs ++ rest)).toArray w hg (by simp; omega) (fun v hv => by rw [List.mem_singleton.1 hv]; exact hone)
          have hsize : (#[u] : Array Value).size = inf.size := by
            have h9 : s9 = inf.size := hsz
            rw [← h9, l9]
            rfl
          simp only [Nat.add_zero, List.length_singleton] at hrun hpe
          rw [hpe] at hrun
          simp only [execOp, ho, e9, hu2, hc1, Nat.mul_one, Nat.add_zero, Instr.storeAt, Instr.sureAddr, storeVar, sizeOf, typeInfo, Sem.run_bind, Sem.run_pure, Result.andThen_ok, run_program, hi, ne_eq, hsize, not_true_eq_false, if_false, hcells, hrun]
        · cases h
      · cases h
    · cases h
  · cases h
end Go.Proofs.Ytakebkfhigadiaa.Ry
