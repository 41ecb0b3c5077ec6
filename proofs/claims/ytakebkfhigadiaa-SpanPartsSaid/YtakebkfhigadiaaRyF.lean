/-
  The reckoner's rules hold in the model: rows that grow, are made, are copied into; lengths; the least and the greatest. No condition.
-/
import Derived.Test.YtakebkfhigadiaaRyE
namespace Go.Proofs.Ytakebkfhigadiaa.Ry
open Go Go.RowKit

section
variable {P : Program} {cx : Cx} {bs : Bs} {gv : List Value} {st : St} {ν : Nat → Option (Nat × Nat)} {a : Act} {w : World} {G : Gm}

/-! ### Rows that may be appended to -/
theorem tok_of {id : Nat} {e : TypeId} {sz : Nat} {v : Value} (h : hget G.h id = some .tok) (hr : roomAt G id e sz v) : TokOk G sz v (some (id, e)) := by
  unfold TokOk
  simp only [h]
  exact hr
/-- A new row, known by what it holds. -/
theorem new_tok (hm : Mem G) {d : Nat} (hd : hget G.h d = none) {e : TypeId} {ct : Ct} {us rest : List Value} {cap : Nat} {w' : World} (hb : Below G.w.heap.size G.w w') (hg : w'.heap[G.w.heap.size]? = some (.cells (us ++ rest).toArray e (0, 0)))
    (hf : flatIs G ct us) (h1 : ∀ u ∈ us, u.oneCell' = true) (hc : ct.n ≤ cap) (hcm : cap ≤ maxLen) (hl : (us ++ rest).length = cap * ct.sz) (hdl : d < hidN := by assumption) :
    Ext G (one G d .tok (some (G.w.heap.size, ct.n * ct.sz)) w') ∧ Mem (one G d .tok (some (G.w.heap.size, ct.n * ct.sz)) w') ∧ (SC.sl (some (d, e)) ct).is (one G d .tok (some (G.w.heap.size, ct.n * ct.sz)) w') (.slice (some ⟨G.w.heap.size, 0, none⟩) ct.n cap) := by
  have hlt := heap_lt hg
  obtain ⟨hx, hm'⟩ := mem_new (k' := .tok) (x := some (G.w.heap.size, ct.n * ct.sz)) hm hd hb (fun b m h => by cases h; exact ⟨Nat.le_refl _, hlt⟩) (fun _ => trivial)
  refine ⟨hx, hm', ?_, ?_⟩
  · refine is_of_flat (hf.sub hx.toSub) (fun j u hu => ⟨?_, ?_, h1 u (List.mem_of_getElem? hu)⟩) hc hcm
    · refine new_ok hm (G' := one G d .tok (some (G.w.heap.size, ct.n * ct.sz)) w') rfl hlt (fun n ha m ho => ?_)
      by_cases e : n = d
      · subst e
        have ho : some (G.w.heap.size, ct.n * ct.sz) = some (G.w.heap.size, m) := by simpa [one] using ho
        cases ho
        have := get_lt hu
        have := hf.len
        omega
      · have ha' : alive G.h n := alive_set (k' := .tok) (fun _ h => h) e ha
        have ho' : G.o n = some (G.w.heap.size, m) := by simpa [one, e] using ho
        have := (hm.own n ha' _ _ ho').1
        omega
    · exact row_cell (pre := []) hg hu
  · refine tok_of (hget_self _ _ _) (.inr ?_)
    exact ⟨G.w.heap.size, 0, ct.n, cap, _, rfl, by simp [one], hg, hc, hcm, by simpa using hl, rfl⟩
theorem run_first {c : Ct} {v : Value} {A : Option Addr} {cap : Nat} {us : List Value} (hv : v = .slice A c.n cap) (hf : flatIs G c us) (hc : c.n ≠ 0 → ∃ g o, A = some ⟨g, o, none⟩ ∧ ∀ j u, us[j]? = some u → G.w.cell? ⟨g, o + j, none⟩ = some u) {w' : World} (hw : ∀ b j, w'.cell? ⟨b, j, none⟩ = G.w.cell? ⟨b, j, none⟩) : (Builtin.firstCells c.sz c.n v).run P w' = .ok us.toArray w' := by
  subst hv
  have hl := hf.len
  by_cases h0 : c.n = 0
  · rw [h0, Nat.zero_mul] at hl
    have : us = [] := List.eq_nil_of_length_eq_zero hl
    subst this
    rw [h0]
    cases A with
    | none => simp [Builtin.firstCells]
    | some A => simp [Builtin.firstCells, loadCells, loadCellsFrom]
  · obtain ⟨g, o, rfl, hcell⟩ := hc h0
    have := run_loadCells_list (P := P) w' ⟨g, o, none⟩ us (fun j u hu => by rw [add_at, hw]; exact hcell j u hu)
    simp only [Builtin.firstCells]
    rw [← hl]
    exact this
/-- Appending in place. -/
theorem app_in (hm : Mem G) {id d : Nat} (hid : hget G.h id = some .tok) (hd : hget G.h d = none) {g off n m cap : Nat} {sz : Nat} {cur : Array Value} {e : TypeId} (ho : G.o id = some (g, off + n * sz)) (hg : G.w.heap[g]? = some (.cells cur e (0, 0))) {ys : List Value} (hy : ys.length = m * sz) (hfit : off + n * sz + ys.length ≤ cur.size)
    (hcm : cap ≤ maxLen) (hcs : cur.size = off + cap * sz) (hoff : off = 0) (hnm : n + m ≤ cap) (hdl : d < hidN := by assumption) :
    Ext G ⟨fun k => if k = d then some (g, off + (n + m) * sz) else G.o k, hset (hset G.h id .dead) d .tok, G.bs, G.w.setRow g (cur.toList.take (off + n * sz) ++ ys ++ cur.toList.drop (off + n * sz + ys.length)).toArray⟩ ∧
    Mem ⟨fun k => if k = d then some (g, off + (n + m) * sz) else G.o k, hset (hset G.h id .dead) d .tok, G.bs, G.w.setRow g (cur.toList.take (off + n * sz) ++ ys ++ cur.toList.drop (off + n * sz + ys.length)).toArray⟩ ∧
    (∀ j, j < off + (n + m) * sz → Gm.ok ⟨fun k => if k = d then some (g, off + (n + m) * sz) else G.o k, hset (hset G.h id .dead) d .tok, G.bs, G.w.setRow g (cur.toList.take (off + n * sz) ++ ys ++ cur.toList.drop (off + n * sz + ys.length)).toArray⟩ g j) ∧
    roomAt ⟨fun k => if k = d then some (g, off + (n + m) * sz) else G.o k, hset (hset G.h id .dead) d .tok, G.bs, G.w.setRow g (cur.toList.take (off + n * sz) ++ ys ++ cur.toList.drop (off + n * sz + ys.length)).toArray⟩ d e sz (.slice (some ⟨g, off, none⟩) (n + m) cap) := by
  have hne : id ≠ d := by rintro rfl; rw [hid] at hd; cases hd
  have hal : alive G.h id := .inl ⟨_, hid, rfl⟩
  have hlt := heap_lt hg
  have hcell : ∀ j, j < off + n * sz → (G.w.setRow g (cur.toList.take (off + n * sz) ++ ys ++ cur.toList.drop (off + n * sz + ys.length)).toArray).cell? ⟨g, j, none⟩ = G.w.cell? ⟨g, j, none⟩ := by
    intro j hj
    have h1 := setRow_at G.w g (cur.toList.take (off + n * sz) ++ ys ++ cur.toList.drop (off + n * sz + ys.length)).toArray cur e hg
    have hj2 : j < cur.size := by omega
    simp only [World.cell?, h1, hg]
    simp [hj, hj2, List.getElem?_append, Nat.min_eq_left (show off + n * sz ≤ cur.size by omega)]
  obtain ⟨hx, hm'⟩ := mem_step hm (G' := ⟨fun k => if k = d then some (g, off + (n + m) * sz) else G.o k, hset (hset G.h id .dead) d .tok, G.bs, G.w.setRow g (cur.toList.take (off + n * sz) ++ ys ++ cur.toList.drop (off + n * sz + ys.length)).toArray⟩) (fun k => k = id ∨ k = d) rfl
    (fun k hk => by
      have h1 : ¬ k = id := fun e => hk (.inl e)
      have h2 : ¬ k = d := fun e => hk (.inr e)
      exact ⟨by rw [hget_other _ _ (Ne.symm h2), hget_other _ _ (Ne.symm h1)], by simp [h2]⟩)
    (by simp) (by simp) (by simp) (by simp)
    (fun b hb hno => setRow_other _ _ _ _ fun e => hno id _ (.inl rfl) hal (e ▸ ho))
    (by
      rintro k b q j (rfl | rfl) ha hob hj
      · rw [ho] at hob
        cases hob
        exact hcell j hj
      · exact absurd ha (not_alive hd))
    (by
      rintro k (rfl | rfl) ha b q hob
      · have h9 := see_alive (by rw [hget_other _ _ (Ne.symm hne), hget_self]) ha
        cases h9
      · simp only [if_true] at hob
        cases hob
        exact ⟨by simpa using hlt, .inr ⟨id, off + n * sz, .inl rfl, hal, ho, by rw [Nat.add_mul]; omega⟩⟩)
    (by
      rintro k k' (rfl | rfl) (rfl | rfl) ha ha' b q q' hq hq'
      · rfl
      · have h9 := see_alive (by rw [hget_other _ _ (Ne.symm hne), hget_self]) ha
        cases h9
      · have h9 := see_alive (by rw [hget_other _ _ (Ne.symm hne), hget_self]) ha'
        cases h9
      · rfl)
    (by
      rintro k (rfl | rfl) kk hk
      · exact ⟨.dead, by rw [hget_other _ _ (Ne.symm hne), hget_self], fun _ => by cases kk <;> trivial⟩
      · rw [hd] at hk
        cases hk)
    (by
      rintro k (rfl | rfl) kk hk _
      · rw [hget_other _ _ (Ne.symm hne), hget_self] at hk
        cases hk
        trivial
      · rw [hget_self] at hk
        cases hk
        trivial)
    (shp_row hg (by simp; omega))
    (by
      rintro k (rfl | rfl)
      · exact .inr ⟨_, hid⟩
      · exact .inl hdl)
    (by
      rintro k (rfl | rfl) b i hb9
      · rw [hget_other _ _ (Ne.symm hne), hget_self] at hb9
        cases hb9
        exact fun h => h
      · rw [hget_self] at hb9
        cases hb9
        exact fun h => h)
  refine ⟨hx, hm', fun j hj => ⟨by simpa using hlt, fun hold => ?_, fun k ha b q hob hbg => ?_⟩, ?_⟩
  · rcases (hm.own id hal g _ ho).2 with h | ⟨h, _⟩
    · exact absurd hold (by simp only; omega)
    · exact .inr h
  · subst hbg
    by_cases h2 : k = d
    · subst h2
      simp only [if_true] at hob
      cases hob
      exact hj
    · simp only [h2, if_false] at hob
      have ha2 := alive_set (k' := .tok) (fun _ h => h) h2 ha
      by_cases h1 : k = id
      · subst h1
        have h9 := see_alive (hget_self _ _ _) ha2
        cases h9
      · exact absurd (hm.inj k id (alive_set (k' := .dead) (fun _ h => h) h1 ha2) hal b q _ hob ho) h1
  · right
    refine ⟨g, off, n + m, cap, _, rfl, by simp, setRow_at _ _ _ _ _ hg, hnm, hcm, ?_, hoff⟩
    simp
    omega
theorem run_app_room {t e : TypeId} {i : TypeInfo} (ht : P.underlying t = some (.slice e)) (hi : P.info? e = some i) {g off n cap m sz : Nat} {cur : Array Value} (hg : w.heap[g]? = some (.cells cur e (0, 0))) {v : Value} {ys : List Value} (hlen : (Builtin.lenOf v).run P w = .ok m w) (hfirst : (Builtin.firstCells i.size m v).run P w = .ok ys.toArray w) (h1 : ∀ u ∈ ys, u.oneCell' = true)
    (hsz : i.size = sz) (hroom : n + m ≤ cap) (hfit : off + n * sz + ys.length ≤ cur.size) (ty : TypeId) :
    (Builtin.append_ #[t, t] ty #[.slice (some ⟨g, off, none⟩) n cap, v]).run P w =
      .ok (.slice (some ⟨g, off, none⟩) (n + m) cap) (w.setRow g (cur.toList.take (off + n * sz) ++ ys ++ cur.toList.drop (off + n * sz + ys.length)).toArray) := by
  subst hsz
  have hst := run_storeCells_at P g (off + n * i.size) e ys 0 cur w hg (by simpa using hfit) h1
  simp only [Nat.add_zero] at hst
  simp [Builtin.append_, run_underlying ht, sizeOf, typeInfo, hi, hlen, hroom, hfirst, add_at, hst]
theorem run_app_grow {t e : TypeId} {i : TypeInfo} {z : Value} (ht : P.underlying t = some (.slice e)) (hi : P.info? e = some i) (hz : i.zero = some z) {A : Option Addr} {n cap m : Nat} {v : Value} {xs ys : List Value} (hlen : (Builtin.lenOf v).run P w = .ok m w) (hfirst : (Builtin.firstCells i.size m v).run P w.drew = .ok ys.toArray w.drew)
    (hold : (Builtin.firstCells i.size n (.slice A n cap)).run P w.drew = .ok xs.toArray w.drew) (hroom : cap < n + m) (h63 : n + m ≤ maxLen) (hfit : (n + m) * i.bytes ≤ 140737488355328) (ty : TypeId) :
    (Builtin.append_ #[t, t] ty #[.slice A n cap, v]).run P w =
      .ok (.slice (some ⟨w.heap.size, 0, none⟩) (n + m) (grownCap w (n + m) cap e)) (w.drew.alloc (.cells (xs ++ ys ++ (Builtin.zeroCells z.cells (grownCap w (n + m) cap e - (n + m))).toList).toArray e)) := by
  have hn : ¬ (n + m ≤ cap) := by omega
  have h63' : ¬ (9223372036854775807 < ((n : Int) + (m : Int))) := by unfold maxLen at h63; omega
  have h48' : ¬ (281474976710656 < Builtin.nextslicecap (n + m) cap * i.bytes) := by
    have := growslice_fits (need := n + m) (old := cap) hroom hfit
    omega
  simp [Builtin.append_, run_underlying ht, sizeOf, typeInfo, zeroValue, hi, hz, hlen, hn, h63', h48', Question.forced, hfirst, hold, newRow, grownCap]
  congr 2
  apply Array.ext'
  simp
theorem flatIs.append {c1 c2 ct : Ct} {xs ys : List Value} (hj : joinCt Ar.std c1 c2 = some ct) (h1 : flatIs G c1 xs) (h2 : flatIs G c2 ys) : flatIs G ct (xs ++ ys) ∧ ct.n = c1.n + c2.n ∧ ct.sz = c1.sz ∧ c2.sz = c1.sz := by
  unfold joinCt at hj
  split at hj
  · split at hj
    · rename_i k l k' m _ hk
      cases hj
      have hk := kindEq_eq hk
      subst hk
      have h1 : xs = l.map (Value.int k') := h1
      have h2 : ys = m.map (Value.int k') := h2
      subst h1 h2
      refine ⟨?_, ?_, rfl, rfl⟩
      · show _ = (l ++ m).map _
        rw [List.map_append]
      · simp [Ct.n, Ar.std]
    · cases hj
  · split at hj
    · rename_i q l q' m _ hk
      cases hj
      have hk := shEq_eq hk
      subst hk
      obtain ⟨a1, a2⟩ := h1
      obtain ⟨b1, b2⟩ := h2
      refine ⟨⟨?_, fun i x hx => ?_⟩, ?_, rfl, rfl⟩
      · show (xs ++ ys).length = (l ++ m).length * _
        rw [List.length_append, List.length_append, a1, b1, Nat.add_mul]
      · have hx : (l ++ m)[i]? = some x := hx
        rcases Nat.lt_or_ge i l.length with hi | hi
        · rw [List.getElem?_append_left hi] at hx
          have hle := chunk_le (sz := q'.size) hi
          rw [List.drop_append_of_le_length (by omega), List.take_append_of_le_length (by simp; omega)]
          exact a2 i x hx
        · rw [List.getElem?_append_right hi] at hx
          have := b2 _ x hx
          have e : i * q'.size = xs.length + (i - l.length) * q'.size := by
            rw [a1, ← Nat.add_mul]
            congr 1
            omega
          rw [e, List.drop_append]
          have e2 : xs.drop (xs.length + (i - l.length) * q'.size) = [] := List.drop_of_length_le (by omega)
          have e3 : xs.length + (i - l.length) * q'.size - xs.length = (i - l.length) * q'.size := by omega
          rw [e2, e3, List.nil_append]
          exact this
      · simp [Ct.n, Ar.std]
    · cases hj
  · cases hj
theorem empC_n (c : Ct) : (empC c).n = 0 := by cases c <;> rfl
theorem empC_sz (c : Ct) : (empC c).sz = c.sz := by cases c <;> rfl
theorem empC_flat (c : Ct) : flatIs G (empC c) [] := by
  cases c with
  | ints k l => rfl
  | recs s l => exact ⟨by simp, fun i x hx => by simp at hx⟩
theorem empC_is (c : Ct) : (empC c).is G (.slice none 0 0) := by cases c <;> exact rowIs_nil
theorem sndCt_holds (hm : Mem G) {c1 c2 : Ct} {x : SC} {v : Value} (h : sndCt G.h c1 x = some c2) (hv : x.is G v) : Holds G c2 v := by
  unfold sndCt at h
  split at h
  · cases h
    have hv : v = .slice none 0 0 := hv
    subst hv
    exact ⟨none, 0, [], by rw [empC_n], by rw [empC_n]; exact Nat.le_refl _, by unfold maxLen; omega, empC_flat _, (fun u hu => by cases hu), fun h => absurd (empC_n _) h⟩
  · exact ctOf_holds hm h hv
theorem lenOf_holds {c : Ct} {v : Value} (h : Holds G c v) (w : World) : (Builtin.lenOf v).run P w = .ok c.n w := by
  obtain ⟨A, cap, us, rfl, _⟩ := h
  rfl
/-- What an append leaves, by the two ways in which it may go. -/
theorem app_main (hm : Mem G) {id d : Nat} (hd : hget G.h d = none) (kill : List (Nat × Blk)) (hkill : kill = [] ∧ True ∨ kill = [(id, .dead)] ∧ hget G.h id = some .tok) {t e : TypeId} {i : TypeInfo} {z : Value} (ht : P.underlying t = some (.slice e)) (hi : P.info? e = some i) (hz : i.zero = some z) {sz : Nat} (hsz : i.size = sz) (hzs : z.cells.size = sz) (hsz1 : 1 ≤ sz) (hb1 : 1 ≤ i.bytes)
    {c1 c2 ct : Ct} {v1 v2 : Value} (hj : joinCt Ar.std c1 c2 = some ct) (h1 : c1.is G v1) (hroom : (∃ a, v1 = .slice a 0 0) ∨ kill = [(id, .dead)] ∧ roomAt G id e sz v1) (h2 : Holds G c2 v2) (hc1 : c1.sz = sz) (hfit : ct.n * i.bytes ≤ 140737488355328) (ty : TypeId) (hdl : d < hidN := by assumption) :
    ∃ v' w' ν', (Builtin.append_ #[t, t] ty #[v1, v2]).run P G.w = .ok v' w' ∧ Ext G ⟨ν', setAll G.h (kill ++ [(d, .tok)]), G.bs, w'⟩ ∧ Mem ⟨ν', setAll G.h (kill ++ [(d, .tok)]), G.bs, w'⟩ ∧ (SC.sl (some (d, e)) ct).is ⟨ν', setAll G.h (kill ++ [(d, .tok)]), G.bs, w'⟩ v' := by
  obtain ⟨A1, cap1, xs, e1, hcap1, hcm1, f1, o1, r1⟩ := flat_of_is h1
  have hH1 := holds_of_is h1
  have hH2 := h2
  obtain ⟨A2, cap2, ys, e2, hcap2, hcm2, f2, o2, r2⟩ := h2
  obtain ⟨fj, jn, js, js2⟩ := flatIs.append hj f1 f2
  have hly := f2.len
  have hlx := f1.len
  rw [js2, hc1] at hly
  rw [hc1] at hlx
  have h63 : ct.n ≤ maxLen := by
    have : ct.n ≤ ct.n * i.bytes := Nat.le_mul_of_pos_right _ (by omega)
    unfold maxLen
    omega
  have hlen2 : (Builtin.lenOf v2).run P G.w = .ok c2.n G.w := lenOf_holds hH2 _
  -- the world behind the right's end
  have kill1 : ∃ ν1, Ext G ⟨ν1, setAll G.h kill, G.bs, G.w⟩ ∧ Mem ⟨ν1, setAll G.h kill, G.bs, G.w⟩ ∧ hget (setAll G.h kill) d = none := by
    rcases hkill with ⟨rfl, _⟩ | ⟨rfl, hid⟩
    · exact ⟨G.o, Ext.refl _, hm, hd⟩
    · have hne : id ≠ d := by rintro rfl; rw [hid] at hd; cases hd
      obtain ⟨hx, hm'⟩ := mem_one (d := id) (k' := .dead) (x := none) (w' := G.w) hm rfl rfl rfl (Nat.le_refl _) (fun _ _ _ => rfl) (fun _ _ _ _ _ _ => rfl) (fun b m h => by cases h) (fun k _ _ => by cases k <;> trivial) (fun _ => trivial)
      exact ⟨_, hx, hm', by show hget (hset G.h id .dead) d = none; rw [hget_other _ _ hne]; exact hd⟩
  have happ : setAll G.h (kill ++ [(d, .tok)]) = hset (setAll G.h kill) d .tok := by
    rcases hkill with ⟨rfl, _⟩ | ⟨rfl, _⟩ <;> rfl
  by_cases hin : c1.n + c2.n ≤ cap1
  · by_cases hz1 : ∃ a, v1 = .slice a 0 0
    · -- nothing is appended to a row without room
      obtain ⟨a1, rfl⟩ := hz1
      simp only [Value.slice.injEq] at e1
      obtain ⟨rfl, e3, e4⟩ := e1
      have z1 : c1.n = 0 := by omega
      have z2 : c2.n = 0 := by omega
      have z3 : ct.n = 0 := by omega
      obtain ⟨ν1, x1, m1, d1⟩ := kill1
      obtain ⟨x2, m2⟩ := mem_one (G := ⟨ν1, setAll G.h kill, G.bs, G.w⟩) (d := d) (k' := .tok) (x := none) (w' := G.w) m1 rfl rfl rfl (Nat.le_refl _) (fun _ _ _ => rfl) (fun _ _ _ _ _ _ => rfl) (fun b m h => by cases h) (fun k hk _ => by rw [d1] at hk; cases hk) (fun _ => trivial)
      refine ⟨.slice a1 0 0, G.w, (one ⟨ν1, setAll G.h kill, G.bs, G.w⟩ d .tok none G.w).o, ?_, ?_, ?_, ?_⟩
      · have hys : ys = [] := List.eq_nil_of_length_eq_zero (by rw [hly, z2, Nat.zero_mul])
        rw [z2] at hlen2
        have hfirst := run_first (P := P) e2 f2 r2 (w' := G.w) (fun _ _ => rfl)
        rw [z2, js2, hc1, hys] at hfirst
        subst hsz
        cases a1 with
        | none => simp [Builtin.append_, run_underlying ht, sizeOf, typeInfo, hi, hlen2, hfirst]
        | some a1 => simp [Builtin.append_, run_underlying ht, sizeOf, typeInfo, hi, hlen2, hfirst, storeCells]
      · rw [happ]
        exact x1.trans x2
      · rw [happ]
        exact m2
      · rw [happ]
        refine ⟨?_, ?_⟩
        · have hcl : ct = empC ct := by
            cases ct with
            | ints k l => have : l = [] := List.eq_nil_of_length_eq_zero z3; subst this; rfl
            | recs s l => have : l = [] := List.eq_nil_of_length_eq_zero z3; subst this; rfl
          have := Ct.is.sub (x1.trans x2).toSub h1
          have hn : c1.is (one ⟨ν1, setAll G.h kill, G.bs, G.w⟩ d .tok none G.w) (.slice a1 0 0) := this
          rw [hcl]
          cases ct with
          | ints k l => exact ⟨a1, 0, rfl, Nat.le_refl _, by unfold maxLen; omega, fun h => absurd rfl h⟩
          | recs s l => exact ⟨a1, 0, rfl, Nat.le_refl _, by unfold maxLen; omega, fun h => absurd rfl h⟩
        · exact tok_of (hget_self _ _ _) (.inl ⟨a1, rfl⟩)
    · rcases hroom with h | ⟨hk, hr⟩
      · exact absurd h hz1
      rcases hkill with ⟨hk', _⟩ | ⟨_, hid⟩
      · rw [hk] at hk'; cases hk'
      subst hk
      rcases hr with h | ⟨g, off, n, cap, cur, q1, q2, q3, q4, q5, q6, q7⟩
      · exact absurd h hz1
      rw [e1] at q1
      simp only [Value.slice.injEq] at q1
      obtain ⟨rfl, hn, rfl⟩ := q1
      subst hn
      have hmul : c1.n * sz + c2.n * sz ≤ cap1 * sz := by rw [← Nat.add_mul]; exact Nat.mul_le_mul_right _ hin
      have hfitc : off + c1.n * sz + ys.length ≤ cur.size := by rw [hly, q6]; omega
      obtain ⟨hx, hm', hok, hroom'⟩ := app_in (m := c2.n) hm hid hd q2 q3 hly hfitc q5 q6 q7 hin
      refine ⟨.slice (some ⟨g, off, none⟩) (c1.n + c2.n) cap1, _, _, ?_, hx, hm', ?_, ?_⟩
      · rw [e1]
        refine run_app_room ht hi q3 hlen2 ?_ o2 hsz hin hfitc ty
        have := run_first (P := P) e2 f2 r2 (w' := G.w) (fun _ _ => rfl)
        rw [js2, hc1] at this
        rw [hsz]
        exact this
      · have key := is_of_flat (g := g) (o := off) (cap := cap1) (fj.sub hx.toSub) (fun j u hu => ?_) (by omega) q5
        · rw [jn] at key
          exact key
        have hj := get_lt hu
        rw [List.length_append, hlx, hly] at hj
        refine ⟨hok _ (by rw [Nat.add_mul]; omega), ?_, ?_⟩
        · have h1 := setRow_at G.w g (cur.toList.take (off + c1.n * sz) ++ ys ++ cur.toList.drop (off + c1.n * sz + ys.length)).toArray cur e q3
          simp only [World.cell?, h1]
          by_cases hjx : j < xs.length
          · rw [List.getElem?_append_left hjx] at hu
            obtain ⟨g', o', e5, hc5⟩ := r1 (by intro h; rw [h, Nat.zero_mul] at hlx; omega)
            cases e5
            have := (hc5 j u hu).cell
            simp only [World.cell?, q3] at this
            have h6 : off + j < off + c1.n * sz := by omega
            have h7 : off + j < cur.size := by omega
            have h8 : cur[off + j]? = some u := by simpa using this
            simp [h6, List.getElem?_append, Nat.min_eq_left (show off + c1.n * sz ≤ cur.size by omega)]
            simpa [h7] using h8
          · rw [List.getElem?_append_right (by omega)] at hu
            have h6 : ¬ off + j < off + c1.n * sz := by omega
            have h7 : off + j - (off + c1.n * sz) = j - xs.length := by omega
            have h8 : off + j < off + c1.n * sz + ys.length := by omega
            simp [h6, List.getElem?_append, Nat.min_eq_left (show off + c1.n * sz ≤ cur.size by omega), h7, hu]
            omega
        · rcases List.mem_append.1 (List.mem_of_getElem? hu) with h | h
          · exact o1 u h
          · exact o2 u h
      · have hs3 : ct.sz = sz := by rw [js, hc1]
        rw [hs3]
        exact tok_of (hget_self _ _ _) hroom'
  · have hgrow : cap1 < c1.n + c2.n := by omega
    obtain ⟨ν1, x1, m1, d1⟩ := kill1
    have hrun := run_app_grow (P := P) (w := G.w) ht hi hz (A := A1) (n := c1.n) (cap := cap1) (m := c2.n) (v := v2) (xs := xs) (ys := ys) hlen2
      (by
        have := run_first (P := P) e2 f2 r2 (w' := G.w.drew) (fun _ _ => rfl)
        rw [js2, hc1] at this
        rw [hsz]
        exact this)
      (by
        have := run_first (P := P) (v := .slice A1 c1.n cap1) rfl f1 (fun hn => by
          obtain ⟨g, o, h, hc⟩ := r1 hn
          exact ⟨g, o, h, fun j u hu => (hc j u hu).cell⟩) (w' := G.w.drew) (fun _ _ => rfl)
        rw [hc1] at this
        rw [hsz]
        exact this) hgrow (by omega) (by rw [← jn]; exact hfit) ty
    have hcge := grownCap_ge G.w (c1.n + c2.n) cap1 e
    have hcle := grownCap_le_maxLen G.w (c1.n + c2.n) cap1 e (by omega)
    generalize hcp : grownCap G.w (c1.n + c2.n) cap1 e = cap at hrun hcge hcle
    have hb : Below G.w.heap.size G.w (G.w.drew.alloc (.cells (xs ++ ys ++ (Builtin.zeroCells z.cells (cap - (c1.n + c2.n))).toList).toArray e)) := ((Below.refl _ _).drew).alloc (by simp) _
    obtain ⟨x2, m2, i2⟩ := new_tok (G := ⟨ν1, setAll G.h kill, G.bs, G.w⟩) (ct := ct) (cap := cap) (e := e) m1 d1 hb (heap_alloc_new _ _) (fj.sub x1.toSub) (fun u hu => by
      rcases List.mem_append.1 hu with h | h
      · exact o1 u h
      · exact o2 u h) (by omega) hcle (by
        rw [js, hc1]
        simp only [List.length_append, hlx, hly, Array.length_toList, size_zeroCells, hzs]
        rw [← Nat.add_mul, ← Nat.add_mul]
        congr 1
        omega)
    rw [happ]
    refine ⟨_, _, _, by rw [e1]; exact hrun, x1.trans x2, m2, ?_⟩
    have e9 : (Value.slice (some ⟨G.w.heap.size, 0, none⟩) (c1.n + c2.n) cap) = .slice (some ⟨G.w.heap.size, 0, none⟩) ct.n cap := by rw [jn]
    rw [e9]
    exact i2
/-- Appending to a slice that has nothing and no room. -/
theorem app_emp (hm : Mem G) {id d : Nat} {e : TypeId} (hid : hget G.h id = some (.emp e)) (hd : hget G.h d = none) {t : TypeId} {i : TypeInfo} {z : Value} (ht : P.underlying t = some (.slice e)) (hi : P.info? e = some i) (hz : i.zero = some z) {sz : Nat} (hsz : i.size = sz) (hzs : z.cells.size = sz) (hb1 : 1 ≤ i.bytes)
    {c1 c2 ct : Ct} {v1 v2 : Value} (hj : joinCt Ar.std (empC c1) c2 = some ct) (hv1 : (SC.own id).is G v1) (h2 : Holds G c2 v2) (hc1 : c1.sz = sz) (hfit : ct.n * i.bytes ≤ 140737488355328) (ty : TypeId) (hdl : d < hidN := by assumption) :
    ∃ v' w' ν', (Builtin.append_ #[t, t] ty #[v1, v2]).run P G.w = .ok v' w' ∧ Ext G ⟨ν', setAll G.h [(id, .dead), (d, .row e ct)], G.bs, w'⟩ ∧ Mem ⟨ν', setAll G.h [(id, .dead), (d, .row e ct)], G.bs, w'⟩ ∧ (SC.own d).is ⟨ν', setAll G.h [(id, .dead), (d, .row e ct)], G.bs, w'⟩ v' := by
  have hv1 := hv1.2
  unfold ownAt at hv1
  rw [hid] at hv1
  obtain ⟨g0, og, rfl⟩ := hv1
  have f1 : flatIs G (empC c1) [] := empC_flat c1
  have hH2 := h2
  obtain ⟨A2, cap2, ys, e2, hcap2, hcm2, f2, o2, r2⟩ := h2
  obtain ⟨fj, jn, js, js2⟩ := flatIs.append hj f1 f2
  rw [List.nil_append] at fj
  rw [empC_n, Nat.zero_add] at jn
  rw [empC_sz] at js js2
  have hly := f2.len
  rw [js2, hc1] at hly
  have h63 : ct.n ≤ maxLen := by
    have : ct.n ≤ ct.n * i.bytes := Nat.le_mul_of_pos_right _ (by omega)
    unfold maxLen
    omega
  have hlen2 : (Builtin.lenOf v2).run P G.w = .ok c2.n G.w := lenOf_holds hH2 _
  have hne : id ≠ d := by rintro rfl; rw [hid] at hd; cases hd
  have hal : alive G.h id := .inl ⟨_, hid, rfl⟩
  have hset2 : setAll G.h [(id, .dead), (d, .row e ct)] = hset (hset G.h id .dead) d (.row e ct) := rfl
  rw [hset2]
  by_cases hz2 : c2.n = 0
  · have hys : ys = [] := List.eq_nil_of_length_eq_zero (by rw [hly, hz2, Nat.zero_mul])
    have hct0 : ct.n = 0 := by omega
    obtain ⟨x1, m1⟩ := mem_one (d := id) (k' := .dead) (x := none) (w' := G.w) hm rfl rfl rfl (Nat.le_refl _) (fun _ _ _ => rfl) (fun _ _ _ _ _ _ => rfl) (fun b m h => by cases h) (fun k _ _ => by cases k <;> trivial) (fun _ => trivial)
    have d1 : hget (one G id .dead none G.w).h d = none := by show hget (hset G.h id .dead) d = none; rw [hget_other _ _ hne]; exact hd
    obtain ⟨x2, m2⟩ := mem_one (G := one G id .dead none G.w) (d := d) (k' := .row e ct) (x := none) (w' := G.w) m1 rfl rfl rfl (Nat.le_refl _) (fun _ _ _ => rfl) (fun _ _ _ _ _ _ => rfl) (fun b m h => by cases h) (fun k hk _ => by rw [d1] at hk; cases hk)
      (fun _ => .inl ⟨hct0, by simp [one]⟩)
    refine ⟨.slice (some ⟨g0, 0, none⟩) 0 0, G.w, _, ?_, x1.trans x2, m2, ⟨_, _, _, rfl⟩, ?_⟩
    · have hfirst := run_first (P := P) e2 f2 r2 (w' := G.w) (fun _ _ => rfl)
      rw [hz2, js2, hc1, hys] at hfirst
      rw [hz2] at hlen2
      subst hsz
      simp [Builtin.append_, run_underlying ht, sizeOf, typeInfo, hi, hlen2, hfirst, storeCells]
    · unfold ownAt
      rw [show hget (hset (hset G.h id .dead) d (.row e ct)) d = some (.row e ct) from hget_self _ _ _]
      exact .inl ⟨hct0, by simp, _, rfl⟩
  · obtain ⟨x1, m1⟩ := mem_one (d := id) (k' := .dead) (x := none) (w' := G.w) hm rfl rfl rfl (Nat.le_refl _) (fun _ _ _ => rfl) (fun _ _ _ _ _ _ => rfl) (fun b m h => by cases h) (fun k _ _ => by cases k <;> trivial) (fun _ => trivial)
    have d1 : hget (one G id .dead none G.w).h d = none := by show hget (hset G.h id .dead) d = none; rw [hget_other _ _ hne]; exact hd
    have hrun := run_app_grow (P := P) (w := G.w) ht hi hz (A := some ⟨g0, 0, none⟩) (n := 0) (cap := 0) (m := c2.n) (v := v2) (xs := []) (ys := ys) hlen2
      (by
        have := run_first (P := P) e2 f2 r2 (w' := G.w.drew) (fun _ _ => rfl)
        rw [js2, hc1] at this
        rw [hsz]
        exact this)
      (by
        have := run_first (P := P) (v := .slice (some ⟨g0, 0, none⟩) (empC c1).n 0) rfl f1 (fun hn => absurd (empC_n _) hn) (w' := G.w.drew) (fun _ _ => rfl)
        rw [empC_sz, hc1, empC_n] at this
        rw [hsz]
        exact this) (by omega) (by omega) (by rw [Nat.zero_add, ← jn]; exact hfit) ty
    have hcge := grownCap_ge G.w (0 + c2.n) 0 e
    have hcle := grownCap_le_maxLen G.w (0 + c2.n) 0 e (by omega)
    generalize hcp : grownCap G.w (0 + c2.n) 0 e = cap at hrun hcge hcle
    have hb : Below G.w.heap.size G.w (G.w.drew.alloc (.cells ([] ++ ys ++ (Builtin.zeroCells z.cells (cap - (0 + c2.n))).toList).toArray e)) := ((Below.refl _ _).drew).alloc (by simp) _
    obtain ⟨x2, m2⟩ := mem_new (G := one G id .dead none G.w) (d := d) (k' := .row e ct) (x := some (G.w.heap.size, 0)) m1 d1 hb (fun b m h => by cases h; exact ⟨Nat.le_refl _, heap_lt (heap_alloc_new G.w.drew _)⟩) (fun hx => .inr ⟨G.w.heap.size, [], ys, (Builtin.zeroCells z.cells (cap - (0 + c2.n))).toList, by simp [one], heap_alloc_new G.w.drew _, (fj.sub x1.toSub).sub hx.toSub, o2⟩)
    refine ⟨_, _, _, hrun, x1.trans x2, m2, ⟨_, _, _, rfl⟩, ?_⟩
    unfold ownAt
    rw [show hget (hset (hset G.h id .dead) d (.row e ct)) d = some (.row e ct) from hget_self _ _ _]
    refine .inr ⟨G.w.heap.size, 0, cap, e, cap * sz, by simp, by rw [jn, Nat.zero_add], by omega, hcle, ?_, by rw [js, hc1]; omega, by omega⟩
    have hh : (G.w.drew.alloc (.cells ([] ++ ys ++ (Builtin.zeroCells z.cells (cap - (0 + c2.n))).toList).toArray e)).heap[G.w.heap.size]? = some (.cells ([] ++ ys ++ (Builtin.zeroCells z.cells (cap - (0 + c2.n))).toList).toArray e (0, 0)) := heap_alloc_new G.w.drew _
    unfold World.shape?
    simp only [hh]
    congr 2
    simp only [List.nil_append, List.size_toArray, List.length_append, Array.length_toList, size_zeroCells, hzs, hly]
    rw [← Nat.add_mul]
    congr 1
    omega
theorem idxs_eq : ∀ {l : List Nat} {k n : Nat}, idxs l k n = true → l = List.range' k l.length ∧ k + l.length = n
  | [], k, n, h => ⟨rfl, eqn_eq h⟩
  | i :: l, k, n, h => by
    simp only [idxs, Bool.and_eq_true] at h
    obtain ⟨h1, h2⟩ := h
    obtain ⟨e1, e2⟩ := idxs_eq h2
    have h1 := eqn_eq h1
    subst h1
    refine ⟨?_, by simp; omega⟩
    simp only [List.length_cons, List.range'_succ]
    rw [← e1]
theorem fill_full (sz : Nat) : ∀ (us : List Value) (k : Nat) (l : List Value), (∀ u ∈ us, u.cells.size = sz) → (k + us.length) * sz ≤ l.length →
    Instr.fill (fun i => some (i * sz, sz)) l.toArray ((List.range' k us.length).zip us) = some (l.take (k * sz) ++ rowOf us ++ l.drop ((k + us.length) * sz)).toArray
  | [], k, l, _, h => by simp [Instr.fill, rowOf]
  | u :: us, k, l, hs, h => by
    have h1 := hs u (List.mem_cons_self ..)
    have hk : (k + (us.length + 1)) * sz = k * sz + sz + us.length * sz := by rw [Nat.add_mul, Nat.succ_mul]; omega
    simp only [List.length_cons] at h
    rw [hk] at h
    have hcond : (u.cells.size ≠ sz || k * sz + u.cells.size > l.toArray.size) = false := by simp; omega
    have hfold : u.cells.zipIdx.foldl (fun cs (p : Value × Nat) => cs.setIfInBounds (k * sz + p.2) p.1) l.toArray = (pasteV l (k * sz) u.cells.toList).toArray := by
      rw [← Array.foldl_toList, Array.toList_zipIdx]
      exact fold_paste (k * sz) u.cells.toList 0 l
    have hp := pasteV_eq u.cells.toList (k * sz) l (by simp; omega)
    have hlen : u.cells.toList.length = sz := by simpa using h1
    rw [hlen] at hp
    simp only [List.length_cons, List.range'_succ, List.zip_cons_cons, Instr.fill, hcond, Bool.false_eq_true, if_false]
    rw [hfold, hp, fill_full sz us (k + 1) _ (fun v hv => hs v (List.mem_cons_of_mem _ hv)) (by
      have : (k + 1 + us.length) * sz = k * sz + sz + us.length * sz := by rw [Nat.add_mul, Nat.add_mul]; omega
      simp [hlen]; omega)]
    congr 2
    have e1 : (k + 1) * sz = (l.take (k * sz) ++ u.cells.toList).length := by simp [h1, Nat.succ_mul]; omega
    have e2 : (k + 1 + us.length) * sz = (l.take (k * sz) ++ u.cells.toList).length + us.length * sz := by
      rw [← e1, Nat.add_mul]
    rw [e2, List.drop_append, e1, List.take_left']
    · simp only [rowOf, List.flatMap_cons, List.append_assoc, hk]
      simp [List.drop_drop]
    · rfl
theorem cells_all {sz : Nat} : ∀ {xs : List SA} {us : List Value}, sasIs G xs us → sidesA xs → (∀ v ∈ xs, v.cells.length = sz) → ∀ u ∈ us, u.cells.size = sz ∧ ∀ c ∈ u.cells.toList, c.oneCell' = true
  | [], [], _, _, _, u, hu => by cases hu
  | x :: xs, u0 :: us, h1, h2, h3, u, hu => by
    have hs2 := sides2 h2
    obtain ⟨g1, g2⟩ := sa_cells h1.1 hs2.1
    rcases List.mem_cons.1 hu with rfl | hu
    · exact ⟨by rw [← g2]; exact h3 x (List.mem_cons_self ..), g1.one⟩
    · exact cells_all h1.2 hs2.2 (fun v hv => h3 v (List.mem_cons_of_mem _ hv)) u hu
theorem app_ok (hc : CxOk P cx) (hr : Rep bs gv st ν a w) {o : Oper} {c : Call} (ho : o.op = .call c) (hf : c.callee = .builtin .append) {u t t' : Nat} {x y : Ent} (ht : c.argTypes.toList = [t, t']) (hv : c.args.toList.map (evalE st) = [x, y])
    {E : Eff} (h : effApp Ar.std cx st.heap u t t' x y = some E) (hs : E.side) : Runs P o a w (Res bs st ν w E) := by
  obtain ⟨ox, oy, hargs, hx0, hy0⟩ : ∃ ox oy, c.args.toList = [ox, oy] ∧ evalE st ox = x ∧ evalE st oy = y := by
    generalize c.args.toList = l at hv
    match l, hv with
    | [ox, oy], hv =>
      simp at hv
      exact ⟨ox, oy, rfl, hv.1, hv.2⟩
  have hx := evalE_is hr ox
  have hy := evalE_is hr oy
  rw [hx0] at hx
  rw [hy0] at hy
  unfold effApp at h
  split at h
  · rename_i gx x' gy y'
    split at h
    · rename_i e sz _ _ _ _ hl
      split at h
      · rename_i te b he hb
        split at h
        · rename_i kill c1 hk
          split at h
          · rename_i c2 h2
            split at h
            · rename_i ct hj
              split at h
              · rename_i hcond
                cases h
                simp only [Bool.and_eq_true] at hcond
                obtain ⟨c0, c1', c2', c5, c6, c7⟩ := hcond
                have c0 := eqn_eq c0
                have c1' := eqn_eq c1'
                have c5 := lee_le c5
                have c6 := lee_le c6
                have c7 := eqn_eq c7
                subst c1'
                obtain ⟨n1, n2, n3⟩ := hs
                obtain ⟨hu, ⟨ie, hie⟩, hsz⟩ := tiOf_slice (hc.tt _ _ hl)
                obtain ⟨i, zv, dd, hi, hz, _, hsi, hzz, _⟩ := tiOf_info (hc.tt _ _ he)
                obtain ⟨ib, hib, hbb⟩ := hc.bs _ _ hb
                have : ib = i := by rw [hi] at hib; exact (Option.some.inj hib).symm
                subst this
                have hszi : ib.size = sz := by rw [hsz]; simp [Program.cellsOf, hi]
                have hzs : zv.cells.size = sz := by
                  have := hc.sz _ _ he
                  rw [hzz] at this
                  simp at this
                  omega
                have hd := freeAt_ok c2'
                have hdl := freeAt_lt c2'
                have hfit : ct.n * ib.bytes ≤ 140737488355328 := by
                  have n3 : decide (ct.len Ar.std * (b : Int) ≤ 140737488355328) = true := n3
                  have n4 := of_decide_eq_true n3
                  rw [Ct.len_n, ← hbb, ← Int.natCast_mul] at n4
                  omega
                have hh2 : Holds (gg bs st ν w) c2 (a.eval oy) := sndCt_holds hr.mem h2 (hy.of n2)
                have key : ∃ id, (kill = [] ∧ True ∨ kill = [(id, .dead)] ∧ hget (gg bs st ν w).h id = some .tok) ∧ c1.is (gg bs st ν w) (a.eval ox) ∧ ((∃ A, a.eval ox = .slice A 0 0) ∨ kill = [(id, .dead)] ∧ roomAt (gg bs st ν w) id e sz (a.eval ox)) := by
                  unfold fstCt at hk
                  split at hk
                  · rename_i id e' q1
                    split at hk
                    · rename_i q2
                      cases hk
                      simp only [Bool.and_eq_true] at q2
                      have q3 := eqn_eq q2.2
                      subst q3
                      have q4 : hget st.heap id = some .tok := by
                        have := q2.1
                        unfold tokAt at this
                        split at this
                        · assumption
                        · cases this
                      obtain ⟨k1, k2⟩ := hx.of n1
                      unfold TokOk at k2
                      have q4' : hget (gg bs st ν w).h id = some .tok := q4
                      simp only [q4'] at k2
                      rw [c7] at k2
                      exact ⟨id, .inr ⟨rfl, q4⟩, k1, .inr ⟨rfl, k2⟩⟩
                    · cases hk
                  · split at hk
                    · cases hk
                      have e1 : a.eval ox = .slice none 0 0 := hx.of n1
                      rw [e1]
                      exact ⟨0, .inl ⟨rfl, trivial⟩, empC_is _, .inl ⟨none, rfl⟩⟩
                    · cases hk
                  · cases hk
                obtain ⟨id, k1, k2, k3⟩ := key
                obtain ⟨v', w', ν', hrun, hx', hm', hi'⟩ := app_main (P := P) (G := gg bs st ν w) (d := bid u) hr.mem hd kill k1 hu hi hz hszi hzs c5 (by omega) hj k2 k3 hh2 c7 hfit o.type
                refine runs_value ?_ ⟨ν', hx', hi', hm'⟩
                have ha : c.args.map a.eval = #[a.eval ox, a.eval oy] := by
                  apply Array.ext'
                  simp [hargs]
                have ht' : c.argTypes = #[t, t] := by
                  apply Array.ext'
                  simpa using ht
                have hrun : (Builtin.append_ #[t, t] o.type #[a.eval ox, a.eval oy]).run P w = .ok v' w' := hrun
                simp [execOp, ho, resolve, hf, invoke, builtin, ha, ht', hrun]
              · cases h
            · cases h
          · cases h
        · cases h
      · cases h
    · cases h
  · cases h
/-- A new slice that has nothing and no room. -/
theorem new_emp (hm : Mem G) {d : Nat} (hd : hget G.h d = none) {e : TypeId} {w' : World} (hb : Below G.w.heap.size G.w w') (hg : w'.heap[G.w.heap.size]? = some (.cells #[] e (0, 0))) (hdl : d < hidN := by assumption) :
    Ext G (one G d (.emp e) (some (G.w.heap.size, 0)) w') ∧ Mem (one G d (.emp e) (some (G.w.heap.size, 0)) w') ∧ (SC.own d).is (one G d (.emp e) (some (G.w.heap.size, 0)) w') (.slice (some ⟨G.w.heap.size, 0, none⟩) 0 0) := by
  have hlt := heap_lt hg
  obtain ⟨hx, hm'⟩ := mem_new (k' := .emp e) (x := some (G.w.heap.size, 0)) hm hd hb (fun b m h => by cases h; exact ⟨Nat.le_refl _, hlt⟩) (fun _ => ⟨G.w.heap.size, by simp [one], hg⟩)
  refine ⟨hx, hm', ⟨_, _, _, rfl⟩, ?_⟩
  unfold ownAt
  rw [show hget (one G d (.emp e) (some (G.w.heap.size, 0)) w').h d = some (.emp e) from hget_self _ _ _]
  exact ⟨G.w.heap.size, by simp [one], rfl⟩
theorem empAt_ok {h : H} {e : TypeId} {c : SC} {n : Nat} (hq : empAt h e c = some n) : c = .own n ∧ hget h n = some (.emp e) := by
  unfold empAt at hq
  split at hq
  · split at hq
    · rename_i e' hg
      split at hq
      · rename_i he
        cases hq
        rw [eqn_eq he]
        exact ⟨rfl, hg⟩
      · cases hq
    · cases hq
  · cases hq
theorem appE_ok (hc : CxOk P cx) (hr : Rep bs gv st ν a w) {o : Oper} {c : Call} (ho : o.op = .call c) (hf : c.callee = .builtin .append) {u t t' : Nat} {x y : Ent} (ht : c.argTypes.toList = [t, t']) (hv : c.args.toList.map (evalE st) = [x, y])
    {g0 : Option Bool} {q : SC} (hxq : x = ⟨g0, .sa (.one q)⟩) {e0 : TypeId} {sz0 : Nat} {n0 : Nat} {zz : List Value} {bb : Bool} {ff : Option Sh} (hl0 : look cx.tt t = some ⟨.slice e0 sz0, n0, zz, bb, ff⟩) {n : Nat} (hq : empAt st.heap e0 q = some n)
    {E : Eff} (h : effAppE Ar.std cx st.heap u n t t' x y = some E) (hs : E.side) : Runs P o a w (Res bs st ν w E) := by
  obtain ⟨ox, oy, hargs, hx0, hy0⟩ : ∃ ox oy, c.args.toList = [ox, oy] ∧ evalE st ox = x ∧ evalE st oy = y := by
    generalize c.args.toList = l at hv
    match l, hv with
    | [ox, oy], hv =>
      simp at hv
      exact ⟨ox, oy, rfl, hv.1, hv.2⟩
  have hx := evalE_is hr ox
  have hy := evalE_is hr oy
  rw [hx0] at hx
  rw [hy0] at hy
  subst hxq
  obtain ⟨rfl, hge⟩ := empAt_ok hq
  unfold effAppE at h
  split at h
  · rename_i gx _ gy y' hgx
    cases hgx
    split at h
    · rename_i e sz _ _ _ _ hl
      rw [hl0] at hl
      cases hl
      split at h
      · rename_i te b cc he hb hcc
        split at h
        · rename_i c2 h2
          split at h
          · rename_i ct hj
            split at h
            · rename_i hcond
              cases h
              simp only [Bool.and_eq_true] at hcond
              obtain ⟨c0, c1', c2', c5, c6, c7⟩ := hcond
              have c0 := eqn_eq c0
              have c1' := eqn_eq c1'
              have c5 := lee_le c5
              have c6 := lee_le c6
              have c7 := eqn_eq c7
              subst c1'
              obtain ⟨n1, n2, n3⟩ := hs
              obtain ⟨hu, ⟨ie, hie⟩, hsz⟩ := tiOf_slice (hc.tt _ _ hl0)
              obtain ⟨i, zv, dd, hi, hz, _, hsi, hzz, _⟩ := tiOf_info (hc.tt _ _ he)
              obtain ⟨ib, hib, hbb⟩ := hc.bs _ _ hb
              have : ib = i := by rw [hi] at hib; exact (Option.some.inj hib).symm
              subst this
              have hszi : ib.size = sz0 := by rw [hsz]; simp [Program.cellsOf, hi]
              have hzs : zv.cells.size = sz0 := by
                have := hc.sz _ _ he
                rw [hzz] at this
                simp at this
                omega
              have hd := freeAt_ok c2'
              have hdl := freeAt_lt c2'
              have hfit : ct.n * ib.bytes ≤ 140737488355328 := by
                have n3 : decide (ct.len Ar.std * (b : Int) ≤ 140737488355328) = true := n3
                have n4 := of_decide_eq_true n3
                rw [Ct.len_n, ← hbb, ← Int.natCast_mul] at n4
                omega
              have hh2 : Holds (gg bs st ν w) c2 (a.eval oy) := sndCt_holds hr.mem h2 (hy.of n2)
              have hown : (SC.own n).is (gg bs st ν w) (a.eval ox) := hx.of n1
              obtain ⟨v', w', ν', hrun, hx', hm', hi'⟩ := app_emp (P := P) (G := gg bs st ν w) (d := bid u) hr.mem hge hd hu hi hz hszi hzs (by omega) hj hown hh2 c7 hfit o.type
              refine runs_value ?_ ⟨ν', hx', hi', hm'⟩
              have ha : c.args.map a.eval = #[a.eval ox, a.eval oy] := by
                apply Array.ext'
                simp [hargs]
              have ht' : c.argTypes = #[t, t] := by
                apply Array.ext'
                simpa using ht
              have hrun : (Builtin.append_ #[t, t] o.type #[a.eval ox, a.eval oy]).run P w = .ok v' w' := hrun
              simp [execOp, ho, resolve, hf, invoke, builtin, ha, ht', hrun]
            · cases h
          · cases h
        · cases h
      · cases h
    · cases h
  · cases h
/-- A row of one's own goes on under another name, from a later cell on, in a block whose cells from its old beginning on may turn. -/
theorem mem_move (hm : Mem G) {id d g off off' : Nat} {k0 k' : Blk} (hid : hget G.h id = some k0) (hal : k0.alive = true) (hd : hget G.h d = none) (ho : G.o id = some (g, off)) (hle : off ≤ off') {w' : World} (hos : w'.os = G.w.os) (ht : w'.tape = G.w.tape) (hop : w'.output = G.w.output)
    (hsz : G.w.heap.size ≤ w'.heap.size) (hoth : ∀ b, b < G.w.heap.size → b ≠ g → w'.heap[b]? = G.w.heap[b]?) (hcell : ∀ j, j < off → w'.cell? ⟨g, j, none⟩ = G.w.cell? ⟨g, j, none⟩) (hsh : Shp G.w w')
    (hb : Ext G ⟨fun k => if k = d then some (g, off') else G.o k, hset (hset G.h id .dead) d k', G.bs, w'⟩ → BlkIs ⟨fun k => if k = d then some (g, off') else G.o k, hset (hset G.h id .dead) d k', G.bs, w'⟩ d k') (hdl : d < hidN := by assumption) (hnr : ∀ i, ¬ k'.roomy i := by exact fun _ h => h) :
    Ext G ⟨fun k => if k = d then some (g, off') else G.o k, hset (hset G.h id .dead) d k', G.bs, w'⟩ ∧ Mem ⟨fun k => if k = d then some (g, off') else G.o k, hset (hset G.h id .dead) d k', G.bs, w'⟩ := by
  have hne : id ≠ d := by rintro rfl; rw [hid] at hd; cases hd
  have ha0 : alive G.h id := .inl ⟨_, hid, hal⟩
  have hlt := (hm.own id ha0 g off ho).1
  refine mem_step hm (G' := ⟨fun k => if k = d then some (g, off') else G.o k, hset (hset G.h id .dead) d k', G.bs, w'⟩) (fun k => k = id ∨ k = d) rfl
    (fun k hk => by
      have h1 : ¬ k = id := fun e => hk (.inl e)
      have h2 : ¬ k = d := fun e => hk (.inr e)
      exact ⟨by rw [hget_other _ _ (Ne.symm h2), hget_other _ _ (Ne.symm h1)], by simp [h2]⟩)
    hos ht hop hsz
    (fun b hb2 hno => hoth b hb2 fun e => hno id off (.inl rfl) ha0 (by rw [e]; exact ho))
    (by
      rintro k b q j (rfl | rfl) ha hob hj
      · rw [ho] at hob
        cases hob
        exact hcell j hj
      · exact absurd ha (not_alive hd))
    (by
      rintro k (rfl | rfl) ha b q hob
      · have h9 := see_alive (by rw [hget_other _ _ (Ne.symm hne), hget_self]) ha
        cases h9
      · simp only [if_true] at hob
        cases hob
        exact ⟨Nat.lt_of_lt_of_le hlt hsz, .inr ⟨id, off, .inl rfl, ha0, ho, hle⟩⟩)
    (by
      rintro k k2 (rfl | rfl) (rfl | rfl) ha ha' b q q' hq hq'
      · rfl
      · have h9 := see_alive (by rw [hget_other _ _ (Ne.symm hne), hget_self]) ha
        cases h9
      · have h9 := see_alive (by rw [hget_other _ _ (Ne.symm hne), hget_self]) ha'
        cases h9
      · rfl)
    (by
      rintro k (rfl | rfl) kk hk
      · exact ⟨.dead, by rw [hget_other _ _ (Ne.symm hne), hget_self], fun _ => by cases kk <;> trivial⟩
      · rw [hd] at hk
        cases hk)
    (by
      rintro k (rfl | rfl) kk hk hxx
      · rw [hget_other _ _ (Ne.symm hne), hget_self] at hk
        cases hk
        trivial
      · rw [hget_self] at hk
        cases hk
        exact hb hxx)
    hsh
    (by
      rintro k (rfl | rfl)
      · exact .inr ⟨_, hid⟩
      · exact .inl hdl)
    (by
      rintro k (rfl | rfl) b i hb9
      · rw [hget_other _ _ (Ne.symm hne), hget_self] at hb9
        cases hb9
        exact fun h => h
      · rw [hget_self] at hb9
        cases hb9
        exact hnr i)
/-- Appending to a row of one's own. -/
theorem app_own (hm : Mem G) {id d : Nat} {e : TypeId} {c1 : Ct} (hid : hget G.h id = some (.row e c1)) (hd : hget G.h d = none) {t : TypeId} {i : TypeInfo} {z : Value} (ht : P.underlying t = some (.slice e)) (hi : P.info? e = some i) (hz : i.zero = some z) {sz : Nat} (hsz : i.size = sz) (hzs : z.cells.size = sz) (hb1 : 1 ≤ i.bytes)
    {c2 ct : Ct} {v1 v2 : Value} (hj : joinCt Ar.std c1 c2 = some ct) (hv1 : (SC.own id).is G v1) (h2 : Holds G c2 v2) (hc1 : c1.sz = sz) (hfit : ct.n * i.bytes ≤ 140737488355328) (ty : TypeId) (hdl : d < hidN := by assumption) :
    ∃ v' w' ν', (Builtin.append_ #[t, t] ty #[v1, v2]).run P G.w = .ok v' w' ∧ Ext G ⟨ν', setAll G.h [(id, .dead), (d, .row e ct)], G.bs, w'⟩ ∧ Mem ⟨ν', setAll G.h [(id, .dead), (d, .row e ct)], G.bs, w'⟩ ∧ (SC.own d).is ⟨ν', setAll G.h [(id, .dead), (d, .row e ct)], G.bs, w'⟩ v' := by
  have hH1 : Holds G c1 v1 := ctOf_holds hm (x := .own id) (by simp [ctOf, hid]) hv1
  have hv1 := hv1.2
  unfold ownAt at hv1
  rw [hid] at hv1
  have hH2 := h2
  obtain ⟨A1, cap1, xs, e1, hcap1, hcm1, f1, o1, r1⟩ := hH1
  obtain ⟨A2, cap2, ys, e2, hcap2, hcm2, f2, o2, r2⟩ := h2
  obtain ⟨fj, jn, js, js2⟩ := flatIs.append hj f1 f2
  have hlx := f1.len
  rw [hc1] at hlx
  have hly := f2.len
  rw [js2, hc1] at hly
  have h63 : ct.n ≤ maxLen := by
    have : ct.n ≤ ct.n * i.bytes := Nat.le_mul_of_pos_right _ (by omega)
    unfold maxLen
    omega
  have hlen2 : (Builtin.lenOf v2).run P G.w = .ok c2.n G.w := lenOf_holds hH2 _
  have hne : id ≠ d := by rintro rfl; rw [hid] at hd; cases hd
  have hal : alive G.h id := .inl ⟨_, hid, rfl⟩
  have hset2 : setAll G.h [(id, .dead), (d, .row e ct)] = hset (hset G.h id .dead) d (.row e ct) := rfl
  rw [hset2]
  have hfirst : (Builtin.firstCells i.size c2.n v2).run P G.w = .ok ys.toArray G.w := by
    have := run_first (P := P) e2 f2 r2 (w' := G.w) (fun _ _ => rfl)
    rw [js2, hc1] at this
    rw [hsz]
    exact this
  have grow : cap1 < c1.n + c2.n → ∃ v' w' ν', (Builtin.append_ #[t, t] ty #[v1, v2]).run P G.w = .ok v' w' ∧ Ext G ⟨ν', hset (hset G.h id .dead) d (.row e ct), G.bs, w'⟩ ∧ Mem ⟨ν', hset (hset G.h id .dead) d (.row e ct), G.bs, w'⟩ ∧ (SC.own d).is ⟨ν', hset (hset G.h id .dead) d (.row e ct), G.bs, w'⟩ v' := by
    intro hroom
    obtain ⟨x1, m1⟩ := mem_one (d := id) (k' := .dead) (x := none) (w' := G.w) hm rfl rfl rfl (Nat.le_refl _) (fun _ _ _ => rfl) (fun _ _ _ _ _ _ => rfl) (fun b m h => by cases h) (fun k _ _ => by cases k <;> trivial) (fun _ => trivial)
    have d1 : hget (one G id .dead none G.w).h d = none := by show hget (hset G.h id .dead) d = none; rw [hget_other _ _ hne]; exact hd
    have hrun := run_app_grow (P := P) (w := G.w) ht hi hz (A := A1) (n := c1.n) (cap := cap1) (m := c2.n) (v := v2) (xs := xs) (ys := ys) hlen2
      (by
        have := run_first (P := P) e2 f2 r2 (w' := G.w.drew) (fun _ _ => rfl)
        rw [js2, hc1] at this
        rw [hsz]
        exact this)
      (by
        have := run_first (P := P) (v := .slice A1 c1.n cap1) rfl f1 r1 (w' := G.w.drew) (fun _ _ => rfl)
        rw [hc1] at this
        rw [hsz]
        exact this) (by omega) (by omega) (by rw [← jn]; exact hfit) ty
    have hcge := grownCap_ge G.w (c1.n + c2.n) cap1 e
    have hcle := grownCap_le_maxLen G.w (c1.n + c2.n) cap1 e (by omega)
    generalize hcp : grownCap G.w (c1.n + c2.n) cap1 e = cap at hrun hcge hcle
    have hb : Below G.w.heap.size G.w (G.w.drew.alloc (.cells (xs ++ ys ++ (Builtin.zeroCells z.cells (cap - (c1.n + c2.n))).toList).toArray e)) := ((Below.refl _ _).drew).alloc (by simp) _
    obtain ⟨x2, m2⟩ := mem_new (G := one G id .dead none G.w) (d := d) (k' := .row e ct) (x := some (G.w.heap.size, 0)) m1 d1 hb (fun b m h => by cases h; exact ⟨Nat.le_refl _, heap_lt (heap_alloc_new G.w.drew _)⟩)
      (fun hx => .inr ⟨G.w.heap.size, [], xs ++ ys, (Builtin.zeroCells z.cells (cap - (c1.n + c2.n))).toList, by simp [one], heap_alloc_new G.w.drew _, (fj.sub x1.toSub).sub hx.toSub, fun q hq => (List.mem_append.1 hq).elim (o1 q) (o2 q)⟩)
    refine ⟨_, _, _, by rw [e1]; exact hrun, x1.trans x2, m2, ⟨_, _, _, rfl⟩, ?_⟩
    unfold ownAt
    rw [show hget (hset (hset G.h id .dead) d (.row e ct)) d = some (.row e ct) from hget_self _ _ _]
    refine .inr ⟨G.w.heap.size, 0, cap, e, cap * sz, by simp, by rw [jn], by omega, hcle, ?_, by rw [js, hc1]; omega, by omega⟩
    have hh : (G.w.drew.alloc (.cells (xs ++ ys ++ (Builtin.zeroCells z.cells (cap - (c1.n + c2.n))).toList).toArray e)).heap[G.w.heap.size]? = some (.cells (xs ++ ys ++ (Builtin.zeroCells z.cells (cap - (c1.n + c2.n))).toList).toArray e (0, 0)) := heap_alloc_new G.w.drew _
    show World.shape? (G.w.drew.alloc _) _ = _
    unfold World.shape?
    simp only [hh]
    congr 2
    simp only [List.size_toArray, List.length_append, Array.length_toList, size_zeroCells, hzs, hlx, hly]
    rw [← Nat.add_mul, ← Nat.add_mul]
    congr 1
    omega
  by_cases hroom : c1.n + c2.n ≤ cap1
  · rcases hv1 with ⟨z0, z1, A0, z2⟩ | ⟨g, off, cap, tt, kk, g1, g2, g3, g4, g5, g6, g7⟩
    · -- nil, and nothing is appended
      rw [z2] at e1
      have hc00 : cap1 = 0 := (Value.slice.inj e1).2.2.symm
      have hc2 : c2.n = 0 := by omega
      have hxs : xs = [] := List.eq_nil_of_length_eq_zero (by rw [hlx, z0, Nat.zero_mul])
      have hys : ys = [] := List.eq_nil_of_length_eq_zero (by rw [hly, hc2, Nat.zero_mul])
      have hct : ct.n = 0 := by omega
      obtain ⟨x1, m1⟩ := mem_one (d := id) (k' := .dead) (x := none) (w' := G.w) hm rfl rfl rfl (Nat.le_refl _) (fun _ _ _ => rfl) (fun _ _ _ _ _ _ => rfl) (fun b m h => by cases h) (fun k _ _ => by cases k <;> trivial) (fun _ => trivial)
      have d1 : hget (one G id .dead none G.w).h d = none := by show hget (hset G.h id .dead) d = none; rw [hget_other _ _ hne]; exact hd
      obtain ⟨x2, m2⟩ := mem_one (G := one G id .dead none G.w) (d := d) (k' := .row e ct) (x := none) (w' := G.w) m1 rfl rfl rfl (Nat.le_refl _) (fun _ _ _ => rfl) (fun _ _ _ _ _ _ => rfl) (fun b m h => by cases h) (fun k hk _ => by rw [d1] at hk; cases hk)
        (fun _ => .inl ⟨hct, by simp [one]⟩)
      refine ⟨.slice A0 0 0, G.w, _, ?_, x1.trans x2, m2, ⟨_, _, _, rfl⟩, ?_⟩
      · rw [z2]
        rw [hc2] at hlen2 hfirst
        cases A0 <;> simp [Builtin.append_, run_underlying ht, sizeOf, typeInfo, hi, hlen2, hfirst, hys, storeCells]
      · unfold ownAt
        rw [show hget (hset (hset G.h id .dead) d (.row e ct)) d = some (.row e ct) from hget_self _ _ _]
        exact .inl ⟨hct, by simp, _, rfl⟩
    · rw [g2] at e1
      obtain ⟨hA1, _, hcc⟩ := Value.slice.inj e1
      subst hcc
      subst hA1
      obtain ⟨pre, vs, rest, h0, hg, f3, o3⟩ := hm.rowAt hid g1
      subst h0
      have hlv := f3.len
      rw [hc1] at hlv
      have hkk : pre.length + (vs.length + rest.length) = kk ∧ True := by
        unfold World.shape? at g5
        rw [hg] at g5
        simp at g5
        exact ⟨g5.2, trivial⟩
      have hfit2 : vs.length + ys.length ≤ vs.length + rest.length := by
        have h1 : (c1.n + c2.n) * sz ≤ cap * sz := Nat.mul_le_mul_right _ hroom
        rw [Nat.add_mul] at h1
        rw [hc1] at g6
        omega
      have hrun := run_app_room (P := P) (w := G.w) ht hi (g := g) (off := pre.length) (n := c1.n) (cap := cap) (m := c2.n) (sz := sz) hg (v := v2) (ys := ys) hlen2 hfirst o2 hsz hroom (by simp; omega) ty
      have hcs : (pre ++ (vs ++ rest)).take (pre.length + c1.n * sz) ++ ys ++ (pre ++ (vs ++ rest)).drop (pre.length + c1.n * sz + ys.length) = pre ++ ((vs ++ ys) ++ rest.drop ys.length) := by
        rw [← hlv, Nat.add_assoc, take_pre, drop_pre, List.take_append_of_le_length (Nat.le_refl _), List.take_length, List.drop_append, List.drop_of_length_le (by omega)]
        simp
      simp only at hrun
      rw [hcs] at hrun
      obtain ⟨fj3, _, _, _⟩ := flatIs.append hj f3 f2
      obtain ⟨x2, m2⟩ := mem_move (k' := .row e ct) hm hid rfl hd g1 (Nat.le_refl _) (w' := G.w.setRow g (pre ++ ((vs ++ ys) ++ rest.drop ys.length)).toArray) (by simp) (by simp) (by simp) (by simp) (fun b _ hb => setRow_other _ _ _ _ hb)
        (fun j hj => by
          simp only [World.cell?, setRow_heap G.w g _ _ _ _ hg, hg]
          have := pre_same (pre := pre) (q := vs ++ ys ++ rest.drop ys.length) (q' := vs ++ rest) hj
          simpa using this)
        (shp_row hg (by simp; omega))
        (fun hx => .inr ⟨g, pre, vs ++ ys, rest.drop ys.length, by simp, setRow_at _ _ _ _ _ hg, fj3.sub hx.toSub, fun q hq => (List.mem_append.1 hq).elim (o3 q) (o2 q)⟩)
      refine ⟨_, _, _, by rw [g2]; exact hrun, x2, m2, ⟨_, _, _, rfl⟩, ?_⟩
      unfold ownAt
      rw [show hget (hset (hset G.h id .dead) d (.row e ct)) d = some (.row e ct) from hget_self _ _ _]
      refine .inr ⟨g, pre.length, cap, tt, kk, by simp, by rw [jn], by omega, g4, shp_row hg (by simp; omega) _ _ g5, by rw [js]; exact g6, g7⟩
  · exact grow (by omega)
/-- Appending to nil: a row of one's own. -/
theorem app_nil (hm : Mem G) {d : Nat} {e : TypeId} (hd : hget G.h d = none) {t : TypeId} {i : TypeInfo} {z : Value} (ht : P.underlying t = some (.slice e)) (hi : P.info? e = some i) (hz : i.zero = some z) {sz : Nat} (hsz : i.size = sz) (hzs : z.cells.size = sz) (hb1 : 1 ≤ i.bytes)
    {c1 c2 ct : Ct} {v2 : Value} (hj : joinCt Ar.std (empC c1) c2 = some ct) (h2 : Holds G c2 v2) (hc1 : c1.sz = sz) (hfit : ct.n * i.bytes ≤ 140737488355328) (ty : TypeId) (hdl : d < hidN := by assumption) :
    ∃ v' w' ν', (Builtin.append_ #[t, t] ty #[.slice none 0 0, v2]).run P G.w = .ok v' w' ∧ Ext G ⟨ν', setAll G.h [(d, .row e ct)], G.bs, w'⟩ ∧ Mem ⟨ν', setAll G.h [(d, .row e ct)], G.bs, w'⟩ ∧ (SC.own d).is ⟨ν', setAll G.h [(d, .row e ct)], G.bs, w'⟩ v' := by
  have hH2 := h2
  obtain ⟨A2, cap2, ys, e2, hcap2, hcm2, f2, o2, r2⟩ := h2
  obtain ⟨fj, jn, js, js2⟩ := flatIs.append hj (empC_flat c1) f2
  have hly := f2.len
  rw [js2, empC_sz, hc1] at hly
  rw [empC_n, Nat.zero_add] at jn
  rw [List.nil_append] at fj
  have h63 : ct.n ≤ maxLen := by
    have : ct.n ≤ ct.n * i.bytes := Nat.le_mul_of_pos_right _ (by omega)
    unfold maxLen
    omega
  have hlen2 : (Builtin.lenOf v2).run P G.w = .ok c2.n G.w := lenOf_holds hH2 _
  have hset1 : setAll G.h [(d, .row e ct)] = hset G.h d (.row e ct) := rfl
  rw [hset1]
  have hfirst : (Builtin.firstCells i.size c2.n v2).run P G.w = .ok ys.toArray G.w := by
    have := run_first (P := P) e2 f2 r2 (w' := G.w) (fun _ _ => rfl)
    rw [js2, empC_sz, hc1] at this
    rw [hsz]
    exact this
  by_cases hz2 : c2.n = 0
  · have hys : ys = [] := List.eq_nil_of_length_eq_zero (by rw [hly, hz2, Nat.zero_mul])
    have hct0 : ct.n = 0 := by omega
    obtain ⟨x2, m2⟩ := mem_one (G := G) (d := d) (k' := .row e ct) (x := none) (w' := G.w) hm rfl rfl rfl (Nat.le_refl _) (fun _ _ _ => rfl) (fun _ _ _ _ _ _ => rfl) (fun b m h => by cases h) (fun k hk _ => by rw [hd] at hk; cases hk)
      (fun _ => .inl ⟨hct0, by simp [one]⟩)
    refine ⟨.slice none 0 0, G.w, _, ?_, x2, m2, ⟨_, _, _, rfl⟩, ?_⟩
    · rw [hz2] at hlen2 hfirst
      simp [Builtin.append_, run_underlying ht, sizeOf, typeInfo, hi, hlen2, hfirst, hys]
    · unfold ownAt
      rw [show hget (hset G.h d (.row e ct)) d = some (.row e ct) from hget_self _ _ _]
      exact .inl ⟨hct0, by simp, _, rfl⟩
  · have hrun := run_app_grow (P := P) (w := G.w) ht hi hz (A := none) (n := 0) (cap := 0) (m := c2.n) (v := v2) (xs := []) (ys := ys) hlen2
      (by
        have := run_first (P := P) e2 f2 r2 (w' := G.w.drew) (fun _ _ => rfl)
        rw [js2, empC_sz, hc1] at this
        rw [hsz]
        exact this)
      (by simp [Builtin.firstCells]) (by omega) (by omega) (by rw [Nat.zero_add, ← jn]; exact hfit) ty
    have hcge := grownCap_ge G.w (0 + c2.n) 0 e
    have hcle := grownCap_le_maxLen G.w (0 + c2.n) 0 e (by omega)
    generalize hcp : grownCap G.w (0 + c2.n) 0 e = cap at hrun hcge hcle
    have hb : Below G.w.heap.size G.w (G.w.drew.alloc (.cells ([] ++ ys ++ (Builtin.zeroCells z.cells (cap - (0 + c2.n))).toList).toArray e)) := ((Below.refl _ _).drew).alloc (by simp) _
    obtain ⟨x2, m2⟩ := mem_new (G := G) (d := d) (k' := .row e ct) (x := some (G.w.heap.size, 0)) hm hd hb (fun b m h => by cases h; exact ⟨Nat.le_refl _, heap_lt (heap_alloc_new G.w.drew _)⟩) (fun hx => .inr ⟨G.w.heap.size, [], ys, (Builtin.zeroCells z.cells (cap - (0 + c2.n))).toList, by simp [one], heap_alloc_new G.w.drew _, fj.sub hx.toSub, o2⟩)
    refine ⟨_, _, _, hrun, x2, m2, ⟨_, _, _, rfl⟩, ?_⟩
    unfold ownAt
    rw [show hget (hset G.h d (.row e ct)) d = some (.row e ct) from hget_self _ _ _]
    refine .inr ⟨G.w.heap.size, 0, cap, e, cap * sz, by simp, by rw [jn, Nat.zero_add], by omega, hcle, ?_, by rw [js, empC_sz, hc1]; omega, by omega⟩
    have hh : (G.w.drew.alloc (.cells ([] ++ ys ++ (Builtin.zeroCells z.cells (cap - (0 + c2.n))).toList).toArray e)).heap[G.w.heap.size]? = some (.cells ([] ++ ys ++ (Builtin.zeroCells z.cells (cap - (0 + c2.n))).toList).toArray e (0, 0)) := heap_alloc_new G.w.drew _
    show World.shape? (G.w.drew.alloc _) _ = _
    unfold World.shape?
    simp only [hh]
    congr 2
    simp only [List.nil_append, List.size_toArray, List.length_append, Array.length_toList, size_zeroCells, hzs, hly]
    rw [← Nat.add_mul]
    congr 1
    omega
theorem appN_ok (hc : CxOk P cx) (hr : Rep bs gv st ν a w) {o : Oper} {c : Call} (ho : o.op = .call c) (hf : c.callee = .builtin .append) {u t t' : Nat} {x y : Ent} (ht : c.argTypes.toList = [t, t']) (hv : c.args.toList.map (evalE st) = [x, y])
    {E : Eff} (h : effAppN Ar.std cx st.heap u t t' x y = some E) (hs : E.side) : Runs P o a w (Res bs st ν w E) := by
  obtain ⟨ox, oy, hargs, hx0, hy0⟩ : ∃ ox oy, c.args.toList = [ox, oy] ∧ evalE st ox = x ∧ evalE st oy = y := by
    generalize c.args.toList = l at hv
    match l, hv with
    | [ox, oy], hv =>
      simp at hv
      exact ⟨ox, oy, rfl, hv.1, hv.2⟩
  have hx := evalE_is hr ox
  have hy := evalE_is hr oy
  rw [hx0] at hx
  rw [hy0] at hy
  unfold effAppN at h
  split at h
  · rename_i gx gy y'
    split at h
    · rename_i e sz0 _ _ _ _ hl
      split at h
      · rename_i te b c0 he hb hcs
        split at h
        · rename_i c2 h2
          split at h
          · rename_i ct hj
            split at h
            · rename_i hcond
              cases h
              simp only [Bool.and_eq_true] at hcond
              obtain ⟨c0', c1', c2', c5, c6, c7⟩ := hcond
              have c0' := eqn_eq c0'
              have c1' := eqn_eq c1'
              have c5 := lee_le c5
              have c6 := lee_le c6
              have c7 := eqn_eq c7
              subst c1'
              obtain ⟨n1, n2, n3⟩ := hs
              obtain ⟨hu, ⟨ie, hie⟩, hsz⟩ := tiOf_slice (hc.tt _ _ hl)
              obtain ⟨i, zv, dd, hi, hz, _, hsi, hzz, _⟩ := tiOf_info (hc.tt _ _ he)
              obtain ⟨ib, hib, hbb⟩ := hc.bs _ _ hb
              have : ib = i := by rw [hi] at hib; exact (Option.some.inj hib).symm
              subst this
              have hszi : ib.size = sz0 := by rw [hsz]; simp [Program.cellsOf, hi]
              have hzs : zv.cells.size = sz0 := by
                have := hc.sz _ _ he
                rw [hzz] at this
                simp at this
                omega
              have hd := freeAt_ok c2'
              have hdl := freeAt_lt c2'
              have hfit : ct.n * ib.bytes ≤ 140737488355328 := by
                have n3 : decide (ct.len Ar.std * (b : Int) ≤ 140737488355328) = true := n3
                have n4 := of_decide_eq_true n3
                rw [Ct.len_n, ← hbb, ← Int.natCast_mul] at n4
                omega
              have hh2 : Holds (gg bs st ν w) c2 (a.eval oy) := sndCt_holds hr.mem h2 (hy.of n2)
              have hv0 : a.eval ox = .slice none 0 0 := hx.of n1
              obtain ⟨v', w', ν', hrun, hx', hm', hi'⟩ := app_nil (P := P) (G := gg bs st ν w) (d := bid u) hr.mem hd hu hi hz hszi hzs (by omega) hj hh2 c7 hfit o.type
              refine runs_value ?_ ⟨ν', hx', hi', hm'⟩
              have ha : c.args.map a.eval = #[.slice none 0 0, a.eval oy] := by
                apply Array.ext'
                simp [hargs, hv0]
              have ht' : c.argTypes = #[t, t] := by
                apply Array.ext'
                simpa using ht
              have hrun : (Builtin.append_ #[t, t] o.type #[.slice none 0 0, a.eval oy]).run P w = .ok v' w' := hrun
              simp [execOp, ho, resolve, hf, invoke, builtin, ha, ht', hrun]
            · cases h
          · cases h
        · cases h
      · cases h
    · cases h
  · cases h
theorem ownRow_ok {h : H} {e : TypeId} {c : SC} {n : Nat} {c1 : Ct} (hq : ownRow h e c = some (n, c1)) : c = .own n ∧ hget h n = some (.row e c1) := by
  unfold ownRow at hq
  split at hq
  · split at hq
    · rename_i e' c' hg
      split at hq
      · rename_i he
        cases hq
        rw [eqn_eq he]
        exact ⟨rfl, hg⟩
      · cases hq
    · cases hq
  · cases hq
theorem appO_ok (hc : CxOk P cx) (hr : Rep bs gv st ν a w) {o : Oper} {c : Call} (ho : o.op = .call c) (hf : c.callee = .builtin .append) {u t t' : Nat} {x y : Ent} (ht : c.argTypes.toList = [t, t']) (hv : c.args.toList.map (evalE st) = [x, y])
    {g0 : Option Bool} {q : SC} (hxq : x = ⟨g0, .sa (.one q)⟩) {e0 : TypeId} {sz0 : Nat} {n0 : Nat} {zz : List Value} {bb : Bool} {ff : Option Sh} (hl0 : look cx.tt t = some ⟨.slice e0 sz0, n0, zz, bb, ff⟩) {n : Nat} {c1 : Ct} (hq : ownRow st.heap e0 q = some (n, c1))
    {E : Eff} (h : effAppO Ar.std cx st.heap u n c1 t t' x y = some E) (hs : E.side) : Runs P o a w (Res bs st ν w E) := by
  obtain ⟨ox, oy, hargs, hx0, hy0⟩ : ∃ ox oy, c.args.toList = [ox, oy] ∧ evalE st ox = x ∧ evalE st oy = y := by
    generalize c.args.toList = l at hv
    match l, hv with
    | [ox, oy], hv =>
      simp at hv
      exact ⟨ox, oy, rfl, hv.1, hv.2⟩
  have hx := evalE_is hr ox
  have hy := evalE_is hr oy
  rw [hx0] at hx
  rw [hy0] at hy
  subst hxq
  obtain ⟨rfl, hge⟩ := ownRow_ok hq
  unfold effAppO at h
  split at h
  · rename_i gx _ gy y' hgx
    cases hgx
    split at h
    · rename_i e sz _ _ _ _ hl
      rw [hl0] at hl
      cases hl
      split at h
      · rename_i te b he hb
        split at h
        · rename_i c2 h2
          split at h
          · rename_i ct hj
            split at h
            · rename_i hcond
              cases h
              simp only [Bool.and_eq_true] at hcond
              obtain ⟨c0, c1', c2', c5, c6, c7⟩ := hcond
              have c0 := eqn_eq c0
              have c1' := eqn_eq c1'
              have c5 := lee_le c5
              have c6 := lee_le c6
              have c7 := eqn_eq c7
              subst c1'
              obtain ⟨n1, n2, n3⟩ := hs
              obtain ⟨hu, ⟨ie, hie⟩, hsz⟩ := tiOf_slice (hc.tt _ _ hl0)
              obtain ⟨i, zv, dd, hi, hz, _, hsi, hzz, _⟩ := tiOf_info (hc.tt _ _ he)
              obtain ⟨ib, hib, hbb⟩ := hc.bs _ _ hb
              have : ib = i := by rw [hi] at hib; exact (Option.some.inj hib).symm
              subst this
              have hszi : ib.size = sz0 := by rw [hsz]; simp [Program.cellsOf, hi]
              have hzs : zv.cells.size = sz0 := by
                have := hc.sz _ _ he
                rw [hzz] at this
                simp at this
                omega
              have hd := freeAt_ok c2'
              have hdl := freeAt_lt c2'
              have hfit : ct.n * ib.bytes ≤ 140737488355328 := by
                have n3 : decide (ct.len Ar.std * (b : Int) ≤ 140737488355328) = true := n3
                have n4 := of_decide_eq_true n3
                rw [Ct.len_n, ← hbb, ← Int.natCast_mul] at n4
                omega
              have hh2 : Holds (gg bs st ν w) c2 (a.eval oy) := sndCt_holds hr.mem h2 (hy.of n2)
              have hown : (SC.own n).is (gg bs st ν w) (a.eval ox) := hx.of n1
              obtain ⟨v', w', ν', hrun, hx', hm', hi'⟩ := app_own (P := P) (G := gg bs st ν w) (d := bid u) hr.mem hge hd hu hi hz hszi hzs (by omega) hj hown hh2 c7 hfit o.type
              refine runs_value ?_ ⟨ν', hx', hi', hm'⟩
              have ha : c.args.map a.eval = #[a.eval ox, a.eval oy] := by
                apply Array.ext'
                simp [hargs]
              have ht' : c.argTypes = #[t, t] := by
                apply Array.ext'
                simpa using ht
              have hrun : (Builtin.append_ #[t, t] o.type #[a.eval ox, a.eval oy]).run P w = .ok v' w' := hrun
              simp [execOp, ho, resolve, hf, invoke, builtin, ha, ht', hrun]
            · cases h
          · cases h
        · cases h
      · cases h
    · cases h
  · cases h
theorem flatIs.cut {c : Ct} {us : List Value} (h : flatIs G c us) {lo hi : Int} (h0 : 0 ≤ lo) (h1 : lo ≤ hi) (h2 : hi ≤ c.n) :
    flatIs G (c.cut Ar.std lo hi) ((us.take (hi.toNat * c.sz)).drop (lo.toNat * c.sz)) ∧ (c.cut Ar.std lo hi).n = hi.toNat - lo.toNat ∧ (c.cut Ar.std lo hi).sz = c.sz := by
  have h1' : lo.toNat ≤ hi.toNat := by omega
  have h2' : hi.toNat ≤ c.n := by omega
  clear h0 h1 h2
  cases c with
  | ints k l =>
    have h : us = l.map (Value.int k) := h
    have h2' : hi.toNat ≤ l.length := h2'
    subst h
    refine ⟨?_, ?_, rfl⟩
    · show _ = ((l.take hi.toNat).drop lo.toNat).map _
      simp [Ct.sz, List.map_take, List.map_drop]
    · show ((l.take hi.toNat).drop lo.toNat).length = _
      simp
      omega
  | recs s l =>
    obtain ⟨a1, a2⟩ := h
    have h2' : hi.toNat ≤ l.length := h2'
    show (((us.take (hi.toNat * s.size)).drop (lo.toNat * s.size)).length = ((l.take hi.toNat).drop lo.toNat).length * s.size ∧ ∀ i x, ((l.take hi.toNat).drop lo.toNat)[i]? = some x → valsIs G s x 0 ((((us.take (hi.toNat * s.size)).drop (lo.toNat * s.size)).drop (i * s.size)).take s.size)) ∧ ((l.take hi.toNat).drop lo.toNat).length = hi.toNat - lo.toNat ∧ s.size = s.size
    generalize lo.toNat = p at *
    generalize hi.toNat = q at *
    have hq : q * s.size ≤ us.length := by rw [a1]; exact Nat.mul_le_mul_right _ h2'
    have hlen : ((l.take q).drop p).length = q - p := by simp; omega
    refine ⟨⟨?_, fun i x hx => ?_⟩, hlen, rfl⟩
    · rw [hlen, Nat.sub_mul, List.length_drop, List.length_take]
      omega
    · rw [List.getElem?_drop, List.getElem?_take] at hx
      split at hx
      · rename_i hlt
        have h3 := a2 _ x hx
        have h4 : (p + i + 1) * s.size ≤ q * s.size := Nat.mul_le_mul_right _ (by omega)
        have e : (((us.take (q * s.size)).drop (p * s.size)).drop (i * s.size)).take s.size = (us.drop ((p + i) * s.size)).take s.size := by
          rw [List.drop_drop, ← Nat.add_mul, List.drop_take, List.take_take]
          congr 1
          rw [Nat.add_mul, Nat.one_mul] at h4
          omega
        rw [e]
        exact h3
      · cases hx
theorem cut_own (hm : Mem G) {id d : Nat} {e : TypeId} {c : Ct} (hid : hget G.h id = some (.row e c)) (hd : hget G.h d = none) {v : Value} (hv : (SC.own id).is G v) {lo hi : Int} (h0 : 0 ≤ lo) (h1 : lo ≤ hi) (h2 : hi ≤ c.n) (hdl : d < hidN := by assumption) :
    ∃ A cap ν', v = .slice A c.n cap ∧ c.n ≤ cap ∧ Ext G ⟨ν', setAll G.h [(id, .dead), (d, .row e (c.cut Ar.std lo hi))], G.bs, G.w⟩ ∧ Mem ⟨ν', setAll G.h [(id, .dead), (d, .row e (c.cut Ar.std lo hi))], G.bs, G.w⟩ ∧
      (SC.own d).is ⟨ν', setAll G.h [(id, .dead), (d, .row e (c.cut Ar.std lo hi))], G.bs, G.w⟩ (.slice (if cap = lo.toNat then A else A.map (·.add (lo.toNat * c.sz))) (hi.toNat - lo.toNat) (cap - lo.toNat)) := by
  have hset2 : setAll G.h [(id, .dead), (d, .row e (c.cut Ar.std lo hi))] = hset (hset G.h id .dead) d (.row e (c.cut Ar.std lo hi)) := rfl
  rw [hset2]
  have hne : id ≠ d := by rintro rfl; rw [hid] at hd; cases hd
  have hv := hv.2
  unfold ownAt at hv
  rw [hid] at hv
  rcases hv with ⟨z0, z1, A0, z2⟩ | ⟨g, off, cap, tt, kk, g1, g2, g3, g4, g5, g6, g7⟩
  · have hl : lo.toNat = 0 := by omega
    have hh : hi.toNat = 0 := by omega
    have hn : (c.cut Ar.std lo hi).n = 0 := by
      cases c with
      | ints k l => show ((l.take hi.toNat).drop lo.toNat).length = 0; simp [hh]
      | recs s l => show ((l.take hi.toNat).drop lo.toNat).length = 0; simp [hh]
    obtain ⟨x1, m1⟩ := mem_one (d := id) (k' := .dead) (x := none) (w' := G.w) hm rfl rfl rfl (Nat.le_refl _) (fun _ _ _ => rfl) (fun _ _ _ _ _ _ => rfl) (fun b m h => by cases h) (fun k _ _ => by cases k <;> trivial) (fun _ => trivial)
    have d1 : hget (one G id .dead none G.w).h d = none := by show hget (hset G.h id .dead) d = none; rw [hget_other _ _ hne]; exact hd
    obtain ⟨x2, m2⟩ := mem_one (G := one G id .dead none G.w) (d := d) (k' := .row e (c.cut Ar.std lo hi)) (x := none) (w' := G.w) m1 rfl rfl rfl (Nat.le_refl _) (fun _ _ _ => rfl) (fun _ _ _ _ _ _ => rfl) (fun b m h => by cases h) (fun k hk _ => by rw [d1] at hk; cases hk)
      (fun _ => .inl ⟨hn, by simp [one]⟩)
    refine ⟨A0, 0, _, by rw [z2, z0], by omega, x1.trans x2, m2, ⟨_, _, _, rfl⟩, ?_⟩
    unfold ownAt
    rw [show hget (hset (hset G.h id .dead) d (.row e (c.cut Ar.std lo hi))) d = some (.row e (c.cut Ar.std lo hi)) from hget_self _ _ _]
    refine .inl ⟨hn, by simp, A0, ?_⟩
    rw [hl, hh]
    rfl
  · obtain ⟨pre, vs, rest, e0, hg, f3, o3⟩ := hm.rowAt hid g1
    subst e0
    obtain ⟨fc, cn, cs⟩ := f3.cut h0 h1 h2
    have hlv := f3.len
    have hq : lo.toNat ≤ hi.toNat := by omega
    have hq2 : hi.toNat ≤ c.n := by omega
    have hpq : lo.toNat * c.sz ≤ hi.toNat * c.sz := Nat.mul_le_mul_right _ hq
    have hqn : hi.toNat * c.sz ≤ c.n * c.sz := Nat.mul_le_mul_right _ hq2
    have ho' : ∀ q ∈ (vs.take (hi.toNat * c.sz)).drop (lo.toNat * c.sz), q.oneCell' = true := fun q hq => o3 q (List.mem_of_mem_take (List.mem_of_mem_drop hq))
    refine ⟨some ⟨g, pre.length, none⟩, cap, ?_⟩
    by_cases hcl : cap = lo.toNat
    · have hz : (c.cut Ar.std lo hi).n = 0 := by omega
      obtain ⟨x1, m1⟩ := mem_one (d := id) (k' := .dead) (x := none) (w' := G.w) hm rfl rfl rfl (Nat.le_refl _) (fun _ _ _ => rfl) (fun _ _ _ _ _ _ => rfl) (fun b m h => by cases h) (fun k _ _ => by cases k <;> trivial) (fun _ => trivial)
      have d1 : hget (one G id .dead none G.w).h d = none := by show hget (hset G.h id .dead) d = none; rw [hget_other _ _ hne]; exact hd
      obtain ⟨x2, m2⟩ := mem_one (G := one G id .dead none G.w) (d := d) (k' := .row e (c.cut Ar.std lo hi)) (x := none) (w' := G.w) m1 rfl rfl rfl (Nat.le_refl _) (fun _ _ _ => rfl) (fun _ _ _ _ _ _ => rfl) (fun b m h => by cases h) (fun k hk _ => by rw [d1] at hk; cases hk)
        (fun _ => .inl ⟨hz, by simp [one]⟩)
      refine ⟨_, g2, g3, x1.trans x2, m2, ⟨_, _, _, rfl⟩, ?_⟩
      unfold ownAt
      rw [show hget (hset (hset G.h id .dead) d (.row e (c.cut Ar.std lo hi))) d = some (.row e (c.cut Ar.std lo hi)) from hget_self _ _ _]
      refine .inl ⟨hz, by simp, some ⟨g, pre.length, none⟩, ?_⟩
      rw [if_pos hcl]
      congr 1 <;> omega
    · have hls : lo.toNat * c.sz ≤ vs.length := by omega
      obtain ⟨x2, m2⟩ := mem_move (k' := .row e (c.cut Ar.std lo hi)) (w' := G.w) (off' := pre.length + lo.toNat * c.sz) hm hid rfl hd g1 (Nat.le_add_right _ _) rfl rfl rfl (Nat.le_refl _) (fun _ _ _ => rfl) (fun _ _ => rfl) (Shp.refl _)
        (fun hx => .inr ⟨g, pre ++ vs.take (lo.toNat * c.sz), (vs.take (hi.toNat * c.sz)).drop (lo.toNat * c.sz), vs.drop (hi.toNat * c.sz) ++ rest, by simp; omega, by
          show G.w.heap[g]? = _
          rw [hg]
          congr 3
          have e1 : vs = vs.take (lo.toNat * c.sz) ++ ((vs.take (hi.toNat * c.sz)).drop (lo.toNat * c.sz) ++ vs.drop (hi.toNat * c.sz)) := by
            have e2 : vs.take (lo.toNat * c.sz) = (vs.take (hi.toNat * c.sz)).take (lo.toNat * c.sz) := by
              rw [List.take_take, Nat.min_eq_left hpq]
            rw [e2, ← List.append_assoc, List.take_append_drop, List.take_append_drop]
          conv => lhs; rw [e1]
          simp, fc.sub hx.toSub, ho'⟩)
      refine ⟨_, g2, g3, x2, m2, ⟨_, _, _, rfl⟩, ?_⟩
      unfold ownAt
      rw [show hget (hset (hset G.h id .dead) d (.row e (c.cut Ar.std lo hi))) d = some (.row e (c.cut Ar.std lo hi)) from hget_self _ _ _]
      refine .inr ⟨g, pre.length + lo.toNat * c.sz, cap - lo.toNat, tt, kk, by simp, ?_, by omega, by omega, g5, ?_, by omega⟩
      · rw [if_neg hcl, cn]
        simp [add_at]
      · rw [cs, Nat.sub_mul]
        have : lo.toNat * c.sz ≤ cap * c.sz := Nat.mul_le_mul_right _ (by omega)
        omega
/-- A row is cut: what stands behind a place goes on as block d. -/
theorem mem_past (hm : Mem G) {id d : Nat} {e : TypeId} {c cd : Ct} {sz : Nat} {q : Int} (hid : hget G.h id = some (.row e c)) (hd : hget G.h d = none) (x : Option (Nat × Nat)) (hx : ∀ g m, x = some (g, m) → ∃ off, G.o id = some (g, off) ∧ off ≤ m)
    (hk : ∀ v, ownIs G id c v → pastIs ⟨fun k => if k = d then x else G.o k, hset (hset G.h id (.past d sz q)) d (.row e cd), G.bs, G.w⟩ d sz q v) (hb : Ext G ⟨fun k => if k = d then x else G.o k, hset (hset G.h id (.past d sz q)) d (.row e cd), G.bs, G.w⟩ → BlkIs ⟨fun k => if k = d then x else G.o k, hset (hset G.h id (.past d sz q)) d (.row e cd), G.bs, G.w⟩ d (.row e cd)) (hdl : d < hidN := by assumption) : Ext G ⟨fun k => if k = d then x else G.o k, hset (hset G.h id (.past d sz q)) d (.row e cd), G.bs, G.w⟩ ∧ Mem ⟨fun k => if k = d then x else G.o k, hset (hset G.h id (.past d sz q)) d (.row e cd), G.bs, G.w⟩ := by
  have hne : id ≠ d := by rintro rfl; rw [hid] at hd; cases hd
  have ha0 : alive G.h id := .inl ⟨_, hid, rfl⟩
  refine mem_step hm (G' := ⟨fun k => if k = d then x else G.o k, hset (hset G.h id (.past d sz q)) d (.row e cd), G.bs, G.w⟩) (fun k => k = id ∨ k = d) rfl
    (fun k hk => by
      have h1 : ¬ k = id := fun e => hk (.inl e)
      have h2 : ¬ k = d := fun e => hk (.inr e)
      exact ⟨by rw [hget_other _ _ (Ne.symm h2), hget_other _ _ (Ne.symm h1)], by simp [h2]⟩)
    rfl rfl rfl (Nat.le_refl _) (fun _ _ _ => rfl) (fun _ _ _ _ _ _ _ _ => rfl)
    (by
      rintro k (rfl | rfl) ha b m hob
      · have h9 := see_alive (by rw [hget_other _ _ (Ne.symm hne), hget_self]) ha
        cases h9
      · simp only [if_true] at hob
        obtain ⟨off, o1, o2⟩ := hx b m hob
        exact ⟨(hm.own id ha0 b off o1).1, .inr ⟨id, off, .inl rfl, ha0, o1, o2⟩⟩)
    (by
      rintro k k' (rfl | rfl) (rfl | rfl) ha ha' b q q' hq hq'
      · rfl
      · have h9 := see_alive (by rw [hget_other _ _ (Ne.symm hne), hget_self]) ha
        cases h9
      · have h9 := see_alive (by rw [hget_other _ _ (Ne.symm hne), hget_self]) ha'
        cases h9
      · rfl)
    (by
      rintro k (rfl | rfl) kk hkk
      · rw [hid] at hkk
        cases hkk
        exact ⟨.past d sz q, by rw [hget_other _ _ (Ne.symm hne), hget_self], fun _ => hk⟩
      · rw [hd] at hkk
        cases hkk)
    (by
      rintro k (rfl | rfl) kk hkk hxx
      · rw [hget_other _ _ (Ne.symm hne), hget_self] at hkk
        cases hkk
        trivial
      · rw [hget_self] at hkk
        cases hkk
        exact hb hxx)
    (Shp.refl _)
    (by
      rintro k (rfl | rfl)
      · exact .inr ⟨_, hid⟩
      · exact .inl hdl)
    (by
      rintro k (rfl | rfl) b i hb9
      · rw [hget_other _ _ (Ne.symm hne), hget_self] at hb9
        cases hb9
        exact fun h => h
      · rw [hget_self] at hb9
        cases hb9
        exact fun h => h)
theorem past_own (hm : Mem G) {id d : Nat} {e : TypeId} {c : Ct} (hid : hget G.h id = some (.row e c)) (hd : hget G.h d = none) {v : Value} (hv : (SC.own id).is G v) {lo hi q : Int} (h0 : 0 ≤ lo) (h1 : lo ≤ hi) (h2 : hi ≤ q) (h3 : q ≤ c.n) (hdl : d < hidN := by assumption) :
    ∃ A cap ν', v = .slice A c.n cap ∧ c.n ≤ cap ∧ Ext G ⟨ν', setAll G.h [(id, .past d c.sz q), (d, .row e (c.cut Ar.std q c.n))], G.bs, G.w⟩ ∧ Mem ⟨ν', setAll G.h [(id, .past d c.sz q), (d, .row e (c.cut Ar.std q c.n))], G.bs, G.w⟩ ∧
      (c.cut Ar.std lo hi).is ⟨ν', setAll G.h [(id, .past d c.sz q), (d, .row e (c.cut Ar.std q c.n))], G.bs, G.w⟩ (.slice (if q.toNat = lo.toNat then A else A.map (·.add (lo.toNat * c.sz))) (hi.toNat - lo.toNat) (q.toNat - lo.toNat)) := by
  have hset2 : setAll G.h [(id, .past d c.sz q), (d, .row e (c.cut Ar.std q c.n))] = hset (hset G.h id (.past d c.sz q)) d (.row e (c.cut Ar.std q c.n)) := rfl
  rw [hset2]
  have hne : id ≠ d := by rintro rfl; rw [hid] at hd; cases hd
  have ha0 : alive G.h id := .inl ⟨_, hid, rfl⟩
  have hv := hv.2
  unfold ownAt at hv
  rw [hid] at hv
  have h12 : lo.toNat ≤ hi.toNat := by omega
  have h22 : hi.toNat ≤ q.toNat := by omega
  have h32 : q.toNat ≤ c.n := by omega
  have hq0 : 0 ≤ q := by omega
  have hcd : (c.cut Ar.std q c.n).n = c.n - q.toNat ∧ (c.cut Ar.std q c.n).sz = c.sz := by
    cases c with
    | ints k l =>
      have h32 : q.toNat ≤ l.length := h32
      refine ⟨?_, rfl⟩
      show ((l.take ((l.length : Int)).toNat).drop q.toNat).length = l.length - q.toNat
      simp
    | recs s l =>
      have h32 : q.toNat ≤ l.length := h32
      refine ⟨?_, rfl⟩
      show ((l.take ((l.length : Int)).toNat).drop q.toNat).length = l.length - q.toNat
      simp
  obtain ⟨hcn, hcs⟩ := hcd
  have hget2 : hget (hset (hset G.h id (.past d c.sz q)) d (.row e (c.cut Ar.std q c.n))) d = some (.row e (c.cut Ar.std q c.n)) := hget_self _ _ _
  rcases hv with ⟨z0, z1, A0, z2⟩ | ⟨g, off, cap, tt, kk, g1, g2, g3, g4, g5, g6, g7⟩
  · have hl : lo.toNat = 0 := by omega
    have hh : hi.toNat = 0 := by omega
    have hq : q.toNat = 0 := by omega
    have hn : (c.cut Ar.std lo hi).n = 0 := by
      cases c with
      | ints k l => show ((l.take hi.toNat).drop lo.toNat).length = 0; simp [hh]
      | recs s l => show ((l.take hi.toNat).drop lo.toNat).length = 0; simp [hh]
    obtain ⟨x2, m2⟩ := mem_past (cd := c.cut Ar.std q c.n) (sz := c.sz) (q := q) hm hid hd none (fun g m h => by cases h)
      (by
        rintro v' (⟨_, _, A1, rfl⟩ | ⟨g, off, cap, tt, kk, g1, _⟩)
        · refine ⟨A1, 0, 0, rfl, hq0, by omega, Nat.le_refl _, by unfold maxLen; omega, ?_⟩
          simp only [hget2]
          exact ⟨by omega, hcs, fun h => absurd hq.symm h⟩
        · rw [z1] at g1
          cases g1)
      (fun hx => .inl ⟨by omega, by simp⟩)
    refine ⟨A0, 0, _, by rw [z2, z0], by omega, x2, m2, ?_⟩
    rw [hl, hh, hq]
    exact nil_is hn
  · obtain ⟨pre, vs, rest, e0, hg, f3, o3⟩ := hm.rowAt hid g1
    subst e0
    obtain ⟨fc, cn, cs⟩ := f3.cut h0 h1 (show hi ≤ c.n by omega)
    obtain ⟨fd, _, _⟩ := f3.cut hq0 h3 (Int.le_refl _)
    have hlv := f3.len
    have e1 : ((c.n : Int)).toNat * c.sz = vs.length := by rw [hlv]; rfl
    rw [e1, List.take_length] at fd
    have hqs : q.toNat * c.sz ≤ vs.length := by rw [hlv]; exact Nat.mul_le_mul_right _ h32
    obtain ⟨x2, m2⟩ := mem_past (cd := c.cut Ar.std q c.n) (sz := c.sz) (q := q) hm hid hd (some (g, pre.length + q.toNat * c.sz)) (fun g' m h => by cases h; exact ⟨_, g1, Nat.le_add_right _ _⟩)
      (by
        rintro v' (⟨_, z1, _⟩ | ⟨g', off, cap, tt, kk, k1, k2, k3, k4, k5, k6, k7⟩)
        · rw [z1] at g1
          cases g1
        · rw [g1] at k1
          cases k1
          refine ⟨_, c.n, cap, k2, hq0, by omega, k3, k4, ?_⟩
          simp only [hget2]
          refine ⟨hcn, hcs, fun hne2 => .inr ⟨g, pre.length + q.toNat * c.sz, cap - q.toNat, tt, kk, by simp, by rw [hcn]; simp [add_at], by omega, by omega, k5, ?_, by omega⟩⟩
          rw [hcs, Nat.sub_mul]
          have : q.toNat * c.sz ≤ cap * c.sz := Nat.mul_le_mul_right _ (by omega)
          omega)
      (fun hx => .inr ⟨g, pre ++ vs.take (q.toNat * c.sz), vs.drop (q.toNat * c.sz), rest, by simp; omega, by
        show G.w.heap[g]? = _
        rw [hg]
        congr 3
        rw [List.append_assoc, ← List.append_assoc (vs.take _), List.take_append_drop], fd.sub hx.toSub, fun y hy => o3 y (List.mem_of_mem_drop hy)⟩)
    refine ⟨_, cap, _, g2, g3, x2, m2, ?_⟩
    by_cases hql : q.toNat = lo.toNat
    · have hz : (c.cut Ar.std lo hi).n = 0 := by omega
      have e2 : hi.toNat - lo.toNat = 0 := by omega
      have e3 : q.toNat - lo.toNat = 0 := by omega
      rw [e2, e3]
      exact nil_is hz
    · rw [if_neg hql]
      have hown := hm.own id ha0 g _ g1
      have hok : ∀ j, j < pre.length + q.toNat * c.sz → Gm.ok ⟨fun k => if k = d then some (g, pre.length + q.toNat * c.sz) else G.o k, hset (hset G.h id (.past d c.sz q)) d (.row e (c.cut Ar.std q c.n)), G.bs, G.w⟩ g j := by
        intro j hj
        refine ⟨hown.1, fun hlt => ?_, fun n' ha' g' m' ho' e => ?_⟩
        · rcases hown.2 with h | ⟨h, _⟩
          · have hlt : g < G.bs.W.heap.size := hlt
            omega
          · exact .inr h
        · subst e
          by_cases e4 : n' = d
          · subst e4
            simp only [if_true] at ho'
            cases ho'
            exact hj
          · simp only [if_neg e4] at ho'
            by_cases e5 : n' = id
            · subst e5
              have h9 := see_alive (by rw [hget_other _ _ (Ne.symm hne), hget_self]) ha'
              cases h9
            · have ha2 : alive G.h n' := alive_set (k' := .past d c.sz q) (fun _ h => h) e5 (alive_set (k' := .row e (c.cut Ar.std q c.n)) (fun _ h => h) e4 ha')
              exact absurd (hm.inj n' id ha2 ha0 g' m' _ ho' g1) e5
      have hlen := fc.len
      have := is_of_flat (G := ⟨fun k => if k = d then some (g, pre.length + q.toNat * c.sz) else G.o k, hset (hset G.h id (.past d c.sz q)) d (.row e (c.cut Ar.std q c.n)), G.bs, G.w⟩) (g := g) (o := pre.length + lo.toNat * c.sz) (cap := q.toNat - lo.toNat) (fc.sub x2.toSub)
        (fun j u hu => by
          have hj := get_lt hu
          rw [hlen, cn, cs, Nat.sub_mul] at hj
          have h5 : hi.toNat * c.sz ≤ q.toNat * c.sz := Nat.mul_le_mul_right _ h22
          refine ⟨hok _ (by omega), ?_, o3 u (List.mem_of_mem_take (List.mem_of_mem_drop (List.mem_of_getElem? hu)))⟩
          rw [List.getElem?_drop, List.getElem?_take] at hu
          split at hu
          · rw [Nat.add_assoc]
            exact row_cell hg hu
          · cases hu)
        (by rw [cn]; omega) (by omega)
      rw [cn] at this
      simpa [add_at] using this
theorem pastRow_ok {h : H} {e : TypeId} {c : SC} {d sz : Nat} {q : Int} {cd : Ct} (hp : pastRow h e c = some (d, sz, q, cd)) : ∃ id, c = .own id ∧ hget h id = some (.past d sz q) ∧ hget h d = some (.row e cd) := by
  unfold pastRow at hp
  split at hp
  · rename_i n
    split at hp
    · rename_i d' sz' q' h1
      split at hp
      · rename_i e' c' h2
        split at hp
        · rename_i he
          cases hp
          have he := eqn_eq he
          subst he
          exact ⟨n, rfl, h1, h2⟩
        · cases hp
      · cases hp
    · cases hp
  · cases hp
theorem rest_own (hm : Mem G) {id d d2 : Nat} {e : TypeId} {sz : Nat} {q : Int} {cd : Ct} (hid : hget G.h id = some (.past d sz q)) (hdd : hget G.h d = some (.row e cd)) (hd : hget G.h d2 = none) {v : Value} (hv : (SC.own id).is G v) (hdl : d2 < hidN := by assumption) :
    ∃ A l cap ν', v = .slice A l cap ∧ 0 ≤ q ∧ q.toNat ≤ l ∧ l ≤ cap ∧ cap ≤ maxLen ∧ Ext G ⟨ν', setAll G.h [(d, .dead), (d2, .row e cd)], G.bs, G.w⟩ ∧ Mem ⟨ν', setAll G.h [(d, .dead), (d2, .row e cd)], G.bs, G.w⟩ ∧
      (SC.own d2).is ⟨ν', setAll G.h [(d, .dead), (d2, .row e cd)], G.bs, G.w⟩ (.slice (if cap = q.toNat then A else A.map (·.add (q.toNat * sz))) (l - q.toNat) (cap - q.toNat)) := by
  have hset2 : setAll G.h [(d, .dead), (d2, .row e cd)] = hset (hset G.h d .dead) d2 (.row e cd) := rfl
  rw [hset2]
  have hne : d ≠ d2 := by rintro rfl; rw [hdd] at hd; cases hd
  have hv := hv.2
  unfold ownAt at hv
  rw [hid] at hv
  obtain ⟨A, l, cap, e0, h0, h1, h2, h3, h4⟩ := hv
  simp only [hdd] at h4
  obtain ⟨f1, f2, f3⟩ := h4
  by_cases hcl : cap = q.toNat
  · have hz : cd.n = 0 := by omega
    obtain ⟨x1, m1⟩ := mem_one (d := d) (k' := .dead) (x := none) (w' := G.w) hm rfl rfl rfl (Nat.le_refl _) (fun _ _ _ => rfl) (fun _ _ _ _ _ _ => rfl) (fun b m h => by cases h) (fun k _ _ => by cases k <;> trivial) (fun _ => trivial)
    have d1 : hget (one G d .dead none G.w).h d2 = none := by show hget (hset G.h d .dead) d2 = none; rw [hget_other _ _ hne]; exact hd
    obtain ⟨x2, m2⟩ := mem_one (G := one G d .dead none G.w) (d := d2) (k' := .row e cd) (x := none) (w' := G.w) m1 rfl rfl rfl (Nat.le_refl _) (fun _ _ _ => rfl) (fun _ _ _ _ _ _ => rfl) (fun b m h => by cases h) (fun k hk _ => by rw [d1] at hk; cases hk)
      (fun _ => .inl ⟨hz, by simp [one]⟩)
    refine ⟨A, l, cap, _, e0, h0, h1, h2, h3, x1.trans x2, m2, ⟨_, _, _, rfl⟩, ?_⟩
    unfold ownAt
    rw [show hget (hset (hset G.h d .dead) d2 (.row e cd)) d2 = some (.row e cd) from hget_self _ _ _]
    refine .inl ⟨hz, by simp, A, ?_⟩
    rw [if_pos hcl]
    congr 1 <;> omega
  · rcases f3 hcl with ⟨z0, z1, A1, z2⟩ | ⟨g, off, cap2, tt, kk, g1, g2, g3, g4, g5, g6, g7⟩
    · have := (Value.slice.inj z2).2.2
      omega
    · obtain ⟨pre, vs, rest, e1, hg, f4, o4⟩ := hm.rowAt hdd g1
      subst e1
      obtain ⟨x2, m2⟩ := mem_move (k' := .row e cd) (w' := G.w) (off' := pre.length) hm hdd rfl hd g1 (Nat.le_refl _) rfl rfl rfl (Nat.le_refl _) (fun _ _ _ => rfl) (fun _ _ => rfl) (Shp.refl _)
        (fun hx => .inr ⟨g, pre, vs, rest, by simp, hg, f4.sub hx.toSub, o4⟩)
      refine ⟨A, l, cap, _, e0, h0, h1, h2, h3, x2, m2, ⟨_, _, _, rfl⟩, ?_⟩
      unfold ownAt
      rw [show hget (hset (hset G.h d .dead) d2 (.row e cd)) d2 = some (.row e cd) from hget_self _ _ _]
      rw [if_neg hcl]
      exact .inr ⟨g, pre.length, cap2, tt, kk, by simp, g2, g3, g4, g5, g6, g7⟩
theorem cutO_ok (hc : CxOk P cx) (hr : Rep bs gv st ν a w) {o : Oper} {u : Nat} {t : TypeId} {x : Operand} {lo hi : Option Operand} (ho : o.op = .slice t x lo hi none) {E : Eff} (h : effCutO Ar.std cx st u t (evalE st x) lo hi = some E) (hs : E.side) : Runs P o a w (Res bs st ν w E) := by
  have hx := evalE_is hr x
  unfold effCutO at h
  split at h
  · rename_i g c e m _ _ _ _ hex hl
    rw [hex] at hx
    obtain ⟨hu, ⟨ie, hie⟩, hm⟩ := tiOf_slice (hc.tt _ _ hl)
    split at h
    · rename_i id ct hq
      obtain ⟨rfl, hge⟩ := ownRow_ok hq
      split at h
      · rename_i g1 l g2 hh hb1 hb2
        split at h
        · rename_i hcond
          cases h
          simp only [Bool.and_eq_true] at hcond
          have hn := eqn_eq hcond.1
          have hd := freeAt_ok hcond.2
          have hdl := freeAt_lt hcond.2
          obtain ⟨n1, n2, n3, s1, s2, s3⟩ := hs
          have s1 : 0 ≤ l := by simpa [Ar.std, stdCmp] using s1
          have s2 : l ≤ hh := by simpa [Ar.std, stdCmp] using s2
          have s3 : hh ≤ ct.n := by
            have s3 : decide (hh ≤ ct.len Ar.std) = true := s3
            have := of_decide_eq_true s3
            rwa [Ct.len_n] at this
          have hie' : ie.size = ct.sz := by rw [← hn, hm]; simp [Program.cellsOf, hie]
          have hown : (SC.own id).is (gg bs st ν w) (a.eval x) := hx.of n1
          obtain ⟨A, cap, ν', ev, hcap, hx', hm', hi'⟩ := cut_own (G := gg bs st ν w) (d := bid u) hr.mem hge hd hown s1 s2 s3
          refine runs_value ?_ ⟨ν', hx', hi', hm'⟩
          have b1 : ∀ {k : IntKind} {i : Int} {y : Nat} {c : BoundsCode}, 0 ≤ i → i ≤ y → (Instr.sliceBound (.int k i) y c).run P w = .ok i.toNat w := by
            intro k i y c g1 g2
            simp [Instr.sliceBound, asIntOf, g1, g2]
          have hbounds : (Instr.sliceBounds true ct.n cap (lo.map a.eval) (hi.map a.eval) ((none : Option Operand).map a.eval)).run P w = .ok (l.toNat, hh.toNat, cap) w := by
            rcases bnd_ok hr hb1 n2 with ⟨rfl, rfl⟩ | ⟨y1, k1, rfl, e1⟩ <;> rcases bnd_ok hr hb2 n3 with ⟨rfl, e2⟩ | ⟨y2, k2, rfl, e2⟩
            · rw [Ct.len_n] at e2
              subst e2
              simp [Instr.sliceBounds]
            · have := b1 (k := k2) (y := cap) (c := .sliceAcap) (show 0 ≤ hh by omega) (by omega)
              simp [Instr.sliceBounds, e2, this]
            · rw [Ct.len_n] at e2
              subst e2
              have := b1 (k := k1) (y := ct.n) (c := .sliceB) s1 (by omega)
              simp [Instr.sliceBounds, e1, this]
            · have h2 := b1 (k := k2) (y := cap) (c := .sliceAcap) (show 0 ≤ hh by omega) (by omega)
              have h1 := b1 (k := k1) (y := hh.toNat) (c := .sliceB) s1 (by omega)
              simp [Instr.sliceBounds, e1, e2, h1, h2]
          simp only [execOp, ho, Instr.sliceAt, Sem.run_bind, run_underlying hu w, Result.andThen_ok, Instr.slice, ev, hbounds, sizeOf, typeInfo, run_program, hie, hie', Sem.run_pure]
          rfl
        · cases h
      · cases h
    · split at h
      · rename_i d sz q cd g1 l hp hb1
        split at h
        · rename_i hcond
          cases h
          simp only [Bool.and_eq_true] at hcond
          have hn := eqn_eq hcond.1
          have hd := freeAt_ok hcond.2
          have hdl := freeAt_lt hcond.2
          obtain ⟨n1, n2, n3⟩ := hs
          have n3 : l = q := by simpa [Ar.std, stdCmp] using n3
          subst n3
          obtain ⟨id, rfl, hid, hdd⟩ := pastRow_ok hp
          have hown : (SC.own id).is (gg bs st ν w) (a.eval x) := hx.of n1
          obtain ⟨A, ln, cap, ν', ev, s1, s2, hcap, hcm, hx', hm', hi'⟩ := rest_own (G := gg bs st ν w) hr.mem hid hdd hd hown
          have hie' : ie.size = sz := by rw [← hn, hm]; simp [Program.cellsOf, hie]
          refine runs_value ?_ ⟨ν', hx', hi', hm'⟩
          have hbounds : (Instr.sliceBounds true ln cap (lo.map a.eval) ((none : Option Operand).map a.eval) ((none : Option Operand).map a.eval)).run P w = .ok (l.toNat, ln, cap) w := by
            rcases bnd_ok hr hb1 n2 with ⟨rfl, rfl⟩ | ⟨y1, k1, rfl, e1⟩
            · simp [Instr.sliceBounds]
            · have b1 : (Instr.sliceBound (.int k1 l) ln .sliceB).run P w = .ok l.toNat w := by
                have : l ≤ ln := by omega
                simp [Instr.sliceBound, asIntOf, s1, this]
              simp [Instr.sliceBounds, e1, b1]
          simp only [execOp, ho, Instr.sliceAt, Sem.run_bind, run_underlying hu w, Result.andThen_ok, Instr.slice, ev, hbounds, sizeOf, typeInfo, run_program, hie, hie', Sem.run_pure]
          rfl
        · cases h
      · cases h
  · cases h
theorem past_ok (hc : CxOk P cx) (hr : Rep bs gv st ν a w) {o : Oper} {u : Nat} {t : TypeId} {x : Operand} {lo hi mx : Option Operand} (ho : o.op = .slice t x lo hi mx) {E : Eff} (h : effPast Ar.std cx st u t (evalE st x) lo hi mx = some E) (hs : E.side) : Runs P o a w (Res bs st ν w E) := by
  have hx := evalE_is hr x
  unfold effPast at h
  split at h
  · rename_i g c e m _ _ _ _ hex hl
    rw [hex] at hx
    obtain ⟨hu, ⟨ie, hie⟩, hm⟩ := tiOf_slice (hc.tt _ _ hl)
    split at h
    · rename_i id ct hq
      obtain ⟨rfl, hge⟩ := ownRow_ok hq
      split at h
      · rename_i g1 l g2 hh g3 q hb1 hb2 hb3
        split at h
        · rename_i y2 y3 hcond
          cases h
          simp only [Bool.and_eq_true] at hcond
          have hn := eqn_eq hcond.1
          have hd := freeAt_ok hcond.2
          have hdl := freeAt_lt hcond.2
          subst hn
          obtain ⟨n1, n2, n3, n4, s1, s2, s3, s4⟩ := hs
          have s1 : 0 ≤ l := by simpa [Ar.std, stdCmp] using s1
          have s2 : l ≤ hh := by simpa [Ar.std, stdCmp] using s2
          have s3 : hh ≤ q := by simpa [Ar.std, stdCmp] using s3
          have s4 : q ≤ ct.n := by
            have s4 : decide (q ≤ ct.len Ar.std) = true := s4
            have := of_decide_eq_true s4
            rwa [Ct.len_n] at this
          have hie' : ie.size = ct.sz := by rw [hm]; simp [Program.cellsOf, hie]
          have hown : (SC.own id).is (gg bs st ν w) (a.eval x) := hx.of n1
          obtain ⟨A, cap, ν', ev, hcap, hx', hm', hi'⟩ := past_own (G := gg bs st ν w) (d := bid u) hr.mem hge hd hown s1 s2 s3 s4
          rw [Ct.len_n]
          refine runs_value ?_ ⟨ν', hx', ⟨hi', trivial⟩, hm'⟩
          have b1 : ∀ {k : IntKind} {i : Int} {y : Nat} {c : BoundsCode}, 0 ≤ i → i ≤ y → (Instr.sliceBound (.int k i) y c).run P w = .ok i.toNat w := by
            intro k i y c g1 g2
            simp [Instr.sliceBound, asIntOf, g1, g2]
          have hbounds : (Instr.sliceBounds true ct.n cap (lo.map a.eval) ((some y2).map a.eval) ((some y3).map a.eval)).run P w = .ok (l.toNat, hh.toNat, q.toNat) w := by
            rcases bnd_ok hr hb3 n4 with ⟨h, _⟩ | ⟨y3', k3, h3', e3⟩
            · cases h
            cases h3'
            have hm3 := b1 (k := k3) (i := q) (y := cap) (c := .slice3Acap) (by omega) (by omega)
            rcases bnd_ok hr hb2 n3 with ⟨h, _⟩ | ⟨y2', k2, h2', e2⟩
            · cases h
            cases h2'
            have hm2 := b1 (k := k2) (i := hh) (y := q.toNat) (c := .slice3B) (by omega) (by omega)
            rcases bnd_ok hr hb1 n2 with ⟨rfl, rfl⟩ | ⟨y1, k1, rfl, e1⟩
            · simp [Instr.sliceBounds, e2, e3, hm2, hm3]
            · have hm1 := b1 (k := k1) (i := l) (y := hh.toNat) (c := .slice3C) s1 (by omega)
              simp [Instr.sliceBounds, e1, e2, e3, hm1, hm2, hm3]
          simp only [execOp, ho, Instr.sliceAt, Sem.run_bind, run_underlying hu w, Result.andThen_ok, Instr.slice, ev, hbounds, sizeOf, typeInfo, run_program, hie, hie', Sem.run_pure]
          rfl
        · cases h
      · cases h
    · cases h
  · cases h
theorem view_ok (hc : CxOk P cx) (hr : Rep bs gv st ν a w) {o : Oper} {t : TypeId} {x : Operand} {lo hi : Option Operand} (ho : o.op = .slice t x lo hi none) {E : Eff} (h : effView Ar.std cx st t (evalE st x) lo hi = some E) (hs : E.side) : Runs P o a w (Res bs st ν w E) := by
  have hx := evalE_is hr x
  unfold effView at h
  split at h
  · rename_i g c e m _ _ _ _ hex hl
    rw [hex] at hx
    obtain ⟨hu, ⟨ie, hie⟩, hm⟩ := tiOf_slice (hc.tt _ _ hl)
    split at h
    · rename_i id ct g1 l hq hb1
      obtain ⟨rfl, hge⟩ := ownRow_ok hq
      split at h
      · rename_i hcond
        have hn := eqn_eq hcond
        unfold mk1 at h
        cases h
        obtain ⟨n1, n2, s1, s2⟩ := hs
        have s1 : 0 ≤ l := by simpa [Ar.std, stdCmp] using s1
        have s2 : l ≤ ct.n := by
          have s2 : decide (l ≤ ct.len Ar.std) = true := s2
          have := of_decide_eq_true s2
          rwa [Ct.len_n] at this
        have hie' : ie.size = ct.sz := by rw [← hn, hm]; simp [Program.cellsOf, hie]
        have hown : (SC.own id).is (gg bs st ν w) (a.eval x) := hx.of n1
        have hown2 := hown.2
        unfold ownAt at hown2
        have hge' : hget (gg bs st ν w).h id = some (.row e ct) := hge
        rw [hge'] at hown2
        obtain ⟨A, cap, ev, hcap, hA⟩ : ∃ A cap, a.eval x = .slice A ct.n cap ∧ ct.n ≤ cap ∧ (l.toNat < ct.n → ∃ g off, ν id = some (g, off) ∧ A = some ⟨g, off, none⟩) := by
          rcases hown2 with ⟨z0, z1, A0, z2⟩ | ⟨g, off, cap, tt, kk, g1, g2, g3, _⟩
          · exact ⟨A0, 0, by rw [z2, z0], by omega, fun h => by omega⟩
          · exact ⟨_, cap, g2, g3, fun _ => ⟨g, off, g1, rfl⟩⟩
        have hbounds : (Instr.sliceBounds true ct.n cap (lo.map a.eval) ((none : Option Operand).map a.eval) ((none : Option Operand).map a.eval)).run P w = .ok (l.toNat, ct.n, cap) w := by
          rcases bnd_ok hr hb1 n2 with ⟨rfl, rfl⟩ | ⟨y1, k1, rfl, e1⟩
          · simp [Instr.sliceBounds]
          · have b1 : (Instr.sliceBound (.int k1 l) ct.n .sliceB).run P w = .ok l.toNat w := by
              simp [Instr.sliceBound, asIntOf, s1, s2]
            simp [Instr.sliceBounds, e1, b1]
        refine runs_value (v := .slice (if cap = l.toNat then A else A.map (·.add (l.toNat * ct.sz))) (ct.n - l.toNat) (cap - l.toNat)) (w' := w) ?_ (res_pure hr.mem (e := ⟨none, _⟩) ⟨⟨_, _, _, rfl⟩, ?_⟩)
        · simp only [execOp, ho, Instr.sliceAt, Sem.run_bind, run_underlying hu w, Result.andThen_ok, Instr.slice, ev, hbounds, sizeOf, typeInfo, run_program, hie, hie', Sem.run_pure]
        · unfold vwAt
          rw [hge']
          refine ⟨⟨s1, by omega⟩, _, _, rfl, fun hlt => ?_⟩
          obtain ⟨g, off, e1, e2⟩ := hA hlt
          refine ⟨g, off, e1, ?_⟩
          rw [if_neg (by omega), e2, Option.map_some, add_at]
      · cases h
    · cases h
  · cases h
theorem buildSlice_ok (hc : CxOk P cx) (hr : Rep bs gv st ν a w) {o : Oper} {u : Nat} {t : TypeId} {n : Nat} {ps : Array (Nat × Operand)} (ho : o.op = .buildSlice t n ps) {E : Eff} (h : effBuildSlice cx st.heap u t n (ps.toList.map (·.1)) (ps.toList.map fun p => evalE st p.2) = some E) (hs : E.side) : Runs P o a w (Res bs st ν w E) := by
  rw [evs_eq] at h
  unfold effBuildSlice at h
  split at h
  · rename_i e sz _ _ _ _ vs hl hv
    split at h
    · rename_i ct tie hct he
      split at h
      · rename_i hcond
        have hE : E = (match eqn n 0, look cx.fs (ownKey u) with
          | true, some _ => ⟨needs ((ps.toList.map (·.2)).map (evalE st)) ∧ sidesA vs, ⟨none, .sa (.one (.own (bid u)))⟩, [(bid u, .emp e)]⟩
          | _, _ => ⟨needs ((ps.toList.map (·.2)).map (evalE st)) ∧ sidesA vs, ⟨none, .sa (.one (.sl (some (bid u, e)) ct))⟩, [(bid u, .tok)]⟩) := by
          revert h
          cases eqn n 0 <;> cases look cx.fs (ownKey u) <;> (intro h; exact (Option.some.inj h).symm)
        clear h
        have hs' : needs ((ps.toList.map (·.2)).map (evalE st)) ∧ sidesA vs := by
          rw [hE] at hs
          revert hs
          cases eqn n 0 <;> cases look cx.fs (ownKey u) <;> exact id
        simp only [Bool.and_eq_true] at hcond
        obtain ⟨c1, c2, c3, c4, c5⟩ := hcond
        have hd := freeAt_ok c1
        have hdl := freeAt_lt c1
        obtain ⟨x1, x2⟩ := idxs_eq c2
        have c3 := lee_le c3
        have c4 := lee_le c4
        obtain ⟨n1, n2⟩ := hs'
        obtain ⟨hu, ⟨ie, hie⟩, hsz⟩ := tiOf_slice (hc.tt _ _ hl)
        obtain ⟨i, zv, dd, hi, hz, _, hsi, hzz, _⟩ := tiOf_info (hc.tt _ _ he)
        have hszi : i.size = sz := by rw [hsz]; simp [Program.cellsOf, hi]
        have hvs := sas_is hr hv n1
        have hlen : vs.length = n := by
          have := hvs.len
          simp at this x1 x2
          omega
        have hul : ((ps.toList.map (·.2)).map a.eval).length = n := by rw [← hvs.len]; exact hlen
        have hcz : ∀ v ∈ vs, v.cells.length = sz := fun v hv => eqn_eq (List.all_eq_true.1 c5 v hv)
        have hall := cells_all hvs n2 hcz
        have hus : ∀ u ∈ (ps.toList.map (·.2)).map a.eval, u.cells.size = sz := fun u hu => (hall u hu).1
        generalize hus0 : (ps.toList.map (·.2)).map a.eval = us at *
        have hfill : ∀ l : List Value, l.length = n * sz → Instr.fill (fun i => some (i * sz, sz)) l.toArray ((ps.toList.map (·.1)).zip us) = some (rowOf us).toArray := by
          intro l hl
          have hln : (ps.toList.map (·.1)).length = us.length := by simp at x2 ⊢; omega
          rw [x1, hln, fill_full sz us 0 l hus (by rw [Nat.zero_add, hul, hl]; exact Nat.le_refl _)]
          simp [hul, hl]
        have hrl := rowOf_len hus
        have hm2 : n ≤ maxLen := by
          have : n ≤ n * sz := Nat.le_mul_of_pos_right _ c3
          unfold maxLen
          omega
        obtain ⟨f1, f2, f3⟩ := mkCt_flat (G := gg bs st ν w) hct hvs n2 hus
        obtain ⟨hx, hm, hi'⟩ := new_tok (G := gg bs st ν w) (d := bid u) (e := e) (ct := ct) (us := rowOf us) (rest := []) (cap := n) hr.mem hd (below_alloc w (.cells (rowOf us ++ []).toArray e)) (heap_alloc_new _ _) f1 (fun q hq => by
          obtain ⟨u', hu', hq'⟩ := List.mem_flatMap.1 hq
          exact (hall u' hu').2 q hq') (by omega) hm2 (by rw [List.append_nil, hrl, hul, f2])
        rw [List.append_nil] at hx hm hi'
        rw [f3, hul] at hi'
        have hres : Res bs st ν w E (.slice (some ⟨w.heap.size, 0, none⟩) n n) (w.alloc (.cells (rowOf us).toArray e)) := by
          have plain : Res bs st ν w ⟨needs ((ps.toList.map (·.2)).map (evalE st)) ∧ sidesA vs, ⟨none, .sa (.one (.sl (some (bid u, e)) ct))⟩, [(bid u, .tok)]⟩ (.slice (some ⟨w.heap.size, 0, none⟩) n n) (w.alloc (.cells (rowOf us).toArray e)) := ⟨_, hx, by rw [f3, hul] at *; exact hi', hm⟩
          rw [hE]
          cases e0 : eqn n 0 with
          | false => exact plain
          | true =>
            cases look cx.fs (ownKey u) with
            | none => exact plain
            | some _ =>
              have hn0 := eqn_eq e0
              subst hn0
              have hu0 : us = [] := List.eq_nil_of_length_eq_zero hul
              subst hu0
              obtain ⟨y1, y2, y3⟩ := new_emp (G := gg bs st ν w) hr.mem hd (below_alloc w (.cells (rowOf []).toArray e)) (heap_alloc_new _ _)
              exact ⟨_, y1, y3, y2⟩
        refine runs_value (v := .slice (some ⟨w.heap.size, 0, none⟩) n n) (w' := w.alloc (.cells (rowOf us).toArray e)) ?_ hres
        have e1 : ¬ n * sz > 2 ^ 24 := by omega
        have e2 := hfill ((List.range (n * sz)).map (zv.cells[· % zv.cells.size]!)) (by simp)
        have e3 : (Array.range (n * sz)).map (zv.cells[· % zv.cells.size]!) = ((List.range (n * sz)).map (zv.cells[· % zv.cells.size]!)).toArray := by apply Array.ext'; simp
        by_cases e0 : n * sz = 0
        · have e4 := hfill [] (by simp [e0])
          have hn0 : n = 0 := by
            rcases Nat.mul_eq_zero.1 e0 with h | h
            · exact h
            · omega
          have hps : ps = #[] := by
            refine Array.eq_empty_of_size_eq_zero ?_
            simp at x2
            omega
          have hu0 : us = [] := List.eq_nil_of_length_eq_zero (by rw [hul]; exact hn0)
          subst hps hn0 hu0
          simp [execOp, ho, Instr.buildSlice, run_underlying hu, sizeOf, typeInfo, hi, run_newRow, Instr.fill, rowOf]
          congr 2
          apply Array.ext' (by simp)
        · simp only [execOp, ho]
          have := run_buildSlice (P := P) w t e n (ps.map fun (i, x) => (i, a.eval x)) (rowOf us).toArray i zv hu hi hz (by rw [hszi]; exact e1) (by rw [hszi]; exact e0) (by rw [hszi, parts_eq, hus0, e3]; exact e2)
          simp only [Sem.run_bind, this, Result.andThen_ok, Sem.run_pure]
      · cases h
    · cases h
  · cases h
theorem size_made (z : Array Value) (n : Nat) : (madeCells z n).size = n := by simp [madeCells]
theorem made_at {z : Array Value} {n j : Nat} {u : Value} (h : (madeCells z n).toList[j]? = some u) (hz : 0 < z.size) : ∃ k, z[k]? = some u ∧ k = j % z.size := by
  have hj : j < n := by
    have := get_lt h
    simpa [size_made] using this
  simp [madeCells, hj] at h
  have hlt : j % z.size < z.size := Nat.mod_lt _ hz
  refine ⟨j % z.size, ?_, rfl⟩
  rw [← h]
  simp [hlt]
theorem flat_rep {ct : Ct} {z : List Value} {n : Nat} (hz : zMatch ct z) (h1 : z.all Value.oneCell' = true) (hl : z.length = ct.sz) (hpos : 0 < z.length) {m : Nat} (hm : m = n * ct.sz) : flatIs G (ct.rep Ar.std n) (madeCells z.toArray m).toList ∧ (ct.rep Ar.std n).n = n ∧ (ct.rep Ar.std n).sz = ct.sz ∧ ∀ u ∈ (madeCells z.toArray m).toList, u.oneCell' = true := by
  have hone : ∀ u ∈ (madeCells z.toArray m).toList, u.oneCell' = true := by
    intro u hu
    obtain ⟨j, hj⟩ := List.mem_iff_getElem?.1 hu
    obtain ⟨k, hk, _⟩ := made_at hj (by simpa using hpos)
    exact List.all_eq_true.1 h1 u (List.mem_of_getElem? (by simpa using hk))
  refine ⟨?_, by cases ct <;> simp [Ct.rep, Ct.n, Ar.std], by cases ct <;> rfl, hone⟩
  cases ct with
  | ints k l =>
    have hz : z = [.int k 0] := hz
    subst hz
    show _ = (List.replicate (Int.toNat (n : Int)) (0 : Int)).map (Value.int k)
    rw [List.map_replicate, Int.toNat_natCast]
    have hmn : m = n := by rw [hm]; simp [Ct.sz]
    refine List.eq_replicate_iff.2 ⟨by simp [size_made, hmn], fun u hu => ?_⟩
    obtain ⟨j, hj⟩ := List.mem_iff_getElem?.1 hu
    obtain ⟨q, hq, hq2⟩ := made_at hj (by simp)
    have : q = 0 := by rw [hq2]; simp [Nat.mod_one]
    subst this
    simpa using hq.symm
  | recs s l =>
    have hz : toE s (z.map cellOf) = some s.zero := hz
    have hl : z.length = s.size := hl
    refine ⟨by simp [size_made, hm, Ar.std, Ct.sz], fun i x hx => ?_⟩
    have hx : (List.replicate (Int.toNat (n : Int)) s.zero)[i]? = some x := hx
    have hi := get_lt hx
    rw [List.length_replicate, Int.toNat_natCast] at hi
    have hx := replicate_at hx
    subst hx
    have hv := toE_is (G := G) hz (zero_is h1) []
    simp only [List.nil_append, List.length_nil] at hv
    have hcl := chunk_le (sz := s.size) hi
    have e : ((madeCells z.toArray m).toList.drop (i * s.size)).take s.size = z := by
      apply List.ext_getElem
      · simp [size_made, hm, Ct.sz]
        omega
      · intro j h1 h2
        have hjs : j < s.size := by omega
        have hlt : i * s.size + j < (madeCells z.toArray m).toList.length := by
          simp [size_made, hm, Ct.sz]
          omega
        obtain ⟨k, hk, hk2⟩ := made_at (List.getElem?_eq_getElem hlt) (by simpa using hpos)
        have hkj : k = j := by
          rw [hk2]
          have : z.toArray.size = s.size := by simpa using hl
          rw [this, Nat.mul_comm, Nat.mul_add_mod, Nat.mod_eq_of_lt hjs]
        subst hkj
        simp only [List.getElem_take, List.getElem_drop]
        have h3 : z[k]? = some ((madeCells z.toArray m).toList[i * s.size + k]) := by simpa using hk
        rw [List.getElem?_eq_getElem h2] at h3
        exact (Option.some.inj h3).symm
    rw [e]
    exact hv
theorem make_ok (hc : CxOk P cx) (hr : Rep bs gv st ν a w) {o : Oper} {u : Nat} {t : TypeId} {x y : Operand} (ho : o.op = .makeSlice t x y) {E : Eff} (h : effMake Ar.std cx st.heap u t (evalE st x) (evalE st y) = some E) (hs : E.side) : Runs P o a w (Res bs st ν w E) := by
  have hx := evalE_is hr x
  have hy := evalE_is hr y
  unfold effMake at h
  split at h
  · rename_i g c g' d hex hey
    rw [hex] at hx
    rw [hey] at hy
    split at h
    · rename_i k l k' n e sz _ _ _ _ hl hn hsl
      obtain ⟨hu, ⟨ie, hie⟩, hsz⟩ := tiOf_slice (hc.tt _ _ hsl)
      split at h
      · rename_i te b ct he hb hct
        obtain ⟨i, zv, dd, hi, hz, _, hsi, hzz, _⟩ := tiOf_info (hc.tt _ _ he)
        obtain ⟨ib, hib, hbb⟩ := hc.bs _ _ hb
        have : ib = i := by rw [hi] at hib; exact (Option.some.inj hib).symm
        subst this
        have hszi : ib.size = sz := by rw [hsz]; simp [Program.cellsOf, hi]
        split at h
        · rename_i hcond
          simp only [Bool.and_eq_true] at hcond
          obtain ⟨c0, c1, c2, c3, c4⟩ := hcond
          have c0 := eqn_eq c0
          have c1 := lee_le c1
          have c2 := lee_le c2
          have c3 := eqn_eq c3
          have hd := freeAt_ok c4
          have hdl := freeAt_lt c4
          have hzl : te.zero.length = sz := by rw [hc.sz _ _ he, c0]
          have hzc : zv.cells = te.zero.toArray := by rw [hzz]
          have run : need g → need g' → 0 ≤ l → l ≤ n → decide (n * (b : Int) ≤ 140737488355328) = true → n.toNat ≤ maxLen ∧ (execOp a.eval o).run P w = .ok (.value (.slice (some ⟨w.heap.size, 0, none⟩) l.toNat n.toNat)) (w.alloc (.cells (madeCells te.zero.toArray (n.toNat * sz)) e)) := by
            intro n1 n2 s1 s2 s3
            have s3 := of_decide_eq_true s3
            have hnb : n ≤ n * (b : Int) := by
              have h1 : (1 : Int) ≤ b := by omega
              have := Int.mul_le_mul_of_nonneg_left h1 (show 0 ≤ n by omega)
              omega
            have ex := int?_is hl (hx.of n1)
            have ey := int?_is hn (hy.of n2)
            have hrun := run_make (P := P) w t e ib zv hu hi hz k k' l n s1 s2 (by rw [hbb, Int.mul_comm]; omega) (by omega)
            refine ⟨by unfold maxLen; omega, ?_⟩
            rw [hszi, hzc] at hrun
            simp only [execOp, ho, ex, ey, hrun, Sem.run_bind, Sem.run_pure, Result.andThen_ok]
          split at h
          · rename_i hlit
            simp only [Bool.and_eq_true] at hlit
            have hl0 : l = 0 := by simpa [stdCmp] using hlit.2
            subst hl0
            cases h
            obtain ⟨n1, n2, s1, s2⟩ := hs
            have s1 : 0 ≤ n := by simpa [Ar.std, stdCmp] using s1
            obtain ⟨hmx, hrun⟩ := run n1 n2 (Int.le_refl _) s1 s2
            obtain ⟨hx', hm, hi'⟩ := new_tok (G := gg bs st ν w) (d := bid u) (e := e) (ct := empC ct) (us := []) (rest := (madeCells te.zero.toArray (n.toNat * sz)).toList) (cap := n.toNat) hr.mem hd (below_alloc w (.cells (madeCells te.zero.toArray (n.toNat * sz)) e)) (by
              rw [List.nil_append, Array.toArray_toList]
              exact heap_alloc_new _ _) (empC_flat _) (fun q hq => by cases hq) (by rw [empC_n]; omega) hmx (by simp [size_made, empC_sz, c3])
            refine runs_value hrun ⟨_, hx', ?_, hm⟩
            rw [empC_n] at hi'
            have h0 : (0 : Int).toNat = 0 := rfl
            rw [h0, ← empC_n ct] at *
            exact hi'
          · cases h
            obtain ⟨n1, n2, s1, s2, s3⟩ := hs
            have s1 : 0 ≤ l := by simpa [Ar.std, stdCmp] using s1
            have s2 : l ≤ n := by simpa [Ar.std, stdCmp] using s2
            obtain ⟨hmx, hrun⟩ := run n1 n2 s1 s2 s3
            have hzr := hc.zr _ _ hct
            unfold zr1 at hzr
            simp only [hsl, he] at hzr
            have hl2 : l.toNat * sz ≤ n.toNat * sz := Nat.mul_le_mul_right _ (by omega)
            obtain ⟨f1, f2, f3, f4⟩ := flat_rep (G := gg bs st ν w) (ct := ct) (z := te.zero) (n := l.toNat) hzr.1 hzr.2 (by omega) (by omega) (m := l.toNat * sz) (by rw [c3])
            rw [Int.toNat_of_nonneg s1] at f1 f2 f3
            by_cases hn0 : n.toNat = 0
            · have hln : (ct.rep Ar.std l).n = 0 := by rw [f2]; omega
              obtain ⟨hx', hm⟩ := mem_new (G := gg bs st ν w) (d := bid u) (k' := .row e (ct.rep Ar.std l)) (x := none) hr.mem hd (below_alloc w (.cells (madeCells te.zero.toArray (n.toNat * sz)) e)) (fun b m h => by cases h) (fun _ => .inl ⟨hln, by simp [one]⟩)
              refine runs_value hrun ⟨_, hx', ⟨⟨_, _, _, rfl⟩, ?_⟩, hm⟩
              unfold ownAt
              rw [show hget (setAll st.heap [(bid u, .row e (ct.rep Ar.std l))]) (bid u) = some (.row e (ct.rep Ar.std l)) from hget_self _ _ _]
              exact .inl ⟨hln, by simp, _, by congr 1; omega⟩
            obtain ⟨hx', hm⟩ := new_row (G := gg bs st ν w) (d := bid u) hr.mem hd e (rest := (madeCells te.zero.toArray (n.toNat * sz)).toList.drop (l.toNat * sz)) f1 f4
            have hsplit : ((madeCells te.zero.toArray (l.toNat * sz)).toList ++ (madeCells te.zero.toArray (n.toNat * sz)).toList.drop (l.toNat * sz)).toArray = madeCells te.zero.toArray (n.toNat * sz) := by
              have : (madeCells te.zero.toArray (l.toNat * sz)).toList = (madeCells te.zero.toArray (n.toNat * sz)).toList.take (l.toNat * sz) := by
                simp only [madeCells, Array.toList_map, Array.toList_range, ← List.map_take, List.take_range, Nat.min_eq_left hl2]
              rw [this, List.take_append_drop, Array.toArray_toList]
            rw [hsplit] at hx' hm
            refine runs_value hrun ⟨_, hx', ⟨⟨_, _, _, rfl⟩, ?_⟩, hm⟩
            unfold ownAt
            rw [show hget (setAll st.heap [(bid u, .row e (ct.rep Ar.std l))]) (bid u) = some (.row e (ct.rep Ar.std l)) from hget_self _ _ _]
            refine .inr ⟨w.heap.size, 0, n.toNat, e, n.toNat * sz, by simp [gg], by rw [f2], by rw [f2]; omega, hmx, ?_, by rw [f3, c3]; omega, by omega⟩
            have hh : (w.alloc (.cells (madeCells te.zero.toArray (n.toNat * sz)) e)).heap[w.heap.size]? = some (.cells (madeCells te.zero.toArray (n.toNat * sz)) e (0, 0)) := heap_alloc_new w _
            unfold World.shape?
            simp only [hh]
            congr 2
            simp only [madeCells, Array.size_map, Array.size_range]
        · cases h
      · cases h
    · cases h
  · cases h
/-! ### Copies, lengths, the least and the greatest -/
theorem flatIs.take {c : Ct} {us : List Value} (h : flatIs G c us) {k : Nat} (hk : k ≤ c.n) : flatIs G (c.cut Ar.std 0 k) (us.take (k * c.sz)) := by
  cases c with
  | ints k' l =>
    have h : us = l.map (Value.int k') := h
    subst h
    show _ = ((l.take (Int.toNat k)).drop (Int.toNat 0)).map (Value.int k')
    simp [Ct.sz, List.map_take]
  | recs s l =>
    obtain ⟨h1, h2⟩ := h
    have hk : k ≤ l.length := hk
    have hkl : k * s.size ≤ l.length * s.size := Nat.mul_le_mul_right _ hk
    refine ⟨?_, fun i x hx => ?_⟩
    · simp [Ar.std, Ct.sz, h1, Nat.min_eq_left hk, Nat.min_eq_left hkl]
    · have hx : ((l.take (Int.toNat k)).drop (Int.toNat 0))[i]? = some x := hx
      simp at hx
      rw [List.getElem?_take] at hx
      split at hx
      · rename_i hik
        have hc := chunk_le (sz := s.size) hik
        have := h2 i x hx
        simp only [Ct.sz]
        rw [List.drop_take, List.take_take, Nat.min_eq_left (by omega)]
        exact this
      · cases hx
theorem cpy_is {c c2 c' : Ct} {xs ys : List Value} (hj : cpyCt Ar.std c c2 = some c') (h1 : flatIs G c xs) (h2 : flatIs G c2 ys) : flatIs G c' (ys.take (min c2.n c.n * c.sz) ++ xs.drop (min c2.n c.n * c.sz)) ∧ c'.n = c.n ∧ c'.sz = c.sz ∧ c2.sz = c.sz := by
  unfold cpyCt at hj
  split at hj
  · split at hj
    · rename_i k l k' m _ hk
      cases hj
      have hk := kindEq_eq hk
      subst hk
      have h1 : xs = l.map (Value.int k') := h1
      have h2 : ys = m.map (Value.int k') := h2
      subst h1 h2
      refine ⟨?_, by simp [Ct.n, Ar.std]; omega, rfl, rfl⟩
      show _ = (m.take l.length ++ l.drop m.length).map (Value.int k')
      simp only [Ct.n, Ct.sz, Nat.mul_one, List.map_append, List.map_take, List.map_drop]
      congr 1
      · rcases Nat.le_total m.length l.length with g | g
        · rw [Nat.min_eq_left g, List.take_of_length_le (by simp), List.take_of_length_le (by simpa using g)]
        · rw [Nat.min_eq_right g]
      · rcases Nat.le_total m.length l.length with g | g
        · rw [Nat.min_eq_left g]
        · rw [Nat.min_eq_right g, List.drop_of_length_le (by simp), List.drop_of_length_le (by simpa using g)]
    · cases hj
  · split at hj
    · rename_i q l q' m _ hk
      cases hj
      have hk := shEq_eq hk
      subst hk
      obtain ⟨a1, a2⟩ := h1
      obtain ⟨b1, b2⟩ := h2
      have hm1 : min m.length l.length * q'.size ≤ ys.length := by rw [b1]; exact Nat.mul_le_mul_right _ (Nat.min_le_left _ _)
      have hm2 : min m.length l.length * q'.size ≤ xs.length := by rw [a1]; exact Nat.mul_le_mul_right _ (Nat.min_le_right _ _)
      refine ⟨⟨?_, fun i x hx => ?_⟩, by simp [Ct.n, Ar.std]; omega, rfl, rfl⟩
      · simp only [Ct.n, Ct.sz] at *
        have e : (m.take l.length ++ l.drop m.length).length = l.length := by simp; omega
        show (List.take _ ys ++ List.drop _ xs).length = (m.take l.length ++ l.drop m.length).length * _
        rw [e, List.length_append, List.length_take, List.length_drop, Nat.min_eq_left hm1, a1]
        rw [a1] at hm2
        omega
      · simp only [Ct.n, Ct.sz] at *
        have hx : (m.take l.length ++ l.drop m.length)[i]? = some x := hx
        have hlt : (ys.take (min m.length l.length * q'.size)).length = min m.length l.length * q'.size := by rw [List.length_take, Nat.min_eq_left hm1]
        rcases Nat.lt_or_ge i (min m.length l.length) with hi | hi
        · rw [List.getElem?_append_left (by simp; omega), List.getElem?_take, if_pos (by omega)] at hx
          have hc := chunk_le (sz := q'.size) hi
          rw [List.drop_append_of_le_length (by omega), List.take_append_of_le_length (by simp; omega), List.drop_take, List.take_take, Nat.min_eq_left (by omega)]
          exact b2 i x hx
        · rw [List.getElem?_append_right (by simp; omega), List.getElem?_drop] at hx
          have e1 : m.length + (i - (m.take l.length).length) = i := by
            have := get_lt hx
            simp at this ⊢
            omega
          rw [e1] at hx
          have hmi : min m.length l.length * q'.size ≤ i * q'.size := Nat.mul_le_mul_right _ hi
          rw [List.drop_append, hlt, List.drop_of_length_le (by rw [hlt]; exact hmi), List.nil_append, List.drop_drop]
          have e2 : min m.length l.length * q'.size + (i * q'.size - min m.length l.length * q'.size) = i * q'.size := by omega
          rw [e2]
          exact a2 i x hx
    · cases hj
  · cases hj
theorem copy_ok (hc : CxOk P cx) (hr : Rep bs gv st ν a w) {o : Oper} {c : Call} (ho : o.op = .call c) (hf : c.callee = .builtin .copy) {t : Nat} {ts : List Nat} {x y : Ent} (ht : c.argTypes.toList = t :: ts) (hv : c.args.toList.map (evalE st) = [x, y])
    {E : Eff} (h : effCopy Ar.std cx st.heap t x y = some E) (hs : E.side) : Runs P o a w (Res bs st ν w E) := by
  obtain ⟨ox, oy, hargs, hx0, hy0⟩ : ∃ ox oy, c.args.toList = [ox, oy] ∧ evalE st ox = x ∧ evalE st oy = y := by
    generalize c.args.toList = l at hv
    match l, hv with
    | [ox, oy], hv =>
      simp at hv
      exact ⟨ox, oy, rfl, hv.1, hv.2⟩
  have hx := evalE_is hr ox
  have hy := evalE_is hr oy
  rw [hx0] at hx
  rw [hy0] at hy
  unfold effCopy at h
  split at h
  · rename_i gx n gy y'
    split at h
    · rename_i e sz _ _ _ _ bt c0 hl hb
      split at h
      · rename_i c2 h2
        split at h
        · rename_i c' hj
          split at h
          · rename_i hcond
            simp only [Bool.and_eq_true] at hcond
            have hsz0 := eqn_eq hcond.1
            have hoth := hcond.2
            cases h
            obtain ⟨n1, n2⟩ := hs
            obtain ⟨hu, ⟨ie, hie⟩, hsz⟩ := tiOf_slice (hc.tt _ _ hl)
            have hszi : ie.size = c0.sz := by rw [hsz0, hsz]; simp [Program.cellsOf, hie]
            have hown : ownAt (gg bs st ν w) n (a.eval ox) := (hx.of n1).2
            unfold ownAt at hown
            have hb' : hget (gg bs st ν w).h n = some (.row bt c0) := hb
            rw [hb'] at hown
            obtain ⟨A2, cap2, ys, r1, r2, r3, r4, r5, r6⟩ := sndCt_holds (G := gg bs st ν w) hr.mem h2 (hy.of n2)
            have hres : goInt (min c2.n c0.n : Nat) = Value.int .i64 (Ar.std.iteI (Ar.std.cmp .lss (c2.len Ar.std) (c0.len Ar.std)) (c2.len Ar.std) (c0.len Ar.std)) := by
              rw [Ct.len_n, Ct.len_n]
              unfold goInt
              congr 1
              by_cases hlt : c2.n < c0.n
              · simp [Ar.std, stdCmp, hlt, Nat.min_eq_left (Nat.le_of_lt hlt)]
              · simp [Ar.std, stdCmp, hlt, Nat.min_eq_right (Nat.le_of_not_lt hlt)]
            have hlen : (Builtin.lenOf (a.eval oy)).run P w = .ok c2.n w := by rw [r1]; rfl
            have hu0 : c.argTypes[0]? = some t := by
              have := congrArg (·[0]?) ht
              simpa using this
            rcases hown with ⟨z0, z1, A0, z2⟩ | ⟨g, off, cap, tt, _, e1, q2, q3, q4, _⟩
            · have f0 : flatIs (gg bs st ν w) c0 [] := by
                cases c0 with
                | ints k l =>
                  have : l = [] := List.eq_nil_of_length_eq_zero z0
                  subst this
                  rfl
                | recs q l =>
                  have : l = [] := List.eq_nil_of_length_eq_zero z0
                  subst this
                  exact ⟨by simp, fun i x hx => by simp at hx⟩
              obtain ⟨_, k1, k2, k3⟩ := cpy_is hj f0 r4
              have z1 : ν n = none := z1
              obtain ⟨hx', hm'⟩ := mem_one (G := gg bs st ν w) (d := n) (k' := .row bt c') (x := none) (w' := w) hr.mem rfl rfl rfl (Nat.le_refl _) (fun _ _ _ => rfl) (fun _ _ _ _ _ _ => rfl) (fun b m h => by cases h)
                (fun k hk _ => by
                  rw [hb'] at hk
                  cases hk
                  exact ⟨by show (if n = n then none else _) = ν n; rw [if_pos rfl, z1], k2, k1⟩)
                (fun _ => .inl ⟨k1.trans z0, by simp [one]⟩)
              have hmz : min c2.n c0.n = 0 := by omega
              refine runs_value (v := goInt (min c2.n c0.n : Nat)) (w' := w) ?_ ⟨_, hx', hres, hm'⟩
              have ha : c.args.map a.eval = #[.slice A0 0 0, a.eval oy] := by
                apply Array.ext'
                simp [hargs, z2]
              rw [hmz]
              have hfirst : (Builtin.firstCells ie.size 0 (a.eval oy)).run P w = .ok #[] w := by
                rw [r1]
                cases A2 with
                | none => simp [Builtin.firstCells]
                | some A2 => simp [Builtin.firstCells, loadCells, loadCellsFrom]
              simp [execOp, ho, resolve, hf, invoke, builtin, Builtin.copy_, ha, hu0, run_underlying hu, hlen, hfirst, sizeOf, typeInfo, hie, storeCells]
              cases A0 <;> simp
            obtain ⟨pre, vs, rest, h0, e2, f1, o1⟩ := hr.mem.rowAt hb e1
            subst h0
            have e2 : w.heap[g]? = some (.cells (pre ++ (vs ++ rest)).toArray bt (0, 0)) := e2
            obtain ⟨f2, k1, k2, k3⟩ := cpy_is hj f1 r4
            have hlx := f1.len
            have hly := r4.len
            rw [k3] at hly
            have hm1 : min c2.n c0.n * c0.sz ≤ c2.n * c0.sz := Nat.mul_le_mul_right _ (Nat.min_le_left _ _)
            have hm2 : min c2.n c0.n * c0.sz ≤ c0.n * c0.sz := Nat.mul_le_mul_right _ (Nat.min_le_right _ _)
            have hlt : (ys.take (min c2.n c0.n * c0.sz)).length = min c2.n c0.n * c0.sz := by rw [List.length_take, hly, Nat.min_eq_left hm1]
            have hpe := set_mid (pre := pre) (vs := vs) (rest := rest) (us := ys.take (min c2.n c0.n * c0.sz)) (k := 0) (by omega)
            simp only [Nat.add_zero, List.take_zero, List.nil_append, Nat.zero_add, hlt] at hpe
            obtain ⟨hx', hm'⟩ := mem_write (G := gg bs st ν w) (k' := .row bt c') hr.mem hb rfl e1 e2 (pre ++ ((ys.take (min c2.n c0.n * c0.sz) ++ vs.drop (min c2.n c0.n * c0.sz)) ++ rest)).toArray (by simp [hlt]; omega)
              (fun _ => ⟨by show (if n = n then some (g, pre.length) else _) = _; rw [if_pos rfl]; exact e1.symm, k2, k1⟩)
              (fun hx => .inr ⟨g, pre, _, rest, by simp [one], setRow_at _ _ _ _ _ e2, f2.sub hx.toSub, fun q hq => by
                rcases List.mem_append.1 hq with hq | hq
                · exact r5 q (List.mem_of_mem_take hq)
                · exact o1 q (List.mem_of_mem_drop hq)⟩) (fun q hq => pre_same hq)
            refine runs_value (v := goInt (min c2.n c0.n : Nat)) (w' := w.setRow g (pre ++ ((ys.take (min c2.n c0.n * c0.sz) ++ vs.drop (min c2.n c0.n * c0.sz)) ++ rest)).toArray) ?_ ⟨_, hx', hres, hm'⟩
            have hfirst : (Builtin.firstCells ie.size (min c2.n c0.n) (a.eval oy)).run P w = .ok (ys.take (min c2.n c0.n * c0.sz)).toArray w := by
              rw [hszi, r1]
              by_cases h0 : min c2.n c0.n = 0
              · rw [h0]
                cases A2 with
                | none => simp [Builtin.firstCells]
                | some A2 => simp [Builtin.firstCells, loadCells, loadCellsFrom]
              · obtain ⟨g2, o2, rfl, hcell⟩ := r6 (by omega)
                have := run_loadCells_list (P := P) w ⟨g2, o2, none⟩ (ys.take (min c2.n c0.n * c0.sz)) (fun j u hu => by
                  rw [add_at]
                  rw [List.getElem?_take] at hu
                  split at hu
                  · exact hcell j u hu
                  · cases hu)
                rw [hlt] at this
                exact this
            have hst := run_storeCells_at (P := P) g pre.length bt (ys.take (min c2.n c0.n * c0.sz)) 0 (pre ++ (vs ++ rest)).toArray w e2 (by simp [hlt]; omega) (fun u hu => r5 u (List.mem_of_mem_take hu))
            simp only [Nat.add_zero, hlt] at hst
            rw [hpe] at hst
            have ha : c.args.map a.eval = #[.slice (some ⟨g, pre.length, none⟩) c0.n cap, a.eval oy] := by
              apply Array.ext'
              simp [hargs, q2]
            simp [execOp, ho, resolve, hf, invoke, builtin, Builtin.copy_, ha, hu0, run_underlying hu, hlen, hfirst, sizeOf, typeInfo, hie, hst]
          · cases h
        · cases h
      · cases h
    · cases h
  · cases h
/-- A block that is set to what it is. -/
theorem alike_same (hm : Mem G) {n : Nat} {b : Blk} (hb : hget G.h n = some b) : Ext G ⟨G.o, hset G.h n b, G.bs, G.w⟩ ∧ Mem ⟨G.o, hset G.h n b, G.bs, G.w⟩ := by
  have hsame : ∀ k, hget (hset G.h n b) k = hget G.h k := fun k => by
    rw [hget_set]
    split
    · rename_i e
      subst e
      exact hb.symm
    · rfl
  exact mem_step hm (G' := ⟨G.o, hset G.h n b, G.bs, G.w⟩) (fun _ => False) rfl (fun k _ => ⟨hsame k, rfl⟩) rfl rfl rfl (Nat.le_refl _) (fun _ _ _ => rfl) (fun _ _ _ _ h => h.elim) (fun _ h => h.elim) (fun _ _ h => h.elim) (fun _ h => h.elim) (fun _ h => h.elim) (Shp.refl _) (fun _ h => h.elim) (fun _ h => h.elim)
theorem zer_n {c : Ct} {k : Nat} (hk : k ≤ c.n) : (c.zer Ar.std k).n = c.n := by
  cases c with
  | ints kk l =>
    have hk : k ≤ l.length := hk
    show (l.take ((k : Int)).toNat ++ List.replicate (l.length - ((k : Int)).toNat) 0).length = l.length
    simp
    omega
  | recs s l =>
    have hk : k ≤ l.length := hk
    show (l.take ((k : Int)).toNat ++ List.replicate (l.length - ((k : Int)).toNat) s.zero).length = l.length
    simp
    omega
theorem zer_sz (c : Ct) (l : Int) : (c.zer Ar.std l).sz = c.sz := by cases c <;> rfl
theorem shEq_self : ∀ s : Sh, shEq s s = true
  | .nil => rfl
  | .int k r => by simp [shEq, kindEq, shEq_self r]
  | .bool r => by simp [shEq, shEq_self r]
  | .str r => by simp [shEq, shEq_self r]
  | .ints k r => by simp [shEq, kindEq, shEq_self r]
  | .recs s r => by simp [shEq, shEq_self s, shEq_self r]
theorem zer_flat {c : Ct} {vs zs : List Value} (h : flatIs G c vs) {k : Nat} (hk : k ≤ c.n) (hz : flatIs G (c.rep Ar.std ((c.n - k : Nat) : Int)) zs) : flatIs G (c.zer Ar.std k) (vs.take (k * c.sz) ++ zs) := by
  have h1 := h.take hk
  have hj : joinCt Ar.std (c.cut Ar.std 0 k) (c.rep Ar.std ((c.n - k : Nat) : Int)) = some (c.zer Ar.std k) := by
    cases c with
    | ints kk l => simp [joinCt, Ct.cut, Ct.rep, Ct.zer, kindEq, Ar.std, Ct.n]
    | recs s l => simp [joinCt, Ct.cut, Ct.rep, Ct.zer, shEq_self, Ar.std, Ct.n]
  exact (flatIs.append hj h1 hz).1
theorem sameCt_z {hc c : Ct} {z : List Value} (h : sameCt hc c = true) (hz : zMatch hc z) : zMatch c z := by
  cases hc <;> cases c <;> simp [sameCt] at h
  · have := kindEq_eq h
    subst this
    exact hz
  · have := shEq_eq h
    subst this
    exact hz
theorem clear_ok (hc : CxOk P cx) (hr : Rep bs gv st ν a w) {o : Oper} {c : Call} (ho : o.op = .call c) (hf : c.callee = .builtin .clear) {t : Nat} {x : Ent} (ht : c.argTypes.toList = [t]) (hv : c.args.toList.map (evalE st) = [x])
    {E : Eff} (h : effClear Ar.std cx st.heap t x = some E) (hs : E.side) : Runs P o a w (Res bs st ν w E) := by
  obtain ⟨ox, hargs, hx0⟩ : ∃ ox, c.args.toList = [ox] ∧ evalE st ox = x := by
    generalize c.args.toList = l at hv
    match l, hv with
    | [ox], hv =>
      simp at hv
      exact ⟨ox, rfl, hv⟩
  have hx := evalE_is hr ox
  rw [hx0] at hx
  unfold effClear at h
  split at h
  · rename_i g n l
    split at h
    · rename_i e sz _ _ _ _ hcc bt c0 hl hhs hb
      split at h
      · rename_i te he
        split at h
        · rename_i hcond
          simp only [Bool.and_eq_true] at hcond
          obtain ⟨c1, c2, c3, c4⟩ := hcond
          have c2 := eqn_eq c2
          have c3 := eqn_eq c3
          have c4 := lee_le c4
          cases h
          obtain ⟨hu, ⟨ie, hie⟩, hsz⟩ := tiOf_slice (hc.tt _ _ hl)
          obtain ⟨i, zv, dd, hi, hz, _, hsi, hzz, _⟩ := tiOf_info (hc.tt _ _ he)
          have hzr := hc.zr _ _ hhs
          unfold zr1 at hzr
          simp only [hl, he] at hzr
          have hzm := sameCt_z c1 hzr.1
          have hzl : te.zero.length = sz := by rw [hc.sz _ _ he, c3]
          have hzc : zv.cells = te.zero.toArray := by rw [hzz]
          obtain ⟨⟨A0, m0, cp0, e0⟩, hw⟩ := hx.of hs
          unfold vwAt at hw
          have hb' : hget (gg bs st ν w).h n = some (.row bt c0) := hb
          rw [hb'] at hw
          obtain ⟨⟨s1, s2⟩, A, cp, ev, hA⟩ := hw
          obtain ⟨k, rfl⟩ := Int.eq_ofNat_of_zero_le s1
          have s2 : k ≤ c0.n := s2
          have ev : a.eval ox = .slice A (c0.n - k) cp := ev
          have hA : k < c0.n → ∃ g off, ν n = some (g, off) ∧ A = some ⟨g, off + k * c0.sz, none⟩ := hA
          have hu0 : c.argTypes[0]? = some t := by
            have := congrArg (·[0]?) ht
            simpa using this
          have ha : c.args.map a.eval = #[.slice A (c0.n - k) cp] := by
            apply Array.ext'
            simp [hargs, ev]
          have hzero : ∀ w : World, (zeroValue e).run P w = .ok zv w := fun w => by simp [zeroValue, typeInfo, hi, hz]
          obtain ⟨f1, f2, f3, f4⟩ := flat_rep (G := gg bs st ν w) (ct := c0) (z := te.zero) (n := c0.n - k) hzm hzr.2 (by omega) (by omega) (m := (c0.n - k) * c0.sz) rfl
          have hzs : (Builtin.zeroCells zv.cells (c0.n - k)).toList = (madeCells te.zero.toArray ((c0.n - k) * c0.sz)).toList := by
            rw [hzc]
            show (madeCells te.zero.toArray ((c0.n - k) * te.zero.toArray.size)).toList = _
            rw [List.size_toArray, hzl, c2]
          generalize hzz2 : (madeCells te.zero.toArray ((c0.n - k) * c0.sz)).toList = zs at f1 f4 hzs
          have hzsl : zs.length = (c0.n - k) * c0.sz := by rw [← hzz2, Array.length_toList, size_made]
          by_cases hlt : k < c0.n
          · obtain ⟨g', off, e1, e2⟩ := hA hlt
            subst e2
            obtain ⟨pre, vs, rest, h0, hg, g1, o1⟩ := hr.mem.rowAt hb e1
            subst h0
            have hg : w.heap[g']? = some (.cells (pre ++ (vs ++ rest)).toArray bt (0, 0)) := hg
            have hlv := g1.len
            have hkv : k * c0.sz + zs.length = vs.length := by
              rw [hzsl, hlv, ← Nat.add_mul]
              congr 1
              omega
            have hpe := set_mid (pre := pre) (vs := vs) (rest := rest) (us := zs) (k := k * c0.sz) (by omega)
            rw [hkv, List.drop_length, List.append_nil] at hpe
            have hzf := zer_flat g1 s2 f1
            have hlen2 : (vs.take (k * c0.sz) ++ zs).length = vs.length := by
              rw [List.length_append, List.length_take]
              omega
            obtain ⟨hx', hm'⟩ := mem_write (G := gg bs st ν w) (k' := .row bt (c0.zer Ar.std k)) hr.mem hb rfl e1 hg (pre ++ ((vs.take (k * c0.sz) ++ zs) ++ rest)).toArray (by simp only [List.size_toArray, List.length_append] at hlen2 ⊢; omega)
              (fun _ => ⟨by show (if n = n then some (g', pre.length) else _) = _; rw [if_pos rfl]; exact e1.symm, zer_sz _ _, zer_n s2⟩)
              (fun hx => .inr ⟨g', pre, _, rest, by simp [one], setRow_at _ _ _ _ _ hg, hzf.sub hx.toSub, fun q hq => by
                rcases List.mem_append.1 hq with hq | hq
                · exact o1 q (List.mem_of_mem_take hq)
                · exact f4 q hq⟩) (fun q hq => pre_same hq)
            have hst := run_storeCells_at (P := P) g' (pre.length + k * c0.sz) bt zs 0 (pre ++ (vs ++ rest)).toArray w hg (by simp only [List.size_toArray, List.length_append]; omega) f4
            simp only [Nat.add_zero] at hst
            have hpe2 : (pre ++ (vs ++ rest)).take (pre.length + k * c0.sz) ++ zs ++ (pre ++ (vs ++ rest)).drop (pre.length + k * c0.sz + zs.length) = pre ++ ((vs.take (k * c0.sz) ++ zs) ++ rest) := by
              rw [set_mid (by omega), hkv, List.drop_length, List.append_nil]
            rw [hpe2] at hst
            refine runs_value (v := .tuple #[]) (w' := w.setRow g' (pre ++ ((vs.take (k * c0.sz) ++ zs) ++ rest)).toArray) ?_ ⟨_, hx', trivial, hm'⟩
            obtain ⟨d, hd⟩ : ∃ d, c0.n - k = d + 1 := ⟨c0.n - k - 1, by omega⟩
            rw [hd] at ha hzs
            simp [execOp, ho, resolve, hf, invoke, builtin, Builtin.clear_, ha, hu0, run_underlying hu, hzero, hzs, hst]
          · have hk : k = c0.n := by omega
            subst hk
            have hcz : c0.zer Ar.std c0.n = c0 := by
              cases c0 with
              | ints kk l => simp [Ct.zer, Ar.std, Ct.n]
              | recs s l => simp [Ct.zer, Ar.std, Ct.n]
            rw [Nat.sub_self] at ha
            have hsame : setAll st.heap [(n, .row bt (c0.zer Ar.std c0.n))] = hset st.heap n (.row bt c0) := by rw [hcz]; rfl
            obtain ⟨hx', hm'⟩ := alike_same (G := gg bs st ν w) hr.mem hb
            refine runs_value (v := .tuple #[]) (w' := w) ?_ ⟨ν, by rw [hsame]; exact hx', trivial, by rw [hsame]; exact hm'⟩
            cases A <;> simp [execOp, ho, resolve, hf, invoke, builtin, Builtin.clear_, ha, hu0, run_underlying hu]
        · cases h
      · cases h
    · cases h
  · cases h
theorem len_ok (hc : CxOk P cx) (hr : Rep bs gv st ν a w) {o : Oper} {c : Call} (ho : o.op = .call c) (hf : c.callee = .builtin .len) {t : Nat} {x : SC} (ht : c.argTypes.toList = [t]) (hv : sas (c.args.toList.map (evalE st)) = some [.one x])
    {E : Eff} (h : effLen Ar.std cx st.heap t (needs (c.args.toList.map (evalE st))) x = some E) (hs : E.side) : Runs P o a w (Res bs st ν w E) := by
  have arg : needs (c.args.toList.map (evalE st)) → ∃ v, c.args.map a.eval = #[v] ∧ x.is (gg bs st ν w) v := by
    intro hn
    have hvs := sas_is hr hv hn
    match hu' : c.args.toList.map a.eval, hvs with
    | [], hvs => exact hvs.elim
    | [v], ⟨h1, _⟩ =>
      refine ⟨v, ?_, h1⟩
      apply Array.ext'
      simpa using hu'
    | _ :: _ :: _, hvs => exact hvs.2.elim
  have ht' : c.argTypes = #[t] := by
    apply Array.ext'
    simpa using ht
  unfold effLen at h
  split at h
  · rename_i hl
    obtain ⟨hu, _, _⟩ := tiOf_slice (hc.tt _ _ hl)
    split at h
    · refine mk1_res hr.mem h (v := .int .i64 0) (fun hs => ?_) (fun hs => rfl) hs
      cases h
      obtain ⟨v, ha, hv⟩ := arg hs
      have e : v = .slice none 0 0 := hv
      subst e
      simp [execOp, ho, resolve, hf, invoke, builtin, Builtin.len_, ha, ht', run_underlying hu w, goInt]
    · split at h
      · rename_i ct hct
        refine mk1_res hr.mem h (v := .int .i64 ct.n) (fun hs => ?_) (fun hs => by show _ = Value.int .i64 (ct.len Ar.std); rw [Ct.len_n]) hs
        cases h
        obtain ⟨v, ha, hv⟩ := arg hs
        obtain ⟨A, cap, us, e, _⟩ := ctOf_holds (G := gg bs st ν w) hr.mem hct hv
        subst e
        simp [execOp, ho, resolve, hf, invoke, builtin, Builtin.len_, ha, ht', run_underlying hu w, goInt]
      · split at h
        · rename_i ct hct
          refine mk1_res hr.mem h (v := .int .i64 ct.n) (fun hs => ?_) (fun hs => by show _ = Value.int .i64 (ct.len Ar.std); rw [Ct.len_n]) hs
          cases h
          obtain ⟨v, ha, hv⟩ := arg hs
          obtain ⟨A, cap, us, e, _⟩ := rrCt_holds (G := gg bs st ν w) hr.mem hct hv
          subst e
          simp [execOp, ho, resolve, hf, invoke, builtin, Builtin.len_, ha, ht', run_underlying hu w, goInt]
        · cases h
  · rename_i hl
    have hu := tiOf_str (hc.tt _ _ hl)
    split at h
    · rename_i l
      refine mk1_res hr.mem h (v := .int .i64 l.length) (fun hs => ?_) (fun hs => rfl) hs
      cases h
      obtain ⟨v, ha, hv⟩ := arg hs
      obtain ⟨sb, e, hlen⟩ := hv
      subst e
      have : l.length = sb.size := by rw [← hlen]; simp [bytesL]
      simp [execOp, ho, resolve, hf, invoke, builtin, Builtin.len_, ha, ht', run_underlying hu w, goInt, this]
    · cases h
  · cases h
theorem min_is : ∀ {l : List SA} {us : List Value} {m : Int} {k : IntKind} {r : Int}, minmax Ar.std .lss m l k = some r → sasIs G l us → (us.foldlM Builtin.min2 (.int k m)).run P w = .ok (.int k r) w
  | [], [], m, k, r, h, _ => by
    cases h
    rfl
  | x :: l, u :: us, m, k, r, h, ⟨hx, hl⟩ => by
    unfold minmax at h
    split at h
    · rename_i heq; cases heq
    · rename_i heq
      cases heq
      split at h
      · rename_i k' b hb
        split at h
        · obtain rfl := kindEq_eq ‹_›
          have e := int?_is hb hx
          subst e
          have := min_is h hl
          simp only [List.foldlM_cons, Sem.run_bind, Builtin.min2, Sem.run_pure, Result.andThen_ok]
          rw [← this]
          simp [Ar.std, stdCmp]
        · cases h
      · cases h
    · cases h
theorem max_is : ∀ {l : List SA} {us : List Value} {m : Int} {k : IntKind} {r : Int}, minmax Ar.std .gtr m l k = some r → sasIs G l us → (us.foldlM Builtin.max2 (.int k m)).run P w = .ok (.int k r) w
  | [], [], m, k, r, h, _ => by
    cases h
    rfl
  | x :: l, u :: us, m, k, r, h, ⟨hx, hl⟩ => by
    unfold minmax at h
    split at h
    · rename_i heq; cases heq
    · rename_i heq
      cases heq
      split at h
      · rename_i k' b hb
        split at h
        · obtain rfl := kindEq_eq ‹_›
          have e := int?_is hb hx
          subst e
          have := max_is h hl
          simp only [List.foldlM_cons, Sem.run_bind, Builtin.max2, Sem.run_pure, Result.andThen_ok]
          rw [← this]
          simp [Ar.std, stdCmp]
        · cases h
      · cases h
    · cases h
end
end Go.Proofs.Ytakebkfhigadiaa.Ry
