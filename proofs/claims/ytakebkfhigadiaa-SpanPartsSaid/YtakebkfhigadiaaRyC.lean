/-
  The reckoner's rules hold in the model: blocks that are read and written. No condition.
-/
import Derived.Test.YtakebkfhigadiaaRyB
namespace Go.Proofs.Ytakebkfhigadiaa.Ry
open Go Go.RowKit

section
variable {P : Program} {cx : Cx} {bs : Bs} {gv : List Value} {st : St} {ν : Nat → Option (Nat × Nat)} {a : Act} {w : World} {G : Gm}

/-! ### One block -/
def one (G : Gm) (d : Nat) (k : Blk) (x : Option (Nat × Nat)) (w : World) : Gm := ⟨fun n => if n = d then x else G.o n, hset G.h d k, G.bs, w⟩
theorem mem_one (hm : Mem G) {d : Nat} {k' : Blk} {x : Option (Nat × Nat)} {w' : World}
    (hos : w'.os = G.w.os) (ht : w'.tape = G.w.tape) (hop : w'.output = G.w.output) (hsz : G.w.heap.size ≤ w'.heap.size)
    (hblock : ∀ b, b < G.w.heap.size → (∀ m, alive G.h d → G.o d ≠ some (b, m)) → w'.heap[b]? = G.w.heap[b]?)
    (hcell : alive G.h d → ∀ b m j, G.o d = some (b, m) → j < m → w'.cell? ⟨b, j, none⟩ = G.w.cell? ⟨b, j, none⟩)
    (hnew : ∀ b m, x = some (b, m) → b < w'.heap.size ∧ (G.w.heap.size ≤ b ∨ alive G.h d ∧ ∃ m0, G.o d = some (b, m0) ∧ m0 ≤ m))
    (hk : ∀ k, hget G.h d = some k → Sub G (one G d k' x w') → KExt G (one G d k' x w') d k k')
    (hb : Ext G (one G d k' x w') → BlkIs (one G d k' x w') d k') (hsh : Shp G.w w' := by exact Shp.refl _)
    (hsee : d < hidN ∨ (∃ b, hget G.h d = some b) := by first | exact .inl (by assumption) | exact .inr ⟨_, by assumption⟩) (hnr : ∀ i, ¬ k'.roomy i := by exact fun _ h => h) : Ext G (one G d k' x w') ∧ Mem (one G d k' x w') := by
  refine mem_step hm (fun n => n = d) rfl (fun n hn => ⟨hget_other _ _ (Ne.symm hn), by simp [one, hn]⟩) hos ht hop hsz (fun b hb h => hblock b hb fun m ha ho => h d m rfl ha ho) ?_ ?_ ?_ ?_ ?_ hsh (fun n e => e ▸ hsee) ?_
  · rintro n b m j rfl ha ho hj
    exact hcell ha b m j ho hj
  · rintro n rfl ha b m ho
    have ho : x = some (b, m) := by simpa [one] using ho
    obtain ⟨h1, h2⟩ := hnew b m ho
    refine ⟨h1, h2.imp id ?_⟩
    rintro ⟨a0, m0, h3, h4⟩
    exact ⟨n, m0, rfl, a0, h3, h4⟩
  · rintro n n' rfl rfl _ _ b m m' _ _
    rfl
  · rintro n rfl k hkk
    exact ⟨k', hget_self _ _ _, hk k hkk⟩
  · rintro n rfl k hkk hx
    rw [show hget (one G n k' x w').h n = some k' from hget_self _ _ _] at hkk
    cases hkk
    exact hb hx
  · rintro n rfl b i hkk
    rw [show hget (one G n k' x w').h n = some k' from hget_self _ _ _] at hkk
    cases hkk
    exact hnr i
theorem Mem.rowAt (hm : Mem G) {n g off : Nat} {t : TypeId} {c : Ct} (h : hget G.h n = some (.row t c)) (ho : G.o n = some (g, off)) : ∃ pre vs rest : List Value, pre.length = off ∧ G.w.heap[g]? = some (.cells (pre ++ (vs ++ rest)).toArray t (0, 0)) ∧ flatIs G c vs ∧ ∀ u ∈ vs, u.oneCell' = true := by
  rcases hm.blk n _ h with ⟨_, e⟩ | ⟨g', pre, vs, rest, e, h1, h2, h3⟩
  · rw [ho] at e
    cases e
  · rw [ho] at e
    cases e
    exact ⟨pre, vs, rest, rfl, h1, h2, h3⟩
theorem Mem.rrAt (hm : Mem G) {n g off : Nat} {t e : TypeId} {c : Ct} {q : Option Int} (h : hget G.h n = some (.rr t e c q)) (ho : G.o n = some (g, off)) : ∃ pre vs rest : List Value, pre.length = off ∧ G.w.heap[g]? = some (.cells (pre ++ (vs ++ rest)).toArray t (0, 0)) ∧ flatIs G c vs ∧ (∀ u ∈ vs, u.oneCell' = true) ∧ roomsIs G n e (isz c) q vs := by
  obtain ⟨_, hb⟩ := hm.blk n _ h
  rcases hb with ⟨_, e⟩ | ⟨g', pre, vs, rest, e, h1, h2, h3, h4⟩
  · rw [ho] at e
    cases e
  · rw [ho] at e
    cases e
    exact ⟨pre, vs, rest, rfl, h1, h2, h3, h4⟩
theorem Mem.rowAt0 (hm : Mem G) {n g : Nat} {t : TypeId} {c : Ct} (h : hget G.h n = some (.row t c)) (ho : G.o n = some (g, 0)) : ∃ vs rest : List Value, G.w.heap[g]? = some (.cells (vs ++ rest).toArray t (0, 0)) ∧ flatIs G c vs ∧ ∀ u ∈ vs, u.oneCell' = true := by
  obtain ⟨pre, vs, rest, h0, h1, h2⟩ := hm.rowAt h ho
  have : pre = [] := List.eq_nil_of_length_eq_zero h0
  subst this
  exact ⟨vs, rest, h1, h2⟩
/-- The world grows, and nothing of the names turns. -/
theorem mem_below (hm : Mem G) {w' : World} (hb : Below G.w.heap.size G.w w') : Ext G ⟨G.o, G.h, G.bs, w'⟩ ∧ Mem ⟨G.o, G.h, G.bs, w'⟩ :=
  mem_step hm (G' := ⟨G.o, G.h, G.bs, w'⟩) (fun _ => False) rfl (fun _ _ => ⟨rfl, rfl⟩) hb.os hb.tape hb.output hb.size (fun b h _ => hb.block b h) (fun _ _ _ _ h => h.elim) (fun _ h => h.elim) (fun _ _ h => h.elim) (fun _ h => h.elim) (fun _ h => h.elim) (shp_of fun b h => hb.block b h) (fun _ h => h.elim) (fun _ h => h.elim)
theorem freeAt_ok {h : H} {d : Nat} (e : freeAt h d = true) : hget h d = none := by
  unfold freeAt at e
  split at e
  · assumption
  · cases e
theorem freeAt_lt {h : H} {d : Nat} (e : freeAt h d = true) : d < hidN := by
  unfold freeAt at e
  split at e
  · have := lee_le e
    unfold hidN
    omega
  · cases e
theorem not_alive {h : H} {d : Nat} (e : hget h d = none) (hdl : d < hidN := by assumption) : ¬ alive h d := by
  rintro (⟨k, hk, _⟩ | hk)
  · rw [e] at hk
    cases hk
  · exact see_lt hdl hk
theorem alive_set {h : H} {d n : Nat} {k' : Blk} (hnr : ∀ i, ¬ k'.roomy i) (hn : n ≠ d) (ha : alive (hset h d k') n) : alive h n := by
  rcases ha with ⟨k, hk, hal⟩ | ⟨h1, k, i, b, rfl, h2, h3⟩
  · rw [hget_other _ _ (Ne.symm hn)] at hk
    exact .inl ⟨k, hk, hal⟩
  · rw [hget_other _ _ (Ne.symm hn)] at h1
    by_cases e : k = d
    · subst e
      rw [hget_self] at h2
      cases h2
      exact absurd h3 (hnr i)
    · rw [hget_other _ _ (Ne.symm e)] at h2
      exact .inr ⟨h1, k, i, b, rfl, h2, h3⟩
/-- A new block. -/
theorem mem_new (hm : Mem G) {d : Nat} (hd : hget G.h d = none) {k' : Blk} {x : Option (Nat × Nat)} {w' : World} (hb : Below G.w.heap.size G.w w') (hx : ∀ b m, x = some (b, m) → G.w.heap.size ≤ b ∧ b < w'.heap.size)
    (hk : Ext G (one G d k' x w') → BlkIs (one G d k' x w') d k') (hdl : d < hidN := by assumption) (hnr : ∀ i, ¬ k'.roomy i := by exact fun _ h => h) : Ext G (one G d k' x w') ∧ Mem (one G d k' x w') := by
  refine mem_one hm hb.os hb.tape hb.output hb.size (fun b h _ => hb.block b h) (fun h => absurd h (not_alive hd)) (fun b m h => ⟨(hx b m h).2, .inl (hx b m h).1⟩) (fun k h => by rw [hd] at h; cases h) hk (shp_of fun b h => hb.block b h) (.inl hdl) hnr
theorem below_alloc (w : World) (o : Obj) : Below w.heap.size w (w.alloc o) := (Below.refl _ _).alloc (Nat.le_refl _) o
/-- A write into a block that is one's own as a whole. -/
theorem mem_write (hm : Mem G) {d g off : Nat} {k0 k' : Blk} (hd : hget G.h d = some k0) (hal : k0.alive = true) (ho : G.o d = some (g, off)) {t : TypeId} {old : Array Value} (hg : G.w.heap[g]? = some (.cells old t (0, 0))) (cs : Array Value) (hcs : cs.size = old.size)
    (hk : Sub G (one G d k' (some (g, off)) (G.w.setRow g cs)) → KExt G (one G d k' (some (g, off)) (G.w.setRow g cs)) d k0 k') (hb : Ext G (one G d k' (some (g, off)) (G.w.setRow g cs)) → BlkIs (one G d k' (some (g, off)) (G.w.setRow g cs)) d k') (hpre : ∀ j, j < off → cs[j]? = old[j]? := by exact fun _ h => absurd h (Nat.not_lt_zero _)) (hnr : ∀ i, ¬ k'.roomy i := by exact fun _ h => h) :
    Ext G (one G d k' (some (g, off)) (G.w.setRow g cs)) ∧ Mem (one G d k' (some (g, off)) (G.w.setRow g cs)) := by
  have ha : alive G.h d := .inl ⟨_, hd, hal⟩
  refine mem_one hm (by simp) (by simp) (by simp) (by simp) (fun b hlt h => ?_) (fun _ b m j h hj => ?_) (fun b m h => ?_) (fun k h => ?_) hb (shp_row hg hcs) (.inr ⟨_, hd⟩) hnr
  · exact setRow_other _ _ _ _ fun e => h off ha (e ▸ ho)
  · rw [ho] at h
    cases h
    simp only [World.cell?, setRow_heap G.w g old cs t (0, 0) hg, hg]
    have := hpre j hj
    simpa using this
  · cases h
    exact ⟨by simpa using heap_lt hg, .inr ⟨ha, off, ho, Nat.le_refl _⟩⟩
  · rw [hd] at h
    cases h
    exact hk
theorem drop_pre {α : Type} (pre q : List α) (k : Nat) : (pre ++ q).drop (pre.length + k) = q.drop k := by
  rw [List.drop_append, List.drop_of_length_le (by omega), List.nil_append]
  congr 1
  omega
theorem take_pre {α : Type} (pre q : List α) (k : Nat) : (pre ++ q).take (pre.length + k) = pre ++ q.take k := by
  rw [List.take_append, List.take_of_length_le (by omega)]
  congr 2
  omega
theorem get_pre {α : Type} (pre q : List α) (k : Nat) : (pre ++ q)[pre.length + k]? = q[k]? := by
  rw [List.getElem?_append_right (by omega)]
  congr 1
  omega
/-- Cells in the midst of a block. -/
theorem drop_mid {α : Type} {pre vs rest : List α} {k n : Nat} (h : k + n ≤ vs.length) : ((pre ++ (vs ++ rest)).drop (pre.length + k)).take n = (vs.drop k).take n := by
  rw [drop_pre, List.drop_append_of_le_length (by omega), List.take_append_of_le_length (by rw [List.length_drop]; omega)]
theorem set_mid {α : Type} {pre vs rest us : List α} {k : Nat} (h : k + us.length ≤ vs.length) : (pre ++ (vs ++ rest)).take (pre.length + k) ++ us ++ (pre ++ (vs ++ rest)).drop (pre.length + k + us.length) = pre ++ ((vs.take k ++ us ++ vs.drop (k + us.length)) ++ rest) := by
  rw [Nat.add_assoc, take_pre, drop_pre, List.take_append_of_le_length (by omega), List.drop_append_of_le_length (by omega)]
  simp
theorem pre_same {pre q q' : List Value} {j : Nat} (h : j < pre.length) : ((pre ++ q).toArray)[j]? = ((pre ++ q').toArray)[j]? := by
  simp [List.getElem?_append, h]
theorem add_at (b off j : Nat) : (⟨b, off, none⟩ : Addr).add j = ⟨b, off + j, none⟩ := by
  unfold Addr.add
  split <;> simp_all
theorem get_lt {α : Type} {l : List α} {b : Nat} {k : α} (h : l[b]? = some k) : b < l.length := by
  rcases Nat.lt_or_ge b l.length with g | g
  · exact g
  · rw [List.getElem?_eq_none g] at h; cases h
theorem run_cells {g off : Nat} {t : TypeId} {vs : List Value} (hg : w.heap[g]? = some (.cells vs.toArray t (0, 0))) (n : Nat) (hn : off + n ≤ vs.length) :
    (loadCells ⟨g, off, none⟩ n).run P w = .ok ((vs.drop off).take n).toArray w := by
  have := run_loadCells_list (P := P) w ⟨g, off, none⟩ ((vs.drop off).take n) (fun j v hv => by
    rw [add_at]
    rw [List.getElem?_take] at hv
    split at hv
    · rw [List.getElem?_drop] at hv
      simp [World.cell?, hg, hv]
    · cases hv)
  rw [List.length_take, List.length_drop, Nat.min_eq_left (by omega)] at this
  exact this
theorem run_isAgg {t : TypeId} {d : TypeDesc} (hu : P.underlying t = some d) : (isAgg t).run P w = .ok (aggB P t) w := by
  unfold isAgg aggB
  simp only [Sem.run_bind, run_underlying hu w, Result.andThen_ok, hu]
  cases d <;> rfl
theorem cut_some {cs l : List SC} {off n : Nat} (h : cutCells cs off n = some l) : off + n ≤ cs.length ∧ l = (cs.drop off).take n := by
  unfold cutCells at h
  split at h
  · rename_i hb
    exact ⟨lee_le hb, by simpa [eq_comm] using h⟩
  · cases h
theorem cut_one {cs : List SC} {vs : List Value} {off : Nat} {c : SC} (hcut : cutCells cs off 1 = some [c]) (hcs : cellsIs G cs vs) : ∃ v, vs[off]? = some v ∧ c.is G v ∧ v.oneCell' = true := by
  obtain ⟨hle, hcc⟩ := cut_some hcut
  have hd := hcs.drop off
  have hlen := hcs.len
  have hlt : off < vs.length := by omega
  rw [List.drop_eq_getElem_cons hlt, List.drop_eq_getElem_cons (by omega)] at hd
  rw [List.drop_eq_getElem_cons (by omega)] at hcc
  simp only [List.take_succ_cons, List.take_zero, List.cons.injEq, and_true] at hcc
  rw [hcc]
  exact ⟨vs[off], by simp, hd.1.1, hd.1.2⟩
theorem flatIs.len {c : Ct} {us : List Value} (h : flatIs G c us) : us.length = c.n * c.sz := by
  cases c with
  | ints k l => have h : us = l.map (Value.int k) := h; subst h; simp [Ct.n, Ct.sz]
  | recs s l => exact h.1
/-- How many cells a type's array has. -/
theorem tiOf_cells {t : TypeId} {ti : TI} (h : tiOf P t = some ti) : ti.k.agg = true → ∃ i, P.info? t = some i ∧ i.size = ti.size := by
  intro _
  obtain ⟨i, z, d, hi, _, _, hs, _⟩ := tiOf_info h
  exact ⟨i, hi, hs.symm⟩
theorem Ct.len_n (c : Ct) : c.len Ar.std = (c.n : Int) := by cases c <;> rfl
theorem loadS_ok (hc : CxOk P cx) (hr : Rep bs gv st ν a w) {b off : Nat} {t : TypeId} {C : Prop} {x : SA} (h : loadS Ar.std cx (hget st.heap b) off t = some (C, x)) (hC : C) {v0 : Value} (hp : ptrAt (gg bs st ν w) b off v0) :
    ∃ g v, v0 = .pointer (some ⟨g, off, none⟩) ∧ (loadVar t ⟨g, off, none⟩).run P w = .ok v w ∧ x.is (gg bs st ν w) v := by
  unfold loadS at h
  split at h
  · rename_i ti bt bc hl hb
    obtain ⟨i, z, d, hi, _, hu, hsz, _, hag⟩ := tiOf_info (hc.tt _ _ hl)
    obtain ⟨g, vs, ho, hg, hcs⟩ := hr.mem.blk b _ hb
    unfold ptrAt at hp
    have hb' : hget (gg bs st ν w).h b = some (.cells bt bc) := hb
    rw [hb'] at hp
    obtain ⟨g', ho', rfl⟩ := hp
    rw [ho] at ho'
    cases ho'
    have hg : w.heap[g]? = some (.cells vs.toArray bt (0, 0)) := hg
    have hlen := hcs.len
    split at h
    · rename_i hk
      split at h
      · rename_i cs hcut
        cases h
        obtain ⟨hle, rfl⟩ := cut_some hcut
        refine ⟨g, .agg ((vs.drop off).take ti.size).toArray, rfl, ?_, _, rfl, (hcs.drop _).take _⟩
        have hrun := run_cells (P := P) (off := off) hg ti.size (by omega)
        simp [loadVar, run_isAgg (w := w) hu, hag, hk, sizeOf, typeInfo, hi, ← hsz, hrun]
      · cases h
    · rename_i hk
      split at h
      · rename_i c hcut
        cases h
        obtain ⟨v, hv1, hv2, _⟩ := cut_one hcut hcs
        refine ⟨g, v, rfl, ?_, hv2⟩
        have hcell : w.cell? ⟨g, off, none⟩ = some v := by simp [World.cell?, hg, hv1]
        simp [loadVar, run_isAgg (w := w) hu, hag, hk, hcell]
      · cases h
  · rename_i ti bt c hl hb
    obtain ⟨i, z, d, hi, _, hu, hsz, _, hag⟩ := tiOf_info (hc.tt _ _ hl)
    unfold ptrAt at hp
    have hb' : hget (gg bs st ν w).h b = some (.row bt c) := hb
    rw [hb'] at hp
    obtain ⟨g, ho, rfl⟩ := hp
    obtain ⟨vs, rest, hg, hf, h1⟩ := hr.mem.rowAt0 hb ho
    have hg : w.heap[g]? = some (.cells (vs ++ rest).toArray bt (0, 0)) := hg
    split at h
    · rename_i hk
      simp only [Bool.and_eq_true] at hk
      obtain ⟨k1, k2, k3⟩ := hk
      have k2 := eqn_eq k2
      have k3 := eqn_eq k3
      subst k3
      cases h
      have hlen := hf.len
      have k4 : c.n = ti.size := by
        have hC : decide (c.len Ar.std = (ti.size : Int)) = true := hC
        have := of_decide_eq_true hC
        rw [Ct.len_n] at this
        omega
      rw [k2, Nat.mul_one, k4] at hlen
      refine ⟨g, .agg vs.toArray, rfl, ?_, vs, rfl, hf, h1⟩
      have hrun := run_cells (P := P) (off := 0) hg ti.size (by simp; omega)
      have e : ((vs ++ rest).drop 0).take ti.size = vs := by
        rw [List.drop_zero, ← hlen, List.take_left']
        rfl
      rw [e] at hrun
      simp [loadVar, run_isAgg (w := w) hu, hag, k1, sizeOf, typeInfo, hi, ← hsz, hrun]
    · cases h
  · cases h
/-- An element's cells, by its kinds. -/
theorem shCells_is : ∀ (n : Nat) {s : Sh} {x : E} {j : Nat} {vs : List Value}, valsIs G s x j vs → (∀ u ∈ vs, u.oneCell' = true) → n ≤ s.size → cellsIs G (shCells Ar.std s x j n) (vs.take n)
  | 0, _, _, _, vs, _, _, _ => by simp [shCells, cellsIs]
  | n + 1, .nil, _, _, _, _, _, hn => by simp [Sh.size] at hn
  | n + 1, .int k r, x, j, _, ⟨us, e, h⟩, ho, hn => by
    subst e
    simp only [Sh.size] at hn
    exact ⟨⟨rfl, rfl⟩, shCells_is n h (fun u hu => ho u (List.mem_cons_of_mem _ hu)) (by omega)⟩
  | n + 1, .bool r, x, j, _, ⟨us, e, h⟩, ho, hn => by
    subst e
    simp only [Sh.size] at hn
    exact ⟨⟨rfl, rfl⟩, shCells_is n h (fun u hu => ho u (List.mem_cons_of_mem _ hu)) (by omega)⟩
  | n + 1, .str r, x, j, _, ⟨u, us, e, h1, h⟩, ho, hn => by
    subst e
    simp only [Sh.size] at hn
    exact ⟨⟨⟨u, rfl, h1⟩, rfl⟩, shCells_is n h (fun u hu => ho u (List.mem_cons_of_mem _ hu)) (by omega)⟩
  | n + 1, .ints k r, x, j, _, ⟨u, us, e, h1, h⟩, ho, hn => by
    subst e
    simp only [Sh.size] at hn
    exact ⟨⟨⟨h1, trivial⟩, ho u (List.mem_cons_self ..)⟩, shCells_is n h (fun u hu => ho u (List.mem_cons_of_mem _ hu)) (by omega)⟩
  | n + 1, .recs s r, x, j, _, ⟨u, us, e, h1, h⟩, ho, hn => by
    subst e
    simp only [Sh.size] at hn
    exact ⟨⟨⟨h1, trivial⟩, ho u (List.mem_cons_self ..)⟩, shCells_is n h (fun u hu => ho u (List.mem_cons_of_mem _ hu)) (by omega)⟩
theorem valsIs.len : ∀ {s : Sh} {x : E} {j : Nat} {vs : List Value}, valsIs G s x j vs → vs.length = s.size
  | .nil, _, _, _, h => by
    have h : _ = [] := h
    subst h
    rfl
  | .int _ _, _, _, _, ⟨us, e, h⟩ => by subst e; simp [Sh.size, valsIs.len h]
  | .bool _, _, _, _, ⟨us, e, h⟩ => by subst e; simp [Sh.size, valsIs.len h]
  | .str _, _, _, _, ⟨u, us, e, _, h⟩ => by subst e; simp [Sh.size, valsIs.len h]
  | .ints _ _, _, _, _, ⟨u, us, e, h1, h⟩ => by subst e; simp [Sh.size, valsIs.len h]
  | .recs _ _, _, _, _, ⟨u, us, e, h1, h⟩ => by subst e; simp [Sh.size, valsIs.len h]
theorem valsIs.drop : ∀ (n : Nat) {s : Sh} {x : E} {j : Nat} {vs : List Value}, valsIs G s x j vs → valsIs G (s.drop n) x (j + n) (vs.drop n)
  | 0, s, _, _, _, h => by cases s <;> exact h
  | n + 1, .nil, _, _, vs, h => by
    have h : vs = [] := h
    subst h
    rfl
  | n + 1, .int _ r, x, j, _, ⟨us, e, h⟩ => by subst e; have := valsIs.drop n h; rwa [Nat.add_assoc, Nat.add_comm 1] at this
  | n + 1, .bool r, x, j, _, ⟨us, e, h⟩ => by subst e; have := valsIs.drop n h; rwa [Nat.add_assoc, Nat.add_comm 1] at this
  | n + 1, .str r, x, j, _, ⟨u, us, e, _, h⟩ => by subst e; have := valsIs.drop n h; rwa [Nat.add_assoc, Nat.add_comm 1] at this
  | n + 1, .ints _ r, x, j, _, ⟨u, us, e, h1, h⟩ => by subst e; have := valsIs.drop n h; rwa [Nat.add_assoc, Nat.add_comm 1] at this
  | n + 1, .recs _ r, x, j, _, ⟨u, us, e, h1, h⟩ => by subst e; have := valsIs.drop n h; rwa [Nat.add_assoc, Nat.add_comm 1] at this
theorem Sh.drop_size : ∀ (n : Nat) (s : Sh), (s.drop n).size = s.size - n
  | 0, s => by cases s <;> rfl
  | n + 1, .nil => by simp [Sh.drop, Sh.size]
  | n + 1, .int _ r => by simp [Sh.drop, Sh.size, Sh.drop_size n r]
  | n + 1, .bool r => by simp [Sh.drop, Sh.size, Sh.drop_size n r]
  | n + 1, .str r => by simp [Sh.drop, Sh.size, Sh.drop_size n r]
  | n + 1, .ints _ r => by simp [Sh.drop, Sh.size, Sh.drop_size n r]
  | n + 1, .recs _ r => by simp [Sh.drop, Sh.size, Sh.drop_size n r]
theorem getD_at {α : Type} {l : List α} {d : α} {i : Int} (h1 : i.toNat < l.length) : l[i.toNat]? = some (l.getD i.toNat d) := by
  simp [h1]
theorem chunk_le {i n sz : Nat} (h : i < n) : i * sz + sz ≤ n * sz := by
  rw [← Nat.succ_mul]
  exact Nat.mul_le_mul_right _ h
theorem chunk_sub {α : Type} (l : List α) (p j n sz : Nat) (h : j + n ≤ sz) : (((l.drop p).take sz).drop j).take n = (l.drop (p + j)).take n := by
  rw [List.drop_take, List.drop_drop, List.take_take, Nat.min_eq_left (by omega)]
/-- Cells of an element of a row. -/
theorem at_is {c : Ct} {vs : List Value} (hf : flatIs G c vs) (h1 : ∀ u ∈ vs, u.oneCell' = true) {i : Int} (hi : i.toNat < c.n) {j n : Nat} (hn : j + n ≤ c.sz) :
    cellsIs G (c.at Ar.std i j n) ((vs.drop (i.toNat * c.sz + j)).take n) := by
  cases c with
  | ints k l =>
    have hf : vs = l.map (Value.int k) := hf
    subst hf
    have hi : i.toNat < l.length := hi
    have hn : j + n ≤ 1 := hn
    cases n with
    | zero => simp [Ct.at, cellsIs]
    | succ n =>
      have e1 : n = 0 := by omega
      have e2 : j = 0 := by omega
      subst e1 e2
      simp only [Ct.at, Ct.sz, Nat.mul_one, Nat.add_zero, Nat.zero_add]
      have hlt : i.toNat < (l.map (Value.int k)).length := by simpa using hi
      rw [List.drop_eq_getElem_cons hlt]
      simp only [List.take_succ_cons, List.take_zero]
      refine ⟨⟨?_, by simp [Value.oneCell']⟩, trivial⟩
      simp [SC.is, Ar.std, hi]
  | recs s l =>
    obtain ⟨hl, hv⟩ := hf
    have hi : i.toNat < l.length := hi
    have hn : j + n ≤ s.size := hn
    have h2 := (hv _ _ (getD_at (d := []) hi)).drop j
    rw [Nat.zero_add] at h2
    have h3 := shCells_is (G := G) n h2 (fun u hu => h1 u (List.mem_of_mem_drop (List.mem_of_mem_take (List.mem_of_mem_drop hu)))) (by rw [Sh.drop_size]; omega)
    rw [chunk_sub _ _ _ _ _ hn] at h3
    exact h3
theorem load_ok (hc : CxOk P cx) (hr : Rep bs gv st ν a w) {o : Oper} {t : TypeId} {x : Operand} (ho : o.op = .load t x) {E : Eff} (h : effLoad Ar.std cx st.heap t (evalE st x) = some E) (hs : E.side) : Runs P o a w (Res bs st ν w E) := by
  have hx := evalE_is hr x
  unfold effLoad at h
  split at h
  · rename_i g b off hex
    rw [hex] at hx
    split at h
    · rename_i C y hl
      cases h
      obtain ⟨gb, v, e, hrun, hv⟩ := loadS_ok hc hr hl hs.2 (hx.of hs.1).2
      refine runs_value (v := v) (w' := w) ?_ (res_pure hr.mem (e := ⟨none, _⟩) hv)
      simp [execOp, ho, e, Instr.loadAt, Instr.sureAddr, hrun]
    · cases h
  · rename_i g b i j hex
    rw [hex] at hx
    split at h
    · rename_i bt c ti hb hl
      obtain ⟨inf, z, d, hi, _, hu, hsz, _, hag⟩ := tiOf_info (hc.tt _ _ hl)
      have addr : need g → ∃ gb, ∃ pre vs rest : List Value, i.toNat < c.n ∧ a.eval x = .pointer (some ⟨gb, pre.length + (i.toNat * c.sz + j), none⟩) ∧ w.heap[gb]? = some (.cells (pre ++ (vs ++ rest)).toArray bt (0, 0)) ∧ flatIs (gg bs st ν w) c vs ∧ (∀ u ∈ vs, u.oneCell' = true) ∧ vs.length = c.n * c.sz := by
        intro hn
        have hp : rpAt (gg bs st ν w) b i j (a.eval x) := (hx.of hn).2
        unfold rpAt at hp
        have hb' : hget (gg bs st ν w).h b = some (.row bt c) := hb
        rw [hb'] at hp
        obtain ⟨gb, off, hob, h2, h3⟩ := hp
        obtain ⟨pre, vs, rest, h0, hg, hf, h1⟩ := hr.mem.rowAt hb hob
        subst h0
        exact ⟨gb, pre, vs, rest, h2.2, h3, hg, hf, h1, hf.len⟩
      split at h
      · rename_i hk
        split at h
        · rename_i hle
          have hle := lee_le hle
          cases h
          obtain ⟨gb, pre, vs, rest, h2, e, hg, hf, h1, hlen⟩ := addr hs
          have hc2 := chunk_le (sz := c.sz) h2
          refine runs_value (v := .agg ((vs.drop (i.toNat * c.sz + j)).take ti.size).toArray) (w' := w) ?_ (res_pure hr.mem (e := ⟨none, _⟩) ⟨_, rfl, at_is hf h1 h2 hle⟩)
          have hrun := run_cells (P := P) (off := pre.length + (i.toNat * c.sz + j)) hg ti.size (by simp; omega)
          rw [drop_mid (by omega)] at hrun
          simp [execOp, ho, e, Instr.loadAt, Instr.sureAddr, loadVar, run_isAgg (w := w) hu, hag, hk, sizeOf, typeInfo, hi, ← hsz, hrun]
        · cases h
      · rename_i hk
        split at h
        · rename_i y hn1 hy
          have hn1 := lee_le hn1
          unfold mk1 at h
          cases h
          obtain ⟨gb, pre, vs, rest, h2, e, hg, hf, h1, hlen⟩ := addr hs
          have hc2 := chunk_le (sz := c.sz) h2
          have h3 := at_is hf h1 h2 hn1
          rw [hy] at h3
          cases hq : (vs.drop (i.toNat * c.sz + j)).take 1 with
          | nil => rw [hq] at h3; exact h3.elim
          | cons u us =>
            rw [hq] at h3
            refine runs_value (v := u) (w' := w) ?_ (res_pure hr.mem (e := ⟨none, _⟩) h3.1.1)
            have hcell : w.cell? ⟨gb, pre.length + (i.toNat * c.sz + j), none⟩ = some u := by
              have h4 : vs[i.toNat * c.sz + j]? = some u := by
                have := congrArg (·[0]?) hq
                simpa using this
              have h5 : (pre ++ (vs ++ rest))[pre.length + (i.toNat * c.sz + j)]? = some u := by
                rw [get_pre, List.getElem?_append_left (get_lt h4)]
                exact h4
              simp only [World.cell?, hg]
              simpa using h5
            simp [execOp, ho, e, Instr.loadAt, Instr.sureAddr, loadVar, run_isAgg (w := w) hu, hag, hk, hcell]
        · cases h
    · cases h
  · rename_i g k n hex
    rw [hex] at hx
    split at h
    · rename_i ti hl
      obtain ⟨i, z, d, hi, _, hu, hsz, _, hag⟩ := tiOf_info (hc.tt _ _ hl)
      split at h
      · cases h
      · rename_i hk
        unfold mk1 at h
        cases h
        obtain ⟨b, off, e, hcell⟩ := hx.of hs
        refine runs_value (v := .int k n) (w' := w) ?_ (res_pure hr.mem (e := ⟨none, _⟩) rfl)
        have hcell : w.cell? ⟨b, off, none⟩ = some (.int k n) := hcell.cell
        simp [execOp, ho, e, Instr.loadAt, Instr.sureAddr, loadVar, run_isAgg (w := w) hu, hag, hk, hcell]
    · cases h
  · rename_i g n off hex
    rw [hex] at hx
    split at h
    · rename_i ti hl
      obtain ⟨i, z, d, hi, _, hu, hsz, _, hag⟩ := tiOf_info (hc.tt _ _ hl)
      split at h
      · cases h
      · rename_i hk
        unfold mk1 at h
        cases h
        obtain ⟨b, e, A, hcell, hp⟩ := hx.of hs
        refine runs_value (v := .pointer (some A)) (w' := w) ?_ (res_pure hr.mem (e := ⟨none, _⟩) ⟨⟨_, rfl⟩, hp⟩)
        have hcell : w.cell? ⟨b, 0, none⟩ = some (.pointer (some A)) := hcell.cell
        simp [execOp, ho, e, Instr.loadAt, Instr.sureAddr, loadVar, run_isAgg (w := w) hu, hag, hk, hcell]
    · cases h
  · rename_i g sh y j hex
    rw [hex] at hx
    split at h
    · rename_i ti hl
      obtain ⟨i, z, d, hi, _, hu, hsz, _, hag⟩ := tiOf_info (hc.tt _ _ hl)
      split at h
      · rename_i hk
        split at h
        · rename_i hle
          have hle := lee_le hle
          cases h
          obtain ⟨b, off, us, e, hv, hcells⟩ := hx.of hs
          have hone : ∀ u ∈ us, u.oneCell' = true := fun u hu => by
            obtain ⟨n, hn⟩ := List.mem_iff_getElem?.1 hu
            exact (hcells n u hn).one
          refine runs_value (v := .agg (us.take ti.size).toArray) (w' := w) ?_ (res_pure hr.mem (e := ⟨none, _⟩) ⟨_, rfl, shCells_is _ hv hone hle⟩)
          have hrun := run_loadCells_list (P := P) w ⟨b, off, none⟩ (us.take ti.size) (fun n v hn => by
            rw [add_at]
            rw [List.getElem?_take] at hn
            split at hn
            · exact (hcells n v hn).cell
            · cases hn)
          have hul := hv.len
          rw [List.length_take, Nat.min_eq_left (by omega)] at hrun
          simp [execOp, ho, e, Instr.loadAt, Instr.sureAddr, loadVar, run_isAgg (w := w) hu, hag, hk, sizeOf, typeInfo, hi, ← hsz, hrun]
        · cases h
      · rename_i hk
        split at h
        · rename_i c hcs
          unfold mk1 at h
          cases h
          obtain ⟨b, off, us, e, hv, hcells⟩ := hx.of hs
          have hone : ∀ u ∈ us, u.oneCell' = true := fun u hu => by
            obtain ⟨n, hn⟩ := List.mem_iff_getElem?.1 hu
            exact (hcells n u hn).one
          have hn : 1 ≤ sh.size := by cases sh <;> simp_all [shCells, Sh.size]
          have hc1 := shCells_is 1 hv hone hn
          rw [hcs] at hc1
          have hul := hv.len
          match us, hul, hc1, hcells with
          | [], hul, _, _ => simp at hul; omega
          | u :: us, _, hc1, hcells =>
            refine runs_value (v := u) (w' := w) ?_ (res_pure hr.mem (e := ⟨none, _⟩) hc1.1.1)
            have hcell : w.cell? ⟨b, off, none⟩ = some u := (hcells 0 u rfl).cell
            simp [execOp, ho, e, Instr.loadAt, Instr.sureAddr, loadVar, run_isAgg (w := w) hu, hag, hk, hcell]
        · cases h
    · cases h
  · cases h
theorem sa_cells {v : SA} {u : Value} (h : v.is G u) (hs : v.side) : cellsIs G v.cells u.cells.toList ∧ v.cells.length = u.cells.size := by
  cases v with
  | one c =>
    have h1 : u.oneCell' = true := by
      cases c with
      | any => exact hs.elim
      | val x => have e : u = x := h; subst e; exact hs
      | num k n => have e : u = .int k n := h; subst e; rfl
      | tf b => have e : u = .bool b := h; subst e; rfl
      | ptr n off => obtain ⟨⟨_, rfl⟩, _⟩ := h; rfl
      | fn g n => obtain ⟨⟨_, rfl⟩, _⟩ := h; rfl
      | cpp n off => obtain ⟨_, rfl, _⟩ := h; rfl
      | fnp g n off => obtain ⟨_, rfl, _⟩ := h; rfl
      | fn2 g n k => obtain ⟨_, _, rfl, _⟩ := h; rfl
      | vw n l => obtain ⟨⟨_, _, _, rfl⟩, _⟩ := h; rfl
      | str l => obtain ⟨_, rfl, _⟩ := h; rfl
      | sl tk c =>
        obtain ⟨h, _⟩ := h
        cases c with
        | ints k l => obtain ⟨_, _, rfl, _⟩ := h; rfl
        | recs s l => obtain ⟨_, _, rfl, _⟩ := h; rfl
      | nil1 => obtain ⟨_, _, _, rfl, _⟩ := h; rfl
      | own n => obtain ⟨⟨_, _, _, rfl⟩, _⟩ := h; rfl
      | mp n => obtain ⟨⟨_, rfl⟩, _⟩ := h; rfl
      | rp n i j => obtain ⟨⟨_, rfl⟩, _⟩ := h; rfl
      | rpi k n => obtain ⟨_, _, rfl, _⟩ := h; rfl
      | rpe s x j => obtain ⟨_, _, _, rfl, _⟩ := h; rfl
    have h2 : u.cells = #[u] := by cases u <;> first | rfl | (simp [Value.oneCell'] at h1)
    rw [h2]
    exact ⟨⟨⟨h, h1⟩, trivial⟩, rfl⟩
  | agg cs =>
    obtain ⟨vs, rfl, hc⟩ := h
    exact ⟨by simpa [Value.cells, SA.cells] using hc, by simpa [Value.cells, SA.cells] using hc.len⟩
  | blob c => exact hs.elim
/-! ### Cells that are written -/
theorem shEq_eq : ∀ {s s' : Sh}, shEq s s' = true → s' = s
  | .nil, .nil, _ => rfl
  | .int k r, .int k' r', h => by
    simp only [shEq, Bool.and_eq_true] at h
    rw [kindEq_eq h.1, shEq_eq h.2]
  | .bool r, .bool r', h => by
    simp only [shEq] at h
    rw [shEq_eq h]
  | .str r, .str r', h => by
    simp only [shEq] at h
    rw [shEq_eq h]
  | .ints k r, .ints k' r', h => by
    simp only [shEq, Bool.and_eq_true] at h
    rw [kindEq_eq h.1, shEq_eq h.2]
  | .recs s r, .recs s' r', h => by
    simp only [shEq, Bool.and_eq_true] at h
    rw [shEq_eq h.1, shEq_eq h.2]
theorem rowIs_nil {sz : Nat} {α : Type} {Q : α → List Value → Prop} : rowIs G sz Q [] (.slice none 0 0) := ⟨none, 0, rfl, Nat.le_refl _, by unfold maxLen; omega, fun h => absurd rfl h⟩
theorem toD_is {s r : Sh} {c : SC} {d : D} {u : Value} (h : toD s c = some (d, r)) (hc : c.is G u) (pre y : E) {us : List Value} (hr : valsIs G r (pre ++ d :: y) (pre.length + 1) us) : valsIs G s (pre ++ d :: y) pre.length (u :: us) := by
  unfold toD at h
  split at h
  · split at h
    · rename_i k n hi
      split at h
      · rename_i hk
        cases h
        rw [int?_is hi hc, kindEq_eq hk]
        exact ⟨us, by simp [ri], hr⟩
      · cases h
    · cases h
  · split at h
    · rename_i b hb
      cases h
      rw [bool?_is hb hc]
      exact ⟨us, by simp [rb], hr⟩
    · cases h
  · cases h
    obtain ⟨q, rfl, h2⟩ := hc
    exact ⟨q, us, rfl, by simp [rs, h2], hr⟩
  · split at h
    · rename_i hk
      cases h
      obtain ⟨h1, _⟩ := hc
      rw [kindEq_eq hk] at h1
      exact ⟨u, us, rfl, by simpa [rl, Ct.is] using h1, hr⟩
    · cases h
  · cases h
    have hc : u = .slice none 0 0 := hc
    subst hc
    exact ⟨_, us, rfl, by simpa [rl, intsIs] using @rowIs_nil G 1 Int _, hr⟩
  · split at h
    · rename_i hk
      cases h
      obtain ⟨h1, _⟩ := hc
      rw [shEq_eq hk] at h1
      exact ⟨u, us, rfl, by simpa [rr, Ct.is] using h1, hr⟩
    · cases h
  · cases h
    have hc : u = .slice none 0 0 := hc
    subst hc
    exact ⟨_, us, rfl, by simpa [rr] using rowIs_nil, hr⟩
  · cases h
theorem toE_is : ∀ {cs : List SC} {s : Sh} {us : List Value} {x : E}, toE s cs = some x → cellsIs G cs us → ∀ pre : E, valsIs G s (pre ++ x) pre.length us
  | [], s, [], x, h, _, pre => by
    cases s <;> simp [toE] at h
    subst h
    rfl
  | c :: cs, s, u :: us, x, h, ⟨⟨h1, _⟩, h2⟩, pre => by
    have key : ∀ {d : D} {r : Sh} {y : E}, toD s c = some (d, r) → toE r cs = some y → x = d :: y → valsIs G s (pre ++ x) pre.length (u :: us) := by
      rintro d r y hd hy rfl
      refine toD_is hd h1 pre y ?_
      have := toE_is hy h2 (pre ++ [d])
      simpa using this
    unfold toE at h
    split at h
    · rename_i heq; cases heq
    · rename_i heq
      cases heq
      split at h
      · rename_i d r hd
        split at h
        · rename_i y hy
          cases h
          exact key hd hy rfl
        · cases h
      · cases h
    · cases h
theorem paste_chunk {α : Type} (vs us : List α) (p j sz : Nat) (h : j + us.length ≤ sz) (hl : p + sz ≤ vs.length) :
    ((vs.take (p + j) ++ us ++ vs.drop (p + j + us.length)).drop p).take sz = ((vs.drop p).take sz).take j ++ us ++ ((vs.drop p).take sz).drop (j + us.length) := by
  apply List.ext_getElem
  · simp; omega
  · intro i h1 h2
    simp only [List.length_take, List.length_drop, List.length_append] at h1 h2
    simp only [List.getElem_take, List.getElem_drop, List.getElem_append, List.length_append, List.length_take, List.length_drop]
    repeat' split
    all_goals first | omega | skip
    all_goals (congr 1; try omega)
theorem paste_other {α : Type} (vs us : List α) (p j sz q : Nat) (h : j + us.length ≤ sz) (hl : p + sz ≤ vs.length) (hq : q + sz ≤ p ∨ p + sz ≤ q) (hl2 : q + sz ≤ vs.length) :
    ((vs.take (p + j) ++ us ++ vs.drop (p + j + us.length)).drop q).take sz = (vs.drop q).take sz := by
  apply List.ext_getElem
  · simp; omega
  · intro i h1 h2
    simp only [List.length_take, List.length_drop, List.length_append] at h1 h2
    simp only [List.getElem_take, List.getElem_drop, List.getElem_append, List.length_append, List.length_take]
    repeat' split
    all_goals first | omega | skip
    all_goals (congr 1; try omega)
theorem setCt_is {c c' : Ct} {i : Int} {j : Nat} {v : SA} {vs us : List Value} (h : setCt Ar.std c i j v = some c') (hf : flatIs G c vs) (h1 : ∀ u ∈ vs, u.oneCell' = true) (hi : i.toNat < c.n) (hj : j + v.cells.length ≤ c.sz) (hv : cellsIs G v.cells us) :
    flatIs G c' (vs.take (i.toNat * c.sz + j) ++ us ++ vs.drop (i.toNat * c.sz + j + us.length)) ∧ c'.sz = c.sz ∧ c'.n = c.n := by
  have hul := hv.len
  unfold setCt at h
  split at h
  · rename_i k l
    split at h
    · rename_i x
      split at h
      · rename_i k' n hx
        split at h
        · rename_i hk
          cases h
          obtain rfl := kindEq_eq hk
          have hf : vs = l.map (Value.int k') := hf
          subst hf
          have hi : i.toNat < l.length := hi
          have hj : j + 1 ≤ 1 := hj
          have e2 : j = 0 := by omega
          subst e2
          match us, hv with
          | [], hv => exact hv.elim
          | _ :: _ :: _, hv => exact hv.2.elim
          | [u], hv =>
            have e3 := int?_is hx hv.1.1
            subst e3
            refine ⟨?_, rfl, by simp [Ct.n, Ar.std]⟩
            show _ = (l.set i.toNat n).map (Value.int k')
            simp only [Ct.sz, Nat.mul_one, Nat.add_zero, List.length_singleton]
            rw [List.map_set, List.set_eq_take_append_cons_drop, if_pos (by simpa using hi)]
            simp
        · cases h
      · cases h
    · cases h
  · rename_i s l
    split at h
    · split at h
      · rename_i x hx
        cases h
        obtain ⟨hl, hq⟩ := hf
        have hi : i.toNat < l.length := hi
        have hj : j + v.cells.length ≤ s.size := hj
        have hcl := chunk_le (sz := s.size) hi
        have hch := hq _ _ (getD_at (d := []) hi)
        have hlen := hch.len
        have hsc := shCells_is (G := G) s.size hch (fun u hu => h1 u (List.mem_of_mem_drop (List.mem_of_mem_take hu))) (Nat.le_refl _)
        rw [List.take_of_length_le (by omega)] at hsc
        have hp := hsc.paste j hv
        rw [pasteV_eq _ _ _ (by omega)] at hp
        have hval := toE_is hx hp []
        simp only [List.nil_append, List.length_nil] at hval
        refine ⟨⟨?_, fun i' y hy => ?_⟩, rfl, by simp [Ct.n, Ar.std]⟩
        · simp [Ar.std, Ct.sz]
          omega
        · simp only [Ct.sz]
          have hy : (l.set i.toNat x)[i']? = some y := hy
          have hil : i' < l.length := by
            have := get_lt hy
            simpa using this
          have hcl' := chunk_le (sz := s.size) hil
          by_cases e : i.toNat = i'
          · subst e
            rw [List.getElem?_set_self hi] at hy
            cases hy
            rw [paste_chunk _ _ _ _ _ (by omega) (by omega)]
            exact hval
          · rw [List.getElem?_set_ne e] at hy
            rw [paste_other _ _ _ _ _ _ (by omega) (by omega) ?_ (by omega)]
            · exact hq i' y hy
            · rcases Nat.lt_or_ge i.toNat i' with g | g
              · have := chunk_le (sz := s.size) g
                omega
              · have := chunk_le (sz := s.size) (show i' < i.toNat by omega)
                omega
      · cases h
    · cases h
theorem setRow_at (w : World) (g : Nat) (cs old : Array Value) (t : TypeId) (hg : w.heap[g]? = some (.cells old t (0, 0))) : (w.setRow g cs).heap[g]? = some (.cells cs t (0, 0)) := setRow_heap _ _ _ _ _ _ hg
theorem store_ok (hc : CxOk P cx) (hr : Rep bs gv st ν a w) {o : Oper} {t : TypeId} {x y : Operand} (ho : o.op = .store t x y) {E : Eff} (h : effStore Ar.std cx st.heap t (evalE st x) (evalE st y) = some E) (hs : E.side) : Runs P o a w (Res bs st ν w E) := by
  have hx := evalE_is hr x
  have hy := evalE_is hr y
  unfold effStore at h
  split at h
  · rename_i g b off g' v ti hex hey hl
    rw [hex] at hx
    rw [hey] at hy
    obtain ⟨i, z, d, hi, _, hu, hsz, _, hag⟩ := tiOf_info (hc.tt _ _ hl)
    split at h
    · rename_i bt bc hb
      obtain ⟨gb, vs, hob, hg, hcs⟩ := hr.mem.blk b _ hb
      have hg : w.heap[gb]? = some (.cells vs.toArray bt (0, 0)) := hg
      have hlen := hcs.len
      split at h
      · rename_i hle
        cases h
        obtain ⟨n1, n2, n3⟩ := hs
        simp only [Bool.and_eq_true] at hle
        obtain ⟨l1, l2⟩ := hle
        have l1 := eqn_eq l1
        have l2 := lee_le l2
        obtain ⟨c1, c2⟩ := sa_cells (hy.of n2) n3
        have e : a.eval x = .pointer (some ⟨gb, off, none⟩) := by
          have hp : ptrAt (gg bs st ν w) b off (a.eval x) := (hx.of n1).2
          unfold ptrAt at hp
          have hb' : hget (gg bs st ν w).h b = some (.cells bt bc) := hb
          rw [hb'] at hp
          obtain ⟨g2, h2, h3⟩ := hp
          rw [hob] at h2
          cases h2
          exact h3
        generalize hu2 : a.eval y = u at *
        have hp := hcs.paste off c1
        have hn : off + u.cells.toList.length ≤ vs.length := by simp; omega
        rw [pasteV_eq _ _ _ hn] at hp
        obtain ⟨hx', hm'⟩ := mem_write (G := gg bs st ν w) (k' := .cells bt (pasteCells bc off v.cells)) hr.mem hb rfl hob hg (vs.take off ++ u.cells.toList ++ vs.drop (off + u.cells.toList.length)).toArray (by simp at hn ⊢; omega)
          (fun _ => by show (if b = b then some (gb, 0) else _) = _; rw [if_pos rfl]; exact hob.symm)
          (fun hx => ⟨gb, _, by simp [one], setRow_at _ _ _ _ _ hg, hp.ext hx⟩)
        refine runs_skip (w' := w.setRow gb (vs.take off ++ u.cells.toList ++ vs.drop (off + u.cells.toList.length)).toArray) ?_ ⟨_, hx', trivial, hm'⟩
        have hrun := run_storeCells_at (P := P) gb off bt u.cells.toList 0 vs.toArray w hg (by simp at hn ⊢; omega) c1.one
        have hsize : u.cells.size = i.size := by omega
        simp only [Nat.add_zero] at hrun
        simp only [execOp, ho, e, hu2, Instr.storeAt, Instr.sureAddr, storeVar, sizeOf, typeInfo, Sem.run_bind, Sem.run_pure, Result.andThen_ok, run_program, hi, ne_eq, hsize, not_true_eq_false, if_false, hrun]
      · cases h
    · rename_i bt c0 hb
      split at h
      · rename_i c
        split at h
        · rename_i hk
          simp only [Bool.and_eq_true] at hk
          have k1 := eqn_eq hk.1
          have k2 := eqn_eq hk.2.1
          have k3 := eqn_eq hk.2.2
          subst k3
          cases h
          obtain ⟨n1, n2, n3, n4⟩ := hs
          have n3 : c.n = ti.size := by
            have n3 : decide (c.len Ar.std = (ti.size : Int)) = true := n3
            have := of_decide_eq_true n3
            rw [Ct.len_n] at this
            omega
          have n4 : c0.n = ti.size := by
            have n4 : decide (c0.len Ar.std = (ti.size : Int)) = true := n4
            have := of_decide_eq_true n4
            rw [Ct.len_n] at this
            omega
          obtain ⟨gb, hob, e⟩ : ∃ gb, ν b = some (gb, 0) ∧ a.eval x = .pointer (some ⟨gb, 0, none⟩) := by
            have hp : ptrAt (gg bs st ν w) b 0 (a.eval x) := (hx.of n1).2
            unfold ptrAt at hp
            have hb' : hget (gg bs st ν w).h b = some (.row bt c0) := hb
            rw [hb'] at hp
            exact hp
          obtain ⟨vs, rest, hg, hf, h1⟩ := hr.mem.rowAt0 hb hob
          have hg : w.heap[gb]? = some (.cells (vs ++ rest).toArray bt (0, 0)) := hg
          obtain ⟨us, hu2, hf2, h12⟩ := hy.of n2
          have hl1 := hf.len
          have hl2 := hf2.len
          rw [k2, n4, Nat.mul_one] at hl1
          rw [k1, n3, Nat.mul_one] at hl2
          have hd : (vs ++ rest).drop us.length = rest := by
            rw [hl2, ← hl1, List.drop_left']
            rfl
          obtain ⟨hx', hm'⟩ := mem_write (G := gg bs st ν w) (k' := .row bt c) hr.mem hb rfl hob hg (us ++ rest).toArray (by simp; omega)
            (fun _ => ⟨by show (if b = b then some (gb, 0) else _) = _; rw [if_pos rfl]; exact hob.symm, by rw [k1, k2], by rw [n3, n4]⟩)
            (fun hx => .inr ⟨gb, [], us, rest, by simp [one], setRow_at _ _ _ _ _ hg, hf2.sub hx.toSub, h12⟩)
          refine runs_skip (w' := w.setRow gb (us ++ rest).toArray) ?_ ⟨_, hx', trivial, hm'⟩
          have hrun := run_storeCells_at (P := P) gb 0 bt us 0 (vs ++ rest).toArray w hg (by simp; omega) h12
          have hsize : us.length = i.size := by omega
          simp only [Nat.add_zero, Nat.zero_add, List.take_zero, List.nil_append] at hrun
          have hd' : (vs ++ rest).toArray.toList.drop us.length = rest := hd
          rw [hd'] at hrun
          simp only [execOp, ho, e, hu2, Instr.storeAt, Instr.sureAddr, storeVar, sizeOf, typeInfo, Sem.run_bind, Sem.run_pure, Result.andThen_ok, run_program, hi, Value.cells, List.size_toArray, ne_eq, hsize, not_true_eq_false, if_false, hrun]
        · cases h
      · cases h
    · cases h
  · rename_i g b i j g' v ti hex hey hl
    rw [hex] at hx
    rw [hey] at hy
    obtain ⟨inf, z, d, hi, _, hu, hsz, _, hag⟩ := tiOf_info (hc.tt _ _ hl)
    split at h
    · rename_i bt c hb
      split at h
      · rename_i hle
        simp only [Bool.and_eq_true] at hle
        obtain ⟨l1, l2⟩ := hle
        have l1 := eqn_eq l1
        have l2 := lee_le l2
        split at h
        · rename_i c' hset
          cases h
          obtain ⟨n1, n2, n3⟩ := hs
          obtain ⟨c1, c2⟩ := sa_cells (hy.of n2) n3
          obtain ⟨gb, off, hob, hin, e⟩ : ∃ gb off, ν b = some (gb, off) ∧ i.toNat < c.n ∧ a.eval x = .pointer (some ⟨gb, off + (i.toNat * c.sz + j), none⟩) := by
            have hp : rpAt (gg bs st ν w) b i j (a.eval x) := (hx.of n1).2
            unfold rpAt at hp
            have hb' : hget (gg bs st ν w).h b = some (.row bt c) := hb
            rw [hb'] at hp
            obtain ⟨g2, off, h2, h3, h4⟩ := hp
            exact ⟨g2, off, h2, h3.2, h4⟩
          obtain ⟨pre, vs, rest, h0, hg, hf, h1⟩ := hr.mem.rowAt hb hob
          subst h0
          have hg : w.heap[gb]? = some (.cells (pre ++ (vs ++ rest)).toArray bt (0, 0)) := hg
          have hlen := hf.len
          generalize hu2 : a.eval y = u at *
          have hc2 := chunk_le (sz := c.sz) hin
          obtain ⟨f1, f2, f3⟩ := setCt_is hset hf h1 hin (by omega) c1
          have hul : u.cells.toList.length = ti.size := by simp; omega
          have hpe := set_mid (pre := pre) (vs := vs) (rest := rest) (us := u.cells.toList) (k := i.toNat * c.sz + j) (by omega)
          obtain ⟨hx', hm'⟩ := mem_write (G := gg bs st ν w) (k' := .row bt c') hr.mem hb rfl hob hg (pre ++ ((vs.take (i.toNat * c.sz + j) ++ u.cells.toList ++ vs.drop (i.toNat * c.sz + j + u.cells.toList.length)) ++ rest)).toArray (by simp at hul ⊢; omega)
            (fun _ => ⟨by show (if b = b then some (gb, pre.length) else _) = _; rw [if_pos rfl]; exact hob.symm, f2, f3⟩)
            (fun hx => .inr ⟨gb, pre, _, rest, by simp [one], setRow_at _ _ _ _ _ hg, f1.sub hx.toSub, fun q hq => by
              rcases List.mem_append.1 hq with hq | hq
              · rcases List.mem_append.1 hq with hq | hq
                · exact h1 q (List.mem_of_mem_take hq)
                · exact c1.one q hq
              · exact h1 q (List.mem_of_mem_drop hq)⟩) (fun q hq => pre_same hq)
          refine runs_skip (w' := w.setRow gb (pre ++ ((vs.take (i.toNat * c.sz + j) ++ u.cells.toList ++ vs.drop (i.toNat * c.sz + j + u.cells.toList.length)) ++ rest)).toArray) ?_ ⟨_, hx', trivial, hm'⟩
          have hrun := run_storeCells_at (P := P) gb (pre.length + (i.toNat * c.sz + j)) bt u.cells.toList 0 (pre ++ (vs ++ rest)).toArray w hg (by simp at hul ⊢; omega) c1.one
          have hsize : u.cells.size = inf.size := by omega
          simp only [Nat.add_zero] at hrun
          rw [hpe] at hrun
          simp only [execOp, ho, e, hu2, Instr.storeAt, Instr.sureAddr, storeVar, sizeOf, typeInfo, Sem.run_bind, Sem.run_pure, Result.andThen_ok, run_program, hi, ne_eq, hsize, not_true_eq_false, if_false, hrun]
        · cases h
      · cases h
    · cases h
  · cases h
end
end Go.Proofs.Ytakebkfhigadiaa.Ry
