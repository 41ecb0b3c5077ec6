/-
  The reckoner's rules hold in the model: new blocks, parts, slices. No condition.
-/
import Derived.Test.YtakebkfhigadiaaRyC
namespace Go.Proofs.Ytakebkfhigadiaa.Ry
open Go Go.RowKit

section
variable {P : Program} {cx : Cx} {bs : Bs} {gv : List Value} {st : St} {ν : Nat → Option (Nat × Nat)} {a : Act} {w : World} {G : Gm}

/-! ### New blocks -/
theorem run_newRow (t : TypeId) (cs : Array Value) : (newRow t cs).run P w = .ok ⟨w.heap.size, 0, none⟩ (w.alloc (.cells cs t)) := by
  simp [newRow, newObj, Sem.run]
/-- A new block of cells that are known. -/
theorem new_cells (hm : Mem G) {d : Nat} (hd : hget G.h d = none) (t : TypeId) {cells : List SC} {vs : List Value} (hcs : cellsIs G cells vs) (hdl : d < hidN := by assumption) :
    Ext G (one G d (.cells t cells) (some (G.w.heap.size, 0)) (G.w.alloc (.cells vs.toArray t))) ∧ Mem (one G d (.cells t cells) (some (G.w.heap.size, 0)) (G.w.alloc (.cells vs.toArray t))) :=
  mem_new hm hd (below_alloc _ _) (fun b m h => by cases h; simp) fun hx => ⟨G.w.heap.size, vs, by simp [one], heap_alloc_new _ _, hcs.ext hx⟩
/-- A new row. -/
theorem new_row (hm : Mem G) {d : Nat} (hd : hget G.h d = none) (t : TypeId) {c : Ct} {vs rest : List Value} (hf : flatIs G c vs) (h1 : ∀ u ∈ vs, u.oneCell' = true) (hdl : d < hidN := by assumption) :
    Ext G (one G d (.row t c) (some (G.w.heap.size, 0)) (G.w.alloc (.cells (vs ++ rest).toArray t))) ∧ Mem (one G d (.row t c) (some (G.w.heap.size, 0)) (G.w.alloc (.cells (vs ++ rest).toArray t))) :=
  mem_new hm hd (below_alloc _ _) (fun b m h => by cases h; simp) fun hx => .inr ⟨G.w.heap.size, [], vs, rest, by simp [one], heap_alloc_new _ _, hf.sub hx.toSub, h1⟩
/-- A new block is at hand. -/
theorem new_at {d : Nat} {k : Blk} (hk : (∃ t cs, k = .cells t cs) ∨ ∃ t c, k = .row t c) {x : Nat} {w' : World} : (SC.ptr d 0).is (one G d k (some (x, 0)) w') (.pointer (some ⟨x, 0, none⟩)) := by
  refine ⟨⟨_, rfl⟩, ?_⟩
  unfold ptrAt
  rw [show hget (one G d k (some (x, 0)) w').h d = some k from hget_self _ _ _]
  rcases hk with ⟨t, cs, rfl⟩ | ⟨t, c, rfl⟩ <;> exact ⟨x, by simp [one], rfl⟩
theorem replicate_at {α : Type} {n i : Nat} {d x : α} (h : (List.replicate n d)[i]? = some x) : x = d := by
  rw [List.getElem?_replicate] at h
  split at h
  · exact (Option.some.inj h).symm
  · cases h
/-- Zeros of one kind, as a row. -/
theorem flat_zeros {z : List Value} {s : Sh} (h : flatOf z = some s) : flatIs G (flatCt Ar.std z.length s) z ∧ ∀ u ∈ z, u.oneCell' = true := by
  unfold flatOf at h
  cases z with
  | nil => cases h
  | cons v l =>
    simp only at h
    split at h
    · rename_i s' hs'
      split at h
      · rename_i hall
        cases h
        have hz := List.all_eq_true.1 hall
        have hs2 : (∃ k, s = .int k .nil) ∨ s = .bool .nil := by
          unfold zk at hs'
          split at hs' <;> first | (cases hs'; exact .inl ⟨_, rfl⟩) | (cases hs'; exact .inr rfl) | cases hs'
        generalize (v :: l) = z at hz
        rcases hs2 with ⟨k, rfl⟩ | rfl
        · have hz' : ∀ u ∈ z, u = .int k 0 := by
            intro u hu
            have := hz u hu
            unfold zIs at this
            split at this
            · rename_i k0 k1 n he
              cases he
              simp only [Bool.and_eq_true, beq_iff_eq] at this
              rw [kindEq_eq this.1, this.2]
            · rename_i he; cases he
            · cases this
          refine ⟨?_, fun u hu => by rw [hz' u hu]; rfl⟩
          show _ = (List.replicate (Int.toNat (z.length : Int)) (0 : Int)).map (Value.int k)
          rw [List.map_replicate, Int.toNat_natCast]
          exact List.eq_replicate_iff.2 ⟨rfl, hz'⟩
        · have hz' : ∀ u ∈ z, u = .bool false := by
            intro u hu
            have := hz u hu
            unfold zIs at this
            split at this
            · rename_i he; cases he
            · rename_i b he
              cases b
              · rfl
              · cases this
            · cases this
          refine ⟨⟨?_, fun i x hx => ?_⟩, fun u hu => by rw [hz' u hu]; rfl⟩
          · simp [Ar.std, Sh.size]
          · have hx : (List.replicate (Int.toNat (z.length : Int)) (Sh.zero (.bool .nil)))[i]? = some x := hx
            have hi := get_lt hx
            rw [List.length_replicate, Int.toNat_natCast] at hi
            have hx := replicate_at hx
            subst hx
            simp only [Sh.size, Nat.zero_add, Nat.mul_one]
            rw [List.drop_eq_getElem_cons hi]
            simp only [List.take_succ_cons, List.take_zero]
            rw [hz' _ (List.getElem_mem hi)]
            exact ⟨[], by simp [rb, Sh.zero], rfl⟩
      · cases h
    · cases h
theorem tiOf_flat {t : TypeId} {ti : TI} {s : Sh} (h : tiOf P t = some ti) (hf : ti.flat = some s) : flatOf ti.zero = some s := by
  unfold tiOf at h
  split at h
  · split at h
    · split at h
      · cases h; cases hf
      · cases h; cases hf
      · split at h
        · cases h; cases hf
        · cases h
      · split at h
        · cases h; exact hf
        · cases h
      · split at h
        · cases h; cases hf
        · cases h
      · cases h; cases hf
      · cases h; cases hf
      · rcases mapT_is h with ⟨e, _⟩ | e <;> (subst e; cases hf)
      · cases h; cases hf
      · cases h
    · cases h
  · cases h
theorem alloc_ok (hc : CxOk P cx) (hr : Rep bs gv st ν a w) {o : Oper} {u : Nat} {t : TypeId} (ho : o.op = .alloc t) {E : Eff} (h : effAlloc Ar.std cx st.heap u t = some E) (hs : E.side) : Runs P o a w (Res bs st ν w E) := by
  unfold effAlloc at h
  split at h
  · rename_i ti hl
    obtain ⟨i, z, dd, hi, hz, hu, hsz, hzz, _⟩ := tiOf_info (hc.tt _ _ hl)
    have he : z.cells = ti.zero.toArray := by rw [hzz]
    have hrun : (execOp a.eval o).run P w = .ok (.value (.pointer (some ⟨w.heap.size, 0, none⟩))) (w.alloc (.cells ti.zero.toArray t)) := by
      simp [execOp, ho, Instr.alloc, zeroValue, typeInfo, hi, hz, newVar, run_newRow, he]
    split at h
    · rename_i hfr
      have hd := freeAt_ok hfr
      have hdl := freeAt_lt hfr
      split at h
      · rename_i s hfl hsm
        cases h
        obtain ⟨f1, f2⟩ := flat_zeros (G := gg bs st ν w) (tiOf_flat (hc.tt _ _ hl) hfl)
        rw [hc.sz t ti hl] at f1
        obtain ⟨hx, hm⟩ := new_row (G := gg bs st ν w) (d := bid u) hr.mem hd t (rest := []) f1 f2
        rw [List.append_nil] at hx hm
        refine runs_value hrun ⟨_, hx, ?_, hm⟩
        exact new_at (.inr ⟨_, _, rfl⟩)
      · cases h
        have hz1 : cellsIs (gg bs st ν w) (ti.zero.map cellOf) ti.zero := zero_is hs
        obtain ⟨hx, hm⟩ := new_cells (G := gg bs st ν w) (d := bid u) hr.mem hd t hz1
        exact runs_value hrun ⟨_, hx, new_at (.inl ⟨_, _, rfl⟩), hm⟩
    · cases h
  · cases h
theorem box_ok (hr : Rep bs gv st ν a w) {o : Oper} {u : Nat} {t : TypeId} {x : Operand} (ho : o.op = .box t x) {E : Eff} (h : effBox st.heap u t (evalE st x) = some E) (hs : E.side) : Runs P o a w (Res bs st ν w E) := by
  have hx := evalE_is hr x
  have hrun : (execOp a.eval o).run P w = .ok (.value (.pointer (some ⟨w.heap.size, 0, none⟩))) (w.alloc (.cells (a.eval x).cells.toList.toArray t)) := by
    simp [execOp, ho, Instr.box, newVar, run_newRow]
  unfold effBox at h
  split at h
  · rename_i g v hex
    rw [hex] at hx
    split at h
    · rename_i hfr
      have hd := freeAt_ok hfr
      have hdl := freeAt_lt hfr
      split at h
      · cases h
        obtain ⟨us, e, hf, h1⟩ := hx.of hs
        obtain ⟨hx', hm⟩ := new_row (G := gg bs st ν w) (d := bid u) hr.mem hd t (rest := []) hf h1
        rw [List.append_nil] at hx' hm
        rw [e] at hrun
        exact runs_value hrun ⟨_, hx', new_at (.inr ⟨_, _, rfl⟩), hm⟩
      · cases h
        obtain ⟨c1, c2⟩ := sa_cells (hx.of hs.1) hs.2
        obtain ⟨hx', hm⟩ := new_cells (G := gg bs st ν w) (d := bid u) hr.mem hd t c1
        exact runs_value hrun ⟨_, hx', new_at (.inl ⟨_, _, rfl⟩), hm⟩
    · cases h
  · cases h

/-- The world grows; no name turns. -/
theorem mem_grow (hm : Mem G) {w' : World} (hb : Below G.w.heap.size G.w w') : Ext G ⟨G.o, G.h, G.bs, w'⟩ ∧ Mem ⟨G.o, G.h, G.bs, w'⟩ :=
  mem_step hm (G' := ⟨G.o, G.h, G.bs, w'⟩) (fun _ => False) rfl (fun _ _ => ⟨rfl, rfl⟩) hb.os hb.tape hb.output hb.size (fun b hlt _ => hb.block b hlt) (fun _ _ _ _ h => h.elim) (fun _ h => h.elim) (fun _ _ h => h.elim) (fun _ h => h.elim) (fun _ h => h.elim) (shp_of fun b h => hb.block b h) (fun _ h => h.elim) (fun _ h => h.elim)
theorem boxP_ok (hr : Rep bs gv st ν a w) {o : Oper} {t : TypeId} {x : Operand} (ho : o.op = .box t x) {E : Eff} (h : effBoxP (evalE st x) = some E) (hs : E.side) : Runs P o a w (Res bs st ν w E) := by
  have hx := evalE_is hr x
  have hrun : (execOp a.eval o).run P w = .ok (.value (.pointer (some ⟨w.heap.size, 0, none⟩))) (w.alloc (.cells (a.eval x).cells.toList.toArray t)) := by
    simp [execOp, ho, Instr.box, newVar, run_newRow]
  unfold effBoxP at h
  split at h
  · rename_i g n off hex
    rw [hex] at hx
    cases h
    obtain ⟨⟨A, e⟩, hp⟩ := hx.of hs
    rw [e] at hrun hp
    have hb := below_alloc w (.cells (Value.pointer (some A)).cells.toList.toArray t)
    obtain ⟨hx', hm'⟩ := mem_grow (G := gg bs st ν w) hr.mem hb
    refine runs_value hrun ⟨ν, hx', ⟨_, rfl, A, ⟨⟨heap_lt (heap_alloc_new w _), fun hlt => ?_, fun k hk g m ho' hg => ?_⟩, ?_, rfl⟩, ptrAt.ext hx' hp⟩, hm'⟩
    · have : bs.W.heap.size ≤ w.heap.size := hr.mem.size
      have hlt : w.heap.size < bs.W.heap.size := hlt
      omega
    · have : g < w.heap.size := (hr.mem.own k hk g m ho').1
      omega
    · simp only [World.cell?, heap_alloc_new]
      rfl
  · cases h

/-! ### Parts of structs and arrays -/
theorem fieldAddr_ok (hc : CxOk P cx) (hr : Rep bs gv st ν a w) {o : Oper} {t : TypeId} {x : Operand} {f : Nat} (ho : o.op = .fieldAddr t x f) {E : Eff} (h : effFieldAddr cx st.heap t f (evalE st x) = some E) (hs : E.side) : Runs P o a w (Res bs st ν w E) := by
  have hx := evalE_is hr x
  unfold effFieldAddr at h
  split at h
  · rename_i g c fs _ _ _ _ hex hl
    rw [hex] at hx
    split at h
    · rename_i of n _ _ hf
      split at h
      · cases h
      · rename_i hn
        have main0 : ∀ A : Addr, a.eval x = .pointer (some A) → (execOp a.eval o).run P w = .ok (.value (.pointer (some (A.add of)))) w := by
          intro A e
          obtain ⟨Fs, hu, _, hfs, _⟩ := tiOf_struct (hc.tt _ _ hl)
          rw [hfs, List.getElem?_map] at hf
          obtain ⟨F, hF, hFe⟩ := Option.map_eq_some_iff.1 hf
          simp only [Prod.mk.injEq] at hFe
          obtain ⟨e1, e2, _⟩ := hFe
          have hF' : Fs[f]? = some F := by simpa using hF
          have hn0 : P.cellsOf F.type ≠ 0 := fun e => no_beq hn (by rw [← e2, e])
          have hi : ∃ i, P.info? F.type = some i ∧ i.size ≠ 0 := by
            unfold Program.cellsOf at hn0
            cases hi : P.info? F.type with
            | none => simp [hi] at hn0
            | some i => exact ⟨i, rfl, by simpa [hi] using hn0⟩
          obtain ⟨i, hi, hi0⟩ := hi
          simp only [execOp, ho, e, Instr.fieldAt, Instr.sureAddr, Sem.run_bind, run_underlying hu w, Result.andThen_ok, hF', Sem.run_pure, fieldPlace, sizeOf, typeInfo, run_program, hi, hi0, if_false, e1]
        have main : ∀ b off, a.eval x = .pointer (some ⟨b, off, none⟩) → (execOp a.eval o).run P w = .ok (.value (.pointer (some ⟨b, off + of, none⟩))) w := fun b off e => by rw [main0 _ e, add_at]
        split at h
        · rename_i b off
          unfold mk1 at h
          cases h
          obtain ⟨⟨A, eA⟩, e⟩ := hx.of hs
          unfold ptrAt at e
          cases hh : hget st.heap b with
          | none => simp only [gg, hh] at e
          | some k =>
            cases k with
            | cells t cs =>
              simp only [gg, hh] at e
              obtain ⟨gb, h1, e⟩ := e
              refine runs_value (main _ _ e) (res_pure hr.mem (e := ⟨none, _⟩) ⟨⟨_, rfl⟩, ?_⟩)
              unfold ptrAt
              simp only [gg, hh]
              exact ⟨gb, h1, rfl⟩
            | row t cs =>
              simp only [gg, hh] at e
              obtain ⟨gb, h1, e⟩ := e
              refine runs_value (main _ _ e) (res_pure hr.mem (e := ⟨none, _⟩) ⟨⟨_, rfl⟩, ?_⟩)
              unfold ptrAt
              simp only [gg, hh]
              exact ⟨gb, h1, rfl⟩
            | frz c => exact runs_value (main0 _ eA) (res_pure hr.mem (e := ⟨none, _⟩) ⟨⟨_, rfl⟩, by unfold ptrAt; simp only [gg, hh]⟩)
            | dead => exact runs_value (main0 _ eA) (res_pure hr.mem (e := ⟨none, _⟩) ⟨⟨_, rfl⟩, by unfold ptrAt; simp only [gg, hh]⟩)
            | past _ _ _ => exact runs_value (main0 _ eA) (res_pure hr.mem (e := ⟨none, _⟩) ⟨⟨_, rfl⟩, by unfold ptrAt; simp only [gg, hh]⟩)
            | rr t => simp only [gg, hh] at e
            | emp t => simp only [gg, hh] at e
            | mp t => simp only [gg, hh] at e
            | tok => simp only [gg, hh] at e
        · rename_i b i j
          split at h
          · rename_i hb
            unfold hasR at hb
            split at hb
            · rename_i bt c hh
              unfold mk1 at h
              cases h
              have e : rpAt (gg bs st ν w) b i j (a.eval x) := (hx.of hs).2
              unfold rpAt at e
              simp only [gg, hh] at e
              obtain ⟨gb, go, e1, e2, e3⟩ := e
              refine runs_value (main _ _ e3) (res_pure hr.mem (e := ⟨none, _⟩) ⟨⟨_, rfl⟩, ?_⟩)
              unfold rpAt
              simp only [gg, hh]
              exact ⟨gb, go, e1, e2, by rw [Nat.add_assoc, Nat.add_assoc]⟩
            · rename_i hh
              unfold mk1 at h
              cases h
              have e : rpAt (gg bs st ν w) b i j (a.eval x) := (hx.of hs).2
              unfold rpAt at e
              simp only [gg, hh] at e
              obtain ⟨gb, go, e1, e2, e3⟩ := e
              refine runs_value (main _ _ e3) (res_pure hr.mem (e := ⟨none, _⟩) ⟨⟨_, rfl⟩, ?_⟩)
              unfold rpAt
              simp only [gg, hh]
              exact ⟨gb, go, e1, e2, by rw [Nat.add_assoc, Nat.add_assoc]⟩
            · cases hb
          · cases h
        · rename_i sh y j
          unfold mk1 at h
          cases h
          obtain ⟨b, off, us, e, hv, hcells⟩ := hx.of hs
          refine runs_value (main _ _ e) (res_pure hr.mem (e := ⟨none, _⟩) ⟨b, off + of, us.drop of, rfl, hv.drop of, fun i u hu => ?_⟩)
          rw [List.getElem?_drop] at hu
          rw [Nat.add_assoc]
          exact hcells _ u hu
        · cases h
    · cases h
  · cases h
theorem info_of {t : TypeId} {d : TypeDesc} (hd : P.underlying t = some d) : ∃ i, P.info? t = some i := by
  unfold Program.underlying at hd
  cases hi : P.info? t with
  | none => simp [hi] at hd
  | some i => exact ⟨i, rfl⟩
theorem field_ok (hc : CxOk P cx) (hr : Rep bs gv st ν a w) {o : Oper} {t : TypeId} {x : Operand} {f : Nat} (ho : o.op = .field t x f) {E : Eff} (h : effField cx t f (evalE st x) = some E) (hs : E.side) : Runs P o a w (Res bs st ν w E) := by
  have hx := evalE_is hr x
  unfold effField at h
  split at h
  · rename_i g cs fs _ _ _ _ hex hl
    rw [hex] at hx
    obtain ⟨Fs, hu, hsome, hfs, _⟩ := tiOf_struct (hc.tt _ _ hl)
    have hF : ∀ of n g4 k, fs[f]? = some (of, n, g4, k) → ∃ F d, Fs[f]? = some F ∧ P.underlying F.type = some d ∧ F.offset = of ∧ P.cellsOf F.type = n ∧ aggB P F.type = g4 := by
      intro of n g4 k hf
      rw [hfs, List.getElem?_map] at hf
      obtain ⟨F, hF, hFe⟩ := Option.map_eq_some_iff.1 hf
      simp only [Prod.mk.injEq] at hFe
      obtain ⟨e1, e2, e3, _⟩ := hFe
      have hd := hsome F (List.mem_of_getElem? hF)
      obtain ⟨d, hd⟩ := Option.isSome_iff_exists.1 hd
      exact ⟨F, d, by simpa using hF, hd, e1, e2, e3⟩
    split at h
    · rename_i of n _ hf
      obtain ⟨F, d, hF', hd, e1, e2, e3⟩ := hF _ _ _ _ hf
      split at h
      · rename_i l hcut
        cases h
        obtain ⟨hle, rfl⟩ := cut_some hcut
        obtain ⟨vs, e, hcs⟩ := hx.of hs
        refine runs_value (v := .agg ((vs.drop of).take n).toArray) (w' := w) ?_ (res_pure hr.mem (e := ⟨none, _⟩) ⟨_, rfl, (hcs.drop _).take _⟩)
        obtain ⟨i, hi⟩ := info_of hd
        have hin : i.size = n := by rw [← e2]; simp [Program.cellsOf, hi]
        have hex : vs.toArray.extract of (of + n) = ((vs.drop of).take n).toArray := by
          apply Array.ext'
          simp [List.extract_eq_take_drop]
        simp only [execOp, ho, e, Instr.field, Sem.run_bind, run_underlying hu w, Result.andThen_ok, hF', asAgg, Sem.run_pure, part, run_isAgg (w := w) hd, e3, if_true, sizeOf, typeInfo, run_program, hi, e1, hin, hex]
      · cases h
    · rename_i of n _ hf
      obtain ⟨F, d, hF', hd, e1, e2, e3⟩ := hF _ _ _ _ hf
      split at h
      · rename_i c hcut
        unfold mk1 at h
        cases h
        obtain ⟨vs, e, hcs⟩ := hx.of hs
        obtain ⟨v, hv1, hv2, _⟩ := cut_one hcut hcs
        refine runs_value (v := v) (w' := w) ?_ (res_pure hr.mem (e := ⟨none, _⟩) hv2)
        have hv1' : vs.toArray[of]? = some v := by simpa using hv1
        simp only [execOp, ho, e, Instr.field, Sem.run_bind, run_underlying hu w, Result.andThen_ok, hF', asAgg, Sem.run_pure, part, run_isAgg (w := w) hd, e3, Bool.false_eq_true, if_false, e1, hv1']
      · cases h
    · cases h
  · cases h
/-! ### What slices hold, and cells one behind the other -/
theorem rowIs.flat {sz : Nat} {α : Type} {Q : α → List Value → Prop} {l : List α} {v : Value} (h : rowIs G sz Q l v) : ∃ A c, v = .slice A l.length c ∧ l.length ≤ c ∧ c ≤ maxLen ∧ ∃ row : List Value, row.length = l.length * sz ∧ (∀ i x, l[i]? = some x → Q x ((row.drop (i * sz)).take sz)) ∧
    (l ≠ [] → ∃ b o, A = some ⟨b, o, none⟩ ∧ ∀ j u, row[j]? = some u → cellAt G b (o + j) u) := by
  obtain ⟨A, c, h1, h2, h3, h4⟩ := h
  refine ⟨A, c, h1, h2, h3, ?_⟩
  by_cases hl : l = []
  · subst hl
    exact ⟨[], by simp, fun i x hx => by simp at hx, fun h => absurd rfl h⟩
  · obtain ⟨b, o, hA, hc⟩ := h4 hl
    have key : ∀ (k : Nat), k ≤ l.length → ∃ row : List Value, row.length = k * sz ∧ (∀ i x, i < k → l[i]? = some x → Q x ((row.drop (i * sz)).take sz)) ∧ ∀ j u, row[j]? = some u → cellAt G b (o + j) u := by
      intro k
      induction k with
      | zero => exact fun _ => ⟨[], by simp, fun i x hi => by omega, fun j u hu => by simp at hu⟩
      | succ k ih =>
        intro hk
        obtain ⟨row, r1, r2, r3⟩ := ih (by omega)
        obtain ⟨us, u1, u2, u3⟩ := hc k _ (List.getElem?_eq_getElem (by omega))
        refine ⟨row ++ us, by simp [r1, u1, Nat.succ_mul], fun i x hi hx => ?_, fun j u hu => ?_⟩
        · rcases Nat.lt_or_ge i k with hik | hik
          · have hle : i * sz + sz ≤ row.length := by
              rw [r1, ← Nat.succ_mul]
              exact Nat.mul_le_mul_right _ hik
            rw [List.drop_append_of_le_length (by omega), List.take_append_of_le_length (by simp; omega)]
            exact r2 i x hik hx
          · have : i = k := by omega
            subst this
            rw [← r1, List.drop_left, List.take_of_length_le (by omega)]
            rw [List.getElem?_eq_getElem (by omega)] at hx
            cases hx
            exact u2
        · rcases Nat.lt_or_ge j row.length with hj | hj
          · rw [List.getElem?_append_left hj] at hu
            exact r3 j u hu
          · rw [List.getElem?_append_right hj] at hu
            have := u3 _ u hu
            rw [← r1] at this
            have e : o + row.length + (j - row.length) = o + j := by omega
            rw [e] at this
            exact this
    obtain ⟨row, r1, r2, r3⟩ := key l.length (Nat.le_refl _)
    refine ⟨row, r1, fun i x hx => r2 i x (get_lt hx) hx, fun _ => ⟨b, o, hA, r3⟩⟩
/-- The cells of a slice, one behind the other. -/
theorem flat_of_is {c : Ct} {v : Value} (h : c.is G v) : ∃ A cap us, v = .slice A c.n cap ∧ c.n ≤ cap ∧ cap ≤ maxLen ∧ flatIs G c us ∧ (∀ u ∈ us, u.oneCell' = true) ∧ (c.n ≠ 0 → ∃ g o, A = some ⟨g, o, none⟩ ∧ ∀ j u, us[j]? = some u → cellAt G g (o + j) u) := by
  have main : ∀ {sz : Nat} {α : Type} {Q : α → List Value → Prop} {l : List α}, rowIs G sz Q l v → ∃ A cap, ∃ us : List Value, v = .slice A l.length cap ∧ l.length ≤ cap ∧ cap ≤ maxLen ∧ (us.length = l.length * sz ∧ ∀ i x, l[i]? = some x → Q x ((us.drop (i * sz)).take sz)) ∧ (∀ u ∈ us, u.oneCell' = true) ∧ (l.length ≠ 0 → ∃ g o, A = some ⟨g, o, none⟩ ∧ ∀ j u, us[j]? = some u → cellAt G g (o + j) u) := by
    intro sz α Q l h
    obtain ⟨A, cap, h1, h2, h3, us, h4, h5, h6⟩ := h.flat
    refine ⟨A, cap, us, h1, h2, h3, ⟨h4, h5⟩, fun u hu => ?_, fun hn => h6 (by rintro rfl; exact hn rfl)⟩
    obtain ⟨j, hj⟩ := List.mem_iff_getElem?.1 hu
    by_cases hl : l = []
    · subst hl
      simp at h4
      subst h4
      cases hu
    · obtain ⟨b, o, _, hc⟩ := h6 hl
      exact (hc j u hj).one
  cases c with
  | ints k l =>
    obtain ⟨A, cap, us, h1, h2, h3, ⟨h4, h5⟩, h6, h7⟩ := main h
    refine ⟨A, cap, us, h1, h2, h3, ?_, h6, h7⟩
    show us = l.map (Value.int k)
    apply List.ext_getElem (by simp [h4])
    intro i hi1 hi2
    have hi : i < l.length := by simpa using hi2
    have := h5 i _ (List.getElem?_eq_getElem hi)
    rw [Nat.mul_one, List.drop_eq_getElem_cons hi1] at this
    simp only [List.take_succ_cons, List.take_zero, List.cons.injEq, and_true] at this
    rw [this]
    simp
  | recs s l => exact main h
/-- Cells one behind the other, as a slice. -/
theorem is_of_flat {c : Ct} {us : List Value} {g o cap : Nat} (hf : flatIs G c us) (hcell : ∀ j u, us[j]? = some u → cellAt G g (o + j) u) (h1 : c.n ≤ cap) (h2 : cap ≤ maxLen) : c.is G (.slice (some ⟨g, o, none⟩) c.n cap) := by
  cases c with
  | ints k l =>
    have hf : us = l.map (Value.int k) := hf
    subst hf
    refine ⟨_, cap, rfl, h1, h2, fun _ => ⟨g, o, rfl, fun i x hx => ⟨[.int k x], rfl, rfl, fun j u hu => ?_⟩⟩⟩
    cases j with
    | zero =>
      simp at hu
      subst hu
      rw [Nat.mul_one]
      exact hcell i _ (by rw [List.getElem?_map, hx]; rfl)
    | succ j => simp at hu
  | recs s l =>
    obtain ⟨hl, hv⟩ := hf
    refine ⟨_, cap, rfl, h1, h2, fun _ => ⟨g, o, rfl, fun i x hx => ?_⟩⟩
    have hle := chunk_le (sz := s.size) (get_lt hx)
    refine ⟨_, ?_, hv i x hx, fun j u hu => ?_⟩
    · simp
      omega
    · rw [List.getElem?_take] at hu
      split at hu
      · rw [List.getElem?_drop] at hu
        rw [Nat.add_assoc]
        exact hcell _ u hu
      · cases hu
theorem Ct.len_is {c : Ct} {v : Value} (h : c.is G v) : ∃ A cap, v = .slice A c.n cap ∧ c.n ≤ cap ∧ cap ≤ maxLen := by
  obtain ⟨A, cap, _, h1, h2, h3, _⟩ := flat_of_is h
  exact ⟨A, cap, h1, h2, h3⟩
/-- Cells of a block that is one's own no more. -/
theorem ok_of (hm : Mem G) {n g m : Nat} (ha : alive G.h n) (ho : G.o n = some (g, m)) {G' : Gm} (hw : G.w.heap.size ≤ G'.w.heap.size) (hbs : G'.bs = G.bs) (hown : ∀ n', alive G'.h n' → ∀ m', G'.o n' = some (g, m') → False) (j : Nat) : G'.ok g j := by
  obtain ⟨h1, h2⟩ := hm.own n ha g m ho
  refine ⟨Nat.lt_of_lt_of_le h1 hw, fun hlt => ?_, fun n' ha' g' m' ho' e => ?_⟩
  · rw [hbs] at hlt ⊢
    rcases h2 with h2 | ⟨h2, _⟩
    · omega
    · exact .inr h2
  · subst e
    exact (hown n' ha' m' ho').elim
theorem nil_is {c : Ct} (h : c.n = 0) {A : Option Addr} : c.is G (.slice A 0 0) := by
  cases c with
  | ints k l =>
    have : l = [] := List.eq_nil_of_length_eq_zero h
    subst this
    exact ⟨A, 0, rfl, Nat.le_refl _, by unfold maxLen; omega, fun h => absurd rfl h⟩
  | recs s l =>
    have : l = [] := List.eq_nil_of_length_eq_zero h
    subst this
    exact ⟨A, 0, rfl, Nat.le_refl _, by unfold maxLen; omega, fun h => absurd rfl h⟩
/-- A row stops being one's own. -/
theorem mem_frz1 (hm : Mem G) {n : Nat} {c : Ct} (h : (∃ t, hget G.h n = some (.row t c)) ∨ hget G.h n = some (.frz c)) : Ext G (one G n (.frz c) none G.w) ∧ Mem (one G n (.frz c) none G.w) := by
  refine mem_one hm rfl rfl rfl (Nat.le_refl _) (fun _ _ _ => rfl) (fun _ _ _ _ _ _ => rfl) (fun b m h => by cases h) (fun k hk hs => ?_) (fun _ => trivial) (Shp.refl _) (.inr (h.elim (fun ⟨_, h⟩ => ⟨_, h⟩) fun h => ⟨_, h⟩))
  rcases h with ⟨t, h⟩ | h
  · rw [h] at hk
    cases hk
    rintro v (⟨h0, _, A0, rfl⟩ | ⟨g, off, cap, _, _, h1, rfl, h2, h3, _⟩)
    · exact nil_is h0
    obtain ⟨pre, vs, rest, h0, e2, e3, e4⟩ := hm.rowAt h h1
    subst h0
    have ha : alive G.h n := .inl ⟨_, h, rfl⟩
    have hok : ∀ j, (one G n (.frz c) none G.w).ok g j := ok_of hm ha h1 (G' := one G n (.frz c) none G.w) (Nat.le_refl _) rfl (by
      intro n' ha' m' ho'
      by_cases e : n' = n
      · subst e
        simp [one] at ho'
      · have ha2 : alive G.h n' := alive_set (k' := .frz c) (fun _ h => h) e ha'
        have ho2 : G.o n' = some (g, m') := by simpa [one, e] using ho'
        exact e (hm.inj n' n ha2 ha g m' _ ho2 h1))
    refine is_of_flat (e3.sub hs) (fun j u hu => ⟨hok _, ?_, e4 u (List.mem_of_getElem? hu)⟩) h2 h3
    show G.w.cell? ⟨g, pre.length + j, none⟩ = some u
    simp only [World.cell?, e2]
    have : (pre ++ (vs ++ rest))[pre.length + j]? = some u := by rw [get_pre, List.getElem?_append_left (get_lt hu)]; exact hu
    simpa using this
  · rw [h] at hk
    cases hk
    rfl
theorem Ext.trans {A B C : Gm} (x : Ext A B) (y : Ext B C) : Ext A C := by
  refine ⟨x.toSub.trans y.toSub, fun n k hk => ?_⟩
  obtain ⟨k1, h1, e1⟩ := x.ids n k hk
  obtain ⟨k2, h2, e2⟩ := y.ids n k1 h1
  refine ⟨k2, h2, ?_⟩
  cases k2 with
  | dead => trivial
  | frz c2 => cases k1 with
    | frz c1 =>
      have e2 : c2 = c1 := e2
      subst e2
      cases k with
      | frz c => exact e1
      | row t c => exact fun v hv => Ct.is.sub y.toSub (e1 v hv)
      | rr t e c q => exact fun v hv => Ct.is.sub y.toSub (e1 v hv)
      | _ => exact e1.elim
    | rr t9 e9 c1 q9 => cases k with
      | rr t0 e0 c q0 =>
        obtain ⟨g1, g2, g3⟩ := e1
        exact fun v hv => e2 v (hv.ext g1 g2 g3 x.shp)
      | _ => exact e1.elim
    | row t c1 => cases k with
      | row t0 c =>
        obtain ⟨g1, g2, g3⟩ := e1
        refine fun v hv => e2 v ?_
        rcases hv with ⟨q0, q1, q2⟩ | ⟨g, off, cap, t9, k9, q1, q2, q3, q4, q5, q6⟩
        · exact .inl ⟨g3.trans q0, g1.trans q1, q2⟩
        · exact .inr ⟨g, off, cap, t9, k9, g1.trans q1, by rw [q2, g3], by rw [g3]; exact q3, q4, x.shp _ _ q5, by rw [g2]; exact q6⟩
      | _ => exact e1.elim
    | _ => exact e2.elim
  | past d2 sz2 q2 => cases k1 with
    | past d1 sz1 q1 =>
      obtain ⟨rfl, rfl, rfl⟩ := e2
      cases k with
      | past d sz q => exact e1
      | row t c => exact fun v hv => (e1 v hv).ext y
      | _ => exact e1.elim
    | row t c1 => cases k with
      | row t0 c =>
        obtain ⟨g1, g2, g3⟩ := e1
        exact fun v hv => e2 v (hv.ext g1 g2 g3 x.shp)
      | _ => exact e1.elim
    | _ => exact e2.elim
  | row t c2 => cases k1 with
    | row t1 c1 => cases k with
      | row t0 c =>
        obtain ⟨g1, g2, g3⟩ := e1
        obtain ⟨f1, f2, f3⟩ := e2
        exact ⟨f1.trans g1, f2.trans g2, f3.trans g3⟩
      | _ => exact e1.elim
    | _ => exact e2.elim
  | rr t e c2 q => cases k1 with
    | rr t1 e1' c1 q1 => cases k with
      | rr t0 e0 c q0 =>
        obtain ⟨g1, g2, g3⟩ := e1
        obtain ⟨f1, f2, f3⟩ := e2
        exact ⟨f1.trans g1, f2.trans g2, f3.trans g3⟩
      | _ => exact e1.elim
    | _ => exact e2.elim
  | emp t => cases k1 with
    | emp t1 => cases k with
      | emp t0 =>
        have e1 : B.o n = A.o n := e1
        have e2 : C.o n = B.o n := e2
        exact e2.trans e1
      | _ => exact e1.elim
    | _ => exact e2.elim
  | mp c2 => cases k1 with
    | mp c1 => cases k with
      | mp c =>
        have e1 : B.o n = A.o n := e1
        have e2 : C.o n = B.o n := e2
        exact e2.trans e1
      | _ => exact e1.elim
    | _ => exact e2.elim
  | cells t c2 => cases k1 with
    | cells t1 c1 => cases k with
      | cells t0 c =>
        have e1 : B.o n = A.o n := e1
        have e2 : C.o n = B.o n := e2
        exact e2.trans e1
      | _ => exact e1.elim
    | _ => exact e2.elim
  | tok => cases k1 with
    | tok => cases k with
      | tok =>
        obtain ⟨g1, g2⟩ := e1
        obtain ⟨f1, f2⟩ := e2
        exact ⟨f1.trans g1, fun g m h => (f2 g m (g1.trans h)).trans (g2 g m h)⟩
      | _ => exact e1.elim
    | _ => exact e2.elim
theorem mem_frz : ∀ (l : H) {G : Gm}, Mem G → (∀ p ∈ l, ∃ c, p.2 = .frz c ∧ ((∃ t, hget G.h p.1 = some (.row t c)) ∨ hget G.h p.1 = some (.frz c))) → (∀ p ∈ l, ∀ q ∈ l, p.1 = q.1 → p.2 = q.2) →
    ∃ ν', Ext G ⟨ν', setAll G.h l, G.bs, G.w⟩ ∧ Mem ⟨ν', setAll G.h l, G.bs, G.w⟩
  | [], G, hm, _, _ => ⟨G.o, Ext.refl _, hm⟩
  | p :: l, G, hm, h, hq => by
    obtain ⟨c, e1, e2⟩ := h p (List.mem_cons_self ..)
    obtain ⟨x1, m1⟩ := mem_frz1 hm e2
    obtain ⟨ν', x2, m2⟩ := mem_frz l m1 (fun q hm' => by
      obtain ⟨c', f1, f2⟩ := h q (List.mem_cons_of_mem _ hm')
      refine ⟨c', f1, ?_⟩
      by_cases e : p.1 = q.1
      · have := hq p (List.mem_cons_self ..) q (List.mem_cons_of_mem _ hm') e
        rw [e1, f1] at this
        cases this
        right
        show hget (hset G.h p.1 (.frz c)) q.1 = _
        rw [← e, hget_self]
      · show (∃ t, hget (hset G.h p.1 (.frz c)) q.1 = some (.row t c')) ∨ hget (hset G.h p.1 (.frz c)) q.1 = some (.frz c')
        rw [hget_other _ _ e]
        exact f2) (fun a ha b hb => hq a (List.mem_cons_of_mem _ ha) b (List.mem_cons_of_mem _ hb))
    refine ⟨ν', ?_, ?_⟩
    · show Ext G ⟨ν', setAll (hset G.h p.1 p.2) l, G.bs, G.w⟩
      rw [e1]
      exact x1.trans x2
    · show Mem ⟨ν', setAll (hset G.h p.1 p.2) l, G.bs, G.w⟩
      rw [e1]
      exact m2
theorem rowsOf_ok {h : H} : ∀ {ids : List Nat}, ∀ p ∈ rowsOf h ids, ∃ c t, p.2 = .frz c ∧ hget h p.1 = some (.row t c)
  | [], p, hp => by cases hp
  | n :: ids, p, hp => by
    unfold rowsOf at hp
    split at hp
    · rename_i t c hh
      rcases List.mem_cons.1 hp with rfl | hp
      · exact ⟨c, t, rfl, hh⟩
      · exact rowsOf_ok p hp
    · exact rowsOf_ok p hp
/-- Rows that stop being one's own. -/
theorem mem_rows (hm : Mem G) (ids : List Nat) : ∃ ν', Ext G ⟨ν', setAll G.h (rowsOf G.h ids), G.bs, G.w⟩ ∧ Mem ⟨ν', setAll G.h (rowsOf G.h ids), G.bs, G.w⟩ := by
  refine mem_frz _ hm (fun p hp => ?_) (fun p hp q hq e => ?_)
  · obtain ⟨c, t, e1, e2⟩ := rowsOf_ok p hp
    exact ⟨c, e1, .inl ⟨t, e2⟩⟩
  · obtain ⟨c, t, e1, e2⟩ := rowsOf_ok p hp
    obtain ⟨c', t', f1, f2⟩ := rowsOf_ok q hq
    rw [e, f2] at e2
    cases e2
    rw [e1, f1]
/-! ### Maps of numbers to numbers -/
def encP (p : Int × Int) : Value × Value := (Value.int .i64 p.1, Value.int .i64 p.2)
theorem map_at {es : Array MapEntry} {clock : Nat} {l : List (Int × Int)} (hm : mapIs es clock l) {j : Nat} {e : MapEntry} (h : es.toList[j]? = some e) : ∃ p, l[j]? = some p ∧ e.key = .int .i64 p.1 ∧ e.val = .int .i64 p.2 := by
  have h1 := congrArg (fun m => m[j]?) hm.2.2
  simp only [List.getElem?_map, h, Option.map_some] at h1
  cases hl : l[j]? with
  | none => rw [hl] at h1; cases h1
  | some p =>
    rw [hl] at h1
    simp only [Option.map_some, Option.some.injEq, Prod.mk.injEq] at h1
    exact ⟨p, rfl, h1.1, h1.2⟩
theorem map_len {es : Array MapEntry} {clock : Nat} {l : List (Int × Int)} (hm : mapIs es clock l) : es.size = l.length := by
  have := congrArg List.length hm.2.2
  simpa using this
theorem map_nodup {es : Array MapEntry} {clock : Nat} {l : List (Int × Int)} (hm : mapIs es clock l) : (l.map (·.1)).Nodup := by
  have h1 := hm.2.1.2.2
  have h2 : es.toList.map (·.key) = (l.map (·.1)).map (Value.int .i64) := by
    have := congrArg (List.map Prod.fst) hm.2.2
    simp only [List.map_map] at this ⊢
    exact this
  rw [h2] at h1
  exact h1.of_map _ fun _ _ h e => h (by rw [e])
theorem mget_at {l : List (Int × Int)} (hn : (l.map (·.1)).Nodup) {j : Nat} {p : Int × Int} (h : l[j]? = some p) : mget l p.1 = p.2 ∧ mhas l p.1 = true := by
  have hm : p ∈ l := List.mem_of_getElem? h
  refine ⟨?_, List.any_eq_true.2 ⟨p, hm, by simp⟩⟩
  unfold mget
  cases hf : l.find? (fun q => q.1 == p.1) with
  | none => exact absurd (List.find?_eq_none.1 hf p hm) (by simp)
  | some q =>
    have hq := List.mem_of_find?_eq_some hf
    have he : q.1 = p.1 := by simpa using List.find?_some hf
    have : q = p := by
      have hp := List.pairwise_map.1 hn
      obtain ⟨a, ha, ea⟩ := List.getElem_of_mem hq
      obtain ⟨b, hb, eb⟩ := List.getElem_of_mem hm
      rw [List.pairwise_iff_getElem] at hp
      rcases Nat.lt_trichotomy a b with g | g | g
      · exact absurd (by rw [ea, eb]; exact he) (hp a b ha hb g)
      · subst g; exact ea.symm.trans eb
      · exact absurd (by rw [ea, eb]; exact he.symm) (hp b a hb ha g)
    rw [this]
theorem run_find {kt : TypeId} (hk : P.underlying kt = some (.int .i64)) {es : Array MapEntry} {clock : Nat} {l : List (Int × Int)} (hm : mapIs es clock l) (k : Int) :
    ((Instr.findKey kt (.int .i64 k) es.toList).run P w = .ok none w ∧ mhas l k = false ∧ mget l k = 0 ∧ ∀ e ∈ es.toList, e.key ≠ .int .i64 k) ∨
      ∃ j e, (Instr.findKey kt (.int .i64 k) es.toList).run P w = .ok (some (j, .int .i64 (mget l k))) w ∧ mhas l k = true ∧ es.toList[j]? = some e ∧ e.key = .int .i64 k ∧ l[j]? = some (k, mget l k) := by
  have hks : ∀ y ∈ es.toList, MapKept.IsKey (.int .i64) y.key := fun y hy => by
    obtain ⟨j, hj⟩ := List.mem_iff_getElem?.1 hy
    obtain ⟨p, _, e, _⟩ := map_at hm hj
    rw [e]
    rfl
  have hik : MapKept.IsKey (.int .i64) (.int .i64 k) := rfl
  rcases MapKept.findNow_spec hik es.toList 0 hks with ⟨h1, h2⟩ | ⟨j, e, h1, h2, h3⟩
  · have hno : ∀ p ∈ l, p.1 ≠ k := fun p hp e => by
      obtain ⟨j, hj⟩ := List.mem_iff_getElem?.1 hp
      have hl := map_len hm
      have hlt : j < es.toList.length := by
        have := get_lt hj
        simp only [Array.length_toList]
        omega
      obtain ⟨q, hq, eq, _⟩ := map_at hm (List.getElem?_eq_getElem hlt)
      rw [hj] at hq
      cases hq
      exact h2 _ (List.getElem_mem hlt) (by rw [eq, e])
    refine .inl ⟨MapKept.run_findKey hk h1, ?_, ?_, h2⟩
    · unfold mhas
      rw [List.any_eq_false]
      intro p hp
      simpa using hno p hp
    · unfold mget
      have : l.find? (fun p => p.1 == k) = none := List.find?_eq_none.2 fun p hp => by simpa using hno p hp
      rw [this]
  · obtain ⟨p, p1, p2, p3⟩ := map_at hm h2
    have e1 : p.1 = k := by
      rw [h3] at p2
      exact (Value.int.inj p2).2.symm
    obtain ⟨g1, g2⟩ := mget_at (map_nodup hm) p1
    rw [e1] at g1 g2
    refine .inr ⟨j, e, ?_, g2, h2, h3, ?_⟩
    · have := MapKept.run_findKey (P := P) (w := w) hk h1
      rw [p3, ← g1] at this
      simpa using this
    · rw [p1, g1, ← e1]
theorem zero_run {e : TypeId} (h : zeroII P e = true) : (zeroValue e).run P w = .ok (.int .i64 0) w := by
  unfold zeroII at h
  split at h
  · rename_i i hi
    split at h
    · rename_i n hz
      have : n = 0 := by simpa using h
      subst this
      simp [zeroValue, typeInfo, hi, hz]
    · cases h
  · cases h
theorem mput_set {l : List (Int × Int)} (hn : (l.map (·.1)).Nodup) {j : Nat} {k v v0 : Int} (h : l[j]? = some (k, v0)) : mput l k v = l.set j (k, v) := by
  have h1 := (mget_at hn h).2
  unfold mput
  rw [if_pos h1]
  have hp := List.pairwise_map.1 hn
  rw [List.pairwise_iff_getElem] at hp
  have hj := get_lt h
  have ej : l[j] = (k, v0) := by
    rw [List.getElem?_eq_getElem hj] at h
    exact Option.some.inj h
  refine List.ext_getElem (by simp) fun i hi hi' => ?_
  have hil : i < l.length := by simpa using hi
  rw [List.getElem_map, List.getElem_set]
  by_cases e : j = i
  · subst e
    rw [if_pos rfl, ej, if_pos (by simp)]
  · rw [if_neg e, if_neg]
    intro g
    have g : l[i].1 = k := by simpa using g
    rcases Nat.lt_or_gt_of_ne e with q | q
    · exact hp j i hj hil q (by rw [ej, g])
    · exact hp i j hil hj q (by rw [ej, g])
theorem shp_map {b : Nat} {es : Array MapEntry} {clock : Nat} {o : Obj} (hb : w.heap[b]? = some (.map es clock)) : Shp w { w with heap := w.heap.setIfInBounds b o } := fun c x hx => by
  unfold World.shape? at hx ⊢
  by_cases e : c = b
  · subst e
    rw [hb] at hx
    cases hx
  · rw [show ({ w with heap := w.heap.setIfInBounds b o } : World).heap[c]? = w.heap[c]? from (MapKept.heap_set hb).2 c e]
    exact hx
theorem mkMap_ok (hr : Rep bs gv st ν a w) {o : Oper} {u : Nat} {t : TypeId} {hint : Option Operand} (ho : o.op = .makeMap t hint) {E : Eff} (h : effMkMap cx st.heap u t hint = some E) : Runs P o a w (Res bs st ν w E) := by
  unfold effMkMap at h
  split at h
  · rename_i _ _ _ _ hf
    cases h
    have hd : hget (gg bs st ν w).h (bid u) = none := freeAt_ok hf
    have hdl := freeAt_lt hf
    obtain ⟨hx, hm⟩ := mem_new (G := gg bs st ν w) (d := bid u) (k' := .mp []) (x := some (w.heap.size, 0)) hr.mem hd (below_alloc w (.map #[] 0)) (fun b m h => by cases h; exact ⟨Nat.le_refl _, by simp⟩)
      (fun _ => ⟨w.heap.size, #[], 0, by simp [one], heap_alloc_new _ _, Nat.zero_le _, MapKept.stamped_empty 0, rfl⟩)
    refine runs_value (v := .map (some w.heap.size)) (w' := w.alloc (.map #[] 0)) ?_ ⟨_, hx, ?_, hm⟩
    · simp [execOp, ho, Instr.makeMap]
    · refine ⟨⟨_, rfl⟩, ?_⟩
      unfold mpAt
      simp only [show hget (setAll st.heap [(bid u, Blk.mp [])]) (bid u) = some (.mp []) from hget_self _ _ _]
      exact ⟨w.heap.size, by simp, rfl⟩
  · cases h
theorem look_ok (hc : CxOk P cx) (hr : Rep bs gv st ν a w) {o : Oper} {t : TypeId} {m x : Operand} {ok : Bool} (ho : o.op = .lookup t m x ok) {E : Eff} (h : effLook Ar.std cx st.heap t ok (evalE st m) (evalE st x) = some E) (hs : E.side) : Runs P o a w (Res bs st ν w E) := by
  have hm := evalE_is hr m
  have hx := evalE_is hr x
  unfold effLook at h
  split at h
  · rename_i g n g' y em ey
    rw [em] at hm
    rw [ey] at hx
    split at h
    · rename_i k hk _ _ _ _ l hi hl hh
      obtain ⟨kt, et, hu, hu1, hu2, hz⟩ := tiOf_map (hc.tt _ _ hl)
      have hb := hr.mem.blk n _ hh
      obtain ⟨b, es, clock, b1, b2, b3⟩ := hb
      have b2 : w.heap[b]? = some (.map es clock) := b2
      have key : need g ∧ need g' → a.eval m = .map (some b) ∧ a.eval x = .int .i64 hk := fun hn => by
        have h1 : mpAt (gg bs st ν w) n (a.eval m) := (hm.of hn.1).2
        unfold mpAt at h1
        rw [show hget (gg bs st ν w).h n = some (.mp l) from hh] at h1
        obtain ⟨b', e1, e2⟩ := h1
        rw [b1] at e1
        cases e1
        exact ⟨e2, int?_is hi (hx.of hn.2)⟩
      have hck : ∀ em, (Instr.checkKey em 10000 kt (.int .i64 hk)).run P w = .ok () w := fun em => MapKept.run_checkKey (n := 9999) (k := .int .i64 hk) hu1 rfl em
      split at h
      · unfold mk1 at h
        cases h
        obtain ⟨e1, e2⟩ := key hs
        refine runs_value (v := .int .i64 (mget l hk)) (w' := w) ?_ (res_pure hr.mem (e := ⟨none, _⟩) rfl)
        rcases run_find (w := w) hu1 b3 hk with ⟨f1, f2, f3, _⟩ | ⟨j, e, f1, f2, _⟩
        · simp [execOp, ho, e1, e2, Instr.lookup, run_underlying hu w, MapKept.run_getObj_map b2, hck, f1, zero_run hz, f3, Result.andThen]
        · simp [execOp, ho, e1, e2, Instr.lookup, run_underlying hu w, MapKept.run_getObj_map b2, hck, f1, Result.andThen]
      · cases h
        obtain ⟨e1, e2⟩ := key hs
        refine runs_value (v := .tuple #[.int .i64 (mget l hk), .bool (mhas l hk)]) (w' := w) ?_ (res_pure hr.mem (e := ⟨none, _⟩) ⟨[.int .i64 (mget l hk), .bool (mhas l hk)], rfl, rfl, rfl, trivial⟩)
        rcases run_find (w := w) hu1 b3 hk with ⟨f1, f2, f3, _⟩ | ⟨j, e, f1, f2, _⟩
        · simp [execOp, ho, e1, e2, Instr.lookup, run_underlying hu w, MapKept.run_getObj_map b2, hck, f1, zero_run hz, f2, f3, Result.andThen]
        · simp [execOp, ho, e1, e2, Instr.lookup, run_underlying hu w, MapKept.run_getObj_map b2, hck, f1, f2, Result.andThen]
    · cases h
  · cases h
theorem upd_ok (hc : CxOk P cx) (hr : Rep bs gv st ν a w) {o : Oper} {t : TypeId} {m x y : Operand} (ho : o.op = .mapUpdate t m x y) {E : Eff} (h : effUpd Ar.std cx st.heap t (evalE st m) (evalE st x) (evalE st y) = some E) (hs : E.side) : Runs P o a w (Res bs st ν w E) := by
  have hm := evalE_is hr m
  have hx := evalE_is hr x
  have hy := evalE_is hr y
  unfold effUpd at h
  split at h
  · rename_i g n g' yy g2 z em ey ez
    rw [em] at hm
    rw [ey] at hx
    rw [ez] at hy
    split at h
    · rename_i k v _ _ _ _ l hi hj hl hh
      cases h
      obtain ⟨s1, s2, s3, s4⟩ := hs
      obtain ⟨kt, et, hu, hu1, hu2, hz⟩ := tiOf_map (hc.tt _ _ hl)
      obtain ⟨b, es, clock, b1, b2, b3⟩ := hr.mem.blk n _ hh
      have b2 : w.heap[b]? = some (.map es clock) := b2
      have e2 := int?_is hi (hx.of s2)
      have e3 := int?_is hj (hy.of s3)
      have e1 : a.eval m = .map (some b) := by
        have h1 : mpAt (gg bs st ν w) n (a.eval m) := (hm.of s1).2
        unfold mpAt at h1
        rw [show hget (gg bs st ν w).h n = some (.mp l) from hh] at h1
        obtain ⟨b', f1, f2⟩ := h1
        rw [b1] at f1
        cases f1
        exact f2
      simp only [Ar.std, stdCmp, decide_eq_true_eq] at s4
      have hsz := map_len b3
      have hroom : es.size + 1 ≤ maxLen := by
        unfold maxLen
        omega
      have hck : ∀ em, (Instr.checkKey em 10000 kt (.int .i64 k)).run P w = .ok () w := fun em => MapKept.run_checkKey (n := 9999) (k := .int .i64 k) hu1 rfl em
      have fin : ∀ es' clock', mapIs es' clock' (mput l k v) → (execOp a.eval o).run P w = .ok (.value undef) { w with heap := w.heap.setIfInBounds b (.map es' clock') } ∨ (execOp a.eval o).run P w = .ok .skip { w with heap := w.heap.setIfInBounds b (.map es' clock') } → Runs P o a w (Res bs st ν w ⟨need g ∧ need g' ∧ need g2 ∧ Ar.std.cmp .lss (Ar.std.mlen l) 1000000000000 = true, Ent.nil, [(n, .mp (Ar.std.mput l k v))]⟩) := by
        intro es' clock' hmi hrun
        have ha : alive (gg bs st ν w).h n := .inl ⟨_, hh, rfl⟩
        obtain ⟨hx', hm'⟩ := mem_one (G := gg bs st ν w) (d := n) (k' := .mp (mput l k v)) (x := some (b, 0)) (w' := { w with heap := w.heap.setIfInBounds b (.map es' clock') }) hr.mem rfl rfl rfl (by simp [gg])
          (fun c hc0 hno => (MapKept.heap_set b2).2 c fun e => hno 0 ha (e ▸ b1))
          (fun _ c q j hq hj => by
            have hq : ν n = some (c, q) := hq
            have b1 : ν n = some (b, 0) := b1
            rw [b1] at hq
            cases hq
            omega)
          (fun c q hq => by
            cases hq
            exact ⟨by simpa using heap_lt b2, .inr ⟨ha, 0, b1, Nat.le_refl _⟩⟩)
          (fun k0 hk0 _ => by
            rw [show hget (gg bs st ν w).h n = some (.mp l) from hh] at hk0
            cases hk0
            show (one (gg bs st ν w) n _ (some (b, 0)) _).o n = ν n
            rw [show ν n = some (b, 0) from b1]
            simp [one])
          (fun _ => ⟨b, es', clock', by simp [one], (MapKept.heap_set b2).1, hmi⟩) (shp_map b2)
        rcases hrun with hrun | hrun
        · exact runs_value hrun ⟨_, hx', trivial, hm'⟩
        · exact runs_skip hrun ⟨_, hx', trivial, hm'⟩
      rcases run_find (w := w) hu1 b3 k with ⟨f1, f2, f3, f4⟩ | ⟨j, e, f1, f2, f4, f5, f6⟩
      · refine fin (es.push ⟨.int .i64 k, .int .i64 v, clock⟩) (clock + 1) ⟨by rw [Array.size_push]; exact hroom, MapKept.stamped_push b3.2.1 f4, ?_⟩ ?_
        · unfold mput
          rw [if_neg (by simp [f2]), Array.toList_push, List.map_append, List.map_append, b3.2.2]
          rfl
        · simp [execOp, ho, e1, e2, e3, Instr.mapUpdate, run_underlying hu w, MapKept.run_getObj_map b2, hck, f1, MapKept.run_setObj_map _ b2, Result.andThen]
      · have hj2 : es[j]? = some e := by simpa using f4
        have hst : (Instr.keyThatStays (.int .i64 k) (.int .i64 k)).run P w = .ok (.int .i64 k) w := MapKept.run_keyThatStays (d := .int .i64) rfl
        refine fin (es.modify j (fun e' => { e' with key := .int .i64 k, val := .int .i64 v })) clock ⟨by simpa using b3.1, MapKept.stamped_modify b3.2.1 _ _ (fun _ _ => rfl) (fun e' _ he' => by rw [hj2] at he'; cases he'; exact f5.symm), ?_⟩ ?_
        · rw [mput_set (map_nodup b3) f6, Array.toList_modify, ChangeMaps.modify_eq_set _ _ _ _ f4, List.map_set, List.map_set, b3.2.2]
        · simp [execOp, ho, e1, e2, e3, Instr.mapUpdate, run_underlying hu w, MapKept.run_getObj_map b2, hck, f1, hj2, f5, hst, MapKept.run_setObj_map _ b2, Result.andThen]
    · cases h
  · cases h
end
end Go.Proofs.Ytakebkfhigadiaa.Ry
