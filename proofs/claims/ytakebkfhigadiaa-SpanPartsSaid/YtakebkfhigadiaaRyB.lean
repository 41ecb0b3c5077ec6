/-
  The reckoner's rules hold in the model: operations that turn no memory. No condition.
-/
import Derived.Test.YtakebkfhigadiaaRyA
import Derived.ChangeKeysEq
namespace Go.Proofs.Ytakebkfhigadiaa.Ry
open Go Go.RowKit

/-! ## Lists of cells -/

section
variable {G : Gm}
theorem cellsIs.len : ∀ {cs : List SC} {vs : List Value}, cellsIs G cs vs → cs.length = vs.length
  | [], [], _ => rfl
  | _ :: _, _ :: _, ⟨_, c⟩ => by simp [cellsIs.len c]
theorem cellsIs.one : ∀ {cs : List SC} {vs : List Value}, cellsIs G cs vs → ∀ v ∈ vs, v.oneCell' = true
  | [], [], _, _, hv => by cases hv
  | _ :: _, _ :: _, ⟨⟨_, b⟩, c⟩, v, hv => by
    rcases List.mem_cons.1 hv with rfl | hv
    · exact b
    · exact cellsIs.one c v hv
theorem cellsIs.drop : ∀ (n : Nat) {cs : List SC} {vs : List Value}, cellsIs G cs vs → cellsIs G (cs.drop n) (vs.drop n)
  | 0, _, _, c => c
  | _ + 1, [], [], _ => trivial
  | n + 1, _ :: _, _ :: _, ⟨_, c⟩ => cellsIs.drop n c
theorem cellsIs.take : ∀ (n : Nat) {cs : List SC} {vs : List Value}, cellsIs G cs vs → cellsIs G (cs.take n) (vs.take n)
  | 0, _, _, _ => by simp [cellsIs]
  | _ + 1, [], [], _ => trivial
  | n + 1, _ :: _, _ :: _, ⟨a, c⟩ => ⟨a, cellsIs.take n c⟩
theorem cellsIs.set : ∀ (n : Nat) {cs : List SC} {vs : List Value} {c : SC} {v : Value}, cellsIs G cs vs → c.is G v → v.oneCell' = true → cellsIs G (cs.set n c) (vs.set n v)
  | _, [], [], _, _, _, _, _ => trivial
  | 0, _ :: _, _ :: _, _, _, ⟨_, c⟩, hc, hv => ⟨⟨hc, hv⟩, c⟩
  | n + 1, _ :: _, _ :: _, _, _, ⟨a, c⟩, hc, hv => ⟨a, cellsIs.set n c hc hv⟩
def pasteV : List Value → Nat → List Value → List Value
  | vs, _, [] => vs
  | vs, off, x :: xs => pasteV (vs.set off x) (off + 1) xs
theorem cellsIs.paste : ∀ {xs : List SC} {us : List Value} (n : Nat) {cs : List SC} {vs : List Value}, cellsIs G cs vs → cellsIs G xs us → cellsIs G (pasteCells cs n xs) (pasteV vs n us)
  | [], [], _, _, _, c, _ => c
  | _ :: _, _ :: _, n, _, _, c, ⟨⟨a, b⟩, d⟩ => cellsIs.paste (n + 1) (c.set n a b) d
theorem pasteV_eq : ∀ (us : List Value) (n : Nat) (vs : List Value), n + us.length ≤ vs.length → pasteV vs n us = vs.take n ++ us ++ vs.drop (n + us.length)
  | [], n, vs, _ => by simp [pasteV]
  | u :: us, n, vs, hn => by
    simp only [List.length_cons] at hn
    rw [pasteV, pasteV_eq us (n + 1) (vs.set n u) (by simp; omega)]
    have hlt : n < vs.length := by omega
    rw [List.drop_set_of_lt (by omega), List.take_add_one, List.take_set_of_le (by omega)]
    simp [hlt, Nat.add_assoc, Nat.add_comm 1]
end


/-! ## The program's tables and contracts -/
/-- Which rows and blocks stay where they are. -/
def stayIs (G G' : Gm) (l : List SC) (ys : List SA) : Prop := ∀ p ∈ stayOf l ys, okK G.h G'.h p = true → G'.o p.2.1 = G.o p.2.2
/-- What the arguments lead to in the end, and which rows behind them stay. -/
def asIs (G G' : Gm) (ow : List SC) : List SA → List Value → Prop
  | y :: ys, v :: vs => y.is G' v ∧ asIs G G' ow ys vs
  | [], _ => True
  | ys, [] => stayIs G G' ow ys
def ConOk (P : Program) (f : FuncId) (con : Con) : Prop :=
  (∃ fn, P.funcs[f]? = some fn ∧ fn.body.isNone = false ∧ (fn.name == "runtime.NumGoroutine") = false) ∧
  ∀ args h p, con args h = some p → p.C → ∀ (G : Gm) (vs : List Value), G.h = h → G.bs.W = G.w → Mem G → sasIs G args vs →
    Calls P f vs.toArray G.w fun e w' => ∃ v G', e = .returned v ∧ G'.w = w' ∧ G'.bs = G.bs ∧ G'.h = p.h ∧ Mem G' ∧ p.r.is G' v ∧ asIs G G' (ownsAll args h) p.as vs
/-- The blocks that arguments lead to stay as they were. -/
def Keeps (con : Con) : Prop := ∀ args h p, con args h = some p → p.h = h
/-- A slice type's hint fits its elements' zero. -/
def zMatch (ct : Ct) (z : List Value) : Prop :=
  match ct with
  | .ints k _ => z = [.int k 0]
  | .recs s _ => toE s (z.map cellOf) = some s.zero
def zr1 (tt : List (Nat × TI)) (t : Nat) (ct : Ct) : Prop :=
  match look tt t with
  | some ⟨.slice e _, _, _, _, _⟩ => match look tt e with
    | some te => zMatch ct te.zero ∧ te.zero.all Value.oneCell' = true
    | none => True
  | _ => True
structure CxOk (P : Program) (cx : Cx) : Prop where
  tt : ∀ t ti, look cx.tt t = some ti → tiOf P t = some ti
  fs : ∀ f con, lee f 999999 = true → look cx.fs f = some con → ConOk P f con
  kp : ∀ f con, lee f 999999 = true → (∃ q, look cx.fs (keepKey f) = some q) → look cx.fs f = some con → Keeps con
  mixed : P.follows .mixedOrders = true
  bs : ∀ t b, look cx.bs t = some b → ∃ i, P.info? t = some i ∧ i.bytes = b
  sz : ∀ t ti, look cx.tt t = some ti → ti.zero.length = ti.size
  zr : ∀ t ct, look cx.hs t = some ct → zr1 cx.tt t ct
/-- The symbolic state's meaning, in a world. -/
def gg (bs : Bs) (st : St) (ν : Nat → Option (Nat × Nat)) (w : World) : Gm := ⟨ν, st.heap, bs, w⟩
structure Rep (bs : Bs) (gv : List Value) (st : St) (ν : Nat → Option (Nat × Nat)) (a : Act) (w : World) : Prop where
  size : a.tmps.size = st.slots.length
  slot : ∀ (t : Nat) (e : Ent), st.slots[t]? = some e → e.is (gg bs st ν w) (a.tmps.getD t undef)
  gs : pasIs (gg bs st ν w) st.gs gv
  defers : a.defers = []
  mem : Mem (gg bs st ν w)
/-- What an operation leaves. -/
def Res (bs : Bs) (st : St) (ν : Nat → Option (Nat × Nat)) (w : World) (E : Eff) (v : Value) (w' : World) : Prop :=
  ∃ ν', Ext (gg bs st ν w) ⟨ν', setAll st.heap E.blk, bs, w'⟩ ∧ E.ent.is ⟨ν', setAll st.heap E.blk, bs, w'⟩ v ∧ Mem ⟨ν', setAll st.heap E.blk, bs, w'⟩
/-- An operation is done, and what it leaves. -/
def Runs (P : Program) (o : Oper) (a : Act) (w : World) (R : Value → World → Prop) : Prop :=
  ∃ w', (∃ v, (execOp a.eval o).run P w = .ok (.value v) w' ∧ R v w') ∨ ((execOp a.eval o).run P w = .ok .skip w' ∧ R undef w')

section
variable {P : Program} {cx : Cx} {bs : Bs} {gv : List Value} {st : St} {ν : Nat → Option (Nat × Nat)} {a : Act} {w : World} {G : Gm}

theorem Runs.wp {o : Oper} {R : Value → World → Prop} (h : Runs P o a w R) {K : Act → World → Prop} {Q : Exit → Act → World → Prop} (hK : ∀ v w', R v w' → K (a.put o.dst v) w') : o.wp P a w K Q := by
  obtain ⟨w', ⟨v, h, hr⟩ | ⟨h, hr⟩⟩ := h
  · unfold Oper.wp
    rw [h]
    exact hK v w' hr
  · unfold Oper.wp
    rw [h]
    exact hK undef w' hr
theorem runs_value {o : Oper} {R : Value → World → Prop} {v : Value} {w' : World} (h : (execOp a.eval o).run P w = .ok (.value v) w') (hr : R v w') : Runs P o a w R := ⟨w', .inl ⟨v, h, hr⟩⟩
theorem runs_skip {o : Oper} {R : Value → World → Prop} {w' : World} (h : (execOp a.eval o).run P w = .ok .skip w') (hr : R undef w') : Runs P o a w R := ⟨w', .inr ⟨h, hr⟩⟩
theorem cellOf_is (v : Value) : (cellOf v).is G v := by
  unfold cellOf
  split
  · exact ⟨_, rfl, rfl⟩
  · exact rfl
  · exact rfl
  · exact rfl
theorem zero_is {l : List Value} (h : l.all Value.oneCell' = true) : cellsIs G (l.map cellOf) l := by
  induction l with
  | nil => trivial
  | cons v l ih =>
    simp only [List.all_cons, Bool.and_eq_true] at h
    exact ⟨⟨cellOf_is v, h.1⟩, ih h.2⟩
theorem ofValue_is (v : Value) : (ofValue v).is G v := by
  unfold ofValue
  split
  · split
    · exact ⟨_, rfl, zero_is ‹_›⟩
    · exact rfl
  · exact cellOf_is _
theorem evalE_is (hr : Rep bs gv st ν a w) (x : Operand) : (evalE st x).is (gg bs st ν w) (a.eval x) := by
  cases x with
  | tmp t =>
    simp only [evalE, Act.eval]
    cases h : st.slots[t]? with
    | none =>
      rw [List.getD_eq_getElem?_getD, h]
      exact trivial
    | some e =>
      rw [List.getD_eq_getElem?_getD, h]
      exact hr.slot t e h
  | const v => exact ofValue_is v
  | global g => exact rfl
  | func f => exact rfl
theorem Ent.is.need {e : Ent} {v : Value} (h : e.is G v) (hg : Ry.need e.g) : e.v.is G v := by
  unfold Ent.is at h
  unfold Ry.need at hg
  split at h <;> simp_all
theorem Ent.is.of {g : Option Bool} {x : SV} {v : Value} (h : (⟨g, x⟩ : Ent).is G v) (hg : Ry.need g) : x.is G v := Ent.is.need h hg
theorem int?_is {c : SC} {k : IntKind} {n : Int} {v : Value} (h : c.int? = some (k, n)) (hv : c.is G v) : v = .int k n := by
  unfold SC.int? at h
  split at h <;> first | (cases h; exact hv) | cases h
theorem bool?_is {c : SC} {b : Bool} {v : Value} (h : c.bool? = some b) (hv : c.is G v) : v = .bool b := by
  unfold SC.bool? at h
  split at h <;> first | (cases h; exact hv) | cases h
theorem mkI_is {l : Bool} {k : IntKind} {n : Int} {v : Value} (h : v = .int k n) : (mkI l k n).is G v := by cases l <;> exact h
theorem mkB_is {l : Bool} {b : Bool} {v : Value} (h : v = .bool b) : (mkB l b).is G v := by cases l <;> exact h
theorem lit_std (b : Bool) : Ar.std.lit b = Ar.std := by cases b <;> rfl
theorem dull_is {c : SC} {v : Value} (h : c.is G v) : c.dull.is G v := by
  cases c <;> exact h
theorem res_pure (hm : Mem (gg bs st ν w)) {C : Prop} {e : Ent} {v : Value} (h : e.is (gg bs st ν w) v) : Res bs st ν w ⟨C, e, []⟩ v w :=
  ⟨ν, Ext.refl _, h, hm⟩
theorem mk1_res (hm : Mem (gg bs st ν w)) {s : Prop} {c : SC} {E : Eff} (h : mk1 s c = some E) {o : Oper} {v : Value} (hrun : E.side → (execOp a.eval o).run P w = .ok (.value v) w) (hv : E.side → c.is (gg bs st ν w) v) (hs : E.side) : Runs P o a w (Res bs st ν w E) := by
  unfold mk1 at h
  cases h
  exact runs_value (hrun hs) (res_pure hm (e := ⟨none, _⟩) (hv hs))

/-! ### Operations that turn no memory -/
theorem move_ok (hr : Rep bs gv st ν a w) {o : Oper} {x : Operand} (ho : o.op = .move x ∨ o.op = .assign x) : Runs P o a w (Res bs st ν w ⟨True, evalE st x, []⟩) := by
  refine runs_value (v := a.eval x) (w' := w) ?_ (res_pure hr.mem (evalE_is hr x))
  rcases ho with ho | ho <;> simp [execOp, ho]
theorem kindEq_eq {k k' : IntKind} (h : kindEq k k' = true) : k' = k := by cases k <;> cases k' <;> first | rfl | (exact absurd h (by decide))
theorem pickV_ok {c : Bool} {x y v : SC} {vx vy : Value} (h : pickV Ar.std c x y = some v) (hx : c = false ∨ x.is G vx) (hy : c = true ∨ y.is G vy) : v.is G (if c then vx else vy) := by
  unfold pickV at h
  split at h
  · rename_i k m k' n h1 h2
    split at h
    · obtain rfl := kindEq_eq ‹_›
      cases h
      cases c
      · exact int?_is h2 (hy.resolve_left (by decide))
      · exact int?_is h1 (hx.resolve_left (by decide))
    · cases h
  · split at h
    · rename_i m n h1 h2
      cases h
      cases c
      · exact bool?_is h2 (hy.resolve_left (by decide))
      · exact bool?_is h1 (hx.resolve_left (by decide))
    · cases h
theorem pick_ok (hr : Rep bs gv st ν a w) {o : Oper} {c x y : Operand} (ho : o.op = .pick c x y) {E : Eff} (h : effPick Ar.std (evalE st c) (evalE st x) (evalE st y) = some E) (hs : E.side) : Runs P o a w (Res bs st ν w E) := by
  have ec := evalE_is hr c
  have ex := evalE_is hr x
  have ey := evalE_is hr y
  unfold effPick at h
  split at h
  · rename_i g t hc
    rw [hc] at ec
    split at h
    · cases h
      have hb : a.eval c = .bool true := ec.of hs.1
      exact runs_value (v := a.eval x) (w' := w) (by simp [execOp, ho, hb, asBool]) (res_pure hr.mem (e := ⟨none, _⟩) (ex.need hs.2))
    · cases h
      have hb : a.eval c = .bool false := ec.of hs.1
      exact runs_value (v := a.eval y) (w' := w) (by simp [execOp, ho, hb, asBool]) (res_pure hr.mem (e := ⟨none, _⟩) (ey.need hs.2))
  · rename_i g t hc
    rw [hc] at ec
    split at h
    · rename_i ga x' gb y' hx hy
      rw [hx] at ex
      rw [hy] at ey
      split at h
      · rename_i v hv
        refine mk1_res hr.mem h (v := if t then a.eval x else a.eval y) (fun hs => ?_) (fun hs => ?_) hs
        · cases h
          have hb : a.eval c = .bool t := ec.of hs.1
          simp [execOp, ho, hb, asBool]
        · cases h
          exact pickV_ok hv (hs.2.1.imp id fun g => ex.of g) (hs.2.2.imp id fun g => ey.of g)
      · split at h
        · cases h
          obtain ⟨h1, rfl, h3⟩ := hs
          have hb : a.eval c = .bool false := ec.of h1
          exact runs_value (v := a.eval y) (w' := w) (by simp [execOp, ho, hb, asBool]) (res_pure hr.mem (e := ⟨none, _⟩) (ey.of h3))
        · cases h
          obtain ⟨h1, rfl, h3⟩ := hs
          have hb : a.eval c = .bool true := ec.of h1
          exact runs_value (v := a.eval x) (w' := w) (by simp [execOp, ho, hb, asBool]) (res_pure hr.mem (e := ⟨none, _⟩) (ex.of h3))
        · cases h
    · cases h
  · cases h


theorem run_int (op : BinOp) (t : TypeId) (x y : Operand) (k : IntKind) (m n : Int) (h : ints op = true) :
    (do eqGuard op t x y (.int k m) (.int k n); binOp op t (.int k m) (.int k n)).run P w = .ok (.int k (stdBin op k m n)) w := by
  cases op <;> first | exact absurd h (by decide) | simp [eqGuard, binOp, Op.intArith, stdBin, intBits_and, intBits_or, intBits_xor, intBits_andNot]
theorem run_cmp (op : BinOp) (t : TypeId) (x y : Operand) (k : IntKind) (m n : Int) (h : cmps op = true) :
    (do eqGuard op t x y (.int k m) (.int k n); binOp op t (.int k m) (.int k n)).run P w = .ok (.bool (stdCmp op m n)) w := by
  cases op <;> first | exact absurd h (by decide) | simp [eqGuard, binOp, Op.intCmp, stdCmp]
theorem run_div (op : BinOp) (t : TypeId) (x y : Operand) (k : IntKind) (m n : Int) (h : op = .quo ∨ op = .rem) (hn : (n == 0) = false) :
    (do eqGuard op t x y (.int k m) (.int k n); binOp op t (.int k m) (.int k n)).run P w = .ok (.int k (stdBin op k m n)) w := by
  have hn' : ¬ n = 0 := by simpa using hn
  rcases h with rfl | rfl <;> simp [eqGuard, binOp, Op.intDiv, stdBin, hn']
theorem run_sh (op : BinOp) (t : TypeId) (x y : Operand) (k k' : IntKind) (m n : Int) (h : op = .shl ∨ op = .shr) (hn : decide (n < 0) = false) :
    (do eqGuard op t x y (.int k m) (.int k' n); binOp op t (.int k m) (.int k' n)).run P w = .ok (.int k (stdBin op k m n)) w := by
  have hn' : ¬ n < 0 := by simpa using hn
  rcases h with rfl | rfl <;> simp [eqGuard, binOp, Op.shift, stdBin, hn']

/-! ### Structs held against each other -/
theorem run_part_one {t : TypeId} {d : TypeDesc} (hu : P.underlying t = some d) (hd : (match d with | .struct _ | .array _ _ => true | _ => false) = false) {cs : Array Value} {off : Nat} {v : Value} (hv : cs[off]? = some v) :
    (part t cs off).run P w = .ok v w := by
  unfold part isAgg
  simp only [Sem.run_bind, run_underlying hu w, Result.andThen_ok]
  cases d <;> simp_all
theorem eqCells_cons {k : Nat} {ks : List Nat} {c d : SC} {cs ds : List SC} {r : Bool} (h : eqCells Ar.std (k :: ks) (c :: cs) (d :: ds) = some r) : ∃ a r', eqCell Ar.std k c d = some a ∧ eqCells Ar.std ks cs ds = some r' ∧ r = (a && r') := by
  simp only [eqCells] at h
  split at h
  · rename_i a r' h1 h2
    refine ⟨a, r', h1, h2, ?_⟩
    cases ks with
    | nil =>
      cases h
      cases cs <;> cases ds <;> simp [eqCells] at h2
      simp [← h2]
    | cons _ _ => cases h; rfl
  · cases h

theorem eqOnes_ok (d : Nat) (xs ys : List Value) : ∀ (fs : List Field) (k : Nat) (cs ds : List SC) (r : Bool), fs.map (·.offset) = List.range' k fs.length →
    cellsIs G cs (xs.drop k) → cellsIs G ds (ys.drop k) → eqCells Ar.std (fs.map (eqOne P)) cs ds = some r → (Op.eqFields (d + 1) xs.toArray ys.toArray fs).run P w = .ok r w
  | [], _, cs, ds, r, _, _, _, he => by
    cases cs <;> cases ds <;> simp [eqCells] at he
    simp [Op.eqFields, he]
  | f :: fs, k, [], ds, r, _, _, _, he => by simp [eqCells] at he
  | f :: fs, k, c :: cs, [], r, _, _, _, he => by simp [eqCells] at he
  | f :: fs, k, c :: cs, e :: ds, r, hoff, hx, hy, he => by
    simp only [List.map_cons, List.length_cons, List.range'_succ, List.cons.injEq] at hoff
    obtain ⟨ho, hos⟩ := hoff
    obtain ⟨b, r', hb, hr', rfl⟩ := eqCells_cons he
    cases hxs : xs.drop k with
    | nil => rw [hxs] at hx; exact hx.elim
    | cons x xl =>
      cases hys : ys.drop k with
      | nil => rw [hys] at hy; exact hy.elim
      | cons y yl =>
        rw [hxs] at hx
        rw [hys] at hy
        obtain ⟨⟨hx1, _⟩, hx2⟩ := hx
        obtain ⟨⟨hy1, _⟩, hy2⟩ := hy
        have gx : xs.toArray[f.offset]? = some x := by
          rw [ho]
          have := congrArg (·[0]?) hxs
          simpa using this
        have gy : ys.toArray[f.offset]? = some y := by
          rw [ho]
          have := congrArg (·[0]?) hys
          simpa using this
        have tx : xs.drop (k + 1) = xl := by
          have := congrArg List.tail hxs
          simpa using this
        have ty : ys.drop (k + 1) = yl := by
          have := congrArg List.tail hys
          simpa using this
        have key := eqOnes_ok d xs ys fs (k + 1) cs ds r' hos (by rw [tx]; exact hx2) (by rw [ty]; exact hy2) hr'
        have fin : f.name ≠ "_" → (∀ w : World, (Op.equalIn (d + 1) f.type x y).run P w = .ok b w) → (∀ w : World, (part f.type xs.toArray f.offset).run P w = .ok x w) → (∀ w : World, (part f.type ys.toArray f.offset).run P w = .ok y w) →
            (Op.eqFields (d + 1) xs.toArray ys.toArray (f :: fs)).run P w = .ok (b && r') w := by
          intro hn h1 h2 h3
          simp only [Op.eqFields, ne_eq, hn, not_false_eq_true, if_true, Sem.run_bind, h2, h3, h1, Result.andThen_ok]
          cases b
          · simp
          · simp [key]
        unfold eqOne at hb
        split at hb
        · rename_i hn
          simp only [bne_iff_ne, ne_eq] at hn
          split at hb
          · rename_i kk hu
            simp only [eqCell] at hb
            split at hb
            · rename_i h1 h2
              split at hb
              · obtain rfl := kindEq_eq ‹_›
                cases hb
                have e1 := int?_is h1 hx1
                have e2 := int?_is h2 hy1
                subst e1 e2
                exact fin hn (fun w => run_equalIn_int w d f.type _ _ _ _ hu) (fun w => run_part_one hu rfl gx) (fun w => run_part_one hu rfl gy)
              · cases hb
            · cases hb
          · rename_i hu
            simp only [eqCell] at hb
            split at hb
            · rename_i h1 h2
              cases hb
              have e1 := bool?_is h1 hx1
              have e2 := bool?_is h2 hy1
              subst e1 e2
              exact fin hn (fun w => run_equalIn_bool' w d f.type _ _ hu) (fun w => run_part_one hu rfl gx) (fun w => run_part_one hu rfl gy)
            · cases hb
          · simp [eqCell] at hb
        · simp [eqCell] at hb
theorem eqCells_len {A : Ar} : ∀ {ks : List Nat} {cs ds : List SC} {r : Bool}, eqCells A ks cs ds = some r → cs.length = ks.length ∧ ds.length = ks.length
  | [], [], [], _, _ => ⟨rfl, rfl⟩
  | [], [], _ :: _, _, h => by simp [eqCells] at h
  | [], _ :: _, _, _, h => by simp [eqCells] at h
  | _ :: _, [], _, _, h => by simp [eqCells] at h
  | _ :: _, _ :: _, [], _, h => by simp [eqCells] at h
  | k :: ks, c :: cs, d :: ds, r, h => by
    simp only [eqCells] at h
    split at h
    · rename_i a r' h1 h2
      obtain ⟨g1, g2⟩ := eqCells_len h2
      exact ⟨by simp [g1], by simp [g2]⟩
    · cases h
theorem eq_of_field {f : Field} (h : eqOne P f ≠ 0) : eqField P f = [eqOne P f] := by
  unfold eqField
  rw [beq_no h]
  rfl
theorem run_part_all {t : TypeId} {gs : Array Field} (hu : P.underlying t = some (.struct gs)) {i : TypeInfo} (hi : P.info? t = some i) {xs : List Value} {k m : Nat} (hm : P.cellsOf t = m) (hl : (xs.drop k).length = m) (w : World) :
    (part t xs.toArray k).run P w = .ok (.agg (xs.drop k).toArray) w := by
  have hsz : i.size = m := by simpa [Program.cellsOf, hi] using hm
  have hx : xs.toArray.extract k (k + m) = (xs.drop k).toArray := by
    rw [List.extract_toArray, List.extract_eq_take_drop, Nat.add_sub_cancel_left, List.take_of_length_le (by omega)]
  unfold part isAgg
  simp [run_underlying hu, sizeOf, typeInfo, hi, hsz]
  exact List.take_of_length_le (by omega)
theorem eqFields_ok (d : Nat) (xs ys : List Value) : ∀ (fs : List Field) (k : Nat) (cs ds : List SC) (r : Bool), fs.map (·.offset) = List.range' k fs.length → fs.dropLast.all (fun f => !eqn (eqOne P f) 0) = true → fs.all (fun f => !(eqField P f).isEmpty) = true →
    cellsIs G cs (xs.drop k) → cellsIs G ds (ys.drop k) → eqCells Ar.std (fs.flatMap (eqField P)) cs ds = some r → (Op.eqFields (d + 2) xs.toArray ys.toArray fs).run P w = .ok r w := by
  intro fs k cs ds r hoff hl ha hx hy he
  by_cases hall : fs.all (fun f => !eqn (eqOne P f) 0) = true
  · have e : fs.flatMap (eqField P) = fs.map (eqOne P) := by
      clear he hoff hx hy hl ha
      induction fs with
      | nil => rfl
      | cons f fs ih =>
        rw [List.all_cons, Bool.and_eq_true] at hall
        have h1 : eqOne P f ≠ 0 := fun q => by
          rw [q, eqn_refl] at hall
          cases hall.1
        rw [List.flatMap_cons, List.map_cons, eq_of_field h1, ih hall.2]
        rfl
    rw [e] at he
    exact eqOnes_ok (d + 1) xs ys fs k cs ds r hoff hx hy he
  · -- the last one is a struct
    induction fs generalizing k cs ds r with
    | nil => exact absurd rfl hall
    | cons f fs ih =>
      cases fs with
      | nil =>
        have h0 : eqOne P f = 0 := by
          cases e : eqn (eqOne P f) 0
          · exact absurd (by simp [e]) hall
          · exact eqn_eq e
        have hf : eqField P f ≠ [] := fun q => by simp [q] at ha
        rw [List.flatMap_cons, List.flatMap_nil, List.append_nil] at he
        unfold eqField at he hf
        rw [h0, eqn_refl] at he hf
        simp only [Bool.not_true, Bool.false_eq_true, if_false] at he hf
        split at he
        · rename_i gs hu
          rw [hu] at hf
          simp only at hf
          split at he
          · rename_i hc
            simp only [Bool.and_eq_true, bne_iff_ne, ne_eq, beq_iff_eq, Bool.not_eq_true'] at hc
            obtain ⟨⟨⟨⟨⟨hn, _⟩, ho⟩, hs⟩, hsz⟩, hi⟩ := hc
            obtain ⟨i, hi⟩ := Option.isSome_iff_exists.1 hi
            have hsz := eqn_eq hsz
            obtain ⟨l1, l2⟩ := eqCells_len he
            rw [List.length_map, Array.length_toList] at l1 l2
            have lx : (xs.drop k).length = gs.size := by rw [← hx.len]; exact l1
            have ly : (ys.drop k).length = gs.size := by rw [← hy.len]; exact l2
            have hoff : f.offset = k := by simpa using hoff
            have p1 := fun w => run_part_all hu hi hsz lx w
            have p2 := fun w => run_part_all hu hi hsz ly w
            have hfo : P.fieldsOf f.type = gs := by simp [Program.fieldsOf, hu]
            have q : ∀ w : World, (Op.equalIn (d + 2) f.type (.agg (xs.drop k).toArray) (.agg (ys.drop k).toArray)).run P w = .ok r w := fun w => by
              rw [run_equalIn_struct w (d + 1) f.type _ _ (by rw [hfo]; exact hu) hs, hfo]
              exact eqOnes_ok d (xs.drop k) (ys.drop k) gs.toList 0 cs ds r (by rw [ho, List.range_eq_range', Array.length_toList]) hx hy he
            simp only [Op.eqFields, ne_eq, hn, not_false_eq_true, if_true, Sem.run_bind, hoff, p1, p2, q, Result.andThen_ok]
            cases r <;> simp
          · rename_i hc
            rw [if_neg hc] at hf
            exact absurd rfl hf
        · rename_i hu
          split at hf
          · rename_i gs hg
            exact absurd hg (hu gs)
          · exact absurd rfl hf
      | cons f2 fs =>
        rw [List.dropLast_cons_of_ne_nil (by simp), List.all_cons, Bool.and_eq_true] at hl
        rw [List.all_cons, Bool.and_eq_true] at ha
        have h1 : eqOne P f ≠ 0 := fun q => by
          rw [q, eqn_refl] at hl
          cases hl.1
        have hall2 : ¬ (f2 :: fs).all (fun f => !eqn (eqOne P f) 0) = true := fun q => hall (by
          rw [List.all_cons, Bool.and_eq_true]
          exact ⟨hl.1, q⟩)
        rw [List.flatMap_cons, eq_of_field h1] at he
        simp only [List.map_cons, List.length_cons, List.range'_succ, List.cons.injEq] at hoff
        cases cs with
        | nil => simp [eqCells] at he
        | cons c cs =>
          cases ds with
          | nil => simp [eqCells] at he
          | cons e ds =>
            obtain ⟨b, r', hb, hr', rfl⟩ := eqCells_cons he
            have hone : eqCells Ar.std ([f].map (eqOne P)) [c] [e] = some b := by
              show eqCells Ar.std [eqOne P f] [c] [e] = some b
              unfold eqCells
              rw [hb]
              rfl
            cases hxs : xs.drop k with
            | nil => rw [hxs] at hx; exact hx.elim
            | cons x xl =>
              cases hys : ys.drop k with
              | nil => rw [hys] at hy; exact hy.elim
              | cons y yl =>
                rw [hxs] at hx
                rw [hys] at hy
                have tx : xs.drop (k + 1) = xl := by
                  have := congrArg List.tail hxs
                  simpa using this
                have ty : ys.drop (k + 1) = yl := by
                  have := congrArg List.tail hys
                  simpa using this
                have key := ih (k + 1) cs ds r' (by rw [List.map_cons, List.length_cons, List.range'_succ, hoff.2.1, hoff.2.2]) hl.2 ha.2 (by rw [tx]; exact hx.2) (by rw [ty]; exact hy.2) hr' hall2
                have gx : xs.toArray[f.offset]? = some x := by
                  rw [hoff.1]
                  have := congrArg (·[0]?) hxs
                  simpa using this
                have gy : ys.toArray[f.offset]? = some y := by
                  rw [hoff.1]
                  have := congrArg (·[0]?) hys
                  simpa using this
                have fin : f.name ≠ "_" → (∀ w : World, (Op.equalIn (d + 2) f.type x y).run P w = .ok b w) → (∀ w : World, (part f.type xs.toArray f.offset).run P w = .ok x w) → (∀ w : World, (part f.type ys.toArray f.offset).run P w = .ok y w) →
                    (Op.eqFields (d + 2) xs.toArray ys.toArray (f :: f2 :: fs)).run P w = .ok (b && r') w := by
                  intro hn h1 h2 h3
                  show ((if f.name ≠ "_" then do
                    let a ← part f.type xs.toArray f.offset
                    let b ← part f.type ys.toArray f.offset
                    let r ← Op.equalIn (d + 2) f.type a b
                    if (!r) = true then pure false else Op.eqFields (d + 2) xs.toArray ys.toArray (f2 :: fs)
                  else Op.eqFields (d + 2) xs.toArray ys.toArray (f2 :: fs)).run P w) = _
                  simp only [ne_eq, hn, not_false_eq_true, if_true, Sem.run_bind, h2, h3, h1, Result.andThen_ok]
                  cases b
                  · simp
                  · simp [key]
                obtain ⟨⟨hx1, _⟩, _⟩ := hx
                obtain ⟨⟨hy1, _⟩, _⟩ := hy
                unfold eqOne at hb
                split at hb
                · rename_i hn
                  simp only [bne_iff_ne, ne_eq] at hn
                  split at hb
                  · rename_i kk hu
                    simp only [eqCell] at hb
                    split at hb
                    · rename_i h1 h2
                      split at hb
                      · obtain rfl := kindEq_eq ‹_›
                        cases hb
                        have e1 := int?_is h1 hx1
                        have e2 := int?_is h2 hy1
                        subst e1 e2
                        exact fin hn (fun w => run_equalIn_int w (d + 1) f.type _ _ _ _ hu) (fun w => run_part_one hu rfl gx) (fun w => run_part_one hu rfl gy)
                      · cases hb
                    · cases hb
                  · rename_i hu
                    simp only [eqCell] at hb
                    split at hb
                    · rename_i h1 h2
                      cases hb
                      have e1 := bool?_is h1 hx1
                      have e2 := bool?_is h2 hy1
                      subst e1 e2
                      exact fin hn (fun w => run_equalIn_bool' w (d + 1) f.type _ _ hu) (fun w => run_part_one hu rfl gx) (fun w => run_part_one hu rfl gy)
                    · cases hb
                  · simp [eqCell] at hb
                · simp [eqCell] at hb
theorem eqItems_ok (d : Nat) {e : TypeId} {ke : IntKind} (hu : P.underlying e = some (.int ke)) (xs ys : List Value) : ∀ (n k : Nat) (cs ds : List SC) (r : Bool),
    cellsIs G cs (xs.drop k) → cellsIs G ds (ys.drop k) → eqCells Ar.std (List.replicate n 1) cs ds = some r → (Op.eqItems (d + 1) e 1 xs.toArray ys.toArray (List.range' k n)).run P w = .ok r w
  | 0, _, cs, ds, r, _, _, he => by
    cases cs <;> cases ds <;> simp [eqCells] at he
    simp [Op.eqItems, he]
  | n + 1, k, [], ds, r, _, _, he => by simp [eqCells, List.replicate_succ] at he
  | n + 1, k, c :: cs, [], r, _, _, he => by simp [eqCells, List.replicate_succ] at he
  | n + 1, k, c :: cs, q :: ds, r, hx, hy, he => by
    rw [List.replicate_succ] at he
    obtain ⟨b, r', hb, hr', rfl⟩ := eqCells_cons he
    cases hxs : xs.drop k with
    | nil => rw [hxs] at hx; exact hx.elim
    | cons x xl =>
      cases hys : ys.drop k with
      | nil => rw [hys] at hy; exact hy.elim
      | cons y yl =>
        rw [hxs] at hx
        rw [hys] at hy
        obtain ⟨⟨hx1, _⟩, hx2⟩ := hx
        obtain ⟨⟨hy1, _⟩, hy2⟩ := hy
        have gx : xs.toArray[k * 1]? = some x := by
          have := congrArg (·[0]?) hxs
          simpa using this
        have gy : ys.toArray[k * 1]? = some y := by
          have := congrArg (·[0]?) hys
          simpa using this
        have tx : xs.drop (k + 1) = xl := by
          have := congrArg List.tail hxs
          simpa using this
        have ty : ys.drop (k + 1) = yl := by
          have := congrArg List.tail hys
          simpa using this
        have key := eqItems_ok d hu xs ys n (k + 1) cs ds r' (by rw [tx]; exact hx2) (by rw [ty]; exact hy2) hr'
        simp only [eqCell] at hb
        split at hb
        · rename_i h1 h2
          split at hb
          · obtain rfl := kindEq_eq ‹_›
            cases hb
            have e1 := int?_is h1 hx1
            have e2 := int?_is h2 hy1
            subst e1 e2
            have fin : ∀ (b : Bool) (x y : Value), (Op.equalIn (d + 1) e x y).run P w = .ok b w → (part e xs.toArray (k * 1)).run P w = .ok x w → (part e ys.toArray (k * 1)).run P w = .ok y w →
                (Op.eqItems (d + 1) e 1 xs.toArray ys.toArray (k :: List.range' (k + 1) n)).run P w = .ok (b && r') w := by
              intro b x y h1 h2 h3
              simp only [Op.eqItems, Sem.run_bind, h2, h3, h1, Result.andThen_ok]
              cases b
              · simp
              · simp [key]
            rw [List.range'_succ]
            exact fin _ _ _ (run_equalIn_int w d e _ _ _ _ hu) (run_part_one hu rfl gx) (run_part_one hu rfl gy)
          · cases hb
        · cases hb
theorem mapT_is {k e : TypeId} {n : Nat} {z : List Value} {ti : TI} (h : mapT P k e n z = some ti) : (ti = ⟨.mapII, n, z, false, none⟩ ∧ P.underlying k = some (.int .i64) ∧ P.underlying e = some (.int .i64) ∧ zeroII P e = true) ∨ ti = ⟨.other, n, z, false, none⟩ := by
  unfold mapT at h
  split at h
  · rename_i h1 h2 h3
    exact .inl ⟨(Option.some.inj h).symm, h1, h2, h3⟩
  · exact .inr (Option.some.inj h).symm
theorem tiOf_map {t : TypeId} {n : Nat} {z : List Value} {q : Bool} {fl : Option Sh} (h : tiOf P t = some ⟨.mapII, n, z, q, fl⟩) : ∃ k e, P.underlying t = some (.map k e) ∧ P.underlying k = some (.int .i64) ∧ P.underlying e = some (.int .i64) ∧ zeroII P e = true := by
  unfold tiOf at h
  split at h
  · split at h
    · split at h
      · cases h
      · cases h
      · split at h <;> cases h
      · split at h <;> cases h
      · split at h <;> cases h
      · cases h
      · cases h
      · rename_i hu
        rcases mapT_is h with ⟨_, e⟩ | e
        · exact ⟨_, _, hu, e⟩
        · cases e
      · cases h
      · cases h
    · cases h
  · cases h
theorem tiOf_bool {t : TypeId} {n : Nat} {z : List Value} {e : Bool} {fl : Option Sh} (h : tiOf P t = some ⟨.bool, n, z, e, fl⟩) : P.underlying t = some .bool := by
  unfold tiOf at h
  split at h
  · split at h
    · split at h <;> first | (rcases mapT_is h with ⟨e, _⟩ | e <;> cases e; done) | simp_all
    · cases h
  · cases h
theorem tiOf_int {t : TypeId} {k : IntKind} {n : Nat} {z : List Value} {e : Bool} {fl : Option Sh} (h : tiOf P t = some ⟨.int k, n, z, e, fl⟩) : P.underlying t = some (.int k) := by
  unfold tiOf at h
  split at h
  · split at h
    · split at h <;> first | (rcases mapT_is h with ⟨e, _⟩ | e <;> cases e; done) | simp_all
    · cases h
  · cases h
theorem tiOf_struct {t : TypeId} {fs : List (Nat × Nat × Bool × List Nat)} {n : Nat} {z : List Value} {e : Bool} {fl : Option Sh} (h : tiOf P t = some ⟨.struct fs, n, z, e, fl⟩) :
    ∃ Fs : Array Field, P.underlying t = some (.struct Fs) ∧ (∀ f ∈ Fs.toList, (P.underlying f.type).isSome = true) ∧ fs = Fs.toList.map (fun f => (f.offset, P.cellsOf f.type, aggB P f.type, eqField P f)) ∧
      e = (Fs.toList.all (fun f => !(eqField P f).isEmpty) && Fs.toList.dropLast.all (fun f => !eqn (eqOne P f) 0) && (Fs.toList.map (·.offset) == List.range Fs.size) && !P.stoodInHeld t && !P.eqGuardType P.depth t) := by
  unfold tiOf at h
  split at h
  · split at h
    · split at h
      · cases h
      · cases h
      · rename_i Fs hu
        split at h
        · rename_i hall
          cases h
          exact ⟨Fs, hu, List.all_eq_true.1 hall, rfl, rfl⟩
        · cases h
      · split at h <;> cases h
      · split at h <;> cases h
      · cases h
      · cases h
      · rcases mapT_is h with ⟨e, _⟩ | e <;> cases e
      · cases h
      · cases h
    · cases h
  · cases h
theorem tiOf_array {t : TypeId} {m sz : Nat} {b : Bool} {n : Nat} {z : List Value} {q : Bool} {fl : Option Sh} (h : tiOf P t = some ⟨.array m sz b, n, z, q, fl⟩) :
    ∃ e, P.underlying t = some (.array m e) ∧ (∃ i, P.info? e = some i) ∧ sz = P.cellsOf e := by
  unfold tiOf at h
  split at h
  · split at h
    · split at h
      · cases h
      · cases h
      · split at h <;> cases h
      · rename_i e hu
        split at h
        · rename_i hs
          cases h
          refine ⟨e, hu, ?_, rfl⟩
          unfold Program.underlying at hs
          cases hi : P.info? e with
          | none => simp [hi] at hs
          | some i => exact ⟨i, rfl⟩
        · cases h
      · split at h <;> cases h
      · cases h
      · cases h
      · rcases mapT_is h with ⟨e, _⟩ | e <;> cases e
      · cases h
      · cases h
    · cases h
  · cases h
theorem tiOf_array' {t : TypeId} {m sz : Nat} {b : Bool} {n : Nat} {z : List Value} {q : Bool} {fl : Option Sh} (h : tiOf P t = some ⟨.array m sz b, n, z, q, fl⟩) :
    ∃ e, P.underlying t = some (.array m e) ∧ (∃ i, P.info? e = some i) ∧ sz = P.cellsOf e ∧ (aggB P e = b ∧ ∃ d, P.underlying e = some d) := by
  unfold tiOf at h
  split at h
  · split at h
    · split at h
      · cases h
      · cases h
      · split at h <;> cases h
      · rename_i e hu
        split at h
        · rename_i hs
          cases h
          obtain ⟨d, hd⟩ := Option.isSome_iff_exists.1 hs
          refine ⟨e, hu, ?_, rfl, rfl, d, hd⟩
          unfold Program.underlying at hs
          cases hi : P.info? e with
          | none => simp [hi] at hs
          | some i => exact ⟨i, rfl⟩
        · cases h
      · split at h <;> cases h
      · cases h
      · cases h
      · rcases mapT_is h with ⟨e, _⟩ | e <;> cases e
      · cases h
      · cases h
    · cases h
  · cases h
theorem tiOf_array_eq {t : TypeId} {m sz : Nat} {b : Bool} {n : Nat} {z : List Value} {fl : Option Sh} (h : tiOf P t = some ⟨.array m sz b, n, z, true, fl⟩) :
    ∃ e, P.underlying t = some (.array m e) ∧ (∃ i, P.info? e = some i) ∧ arrEq P t e = true := by
  unfold tiOf at h
  split at h
  · split at h
    · split at h
      · cases h
      · cases h
      · split at h <;> cases h
      · rename_i e hu
        split at h
        · rename_i hs
          injection h with h
          injection h with h1 _ _ h4 _
          injection h1 with h1
          subst h1
          refine ⟨e, hu, ?_, h4⟩
          unfold Program.underlying at hs
          cases hi : P.info? e with
          | none => simp [hi] at hs
          | some i => exact ⟨i, rfl⟩
        · cases h
      · split at h <;> cases h
      · cases h
      · cases h
      · rcases mapT_is h with ⟨e, _⟩ | e <;> cases e
      · cases h
      · cases h
    · cases h
  · cases h
theorem tiOf_slice {t : TypeId} {e : TypeId} {m : Nat} {n : Nat} {z : List Value} {q : Bool} {fl : Option Sh} (h : tiOf P t = some ⟨.slice e m, n, z, q, fl⟩) :
    P.underlying t = some (.slice e) ∧ (∃ i, P.info? e = some i) ∧ m = P.cellsOf e := by
  unfold tiOf at h
  split at h
  · split at h
    · split at h
      · cases h
      · cases h
      · split at h <;> cases h
      · split at h <;> cases h
      · rename_i e' hu
        split at h
        · rename_i hs
          cases h
          refine ⟨hu, ?_, rfl⟩
          unfold Program.underlying at hs
          cases hi : P.info? e with
          | none => simp [hi] at hs
          | some i => exact ⟨i, rfl⟩
        · cases h
      · cases h
      · cases h
      · rcases mapT_is h with ⟨e, _⟩ | e <;> cases e
      · cases h
      · cases h
    · cases h
  · cases h
theorem tiOf_str {t : TypeId} {n : Nat} {z : List Value} {q : Bool} {fl : Option Sh} (h : tiOf P t = some ⟨.str, n, z, q, fl⟩) : P.underlying t = some .string := by
  unfold tiOf at h
  split at h
  · split at h
    · split at h
      · cases h
      · cases h
      · split at h <;> cases h
      · split at h <;> cases h
      · split at h <;> cases h
      · rename_i hu
        exact hu
      · cases h
      · rcases mapT_is h with ⟨e, _⟩ | e <;> cases e
      · cases h
      · cases h
    · cases h
  · cases h
theorem tiOf_ptr {t : TypeId} {n : Nat} {z : List Value} {q : Bool} {fl : Option Sh} (h : tiOf P t = some ⟨.ptr, n, z, q, fl⟩) : P.underlying t = some (.pointer (P.pointee t)) := by
  unfold tiOf at h
  split at h
  · split at h
    · split at h
      · cases h
      · cases h
      · split at h <;> cases h
      · split at h <;> cases h
      · split at h <;> cases h
      · cases h
      · rename_i hu
        simp [Program.pointee, hu]
      · rcases mapT_is h with ⟨e, _⟩ | e <;> cases e
      · cases h
      · cases h
    · cases h
  · cases h
/-- What a type's row says besides. -/
theorem tiOf_info {t : TypeId} {ti : TI} (h : tiOf P t = some ti) : ∃ i z d, P.info? t = some i ∧ i.zero = some z ∧ P.underlying t = some d ∧ ti.size = i.size ∧ ti.zero = z.cells.toList ∧
    aggB P t = ti.k.agg := by
  unfold tiOf at h
  split at h
  · rename_i i hi
    split at h
    · rename_i z hz
      split at h
      · rename_i hu
        cases h
        exact ⟨i, z, _, hi, hz, hu, rfl, rfl, by unfold aggB; rw [hu]; rfl⟩
      · rename_i hu
        cases h
        exact ⟨i, z, _, hi, hz, hu, rfl, rfl, by unfold aggB; rw [hu]; rfl⟩
      · rename_i hu
        split at h
        · cases h
          exact ⟨i, z, _, hi, hz, hu, rfl, rfl, by unfold aggB; rw [hu]; rfl⟩
        · cases h
      · rename_i hu
        split at h
        · cases h
          exact ⟨i, z, _, hi, hz, hu, rfl, rfl, by unfold aggB; rw [hu]; rfl⟩
        · cases h
      · rename_i hu
        split at h
        · cases h
          exact ⟨i, z, _, hi, hz, hu, rfl, rfl, by unfold aggB; rw [hu]; rfl⟩
        · cases h
      · rename_i hu
        cases h
        exact ⟨i, z, _, hi, hz, hu, rfl, rfl, by unfold aggB; rw [hu]; rfl⟩
      · rename_i hu
        cases h
        exact ⟨i, z, _, hi, hz, hu, rfl, rfl, by unfold aggB; rw [hu]; rfl⟩
      · rename_i hu
        rcases mapT_is h with ⟨e, _⟩ | e <;> (cases e; exact ⟨i, z, _, hi, hz, hu, rfl, rfl, by unfold aggB; rw [hu]; rfl⟩)
      · rename_i d h1 h2 h3 h4 h5 h6 h7 h8 hu
        cases h
        refine ⟨i, z, _, hi, hz, hu, rfl, rfl, ?_⟩
        unfold aggB
        rw [hu]
        cases d <;> first
          | rfl
          | exact (h3 _ rfl).elim
          | exact (h4 _ _ rfl).elim
      · cases h
    · cases h
  · cases h

theorem bytes_eq (u v : ByteArray) : (u.toList == v.toList) = decide (bytesL u = bytesL v) := by
  rw [ByteArray.toList_eq, ByteArray.toList_eq, Bool.eq_iff_iff, beq_iff_eq, decide_eq_true_eq]
  constructor
  · intro h
    unfold bytesL
    rw [h]
  · intro h
    unfold bytesL at h
    exact List.map_inj_right (fun a b hab => UInt8.toNat_inj.1 (by exact_mod_cast hab)) |>.1 h
theorem bytes_lt : ∀ (u v : List UInt8), Op.bytesLess u v = ltInts (u.map fun b => (b.toNat : Int)) (v.map fun b => (b.toNat : Int))
  | [], [] => rfl
  | [], _ :: _ => rfl
  | _ :: _, [] => rfl
  | a :: x, b :: y => by
    have e1 : decide (a < b) = decide ((a.toNat : Int) < (b.toNat : Int)) := by
      rw [Bool.eq_iff_iff, decide_eq_true_eq, decide_eq_true_eq, UInt8.lt_iff_toNat_lt]
      omega
    have e2 : (a == b) = ((a.toNat : Int) == (b.toNat : Int)) := by
      rw [Bool.eq_iff_iff, beq_iff_eq, beq_iff_eq, ← UInt8.toNat_inj]
      omega
    simp only [Op.bytesLess, List.map_cons, ltInts, e1, e2, bytes_lt x y]
theorem str_lt (u v : ByteArray) : Op.bytesLess u.toList v.toList = ltInts (bytesL u) (bytesL v) := by
  rw [ByteArray.toList_eq, ByteArray.toList_eq]
  exact bytes_lt _ _
theorem lt_total : ∀ (l m : List Int), ltInts m l = !(ltInts l m || decide (l = m))
  | [], [] => rfl
  | [], _ :: _ => rfl
  | _ :: _, [] => rfl
  | a :: x, b :: y => by
    have ih := lt_total x y
    simp only [ltInts, List.cons.injEq]
    rcases Int.lt_trichotomy a b with h | rfl | h
    · have : ¬ b < a := by omega
      have h2 : ¬ b = a := by omega
      simp [h, this, h2]
    · simp [ih]
    · have : ¬ a < b := by omega
      have h2 : ¬ a = b := by omega
      simp [h, this, h2]
theorem str_add (u v : ByteArray) : bytesL (u ++ v) = bytesL u ++ bytesL v := by
  unfold bytesL
  rw [ByteArray.data_append]
  simp
theorem eqPtr_ok {c d : SC} {r : Bool} {u v : Value} (h : eqPtr G.h c d = some r) (hc : c.is G u) (hd : d.is G v) : ∃ A, u = .pointer A ∧ v = .pointer none ∧ r = A.isNone := by
  unfold eqPtr at h
  split at h
  · cases h
    exact ⟨none, hc, hd, rfl⟩
  · rename_i n off
    have e1 : ptrAt G n off u := hc.2
    unfold ptrAt at e1
    split at h
    · rename_i hh
      cases h
      simp only [hh] at e1
      obtain ⟨g, _, e1⟩ := e1
      exact ⟨_, e1, hd, rfl⟩
    · rename_i hh
      cases h
      simp only [hh] at e1
      obtain ⟨g, _, e1⟩ := e1
      exact ⟨_, e1, hd, rfl⟩
    · cases h
  · cases h
theorem eqin_nil (w : World) (d : Nat) (t e : TypeId) (a : Option Addr) (l c : Nat) (h : P.underlying t = some (.slice e)) : (Op.equalIn (d + 1) t (.slice a l c) (.slice none 0 0)).run P w = .ok a.isNone w := by cases a <;> simp [Op.equalIn, run_underlying h]
theorem eqnil_run (w : World) (t e : TypeId) (a : Option Addr) (l c : Nat) (h : P.underlying t = some (.slice e)) : (binOp .eql t (.slice a l c) (.slice none 0 0)).run P w = .ok (.bool a.isNone) w := by
  have k : (Op.equalIn 10000 t (.slice a l c) (.slice none 0 0)).run P w = .ok a.isNone w := eqin_nil w 9999 t e a l c h
  simp only [binOp]
  simp [Op.equal, Op.maxDepth, k]
theorem nenil_run (w : World) (t e : TypeId) (a : Option Addr) (l c : Nat) (h : P.underlying t = some (.slice e)) : (binOp .neq t (.slice a l c) (.slice none 0 0)).run P w = .ok (.bool (!a.isNone)) w := by
  have k : (Op.equalIn 10000 t (.slice a l c) (.slice none 0 0)).run P w = .ok a.isNone w := eqin_nil w 9999 t e a l c h
  simp only [binOp]
  simp [Op.equal, Op.maxDepth, k]
theorem eqSl_ok {c d : SC} {q : Prop} {r : Bool} {u v : Value} (h : eqSl Ar.std c d = some (q, r)) (hq : q) (hc : c.is G u) (hd : d.is G v) : ∃ A n k, u = .slice A n k ∧ v = .slice none 0 0 ∧ r = A.isNone := by
  unfold eqSl at h
  split at h
  · cases h
    exact ⟨none, 0, 0, hc, hd, rfl⟩
  · rename_i c
    cases h
    have hc : c.is G u := hc.1
    cases c with
    | ints k l =>
      have hq : decide (((l.length : Nat) : Int) > 0) = true := hq
      have hq := of_decide_eq_true hq
      obtain ⟨A, c, e, _, _, f⟩ := hc
      obtain ⟨b, o, rfl, _⟩ := f (fun g => by rw [g] at hq; exact absurd hq (by decide))
      exact ⟨_, _, _, e, hd, rfl⟩
    | recs k l =>
      have hq : decide (((l.length : Nat) : Int) > 0) = true := hq
      have hq := of_decide_eq_true hq
      obtain ⟨A, c, e, _, _, f⟩ := hc
      obtain ⟨b, o, rfl, _⟩ := f (fun g => by rw [g] at hq; exact absurd hq (by decide))
      exact ⟨_, _, _, e, hd, rfl⟩
  · cases h
theorem bin1_ok (hc : CxOk P cx) (hr : Rep bs gv st ν a w) {o : Oper} {op : BinOp} {t t' : TypeId} {x y : Operand} (ho : o.op = .binOp op t x y t') {s : Prop} {c d : SC} {E : Eff} (h : effB1 Ar.std cx st.heap op t s c d = some E)
    (hx : s → c.is (gg bs st ν w) (a.eval x)) (hy : s → d.is (gg bs st ν w) (a.eval y)) (hs : E.side) : Runs P o a w (Res bs st ν w E) := by
  have main : ∀ v : Value, (do eqGuard op t x y (a.eval x) (a.eval y); binOp op t (a.eval x) (a.eval y)).run P w = .ok v w → (execOp a.eval o).run P w = .ok (.value v) w := by
    intro v hv
    simp only [execOp, ho]
    rw [Sem.run_bind, hv]
    rfl
  unfold effB1 at h
  simp only [lit_std] at h
  split at h
  · rename_i k m k' n h1 h2
    split at h
    · refine mk1_res hr.mem h (fun hs => main _ ?_) (fun hs => mkI_is rfl) hs
      cases h
      rw [int?_is h1 (hx hs.1), int?_is h2 (hy hs.1)]
      exact run_sh _ _ _ _ _ _ _ _ (.inl rfl) hs.2
    · refine mk1_res hr.mem h (fun hs => main _ ?_) (fun hs => mkI_is rfl) hs
      cases h
      rw [int?_is h1 (hx hs.1), int?_is h2 (hy hs.1)]
      exact run_sh _ _ _ _ _ _ _ _ (.inr rfl) hs.2
    · split at h
      · obtain rfl := kindEq_eq ‹_›
        refine mk1_res hr.mem h (fun hs => main _ ?_) (fun hs => mkI_is rfl) hs
        cases h
        rw [int?_is h1 (hx hs.1), int?_is h2 (hy hs.1)]
        exact run_div _ _ _ _ _ _ _ (.inl rfl) hs.2
      · cases h
    · split at h
      · obtain rfl := kindEq_eq ‹_›
        refine mk1_res hr.mem h (fun hs => main _ ?_) (fun hs => mkI_is rfl) hs
        cases h
        rw [int?_is h1 (hx hs.1), int?_is h2 (hy hs.1)]
        exact run_div _ _ _ _ _ _ _ (.inr rfl) hs.2
      · cases h
    · split at h
      · obtain rfl := kindEq_eq ‹_›
        split at h
        · refine mk1_res hr.mem h (fun hs => main _ ?_) (fun hs => mkI_is rfl) hs
          cases h
          rw [int?_is h1 (hx hs), int?_is h2 (hy hs)]
          exact run_int _ _ _ _ _ _ _ ‹_›
        · split at h
          · refine mk1_res hr.mem h (fun hs => main _ ?_) (fun hs => mkB_is rfl) hs
            cases h
            rw [int?_is h1 (hx hs), int?_is h2 (hy hs)]
            exact run_cmp _ _ _ _ _ _ _ ‹_›
          · cases h
      · cases h
  · split at h
    · rename_i m n h1 h2
      split at h
      · rename_i _ _ _ _ hl
        have hu := tiOf_bool (hc.tt _ _ hl)
        split at h
        · refine mk1_res hr.mem h (fun hs => main _ ?_) (fun hs => mkB_is rfl) hs
          cases h
          rw [bool?_is h1 (hx hs), bool?_is h2 (hy hs)]
          simp [eqGuard, binOp, Op.equal, Op.maxDepth, run_equalIn_bool' w 9999 t m n hu, Ar.std]
        · refine mk1_res hr.mem h (fun hs => main _ ?_) (fun hs => mkB_is rfl) hs
          cases h
          rw [bool?_is h1 (hx hs), bool?_is h2 (hy hs)]
          simp [eqGuard, binOp, Op.equal, Op.maxDepth, run_equalIn_bool' w 9999 t m n hu, Ar.std]
        · cases h
      · cases h
    · split at h
      · rename_i l m _ _
        have run : s → ∃ u v, a.eval x = .string u ∧ a.eval y = .string v ∧ (u.toList == v.toList) = decide (l = m) := by
          intro hn
          obtain ⟨u, e1, rfl⟩ := hx hn
          obtain ⟨v, e2, rfl⟩ := hy hn
          exact ⟨u, v, e1, e2, bytes_eq u v⟩
        split at h
        · refine mk1_res hr.mem h (fun hs => main _ ?_) (fun hs => rfl) hs
          cases h
          obtain ⟨u, v, e1, e2, e3⟩ := run hs
          rw [e1, e2]
          simp only [eqGuard_at_string, binOp, Op.stringOp, Sem.run_bind, Sem.run_pure, Result.andThen_ok, e3]
          rfl
        · refine mk1_res hr.mem h (fun hs => main _ ?_) (fun hs => rfl) hs
          cases h
          obtain ⟨u, v, e1, e2, e3⟩ := run hs
          rw [e1, e2]
          simp only [eqGuard_at_string, binOp, Op.stringOp, Sem.run_bind, Sem.run_pure, Result.andThen_ok, e3]
          rfl
        · have run2 : s → ∃ u v, a.eval x = .string u ∧ a.eval y = .string v ∧ bytesL u = l ∧ bytesL v = m := fun hn => by
            obtain ⟨u, e1, e2⟩ := hx hn
            obtain ⟨v, e3, e4⟩ := hy hn
            exact ⟨u, v, e1, e3, e2, e4⟩
          cases h
          obtain ⟨u, v, e1, e2, e3, e4⟩ := run2 hs.1
          have hfit : ¬ ((u.size + v.size : Nat) : Int) > IntKind.i64.max := by
            have h2 : decide (((l ++ m).length : Int) * ((1 : Nat) : Int) ≤ 140737488355328) = true := hs.2
            have h2 := of_decide_eq_true h2
            rw [← e3, ← e4, List.length_append] at h2
            have z1 : (bytesL u).length = u.size := by simp [bytesL]
            have z2 : (bytesL v).length = v.size := by simp [bytesL]
            rw [z1, z2] at h2
            have z3 : IntKind.i64.max = 9223372036854775807 := by decide
            rw [z3]
            omega
          refine runs_value (main (.string (u ++ v)) ?_) (res_pure hr.mem ⟨_, rfl, by rw [str_add, e3, e4]; rfl⟩)
          rw [e1, e2]
          simp only [eqGuard_at_string, binOp, Op.stringOp, Sem.run_bind, Sem.run_pure, Result.andThen_ok, if_neg hfit]
        all_goals first
          | (refine mk1_res hr.mem h (fun hs => main _ ?_) (fun hs => rfl) hs
             cases h
             obtain ⟨u, v, e1, e2, e3⟩ := run hs
             have run2 : Op.bytesLess u.toList v.toList = ltInts l m := by
               obtain ⟨u', f1, f2⟩ := hx hs
               obtain ⟨v', f3, f4⟩ := hy hs
               rw [e1] at f1
               rw [e2] at f3
               cases f1
               cases f3
               rw [str_lt, f2, f4]
             rw [e1, e2]
             simp only [eqGuard_at_string, binOp, Op.stringOp, Sem.run_bind, Sem.run_pure, Result.andThen_ok, e3, run2]
             first | rfl | (simp only [Ar.std, lt_total l m, Bool.not_not]))
          | cases h
      · split at h
        · rename_i r _ _ _ _ hr' hl
          have hu := tiOf_ptr (hc.tt _ _ hl)
          have run : s → ∃ A, a.eval x = .pointer A ∧ a.eval y = .pointer none ∧ r = A.isNone := fun hn => eqPtr_ok hr' (hx hn) (hy hn)
          split at h
          · refine mk1_res hr.mem h (v := .bool r) (fun hs => main _ ?_) (fun hs => rfl) hs
            cases h
            obtain ⟨A, e1, e2, rfl⟩ := run hs
            rw [e1, e2]
            simp [eqGuard, run_eql_pointer_nil w t A hu]
          · refine mk1_res hr.mem h (v := .bool (!r)) (fun hs => main _ ?_) (fun hs => rfl) hs
            cases h
            obtain ⟨A, e1, e2, rfl⟩ := run hs
            rw [e1, e2]
            simp [eqGuard, run_neq_pointer_nil w t A hu]
          · cases h
        · rename_i hl
          obtain ⟨hu, _, _⟩ := tiOf_slice (hc.tt _ _ hl)
          split at h
          · rename_i q r hr'
            have run : s → q → ∃ A n k, a.eval x = .slice A n k ∧ a.eval y = .slice none 0 0 ∧ r = A.isNone := fun hn hq => eqSl_ok hr' hq (hx hn) (hy hn)
            split at h
            · refine mk1_res hr.mem h (v := .bool r) (fun hs => main _ ?_) (fun hs => rfl) hs
              cases h
              obtain ⟨A, n, k, e1, e2, rfl⟩ := run hs.1 hs.2
              rw [e1, e2]
              simp [eqGuard, eqnil_run w t _ A n k hu]
            · refine mk1_res hr.mem h (v := .bool (!r)) (fun hs => main _ ?_) (fun hs => rfl) hs
              cases h
              obtain ⟨A, n, k, e1, e2, rfl⟩ := run hs.1 hs.2
              rw [e1, e2]
              simp [eqGuard, nenil_run w t _ A n k hu]
            · cases h
          · cases h
        · cases h
theorem bin_ok (hc : CxOk P cx) (hr : Rep bs gv st ν a w) {o : Oper} {op : BinOp} {t t' : TypeId} {x y : Operand} (ho : o.op = .binOp op t x y t') {E : Eff} (h : effBin Ar.std cx st.heap op t (evalE st x) (evalE st y) = some E) (hs : E.side) : Runs P o a w (Res bs st ν w E) := by
  have main : ∀ v : Value, (do eqGuard op t x y (a.eval x) (a.eval y); binOp op t (a.eval x) (a.eval y)).run P w = .ok v w → (execOp a.eval o).run P w = .ok (.value v) w := by
    intro v hv
    simp only [execOp, ho]
    rw [Sem.run_bind, hv]
    rfl
  have hx := evalE_is hr x
  have hy := evalE_is hr y
  unfold effBin at h
  split at h
  · rename_i c d hex hey
    refine bin1_ok hc hr ho h (fun hn => ?_) (fun hn => ?_) hs
    · have := hx.need hn.1; rw [hex] at this; exact this
    · have := hy.need hn.2; rw [hey] at this; exact this
  · rename_i cs ds hex hey
    split at h
    · rename_i fs _ _ _ hl
      obtain ⟨Fs, hu, _, hfs, he⟩ := tiOf_struct (hc.tt _ _ hl)
      simp only [eq_comm (a := true), Bool.and_eq_true, Bool.not_eq_true', beq_iff_eq] at he
      obtain ⟨⟨⟨⟨ha, hd⟩, h2⟩, h3⟩, h4⟩ := he
      have hfo : P.fieldsOf t = Fs := by simp [Program.fieldsOf, hu]
      have run : ∀ r, eqCells Ar.std (fs.flatMap fun f => f.2.2.2) cs ds = some r → need (evalE st x).g ∧ need (evalE st y).g → ∃ xs ys : List Value, a.eval x = .agg xs.toArray ∧ a.eval y = .agg ys.toArray ∧ (Op.equalIn 10000 t (.agg xs.toArray) (.agg ys.toArray)).run P w = .ok r w := by
        intro r hr' hn
        have e1 := hx.need hn.1
        have e2 := hy.need hn.2
        rw [hex] at e1
        rw [hey] at e2
        obtain ⟨xs, e1, i1⟩ := e1
        obtain ⟨ys, e2, i2⟩ := e2
        refine ⟨xs, ys, e1, e2, ?_⟩
        rw [run_equalIn_struct w 9999 t _ _ (by rw [hfo]; exact hu) h3, hfo]
        refine eqFields_ok 9997 xs ys Fs.toList 0 cs ds r ?_ hd ha i1 i2 ?_
        · rw [h2, List.range_eq_range']
          simp
        · rw [hfs] at hr'
          rw [List.flatMap_map] at hr'
          exact hr'
      split at h
      · rename_i r hr'
        split at h
        · refine mk1_res hr.mem h (v := .bool r) (fun hs => main _ ?_) (fun hs => rfl) hs
          cases h
          obtain ⟨xs, ys, e1, e2, hrun⟩ := run r hr' hs
          rw [e1, e2, Sem.run_bind, run_eqGuard_agg w _ _ _ _ _ _ h4]
          simp [run_eql_struct, hrun]
        · refine mk1_res hr.mem h (v := .bool (!r)) (fun hs => main _ ?_) (fun hs => rfl) hs
          cases h
          obtain ⟨xs, ys, e1, e2, hrun⟩ := run r hr' hs
          rw [e1, e2, Sem.run_bind, run_eqGuard_agg w _ _ _ _ _ _ h4]
          simp [run_neq_struct, hrun]
        · cases h
      · cases h
    · rename_i n _ _ _ _ _ hl
      obtain ⟨e, hu, ⟨ie, hie⟩, he⟩ := tiOf_array_eq (hc.tt _ _ hl)
      simp only [arrEq, Bool.and_eq_true, Bool.not_eq_true'] at he
      obtain ⟨⟨h1, h2⟩, h4⟩ := he
      obtain ⟨ke, hke⟩ : ∃ ke, P.underlying e = some (.int ke) := by
        split at h1
        · exact ⟨_, ‹_›⟩
        · cases h1
      have h2' : P.cellsOf e = 1 := eqn_eq h2
      have run : ∀ r, eqCells Ar.std (List.replicate n 1) cs ds = some r → need (evalE st x).g ∧ need (evalE st y).g → ∃ xs ys : List Value, a.eval x = .agg xs.toArray ∧ a.eval y = .agg ys.toArray ∧ (Op.equalIn 10000 t (.agg xs.toArray) (.agg ys.toArray)).run P w = .ok r w := by
        intro r hr' hn
        have e1 := hx.need hn.1
        have e2 := hy.need hn.2
        rw [hex] at e1
        rw [hey] at e2
        obtain ⟨xs, e1, i1⟩ := e1
        obtain ⟨ys, e2, i2⟩ := e2
        refine ⟨xs, ys, e1, e2, ?_⟩
        rw [run_equalIn_array w 9999 _ _ hu hie, h2', List.range_eq_range']
        exact eqItems_ok 9998 hke xs ys n 0 cs ds r i1 i2 hr'
      split at h
      · rename_i r hr'
        split at h
        · refine mk1_res hr.mem h (v := .bool r) (fun hs => main _ ?_) (fun hs => rfl) hs
          cases h
          obtain ⟨xs, ys, e1, e2, hrun⟩ := run r hr' hs
          rw [e1, e2, Sem.run_bind, run_eqGuard_agg w _ _ _ _ _ _ h4]
          simp [run_eql_struct, hrun]
        · refine mk1_res hr.mem h (v := .bool (!r)) (fun hs => main _ ?_) (fun hs => rfl) hs
          cases h
          obtain ⟨xs, ys, e1, e2, hrun⟩ := run r hr' hs
          rw [e1, e2, Sem.run_bind, run_eqGuard_agg w _ _ _ _ _ _ h4]
          simp [run_neq_struct, hrun]
        · cases h
      · cases h
    · cases h
  · cases h
theorem un_ok (hr : Rep bs gv st ν a w) {o : Oper} {op : UnOp} {t : TypeId} {x : Operand} (ho : o.op = .unOp op t x) {E : Eff} (h : effUn Ar.std op (evalE st x) = some E) (hs : E.side) : Runs P o a w (Res bs st ν w E) := by
  have hx := evalE_is hr x
  unfold effUn at h
  simp only [lit_std] at h
  split at h
  · rename_i g c hex
    rw [hex] at hx
    split at h
    · split at h
      · rename_i b hb
        refine mk1_res hr.mem h (v := .bool (!b)) (fun hs => ?_) (fun hs => mkB_is rfl) hs
        cases h
        have e := bool?_is hb (hx.of hs)
        simp [execOp, ho, e, Op.unary]
      · cases h
    · split at h
      · rename_i k n hb
        refine mk1_res hr.mem h (v := .int k (stdBin .sub k 0 n)) (fun hs => ?_) (fun hs => mkI_is rfl) hs
        cases h
        have e := int?_is hb (hx.of hs)
        simp [execOp, ho, e, Op.unary, Op.intArith, stdBin]
      · cases h
    · split at h
      · rename_i k n hb
        refine mk1_res hr.mem h (v := .int k (stdBin .xor k (if k.signed then -1 else k.max) n)) (fun hs => ?_) (fun hs => mkI_is (by cases k.signed <;> simp [Ar.std])) hs
        cases h
        have e := int?_is hb (hx.of hs)
        simp [execOp, ho, e, Op.unary, intBits_xor, stdBin]
      · cases h
    · cases h
  · cases h
theorem nil_ok (hr : Rep bs gv st ν a w) {o : Oper} {x : Operand} (ho : o.op = .nilCheck x) {E : Eff} (h : effNil (evalE st x) = some E) (hs : E.side) : Runs P o a w (Res bs st ν w E) := by
  have hx := evalE_is hr x
  unfold effNil at h
  split at h
  · rename_i g n off hex
    rw [hex] at hx
    refine mk1_res hr.mem h (v := a.eval x) (fun hs => ?_) (fun hs => ?_) hs
    · cases h
      obtain ⟨⟨A, e⟩, _⟩ := hx.of hs
      simp [execOp, ho, e]
    · cases h
      exact hx.of hs
  · rename_i g n i j hex
    rw [hex] at hx
    refine mk1_res hr.mem h (v := a.eval x) (fun hs => ?_) (fun hs => ?_) hs
    · cases h
      obtain ⟨⟨A, e⟩, _⟩ := hx.of hs
      simp [execOp, ho, e]
    · cases h
      exact hx.of hs
  · cases h
theorem sasIs.get : ∀ {xs : List SA} {vs : List Value} (i : Nat) {x : SA}, sasIs G xs vs → xs[i]? = some x → ∃ v, vs[i]? = some v ∧ x.is G v
  | [], [], _, _, _, hi => by simp at hi
  | _ :: _, _ :: _, 0, _, ⟨a, _⟩, hi => by simp at hi; subst hi; exact ⟨_, rfl, a⟩
  | _ :: _, _ :: _, i + 1, _, ⟨_, b⟩, hi => by
    obtain ⟨v, h1, h2⟩ := sasIs.get i b (by simpa using hi)
    exact ⟨v, by simpa using h1, h2⟩
theorem extract_ok (hr : Rep bs gv st ν a w) {o : Oper} {x : Operand} {i : Nat} (ho : o.op = .extract x i) {E : Eff} (h : effExtract i (evalE st x) = some E) (hs : E.side) : Runs P o a w (Res bs st ν w E) := by
  have hx := evalE_is hr x
  unfold effExtract at h
  split at h
  · rename_i g xs hex
    rw [hex] at hx
    split at h
    · rename_i y hy
      cases h
      obtain ⟨vs, e, hvs⟩ := hx.of hs
      obtain ⟨v, h1, h2⟩ := hvs.get i hy
      refine runs_value (v := v) (w' := w) ?_ (res_pure hr.mem (e := ⟨none, _⟩) h2)
      have h1' : vs.toArray[i]? = some v := by simpa using h1
      simp only [execOp, ho, e, Instr.extract, Sem.run_bind, h1', Sem.run_pure, Result.andThen_ok]
    · cases h
  · cases h
end
end Go.Proofs.Ytakebkfhigadiaa.Ry
