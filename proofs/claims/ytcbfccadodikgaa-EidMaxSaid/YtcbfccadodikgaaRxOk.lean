/-
  The reckoner's rules hold in the model. No condition.
-/
import Derived.Test.YtcbfccadodikgaaRx
import Derived.Test.YtcbfccadodikgaaLaw
import Derived.Great.BuildSlice
namespace Go.Proofs.Ytcbfccadodikgaa.Rx
open Go Go.RowKit

/-! ## What a symbolic value stands for -/
def live (h : List (Option Blk)) (b : Nat) : Prop := ∃ t cs, h[b]? = some (some (.cells t cs))
def tokOn (h : List (Option Blk)) (id c : Nat) : Prop := h[id]? = some (some (.tok c true))
/-- The names of blocks; the ends of rows that may be appended to in place; the old cells that may be read; the world. -/
structure Gm where
  ρ : Nat → Nat
  h : List (Option Blk)
  σ : Nat → Option (Nat × Nat)
  S : Nat → Nat → Prop
  B : Nat
  w : World
/-- A cell that nobody will write. -/
structure Gm.ok (G : Gm) (b j : Nat) : Prop where
  lt : b < G.w.heap.size
  old : b < G.B → G.S b j
  blk : ∀ n, live G.h n → G.ρ n ≠ b
  tok : ∀ id c, tokOn G.h id c → ∀ g m, G.σ id = some (g, m) → g = b → j < m
structure cellAt (G : Gm) (b j : Nat) (u : Value) : Prop where
  ok : G.ok b j
  cell : G.w.cell? ⟨b, j, none⟩ = some u
  one : u.oneCell' = true
def rowIs (G : Gm) (sz : Nat) {α : Type} (P : α → List Value → Prop) (l : List α) (v : Value) : Prop :=
  ∃ A c, v = .slice A l.length c ∧ l.length ≤ c ∧ c ≤ maxLen ∧ (l ≠ [] → ∃ b o, A = some ⟨b, o, none⟩ ∧ ∀ i x, l[i]? = some x → ∃ us : List Value, us.length = sz ∧ P x us ∧ ∀ j u, us[j]? = some u → cellAt G b (o + i * sz + j) u)
def intsIs (G : Gm) (k : IntKind) (l : List Int) (v : Value) : Prop := rowIs G 1 (fun n us => us = [.int k n]) l v
def valsIs (G : Gm) : Sh → E → Nat → List Value → Prop
  | .nil, _, _, vs => vs = []
  | .int k r, x, j, vs => ∃ us, vs = .int k (ri x j) :: us ∧ valsIs G r x (j + 1) us
  | .bool r, x, j, vs => ∃ us, vs = .bool (rb x j) :: us ∧ valsIs G r x (j + 1) us
  | .ints k r, x, j, vs => ∃ u us, vs = u :: us ∧ intsIs G k (rl x j) u ∧ valsIs G r x (j + 1) us
  | .recs s r, x, j, vs => ∃ u us, vs = u :: us ∧ rowIs G s.size (fun y us => valsIs G s y 0 us) (rr x j) u ∧ valsIs G r x (j + 1) us
def Ct.is (G : Gm) : Ct → Value → Prop
  | .ints k l, v => intsIs G k l v
  | .recs s l, v => rowIs G s.size (fun y us => valsIs G s y 0 us) l v
/-- A row that may be appended to in place. -/
def TokOk (G : Gm) (sz : Nat) (v : Value) : Option (Nat × Nat × TypeId) → Prop
  | none => True
  | some (id, ver, e) => ∃ c al, G.h[id]? = some (some (.tok c al)) ∧ ver ≤ c ∧ (ver = c → al = true → ∃ n xs, G.w.ownsRow G.B e sz v n xs ∧ G.σ id = v.ownBlock.map fun g => (g, n * sz))
def SC.is (G : Gm) : SC → Value → Prop
  | .any, _ => True
  | .val u, v => v = u
  | .ptr b off, v => live G.h b ∧ v = .pointer (some ⟨G.ρ b, off, none⟩)
  | .str l, v => ∃ s, v = .string s ∧ bytesL s = l
  | .sl tk c, v => c.is G v ∧ TokOk G c.sz v tk
  | .rpi k n, v => ∃ b o, v = .pointer (some ⟨b, o, none⟩) ∧ cellAt G b o (.int k n)
  | .rpe s x j, v => ∃ b o us, v = .pointer (some ⟨b, o, none⟩) ∧ valsIs G s x j us ∧ ∀ i u, us[i]? = some u → cellAt G b (o + i) u
def cellsIs (G : Gm) : List SC → List Value → Prop
  | [], [] => True
  | c :: cs, v :: vs => (c.is G v ∧ v.oneCell' = true) ∧ cellsIs G cs vs
  | _, _ => False
def SA.is (G : Gm) : SA → Value → Prop
  | .one c, v => c.is G v
  | .agg cs, v => ∃ vs : List Value, v = .agg vs.toArray ∧ cellsIs G cs vs
def sasIs (G : Gm) : List SA → List Value → Prop
  | [], [] => True
  | c :: cs, v :: vs => c.is G v ∧ sasIs G cs vs
  | _, _ => False
def SV.is (G : Gm) : SV → Value → Prop
  | .sa x, v => x.is G v
  | .tup xs, v => ∃ vs : List Value, v = .tuple vs.toArray ∧ sasIs G xs vs
def Ent.is (G : Gm) (e : Ent) (v : Value) : Prop :=
  match e.g with
  | none => e.v.is G v
  | some true => e.v.is G v
  | some false => v = undef
structure Mem (W0 : World) (G : Gm) : Prop where
  below : Below W0.heap.size W0 G.w
  base : G.B = W0.heap.size
  blk : ∀ b t cs, G.h[b]? = some (some (.cells t cs)) → W0.heap.size ≤ G.ρ b ∧ ∃ vs : List Value, G.w.heap[G.ρ b]? = some (.cells vs.toArray t (0, 0)) ∧ cellsIs G cs vs
  inj : ∀ b b', live G.h b → live G.h b' → G.ρ b = G.ρ b' → b = b'
  tok : ∀ id c, tokOn G.h id c → ∀ g m, G.σ id = some (g, m) → W0.heap.size ≤ g ∧ g < G.w.heap.size ∧ ∀ n, live G.h n → G.ρ n ≠ g
  apart : ∀ id id' c c', tokOn G.h id c → tokOn G.h id' c' → ∀ g m m', G.σ id = some (g, m) → G.σ id' = some (g, m') → id = id'
/-- The symbolic state's meaning, in a world. -/
def gg (W0 : World) (S : Nat → Nat → Prop) (st : St) (ρ : Nat → Nat) (σ : Nat → Option (Nat × Nat)) (w : World) : Gm := ⟨ρ, st.heap, σ, S, W0.heap.size, w⟩
structure Rep (W0 : World) (S : Nat → Nat → Prop) (st : St) (ρ : Nat → Nat) (σ : Nat → Option (Nat × Nat)) (a : Act) (w : World) : Prop where
  size : a.tmps.size = st.slots.length
  slot : ∀ (t : Nat) (e : Ent), st.slots[t]? = some e → e.is (gg W0 S st ρ σ w) (a.tmps.getD t undef)
  defers : a.defers = []
  mem : Mem W0 (gg W0 S st ρ σ w)

/-! ## What stays true -/
/-- Cells that nobody writes stay so. -/
structure Sub (G G' : Gm) : Prop where
  ok : ∀ b j, G.ok b j → G'.ok b j
  cell : ∀ b j, G.ok b j → G'.w.cell? ⟨b, j, none⟩ = G.w.cell? ⟨b, j, none⟩
structure Ext (G G' : Gm) : Prop extends Sub G G' where
  same : ∀ b, live G.h b → G'.ρ b = G.ρ b
  live : ∀ b, live G.h b → live G'.h b
  base : G'.B = G.B
  tok : ∀ id c al, G.h[id]? = some (some (.tok c al)) → ∃ c' al', G'.h[id]? = some (some (.tok c' al')) ∧ c ≤ c' ∧ (c' = c → al' = true → al = true ∧ G'.σ id = G.σ id ∧ ∀ g m, G.σ id = some (g, m) → G'.w.heap[g]? = G.w.heap[g]?)
theorem Sub.refl (G : Gm) : Sub G G := ⟨fun _ _ h => h, fun _ _ _ => rfl⟩
theorem Ext.refl (G : Gm) : Ext G G := ⟨Sub.refl G, fun _ _ => rfl, fun _ h => h, rfl, fun _ c al h => ⟨c, al, h, Nat.le_refl _, fun _ h => ⟨h, rfl, fun _ _ _ => rfl⟩⟩⟩
section
variable {G G' : Gm}
theorem cellAt.sub (x : Sub G G') {b j : Nat} {u : Value} (h : cellAt G b j u) : cellAt G' b j u := ⟨x.ok _ _ h.ok, (x.cell _ _ h.ok).trans h.cell, h.one⟩
theorem rowIs.sub (x : Sub G G') {sz : Nat} {α : Type} {P P' : α → List Value → Prop} (hP : ∀ y us, P y us → P' y us) {l : List α} {v : Value} (h : rowIs G sz P l v) : rowIs G' sz P' l v := by
  obtain ⟨A, c, e, h1, h2, h3⟩ := h
  refine ⟨A, c, e, h1, h2, fun hne => ?_⟩
  obtain ⟨b, o, ha, hc⟩ := h3 hne
  refine ⟨b, o, ha, fun i y hy => ?_⟩
  obtain ⟨us, u1, u2, u3⟩ := hc i y hy
  exact ⟨us, u1, hP _ _ u2, fun j u hu => (u3 j u hu).sub x⟩
theorem intsIs.sub (x : Sub G G') {k : IntKind} {l : List Int} {v : Value} (h : intsIs G k l v) : intsIs G' k l v := rowIs.sub x (fun _ _ h => h) h
theorem valsIs.sub (x : Sub G G') : ∀ {s : Sh} {y : E} {j : Nat} {vs : List Value}, valsIs G s y j vs → valsIs G' s y j vs
  | .nil, _, _, _, h => h
  | .int _ _, _, _, _, ⟨us, e, h⟩ => ⟨us, e, valsIs.sub x h⟩
  | .bool _, _, _, _, ⟨us, e, h⟩ => ⟨us, e, valsIs.sub x h⟩
  | .ints _ _, _, _, _, ⟨u, us, e, h1, h⟩ => ⟨u, us, e, h1.sub x, valsIs.sub x h⟩
  | .recs s _, _, _, _, ⟨u, us, e, h1, h⟩ => ⟨u, us, e, rowIs.sub x (fun _ _ h => valsIs.sub (s := s) x h) h1, valsIs.sub x h⟩
theorem Ct.is.sub (x : Sub G G') : ∀ {c : Ct} {v : Value}, c.is G v → c.is G' v
  | .ints _ _, _, h => intsIs.sub x h
  | .recs _ _, _, h => rowIs.sub x (fun _ _ h => valsIs.sub x h) h
theorem TokOk.ext (x : Ext G G') {sz : Nat} {v : Value} : ∀ {tk : Option (Nat × Nat × TypeId)}, TokOk G sz v tk → TokOk G' sz v tk
  | none, _ => trivial
  | some (id, ver, e), h => by
    obtain ⟨c, al, h1, h2, h3⟩ := h
    obtain ⟨c', al', g1, g2, g3⟩ := x.tok id c al h1
    refine ⟨c', al', g1, Nat.le_trans h2 g2, fun hv ha => ?_⟩
    have hcc : c' = c := by omega
    obtain ⟨k1, k2, k3⟩ := g3 hcc ha
    obtain ⟨n, xs, k4, k5⟩ := h3 (by omega) k1
    refine ⟨n, xs, ?_, by rw [k2, k5]⟩
    rw [x.base]
    refine ⟨k4.1, ?_⟩
    rcases k4.2 with hn | ⟨g, cap, cur, rfl, hb, hgg, r⟩
    · exact .inl hn
    · refine .inr ⟨g, cap, cur, rfl, hb, ?_, r⟩
      rw [k3 g (n * sz) (by rw [k5]; rfl)]
      exact hgg
theorem SC.is.ext (x : Ext G G') : ∀ {c : SC} {v : Value}, c.is G v → c.is G' v
  | .any, _, _ => trivial
  | .val _, _, e => e
  | .ptr b _, _, ⟨hb, e⟩ => ⟨x.live b hb, by rw [e, x.same b hb]⟩
  | .str _, _, h => h
  | .sl _ _, _, ⟨h1, h2⟩ => ⟨h1.sub x.toSub, h2.ext x⟩
  | .rpi _ _, _, ⟨b, o, e, h⟩ => ⟨b, o, e, h.sub x.toSub⟩
  | .rpe _ _ _, _, ⟨b, o, us, e, h, hc⟩ => ⟨b, o, us, e, h.sub x.toSub, fun i u hu => (hc i u hu).sub x.toSub⟩
theorem cellsIs.ext (x : Ext G G') : ∀ {cs : List SC} {vs : List Value}, cellsIs G cs vs → cellsIs G' cs vs
  | [], [], _ => trivial
  | _ :: _, _ :: _, ⟨⟨a, b⟩, c⟩ => ⟨⟨a.ext x, b⟩, cellsIs.ext x c⟩
theorem SA.is.ext (x : Ext G G') : ∀ {c : SA} {v : Value}, c.is G v → c.is G' v
  | .one _, _, e => SC.is.ext x e
  | .agg _, _, ⟨vs, e, hc⟩ => ⟨vs, e, hc.ext x⟩
theorem sasIs.ext (x : Ext G G') : ∀ {cs : List SA} {vs : List Value}, sasIs G cs vs → sasIs G' cs vs
  | [], [], _ => trivial
  | _ :: _, _ :: _, ⟨a, c⟩ => ⟨a.ext x, sasIs.ext x c⟩
theorem SV.is.ext (x : Ext G G') : ∀ {c : SV} {v : Value}, c.is G v → c.is G' v
  | .sa _, _, e => SA.is.ext x e
  | .tup _, _, ⟨vs, e, hc⟩ => ⟨vs, e, hc.ext x⟩
theorem Ent.is.ext (x : Ext G G') {e : Ent} {v : Value} (hv : e.is G v) : e.is G' v := by
  unfold Ent.is at *
  split at hv <;> first | exact hv.ext x | exact hv

end

/-! ## Lists of cells -/
section
variable {G : Gm}
theorem cellsIs.len : ∀ {cs : List SC} {vs : List Value}, cellsIs G cs vs → cs.length = vs.length
  | [], [], _ => rfl
  | _ :: _, _ :: _, ⟨_, c⟩ => by simp [cellsIs.len c]
theorem cellsIs.one : ∀ {cs : List SC} {vs : List Value}, cellsIs G cs vs → ∀ v ∈ vs, v.oneCell' = true
  | [], [], _, _, hv => by cases hv
  | _ :: _, _ :: _, ⟨⟨_, b⟩, c⟩, v, hv => by
    rcases List.mem_cons.1 hv with rfl | hv
    · exact b
    · exact cellsIs.one c v hv
theorem cellsIs.drop : ∀ (n : Nat) {cs : List SC} {vs : List Value}, cellsIs G cs vs → cellsIs G (cs.drop n) (vs.drop n)
  | 0, _, _, c => c
  | _ + 1, [], [], _ => trivial
  | n + 1, _ :: _, _ :: _, ⟨_, c⟩ => cellsIs.drop n c
theorem cellsIs.take : ∀ (n : Nat) {cs : List SC} {vs : List Value}, cellsIs G cs vs → cellsIs G (cs.take n) (vs.take n)
  | 0, _, _, _ => by simp [cellsIs]
  | _ + 1, [], [], _ => trivial
  | n + 1, _ :: _, _ :: _, ⟨a, c⟩ => ⟨a, cellsIs.take n c⟩
theorem cellsIs.set : ∀ (n : Nat) {cs : List SC} {vs : List Value} {c : SC} {v : Value}, cellsIs G cs vs → c.is G v → v.oneCell' = true → cellsIs G (cs.set n c) (vs.set n v)
  | _, [], [], _, _, _, _, _ => trivial
  | 0, _ :: _, _ :: _, _, _, ⟨_, c⟩, hc, hv => ⟨⟨hc, hv⟩, c⟩
  | n + 1, _ :: _, _ :: _, _, _, ⟨a, c⟩, hc, hv => ⟨a, cellsIs.set n c hc hv⟩
def pasteV : List Value → Nat → List Value → List Value
  | vs, _, [] => vs
  | vs, off, x :: xs => pasteV (vs.set off x) (off + 1) xs
theorem cellsIs.paste : ∀ {xs : List SC} {us : List Value} (n : Nat) {cs : List SC} {vs : List Value}, cellsIs G cs vs → cellsIs G xs us → cellsIs G (pasteCells cs n xs) (pasteV vs n us)
  | [], [], _, _, _, c, _ => c
  | _ :: _, _ :: _, n, _, _, c, ⟨⟨a, b⟩, d⟩ => cellsIs.paste (n + 1) (c.set n a b) d
theorem pasteV_eq : ∀ (us : List Value) (n : Nat) (vs : List Value), n + us.length ≤ vs.length → pasteV vs n us = vs.take n ++ us ++ vs.drop (n + us.length)
  | [], n, vs, _ => by simp [pasteV]
  | u :: us, n, vs, hn => by
    simp only [List.length_cons] at hn
    rw [pasteV, pasteV_eq us (n + 1) (vs.set n u) (by simp; omega)]
    have hlt : n < vs.length := by omega
    rw [List.drop_set_of_lt (by omega), List.take_add_one, List.take_set_of_le (by omega)]
    simp [hlt, Nat.add_assoc, Nat.add_comm 1]
end

/-! ## The program's tables and contracts -/
/-- What a callee may look at, and what a caller may of what it hands back. -/
def G1 (S : Nat → Nat → Prop) (w w' : World) : Gm := ⟨fun _ => 0, [], fun _ => none, S, w.heap.size, w'⟩
def ConOk (P : Program) (f : FuncId) (con : Con) : Prop :=
  (∃ fn, P.funcs[f]? = some fn ∧ fn.body.isNone = false ∧ (fn.name == "runtime.NumGoroutine") = false) ∧
  ∀ xs C r, con xs = some (C, r) → C → ∀ (S : Nat → Nat → Prop) (vs : List Value) (w : World), sasIs (G1 S w w) xs vs →
    Calls P f vs.toArray w fun e w' => ∃ v, e = .returned v ∧ r.is (G1 S w w') v ∧ Below w.heap.size w w'
structure CxOk (P : Program) (cx : Cx) : Prop where
  tt : ∀ t ti, look cx.tt t = some ti → tiOf P t = some ti
  fs : ∀ f con, look cx.fs f = some con → ConOk P f con
  mixed : P.follows .mixedOrders = true

def Res (W0 : World) (S : Nat → Nat → Prop) (st : St) (ρ : Nat → Nat) (σ : Nat → Option (Nat × Nat)) (w : World) (E : Eff) (v : Value) (w' : World) : Prop :=
  ∃ ρ' σ', Ext (gg W0 S st ρ σ w) ⟨ρ', setAll st.heap E.blk, σ', S, W0.heap.size, w'⟩ ∧ E.ent.is ⟨ρ', setAll st.heap E.blk, σ', S, W0.heap.size, w'⟩ v ∧ Mem W0 ⟨ρ', setAll st.heap E.blk, σ', S, W0.heap.size, w'⟩

section
variable {P : Program} {cx : Cx} {W0 : World} {S : Nat → Nat → Prop} {st : St} {ρ : Nat → Nat} {σ : Nat → Option (Nat × Nat)} {a : Act} {w : World} {G : Gm}

theorem cellOf_is (v : Value) : (cellOf v).is G v := by
  unfold cellOf
  split
  · exact ⟨_, rfl, rfl⟩
  · exact rfl
theorem zero_is {l : List Value} (h : l.all Value.oneCell' = true) : cellsIs G (l.map cellOf) l := by
  induction l with
  | nil => trivial
  | cons v l ih =>
    simp only [List.all_cons, Bool.and_eq_true] at h
    exact ⟨⟨cellOf_is v, h.1⟩, ih h.2⟩
theorem ofValue_is (v : Value) : (ofValue v).is G v := by
  unfold ofValue
  split
  · split
    · exact ⟨_, rfl, zero_is ‹_›⟩
    · exact rfl
  · exact cellOf_is _
theorem evalE_is (hr : Rep W0 S st ρ σ a w) (x : Operand) : (evalE st x).is (gg W0 S st ρ σ w) (a.eval x) := by
  cases x with
  | tmp t =>
    simp only [evalE, Act.eval]
    cases h : st.slots[t]? with
    | none =>
      rw [List.getD_eq_getElem?_getD, h]
      exact trivial
    | some e =>
      rw [List.getD_eq_getElem?_getD, h]
      exact hr.slot t e h
  | const v => exact ofValue_is v
  | global g => exact rfl
  | func f => exact rfl
theorem Ent.is.need {e : Ent} {v : Value} (h : e.is (gg W0 S st ρ σ w) v) (hg : Rx.need e.g) : e.v.is (gg W0 S st ρ σ w) v := by
  unfold Ent.is at h
  unfold Rx.need at hg
  split at h <;> simp_all
theorem evalE_v (hr : Rep W0 S st ρ σ a w) (x : Operand) {g : Option Bool} {v : SV} (h : evalE st x = ⟨g, v⟩) (hg : Rx.need g) : v.is (gg W0 S st ρ σ w) (a.eval x) := by
  have := evalE_is hr x
  rw [h] at this
  exact this.need hg

theorem wp_value {o : Oper} {K : Act → World → Prop} {Q : Exit → Act → World → Prop} {v : Value} {w' : World} (h : (execOp a.eval o).run P w = .ok (.value v) w') (hK : K (a.put o.dst v) w') : o.wp P a w K Q := by
  unfold Oper.wp
  rw [h]
  exact hK
theorem wp_skip' {o : Oper} {K : Act → World → Prop} {Q : Exit → Act → World → Prop} {w' : World} (h : (execOp a.eval o).run P w = .ok .skip w') (hK : K (a.put o.dst undef) w') : o.wp P a w K Q := by
  unfold Oper.wp
  rw [h]
  exact hK
theorem res_pure (hr : Rep W0 S st ρ σ a w) {C : Prop} {e : Ent} {v : Value} (h : e.is (gg W0 S st ρ σ w) v) : Res W0 S st ρ σ w ⟨C, e, []⟩ v w :=
  ⟨ρ, σ, Ext.refl _, h, hr.mem⟩

/-! ### Operations that turn no memory -/
theorem move_ok (hr : Rep W0 S st ρ σ a w) {o : Oper} {x : Operand} (ho : o.op = .move x ∨ o.op = .assign x) {K : Act → World → Prop} {Q : Exit → Act → World → Prop} {E : Eff} (h : (⟨True, evalE st x, []⟩ : Eff) = E)
    (hK : ∀ v w', Res W0 S st ρ σ w E v w' → K (a.put o.dst v) w') : o.wp P a w K Q := by
  subst h
  refine wp_value (v := a.eval x) (w' := w) ?_ (hK _ _ (res_pure hr (evalE_is hr x)))
  rcases ho with ho | ho <;> simp [execOp, ho]
theorem kindEq_eq {k k' : IntKind} (h : kindEq k k' = true) : k' = k := by cases k <;> cases k' <;> first | rfl | (exact absurd h (by decide))

theorem pickV_ok {c : Bool} {x y v : SV} {vx vy : Value} (h : pickV Ar.std c x y = some v) (hx : c = false ∨ x.is (gg W0 S st ρ σ w) vx) (hy : c = true ∨ y.is (gg W0 S st ρ σ w) vy) : v.is (gg W0 S st ρ σ w) (if c then vx else vy) := by
  unfold pickV at h
  split at h
  · split at h
    · obtain rfl := kindEq_eq ‹_›
      cases h
      cases c <;> simp_all [SV.is, SA.is, SC.is, Ar.std]
    · cases h
  · cases h
    cases c <;> simp_all [SV.is, SA.is, SC.is, Ar.std]
  · cases h
    cases c <;> simp_all [SV.is, SA.is, SC.is, Ar.std]
  · cases h
theorem pick_ok (hr : Rep W0 S st ρ σ a w) {o : Oper} {c x y : Operand} (ho : o.op = .pick c x y) {K : Act → World → Prop} {Q : Exit → Act → World → Prop} {E : Eff} (h : eff Ar.std cx st o.dst (.pick c x y) = some E) (hs : E.side)
    (hK : ∀ v w', Res W0 S st ρ σ w E v w' → K (a.put o.dst v) w') : o.wp P a w K Q := by
  simp only [eff] at h
  split at h
  · rename_i gc t ga va gb vb hc hx hy
    split at h
    · rename_i v hv
      cases h
      obtain ⟨h1, h2, h3⟩ := hs
      have hb : a.eval c = .bool t := evalE_v hr c hc h1
      refine wp_value (v := if t then a.eval x else a.eval y) (w' := w) ?_ (hK _ _ (res_pure hr ?_))
      · simp [execOp, ho, hb, asBool]
      · exact pickV_ok hv (h2.imp id fun g => evalE_v hr x hx g) (h3.imp id fun g => evalE_v hr y hy g)
    · cases h
  · cases h

theorem run_int (op : BinOp) (t : TypeId) (x y : Operand) (k : IntKind) (m n : Int) (h : ints op = true) :
    (do eqGuard op t x y (.int k m) (.int k n); binOp op t (.int k m) (.int k n)).run P w = .ok (.int k (stdBin op k m n)) w := by
  cases op <;> first | exact absurd h (by decide) | simp [eqGuard, binOp, Op.intArith, stdBin, intBits_and, intBits_or, intBits_xor, intBits_andNot]
theorem run_cmp (op : BinOp) (t : TypeId) (x y : Operand) (k : IntKind) (m n : Int) (h : cmps op = true) :
    (do eqGuard op t x y (.int k m) (.int k n); binOp op t (.int k m) (.int k n)).run P w = .ok (.bool (stdCmp op m n)) w := by
  cases op <;> first | exact absurd h (by decide) | simp [eqGuard, binOp, Op.intCmp, stdCmp]
theorem run_div (op : BinOp) (t : TypeId) (x y : Operand) (k : IntKind) (m n : Int) (h : op = .quo ∨ op = .rem) (hn : (n == 0) = false) :
    (do eqGuard op t x y (.int k m) (.int k n); binOp op t (.int k m) (.int k n)).run P w = .ok (.int k (stdBin op k m n)) w := by
  have hn' : ¬ n = 0 := by simpa using hn
  rcases h with rfl | rfl <;> simp [eqGuard, binOp, Op.intDiv, stdBin, hn']
theorem run_sh (op : BinOp) (t : TypeId) (x y : Operand) (k k' : IntKind) (m n : Int) (h : op = .shl ∨ op = .shr) (hn : decide (n < 0) = false) :
    (do eqGuard op t x y (.int k m) (.int k' n); binOp op t (.int k m) (.int k' n)).run P w = .ok (.int k (stdBin op k m n)) w := by
  have hn' : ¬ n < 0 := by simpa using hn
  rcases h with rfl | rfl <;> simp [eqGuard, binOp, Op.shift, stdBin, hn']

/-! ### Structs held against each other -/
theorem run_part_one {t : TypeId} {d : TypeDesc} (hu : P.underlying t = some d) (hd : (match d with | .struct _ | .array _ _ => true | _ => false) = false) {cs : Array Value} {off : Nat} {v : Value} (hv : cs[off]? = some v) :
    (part t cs off).run P w = .ok v w := by
  unfold part isAgg
  simp only [Sem.run_bind, run_underlying hu w, Result.andThen_ok]
  cases d <;> simp_all
theorem eqCells_cons {k : Nat} {ks : List Nat} {c d : SC} {cs ds : List SC} {r : Bool} (h : eqCells Ar.std (k :: ks) (c :: cs) (d :: ds) = some r) : ∃ a r', eqCell Ar.std k c d = some a ∧ eqCells Ar.std ks cs ds = some r' ∧ r = (a && r') := by
  simp only [eqCells] at h
  split at h
  · rename_i a r' h1 h2
    refine ⟨a, r', h1, h2, ?_⟩
    cases ks with
    | nil =>
      cases h
      cases cs <;> cases ds <;> simp [eqCells] at h2
      simp [← h2]
    | cons _ _ => cases h; rfl
  · cases h
theorem eqFields_ok (d : Nat) (xs ys : List Value) : ∀ (fs : List Field) (k : Nat) (cs ds : List SC) (r : Bool), fs.map (·.offset) = List.range' k fs.length →
    cellsIs G cs (xs.drop k) → cellsIs G ds (ys.drop k) → eqCells Ar.std (fs.map (eqField P)) cs ds = some r → (Op.eqFields (d + 1) xs.toArray ys.toArray fs).run P w = .ok r w
  | [], _, cs, ds, r, _, _, _, he => by
    cases cs <;> cases ds <;> simp [eqCells] at he
    simp [Op.eqFields, he]
  | f :: fs, k, [], ds, r, _, _, _, he => by simp [eqCells] at he
  | f :: fs, k, c :: cs, [], r, _, _, _, he => by simp [eqCells] at he
  | f :: fs, k, c :: cs, e :: ds, r, hoff, hx, hy, he => by
    simp only [List.map_cons, List.length_cons, List.range'_succ, List.cons.injEq] at hoff
    obtain ⟨ho, hos⟩ := hoff
    obtain ⟨b, r', hb, hr', rfl⟩ := eqCells_cons he
    cases hxs : xs.drop k with
    | nil => rw [hxs] at hx; exact hx.elim
    | cons x xl =>
      cases hys : ys.drop k with
      | nil => rw [hys] at hy; exact hy.elim
      | cons y yl =>
        rw [hxs] at hx
        rw [hys] at hy
        obtain ⟨⟨hx1, _⟩, hx2⟩ := hx
        obtain ⟨⟨hy1, _⟩, hy2⟩ := hy
        have gx : xs.toArray[f.offset]? = some x := by
          rw [ho]
          have := congrArg (·[0]?) hxs
          simpa using this
        have gy : ys.toArray[f.offset]? = some y := by
          rw [ho]
          have := congrArg (·[0]?) hys
          simpa using this
        have tx : xs.drop (k + 1) = xl := by
          have := congrArg List.tail hxs
          simpa using this
        have ty : ys.drop (k + 1) = yl := by
          have := congrArg List.tail hys
          simpa using this
        have key := eqFields_ok d xs ys fs (k + 1) cs ds r' hos (by rw [tx]; exact hx2) (by rw [ty]; exact hy2) hr'
        have fin : f.name ≠ "_" → (∀ w : World, (Op.equalIn (d + 1) f.type x y).run P w = .ok b w) → (∀ w : World, (part f.type xs.toArray f.offset).run P w = .ok x w) → (∀ w : World, (part f.type ys.toArray f.offset).run P w = .ok y w) →
            (Op.eqFields (d + 1) xs.toArray ys.toArray (f :: fs)).run P w = .ok (b && r') w := by
          intro hn h1 h2 h3
          simp only [Op.eqFields, ne_eq, hn, not_false_eq_true, if_true, Sem.run_bind, h2, h3, h1, Result.andThen_ok]
          cases b
          · simp
          · simp [key]
        unfold eqField at hb
        split at hb
        · rename_i hn
          simp only [bne_iff_ne, ne_eq] at hn
          split at hb
          · rename_i kk hu
            unfold eqCell at hb
            split at hb
            · split at hb
              · obtain rfl := kindEq_eq ‹_›
                cases hb
                have e1 : x = .int _ _ := hx1
                have e2 : y = .int _ _ := hy1
                subst e1 e2
                exact fin hn (fun w => run_equalIn_int w d f.type _ _ _ _ hu) (fun w => run_part_one hu rfl gx) (fun w => run_part_one hu rfl gy)
              · cases hb
            · simp_all
            · cases hb
          · rename_i hu
            unfold eqCell at hb
            split at hb
            · simp_all
            · cases hb
              have e1 : x = .bool _ := hx1
              have e2 : y = .bool _ := hy1
              subst e1 e2
              exact fin hn (fun w => run_equalIn_bool' w d f.type _ _ hu) (fun w => run_part_one hu rfl gx) (fun w => run_part_one hu rfl gy)
            · cases hb
          · simp [eqCell] at hb
        · simp [eqCell] at hb

theorem tiOf_bool {t : TypeId} {n : Nat} {z : List Value} {e : Bool} (h : tiOf P t = some ⟨.bool, n, z, e⟩) : P.underlying t = some .bool := by
  unfold tiOf at h
  split at h
  · split at h
    · split at h <;> simp_all
    · cases h
  · cases h
theorem tiOf_int {t : TypeId} {k : IntKind} {n : Nat} {z : List Value} {e : Bool} (h : tiOf P t = some ⟨.int k, n, z, e⟩) : P.underlying t = some (.int k) := by
  unfold tiOf at h
  split at h
  · split at h
    · split at h <;> simp_all
    · cases h
  · cases h
theorem tiOf_struct {t : TypeId} {fs : List (Nat × Nat × Bool × Nat)} {n : Nat} {z : List Value} {e : Bool} (h : tiOf P t = some ⟨.struct fs, n, z, e⟩) :
    ∃ Fs : Array Field, P.underlying t = some (.struct Fs) ∧ (∀ f ∈ Fs.toList, (P.underlying f.type).isSome = true) ∧ fs = Fs.toList.map (fun f => (f.offset, P.cellsOf f.type, aggB P f.type, eqField P f)) ∧
      e = (Fs.toList.all (fun f => !Nat.beq (eqField P f) 0) && (Fs.toList.map (·.offset) == List.range Fs.size) && !P.stoodInHeld t && !P.eqGuardType P.depth t) := by
  unfold tiOf at h
  split at h
  · split at h
    · split at h
      · cases h
      · cases h
      · rename_i Fs hu
        split at h
        · rename_i hall
          cases h
          exact ⟨Fs, hu, List.all_eq_true.1 hall, rfl, rfl⟩
        · cases h
      · split at h <;> cases h
      · split at h <;> cases h
      · cases h
      · cases h
      · cases h
    · cases h
  · cases h
theorem tiOf_array {t : TypeId} {m sz : Nat} {b : Bool} {n : Nat} {z : List Value} {q : Bool} (h : tiOf P t = some ⟨.array m sz b, n, z, q⟩) :
    ∃ e, P.underlying t = some (.array m e) ∧ (∃ i, P.info? e = some i) ∧ sz = P.cellsOf e := by
  unfold tiOf at h
  split at h
  · split at h
    · split at h
      · cases h
      · cases h
      · split at h <;> cases h
      · rename_i e hu
        split at h
        · rename_i hs
          cases h
          refine ⟨e, hu, ?_, rfl⟩
          unfold Program.underlying at hs
          cases hi : P.info? e with
          | none => simp [hi] at hs
          | some i => exact ⟨i, rfl⟩
        · cases h
      · split at h <;> cases h
      · cases h
      · cases h
      · cases h
    · cases h
  · cases h
theorem tiOf_slice {t : TypeId} {e : TypeId} {m : Nat} {n : Nat} {z : List Value} {q : Bool} (h : tiOf P t = some ⟨.slice e m, n, z, q⟩) :
    P.underlying t = some (.slice e) ∧ (∃ i, P.info? e = some i) ∧ m = P.cellsOf e := by
  unfold tiOf at h
  split at h
  · split at h
    · split at h
      · cases h
      · cases h
      · split at h <;> cases h
      · split at h <;> cases h
      · rename_i e' hu
        split at h
        · rename_i hs
          cases h
          refine ⟨hu, ?_, rfl⟩
          unfold Program.underlying at hs
          cases hi : P.info? e with
          | none => simp [hi] at hs
          | some i => exact ⟨i, rfl⟩
        · cases h
      · cases h
      · cases h
      · cases h
    · cases h
  · cases h
theorem tiOf_str {t : TypeId} {n : Nat} {z : List Value} {q : Bool} (h : tiOf P t = some ⟨.str, n, z, q⟩) : P.underlying t = some .string := by
  unfold tiOf at h
  split at h
  · split at h
    · split at h
      · cases h
      · cases h
      · split at h <;> cases h
      · split at h <;> cases h
      · split at h <;> cases h
      · rename_i hu
        exact hu
      · cases h
      · cases h
    · cases h
  · cases h
/-- What a type's row says besides. -/
theorem tiOf_info {t : TypeId} {ti : TI} (h : tiOf P t = some ti) : ∃ i z d, P.info? t = some i ∧ i.zero = some z ∧ P.underlying t = some d ∧ ti.size = i.size ∧ ti.zero = z.cells.toList ∧
    aggB P t = ti.k.agg := by
  unfold tiOf at h
  split at h
  · rename_i i hi
    split at h
    · rename_i z hz
      split at h
      · rename_i hu
        cases h
        exact ⟨i, z, _, hi, hz, hu, rfl, rfl, by unfold aggB; rw [hu]; rfl⟩
      · rename_i hu
        cases h
        exact ⟨i, z, _, hi, hz, hu, rfl, rfl, by unfold aggB; rw [hu]; rfl⟩
      · rename_i hu
        split at h
        · cases h
          exact ⟨i, z, _, hi, hz, hu, rfl, rfl, by unfold aggB; rw [hu]; rfl⟩
        · cases h
      · rename_i hu
        split at h
        · cases h
          exact ⟨i, z, _, hi, hz, hu, rfl, rfl, by unfold aggB; rw [hu]; rfl⟩
        · cases h
      · rename_i hu
        split at h
        · cases h
          exact ⟨i, z, _, hi, hz, hu, rfl, rfl, by unfold aggB; rw [hu]; rfl⟩
        · cases h
      · rename_i hu
        cases h
        exact ⟨i, z, _, hi, hz, hu, rfl, rfl, by unfold aggB; rw [hu]; rfl⟩
      · rename_i d h1 h2 h3 h4 h5 h6 hu
        cases h
        refine ⟨i, z, _, hi, hz, hu, rfl, rfl, ?_⟩
        unfold aggB
        rw [hu]
        cases d <;> first
          | rfl
          | exact (h3 _ rfl).elim
          | exact (h4 _ _ rfl).elim
      · cases h
    · cases h
  · cases h

theorem bytes_eq (u v : ByteArray) : (u.toList == v.toList) = decide (bytesL u = bytesL v) := by
  rw [ByteArray.toList_eq, ByteArray.toList_eq, Bool.eq_iff_iff, beq_iff_eq, decide_eq_true_eq]
  constructor
  · intro h
    unfold bytesL
    rw [h]
  · intro h
    unfold bytesL at h
    exact List.map_inj_right (fun a b hab => UInt8.toNat_inj.1 (by exact_mod_cast hab)) |>.1 h
theorem bin_ok (hc : CxOk P cx) (hr : Rep W0 S st ρ σ a w) {o : Oper} {op : BinOp} {t t' : TypeId} {x y : Operand} (ho : o.op = .binOp op t x y t') {K : Act → World → Prop} {Q : Exit → Act → World → Prop} {E : Eff} (h : effBin Ar.std cx op t (evalE st x) (evalE st y) = some E) (hs : E.side)
    (hK : ∀ v w', Res W0 S st ρ σ w E v w' → K (a.put o.dst v) w') : o.wp P a w K Q := by
  have main : ∀ v : Value, (do eqGuard op t x y (a.eval x) (a.eval y); binOp op t (a.eval x) (a.eval y)).run P w = .ok v w → (execOp a.eval o).run P w = .ok (.value v) w := by
    intro v hv
    simp only [execOp, ho]
    rw [Sem.run_bind, hv]
    rfl
  have hx := evalE_is hr x
  have hy := evalE_is hr y
  unfold effBin at h
  split at h
  · rename_i k m k' n hex hey
    have nx : ∀ {C : Prop}, need (evalE st x).g ∧ C → a.eval x = .int k m := fun g => by have := hx.need g.1; rw [hex] at this; exact this
    have ny : need (evalE st y).g → a.eval y = .int k' n := fun g => by have := hy.need g; rw [hey] at this; exact this
    split at h
    · cases h
      refine wp_value (main _ ?_) (hK _ _ (res_pure hr (e := ⟨none, _⟩) rfl))
      rw [nx hs, ny hs.2.1]
      exact run_sh _ _ _ _ _ _ _ _ (.inl rfl) hs.2.2
    · cases h
      refine wp_value (main _ ?_) (hK _ _ (res_pure hr (e := ⟨none, _⟩) rfl))
      rw [nx hs, ny hs.2.1]
      exact run_sh _ _ _ _ _ _ _ _ (.inr rfl) hs.2.2
    · split at h
      · obtain rfl := kindEq_eq ‹_›
        cases h
        refine wp_value (main _ ?_) (hK _ _ (res_pure hr (e := ⟨none, _⟩) rfl))
        rw [nx hs, ny hs.2.1]
        exact run_div _ _ _ _ _ _ _ (.inl rfl) hs.2.2
      · cases h
    · split at h
      · obtain rfl := kindEq_eq ‹_›
        cases h
        refine wp_value (main _ ?_) (hK _ _ (res_pure hr (e := ⟨none, _⟩) rfl))
        rw [nx hs, ny hs.2.1]
        exact run_div _ _ _ _ _ _ _ (.inr rfl) hs.2.2
      · cases h
    · split at h
      · obtain rfl := kindEq_eq ‹_›
        split at h
        · cases h
          refine wp_value (main _ ?_) (hK _ _ (res_pure hr (e := ⟨none, _⟩) rfl))
          rw [nx hs, ny hs.2]
          exact run_int _ _ _ _ _ _ _ ‹_›
        · split at h
          · cases h
            refine wp_value (main _ ?_) (hK _ _ (res_pure hr (e := ⟨none, _⟩) rfl))
            rw [nx hs, ny hs.2]
            exact run_cmp _ _ _ _ _ _ _ ‹_›
          · cases h
      · cases h
  · rename_i m n hex hey
    split at h
    · rename_i _ _ _ hl
      have hu := tiOf_bool (hc.tt _ _ hl)
      split at h
      · cases h
        refine wp_value (main _ ?_) (hK _ _ (res_pure hr (e := ⟨none, _⟩) rfl))
        have e1 : a.eval x = .bool m := by have := hx.need hs.1; rw [hex] at this; exact this
        have e2 : a.eval y = .bool n := by have := hy.need hs.2; rw [hey] at this; exact this
        rw [e1, e2]
        simp [eqGuard, binOp, Op.equal, Op.maxDepth, run_equalIn_bool' w 9999 t m n hu, Ar.std]
      · cases h
        refine wp_value (main _ ?_) (hK _ _ (res_pure hr (e := ⟨none, _⟩) rfl))
        have e1 : a.eval x = .bool m := by have := hx.need hs.1; rw [hex] at this; exact this
        have e2 : a.eval y = .bool n := by have := hy.need hs.2; rw [hey] at this; exact this
        rw [e1, e2]
        simp [eqGuard, binOp, Op.equal, Op.maxDepth, run_equalIn_bool' w 9999 t m n hu, Ar.std]
      · cases h
    · cases h
  · rename_i l m hex hey
    have run : ∀ {C : Prop}, need (evalE st x).g ∧ need (evalE st y).g → ∃ u v, a.eval x = .string u ∧ a.eval y = .string v ∧ (u.toList == v.toList) = decide (l = m) := by
      intro _ hn
      have e1 := hx.need hn.1
      have e2 := hy.need hn.2
      rw [hex] at e1
      rw [hey] at e2
      obtain ⟨u, e1, rfl⟩ := e1
      obtain ⟨v, e2, rfl⟩ := e2
      exact ⟨u, v, e1, e2, bytes_eq u v⟩
    split at h
    · cases h
      obtain ⟨u, v, e1, e2, e3⟩ := run (C := True) hs
      refine wp_value (main _ ?_) (hK _ _ (res_pure hr (e := ⟨none, _⟩) rfl))
      rw [e1, e2]
      simp only [eqGuard_at_string, binOp, Op.stringOp, Sem.run_bind, Sem.run_pure, Result.andThen_ok, e3]
      rfl
    · cases h
      obtain ⟨u, v, e1, e2, e3⟩ := run (C := True) hs
      refine wp_value (main _ ?_) (hK _ _ (res_pure hr (e := ⟨none, _⟩) rfl))
      rw [e1, e2]
      simp only [eqGuard_at_string, binOp, Op.stringOp, Sem.run_bind, Sem.run_pure, Result.andThen_ok, e3]
      rfl
    · cases h
  · rename_i cs ds hex hey
    split at h
    · rename_i fs _ _ hl
      obtain ⟨Fs, hu, _, hfs, he⟩ := tiOf_struct (hc.tt _ _ hl)
      simp only [eq_comm (a := true), Bool.and_eq_true, Bool.not_eq_true', beq_iff_eq] at he
      obtain ⟨⟨⟨_, h2⟩, h3⟩, h4⟩ := he
      have hfo : P.fieldsOf t = Fs := by simp [Program.fieldsOf, hu]
      have run : ∀ r, eqCells Ar.std (fs.map fun f => f.2.2.2) cs ds = some r → need (evalE st x).g ∧ need (evalE st y).g → ∃ xs ys : List Value, a.eval x = .agg xs.toArray ∧ a.eval y = .agg ys.toArray ∧ (Op.equalIn 10000 t (.agg xs.toArray) (.agg ys.toArray)).run P w = .ok r w := by
        intro r hr' hn
        have e1 := hx.need hn.1
        have e2 := hy.need hn.2
        rw [hex] at e1
        rw [hey] at e2
        obtain ⟨xs, e1, i1⟩ := e1
        obtain ⟨ys, e2, i2⟩ := e2
        refine ⟨xs, ys, e1, e2, ?_⟩
        rw [run_equalIn_struct w 9999 t _ _ (by rw [hfo]; exact hu) h3, hfo]
        refine eqFields_ok 9998 xs ys Fs.toList 0 cs ds r ?_ i1 i2 ?_
        · rw [h2, List.range_eq_range']
          simp
        · rw [hfs] at hr'
          simpa [List.map_map, Function.comp_def] using hr'
      split at h
      · rename_i r hr'
        split at h
        · cases h
          obtain ⟨xs, ys, e1, e2, hrun⟩ := run r hr' hs
          refine wp_value (main _ ?_) (hK _ _ (res_pure hr (e := ⟨none, _⟩) rfl))
          rw [e1, e2, Sem.run_bind, run_eqGuard_agg w _ _ _ _ _ _ h4]
          simp [run_eql_struct, hrun]
        · cases h
          obtain ⟨xs, ys, e1, e2, hrun⟩ := run r hr' hs
          refine wp_value (main _ ?_) (hK _ _ (res_pure hr (e := ⟨none, _⟩) rfl))
          rw [e1, e2, Sem.run_bind, run_eqGuard_agg w _ _ _ _ _ _ h4]
          simp [run_neq_struct, hrun, Ar.std]
        · cases h
      · cases h
    · cases h
  · cases h

/-! ### Memory -/
theorem getD_none {α : Type} {l : List (Option α)} {b : Nat} {k : α} (h : l.getD b none = some k) : l[b]? = some (some k) := by
  rw [List.getD_eq_getElem?_getD] at h
  cases hb : l[b]? with
  | none => simp [hb] at h
  | some x => simp [hb] at h; rw [h]
theorem get_lt {α : Type} {l : List α} {b : Nat} {k : α} (h : l[b]? = some k) : b < l.length := by
  rcases Nat.lt_or_ge b l.length with g | g
  · exact g
  · rw [List.getElem?_eq_none g] at h; cases h
theorem heap_lt {g : Nat} {o : Obj} (h : w.heap[g]? = some o) : g < w.heap.size := by
  rcases Nat.lt_or_ge g w.heap.size with k | k
  · exact k
  · rw [Array.getElem?_eq_none k] at h; cases h
theorem live_set {h : List (Option Blk)} {b : Nat} {t : TypeId} {cs : List SC} {b' : Nat} (hl : live h b') : live (h.set b (some (.cells t cs))) b' := by
  obtain ⟨t', k', hk⟩ := hl
  by_cases e : b = b'
  · subst e
    exact ⟨t, cs, by simp [get_lt hk]⟩
  · exact ⟨t', k', by rw [List.getElem?_set_ne e]; exact hk⟩
theorem add_at (b off j : Nat) : (⟨b, off, none⟩ : Addr).add j = ⟨b, off + j, none⟩ := by
  unfold Addr.add
  split <;> simp_all
theorem run_cells {g off : Nat} {t : TypeId} {vs : List Value} (hg : w.heap[g]? = some (.cells vs.toArray t (0, 0))) (n : Nat) (hn : off + n ≤ vs.length) :
    (loadCells ⟨g, off, none⟩ n).run P w = .ok ((vs.drop off).take n).toArray w := by
  have := run_loadCells_list (P := P) w ⟨g, off, none⟩ ((vs.drop off).take n) (fun j v hv => by
    rw [add_at]
    rw [List.getElem?_take] at hv
    split at hv
    · rw [List.getElem?_drop] at hv
      simp [World.cell?, hg, hv]
    · cases hv)
  rw [List.length_take, List.length_drop, Nat.min_eq_left (by omega)] at this
  exact this
theorem run_isAgg {t : TypeId} {d : TypeDesc} (hu : P.underlying t = some d) : (isAgg t).run P w = .ok (aggB P t) w := by
  unfold isAgg aggB
  simp only [Sem.run_bind, run_underlying hu w, Result.andThen_ok, hu]
  cases d <;> rfl
theorem cut_some {cs l : List SC} {off n : Nat} (h : cutCells cs off n = some l) : off + n ≤ cs.length ∧ l = (cs.drop off).take n := by
  unfold cutCells at h
  split at h
  · rename_i hb
    exact ⟨Nat.le_of_ble_eq_true hb, by simpa [eq_comm] using h⟩
  · cases h

theorem cut_one {cs : List SC} {vs : List Value} {off : Nat} {c : SC} (hcut : cutCells cs off 1 = some [c]) (hcs : cellsIs G cs vs) : ∃ v, vs[off]? = some v ∧ c.is G v ∧ v.oneCell' = true := by
  obtain ⟨hle, hcc⟩ := cut_some hcut
  have hd := hcs.drop off
  have hlen := hcs.len
  have hlt : off < vs.length := by omega
  rw [List.drop_eq_getElem_cons hlt, List.drop_eq_getElem_cons (by omega)] at hd
  rw [List.drop_eq_getElem_cons (by omega)] at hcc
  simp only [List.take_succ_cons, List.take_zero, List.cons.injEq, and_true] at hcc
  rw [hcc]
  exact ⟨vs[off], by simp, hd.1.1, hd.1.2⟩

theorem loadS_ok (hc : CxOk P cx) (hr : Rep W0 S st ρ σ a w) {b off : Nat} {t : TypeId} {x : SA} (h : loadS cx (st.heap.getD b none) off t = some x) : ∃ v, (loadVar t ⟨ρ b, off, none⟩).run P w = .ok v w ∧ x.is (gg W0 S st ρ σ w) v := by
  unfold loadS at h
  split at h
  · rename_i ti bt bc hl hb
    obtain ⟨i, z, d, hi, _, hu, hsz, _, hag⟩ := tiOf_info (hc.tt _ _ hl)
    obtain ⟨_, vs, hg, hcs⟩ := hr.mem.blk b bt bc (getD_none hb)
    have hg : w.heap[ρ b]? = some (.cells vs.toArray bt (0, 0)) := hg
    have hlen := hcs.len
    split at h
    · rename_i hk
      split at h
      · rename_i cs hcut
        cases h
        obtain ⟨hle, rfl⟩ := cut_some hcut
        refine ⟨.agg ((vs.drop off).take ti.size).toArray, ?_, _, rfl, (hcs.drop _).take _⟩
        have hrun := run_cells (P := P) (off := off) hg ti.size (by omega)
        simp [loadVar, run_isAgg (w := w) hu, hag, hk, sizeOf, typeInfo, hi, ← hsz, hrun]
      · cases h
    · rename_i hk
      split at h
      · rename_i c hcut
        cases h
        obtain ⟨v, hv1, hv2, _⟩ := cut_one hcut hcs
        refine ⟨v, ?_, hv2⟩
        have hcell : w.cell? ⟨ρ b, off, none⟩ = some v := by simp [World.cell?, hg, hv1]
        simp [loadVar, run_isAgg (w := w) hu, hag, hk, hcell]
      · cases h
  · cases h
/-- An element's cells, by its kinds. -/
theorem shCells_is : ∀ (n : Nat) {s : Sh} {x : E} {j : Nat} {vs : List Value}, valsIs G s x j vs → (∀ u ∈ vs, u.oneCell' = true) → n ≤ s.size → cellsIs G (shCells Ar.std s x j n) (vs.take n)
  | 0, _, _, _, vs, _, _, _ => by simp [shCells, cellsIs]
  | n + 1, .nil, _, _, _, _, _, hn => by simp [Sh.size] at hn
  | n + 1, .int k r, x, j, _, ⟨us, e, h⟩, ho, hn => by
    subst e
    simp only [Sh.size] at hn
    exact ⟨⟨rfl, rfl⟩, shCells_is n h (fun u hu => ho u (List.mem_cons_of_mem _ hu)) (by omega)⟩
  | n + 1, .bool r, x, j, _, ⟨us, e, h⟩, ho, hn => by
    subst e
    simp only [Sh.size] at hn
    exact ⟨⟨rfl, rfl⟩, shCells_is n h (fun u hu => ho u (List.mem_cons_of_mem _ hu)) (by omega)⟩
  | n + 1, .ints k r, x, j, _, ⟨u, us, e, h1, h⟩, ho, hn => by
    subst e
    simp only [Sh.size] at hn
    exact ⟨⟨⟨h1, trivial⟩, ho u (List.mem_cons_self ..)⟩, shCells_is n h (fun u hu => ho u (List.mem_cons_of_mem _ hu)) (by omega)⟩
  | n + 1, .recs s r, x, j, _, ⟨u, us, e, h1, h⟩, ho, hn => by
    subst e
    simp only [Sh.size] at hn
    exact ⟨⟨⟨h1, trivial⟩, ho u (List.mem_cons_self ..)⟩, shCells_is n h (fun u hu => ho u (List.mem_cons_of_mem _ hu)) (by omega)⟩
theorem valsIs.len : ∀ {s : Sh} {x : E} {j : Nat} {vs : List Value}, valsIs G s x j vs → vs.length = s.size
  | .nil, _, _, _, h => by
    have h : _ = [] := h
    subst h
    rfl
  | .int _ _, _, _, _, ⟨us, e, h⟩ => by subst e; simp [Sh.size, valsIs.len h]
  | .bool _, _, _, _, ⟨us, e, h⟩ => by subst e; simp [Sh.size, valsIs.len h]
  | .ints _ _, _, _, _, ⟨u, us, e, h1, h⟩ => by subst e; simp [Sh.size, valsIs.len h]
  | .recs s _, _, _, _, ⟨u, us, e, h1, h⟩ => by subst e; simp [Sh.size, valsIs.len h]
theorem valsIs.drop : ∀ (n : Nat) {s : Sh} {x : E} {j : Nat} {vs : List Value}, valsIs G s x j vs → valsIs G (s.drop n) x (j + n) (vs.drop n)
  | 0, s, _, _, _, h => by cases s <;> exact h
  | n + 1, .nil, _, _, vs, h => by
    have h : vs = [] := h
    subst h
    rfl
  | n + 1, .int _ r, x, j, _, ⟨us, e, h⟩ => by subst e; have := valsIs.drop n h; rwa [Nat.add_assoc, Nat.add_comm 1] at this
  | n + 1, .bool r, x, j, _, ⟨us, e, h⟩ => by subst e; have := valsIs.drop n h; rwa [Nat.add_assoc, Nat.add_comm 1] at this
  | n + 1, .ints _ r, x, j, _, ⟨u, us, e, h1, h⟩ => by subst e; have := valsIs.drop n h; rwa [Nat.add_assoc, Nat.add_comm 1] at this
  | n + 1, .recs s r, x, j, _, ⟨u, us, e, h1, h⟩ => by subst e; have := valsIs.drop n h; rwa [Nat.add_assoc, Nat.add_comm 1] at this
theorem load_ok (hc : CxOk P cx) (hr : Rep W0 S st ρ σ a w) {o : Oper} {t : TypeId} {x : Operand} (ho : o.op = .load t x) {K : Act → World → Prop} {Q : Exit → Act → World → Prop} {E : Eff} (h : eff Ar.std cx st o.dst (.load t x) = some E) (hs : E.side)
    (hK : ∀ v w', Res W0 S st ρ σ w E v w' → K (a.put o.dst v) w') : o.wp P a w K Q := by
  simp only [eff] at h
  split at h
  · rename_i g b off hx
    split at h
    · rename_i y hl
      cases h
      obtain ⟨v, hrun, hv⟩ := loadS_ok hc hr hl
      have e : a.eval x = .pointer (some ⟨ρ b, off, none⟩) := (evalE_v hr x hx hs).2
      refine wp_value (v := v) (w' := w) ?_ (hK _ _ (res_pure hr (e := ⟨none, _⟩) hv))
      simp [execOp, ho, e, Instr.loadAt, Instr.sureAddr, hrun]
    · cases h
  · rename_i g k n hx
    split at h
    · rename_i ti hl
      obtain ⟨i, z, d, hi, _, hu, hsz, _, hag⟩ := tiOf_info (hc.tt _ _ hl)
      split at h
      · cases h
      · rename_i hk
        cases h
        obtain ⟨b, off, e, hcell⟩ := evalE_v hr x hx hs
        refine wp_value (v := .int k n) (w' := w) ?_ (hK _ _ (res_pure hr (e := ⟨none, _⟩) rfl))
        have hcell : w.cell? ⟨b, off, none⟩ = some (.int k n) := hcell.cell
        simp [execOp, ho, e, Instr.loadAt, Instr.sureAddr, loadVar, run_isAgg (w := w) hu, hag, hk, hcell]
    · cases h
  · rename_i g sh y j hx
    split at h
    · rename_i ti hl
      obtain ⟨i, z, d, hi, _, hu, hsz, _, hag⟩ := tiOf_info (hc.tt _ _ hl)
      split at h
      · rename_i hk
        split at h
        · rename_i hle
          have hle := Nat.le_of_ble_eq_true hle
          cases h
          obtain ⟨b, off, us, e, hv, hcells⟩ := evalE_v hr x hx hs
          have hone : ∀ u ∈ us, u.oneCell' = true := fun u hu => by
            obtain ⟨n, hn⟩ := List.mem_iff_getElem?.1 hu
            exact (hcells n u hn).one
          refine wp_value (v := .agg (us.take ti.size).toArray) (w' := w) ?_ (hK _ _ (res_pure hr (e := ⟨none, _⟩) ⟨_, rfl, shCells_is _ hv hone hle⟩))
          have hrun := run_loadCells_list (P := P) w ⟨b, off, none⟩ (us.take ti.size) (fun n v hn => by
            rw [add_at]
            rw [List.getElem?_take] at hn
            split at hn
            · exact (hcells n v hn).cell
            · cases hn)
          have hul := hv.len
          rw [List.length_take, Nat.min_eq_left (by omega)] at hrun
          simp [execOp, ho, e, Instr.loadAt, Instr.sureAddr, loadVar, run_isAgg (w := w) hu, hag, hk, sizeOf, typeInfo, hi, ← hsz, hrun]
        · cases h
      · rename_i hk
        split at h
        · rename_i c hcs
          cases h
          obtain ⟨b, off, us, e, hv, hcells⟩ := evalE_v hr x hx hs
          have hone : ∀ u ∈ us, u.oneCell' = true := fun u hu => by
            obtain ⟨n, hn⟩ := List.mem_iff_getElem?.1 hu
            exact (hcells n u hn).one
          have hn : 1 ≤ sh.size := by cases sh <;> simp_all [shCells, Sh.size]
          have hc1 := shCells_is 1 hv hone hn
          rw [hcs] at hc1
          have hul := hv.len
          match us, hul, hc1, hcells with
          | [], hul, _, _ => simp at hul; omega
          | u :: us, _, hc1, hcells =>
            refine wp_value (v := u) (w' := w) ?_ (hK _ _ (res_pure hr (e := ⟨none, _⟩) hc1.1.1))
            have hcell : w.cell? ⟨b, off, none⟩ = some u := (hcells 0 u rfl).cell
            simp [execOp, ho, e, Instr.loadAt, Instr.sureAddr, loadVar, run_isAgg (w := w) hu, hag, hk, hcell]
        · cases h
    · cases h
  · cases h

/-! ### Cells that are written -/
theorem below_setRow {B : Nat} {w0 w : World} (h : Below B w0 w) {g : Nat} (hg : B ≤ g) (cs : Array Value) : Below B w0 (w.setRow g cs) :=
  ⟨by simp [h.os], by simp [h.tape], by simp [h.output], by simp [h.size], fun k hk => by rw [setRow_other w g k cs (by omega)]; exact h.block k hk⟩
theorem cell_other {w w' : World} {b : Nat} (h : w'.heap[b]? = w.heap[b]?) (j : Nat) : w'.cell? ⟨b, j, none⟩ = w.cell? ⟨b, j, none⟩ := World.cell?_of_block (a := ⟨b, j, none⟩) h
theorem mem_set (hm : Mem W0 G) {b : Nat} {t : TypeId} {cs : List SC} (hb : G.h[b]? = some (some (.cells t cs))) {cells : List SC} {vs old : List Value} (hg : G.w.heap[G.ρ b]? = some (.cells old.toArray t (0, 0)))
    (hcs : cellsIs G cells vs) : Ext G ⟨G.ρ, G.h.set b (some (.cells t cells)), G.σ, G.S, G.B, G.w.setRow (G.ρ b) vs.toArray⟩ ∧ Mem W0 ⟨G.ρ, G.h.set b (some (.cells t cells)), G.σ, G.S, G.B, G.w.setRow (G.ρ b) vs.toArray⟩ := by
  have hlt := get_lt hb
  have hback : ∀ b', live (G.h.set b (some (.cells t cells))) b' → live G.h b' := by
    intro b' ⟨t', k, hk⟩
    by_cases e : b = b'
    · subst e; exact ⟨_, _, hb⟩
    · rw [List.getElem?_set_ne e] at hk; exact ⟨t', k, hk⟩
  have htok : ∀ (id c : Nat) (al : Bool), (G.h.set b (some (.cells t cells)))[id]? = some (some (.tok c al)) → G.h[id]? = some (some (.tok c al)) := by
    intro id c al h
    by_cases e : b = id
    · subst e; rw [List.getElem?_set_self hlt] at h; cases h
    · rwa [List.getElem?_set_ne e] at h
  have hx : Ext G ⟨G.ρ, G.h.set b (some (.cells t cells)), G.σ, G.S, G.B, G.w.setRow (G.ρ b) vs.toArray⟩ := by
    refine ⟨⟨fun b' j h => ⟨by simpa using h.lt, h.old, fun n hn => h.blk n (hback n hn), fun id c hid => h.tok id c (htok _ _ _ hid)⟩, fun b' j h => cell_other (setRow_other _ _ _ _ (h.blk b ⟨_, _, hb⟩).symm) j⟩, fun _ _ => rfl, fun _ hl => live_set hl, rfl, ?_⟩
    intro id c al hid
    refine ⟨c, al, ?_, Nat.le_refl _, fun _ ha => ⟨ha, rfl, fun g m hg' => ?_⟩⟩
    · rw [List.getElem?_set_ne (fun e => by subst e; rw [hb] at hid; cases hid)]
      exact hid
    · subst ha
      exact setRow_other _ _ _ _ ((hm.tok id c hid g m hg').2.2 b ⟨_, _, hb⟩).symm
  refine ⟨hx, below_setRow hm.below (hm.blk b t cs hb).1 _, hm.base, fun b' t' k hk => ?_, fun b1 b2 h1 h2 => hm.inj b1 b2 (hback _ h1) (hback _ h2), fun id c hid g m hg' => ?_, fun id id' c c' h1 h2 => hm.apart id id' c c' (htok _ _ _ h1) (htok _ _ _ h2)⟩
  · by_cases e : b = b'
    · subst e
      rw [List.getElem?_set_self hlt] at hk
      cases hk
      exact ⟨(hm.blk b t cs hb).1, vs, setRow_heap _ _ _ _ _ _ hg, hcs.ext hx⟩
    · rw [List.getElem?_set_ne e] at hk
      obtain ⟨h1, vs', h2, h3⟩ := hm.blk b' t' k hk
      refine ⟨h1, vs', ?_, h3.ext hx⟩
      show (G.w.setRow (G.ρ b) vs.toArray).heap[G.ρ b']? = _
      rw [setRow_other _ _ _ _ (fun e' => e (hm.inj b' b ⟨_, _, hk⟩ ⟨_, _, hb⟩ e').symm)]
      exact h2
  · obtain ⟨h1, h2, h3⟩ := hm.tok id c (htok _ _ _ hid) g m hg'
    exact ⟨h1, by simpa using h2, fun n hn => h3 n (hback n hn)⟩
theorem sa_cells {v : SA} {u : Value} (h : v.is G u) (hs : v.side) : cellsIs G v.cells u.cells.toList ∧ v.cells.length = u.cells.size := by
  cases v with
  | one c =>
    have h1 : u.oneCell' = true := by
      cases c with
      | any => exact hs.elim
      | val x => have e : u = x := h; subst e; exact hs
      | ptr b off => obtain ⟨_, rfl⟩ := h; rfl
      | str l => obtain ⟨_, rfl, _⟩ := h; rfl
      | sl tk c =>
        obtain ⟨h, _⟩ := h
        cases c with
        | ints k l => obtain ⟨_, _, rfl, _⟩ := h; rfl
        | recs s l => obtain ⟨_, _, rfl, _⟩ := h; rfl
      | rpi k n => obtain ⟨_, _, rfl, _⟩ := h; rfl
      | rpe s x j => obtain ⟨_, _, _, rfl, _⟩ := h; rfl
    have h2 : u.cells = #[u] := by cases u <;> first | rfl | (simp [Value.oneCell'] at h1)
    rw [h2]
    exact ⟨⟨⟨h, h1⟩, trivial⟩, rfl⟩
  | agg cs =>
    obtain ⟨vs, rfl, hc⟩ := h
    exact ⟨by simpa [Value.cells, SA.cells] using hc, by simpa [Value.cells, SA.cells] using hc.len⟩
theorem store_ok (hc : CxOk P cx) (hr : Rep W0 S st ρ σ a w) {o : Oper} {t : TypeId} {x y : Operand} (ho : o.op = .store t x y) {K : Act → World → Prop} {Q : Exit → Act → World → Prop} {E : Eff} (h : eff Ar.std cx st o.dst (.store t x y) = some E) (hs : E.side)
    (hK : ∀ v w', Res W0 S st ρ σ w E v w' → K (a.put o.dst v) w') : o.wp P a w K Q := by
  simp only [eff] at h
  split at h
  · rename_i g b off g' v ti hx hy hl
    split at h
    · rename_i bt bc hb
      obtain ⟨i, z, d, hi, _, hu, hsz, _, hag⟩ := tiOf_info (hc.tt _ _ hl)
      have hb' := getD_none hb
      obtain ⟨hge, vs, hg, hcs⟩ := hr.mem.blk b bt bc hb'
      have hg : w.heap[ρ b]? = some (.cells vs.toArray bt (0, 0)) := hg
      have hlen := hcs.len
      split at h
      · rename_i hle
        cases h
        obtain ⟨n1, n2, n3⟩ := hs
        simp only [Bool.and_eq_true] at hle
        obtain ⟨l1, l2⟩ := hle
        have l1 := Nat.eq_of_beq_eq_true l1
        have l2 := Nat.le_of_ble_eq_true l2
        have e : a.eval x = .pointer (some ⟨ρ b, off, none⟩) := (evalE_v hr x hx n1).2
        obtain ⟨c1, c2⟩ := sa_cells (evalE_v hr y hy n2) n3
        generalize hu : a.eval y = u at *
        have hp := hcs.paste off c1
        have hn : off + u.cells.toList.length ≤ vs.length := by simp; omega
        rw [pasteV_eq _ _ _ hn] at hp
        obtain ⟨hx', hm'⟩ := mem_set (G := gg W0 S st ρ σ w) hr.mem hb' hg hp
        refine wp_skip' (w' := w.setRow (ρ b) (vs.take off ++ u.cells.toList ++ vs.drop (off + u.cells.toList.length)).toArray) ?_ (hK _ _ ⟨ρ, σ, hx', trivial, hm'⟩)
        have hrun := run_storeCells_at (P := P) (ρ b) off bt u.cells.toList 0 vs.toArray w hg (by simp at hn ⊢; omega) c1.one
        have hsize : u.cells.size = i.size := by omega
        simp only [Nat.add_zero] at hrun
        simp only [execOp, ho, e, hu, Instr.storeAt, Instr.sureAddr, storeVar, sizeOf, typeInfo, Sem.run_bind, Sem.run_pure, Result.andThen_ok, run_program, hi, ne_eq, hsize, not_true_eq_false, if_false, hrun]
      · cases h
    · cases h
  · cases h

/-! ### New blocks -/
theorem mem_alloc (hm : Mem W0 G) {d : Nat} (hd : G.h.getD d none = none) (hl : d < G.h.length) (t : TypeId) {cells : List SC} {vs : List Value} (hcs : cellsIs G cells vs) :
    Ext G ⟨fun b => if b = d then G.w.heap.size else G.ρ b, G.h.set d (some (.cells t cells)), G.σ, G.S, G.B, G.w.alloc (.cells vs.toArray t)⟩ ∧ Mem W0 ⟨fun b => if b = d then G.w.heap.size else G.ρ b, G.h.set d (some (.cells t cells)), G.σ, G.S, G.B, G.w.alloc (.cells vs.toArray t)⟩ := by
  have hnone : ∀ k, G.h[d]? ≠ some (some k) := by
    intro k hk
    rw [List.getD_eq_getElem?_getD, hk] at hd
    cases hd
  have hold : ∀ b k, b ≠ d → (G.h.set d (some (.cells t cells)))[b]? = some (some k) → G.h[b]? = some (some k) := by
    intro b k hne hk
    rwa [List.getElem?_set_ne (Ne.symm hne)] at hk
  have hlt : ∀ b, live G.h b → G.ρ b < G.w.heap.size := by
    rintro b ⟨t', k, hk⟩
    obtain ⟨_, vs', h2, _⟩ := hm.blk b t' k hk
    exact heap_lt h2
  have htok : ∀ (id c : Nat) (al : Bool), (G.h.set d (some (.cells t cells)))[id]? = some (some (.tok c al)) → G.h[id]? = some (some (.tok c al)) := by
    intro id c al h
    by_cases e : d = id
    · subst e; rw [List.getElem?_set_self hl] at h; cases h
    · rwa [List.getElem?_set_ne e] at h
  have hnew : ∀ n, live (G.h.set d (some (.cells t cells))) n → n = d ∨ n ≠ d ∧ live G.h n := by
    rintro n ⟨t', k, hk⟩
    by_cases e : n = d
    · exact .inl e
    · exact .inr ⟨e, t', k, hold n _ e hk⟩
  have hx : Ext G ⟨fun b => if b = d then G.w.heap.size else G.ρ b, G.h.set d (some (.cells t cells)), G.σ, G.S, G.B, G.w.alloc (.cells vs.toArray t)⟩ := by
    refine ⟨⟨fun b j h => ⟨?_, h.old, fun n hn => ?_, fun id c hid => h.tok id c (htok _ _ _ hid)⟩, fun b j h => cell_other (Below.heap_alloc _ _ _ h.lt) j⟩, fun b hb => ?_, fun b hb => live_set hb, rfl, ?_⟩
    · have := h.lt
      simp
      omega
    · rcases hnew n hn with e | ⟨e, hn⟩
      · simp only [e, if_true]
        have := h.lt
        omega
      · simp only [e, if_false]
        exact h.blk n hn
    · have : b ≠ d := by
        rintro rfl
        obtain ⟨t', k, hk⟩ := hb
        exact hnone _ hk
      simp [this]
    · intro id c al hid
      have hne : d ≠ id := by rintro rfl; exact hnone _ hid
      refine ⟨c, al, by rw [List.getElem?_set_ne hne]; exact hid, Nat.le_refl _, fun _ ha => ⟨ha, rfl, fun g m hg => ?_⟩⟩
      subst ha
      exact Below.heap_alloc _ _ _ (hm.tok id c hid g m hg).2.1
  refine ⟨hx, hm.below.alloc hm.below.size _, hm.base, fun b t' k hk => ?_, fun b1 b2 h1 h2 he => ?_, fun id c hid g m hg => ?_, fun id id' c c' h1 h2 => hm.apart id id' c c' (htok _ _ _ h1) (htok _ _ _ h2)⟩
  · by_cases e : b = d
    · subst e
      rw [List.getElem?_set_self hl] at hk
      cases hk
      refine ⟨by simpa using hm.below.size, vs, ?_, hcs.ext hx⟩
      simp only [if_true]
      exact heap_alloc_new _ _
    · have hk' := hold b _ e hk
      obtain ⟨h1, vs', h2, h3⟩ := hm.blk b t' k hk'
      refine ⟨by simpa [e] using h1, vs', ?_, h3.ext hx⟩
      simp only [e, if_false]
      rw [Below.heap_alloc _ _ _ (hlt b ⟨_, _, hk'⟩)]
      exact h2
  · rcases hnew b1 h1 with e1 | ⟨e1, l1⟩ <;> rcases hnew b2 h2 with e2 | ⟨e2, l2⟩
    · rw [e1, e2]
    · simp only [e1, e2, if_true, if_false] at he
      have := hlt b2 l2
      omega
    · simp only [e1, e2, if_true, if_false] at he
      have := hlt b1 l1
      omega
    · simp only [e1, e2, if_false] at he
      exact hm.inj b1 b2 l1 l2 he
  · obtain ⟨h1, h2, h3⟩ := hm.tok id c (htok _ _ _ hid) g m hg
    refine ⟨h1, by simp; omega, fun n hn => ?_⟩
    rcases hnew n hn with e | ⟨e, l⟩
    · simp only [e, if_true]
      omega
    · simp only [e, if_false]
      exact h3 n l
theorem run_newRow (t : TypeId) (cs : Array Value) : (newRow t cs).run P w = .ok ⟨w.heap.size, 0, none⟩ (w.alloc (.cells cs t)) := by
  simp [newRow, newObj, Sem.run]
theorem alloc_ok (hc : CxOk P cx) (hr : Rep W0 S st ρ σ a w) {o : Oper} {t : TypeId} (ho : o.op = .alloc t) {K : Act → World → Prop} {Q : Exit → Act → World → Prop} {E : Eff} (h : eff Ar.std cx st o.dst (.alloc t) = some E) (hs : E.side)
    (hK : ∀ v w', Res W0 S st ρ σ w E v w' → K (a.put o.dst v) w') : o.wp P a w K Q := by
  simp only [eff] at h
  split at h
  · rename_i d ti hd hl
    split at h
    · rename_i hn
      split at h
      · rename_i hlt
        cases h
        have hlt := Nat.le_of_ble_eq_true hlt
        obtain ⟨i, z, dd, hi, hz, hu, hsz, hzz, _⟩ := tiOf_info (hc.tt _ _ hl)
        have hz1 : cellsIs (gg W0 S st ρ σ w) (ti.zero.map cellOf) ti.zero := zero_is hs
        obtain ⟨hx, hm⟩ := mem_alloc (G := gg W0 S st ρ σ w) hr.mem hn hlt t hz1
        refine wp_value (v := .pointer (some ⟨w.heap.size, 0, none⟩)) (w' := w.alloc (.cells ti.zero.toArray t)) ?_ (hK _ _ ⟨_, σ, hx, ⟨⟨_, _, List.getElem?_set_self hlt⟩, by simp [gg]⟩, hm⟩)
        have he : z.cells = ti.zero.toArray := by rw [hzz]
        simp [execOp, ho, Instr.alloc, zeroValue, typeInfo, hi, hz, newVar, run_newRow, he]
      · cases h
    · cases h
  · cases h
theorem box_ok (hr : Rep W0 S st ρ σ a w) {o : Oper} {t : TypeId} {x : Operand} (ho : o.op = .box t x) {K : Act → World → Prop} {Q : Exit → Act → World → Prop} {E : Eff} (h : eff Ar.std cx st o.dst (.box t x) = some E) (hs : E.side)
    (hK : ∀ v w', Res W0 S st ρ σ w E v w' → K (a.put o.dst v) w') : o.wp P a w K Q := by
  simp only [eff] at h
  split at h
  · rename_i d g v hd hx
    split at h
    · rename_i hn
      split at h
      · rename_i hlt
        cases h
        have hlt := Nat.le_of_ble_eq_true hlt
        obtain ⟨n1, n2⟩ := hs
        obtain ⟨c1, c2⟩ := sa_cells (evalE_v hr x hx n1) n2
        obtain ⟨hx, hm⟩ := mem_alloc (G := gg W0 S st ρ σ w) hr.mem hn hlt t c1
        refine wp_value (v := .pointer (some ⟨w.heap.size, 0, none⟩)) (w' := w.alloc (.cells (a.eval x).cells.toList.toArray t)) ?_ (hK _ _ ⟨_, σ, hx, ⟨⟨_, _, List.getElem?_set_self hlt⟩, by simp [gg]⟩, hm⟩)
        simp [execOp, ho, Instr.box, newVar, run_newRow]
      · cases h
    · cases h
  · cases h

/-! ### Parts of structs, tuples -/
theorem fieldAddr_ok (hc : CxOk P cx) (hr : Rep W0 S st ρ σ a w) {o : Oper} {t : TypeId} {x : Operand} {f : Nat} (ho : o.op = .fieldAddr t x f) {K : Act → World → Prop} {Q : Exit → Act → World → Prop} {E : Eff} (h : eff Ar.std cx st o.dst (.fieldAddr t x f) = some E) (hs : E.side)
    (hK : ∀ v w', Res W0 S st ρ σ w E v w' → K (a.put o.dst v) w') : o.wp P a w K Q := by
  have main : ∀ {fs : List (Nat × Nat × Bool × Nat)} {n0 : Nat} {z0 : List Value} {q0 : Bool} {of n : Nat} {r : Bool × Nat}, look cx.tt t = some ⟨.struct fs, n0, z0, q0⟩ → fs[f]? = some (of, n, r) → ¬ Nat.beq n 0 = true → ∀ b off, a.eval x = .pointer (some ⟨b, off, none⟩) →
      (execOp a.eval o).run P w = .ok (.value (.pointer (some ⟨b, off + of, none⟩))) w := by
    intro fs n0 z0 q0 of n r hl hf hn b off e
    obtain ⟨Fs, hu, _, hfs, _⟩ := tiOf_struct (hc.tt _ _ hl)
    rw [hfs, List.getElem?_map] at hf
    obtain ⟨F, hF, hFe⟩ := Option.map_eq_some_iff.1 hf
    simp only [Prod.mk.injEq] at hFe
    obtain ⟨e1, e2, _⟩ := hFe
    have hF' : Fs[f]? = some F := by simpa using hF
    have hn0 : P.cellsOf F.type ≠ 0 := fun e => hn (by rw [← e2, e]; rfl)
    have hi : ∃ i, P.info? F.type = some i ∧ i.size ≠ 0 := by
      unfold Program.cellsOf at hn0
      cases hi : P.info? F.type with
      | none => simp [hi] at hn0
      | some i => exact ⟨i, rfl, by simpa [hi] using hn0⟩
    obtain ⟨i, hi, hi0⟩ := hi
    simp only [execOp, ho, e, Instr.fieldAt, Instr.sureAddr, Sem.run_bind, run_underlying hu w, Result.andThen_ok, hF', Sem.run_pure, fieldPlace, sizeOf, typeInfo, run_program, hi, hi0, if_false, add_at, e1]
  simp only [eff] at h
  split at h
  · rename_i g b off fs _ _ _ hx hl
    split at h
    · rename_i of n _ _ hf
      split at h
      · cases h
      · rename_i hn
        cases h
        obtain ⟨hlv, e⟩ := evalE_v hr x hx hs
        exact wp_value (main hl hf hn _ _ e) (hK _ _ (res_pure hr (e := ⟨none, _⟩) ⟨hlv, rfl⟩))
    · cases h
  · rename_i g sh y j fs _ _ _ hx hl
    split at h
    · rename_i of n _ _ hf
      split at h
      · cases h
      · rename_i hn
        cases h
        obtain ⟨b, off, us, e, hv, hcells⟩ := evalE_v hr x hx hs
        refine wp_value (main hl hf hn _ _ e) (hK _ _ (res_pure hr (e := ⟨none, _⟩) ⟨b, off + of, us.drop of, rfl, hv.drop of, fun i u hu => ?_⟩))
        rw [List.getElem?_drop] at hu
        rw [Nat.add_assoc]
        exact hcells _ u hu
    · cases h
  · cases h
theorem field_ok (hc : CxOk P cx) (hr : Rep W0 S st ρ σ a w) {o : Oper} {t : TypeId} {x : Operand} {f : Nat} (ho : o.op = .field t x f) {K : Act → World → Prop} {Q : Exit → Act → World → Prop} {E : Eff} (h : eff Ar.std cx st o.dst (.field t x f) = some E) (hs : E.side)
    (hK : ∀ v w', Res W0 S st ρ σ w E v w' → K (a.put o.dst v) w') : o.wp P a w K Q := by
  simp only [eff] at h
  split at h
  · rename_i g cs fs _ _ _ hx hl
    obtain ⟨Fs, hu, hsome, hfs, _⟩ := tiOf_struct (hc.tt _ _ hl)
    have hF : ∀ of n g4 k, fs[f]? = some (of, n, g4, k) → ∃ F d, Fs[f]? = some F ∧ P.underlying F.type = some d ∧ F.offset = of ∧ P.cellsOf F.type = n ∧ aggB P F.type = g4 := by
      intro of n g4 k hf
      rw [hfs, List.getElem?_map] at hf
      obtain ⟨F, hF, hFe⟩ := Option.map_eq_some_iff.1 hf
      simp only [Prod.mk.injEq] at hFe
      obtain ⟨e1, e2, e3, _⟩ := hFe
      have hd := hsome F (List.mem_of_getElem? hF)
      obtain ⟨d, hd⟩ := Option.isSome_iff_exists.1 hd
      exact ⟨F, d, by simpa using hF, hd, e1, e2, e3⟩
    split at h
    · rename_i of n _ hf
      obtain ⟨F, d, hF', hd, e1, e2, e3⟩ := hF _ _ _ _ hf
      split at h
      · rename_i l hcut
        cases h
        obtain ⟨hle, rfl⟩ := cut_some hcut
        obtain ⟨vs, e, hcs⟩ := evalE_v hr x hx hs
        refine wp_value (v := .agg ((vs.drop of).take n).toArray) (w' := w) ?_ (hK _ _ (res_pure hr (e := ⟨none, _⟩) ⟨_, rfl, (hcs.drop _).take _⟩))
        have hi : ∃ i, P.info? F.type = some i := by
          unfold Program.underlying at hd
          cases hi : P.info? F.type with
          | none => simp [hi] at hd
          | some i => exact ⟨i, rfl⟩
        obtain ⟨i, hi⟩ := hi
        have hin : i.size = n := by rw [← e2]; simp [Program.cellsOf, hi]
        have hex : vs.toArray.extract of (of + n) = ((vs.drop of).take n).toArray := by
          apply Array.ext'
          simp [List.extract_eq_take_drop]
        simp only [execOp, ho, e, Instr.field, Sem.run_bind, run_underlying hu w, Result.andThen_ok, hF', asAgg, Sem.run_pure, part, run_isAgg (w := w) hd, e3, if_true, sizeOf, typeInfo, run_program, hi, e1, hin, hex]
      · cases h
    · rename_i of n _ hf
      obtain ⟨F, d, hF', hd, e1, e2, e3⟩ := hF _ _ _ _ hf
      split at h
      · rename_i c hcut
        cases h
        obtain ⟨vs, e, hcs⟩ := evalE_v hr x hx hs
        obtain ⟨v, hv1, hv2, _⟩ := cut_one hcut hcs
        refine wp_value (v := v) (w' := w) ?_ (hK _ _ (res_pure hr (e := ⟨none, _⟩) hv2))
        have hv1' : vs.toArray[of]? = some v := by simpa using hv1
        simp only [execOp, ho, e, Instr.field, Sem.run_bind, run_underlying hu w, Result.andThen_ok, hF', asAgg, Sem.run_pure, part, run_isAgg (w := w) hd, e3, Bool.false_eq_true, if_false, e1, hv1']
      · cases h
    · cases h
  · cases h
theorem sasIs.get : ∀ {xs : List SA} {vs : List Value} (i : Nat) {x : SA}, sasIs G xs vs → xs[i]? = some x → ∃ v, vs[i]? = some v ∧ x.is G v
  | [], [], _, _, _, hi => by simp at hi
  | _ :: _, _ :: _, 0, _, ⟨a, _⟩, hi => by simp at hi; subst hi; exact ⟨_, rfl, a⟩
  | _ :: _, _ :: _, i + 1, _, ⟨_, b⟩, hi => by
    obtain ⟨v, h1, h2⟩ := sasIs.get i b (by simpa using hi)
    exact ⟨v, by simpa using h1, h2⟩
theorem extract_ok (hr : Rep W0 S st ρ σ a w) {o : Oper} {x : Operand} {i : Nat} (ho : o.op = .extract x i) {K : Act → World → Prop} {Q : Exit → Act → World → Prop} {E : Eff} (h : eff Ar.std cx st o.dst (.extract x i) = some E) (hs : E.side)
    (hK : ∀ v w', Res W0 S st ρ σ w E v w' → K (a.put o.dst v) w') : o.wp P a w K Q := by
  simp only [eff] at h
  split at h
  · rename_i g xs hx
    split at h
    · rename_i y hy
      cases h
      obtain ⟨vs, e, hvs⟩ := evalE_v hr x hx hs
      obtain ⟨v, h1, h2⟩ := hvs.get i hy
      refine wp_value (v := v) (w' := w) ?_ (hK _ _ (res_pure hr (e := ⟨none, _⟩) h2))
      have h1' : vs.toArray[i]? = some v := by simpa using h1
      simp only [execOp, ho, e, Instr.extract, Sem.run_bind, h1', Sem.run_pure, Result.andThen_ok]
    · cases h
  · cases h
theorem un_ok (hr : Rep W0 S st ρ σ a w) {o : Oper} {op : UnOp} {t : TypeId} {x : Operand} (ho : o.op = .unOp op t x) {K : Act → World → Prop} {Q : Exit → Act → World → Prop} {E : Eff} (h : eff Ar.std cx st o.dst (.unOp op t x) = some E) (hs : E.side)
    (hK : ∀ v w', Res W0 S st ρ σ w E v w' → K (a.put o.dst v) w') : o.wp P a w K Q := by
  simp only [eff] at h
  split at h
  · rename_i g b hx
    cases h
    have e : a.eval x = .bool b := evalE_v hr x hx hs
    refine wp_value (v := .bool (!b)) (w' := w) ?_ (hK _ _ (res_pure hr (e := ⟨none, _⟩) rfl))
    simp [execOp, ho, e, Op.unary]
  · rename_i g k n hx
    cases h
    have e : a.eval x = .int k n := evalE_v hr x hx hs
    refine wp_value (v := .int k (stdBin .sub k 0 n)) (w' := w) ?_ (hK _ _ (res_pure hr (e := ⟨none, _⟩) rfl))
    simp [execOp, ho, e, Op.unary, Op.intArith, stdBin]
  · rename_i g k n hx
    cases h
    have e : a.eval x = .int k n := evalE_v hr x hx hs
    refine wp_value (v := .int k (stdBin .xor k (if k.signed then -1 else k.max) n)) (w' := w) ?_ (hK _ _ (res_pure hr (e := ⟨none, _⟩) rfl))
    simp [execOp, ho, e, Op.unary, intBits_xor, stdBin]
  · cases h
theorem rowIs.cells {sz : Nat} {α : Type} {Q : α → List Value → Prop} {l : List α} {v : Value} (h : rowIs G sz Q l v) {i : Nat} {x : α} (hx : l[i]? = some x) : ∃ b o c us, v = .slice (some ⟨b, o, none⟩) l.length c ∧ us.length = sz ∧ Q x us ∧ ∀ j u, us[j]? = some u → cellAt G b (o + i * sz + j) u := by
  obtain ⟨A, c, e, _, _, h3⟩ := h
  have hne : l ≠ [] := by rintro rfl; simp at hx
  obtain ⟨b, o, rfl, hc⟩ := h3 hne
  obtain ⟨us, h1, h2, h3⟩ := hc i x hx
  exact ⟨b, o, c, us, e, h1, h2, h3⟩
theorem bytesL_mk (l : List Int) : bytesL ⟨(l.map fun n => UInt8.ofNat n.toNat).toArray⟩ = l.map fun n => ((UInt8.ofNat n.toNat).toNat : Int) := by
  simp [bytesL]
theorem push_all (ns : List Int) : ∀ acc : Array UInt8, ns.foldl (fun (r : ByteArray) n => r.push (UInt8.ofNat n.toNat)) (ByteArray.mk acc) = ByteArray.mk (acc ++ (ns.map fun n => UInt8.ofNat n.toNat).toArray) := by
  induction ns with
  | nil => intro acc; simp
  | cons n ns ih =>
    intro acc
    rw [List.foldl_cons]
    show ns.foldl _ (ByteArray.mk (acc.push (UInt8.ofNat n.toNat))) = _
    rw [ih]
    simp
theorem run_bytes {l : List Int} {v : Value} (h : intsIs G .u8 l v) : (Conv.bytesToString v).run P G.w = .ok (.string ⟨(l.map fun n => UInt8.ofNat n.toNat).toArray⟩) G.w := by
  have hp := push_all l #[]
  simp only [Array.empty_append] at hp
  have hp : l.foldl (fun (r : ByteArray) n => r.push (UInt8.ofNat n.toNat)) ByteArray.empty = ⟨(l.map fun n => UInt8.ofNat n.toNat).toArray⟩ := hp
  obtain ⟨A, c, rfl, _, _, h3⟩ := h
  cases A with
  | none =>
    have : l = [] := by
      cases l with
      | nil => rfl
      | cons n l => obtain ⟨b, o, e, _⟩ := h3 (by simp); cases e
    subst this
    rfl
  | some ad =>
    have hrun : (loadCells ad l.length).run P G.w = .ok (l.map (Value.int .u8)).toArray G.w := by
      have := run_loadCells_list (P := P) G.w ad (l.map (Value.int .u8)) (fun j v hv => by
        rw [List.getElem?_map] at hv
        obtain ⟨x, hx, rfl⟩ := Option.map_eq_some_iff.1 hv
        obtain ⟨b, o, e, hc⟩ := h3 (by rintro rfl; simp at hx)
        cases e
        obtain ⟨us, u1, u2, u3⟩ := hc j x hx
        subst u2
        have := (u3 0 _ rfl).cell
        rw [add_at]
        simpa using this)
      simpa using this
    rw [run_bytesToString (P := P) G.w ad l.length c l hrun, hp]
theorem conv_ok (hc : CxOk P cx) (hr : Rep W0 S st ρ σ a w) {o : Oper} {t u : TypeId} {x : Operand} (ho : o.op = .convert t u x) {K : Act → World → Prop} {Q : Exit → Act → World → Prop} {E : Eff} (h : eff Ar.std cx st o.dst (.convert t u x) = some E) (hs : E.side)
    (hK : ∀ v w', Res W0 S st ρ σ w E v w' → K (a.put o.dst v) w') : o.wp P a w K Q := by
  simp only [eff] at h
  split at h
  · rename_i e _ _ _ _ _ _ _ g _ l h1 h2 hx
    split at h
    · rename_i h3
      cases h
      obtain ⟨hu1, _, _⟩ := tiOf_slice (hc.tt _ _ h1)
      have hu2 := tiOf_str (hc.tt _ _ h2)
      have hu3 := tiOf_int (hc.tt _ _ h3)
      obtain ⟨hv, _⟩ := evalE_v hr x hx hs
      have hrun := run_bytes (P := P) (G := gg W0 S st ρ σ w) hv
      refine wp_value (v := .string ⟨(l.map fun n => UInt8.ofNat n.toNat).toArray⟩) (w' := w) ?_ (hK _ _ (res_pure hr (e := ⟨none, _⟩) ⟨_, rfl, bytesL_mk l⟩))
      obtain ⟨A, c, ev, _, _, _⟩ := hv
      rw [ev] at hrun
      have hrun : (Conv.bytesToString (.slice A l.length c)).run P w = .ok (.string ⟨(l.map fun n => UInt8.ofNat n.toNat).toArray⟩) w := hrun
      simp only [execOp, ho, ev, convert, Sem.run_bind, run_underlying hu1 w, run_underlying hu2 w, Result.andThen_ok, run_underlying hu3 w, hrun, Sem.run_pure]
    · cases h
  · rename_i ti k _ _ _ g k' n h1 h2 hx
    cases h
    obtain ⟨_, _, d, _, _, hu, _⟩ := tiOf_info (hc.tt _ _ h1)
    have hu2 := tiOf_int (hc.tt _ _ h2)
    have e : a.eval x = .int k' n := evalE_v hr x hx hs
    refine wp_value (v := .int k (k.wrap n)) (w' := w) ?_ (hK _ _ (res_pure hr (e := ⟨none, _⟩) rfl))
    simp [execOp, ho, e, convert, run_underlying hu w, run_underlying hu2 w, Conv.intToInt]
  · cases h

/-! ### Slices -/
theorem getD_at {α : Type} {l : List α} {d : α} {i : Int} (h0 : 0 ≤ i) (h1 : i < l.length) : l[i.toNat]? = some (l.getD i.toNat d) := by
  have : i.toNat < l.length := by omega
  simp [this]
theorem indexAddr_ok (hc : CxOk P cx) (hr : Rep W0 S st ρ σ a w) {o : Oper} {t : TypeId} {x y : Operand} (ho : o.op = .indexAddr t x y) {K : Act → World → Prop} {Q : Exit → Act → World → Prop} {E : Eff} (h : eff Ar.std cx st o.dst (.indexAddr t x y) = some E) (hs : E.side)
    (hK : ∀ v w', Res W0 S st ρ σ w E v w' → K (a.put o.dst v) w') : o.wp P a w K Q := by
  have main : ∀ {e : TypeId} {m n : Nat} {z : List Value} {q : Bool} {b off len c : Nat} {k : IntKind} {i : Int}, look cx.tt t = some ⟨.slice e m, n, z, q⟩ → a.eval x = .slice (some ⟨b, off, none⟩) len c → a.eval y = .int k i → 0 ≤ i → i < len →
      (execOp a.eval o).run P w = .ok (.value (.pointer (some ⟨b, off + i.toNat * m, none⟩))) w := by
    intro e m n z q b off len c k i hl ex ey h0 h1
    obtain ⟨hu, ⟨ie, hie⟩, hm⟩ := tiOf_slice (hc.tt _ _ hl)
    have hm' : ie.size = m := by rw [hm]; simp [Program.cellsOf, hie]
    have hcond : 0 ≤ i ∧ i < (len : Int) := ⟨h0, h1⟩
    simp only [execOp, ho, ex, ey, Instr.indexAt, asIntOf, Sem.run_bind, Sem.run_pure, Result.andThen_ok, run_underlying hu w, hcond, and_self, if_true, sizeOf, typeInfo, run_program, hie, hm', add_at]
  simp only [eff] at h
  split at h
  · rename_i g _ k l g' k' i _ n _ _ _ hx hy hl
    split at h
    · rename_i hn
      have hn := Nat.eq_of_beq_eq_true hn
      subst hn
      cases h
      obtain ⟨n1, n2, h0, h1⟩ := hs
      have h0 : 0 ≤ i := by simpa [Ar.std, stdCmp] using h0
      have h1 : i < l.length := by simpa [Ar.std, stdCmp] using h1
      obtain ⟨hv, _⟩ := evalE_v hr x hx n1
      have ey : a.eval y = .int k' i := evalE_v hr y hy n2
      obtain ⟨b, off, c, us, ex, u1, u2, u3⟩ := rowIs.cells hv (getD_at (d := 0) h0 h1)
      refine wp_value (main hl ex ey h0 h1) (hK _ _ (res_pure hr (e := ⟨none, _⟩) ⟨_, _, rfl, ?_⟩))
      subst u2
      exact u3 0 _ rfl
    · cases h
  · rename_i g _ s l g' k' i _ n _ _ _ hx hy hl
    split at h
    · rename_i hn
      have hn := Nat.eq_of_beq_eq_true hn
      subst hn
      cases h
      obtain ⟨n1, n2, h0, h1⟩ := hs
      have h0 : 0 ≤ i := by simpa [Ar.std, stdCmp] using h0
      have h1 : i < l.length := by simpa [Ar.std, stdCmp] using h1
      obtain ⟨hv, _⟩ := evalE_v hr x hx n1
      have ey : a.eval y = .int k' i := evalE_v hr y hy n2
      obtain ⟨b, off, c, us, ex, u1, u2, u3⟩ := rowIs.cells hv (getD_at (d := []) h0 h1)
      exact wp_value (main hl ex ey h0 h1) (hK _ _ (res_pure hr (e := ⟨none, _⟩) ⟨_, _, us, rfl, u2, u3⟩))
    · cases h
  · cases h
theorem rowIs.cut {sz : Nat} {α : Type} {Q : α → List Value → Prop} {l : List α} {A : Option Addr} {c lo hi : Nat} (h : rowIs G sz Q l (.slice A l.length c)) (h1 : lo ≤ hi) (h2 : hi ≤ l.length) :
    rowIs G sz Q ((l.take hi).drop lo) (.slice (if c = lo then A else A.map (·.add (lo * sz))) (hi - lo) (c - lo)) := by
  obtain ⟨A', c', e, g1, g2, g3⟩ := h
  cases e
  have hlen : ((l.take hi).drop lo).length = hi - lo := by simp; omega
  refine ⟨_, c - lo, by rw [hlen], by omega, by omega, fun hne => ?_⟩
  have hlt : lo < hi := by
    rcases Nat.lt_or_ge lo hi with g | g
    · exact g
    · exact absurd (List.length_eq_zero_iff.1 (by omega)) hne
  have hl : l ≠ [] := by rintro rfl; simp at h2; omega
  obtain ⟨b, o, rfl, hc⟩ := g3 hl
  rw [if_neg (by omega)]
  refine ⟨b, o + lo * sz, by simp [add_at], fun i x hx => ?_⟩
  rw [List.getElem?_drop, List.getElem?_take] at hx
  split at hx
  · obtain ⟨us, u1, u2, u3⟩ := hc _ x hx
    refine ⟨us, u1, u2, fun j u hu => ?_⟩
    have := u3 j u hu
    rw [Nat.add_mul] at this
    rw [show o + lo * sz + i * sz + j = o + (lo * sz + i * sz) + j by omega]
    exact this
  · cases hx
theorem Ct.len_is {c : Ct} {v : Value} (h : c.is G v) : ∃ A n cap, v = .slice A n cap ∧ c.len Ar.std = n ∧ n ≤ cap := by
  cases c with
  | ints k l => obtain ⟨A, cap, e, h1, _⟩ := h; exact ⟨A, l.length, cap, e, rfl, h1⟩
  | recs s l => obtain ⟨A, cap, e, h1, _⟩ := h; exact ⟨A, l.length, cap, e, rfl, h1⟩
theorem Ct.cut_is {c : Ct} {A : Option Addr} {n cap : Nat} {lo hi : Int} (h : c.is G (.slice A n cap)) (h0 : 0 ≤ lo) (h1 : lo ≤ hi) (h2 : hi ≤ c.len Ar.std) :
    (c.cut Ar.std lo hi).is G (.slice (if cap = lo.toNat then A else A.map (·.add (lo.toNat * c.sz))) (hi.toNat - lo.toNat) (cap - lo.toNat)) := by
  cases c with
  | ints k l =>
    have h2 : hi ≤ l.length := h2
    have hn : n = l.length := by obtain ⟨_, _, e, _⟩ := h; cases e; rfl
    subst hn
    exact rowIs.cut h (by omega) (by omega)
  | recs s l =>
    have h2 : hi ≤ l.length := h2
    have hn : n = l.length := by obtain ⟨_, _, e, _⟩ := h; cases e; rfl
    subst hn
    exact rowIs.cut h (by omega) (by omega)
theorem bnd_ok (hr : Rep W0 S st ρ σ a w) {d : Int} {x : Option Operand} {g : Option Bool} {i : Int} (h : bnd st d x = some (g, i)) (hn : need g) : (x = none ∧ i = d) ∨ ∃ y k, x = some y ∧ a.eval y = .int k i := by
  unfold bnd at h
  split at h
  · cases h; exact .inl ⟨rfl, rfl⟩
  · rename_i y
    split at h
    · rename_i g' k n hy
      cases h
      exact .inr ⟨y, k, rfl, evalE_v hr y hy hn⟩
    · cases h
theorem slice_ok (hc : CxOk P cx) (hr : Rep W0 S st ρ σ a w) {o : Oper} {t : TypeId} {x : Operand} {lo hi mx : Option Operand} (ho : o.op = .slice t x lo hi mx) {K : Act → World → Prop} {Q : Exit → Act → World → Prop} {E : Eff} (h : eff Ar.std cx st o.dst (.slice t x lo hi mx) = some E) (hs : E.side)
    (hK : ∀ v w', Res W0 S st ρ σ w E v w' → K (a.put o.dst v) w') : o.wp P a w K Q := by
  simp only [eff] at h
  split at h
  · rename_i g _ ct e m _ _ _ hx hl
    obtain ⟨hu, ⟨ie, hie⟩, hm⟩ := tiOf_slice (hc.tt _ _ hl)
    split at h
    · rename_i g1 l g2 hh hb1 hb2
      split at h
      · rename_i hn
        have hn := Nat.eq_of_beq_eq_true hn
        cases h
        obtain ⟨n1, n2, n3, s1, s2, s3⟩ := hs
        have s1 : 0 ≤ l := by simpa [Ar.std, stdCmp] using s1
        have s2 : l ≤ hh := by simpa [Ar.std, stdCmp] using s2
        have s3 : hh ≤ ct.len Ar.std := by simpa [Ar.std, stdCmp] using s3
        obtain ⟨hv, _⟩ := evalE_v hr x hx n1
        obtain ⟨A, n, cap, ev, hlen, hcap⟩ := Ct.len_is hv
        have hie' : ie.size = ct.sz := by rw [← hn, hm]; simp [Program.cellsOf, hie]
        have hv' := hv
        rw [ev] at hv'
        have hres := Ct.cut_is hv' s1 s2 s3
        refine wp_value (v := .slice (if cap = l.toNat then A else A.map (·.add (l.toNat * ct.sz))) (hh.toNat - l.toNat) (cap - l.toNat)) (w' := w) ?_ (hK _ _ (res_pure hr (e := ⟨none, _⟩) ⟨hres, trivial⟩))
        have b1 : ∀ {k : IntKind} {i : Int} {y : Nat} {c : BoundsCode}, 0 ≤ i → i ≤ y → (Instr.sliceBound (.int k i) y c).run P w = .ok i.toNat w := by
          intro k i y c g1 g2
          simp [Instr.sliceBound, asIntOf, g1, g2]
        have hbounds : (Instr.sliceBounds true n cap (lo.map a.eval) (hi.map a.eval) none).run P w = .ok (l.toNat, hh.toNat, cap) w := by
          rcases bnd_ok hr hb1 n2 with ⟨rfl, rfl⟩ | ⟨y1, k1, rfl, e1⟩ <;> rcases bnd_ok hr hb2 n3 with ⟨rfl, rfl⟩ | ⟨y2, k2, rfl, e2⟩
          · simp [Instr.sliceBounds, hlen]
          · have := b1 (k := k2) (y := cap) (c := .sliceAcap) (show 0 ≤ hh by omega) (by omega)
            simp [Instr.sliceBounds, e2, this]
          · have := b1 (k := k1) (y := n) (c := .sliceB) s1 (by omega)
            simp [Instr.sliceBounds, e1, this, hlen]
          · have h2 := b1 (k := k2) (y := cap) (c := .sliceAcap) (show 0 ≤ hh by omega) (by omega)
            have h1 := b1 (k := k1) (y := hh.toNat) (c := .sliceB) s1 (by omega)
            simp [Instr.sliceBounds, e1, e2, h1, h2]
        simp only [execOp, ho, Option.map_none, Instr.sliceAt, Sem.run_bind, run_underlying hu w, Result.andThen_ok, Instr.slice, ev, hbounds, sizeOf, typeInfo, run_program, hie, hie', Sem.run_pure]
      · cases h
    · cases h
  · cases h
/-! ### Lists of operands; what is built of them -/
theorem sas_is (hr : Rep W0 S st ρ σ a w) : ∀ {l : List Operand} {xs : List SA}, sas (l.map (evalE st)) = some xs → needs (l.map (evalE st)) → sasIs (gg W0 S st ρ σ w) xs (l.map a.eval)
  | [], xs, h, _ => by cases h; trivial
  | x :: l, xs, h, hn => by
    simp only [List.map_cons] at h
    have hn2 : need (evalE st x).g ∧ needs (l.map (evalE st)) := by
      cases l with
      | nil => exact ⟨hn, trivial⟩
      | cons _ _ => exact hn
    generalize hx : evalE st x = e at h hn2
    obtain ⟨g, v⟩ := e
    cases v with
    | tup _ => cases h
    | sa y =>
      simp only [sas] at h
      obtain ⟨ys, h1, rfl⟩ := Option.map_eq_some_iff.1 h
      exact ⟨evalE_v hr x hx hn2.1, sas_is hr h1 hn2.2⟩
theorem fold_paste (off : Nat) : ∀ (us : List Value) (k : Nat) (l : List Value), (us.zipIdx k).foldl (fun (cs : Array Value) (p : Value × Nat) => cs.setIfInBounds (off + p.2) p.1) l.toArray = (pasteV l (off + k) us).toArray
  | [], _, _ => by simp [pasteV]
  | u :: us, k, l => by
    simp only [List.zipIdx_cons, List.foldl_cons, pasteV, List.setIfInBounds_toArray]
    rw [fold_paste off us (k + 1) (l.set (off + k) u), Nat.add_assoc]
theorem fill_is {place : Nat → Option (Nat × Nat)} : ∀ {ps : List Nat} {vs : List SA} {us : List Value} {cs : List SC} {l : List Value} {out : List SC}, (∀ (v : SA) (u : Value), v.is G u → v.side → cellsIs G v.cells u.cells.toList ∧ v.cells.length = u.cells.size) →
    sasIs G vs us → sidesA vs → ps.length = vs.length → cellsIs G cs l → fillS place cs (ps.zip vs) = some out → ∃ l', Instr.fill place l.toArray (ps.zip us) = some l'.toArray ∧ cellsIs G out l'
  | [], [], [], cs, l, out, _, _, _, _, hc, hf => by cases hf; exact ⟨l, rfl, hc⟩
  | p :: ps, v :: vs, u :: us, cs, l, out, hk, ⟨h1, h2⟩, hs, hlen, hc, hf => by
    have hs2 : v.side ∧ sidesA vs := by
      cases vs with
      | nil => exact ⟨hs, trivial⟩
      | cons _ _ => exact hs
    obtain ⟨c1, c2⟩ := hk v u h1 hs2.1
    simp only [List.zip_cons_cons, fillS] at hf
    split at hf
    · cases hf
    · rename_i off size hp
      split at hf
      · rename_i hb
        simp only [Bool.and_eq_true] at hb
        have b1 := Nat.eq_of_beq_eq_true hb.1
        have b2 := Nat.le_of_ble_eq_true hb.2
        have hl := hc.len
        obtain ⟨l', e1, e2⟩ := fill_is hk h2 hs2.2 (by simpa using hlen) (hc.paste off c1) hf
        refine ⟨l', ?_, e2⟩
        have hcond : (u.cells.size ≠ size || off + u.cells.size > l.toArray.size) = false := by simp; omega
        have hfold : u.cells.zipIdx.foldl (fun cs (p : Value × Nat) => cs.setIfInBounds (off + p.2) p.1) l.toArray = (pasteV l off u.cells.toList).toArray := by
          rw [← Array.foldl_toList, Array.toList_zipIdx]
          exact fold_paste off u.cells.toList 0 l
        simp only [List.zip_cons_cons, Instr.fill, hp, hcond, Bool.false_eq_true, if_false]
        rw [← e1, ← hfold]
      · cases hf
  | [], _ :: _, _, _, _, _, _, _, _, hlen, _, _ => by simp at hlen
  | _ :: _, [], _, _, _, _, _, _, _, hlen, _, _ => by simp at hlen
theorem sasIs.len : ∀ {xs : List SA} {us : List Value}, sasIs G xs us → xs.length = us.length
  | [], [], _ => rfl
  | _ :: _, _ :: _, ⟨_, c⟩ => by simp [sasIs.len c]
theorem mapM_info : ∀ (fs : List Field), (∀ f ∈ fs, (P.underlying f.type).isSome = true) → fs.mapM (fun f => (P.info? f.type).map fun i => (f.offset, i.size)) = some (fs.map fun f => (f.offset, P.cellsOf f.type))
  | [], _ => rfl
  | f :: fs, hall => by
    have hi : ∃ i, P.info? f.type = some i := by
      have hd := hall f (List.mem_cons_self ..)
      unfold Program.underlying at hd
      cases hi : P.info? f.type with
      | none => simp [hi] at hd
      | some i => exact ⟨i, rfl⟩
    obtain ⟨i, hi⟩ := hi
    simp [List.mapM_cons, mapM_info fs fun g hg => hall g (List.mem_cons_of_mem _ hg), hi, Program.cellsOf]
/-! ### New slices -/
theorem shEq_eq : ∀ {s s' : Sh}, shEq s s' = true → s' = s
  | .nil, .nil, _ => rfl
  | .int k r, .int k' r', h => by
    simp only [shEq, Bool.and_eq_true] at h
    rw [kindEq_eq h.1, shEq_eq h.2]
  | .bool r, .bool r', h => by
    simp only [shEq] at h
    rw [shEq_eq h]
  | .ints k r, .ints k' r', h => by
    simp only [shEq, Bool.and_eq_true] at h
    rw [kindEq_eq h.1, shEq_eq h.2]
  | .recs s r, .recs s' r', h => by
    simp only [shEq, Bool.and_eq_true] at h
    rw [shEq_eq h.1, shEq_eq h.2]
theorem rowIs_nil {sz : Nat} {α : Type} {Q : α → List Value → Prop} : rowIs G sz Q [] (.slice none 0 0) := ⟨none, 0, rfl, Nat.le_refl _, by unfold maxLen; omega, fun h => absurd rfl h⟩
theorem toE_is : ∀ {s : Sh} {cs : List SC} {us : List Value} {x : E}, toE s cs = some x → cellsIs G cs us → ∀ pre : E, valsIs G s (pre ++ x) pre.length us
  | .nil, [], [], x, h, _, pre => by rfl
  | .int k r, .val (.int k' n) :: cs, u :: us, x, h, hc, pre => by
    simp only [toE] at h
    split at h
    · rename_i hk
      obtain ⟨y, hy, rfl⟩ := Option.map_eq_some_iff.1 h
      obtain ⟨⟨h1, _⟩, h2⟩ := hc
      have h1 : u = .int k' n := h1
      subst h1
      rw [kindEq_eq hk]
      refine ⟨us, by simp [ri], ?_⟩
      have := toE_is hy h2 (pre ++ [.int n])
      simpa using this
    · cases h
  | .bool r, .val (.bool b) :: cs, u :: us, x, h, hc, pre => by
    simp only [toE] at h
    obtain ⟨y, hy, rfl⟩ := Option.map_eq_some_iff.1 h
    obtain ⟨⟨h1, _⟩, h2⟩ := hc
    have h1 : u = .bool b := h1
    subst h1
    refine ⟨us, by simp [rb], ?_⟩
    have := toE_is hy h2 (pre ++ [.bool b])
    simpa using this
  | .ints k r, .sl tk (.ints k' l) :: cs, u :: us, x, h, hc, pre => by
    simp only [toE] at h
    split at h
    · rename_i hk
      obtain ⟨y, hy, rfl⟩ := Option.map_eq_some_iff.1 h
      obtain ⟨⟨h1, _⟩, h2⟩ := hc
      rw [kindEq_eq hk] at h1
      refine ⟨u, us, rfl, by have h := h1.1; simpa [rl, Ct.is] using h, ?_⟩
      have := toE_is hy h2 (pre ++ [.ints l])
      simpa using this
    · cases h
  | .recs s r, .sl tk (.recs s' l) :: cs, u :: us, x, h, hc, pre => by
    simp only [toE] at h
    split at h
    · rename_i hk
      obtain ⟨y, hy, rfl⟩ := Option.map_eq_some_iff.1 h
      obtain ⟨⟨h1, _⟩, h2⟩ := hc
      rw [shEq_eq hk] at h1
      refine ⟨u, us, rfl, by have h := h1.1; simpa [rr, Ct.is] using h, ?_⟩
      have := toE_is hy h2 (pre ++ [.recs l])
      simpa using this
    · cases h
  | .ints k r, .val v :: cs, u :: us, x, h, hc, pre => by
    obtain ⟨⟨h1, _⟩, h2⟩ := hc
    have h1 : u = v := h1
    subst h1
    have hv : u = .slice none 0 0 := by
      unfold toE at h
      split at h <;> first | (cases h; done) | simp_all
    subst hv
    simp only [toE] at h
    obtain ⟨y, hy, rfl⟩ := Option.map_eq_some_iff.1 h
    refine ⟨_, us, rfl, by have := @rowIs_nil G 1 Int (fun n us => us = [.int k n]); simpa [rl, intsIs] using this, ?_⟩
    have := toE_is hy h2 (pre ++ [.ints []])
    simpa using this
  | .recs s r, .val v :: cs, u :: us, x, h, hc, pre => by
    obtain ⟨⟨h1, _⟩, h2⟩ := hc
    have h1 : u = v := h1
    subst h1
    have hv : u = .slice none 0 0 := by
      unfold toE at h
      split at h <;> first | (cases h; done) | simp_all
    subst hv
    simp only [toE] at h
    obtain ⟨y, hy, rfl⟩ := Option.map_eq_some_iff.1 h
    refine ⟨_, us, rfl, by simpa [rr] using rowIs_nil, ?_⟩
    have := toE_is hy h2 (pre ++ [.recs []])
    simpa using this
theorem rho_lt (hm : Mem W0 G) {n : Nat} (hn : live G.h n) : G.ρ n < G.w.heap.size := by
  obtain ⟨t, k, hk⟩ := hn
  obtain ⟨_, vs, h2, _⟩ := hm.blk n t k hk
  exact heap_lt h2
theorem toIs_is {k : IntKind} : ∀ {vs : List SA} {us : List Value} {l : List Int}, toIs k vs = some l → sasIs G vs us → us = l.map (.int k)
  | [], [], l, h, _ => by cases h; rfl
  | .one (.val (.int k' n)) :: vs, u :: us, l, h, ⟨h1, h2⟩ => by
    simp only [toIs] at h
    split at h
    · rename_i hk
      obtain ⟨y, hy, rfl⟩ := Option.map_eq_some_iff.1 h
      have h1 : u = .int k' n := h1
      rw [h1, kindEq_eq hk, toIs_is hy h2]
      rfl
    · cases h
theorem toEs_is {s : Sh} : ∀ {vs : List SA} {us : List Value} {l : List E}, toEs s vs = some l → sasIs G vs us → sidesA vs → l.length = us.length ∧ ∀ (i : Nat) (x : E) (u : Value), l[i]? = some x → us[i]? = some u → valsIs G s x 0 u.cells.toList
  | [], [], l, h, _, _ => by cases h; exact ⟨rfl, fun i x u h => by simp at h⟩
  | v :: vs, u :: us, l, h, ⟨h1, h2⟩, hs => by
    have hs2 : v.side ∧ sidesA vs := by
      cases vs with
      | nil => exact ⟨hs, trivial⟩
      | cons _ _ => exact hs
    simp only [toEs] at h
    split at h
    · rename_i x xs hx hxs
      cases h
      obtain ⟨e1, e2⟩ := toEs_is hxs h2 hs2.2
      refine ⟨by simp [e1], fun i y u' hy hu => ?_⟩
      cases i with
      | zero =>
        simp at hy hu
        subst hy hu
        simpa using toE_is hx (sa_cells h1 hs2.1).1 []
      | succ i => exact e2 i y u' (by simpa using hy) (by simpa using hu)
    · cases h
/-- Values that stand in a row are what they come to together. -/
theorem mkCt_is {G' : Gm} (x : Sub G G') {h : Option Ct} {sz : Nat} {vs : List SA} {us : List Value} {ct : Ct} (hct : mkCt h sz vs = some ct) (hv : sasIs G vs us) (hs : sidesA vs) (hsz : ∀ v ∈ vs, v.cells.length = sz) (hm : us.length ≤ maxLen) {g c : Nat} (hcap : us.length ≤ c) (hcm : c ≤ maxLen)
    (hcell : ∀ (i : Nat) (u : Value), us[i]? = some u → u.cells.toList.length = sz ∧ ∀ (j : Nat) (c : Value), u.cells.toList[j]? = some c → cellAt G' g (i * sz + j) c) :
    ct.is G' (.slice (some ⟨g, 0, none⟩) us.length c) ∧ ct.sz = sz := by
  have rows : ∀ {s : Sh} {l : List E}, toEs s vs = some l → rowIs G' sz (fun y us => valsIs G' s y 0 us) l (.slice (some ⟨g, 0, none⟩) us.length c) := by
    intro s l hl
    obtain ⟨e1, e2⟩ := toEs_is hl hv hs
    refine ⟨_, c, by rw [e1], by omega, hcm, fun _ => ⟨g, 0, rfl, fun i y hy => ?_⟩⟩
    have hi : i < us.length := by rw [← e1]; exact get_lt hy
    obtain ⟨c1, c2⟩ := hcell i _ (List.getElem?_eq_getElem hi)
    refine ⟨_, c1, (e2 i y _ hy (List.getElem?_eq_getElem hi)).sub x, fun j u hu => ?_⟩
    rw [Nat.zero_add]
    exact c2 j u hu
  unfold mkCt at hct
  split at hct
  · have : us = [] := by cases us with
      | nil => rfl
      | cons _ _ => exact hv.elim
    subst this
    split at hct
    · split at hct
      · rename_i hz
        cases hct
        exact ⟨⟨_, c, rfl, Nat.zero_le _, hcm, fun h => absurd rfl h⟩, (Nat.eq_of_beq_eq_true hz).symm⟩
      · cases hct
    · split at hct
      · rename_i hz
        cases hct
        have hz := Nat.eq_of_beq_eq_true hz
        subst hz
        exact ⟨⟨_, c, rfl, Nat.zero_le _, hcm, fun h => absurd rfl h⟩, rfl⟩
      · cases hct
    · cases hct
  · split at hct
    · rename_i k a l hz
      have hz := Nat.eq_of_beq_eq_true hz
      subst hz
      obtain ⟨l', hl', rfl⟩ := Option.map_eq_some_iff.1 hct
      have hu := toIs_is hl' hv
      refine ⟨⟨_, c, by rw [hu]; simp, by rw [hu] at hcap; simpa using hcap, hcm, fun _ => ⟨g, 0, rfl, fun i y hy => ?_⟩⟩, rfl⟩
      have hi : us[i]? = some (.int k y) := by rw [hu, List.getElem?_map, hy]; rfl
      obtain ⟨_, c2⟩ := hcell i _ hi
      refine ⟨[.int k y], rfl, rfl, fun j u hu => ?_⟩
      rw [Nat.zero_add]
      exact c2 j u hu
    · cases hct
  · split at hct
    · rename_i s hsh
      split at hct
      · rename_i hz
        have hz := Nat.eq_of_beq_eq_true hz
        subst hz
        obtain ⟨l', hl', rfl⟩ := Option.map_eq_some_iff.1 hct
        exact ⟨rows hl', rfl⟩
      · cases hct
    · cases hct
theorem freeAt_ok {d : Nat} (h : freeAt st d = true) : st.heap.getD d none = none ∧ d < st.heap.length := by
  unfold freeAt at h
  split at h
  · rename_i e
    exact ⟨e, Nat.le_of_ble_eq_true h⟩
  · cases h
/-- A new row that may be appended to. -/
theorem mem_tok (hm : Mem W0 G) {d : Nat} (hd : G.h.getD d none = none) (hl : d < G.h.length) (e : TypeId) (vs : Array Value) (m : Nat) :
    Ext G ⟨G.ρ, G.h.set d (some (.tok 0 true)), fun i => if i = d then some (G.w.heap.size, m) else G.σ i, G.S, G.B, G.w.alloc (.cells vs e)⟩ ∧
    Mem W0 ⟨G.ρ, G.h.set d (some (.tok 0 true)), fun i => if i = d then some (G.w.heap.size, m) else G.σ i, G.S, G.B, G.w.alloc (.cells vs e)⟩ ∧
    ∀ j, j < m → Gm.ok ⟨G.ρ, G.h.set d (some (.tok 0 true)), fun i => if i = d then some (G.w.heap.size, m) else G.σ i, G.S, G.B, G.w.alloc (.cells vs e)⟩ G.w.heap.size j := by
  have hnone : ∀ k, G.h[d]? ≠ some (some k) := by
    intro k hk
    rw [List.getD_eq_getElem?_getD, hk] at hd
    cases hd
  have hlt : ∀ b, live G.h b → G.ρ b < G.w.heap.size := fun b hb => rho_lt hm hb
  have hlive : ∀ n, live (G.h.set d (some (.tok 0 true))) n ↔ live G.h n := by
    intro n
    constructor
    · rintro ⟨t', k, hk⟩
      by_cases e : d = n
      · subst e; rw [List.getElem?_set_self hl] at hk; cases hk
      · exact ⟨t', k, by rwa [List.getElem?_set_ne e] at hk⟩
    · rintro ⟨t', k, hk⟩
      have e : d ≠ n := by rintro rfl; exact hnone _ hk
      exact ⟨t', k, by rwa [List.getElem?_set_ne e]⟩
  have htok : ∀ id c, tokOn (G.h.set d (some (.tok 0 true))) id c → id = d ∨ id ≠ d ∧ tokOn G.h id c := by
    intro id c h
    by_cases e : id = d
    · exact .inl e
    · refine .inr ⟨e, ?_⟩
      unfold tokOn at h ⊢
      rwa [List.getElem?_set_ne (Ne.symm e)] at h
  have hx : Ext G ⟨G.ρ, G.h.set d (some (.tok 0 true)), fun i => if i = d then some (G.w.heap.size, m) else G.σ i, G.S, G.B, G.w.alloc (.cells vs e)⟩ := by
    refine ⟨⟨fun b j h => ⟨?_, h.old, fun n hn => h.blk n ((hlive n).1 hn), fun id c hid g m' hg he => ?_⟩, fun b j h => cell_other (Below.heap_alloc _ _ _ h.lt) j⟩, fun _ _ => rfl, fun b hb => (hlive b).2 hb, rfl, ?_⟩
    · have := h.lt
      simp
      omega
    · rcases htok id c hid with e | ⟨e, ht⟩
      · simp only [e, if_true] at hg
        cases hg
        have := h.lt
        omega
      · simp only [e, if_false] at hg
        exact h.tok id c ht g m' hg he
    · intro id c al hid
      have hne : d ≠ id := by rintro rfl; exact hnone _ hid
      refine ⟨c, al, by rw [List.getElem?_set_ne hne]; exact hid, Nat.le_refl _, fun _ ha => ⟨ha, by simp [Ne.symm hne], fun g m hg => ?_⟩⟩
      subst ha
      exact Below.heap_alloc _ _ _ (hm.tok id c hid g m hg).2.1
  refine ⟨hx, ⟨hm.below.alloc hm.below.size _, hm.base, fun b t' k hk => ?_, fun b1 b2 h1 h2 he => hm.inj b1 b2 ((hlive _).1 h1) ((hlive _).1 h2) he, fun id c hid g m' hg => ?_, fun id id' c c' h1 h2 g m1 m2 e1 e2 => ?_⟩, fun j hj => ⟨by simp, fun h => ?_, fun n hn he => ?_, fun id c hid g m' hg he => ?_⟩⟩
  · have e : d ≠ b := by rintro rfl; rw [List.getElem?_set_self hl] at hk; cases hk
    have hk' : G.h[b]? = some (some (.cells t' k)) := by rwa [List.getElem?_set_ne e] at hk
    obtain ⟨h1, vs', h2, h3⟩ := hm.blk b t' k hk'
    refine ⟨h1, vs', ?_, h3.ext hx⟩
    simp only
    rw [Below.heap_alloc _ _ _ (hlt b ⟨_, _, hk'⟩)]
    exact h2
  · rcases htok id c hid with e | ⟨e, ht⟩
    · simp only [e, if_true] at hg
      cases hg
      refine ⟨by simpa using hm.below.size, by simp, fun n hn he => ?_⟩
      have := hlt n ((hlive n).1 hn)
      simp only at he
      omega
    · simp only [e, if_false] at hg
      obtain ⟨h1, h2, h3⟩ := hm.tok id c ht g m' hg
      exact ⟨h1, by simp; omega, fun n hn => h3 n ((hlive n).1 hn)⟩
  · rcases htok id c h1 with i1 | ⟨i1, t1⟩ <;> rcases htok id' c' h2 with i2 | ⟨i2, t2⟩
    · rw [i1, i2]
    · simp only [i1, i2, if_true, if_false] at e1 e2
      cases e1
      have := (hm.tok id' c' t2 _ _ e2).2.1
      omega
    · simp only [i1, i2, if_true, if_false] at e1 e2
      cases e2
      have := (hm.tok id c t1 _ _ e1).2.1
      omega
    · simp only [i1, i2, if_false] at e1 e2
      exact hm.apart id id' c c' t1 t2 g m1 m2 e1 e2
  · have := hm.below.size
    have hb := hm.base
    simp only at h
    omega
  · have := hlt n ((hlive n).1 hn)
    simp only at he
    omega
  · rcases htok id c hid with e | ⟨e, ht⟩
    · simp only [e, if_true] at hg
      cases hg
      exact hj
    · simp only [e, if_false] at hg
      have := (hm.tok id c ht g m' hg).2.1
      omega
theorem build_ok (hc : CxOk P cx) (hr : Rep W0 S st ρ σ a w) {o : Oper} {t : TypeId} {ps : Array (Nat × Operand)} (ho : o.op = .build t ps) {K : Act → World → Prop} {Q : Exit → Act → World → Prop} {E : Eff} (h : eff Ar.std cx st o.dst (.build t ps) = some E) (hs : E.side)
    (hK : ∀ v w', Res W0 S st ρ σ w E v w' → K (a.put o.dst v) w') : o.wp P a w K Q := by
  have hparts : (ps.map fun (i, x) => (i, a.eval x)).toList = (ps.toList.map (·.1)).zip ((ps.toList.map (·.2)).map a.eval) := by
    rw [Array.toList_map]
    induction ps.toList with
    | nil => rfl
    | cons p l ih => simp [ih]
  have hev : ps.toList.map (fun p => evalE st p.2) = (ps.toList.map (·.2)).map (evalE st) := by simp
  have main : ∀ l : List Value, P.built t ((ps.toList.map (·.1)).zip ((ps.toList.map (·.2)).map a.eval)) = some l.toArray → (execOp a.eval o).run P w = .ok (.value (.agg l.toArray)) w := by
    intro l hl
    simp only [execOp, ho]
    have := run_build (P := P) w t (ps.map fun (i, x) => (i, a.eval x)) l.toArray (by rw [hparts]; exact hl)
    simp only [Sem.run_bind, this, Result.andThen_ok, Sem.run_pure]
  simp only [eff] at h
  split at h
  · rename_i fs _ z _ vs hl hv
    rw [hev] at hv h
    obtain ⟨Fs, hu, hsome, hfs, _⟩ := tiOf_struct (hc.tt _ _ hl)
    obtain ⟨i, zv, d, hi, hz, _, _, hzz, _⟩ := tiOf_info (hc.tt _ _ hl)
    split at h
    · rename_i cs hf
      cases h
      obtain ⟨n1, n2, n3⟩ := hs
      have hvs := sas_is hr hv n1
      have hlen : (ps.toList.map (·.1)).length = vs.length := by
        have := hvs.len
        simp at this ⊢
        omega
      obtain ⟨l', e1, e2⟩ := fill_is (fun v u g1 g2 => sa_cells g1 g2) hvs n2 hlen (zero_is n3) hf
      refine wp_value (main l' ?_) (hK _ _ (res_pure hr (e := ⟨none, _⟩) ⟨_, rfl, e2⟩))
      have hp : (fun (i : Nat) => (fs[i]?).map fun (f : Nat × Nat × Bool × Nat) => (f.1, f.2.1)) = ((Fs.toList.map fun f => (f.offset, P.cellsOf f.type)).toArray[·]?) := by
        funext i
        rw [hfs]
        simp [Option.map_map, Function.comp_def]
      rw [hp] at e1
      have hz2 : zv.cells = z.toArray := by
        have : z = zv.cells.toList := hzz
        rw [this]
      unfold Program.built
      rw [hi, hu]
      simp only [hz, mapM_info Fs.toList hsome, hz2]
      exact e1
    · cases h
  · rename_i n sz b _ z _ vs hl hv
    rw [hev] at hv h
    obtain ⟨e, hu, hie, hsz⟩ := tiOf_array (hc.tt _ _ hl)
    obtain ⟨ie, hie⟩ := hie
    obtain ⟨i, zv, d, hi, hz, _, _, hzz, _⟩ := tiOf_info (hc.tt _ _ hl)
    split at h
    · rename_i cs hf
      cases h
      obtain ⟨n1, n2, n3⟩ := hs
      have hvs := sas_is hr hv n1
      have hlen : (ps.toList.map (·.1)).length = vs.length := by
        have := hvs.len
        simp at this ⊢
        omega
      obtain ⟨l', e1, e2⟩ := fill_is (fun v u g1 g2 => sa_cells g1 g2) hvs n2 hlen (zero_is n3) hf
      refine wp_value (main l' ?_) (hK _ _ (res_pure hr (e := ⟨none, _⟩) ⟨_, rfl, e2⟩))
      have hz2 : zv.cells = z.toArray := by
        have : z = zv.cells.toList := hzz
        rw [this]
      have hsz2 : ie.size = sz := by rw [hsz]; simp [Program.cellsOf, hie]
      unfold Program.built
      rw [hi, hu]
      simp only [hz, hie, hz2, hsz2]
      exact e1
    · cases h
  · cases h

theorem idxs_eq : ∀ {l : List Nat} {k n : Nat}, idxs l k n = true → l = List.range' k l.length ∧ k + l.length = n
  | [], k, n, h => ⟨rfl, Nat.eq_of_beq_eq_true h⟩
  | i :: l, k, n, h => by
    simp only [idxs, Bool.and_eq_true] at h
    obtain ⟨h1, h2⟩ := h
    obtain ⟨e1, e2⟩ := idxs_eq h2
    have h1 := Nat.eq_of_beq_eq_true h1
    subst h1
    refine ⟨?_, by simp; omega⟩
    simp only [List.length_cons, List.range'_succ]
    rw [← e1]
def rowOf (us : List Value) : List Value := us.flatMap fun u => u.cells.toList
theorem rowOf_len {sz : Nat} : ∀ {us : List Value}, (∀ u ∈ us, u.cells.size = sz) → (rowOf us).length = us.length * sz
  | [], _ => by simp [rowOf]
  | u :: us, h => by
    have := rowOf_len fun v hv => h v (List.mem_cons_of_mem _ hv)
    have h1 := h u (List.mem_cons_self ..)
    simp only [rowOf, List.flatMap_cons, List.length_append, List.length_cons] at this ⊢
    rw [this, Nat.succ_mul]
    simp [h1]
    omega
theorem rowOf_get {sz : Nat} : ∀ {us : List Value}, (∀ u ∈ us, u.cells.size = sz) → ∀ (i : Nat) (u : Value), us[i]? = some u → ∀ (j : Nat) (c : Value), u.cells.toList[j]? = some c → (rowOf us)[i * sz + j]? = some c
  | [], _, i, u, h, _, _, _ => by simp at h
  | v :: us, hs, i, u, h, j, c, hc => by
    have h1 := hs v (List.mem_cons_self ..)
    simp only [rowOf, List.flatMap_cons]
    cases i with
    | zero =>
      simp at h
      subst h
      rw [Nat.zero_mul, Nat.zero_add, List.getElem?_append_left (get_lt hc)]
      exact hc
    | succ i =>
      have := rowOf_get (fun v hv => hs v (List.mem_cons_of_mem _ hv)) i u (by simpa using h) j c hc
      rw [List.getElem?_append_right (by simp [h1, Nat.succ_mul]; omega)]
      have e : (i + 1) * sz + j - v.cells.toList.length = i * sz + j := by simp [h1, Nat.succ_mul]; omega
      rw [e]
      exact this
theorem fill_full (sz : Nat) : ∀ (us : List Value) (k : Nat) (l : List Value), (∀ u ∈ us, u.cells.size = sz) → (k + us.length) * sz ≤ l.length →
    Instr.fill (fun i => some (i * sz, sz)) l.toArray ((List.range' k us.length).zip us) = some (l.take (k * sz) ++ rowOf us ++ l.drop ((k + us.length) * sz)).toArray
  | [], k, l, _, h => by simp [Instr.fill, rowOf]
  | u :: us, k, l, hs, h => by
    have h1 := hs u (List.mem_cons_self ..)
    have hk : (k + (us.length + 1)) * sz = k * sz + sz + us.length * sz := by rw [Nat.add_mul, Nat.succ_mul]; omega
    simp only [List.length_cons] at h
    rw [hk] at h
    have hcond : (u.cells.size ≠ sz || k * sz + u.cells.size > l.toArray.size) = false := by simp; omega
    have hfold : u.cells.zipIdx.foldl (fun cs (p : Value × Nat) => cs.setIfInBounds (k * sz + p.2) p.1) l.toArray = (pasteV l (k * sz) u.cells.toList).toArray := by
      rw [← Array.foldl_toList, Array.toList_zipIdx]
      exact fold_paste (k * sz) u.cells.toList 0 l
    have hp := pasteV_eq u.cells.toList (k * sz) l (by simp; omega)
    have hlen : u.cells.toList.length = sz := by simpa using h1
    rw [hlen] at hp
    simp only [List.length_cons, List.range'_succ, List.zip_cons_cons, Instr.fill, hcond, Bool.false_eq_true, if_false]
    rw [hfold, hp, fill_full sz us (k + 1) _ (fun v hv => hs v (List.mem_cons_of_mem _ hv)) (by
      have : (k + 1 + us.length) * sz = k * sz + sz + us.length * sz := by rw [Nat.add_mul, Nat.add_mul]; omega
      simp [hlen]; omega)]
    congr 2
    have e1 : (k + 1) * sz = (l.take (k * sz) ++ u.cells.toList).length := by simp [h1, Nat.succ_mul]; omega
    have e2 : (k + 1 + us.length) * sz = (l.take (k * sz) ++ u.cells.toList).length + us.length * sz := by
      rw [← e1, Nat.add_mul]
    rw [e2, List.drop_append, e1, List.take_left']
    · simp only [rowOf, List.flatMap_cons, List.append_assoc, hk]
      simp [List.drop_drop]
    · rfl
theorem buildSlice_ok (hc : CxOk P cx) (hr : Rep W0 S st ρ σ a w) {o : Oper} {t : TypeId} {n : Nat} {ps : Array (Nat × Operand)} (ho : o.op = .buildSlice t n ps) {K : Act → World → Prop} {Q : Exit → Act → World → Prop} {E : Eff} (h : eff Ar.std cx st o.dst (.buildSlice t n ps) = some E) (hs : E.side)
    (hK : ∀ v w', Res W0 S st ρ σ w E v w' → K (a.put o.dst v) w') : o.wp P a w K Q := by
  have hparts : (ps.map fun (i, x) => (i, a.eval x)).toList = (ps.toList.map (·.1)).zip ((ps.toList.map (·.2)).map a.eval) := by
    rw [Array.toList_map]
    induction ps.toList with
    | nil => rfl
    | cons p l ih => simp [ih]
  have hev : ps.toList.map (fun p => evalE st p.2) = (ps.toList.map (·.2)).map (evalE st) := by simp
  simp only [eff] at h
  split at h
  · rename_i d e sz _ _ _ vs hd hl hv
    split at h
    · rename_i ct tie hct he
      split at h
      · rename_i hcond
        cases h
        simp only [Bool.and_eq_true] at hcond
        obtain ⟨c1, c2, c3, c4, c5⟩ := hcond
        obtain ⟨hd0, hdl⟩ := freeAt_ok c1
        obtain ⟨x1, x2⟩ := idxs_eq c2
        have c3 := Nat.le_of_ble_eq_true c3
        have c4 := Nat.le_of_ble_eq_true c4
        rw [hev] at hv hs
        obtain ⟨n1, n2⟩ := hs
        obtain ⟨hu, ⟨ie, hie⟩, hsz⟩ := tiOf_slice (hc.tt _ _ hl)
        obtain ⟨i, zv, dd, hi, hz, _, hsi, hzz, _⟩ := tiOf_info (hc.tt _ _ he)
        have hszi : i.size = sz := by rw [hsz]; simp [Program.cellsOf, hi]
        have hvs := sas_is hr hv n1
        have hlen : vs.length = n := by
          have := hvs.len
          simp at this x1 x2
          omega
        have hul : ((ps.toList.map (·.2)).map a.eval).length = n := by rw [← hvs.len]; exact hlen
        have hcz : ∀ v ∈ vs, v.cells.length = sz := fun v hv => Nat.eq_of_beq_eq_true (List.all_eq_true.1 c5 v hv)
        have hcells : ∀ (xs : List SA) (us : List Value), sasIs (gg W0 S st ρ σ w) xs us → sidesA xs → (∀ v ∈ xs, v.cells.length = sz) → ∀ u ∈ us, u.cells.size = sz ∧ ∀ c ∈ u.cells.toList, c.oneCell' = true := by
          intro xs
          induction xs with
          | nil =>
            intro us h1 _ _ u hu
            cases us with
            | nil => cases hu
            | cons _ _ => exact h1.elim
          | cons x xs ih =>
            intro us h1 h2 h3 u hu
            cases us with
            | nil => cases hu
            | cons u0 us =>
              have hs2 : x.side ∧ sidesA xs := by
                cases xs with
                | nil => exact ⟨h2, trivial⟩
                | cons _ _ => exact h2
              obtain ⟨g1, g2⟩ := sa_cells h1.1 hs2.1
              rcases List.mem_cons.1 hu with rfl | hu
              · exact ⟨by rw [← g2]; exact h3 x (List.mem_cons_self ..), g1.one⟩
              · exact ih us h1.2 hs2.2 (fun v hv => h3 v (List.mem_cons_of_mem _ hv)) u hu
        have hall := hcells _ _ hvs n2 hcz
        have hus : ∀ u ∈ (ps.toList.map (·.2)).map a.eval, u.cells.size = sz := fun u hu => (hall u hu).1
        generalize hus0 : (ps.toList.map (·.2)).map a.eval = us at *
        have hfill : ∀ l : List Value, l.length = n * sz → Instr.fill (fun i => some (i * sz, sz)) l.toArray ((ps.toList.map (·.1)).zip us) = some (rowOf us).toArray := by
          intro l hl
          have hln : (ps.toList.map (·.1)).length = us.length := by simp at x2 ⊢; omega
          rw [x1, hln, fill_full sz us 0 l hus (by rw [Nat.zero_add, hul, hl]; exact Nat.le_refl _)]
          simp [hul, hl]
        obtain ⟨hx, hm, hok⟩ := mem_tok (G := gg W0 S st ρ σ w) hr.mem hd0 hdl e (rowOf us).toArray (n * sz)
        have hrl := rowOf_len hus
        have hm2 : n ≤ maxLen := by
          have : n ≤ n * sz := Nat.le_mul_of_pos_right _ c3
          unfold maxLen
          omega
        have hcell : ∀ (i : Nat) (u : Value), us[i]? = some u → u.cells.toList.length = sz ∧ ∀ (j : Nat) (c : Value), u.cells.toList[j]? = some c → cellAt ⟨ρ, st.heap.set d (some (.tok 0 true)), fun i => if i = d then some (w.heap.size, n * sz) else σ i, S, W0.heap.size, w.alloc (.cells (rowOf us).toArray e)⟩ w.heap.size (i * sz + j) c := by
          intro i u hu
          have hmem := List.mem_of_getElem? hu
          refine ⟨by simpa using hus u hmem, fun j c hj => ?_⟩
          have hg := rowOf_get hus i u hu j c hj
          refine ⟨hok _ ?_, ?_, (hall u hmem).2 c (List.mem_of_getElem? hj)⟩
          · have := get_lt hg
            rw [hrl, hul] at this
            exact this
          · rw [cell_of_row _ w.heap.size (i * sz + j) _ _ (0, 0) (heap_alloc_new _ _)]
            simpa using hg
        obtain ⟨k1, k2⟩ := mkCt_is (G := gg W0 S st ρ σ w) hx.toSub hct hvs n2 hcz (by omega) (c := n) (by omega) hm2 hcell
        rw [hul] at k1
        refine wp_value (v := .slice (some ⟨w.heap.size, 0, none⟩) n n) (w' := w.alloc (.cells (rowOf us).toArray e)) ?_ (hK _ _ ⟨_, _, hx, ⟨k1, ?_⟩, hm⟩)
        · have e1 : ¬ n * sz > 2 ^ 24 := by omega
          have e2 := hfill ((List.range (n * sz)).map (zv.cells[· % zv.cells.size]!)) (by simp)
          have e3 : (Array.range (n * sz)).map (zv.cells[· % zv.cells.size]!) = ((List.range (n * sz)).map (zv.cells[· % zv.cells.size]!)).toArray := by apply Array.ext'; simp
          by_cases e0 : n * sz = 0
          · have e4 := hfill [] (by simp [e0])
            have hn0 : n = 0 := by
              rcases Nat.mul_eq_zero.1 e0 with h | h
              · exact h
              · omega
            have hps : ps = #[] := by
              refine Array.eq_empty_of_size_eq_zero ?_
              simp at x2
              omega
            have hu0 : us = [] := List.eq_nil_of_length_eq_zero (by rw [hul]; exact hn0)
            subst hps hn0 hu0
            simp [execOp, ho, Instr.buildSlice, run_underlying hu, sizeOf, typeInfo, hi, run_newRow, Instr.fill, rowOf]
            congr 2
            apply Array.ext' (by simp)
          · simp only [execOp, ho]
            have := run_buildSlice (P := P) w t e n (ps.map fun (i, x) => (i, a.eval x)) (rowOf us).toArray i zv hu hi hz (by rw [hszi]; exact e1) (by rw [hszi]; exact e0) (by rw [hszi, hparts, e3]; exact e2)
            simp only [Sem.run_bind, this, Result.andThen_ok, Sem.run_pure]
        · rw [k2]
          refine ⟨0, true, List.getElem?_set_self hdl, Nat.le_refl _, fun _ _ => ⟨n, rowOf us, ⟨by rw [hrl, hul], .inr ⟨w.heap.size, n, (rowOf us).toArray, rfl, ?_, heap_alloc_new _ _, Nat.le_refl _, hm2, by simp [hrl, hul], ?_⟩⟩, by simp [Value.ownBlock, gg]⟩⟩
          · simpa [gg] using hr.mem.below.size
          · simp only
            rw [List.take_of_length_le]
            rw [hrl, hul]
            exact Nat.le_refl _
      · cases h
    · cases h
  · cases h

/-! ### Calls -/
theorem plain_is {c : SC} {v : Value} (h : c.is G v) : c.plain.is G v := by
  unfold SC.plain
  split
  · exact ⟨h.1, trivial⟩
  · exact h
theorem plain_cs : ∀ {cs : List SC} {vs : List Value}, cellsIs G cs vs → cellsIs G (cs.map SC.plain) vs
  | [], [], _ => trivial
  | _ :: _, _ :: _, ⟨⟨a, b⟩, c⟩ => ⟨⟨plain_is a, b⟩, plain_cs c⟩
theorem plain_a : ∀ {x : SA} {v : Value}, x.is G v → x.plain.is G v
  | .one _, _, h => plain_is h
  | .agg _, _, ⟨vs, e, hc⟩ => ⟨vs, e, plain_cs hc⟩
theorem plain_as : ∀ {xs : List SA} {vs : List Value}, sasIs G xs vs → sasIs G (xs.map SA.plain) vs
  | [], [], _ => trivial
  | _ :: _, _ :: _, ⟨a, c⟩ => ⟨plain_a a, plain_as c⟩
theorem pure_c {G G' : Gm} (x : Sub G G') : ∀ {c : SC} {v : Value}, c.pure = true → c.is G v → c.is G' v
  | .any, _, _, _ => trivial
  | .val _, _, _, e => e
  | .str _, _, _, e => e
  | .sl none _, _, _, ⟨h, _⟩ => ⟨h.sub x, trivial⟩
theorem pure_cs {G G' : Gm} (x : Sub G G') : ∀ {cs : List SC} {vs : List Value}, cs.all SC.pure = true → cellsIs G cs vs → cellsIs G' cs vs
  | [], [], _, _ => trivial
  | _ :: _, _ :: _, hp, ⟨⟨a, b⟩, c⟩ => by
    simp only [List.all_cons, Bool.and_eq_true] at hp
    exact ⟨⟨pure_c x hp.1 a, b⟩, pure_cs x hp.2 c⟩
theorem pure_a {G G' : Gm} (s : Sub G G') : ∀ {x : SA} {v : Value}, x.pure = true → x.is G v → x.is G' v
  | .one _, _, hp, e => pure_c s hp e
  | .agg _, _, hp, ⟨vs, e, hc⟩ => ⟨vs, e, pure_cs s hp hc⟩
theorem pure_as {G G' : Gm} (s : Sub G G') : ∀ {xs : List SA} {vs : List Value}, xs.all SA.pure = true → sasIs G xs vs → sasIs G' xs vs
  | [], [], _, _ => trivial
  | _ :: _, _ :: _, hp, ⟨a, c⟩ => by
    simp only [List.all_cons, Bool.and_eq_true] at hp
    exact ⟨pure_a s hp.1 a, pure_as s hp.2 c⟩
theorem pure_v {G G' : Gm} (s : Sub G G') : ∀ {x : SV} {v : Value}, x.pure = true → x.is G v → x.is G' v
  | .sa _, _, hp, e => pure_a s hp e
  | .tup _, _, hp, ⟨vs, e, hc⟩ => ⟨vs, e, pure_as s hp hc⟩
theorem ext_below (hm : Mem W0 (gg W0 S st ρ σ w)) {w' : World} (hb : Below w.heap.size w w') : Ext (gg W0 S st ρ σ w) (gg W0 S st ρ σ w') ∧ Mem W0 (gg W0 S st ρ σ w') := by
  have hx : Ext (gg W0 S st ρ σ w) (gg W0 S st ρ σ w') := by
    refine ⟨⟨fun b j h => ⟨Nat.lt_of_lt_of_le h.lt hb.size, h.old, h.blk, h.tok⟩, fun b j h => cell_other (hb.block b h.lt) j⟩, fun _ _ => rfl, fun _ h => h, rfl, fun id c al hid => ⟨c, al, hid, Nat.le_refl _, fun _ ha => ⟨ha, rfl, fun g m hg => ?_⟩⟩⟩
    subst ha
    exact hb.block g (hm.tok id c hid g m hg).2.1
  refine ⟨hx, hm.below.trans (hb.mono hm.below.size), hm.base, fun b t cs hk => ?_, hm.inj, fun id c hid g m hg => ?_, hm.apart⟩
  · obtain ⟨h1, vs, h2, h3⟩ := hm.blk b t cs hk
    exact ⟨h1, vs, (hb.block _ (heap_lt h2)).trans h2, h3.ext hx⟩
  · obtain ⟨h1, h2, h3⟩ := hm.tok id c hid g m hg
    exact ⟨h1, Nat.lt_of_lt_of_le h2 hb.size, h3⟩
theorem sub_in (w : World) (G : Gm) (hw : G.w = w) : Sub G (G1 G.ok w w) := by
  subst hw
  exact ⟨fun b j h => ⟨h.lt, fun _ => h, fun n hn => by obtain ⟨_, _, hn⟩ := hn; simp [G1] at hn, fun id c hid => by simp [tokOn, G1] at hid⟩, fun _ _ _ => rfl⟩
theorem sub_out (hm : Mem W0 (gg W0 S st ρ σ w)) {w' : World} (hb : Below w.heap.size w w') : Sub (G1 (gg W0 S st ρ σ w).ok w w') (gg W0 S st ρ σ w') := by
  refine ⟨fun b j h => ?_, fun _ _ _ => rfl⟩
  rcases Nat.lt_or_ge b w.heap.size with g | g
  · have k := h.old g
    exact ⟨h.lt, k.old, k.blk, k.tok⟩
  · have hsz : W0.heap.size ≤ w.heap.size := hm.below.size
    refine ⟨h.lt, fun hlt => ?_, fun n hn e => ?_, fun id c hid g' m hg e => ?_⟩
    · have hlt : b < W0.heap.size := hlt
      omega
    · have h1 : ρ n < w.heap.size := rho_lt hm hn
      have e : ρ n = b := e
      omega
    · have := (hm.tok id c hid g' m hg).2.1
      have h2 : g' < w.heap.size := this
      omega
theorem fun_ok (hc : CxOk P cx) (hr : Rep W0 S st ρ σ a w) {o : Oper} {c : Call} {f : FuncId} (ho : o.op = .call c) (hf : c.callee = .value (.func f)) {con : Con} (hcon : look cx.fs f = some con) {vs : List SA} (hv : sas (c.args.toList.map (evalE st)) = some vs)
    (hn : needs (c.args.toList.map (evalE st))) {C : Prop} {r : SV} (hr' : con (vs.map SA.plain) = some (C, r)) (hp : (vs.map SA.plain).all SA.pure = true) (hp' : r.pure = true) (hC : C) {D : Prop} {K : Act → World → Prop} {Q : Exit → Act → World → Prop}
    (hK : ∀ v w', Res W0 S st ρ σ w ⟨D, ⟨none, r⟩, []⟩ v w' → K (a.put o.dst v) w') : o.wp P a w K Q := by
  obtain ⟨⟨fn, g1, g2, g3⟩, hcall⟩ := hc.fs f con hcon
  have hcs := hcall _ C r hr' hC (gg W0 S st ρ σ w).ok (c.args.toList.map a.eval) w (pure_as (sub_in w _ rfl) hp (plain_as (sas_is hr hv hn)))
  have hargs : (c.args.toList.map a.eval).toArray = c.args.map a.eval := by
    apply Array.ext'
    simp
  rw [hargs] at hcs
  have hrun : (execOp a.eval o).run P w = .ok (.enter f (c.args.map a.eval)) w := by
    have g2' : ¬ fn.body = none := fun e => by simp [e] at g2
    have g3' : ¬ fn.name = "runtime.NumGoroutine" := by simpa using g3
    simp [execOp, ho, resolve, hf, Act.eval, Deferred.ofValue, invoke, callFunc, g1, g2', g3']
  unfold Oper.wp
  rw [hrun, Oper.upon_enter]
  refine hcs.mono ?_
  rintro e w' ⟨v, rfl, hv', hb⟩
  obtain ⟨hx, hm⟩ := ext_below hr.mem hb
  exact hK _ _ ⟨ρ, σ, hx, pure_v (sub_out hr.mem hb) hp' hv', hm⟩
theorem min_is : ∀ {l : List SA} {us : List Value} {m : Int} {k : IntKind} {r : Int}, minmax Ar.std .lss m l k = some r → sasIs G l us → (us.foldlM Builtin.min2 (.int k m)).run P w = .ok (.int k r) w
  | [], [], m, k, r, h, _ => by
    cases h
    rfl
  | x :: l, u :: us, m, k, r, h, ⟨hx, hl⟩ => by
    unfold minmax at h
    split at h
    · rename_i heq; cases heq
    · rename_i k' b l' heq
      cases heq
      split at h
      · obtain rfl := kindEq_eq ‹_›
        have e : u = .int _ b := hx
        subst e
        have := min_is h hl
        simp only [List.foldlM_cons, Sem.run_bind, Builtin.min2, Sem.run_pure, Result.andThen_ok]
        rw [← this]
        simp [Ar.std, stdCmp]
      · cases h
    · cases h
theorem max_is : ∀ {l : List SA} {us : List Value} {m : Int} {k : IntKind} {r : Int}, minmax Ar.std .gtr m l k = some r → sasIs G l us → (us.foldlM Builtin.max2 (.int k m)).run P w = .ok (.int k r) w
  | [], [], m, k, r, h, _ => by
    cases h
    rfl
  | x :: l, u :: us, m, k, r, h, ⟨hx, hl⟩ => by
    unfold minmax at h
    split at h
    · rename_i heq; cases heq
    · rename_i k' b l' heq
      cases heq
      split at h
      · obtain rfl := kindEq_eq ‹_›
        have e : u = .int _ b := hx
        subst e
        have := max_is h hl
        simp only [List.foldlM_cons, Sem.run_bind, Builtin.max2, Sem.run_pure, Result.andThen_ok]
        rw [← this]
        simp [Ar.std, stdCmp]
      · cases h
    · cases h
theorem call_ok (hc : CxOk P cx) (hr : Rep W0 S st ρ σ a w) {o : Oper} {c : Call} (ho : o.op = .call c) {K : Act → World → Prop} {Q : Exit → Act → World → Prop} {E : Eff} (h : eff Ar.std cx st o.dst (.call c) = some E) (hs : E.side)
    (hK : ∀ v w', Res W0 S st ρ σ w E v w' → K (a.put o.dst v) w') : o.wp P a w K Q := by
  simp only [eff] at h
  split at h
  · rename_i f hf
    split at h
    · rename_i con vs hcon hv
      split at h
      · rename_i C r hr'
        split at h
        · rename_i hp
          simp only [Bool.and_eq_true] at hp
          cases h
          exact fun_ok hc hr ho hf hcon hv hs.1 hr' hp.1 hp.2 hs.2 hK
        · cases h
      · cases h
    · cases h
  · rename_i hf
    split at h
    · rename_i t _ ct ht hv
      split at h
      · rename_i hl
        obtain ⟨hu, _, _⟩ := tiOf_slice (hc.tt _ _ hl)
        simp only [int1] at h
        cases h
        have hvs := sas_is hr hv hs
        match hu' : c.args.toList.map a.eval, hvs with
        | [], hvs => exact hvs.elim
        | [u], ⟨⟨h1, _⟩, _⟩ =>
          obtain ⟨A, n, cap, e, hlen, _⟩ := Ct.len_is h1
          subst e
          refine wp_value (v := .int .i64 n) (w' := w) ?_ (hK _ _ (res_pure hr (e := ⟨none, _⟩) (by show _ = Value.int .i64 (ct.len Ar.std); rw [hlen])))
          have ha : c.args.map a.eval = #[.slice A n cap] := by
            apply Array.ext'
            simpa using hu'
          have ht' : c.argTypes = #[t] := by
            apply Array.ext'
            simpa using ht
          simp [execOp, ho, resolve, hf, invoke, builtin, Builtin.len_, ha, ht', run_underlying hu w, goInt]
        | _ :: _ :: _, hvs => exact hvs.2.elim
      · cases h
    · rename_i t l ht hv
      split at h
      · rename_i hl
        have hu := tiOf_str (hc.tt _ _ hl)
        simp only [int1] at h
        cases h
        have hvs := sas_is hr hv hs
        match hu' : c.args.toList.map a.eval, hvs with
        | [], hvs => exact hvs.elim
        | [u], ⟨h1, _⟩ =>
          obtain ⟨sb, e, hlen⟩ := h1
          subst e
          refine wp_value (v := .int .i64 sb.size) (w' := w) ?_ (hK _ _ (res_pure hr (e := ⟨none, _⟩) (by
            show _ = Value.int .i64 (l.length : Int)
            rw [← hlen]
            simp [bytesL])))
          have ha : c.args.map a.eval = #[.string sb] := by
            apply Array.ext'
            simpa using hu'
          have ht' : c.argTypes = #[t] := by
            apply Array.ext'
            simpa using ht
          simp [execOp, ho, resolve, hf, invoke, builtin, Builtin.len_, ha, ht', run_underlying hu w, goInt]
        | _ :: _ :: _, hvs => exact hvs.2.elim
      · cases h
    · cases h
  · rename_i hf
    split at h
    · rename_i k m l hv
      cases hm : minmax Ar.std .lss m l k with
      | none => simp [hm] at h
      | some n =>
        simp only [hm, Option.bind_some, int1] at h
        cases h
        have hvs := sas_is hr hv hs
        generalize hu : c.args.toList.map a.eval = us at hvs
        cases us with
        | nil => exact hvs.elim
        | cons u us =>
          obtain ⟨h1, h2⟩ := hvs
          have e : u = .int k m := h1
          subst e
          refine wp_value (v := .int k n) (w' := w) ?_ (hK _ _ (res_pure hr (e := ⟨none, _⟩) rfl))
          have := min_is (P := P) (w := w) hm h2
          simp [execOp, ho, resolve, hf, invoke, builtin, Builtin.min_, hu, this]
    · cases h
  · rename_i hf
    split at h
    · rename_i k m l hv
      cases hm : minmax Ar.std .gtr m l k with
      | none => simp [hm] at h
      | some n =>
        simp only [hm, Option.bind_some, int1] at h
        cases h
        have hvs := sas_is hr hv hs
        generalize hu : c.args.toList.map a.eval = us at hvs
        cases us with
        | nil => exact hvs.elim
        | cons u us =>
          obtain ⟨h1, h2⟩ := hvs
          have e : u = .int k m := h1
          subst e
          refine wp_value (v := .int k n) (w' := w) ?_ (hK _ _ (res_pure hr (e := ⟨none, _⟩) rfl))
          have := max_is (P := P) (w := w) hm h2
          simp [execOp, ho, resolve, hf, invoke, builtin, Builtin.max_, hu, this]
    · cases h
  · cases h
/-- Each operation does what the reckoner says. -/
theorem eff_ok (hc : CxOk P cx) (hr : Rep W0 S st ρ σ a w) {o : Oper} {K : Act → World → Prop} {Q : Exit → Act → World → Prop} {E : Eff} (h : eff Ar.std cx st o.dst o.op = some E) (hs : E.side)
    (hK : ∀ v w', Res W0 S st ρ σ w E v w' → K (a.put o.dst v) w') : o.wp P a w K Q := by
  cases ho : o.op with
  | move x => rw [ho] at h; exact move_ok hr (.inl ho) (by simpa [eff] using h) hK
  | assign x => rw [ho] at h; exact move_ok hr (.inr ho) (by simpa [eff] using h) hK
  | pick c x y => rw [ho] at h; exact pick_ok hr ho h hs hK
  | binOp op t x y t' => rw [ho] at h; exact bin_ok hc hr ho (by simpa [eff] using h) hs hK
  | unOp op t x => rw [ho] at h; exact un_ok hr ho h hs hK
  | convert t u x => rw [ho] at h; exact conv_ok hc hr ho h hs hK
  | alloc t => rw [ho] at h; exact alloc_ok hc hr ho h hs hK
  | box t x => rw [ho] at h; exact box_ok hr ho h hs hK
  | load t x => rw [ho] at h; exact load_ok hc hr ho h hs hK
  | store t x y => rw [ho] at h; exact store_ok hc hr ho h hs hK
  | fieldAddr t x f => rw [ho] at h; exact fieldAddr_ok hc hr ho h hs hK
  | field t x f => rw [ho] at h; exact field_ok hc hr ho h hs hK
  | build t ps => rw [ho] at h; exact build_ok hc hr ho h hs hK
  | extract x i => rw [ho] at h; exact extract_ok hr ho h hs hK
  | buildSlice t n ps => rw [ho] at h; exact buildSlice_ok hc hr ho h hs hK
  | indexAddr t x y => rw [ho] at h; exact indexAddr_ok hc hr ho h hs hK
  | slice t x lo hi mx => rw [ho] at h; exact slice_ok hc hr ho h hs hK
  | call c => rw [ho] at h; exact call_ok hc hr ho h hs hK
  | _ => rw [ho] at h; simp [eff] at h

/-! ## A state behind an operation -/
theorem getD_set {α : Type} {l : Array α} {d t : Nat} {v u : α} (hd : d < l.size) : (l.setIfInBounds d v).getD t u = if d = t then v else l.getD t u := by
  by_cases h : d = t
  · subst h
    simp [hd]
  · simp [h, Array.getElem?_setIfInBounds_ne h]
theorem rep_put (hr : Rep W0 S st ρ σ a w) {ρ' : Nat → Nat} {σ' : Nat → Option (Nat × Nat)} {h' : List (Option Blk)} {w' : World} {dst : Option Tmp} {e : Ent} {v : Value} (hx : Ext (gg W0 S st ρ σ w) ⟨ρ', h', σ', S, W0.heap.size, w'⟩) (hv : e.is ⟨ρ', h', σ', S, W0.heap.size, w'⟩ v) (hm : Mem W0 ⟨ρ', h', σ', S, W0.heap.size, w'⟩) :
    Rep W0 S { (st.put dst e) with heap := h' } ρ' σ' (a.put dst v) w' := by
  cases dst with
  | none => exact ⟨hr.size, fun t e' he => (hr.slot t e' he).ext hx, hr.defers, hm⟩
  | some d =>
    refine ⟨by simpa [Act.put, St.put] using hr.size, fun t e' he => ?_, hr.defers, hm⟩
    simp only [St.put, List.getElem?_set] at he
    have hsz := hr.size
    split at he
    · rename_i hdt
      split at he
      · rename_i hlt
        cases he
        subst hdt
        show e.is ⟨ρ', h', σ', S, W0.heap.size, w'⟩ ((a.tmps.setIfInBounds d v).getD d undef)
        rw [getD_set (by omega), if_pos rfl]
        exact hv
      · cases he
    · rename_i hdt
      have := (hr.slot t e' he).ext hx
      show e'.is ⟨ρ', h', σ', S, W0.heap.size, w'⟩ ((a.tmps.setIfInBounds d v).getD t undef)
      rcases Nat.lt_or_ge d a.tmps.size with g | g
      · rw [getD_set g, if_neg hdt]
        exact this
      · rwa [Array.setIfInBounds_eq_of_size_le g]
theorem rep_app (hr : Rep W0 S st ρ σ a w) {dst : Option Tmp} {E : Eff} {v : Value} {w' : World} (h : Res W0 S st ρ σ w E v w') : ∃ ρ' σ', Rep W0 S (st.app dst E) ρ' σ' (a.put dst v) w' := by
  obtain ⟨ρ', σ', hx, hv, hm⟩ := h
  exact ⟨ρ', σ', rep_put hr hx hv hm⟩

/-- Whether a guard lets an operation run. -/
theorem wantG_ok (hr : Rep W0 S st ρ σ a w) {ops : List Oper} {o : Oper} {ge : Option Bool} (h : wantG Ar.std ops st o.guard = some ge) : Region.wanted o (yielded ops.toArray a.tmps) = ge.getD true := by
  unfold wantG at h
  unfold Region.wanted
  split at h
  · rename_i hg
    cases h
    simp [hg]
  · rename_i j want hg
    split at h
    · rename_i o' ho'
      split at h
      · rename_i t ht
        split at h
        · rename_i g c he
          cases h
          have hs : st.slots[t]? = some ⟨g, .sa (.one (.val (.bool c)))⟩ := by
            rw [List.getD_eq_getElem?_getD] at he
            cases hq : st.slots[t]? with
            | none => rw [hq] at he; simp [Ent.nil] at he
            | some e => rw [hq] at he; simpa using he
          have hlt : t < a.tmps.size := by
            rw [hr.size]
            rcases Nat.lt_or_ge t st.slots.length with g | g
            · exact g
            · rw [List.getElem?_eq_none g] at hs; cases hs
          have hv := hr.slot t _ hs
          have hy : yielded ops.toArray a.tmps j = match a.tmps.getD t undef with
              | .bool b => some b
              | _ => none := by
            unfold yielded
            simp only [List.getElem?_toArray, ho', Option.bind_some, ht, Array.getElem?_eq_getElem hlt]
            simp only [Array.getD_eq_getD_getElem?, Array.getElem?_eq_getElem hlt, Option.getD_some]
            cases a.tmps[t] <;> rfl
          simp only [hg, hy]
          cases g with
          | none =>
            have hv' : a.tmps.getD t undef = .bool c := hv
            rw [hv']
            cases want <;> cases c <;> rfl
          | some gb =>
            cases gb with
            | true =>
              have hv' : a.tmps.getD t undef = .bool c := hv
              rw [hv']
              cases want <;> cases c <;> rfl
            | false =>
              have hv' : a.tmps.getD t undef = undef := hv
              rw [hv']
              cases want <;> cases c <;> rfl
        · cases h
      · cases h
    · cases h
/-- One operation, with its guard. -/
theorem effG_ok (hc : CxOk P cx) (hr : Rep W0 S st ρ σ a w) {ops : List Oper} {o : Oper} {E : Eff} (h : effG Ar.std cx ops st o = some E) (hs : E.side) {K : Act → World → Prop} {Q : Exit → Act → World → Prop}
    (hK : ∀ ρ' σ' a' w', Rep W0 S (st.app o.dst E) ρ' σ' a' w' → K a' w') :
    if Region.wanted o (yielded ops.toArray a.tmps) then o.wp P a w K Q ∨ (o.asks P a w ∧ LetsOut Q) else K (a.put o.dst undef) w := by
  unfold effG at h
  split at h
  · rename_i hw
    rw [wantG_ok hr hw]
    simp only [Option.getD_none, if_true]
    refine .inl (eff_ok hc hr h hs fun v w' hres => ?_)
    obtain ⟨ρ', σ', hr'⟩ := rep_app (dst := o.dst) hr hres
    exact hK ρ' σ' _ _ hr'
  · rename_i b hw
    rw [wantG_ok hr hw]
    simp only [Option.getD_some]
    split at h
    · rename_i C e he
      cases h
      cases b with
      | true =>
        simp only [if_true]
        have hs' : C := by
          rcases hs with hs | hs
          · cases hs
          · exact hs
        refine .inl (eff_ok hc hr he hs' fun v w' hres => ?_)
        obtain ⟨ρ', σ', hx, hv, hm⟩ := hres
        have hv' : (⟨gand Ar.std (some true) e.g, e.v⟩ : Ent).is ⟨ρ', setAll st.heap [], σ', S, W0.heap.size, w'⟩ v := by
          obtain ⟨g, ev⟩ := e
          cases g with
          | none => exact hv
          | some g => cases g <;> exact hv
        obtain ⟨ρ'', σ'', hr'⟩ := rep_app (dst := o.dst) (E := ⟨true = false ∨ C, ⟨gand Ar.std (some true) e.g, e.v⟩, []⟩) hr ⟨ρ', σ', hx, hv', hm⟩
        exact hK _ _ _ _ hr'
      | false =>
        simp only [Bool.false_eq_true, if_false]
        have hv' : (⟨gand Ar.std (some false) e.g, e.v⟩ : Ent).is (gg W0 S st ρ σ w) undef := by
          obtain ⟨g, ev⟩ := e
          cases g with
          | none => rfl
          | some g => cases g <;> rfl
        obtain ⟨ρ'', σ'', hr'⟩ := rep_app (dst := o.dst) (E := ⟨false = false ∨ C, ⟨gand Ar.std (some false) e.g, e.v⟩, []⟩) hr ⟨ρ, σ, Ext.refl _, hv', hr.mem⟩
        exact hK _ _ _ _ hr'
    · cases h
  · cases h

/-! ## Regions in the text's order -/
theorem run_ok (hc : CxOk P cx) {ops : List Oper} {Q : Exit → Act → World → Prop} {st' : St} (hQ : ∀ ρ' σ' a' w', Rep W0 S st' ρ' σ' a' w' → Q .normal a' w') : ∀ {l : List (Nat × Oper)} {T : List It} {st : St} {ρ : Nat → Nat} {σ : Nat → Option (Nat × Nat)} {a : Act} {w : World},
    runT Ar.std cx ops l st = some (T, st') → sides T → Rep W0 S st ρ σ a w → wpList P ops.toArray Q (l.map (·.2)) a w
  | [], T, st, ρ, σ, a, w, h, _, hr => by
    cases h
    exact hQ _ _ _ _ hr
  | (i, o) :: l, T, st, ρ, σ, a, w, h, hs, hr => by
    simp only [runT] at h
    split at h
    · rename_i E hE
      split at h
      · rename_i T' st'' hT
        cases h
        exact effG_ok hc hr hE hs.1 fun ρ' σ' a' w' hr' => run_ok hc hQ hT hs.2 hr'
      · cases h
    · cases h
theorem withIdx_snd : ∀ (l : List Oper) (k : Nat), (withIdx k l).map (·.2) = l
  | [], _ => rfl
  | o :: l, k => by simp [withIdx, withIdx_snd l]
theorem region_ok (hc : CxOk P cx) {id : Nat} {ops : Array Oper} {Q : Exit → Act → World → Prop} {T : List It} {st' : St} (h : runT Ar.std cx ops.toList (withIdx 0 ops.toList) st = some (T, st')) (hs : sides T) (hr : Rep W0 S st ρ σ a w)
    (hQ : ∀ ρ' σ' a' w', Rep W0 S st' ρ' σ' a' w' → Q .normal a' w') : (Code.region id ops false).wp P Q a w := by
  have := run_ok hc hQ h hs hr
  rw [withIdx_snd] at this
  exact wp_region_list (by simpa using this)

/-! ## Regions in any order: operations that may change places -/
structure Agree (st st' : St) (ts bs : List Nat) : Prop where
  slot : ∀ t ∈ ts, st'.slots.getD t Ent.nil = st.slots.getD t Ent.nil
  blk : ∀ b ∈ bs, st'.heap.getD b none = st.heap.getD b none
  len : st'.heap.length = st.heap.length
theorem evalE_agree {st st' : St} {ts bs : List Nat} (h : Agree st st' ts bs) {x : Operand} (hx : ∀ t, x = .tmp t → t ∈ ts) : evalE st' x = evalE st x := by
  cases x with
  | tmp t => exact h.slot t (hx t rfl)
  | _ => rfl
def tmpsOf (l : List Operand) : List Nat := l.filterMap fun x => match x with
  | .tmp t => some t
  | _ => none
theorem mem_tmpsOf {l : List Operand} {t : Nat} (h : Operand.tmp t ∈ l) : t ∈ tmpsOf l := List.mem_filterMap.2 ⟨_, h, rfl⟩
theorem evalE_mem {st st' : St} {l : List Operand} {bs : List Nat} (h : Agree st st' (tmpsOf l) bs) {x : Operand} (hx : x ∈ l) : evalE st' x = evalE st x :=
  evalE_agree h fun t e => mem_tmpsOf (e ▸ hx)
theorem eff_agree (A : Ar) (cx : Cx) {st st' : St} {o : Oper} (h : Agree st st' (tmpsOf o.op.operands.toList) (foot st o)) : eff A cx st' o.dst o.op = eff A cx st o.dst o.op := by
  have ev := fun x (hx : x ∈ o.op.operands.toList) => evalE_mem h hx
  have hb := h.blk
  unfold foot at hb
  cases ho : o.op with
  | move x => rw [ho] at ev; simp only [eff]; rw [ev x (by simp [Op.operands])]
  | assign x => rw [ho] at ev; simp only [eff]; rw [ev x (by simp [Op.operands])]
  | pick c x y => rw [ho] at ev; simp only [eff]; rw [ev c (by simp [Op.operands]), ev x (by simp [Op.operands]), ev y (by simp [Op.operands])]
  | binOp op t x y t' => rw [ho] at ev; simp only [eff]; rw [ev x (by simp [Op.operands]), ev y (by simp [Op.operands])]
  | unOp op t x => rw [ho] at ev; simp only [eff]; rw [ev x (by simp [Op.operands])]
  | convert t u x => rw [ho] at ev; simp only [eff]; rw [ev x (by simp [Op.operands])]
  | fieldAddr t x f => rw [ho] at ev; simp only [eff]; rw [ev x (by simp [Op.operands])]
  | field t x f => rw [ho] at ev; simp only [eff]; rw [ev x (by simp [Op.operands])]
  | extract x i => rw [ho] at ev; simp only [eff]; rw [ev x (by simp [Op.operands])]
  | alloc t =>
    rw [ho] at hb
    simp only [eff]
    cases hd : o.dst with
    | none => rfl
    | some d =>
      rw [hd] at hb
      have e := hb d (by simp)
      cases look cx.tt t with
      | none => rfl
      | some ti => simp only [e, h.len]
  | box t x =>
    rw [ho] at hb ev
    simp only [eff]
    rw [ev x (by simp [Op.operands])]
    cases hd : o.dst with
    | none => rfl
    | some d =>
      rw [hd] at hb
      have e := hb d (by simp)
      generalize evalE st x = ee
      obtain ⟨g, v⟩ := ee
      cases v <;> simp only [e, h.len]
  | load t x =>
    rw [ho] at hb ev
    simp only [eff]
    rw [ev x (by simp [Op.operands])]
    split
    · rename_i g b off hx
      rw [hb b (by simp [ptrBlk, hx])]
    · rfl
    · rfl
    · rfl
  | store t x y =>
    rw [ho] at hb ev
    simp only [eff]
    rw [ev x (by simp [Op.operands]), ev y (by simp [Op.operands])]
    split
    · rename_i g b off g' v ti hx _ _
      rw [hb b (by simp [ptrBlk, hx])]
    · rfl
  | indexAddr t x y => rw [ho] at ev; simp only [eff]; rw [ev x (by simp [Op.operands]), ev y (by simp [Op.operands])]
  | slice t x lo hi mx =>
    rw [ho] at ev
    have hbnd : ∀ (d : Int) (y : Option Operand), (∀ z, y = some z → z ∈ (Op.slice t x lo hi mx).operands.toList) → bnd st' d y = bnd st d y := by
      intro d y hy
      cases y with
      | none => rfl
      | some z => simp only [bnd]; rw [ev z (hy z rfl)]
    simp only [eff]
    rw [ev x (by simp [Op.operands])]
    have h1 : ∀ d, bnd st' d lo = bnd st d lo := fun d => hbnd d lo fun z hz => by subst hz; simp [Op.operands]
    have h2 : ∀ d, bnd st' d hi = bnd st d hi := fun d => hbnd d hi fun z hz => by subst hz; simp [Op.operands]
    simp only [h1, h2]
  | build t ps =>
    rw [ho] at ev
    have : ps.toList.map (fun p => evalE st' p.2) = ps.toList.map (fun p => evalE st p.2) := List.map_congr_left fun p hp => ev p.2 (by simp [Op.operands]; exact ⟨p.1, by simpa using hp⟩)
    simp only [eff, this]
  | buildSlice t n ps =>
    rw [ho] at ev hb
    have : ps.toList.map (fun p => evalE st' p.2) = ps.toList.map (fun p => evalE st p.2) := List.map_congr_left fun p hp => ev p.2 (by simp [Op.operands]; exact ⟨p.1, by simpa using hp⟩)
    simp only [eff, this]
    cases hd : o.dst with
    | none => rfl
    | some d =>
      rw [hd] at hb
      have fe : freeAt st' d = freeAt st d := by unfold freeAt; rw [hb d (by simp), h.len]
      cases look cx.tt t with
      | none => rfl
      | some ti =>
        obtain ⟨k, _, _, _⟩ := ti
        cases k with
        | slice e sz =>
          cases sas (ps.toList.map fun p => evalE st p.2) with
          | none => rfl
          | some vs => simp only [fe]
        | _ => rfl
  | call c =>
    rw [ho] at ev
    have : c.args.toList.map (evalE st') = c.args.toList.map (evalE st) := List.map_congr_left fun x hx => ev x (by simp [Op.operands, Call.operands]; exact .inr (by simpa using hx))
    simp only [eff, this]
  | _ => rfl

theorem foot_agree {st st' : St} {o : Oper} {bs : List Nat} (h : Agree st st' (tmpsOf o.op.operands.toList) bs) : foot st' o = foot st o := by
  have ev := fun x (hx : x ∈ o.op.operands.toList) => evalE_mem h hx
  unfold foot
  cases ho : o.op with
  | load t x => rw [ho] at ev; simp only; rw [ev x (by simp [Op.operands])]
  | store t x y => rw [ho] at ev; simp only; rw [ev x (by simp [Op.operands])]
  | _ => rfl
def guardSlot (ops : List Oper) (o : Oper) : List Nat :=
  match o.guard with
  | some (g, _) => ((ops[g]?).bind (·.dst)).toList
  | none => []
theorem looks_eq (ops : List Oper) (o : Oper) : o.looksAt ops.toArray = tmpsOf o.op.operands.toList ++ guardSlot ops o := by
  unfold Oper.looksAt tmpsOf guardSlot
  cases o.guard with
  | none => rfl
  | some g =>
    obtain ⟨g, b⟩ := g
    simp only [List.getElem?_toArray]
    rfl
theorem wantG_agree (A : Ar) {ops : List Oper} {st st' : St} {o : Oper} {bs : List Nat} (h : Agree st st' (guardSlot ops o) bs) : wantG A ops st' o.guard = wantG A ops st o.guard := by
  have hs := h.slot
  unfold guardSlot at hs
  unfold wantG
  cases hg : o.guard with
  | none => rfl
  | some g =>
    obtain ⟨j, want⟩ := g
    rw [hg] at hs
    simp only at hs ⊢
    cases ho : ops[j]? with
    | none => rfl
    | some o' =>
      simp only
      cases ht : o'.dst with
      | none => rfl
      | some t =>
        simp only
        rw [hs t (by simp [ho, ht])]
theorem Agree.mono {st st' : St} {ts bs ts' bs' : List Nat} (h : Agree st st' ts bs) (ht : ∀ t ∈ ts', t ∈ ts) (hb : ∀ b ∈ bs', b ∈ bs) : Agree st st' ts' bs' := ⟨fun t h' => h.slot t (ht t h'), fun b h' => h.blk b (hb b h'), h.len⟩
theorem effG_agree (A : Ar) (cx : Cx) {ops : List Oper} {st st' : St} {o : Oper} (h : Agree st st' (o.looksAt ops.toArray) (foot st o)) : effG A cx ops st' o = effG A cx ops st o := by
  rw [looks_eq] at h
  unfold effG
  rw [wantG_agree A (h.mono (fun t ht => List.mem_append_right _ ht) (fun b hb => hb)), eff_agree A cx (h.mono (fun t ht => List.mem_append_left _ ht) (fun b hb => hb))]
theorem setAll_get : ∀ {l : List (Nat × Blk)} {h : List (Option Blk)} {b : Nat}, (∀ p ∈ l, p.1 ≠ b) → (setAll h l)[b]? = h[b]?
  | [], _, _, _ => rfl
  | p :: l, h, b, hl => by
    show (setAll (h.set p.1 (some p.2)) l)[b]? = _
    rw [setAll_get fun q hq => hl q (List.mem_cons_of_mem _ hq), List.getElem?_set_ne (hl p (List.mem_cons_self ..))]
theorem setAll_len : ∀ {l : List (Nat × Blk)} {h : List (Option Blk)}, (setAll h l).length = h.length
  | [], _ => rfl
  | p :: l, h => by
    show (setAll (h.set p.1 (some p.2)) l).length = _
    rw [setAll_len]
    simp
theorem free1_ne {l : List (Nat × Blk)} {ft : List Nat} (h : free1 (l.map (·.1)) ft = true) : ∀ p ∈ l, ∀ b ∈ ft, p.1 ≠ b := by
  intro p hp b hb e
  have h1 := List.all_eq_true.1 h p.1 (List.mem_map.2 ⟨p, hp, rfl⟩)
  have h2 := List.all_eq_true.1 h1 b hb
  rw [e, Nat.beq_refl] at h2
  cases h2
/-- Behind another operation that is apart. -/
theorem agree_app {ops : List Oper} {st : St} {p o : Oper} {E : Eff} {ft : List Nat} (h1 : ∀ d, p.dst = some d → d ∉ o.looksAt ops.toArray) (h2 : free1 (E.blk.map (·.1)) ft = true) : Agree st (st.app p.dst E) (o.looksAt ops.toArray) ft := by
  refine ⟨fun t ht => ?_, fun b hb => ?_, setAll_len⟩
  · cases hp : p.dst with
    | none => rfl
    | some d =>
      have hne : d ≠ t := fun e => h1 d hp (e ▸ ht)
      simp [St.app, St.put, List.getD_eq_getElem?_getD, List.getElem?_set_ne hne]
  · show (setAll st.heap E.blk).getD b none = _
    rw [List.getD_eq_getElem?_getD, setAll_get (fun p hp => free1_ne h2 p hp b hb), ← List.getD_eq_getElem?_getD]
theorem wb_foot {A : Ar} {cx : Cx} {ops : List Oper} {st : St} {o : Oper} {E : Eff} (h : effG A cx ops st o = some E) : ∀ p ∈ E.blk, p.1 ∈ foot st o := by
  have main : ∀ {E : Eff}, eff A cx st o.dst o.op = some E → ∀ p ∈ E.blk, p.1 ∈ foot st o := by
    intro E h p hb
    unfold foot
    cases ho : o.op with
    | alloc t =>
      rw [ho] at h
      simp only [eff] at h
      split at h
      · rename_i d ti hd _
        split at h
        · split at h
          · cases h
            rw [List.mem_singleton] at hb
            subst hb
            simp [hd]
          · cases h
        · cases h
      · cases h
    | box t x =>
      rw [ho] at h
      simp only [eff] at h
      split at h
      · rename_i d g v hd _
        split at h
        · split at h
          · cases h
            rw [List.mem_singleton] at hb
            subst hb
            simp [hd]
          · cases h
        · cases h
      · cases h
    | buildSlice t n ps =>
      rw [ho] at h
      simp only [eff] at h
      split at h
      · rename_i hd _ _
        split at h
        · split at h
          · cases h
            rw [List.mem_singleton] at hb
            subst hb
            simp [hd]
          · cases h
        · cases h
      · cases h
    | store t x y =>
      rw [ho] at h
      simp only [eff] at h
      split at h
      · rename_i g bb off g' v ti hx _ _
        split at h
        · split at h
          · cases h
            rw [List.mem_singleton] at hb
            subst hb
            simp [ptrBlk, hx]
          · cases h
        · cases h
      · cases h
    | _ =>
      exfalso
      rw [ho] at h
      simp only [eff, effBin, bool1, int1] at h
      repeat' split at h
      all_goals first
        | (cases h; done)
        | (obtain ⟨n, _, h⟩ := Option.bind_eq_some_iff.1 h; cases h; exact List.not_mem_nil hb)
        | (cases h; exact List.not_mem_nil hb)
  unfold effG at h
  split at h
  · exact main h
  · split at h
    · cases h
      intro p hb
      exact absurd hb List.not_mem_nil
    · cases h
  · cases h
theorem setAll_set : ∀ {l : List (Nat × Blk)} {h : List (Option Blk)} {b : Nat} {k : Option Blk}, (∀ p ∈ l, p.1 ≠ b) → setAll (h.set b k) l = (setAll h l).set b k
  | [], _, _, _, _ => rfl
  | p :: l, h, b, k, hl => by
    show setAll ((h.set b k).set p.1 (some p.2)) l = (setAll (h.set p.1 (some p.2)) l).set b k
    rw [List.set_comm _ _ (hl p (List.mem_cons_self ..)).symm, setAll_set fun q hq => hl q (List.mem_cons_of_mem _ hq)]
theorem setAll_comm : ∀ {l m : List (Nat × Blk)} {h : List (Option Blk)}, (∀ p ∈ l, ∀ q ∈ m, p.1 ≠ q.1) → setAll (setAll h l) m = setAll (setAll h m) l
  | [], _, _, _ => rfl
  | p :: l, m, h, hl => by
    show setAll (setAll (h.set p.1 (some p.2)) l) m = setAll ((setAll h m).set p.1 (some p.2)) l
    rw [setAll_comm fun q hq => hl q (List.mem_cons_of_mem _ hq), setAll_set fun q hq => (hl p (List.mem_cons_self ..) q hq).symm]
theorem app_comm {st : St} {d1 d2 : Option Tmp} {E1 E2 : Eff} (h : ∀ d, d1 = some d → d2 ≠ some d) (hb : ∀ p ∈ E1.blk, ∀ q ∈ E2.blk, p.1 ≠ q.1) :
    (st.app d1 E1).app d2 E2 = (st.app d2 E2).app d1 E1 := by
  obtain ⟨slots, heap⟩ := st
  have hs : ∀ s : List Ent, ∀ a b : Tmp, ∀ e1 e2, a ≠ b → (s.set a e1).set b e2 = (s.set b e2).set a e1 := fun s a b e1 e2 hne => List.set_comm _ _ hne
  unfold St.app
  cases d1 <;> cases d2 <;> simp only [St.put] <;> rw [setAll_comm hb]
  rw [hs _ _ _ _ _ (fun e => h _ rfl (by rw [e]))]
theorem swap_one {A : Ar} {cx : Cx} {ops : List Oper} {st : St} {p o : Oper} {Ep Eo : Eff} (hp : effG A cx ops st p = some Ep) (ho : effG A cx ops (st.app p.dst Ep) o = some Eo) (hap : p.apart ops.toArray o = true)
    (f1 : free1 (Ep.blk.map (·.1)) (foot (st.app p.dst Ep) o) = true) (f2 : free1 (Eo.blk.map (·.1)) (foot st p) = true) :
    effG A cx ops st o = some Eo ∧ effG A cx ops (st.app o.dst Eo) p = some Ep ∧ (st.app o.dst Eo).app p.dst Ep = (st.app p.dst Ep).app o.dst Eo ∧ foot (st.app p.dst Ep) o = foot st o ∧ foot (st.app o.dst Eo) p = foot st p := by
  obtain ⟨h1, h2, h3⟩ := Oper.apart_spec hap
  have a1 := agree_app (E := Ep) (st := st) h1 f1
  have e1 : foot (st.app p.dst Ep) o = foot st o := foot_agree (a1.mono (fun t ht => by rw [looks_eq]; exact List.mem_append_left _ ht) (fun b hb => hb))
  rw [e1] at a1 f1
  have e2 := effG_agree A cx a1
  have a2 := agree_app (E := Eo) (st := st) h3 f2
  have e3 : foot (st.app o.dst Eo) p = foot st p := foot_agree (a2.mono (fun t ht => by rw [looks_eq]; exact List.mem_append_left _ ht) (fun b hb => hb))
  have e4 := effG_agree A cx a2
  rw [ho] at e2
  refine ⟨e2.symm, by rw [e4, hp], (app_comm h2 ?_).symm, e1, e3⟩
  intro p hp q hq
  have m := wb_foot ho q hq
  rw [e1] at m
  exact free1_ne f1 p hp q.1 m
def OkPair (ops : List Oper) (x y : It) : Prop := x.o.apart ops.toArray y.o = true ∧ free1 x.wb y.ft = true ∧ free1 y.wb x.ft = true
theorem bubble {A : Ar} {cx : Cx} {ops : List Oper} (i : Nat) (o : Oper) (post : List (Nat × Oper)) : ∀ (pre : List (Nat × Oper)) {st : St} {T : List It} {st' : St}, runT A cx ops (pre ++ (i, o) :: post) st = some (T, st') →
    ∃ T1 y T2, T = T1 ++ y :: T2 ∧ T1.map (fun z => (z.i, z.o)) = pre ∧ y.o = o ∧ ((∀ z ∈ T1, OkPair ops z y) → ∃ E, effG A cx ops st o = some E ∧ y.side = E.side ∧ y.wb = E.blk.map (·.1) ∧ y.ft = foot st o ∧ runT A cx ops (pre ++ post) (st.app o.dst E) = some (T1 ++ T2, st'))
  | [], st, T, st', h => by
    simp only [List.nil_append, runT] at h
    split at h
    · rename_i E hE
      split at h
      · rename_i T2 st'' hT
        cases h
        exact ⟨[], _, T2, rfl, rfl, rfl, fun _ => ⟨E, hE, rfl, rfl, rfl, hT⟩⟩
      · cases h
    · cases h
  | (k, p) :: pre, st, T, st', h => by
    simp only [List.cons_append, runT] at h
    split at h
    · rename_i Ep hEp
      split at h
      · rename_i T' st'' hT
        cases h
        obtain ⟨T1, y, T2, rfl, e2, e3, hrest⟩ := bubble i o post pre hT
        refine ⟨_ :: T1, y, T2, rfl, by simp [e2], e3, fun hall => ?_⟩
        obtain ⟨E, g1, g2, g3, g4, g5⟩ := hrest fun z hz => hall z (List.mem_cons_of_mem _ hz)
        obtain ⟨q1, q2, q3⟩ := hall _ (List.mem_cons_self ..)
        simp only at q1 q2 q3
        rw [e3] at q1
        rw [g4] at q2
        rw [g3] at q3
        obtain ⟨s1, s2, s3, s4, s5⟩ := swap_one hEp g1 q1 q2 q3
        refine ⟨E, s1, g2, g3, by rw [g4, s4], ?_⟩
        simp only [List.cons_append, runT, s2, s3, g5, s5]
      · cases h
    · cases h
theorem sides_mid {T1 T2 : List It} {y : It} (h : sides (T1 ++ y :: T2)) : y.side ∧ sides (T1 ++ T2) := by
  induction T1 with
  | nil => exact h
  | cons x T1 ih => exact ⟨(ih h.2).1, h.1, (ih h.2).2⟩
theorem pairs_mid {ops : List Oper} {T1 T2 : List It} {y : It} (h : pairsB ops (T1 ++ y :: T2) = true) : (∀ z ∈ T1, pairB ops z y = true) ∧ pairsB ops (T1 ++ T2) = true := by
  induction T1 with
  | nil =>
    simp only [List.nil_append, pairsB, Bool.and_eq_true] at h
    exact ⟨fun z hz => (by cases hz), h.2⟩
  | cons x T1 ih =>
    simp only [List.cons_append, pairsB, Bool.and_eq_true, List.all_append, List.all_cons] at h
    obtain ⟨⟨h1, h2, h3⟩, h4⟩ := h
    obtain ⟨i1, i2⟩ := ih h4
    refine ⟨fun z hz => ?_, ?_⟩
    · rcases List.mem_cons.1 hz with rfl | hz
      · exact h2
      · exact i1 z hz
    · simp [pairsB, h1, h3, i2]

def listedOf (L : List (Nat × Oper)) (listed : Array Bool) : Prop := ∀ j, listed.getD j true = false ↔ j ∈ L.map (·.1)
theorem listed_set {listed : Array Bool} {i j : Nat} (hi : listed.getD i true = false) : (listed.setIfInBounds i true).getD j true = false ↔ j ≠ i ∧ listed.getD j true = false := by
  have hlt : i < listed.size := by
    rcases Nat.lt_or_ge i listed.size with g | g
    · exact g
    · simp [Array.getElem?_eq_none g] at hi
  rw [getD_set hlt]
  by_cases h : i = j
  · simp [h]
  · simp [h, Ne.symm h]
theorem any_ok (hc : CxOk P cx) {ops : List Oper} {Q : Exit → Act → World → Prop} {st' : St} (hQ : ∀ ρ' σ' a' w', Rep W0 S st' ρ' σ' a' w' → Q .normal a' w')
    (hback : ∀ i o, ops[i]? = some o → ∀ e ∈ o.after, Region.binds .any e = true → e.on < i) : ∀ (fuel : Nat) {L : List (Nat × Oper)} {T : List It} {st : St} {ρ : Nat → Nat} {σ : Nat → Option (Nat × Nat)} {a : Act} {w : World} {listed : Array Bool},
    L.length ≤ fuel → runT Ar.std cx ops L st = some (T, st') → pairsB ops T = true → sides T → Rep W0 S st ρ σ a w → listedOf L listed → (∀ x ∈ L, ops[x.1]? = some x.2) → L.Pairwise (fun x y => x.1 < y.1) → listed.size = ops.length →
    wpAny P .any ops.toArray Q fuel listed a w := by
  intro fuel
  have key : ∀ {L : List (Nat × Oper)} {listed : Array Bool}, listedOf L listed → (∀ x ∈ L, ops[x.1]? = some x.2) → L.Pairwise (fun x y => x.1 < y.1) → listed.size = ops.length → Region.ready .any ops.toArray listed = [] → L = [] := by
    intro L listed hl hin hs hsz hr
    cases L with
    | nil => rfl
    | cons x L =>
      exfalso
      have hx := hin x (List.mem_cons_self ..)
      have hun := (hl x.1).2 (by simp)
      have : x.1 ∈ Region.ready .any ops.toArray listed := by
        rw [mem_ready]
        refine ⟨hun, x.2, by simpa using hx, fun e he hb => ?_⟩
        have hlt := hback x.1 x.2 hx e he hb
        have hxl : x.1 < ops.length := by
          rcases Nat.lt_or_ge x.1 ops.length with g | g
          · exact g
          · rw [List.getElem?_eq_none g] at hx; cases hx
        have hne : ¬ listed.getD e.on true = false := by
          intro h0
          have hm := (hl e.on).1 h0
          simp only [List.map_cons, List.mem_cons] at hm
          rcases hm with hm | hm
          · omega
          · obtain ⟨y, hy, hy2⟩ := List.mem_map.1 hm
            have := (List.pairwise_cons.1 hs).1 y hy
            omega
        have h1 : e.on < listed.size := by omega
        simp only [Array.getD_eq_getD_getElem?, Array.getElem?_eq_getElem h1, Option.getD_some, Bool.not_eq_false] at hne ⊢
        exact hne
      rw [hr] at this
      cases this
  induction fuel with
  | zero =>
    intro L T st ρ σ a w listed hf h _ _ hr hl hin hs hsz
    have hL : L = [] := List.length_eq_zero_iff.1 (Nat.le_zero.1 hf)
    subst hL
    cases h
    refine ⟨?_, hQ _ _ _ _ hr⟩
    rw [List.eq_nil_iff_forall_not_mem]
    intro j hj
    have := (hl j).1 (mem_ready.1 hj).1
    cases this
  | succ fuel ih =>
    intro L T st ρ σ a w listed hf h hp hsd hr hl hin hs hsz
    refine ⟨fun hrd => ?_, fun i hi => ?_⟩
    · have hL := key hl hin hs hsz hrd
      subst hL
      cases h
      exact hQ _ _ _ _ hr
    · obtain ⟨hun, o, ho, hall⟩ := mem_ready.1 hi
      have hm := (hl i).1 hun
      obtain ⟨x, hx, hxi⟩ := List.mem_map.1 hm
      obtain ⟨pre, post, hL⟩ := List.append_of_mem hx
      have hxo := hin x hx
      rw [hxi] at hxo
      have hox : x.2 = o := by
        have : ops[i]? = some o := by simpa using ho
        rw [this] at hxo
        exact (Option.some.inj hxo).symm
      obtain ⟨xi, xo⟩ := x
      simp only at hxi hox
      subst hxi hox
      rw [hL] at h hs hin
      obtain ⟨T1, y, T2, hT, hT1, hyo, hb⟩ := bubble xi xo post pre h
      subst hT
      obtain ⟨p1, p2⟩ := pairs_mid hp
      obtain ⟨d1, d2⟩ := sides_mid hsd
      have hok : ∀ z ∈ T1, OkPair ops z y := by
        intro z hz
        have hpz := p1 z hz
        unfold pairB at hpz
        rw [hyo, Bool.or_eq_true] at hpz
        rcases hpz with hpz | hpz
        · exfalso
          obtain ⟨e, he, hb⟩ := List.any_eq_true.1 hpz
          simp only [Bool.and_eq_true] at hb
          have hon := Nat.eq_of_beq_eq_true hb.2
          have hlisted := hall e (by simpa using he) hb.1
          have hzin : z.i ∈ L.map (·.1) := by
            rw [hL, ← hT1]
            simp
            exact .inl ⟨z, hz, rfl⟩
          have hzun := (hl z.i).2 hzin
          rw [← hon] at hzun
          have h1 : e.on < listed.size := by
            rcases Nat.lt_or_ge e.on listed.size with g | g
            · exact g
            · simp [Array.getElem?_eq_none g] at hzun
          simp only [Array.getD_eq_getD_getElem?, Array.getElem?_eq_getElem h1, Option.getD_some] at hzun hlisted
          rw [hzun] at hlisted
          cases hlisted
        · simp only [Bool.and_eq_true] at hpz
          exact ⟨by rw [hyo]; exact hpz.1.1, hpz.1.2, hpz.2⟩
      obtain ⟨E, g1, g2, _, _, g5⟩ := hb hok
      unfold wpOp
      rw [ho]
      refine effG_ok hc hr g1 (g2 ▸ d1) fun ρ' σ' a' w' hr' => ?_
      have hs' := List.pairwise_append.1 hs
      have hs2 := List.pairwise_cons.1 hs'.2.1
      refine ih ?_ g5 p2 d2 hr' ?_ ?_ ?_ (by simpa using hsz)
      · rw [hL] at hf
        simp at hf ⊢
        omega
      · intro j
        rw [listed_set hun, hl j, hL]
        simp only [List.map_append, List.map_cons, List.mem_append, List.mem_cons]
        constructor
        · rintro ⟨hne, h | h | h⟩
          · exact .inl h
          · exact absurd h hne
          · exact .inr h
        · intro h
          refine ⟨?_, ?_⟩
          · rcases h with h | h
            · obtain ⟨z, hz, rfl⟩ := List.mem_map.1 h
              have := hs'.2.2 z hz (xi, xo) (by simp)
              simp only at this
              omega
            · obtain ⟨z, hz, rfl⟩ := List.mem_map.1 h
              have := hs2.1 z hz
              simp only at this
              omega
          · rcases h with h | h
            · exact .inl h
            · exact .inr (.inr h)
      · intro z hz
        refine hin z ?_
        rcases List.mem_append.1 hz with h | h
        · exact List.mem_append_left _ h
        · exact List.mem_append_right _ (List.mem_cons_of_mem _ h)
      · exact List.pairwise_append.2 ⟨hs'.1, hs2.2, fun x hx y hy => hs'.2.2 x hx y (List.mem_cons_of_mem _ hy)⟩

theorem withIdx_get : ∀ (l : List Oper) (k : Nat), ∀ x ∈ withIdx k l, k ≤ x.1 ∧ l[x.1 - k]? = some x.2
  | [], _, x, hx => by cases hx
  | o :: l, k, x, hx => by
    rcases List.mem_cons.1 hx with rfl | hx
    · simp
    · obtain ⟨h1, h2⟩ := withIdx_get l (k + 1) x hx
      refine ⟨by omega, ?_⟩
      rw [show x.1 - k = (x.1 - (k + 1)) + 1 by omega]
      simpa using h2
theorem withIdx_fst : ∀ (l : List Oper) (k : Nat), (withIdx k l).map (·.1) = List.range' k l.length
  | [], _ => rfl
  | o :: l, k => by simp [withIdx, withIdx_fst l (k + 1), List.range'_succ]
theorem withIdx_sorted : ∀ (l : List Oper) (k : Nat), (withIdx k l).Pairwise (fun x y => x.1 < y.1)
  | [], _ => .nil
  | o :: l, k => List.pairwise_cons.2 ⟨fun y hy => by have := (withIdx_get l (k + 1) y hy).1; simp only; omega, withIdx_sorted l (k + 1)⟩
theorem backB_ok : ∀ {l : List Oper} {k : Nat}, backB k l = true → ∀ i o, l[i]? = some o → ∀ e ∈ o.after, Region.binds .any e = true → e.on < k + i
  | [], _, _, i, o, h, _, _, _ => by simp at h
  | x :: l, k, h, i, o, ho, e, he, hb => by
    simp only [backB, Bool.and_eq_true] at h
    cases i with
    | zero =>
      simp at ho
      subst ho
      have := List.all_eq_true.1 h.1 e (by simpa using he)
      rw [hb] at this
      have h2 := Nat.le_of_ble_eq_true (by simpa using this : Nat.blt e.on k = true)
      omega
    | succ i =>
      have := backB_ok h.2 i o (by simpa using ho) e he hb
      omega
theorem rep_drew (hr : Rep W0 S st ρ σ a w) : Rep W0 S st ρ σ a { w with drawn := w.drawn + 1 } := by
  obtain ⟨hx, hm⟩ := ext_below hr.mem (w' := { w with drawn := w.drawn + 1 }) (Below.refl w.heap.size w).drew
  exact ⟨hr.size, fun t e he => (hr.slot t e he).ext hx, hr.defers, hm⟩
theorem region_any (hc : CxOk P cx) {id : Nat} {ops : Array Oper} {Q : Exit → Act → World → Prop} {T : List It} {st' : St} (h : runT Ar.std cx ops.toList (withIdx 0 ops.toList) st = some (T, st')) (hp : pairsB ops.toList T = true) (hb : backB 0 ops.toList = true) (hs : sides T) (hr : Rep W0 S st ρ σ a w)
    (hQ : ∀ ρ' σ' a' w', Rep W0 S st' ρ' σ' a' w' → Q .normal a' w') : (Code.region id ops true).wp P Q a w := by
  refine wp_region_any hc.mixed ?_
  refine any_ok (ops := ops.toList) hc hQ (fun i o ho e he hb' => by have := backB_ok hb i o ho e he hb'; omega) ops.size (L := withIdx 0 ops.toList) ?_ h hp hs (rep_drew hr) ?_ ?_ (withIdx_sorted _ _) (by simp)
  · have := congrArg List.length (withIdx_fst ops.toList 0)
    simp at this
    omega
  · intro j
    rw [withIdx_fst]
    simp only [List.mem_range'_1, Nat.zero_le, true_and, Nat.zero_add, Array.length_toList]
    rcases Nat.lt_or_ge j ops.size with g | g
    · simp [g]
    · simp [g]
  · intro x hx
    have := (withIdx_get _ _ x hx).2
    simpa using this

/-! ## Code -/
def Post (W0 : World) (S : Nat → Nat → Prop) (K : Ex → St → Prop) : Exit → Act → World → Prop
  | .normal, a, w => ∃ st ρ σ, Rep W0 S st ρ σ a w ∧ K .normal st
  | .exit i, a, w => ∃ st ρ σ, Rep W0 S st ρ σ a w ∧ K (.exit i) st
  | .ret, a, w => ∃ st ρ σ, Rep W0 S st ρ σ a w ∧ K .ret st
  | _, _, _ => False
/-- What is said of a loop: the loop does it. -/
def Lp (P : Program) (W0 : World) (S : Nat → Nat → Prop) (c : Code) (st : St) (K : Ex → St → Prop) : Prop :=
  ∀ ρ σ a w, Rep W0 S st ρ σ a w → (Code.loop c).wp P (Post W0 S K) a w
theorem ex_ok (hc : CxOk P cx) : ∀ (c : Code) {st : St} {K : Ex → St → Prop} {ρ : Nat → Nat} {σ : Nat → Option (Nat × Nat)} {a : Act} {w : World}, ex Ar.std cx (Lp P W0 S) c st K → Rep W0 S st ρ σ a w → c.wp P (Post W0 S K) a w
  | .skip, st, K, ρ, σ, a, w, h, hr => wp_skip ⟨st, ρ, σ, hr, h⟩
  | .region id ops draw, st, K, ρ, σ, a, w, h, hr => by
    simp only [ex] at h
    split at h
    · rename_i T s' hT
      split at h
      · exact h.elim
      · rename_i hd
        cases draw with
        | false => exact region_ok hc hT h.1 hr fun ρ' σ' a' w' hr' => ⟨s', ρ', σ', hr', h.2⟩
        | true =>
          simp only [Bool.true_and, Bool.not_eq_false', Bool.and_eq_true] at hd
          exact region_any hc hT hd.1 hd.2 h.1 hr fun ρ' σ' a' w' hr' => ⟨s', ρ', σ', hr', h.2⟩
    · exact h.elim
  | .seq x y, st, K, ρ, σ, a, w, h, hr => by
    refine wp_seq (wp_mono (ex_ok hc x (by simpa only [ex] using h) hr) ?_)
    intro e a' w' hp
    cases e with
    | normal =>
      obtain ⟨st', ρ', σ', hr', hk⟩ := hp
      exact ex_ok hc y hk hr'
    | exit i => exact hp
    | ret => exact hp
    | goto l => exact hp
    | panic ch => exact hp
    | outgrown => exact hp
  | .cond c x y, st, K, ρ, σ, a, w, h, hr => by
    simp only [ex] at h
    split at h
    · rename_i t ht
      have e : a.eval c = .bool t := evalE_v hr c ht trivial
      obtain ⟨h1, h2⟩ := h
      cases t with
      | true => exact wp_cond_true e (ex_ok hc x (h1.resolve_left (by decide)) hr)
      | false => exact wp_cond_false e (ex_ok hc y (h2.resolve_left (by decide)) hr)
    · exact h.elim
  | .block id c, st, K, ρ, σ, a, w, h, hr => by
    refine wp_block (wp_mono (ex_ok hc c (by simpa only [ex] using h) hr) ?_)
    intro e a' w' hp
    cases e with
    | normal => exact hp
    | exit i =>
      obtain ⟨st', ρ', σ', hr', hk⟩ := hp
      simp only at hk
      show if i = id then Post W0 S K .normal a' w' else Post W0 S K (.exit i) a' w'
      split at hk
      · rename_i hi
        rw [if_pos (Nat.eq_of_beq_eq_true hi)]
        exact ⟨st', ρ', σ', hr', hk⟩
      · rename_i hi
        rw [if_neg (fun e => hi (by rw [e, Nat.beq_refl]))]
        exact ⟨st', ρ', σ', hr', hk⟩
    | ret => exact hp
    | goto l => exact hp
    | panic ch => exact hp
    | outgrown => exact hp
  | .exit id, st, K, ρ, σ, a, w, h, hr => wp_exit ⟨st, ρ, σ, hr, h⟩
  | .ret, st, K, ρ, σ, a, w, h, hr => wp_ret ⟨st, ρ, σ, hr, h⟩
  | .loop c, st, K, ρ, σ, a, w, h, hr => h ρ σ a w hr
  | .rangeFunc .., st, K, ρ, σ, a, w, h, hr => by simp [ex] at h
  | .scope _, st, K, ρ, σ, a, w, h, hr => by simp [ex] at h
  | .label _, st, K, ρ, σ, a, w, h, hr => by simp [ex] at h
  | .goto _, st, K, ρ, σ, a, w, h, hr => by simp [ex] at h
  | .refuse _, st, K, ρ, σ, a, w, h, hr => by simp [ex] at h

/-! ## States that say less -/
/-- The same state, by fewer blocks. -/
structure Fewer (G G' : Gm) : Prop extends Sub G G' where
  ρ : G'.ρ = G.ρ
section
variable {G G' : Gm}
theorem hasB_live {h : List (Option Blk)} {b : Nat} (hp : hasB h b = true) : live h b := by
  unfold hasB at hp
  split at hp
  · rename_i t cs hb
    exact ⟨t, cs, getD_none hb⟩
  · cases hp
theorem ctLe_is {x y : Ct} {v : Value} (s : Sub G G') (hl : ctLe x y) (h : x.is G v) : y.is G' v := by
  unfold ctLe at hl
  split at hl
  · obtain ⟨rfl, rfl⟩ := hl; exact h.sub s
  · obtain ⟨rfl, rfl⟩ := hl; exact h.sub s
  · exact hl.elim
theorem SC.le_is {x y : SC} {v : Value} (s : Fewer G G') (hl : x.le y) (hp : ptrOk G'.h y = true) (hv : x.is G v) : y.is G' v := by
  unfold SC.le at hl
  split at hl
  · exact trivial
  · subst hl; exact hv
  · obtain ⟨rfl, rfl⟩ := hl
    exact ⟨hasB_live hp, by rw [hv.2, s.ρ]⟩
  · subst hl; exact hv
  · exact ⟨ctLe_is s.toSub hl hv.1, trivial⟩
  · exact hl.elim
theorem cellsLe_is (s : Fewer G G') : ∀ {xs ys : List SC} {vs : List Value}, cellsLe xs ys → ys.all (ptrOk G'.h) = true → cellsIs G xs vs → cellsIs G' ys vs
  | [], [], [], _, _, _ => trivial
  | _ :: _, _ :: _, _ :: _, ⟨a, b⟩, hp, ⟨⟨c, d⟩, e⟩ => by
    simp only [List.all_cons, Bool.and_eq_true] at hp
    exact ⟨⟨SC.le_is s a hp.1 c, d⟩, cellsLe_is s b hp.2 e⟩
  | [], _ :: _, _, e, _, _ => e.elim
  | _ :: _, [], _, e, _, _ => e.elim
  | [], [], _ :: _, _, _, e => e.elim
  | _ :: _, _ :: _, [], _, _, e => e.elim
theorem saLe_is {x y : SA} {v : Value} (s : Fewer G G') (hl : saLe x y) (hp : saOk G'.h y = true) (hv : x.is G v) : y.is G' v := by
  unfold saLe at hl
  split at hl
  · exact trivial
  · exact SC.le_is s hl hp hv
  · obtain ⟨vs, e, hc⟩ := hv
    exact ⟨vs, e, cellsLe_is s hl hp hc⟩
  · exact hl.elim
theorem sasLe_is (s : Fewer G G') : ∀ {xs ys : List SA} {vs : List Value}, sasLe xs ys → ys.all (saOk G'.h) = true → sasIs G xs vs → sasIs G' ys vs
  | [], [], [], _, _, _ => trivial
  | [_], [_], [_], a, hp, ⟨c, e⟩ => by
    simp only [List.all_cons, List.all_nil, Bool.and_true] at hp
    exact ⟨saLe_is s a hp c, e⟩
  | x :: x' :: xs, y :: ys, v :: vs, hl, hp, ⟨c, e⟩ => by
    simp only [List.all_cons, Bool.and_eq_true] at hp
    cases ys with
    | nil => have := hl.2; simp [sasLe] at this
    | cons y' ys => exact ⟨saLe_is s hl.1 hp.1 c, sasLe_is s hl.2 (by simpa using hp.2) e⟩
  | [x], y :: y' :: ys, v :: vs, hl, hp, ⟨c, e⟩ => hl.2.elim
  | [], _ :: _, _, e, _, _ => e.elim
  | _ :: _, [], _, e, _, _ => by simp [sasLe] at e
  | [], [], _ :: _, _, _, e => e.elim
  | [_], [_], _ :: _ :: _, _, _, e => e.2.elim
  | _ :: _, _ :: _, [], _, _, e => e.elim
theorem SV.le_is {x y : SV} {v : Value} (s : Fewer G G') (hl : x.le y) (hp : svOk G'.h y = true) (hv : x.is G v) : y.is G' v := by
  unfold SV.le at hl
  split at hl
  · exact trivial
  · exact SC.le_is s hl hp hv
  · obtain ⟨vs, e, hc⟩ := hv
    exact ⟨vs, e, cellsLe_is s hl hp hc⟩
  · exact hl.elim
theorem entLe_is {x y : Ent} {v : Value} (s : Fewer G G') (hl : entLe x y) (hp : svOk G'.h y.v = true) (hv : x.is G v) : y.is G' v := by
  unfold entLe at hl
  split at hl
  · exact trivial
  · exact SV.le_is s hl hp hv
  · exact hl.elim
theorem entsLe_get : ∀ {xs ys : List Ent}, entsLe xs ys → ∀ (t : Nat) (y : Ent), ys[t]? = some y → ∃ x, xs[t]? = some x ∧ entLe x y
  | [], [], _, t, y, h => by simp at h
  | x :: xs, y :: ys, ⟨a, b⟩, 0, z, h => by simp at h; subst h; exact ⟨x, rfl, a⟩
  | x :: xs, y :: ys, ⟨a, b⟩, t + 1, z, h => by
    obtain ⟨x', h1, h2⟩ := entsLe_get b t z (by simpa using h)
    exact ⟨x', by simpa using h1, h2⟩
  | [], _ :: _, e, _, _, _ => e.elim
  | _ :: _, [], e, _, _, _ => e.elim
theorem entsLe_len : ∀ {xs ys : List Ent}, entsLe xs ys → xs.length = ys.length
  | [], [], _ => rfl
  | x :: xs, y :: ys, ⟨_, b⟩ => by simp [entsLe_len b]
  | [], _ :: _, e => e.elim
  | _ :: _, [], e => e.elim
theorem heapLe_get : ∀ {xs ys : List (Option Blk)}, heapLe xs ys → ∀ (b : Nat) (k : Blk), ys[b]? = some (some k) → ∃ t x y, xs[b]? = some (some (.cells t x)) ∧ k = .cells t y ∧ cellsLe x y
  | [], [], _, b, y, h => by simp at h
  | x :: xs, none :: ys, hl, 0, z, h => by simp at h
  | x :: xs, none :: ys, hl, t + 1, z, h => by
    obtain ⟨t', x', y', h1, h2⟩ := heapLe_get (xs := xs) (ys := ys) (by cases x with
      | none => exact hl
      | some x => cases x <;> exact hl) t z (by simpa using h)
    exact ⟨t', x', y', by simpa using h1, h2⟩
  | some (.cells t x) :: xs, some (.cells u y) :: ys, ⟨⟨a1, a2⟩, b⟩, 0, z, h => by simp at h; subst h; subst a1; exact ⟨t, x, y, rfl, rfl, a2⟩
  | some (.cells t x) :: xs, some (.cells u y) :: ys, ⟨a, b⟩, n + 1, z, h => by
    obtain ⟨t', x', y', h1, h2⟩ := heapLe_get b n z (by simpa using h)
    exact ⟨t', x', y', by simpa using h1, h2⟩
  | none :: _, some _ :: _, e, _, _, _ => by simp [heapLe] at e
  | some (.tok _ _) :: _, some _ :: _, e, _, _, _ => by simp [heapLe] at e
  | some (.cells _ _) :: _, some (.tok _ _) :: _, e, _, _, _ => by simp [heapLe] at e
  | [], _ :: _, e, _, _, _ => by simp [heapLe] at e
  | _ :: _, [], e, _, _, _ => by simp [heapLe] at e
end
theorem rep_le {t : St} (hr : Rep W0 S st ρ σ a w) (hl : st.le t) : Rep W0 S t ρ σ a w := by
  obtain ⟨h1, h2, h3⟩ := hl
  unfold St.ok at h3
  simp only [Bool.and_eq_true] at h3
  obtain ⟨o1, o2⟩ := h3
  have hlive : ∀ b, live t.heap b → live st.heap b := by
    rintro b ⟨u, k, hk⟩
    obtain ⟨t', x, y, hj, _⟩ := heapLe_get h2 b _ hk
    exact ⟨t', x, hj⟩
  have hntok : ∀ (id c : Nat) (al : Bool), ¬ t.heap[id]? = some (some (.tok c al)) := by
    intro id c al h
    obtain ⟨t', x, y, _, hj, _⟩ := heapLe_get h2 id _ h
    cases hj
  have hsub : Fewer (gg W0 S st ρ σ w) (gg W0 S t ρ σ w) := ⟨⟨fun b j h => ⟨h.lt, h.old, fun n hn => h.blk n (hlive n hn), fun id c hid => absurd hid (hntok id c true)⟩, fun _ _ _ => rfl⟩, rfl⟩
  refine ⟨by rw [hr.size, entsLe_len h1], fun i y hy => ?_, hr.defers, ⟨hr.mem.below, hr.mem.base, fun b u k hk => ?_, fun b b' g g' => hr.mem.inj b b' (hlive b g) (hlive b' g'), fun id c hid => absurd hid (hntok id c true), fun id id' c c' hid => absurd hid (hntok id c true)⟩⟩
  · obtain ⟨x, hx, hxy⟩ := entsLe_get h1 i y hy
    exact entLe_is hsub hxy (List.all_eq_true.1 o1 y (List.mem_of_getElem? hy)) (hr.slot i x hx)
  · obtain ⟨t', x, y, hj, e1, e2⟩ := heapLe_get h2 b _ hk
    cases e1
    obtain ⟨g1, vs, g2, g3⟩ := hr.mem.blk b u x hj
    refine ⟨g1, vs, g2, cellsLe_is hsub e2 ?_ g3⟩
    have := List.all_eq_true.1 o2 _ (List.mem_of_getElem? hk)
    exact this

/-! ## Loops -/
theorem loop_ok (hc : CxOk P cx) {c : Code} {K : Ex → St → Prop} {α : Type} (I : α → St) (μ : α → Nat) (x0 : α) (h0 : st.le (I x0))
    (round : ∀ x, ex Ar.std cx (Lp P W0 S) c (I x) (fun e st' => match e with
      | .normal => ∃ x', st'.le (I x') ∧ μ x' < μ x
      | .exit i => K (.exit i) st'
      | .ret => K .ret st')) : Lp P W0 S c st K := by
  intro ρ σ a w hr b k cs
  have key : ∀ n x ρ σ a w, μ x = n → Rep W0 S (I x) ρ σ a w →
      ∃ e a' w', Post W0 S K e a' w' ∧ Arrives P (lone (b.at a (.code c :: .inLoop c :: k)) cs w) b k cs e a' w' := by
    intro n
    induction n using Nat.strongRecOn with
    | _ n ih =>
      intro x ρ σ a w hn hI
      obtain ⟨e, a₁, w₁, hq, harr⟩ := ex_ok hc c (round x) hI b (.inLoop c :: k) cs
      cases e with
      | normal =>
        obtain ⟨st', ρ', σ', hr', x', hle, hlt⟩ := hq
        obtain ⟨e₂, a₂, w₂, hq₂, harr₂⟩ := ih (μ x') (hn ▸ hlt) x' ρ' σ' a₁ w₁ rfl (rep_le hr' hle)
        exact ⟨e₂, a₂, w₂, hq₂, .of_steps (Steps.trans harr (.one step_inLoop)) harr₂⟩
      | exit id => exact ⟨.exit id, a₁, w₁, hq, .pass (x := .inLoop c) rfl (fun _ _ => .inl (by simp)) harr⟩
      | goto l => exact ⟨.goto l, a₁, w₁, hq, .pass (x := .inLoop c) rfl (fun _ _ => .inl (by simp)) harr⟩
      | ret => exact ⟨.ret, a₁, w₁, hq, .pass (x := .inLoop c) rfl (fun _ _ => .inl (by simp)) harr⟩
      | panic ch => exact ⟨.panic ch, a₁, w₁, hq, .pass (x := .inLoop c) rfl (fun _ _ => .inl (by simp)) harr⟩
      | outgrown => exact ⟨.outgrown, a₁, w₁, hq, .pass (x := .inLoop c) rfl (fun _ _ => .inl (by simp)) harr⟩
  obtain ⟨e, a', w', hq, harr⟩ := key _ x0 ρ σ a w rfl (rep_le hr h0)
  exact ⟨e, a', w', hq, .of_steps (.one step_loop) harr⟩

/-! ## Functions -/
def resSem (tmps : Array Value) : ResultVar → Sem Value
  | .tmp t => pure (tmps.getD t undef)
  | .cell a t => do loadVar t (← asAddr (tmps.getD a undef))
theorem results_eq (fn : Func) (tmps : Array Value) : results fn tmps = (do
    let vs ← fn.results.mapM (resSem tmps)
    pure (if h : vs.size = 1 then vs[0] else .tuple vs)) := by
  unfold results
  congr 1
theorem resE_ok (hc : CxOk P cx) (hr : Rep W0 S st ρ σ a w) {r : ResultVar} {x : SA} (h : resE cx st r = some x) : ∃ v, (resSem a.tmps r).run P w = .ok v w ∧ x.is (gg W0 S st ρ σ w) v := by
  cases r with
  | tmp t =>
    simp only [resE] at h
    split at h
    · rename_i y hy
      cases h
      exact ⟨a.tmps.getD t undef, rfl, evalE_v hr (.tmp t) hy trivial⟩
    · cases h
  | cell b t =>
    simp only [resE] at h
    split at h
    · rename_i b' off hx
      obtain ⟨v, hrun, hv⟩ := loadS_ok hc hr h
      have e : a.tmps.getD b undef = .pointer (some ⟨ρ b', off, none⟩) := (evalE_v hr (.tmp b) hx trivial).2
      exact ⟨v, by rw [resSem, e]; simp [asAddr, hrun], hv⟩
    · cases h
theorem resL_ok (hc : CxOk P cx) (hr : Rep W0 S st ρ σ a w) : ∀ {l : List ResultVar} {xs : List SA}, resL cx st l = some xs → ∃ vs : List Value, (l.mapM (resSem a.tmps)).run P w = .ok vs w ∧ sasIs (gg W0 S st ρ σ w) xs vs
  | [], xs, h => by cases h; exact ⟨[], rfl, trivial⟩
  | r :: l, xs, h => by
    simp only [resL] at h
    split at h
    · rename_i y ys h1 h2
      cases h
      obtain ⟨v, e1, i1⟩ := resE_ok hc hr h1
      obtain ⟨vs, e2, i2⟩ := resL_ok hc hr h2
      refine ⟨v :: vs, ?_, i1, i2⟩
      rw [List.mapM_cons]
      simp only [Sem.run_bind]
      rw [e1]
      simp only [Result.andThen_ok, e2, Sem.run_pure]
    · cases h
def tupV : List Value → Value
  | [u] => u
  | vs => .tuple vs.toArray
theorem results_ok (hc : CxOk P cx) (hr : Rep W0 S st ρ σ a w) {fn : Func} {xs : List SA} (h : resL cx st fn.results.toList = some xs) : ∃ vs : List Value, (results fn a.tmps).run P w = .ok (tupV vs) w ∧ sasIs (gg W0 S st ρ σ w) xs vs := by
  obtain ⟨vs, e, hi⟩ := resL_ok hc hr h
  refine ⟨vs, ?_, hi⟩
  rw [results_eq, Sem.run_bind]
  have : (fn.results.mapM (resSem a.tmps)).run P w = .ok vs.toArray w := by
    rw [Array.mapM_eq_mapM_toList, Sem.run_map, e]
    rfl
  rw [this]
  simp only [Result.andThen_ok]
  match vs with
  | [] => rfl
  | [u] => rfl
  | u :: u' :: vs => simp [tupV]
theorem Fewer.refl (G : Gm) : Fewer G G := ⟨Sub.refl G, rfl⟩
theorem hands_is {r : SV} {xs : List SA} {vs : List Value} (hh : hands r xs) (hp : svOk G.h r = true) (hv : sasIs G xs vs) : r.is G (tupV vs) := by
  cases r with
  | sa y =>
    match xs, vs with
    | [x], [v] => exact saLe_is (Fewer.refl G) hh hp hv.1
    | [], _ => exact hh.elim
    | _ :: _ :: _, _ => exact hh.elim
    | [_], [] => exact hv.elim
    | [_], _ :: _ :: _ => exact hv.2.elim
  | tup ys =>
    match ys, hh, hp with
    | [], hh, hp =>
      have hi := sasLe_is (Fewer.refl G) hh hp hv
      match vs, hi with
      | [], _ => exact ⟨[], rfl, trivial⟩
    | [y], hh, _ => exact hh.elim
    | y :: y' :: ys, hh, hp =>
      have hi := sasLe_is (Fewer.refl G) hh hp hv
      match vs, hi with
      | [_], hi => exact hi.2.elim
      | u :: u' :: vs, hi => exact ⟨_, rfl, hi⟩
/-- A function of pure arguments: what is to be shown of its code. -/
theorem calls_ok (hc : CxOk P cx) {f : FuncId} {fn : Func} {code : Code} (hf : P.funcs[f]? = some fn) (hb : fn.body = some code) {args : List SA} {vs : List Value} {W : World} (hpure : args.all SA.pure = true) (hargs0 : sasIs (G1 S W W) args vs)
    (hn : args.length ≤ fn.ntmps) (R : List SA → Prop) (h : ex Ar.std cx (Lp P W S) code (start fn.ntmps args) (fin cx fn.results.toList R)) :
    Calls P f vs.toArray W fun e w' => ∃ (us : List Value) (xs : List SA) (G : Gm), e = .returned (tupV us) ∧ R (xs.map SA.plain) ∧ sasIs G xs us ∧ Sub G (G1 S W w') ∧ Below W.heap.size W w' := by
  have hnl : ∀ (b : Nat) (k : Blk), (start fn.ntmps args).heap[b]? ≠ some (some k) := by
    intro b k hk
    simp only [start, List.getElem?_replicate] at hk
    split at hk <;> cases hk
  have hsub : Sub (G1 S W W) (gg W S (start fn.ntmps args) (fun _ => 0) (fun _ => none) W) :=
    ⟨fun b j h => ⟨h.lt, h.old, fun n hn => by obtain ⟨t, cs, hn⟩ := hn; exact absurd hn (hnl n _), fun id c hid => absurd hid (hnl id _)⟩, fun _ _ _ => rfl⟩
  have hargs := pure_as hsub hpure hargs0
  have hlen := hargs.len
  refine calls_of_wp hf hb ?_
  have hrep : Rep W S (start fn.ntmps args) (fun _ => 0) (fun _ => none) { tmps := vs.toArray ++ Array.replicate (fn.ntmps - vs.toArray.size) undef, defers := [] } W := by
    refine ⟨by simp [start]; omega, fun t e he => ?_, rfl, ⟨Below.refl _ _, rfl, fun b t k hk => absurd hk (hnl b _), fun b b' g => ?_, fun id c hid => absurd hid (hnl id _), fun id id' c c' hid => absurd hid (hnl id _)⟩⟩
    · simp only [start] at he ⊢
      rw [List.getElem?_append] at he
      split at he
      · rename_i hlt
        rw [List.getElem?_map] at he
        obtain ⟨x, hx, rfl⟩ := Option.map_eq_some_iff.1 he
        obtain ⟨v, h1, h2⟩ := hargs.get t hx
        have hv : (vs.toArray ++ Array.replicate (fn.ntmps - vs.toArray.size) undef).getD t undef = v := by
          have hlt' : t < vs.length := by
            rcases Nat.lt_or_ge t vs.length with g | g
            · exact g
            · rw [List.getElem?_eq_none g] at h1; cases h1
          rw [List.getElem?_eq_getElem hlt'] at h1
          simpa [Array.getD_eq_getD_getElem?, Array.getElem?_append, hlt'] using h1
        rw [hv]
        exact h2
      · rw [List.getElem?_replicate] at he
        split at he
        · cases he
          exact trivial
        · cases he
    · obtain ⟨t, k, hk⟩ := g
      exact absurd hk (hnl b _)
  refine wp_mono (ex_ok hc code h hrep) ?_
  have done : ∀ {st : St} {ρ : Nat → Nat} {σ : Nat → Option (Nat × Nat)} {a : Act} {w : World}, Rep W S st ρ σ a w → (match resL cx st fn.results.toList with
      | some xs => R (xs.map SA.plain)
      | none => False) → a.defers = [] ∧ ∃ v, (results fn a.tmps).run P w = .ok v w ∧ ∃ (us : List Value) (xs : List SA) (G : Gm), Ending.returned v = .returned (tupV us) ∧ R (xs.map SA.plain) ∧ sasIs G xs us ∧ Sub G (G1 S W w) ∧ Below W.heap.size W w := by
    intro st ρ σ a w hr hR
    split at hR
    · rename_i xs hxs
      obtain ⟨us, e, hi⟩ := results_ok hc hr hxs
      exact ⟨hr.defers, _, e, us, xs, _, rfl, hR, hi, ⟨fun b j h => ⟨h.lt, h.old, fun n hn => by obtain ⟨_, _, hn⟩ := hn; simp [G1] at hn, fun id c hid => by simp [tokOn, G1] at hid⟩, fun _ _ _ => rfl⟩, hr.mem.below⟩
    · exact hR.elim
  intro e a' w' hp
  cases e with
  | normal => obtain ⟨st, ρ', σ', hr, hk⟩ := hp; exact done hr hk
  | ret => obtain ⟨st, ρ', σ', hr, hk⟩ := hp; exact done hr hk
  | exit i => obtain ⟨st, ρ', σ', hr, hk⟩ := hp; exact hk.elim
  | goto l => exact hp.elim
  | panic c => exact hp.elim
  | outgrown => exact hp.elim
theorem pure_ok : ∀ {h : List (Option Blk)} {x : SV}, x.pure = true → svOk h x = true := by
  have c : ∀ {h : List (Option Blk)} {x : SC}, x.pure = true → ptrOk h x = true := by
    intro h x hp
    cases x with
    | sl tk c => cases tk <;> first | rfl | cases hp
    | ptr => cases hp
    | rpi => cases hp
    | rpe => cases hp
    | _ => rfl
  have a : ∀ {h : List (Option Blk)} {x : SA}, x.pure = true → saOk h x = true := by
    intro h x hp
    cases x with
    | one _ => exact c hp
    | agg cs => exact List.all_eq_true.2 fun y hy => c (List.all_eq_true.1 hp y hy)
  intro h x hp
  cases x with
  | sa y => exact a hp
  | tup xs => exact List.all_eq_true.2 fun y hy => a (List.all_eq_true.1 hp y hy)
/-- A contract of a function whose arguments and results are pure. -/
theorem con_ok (hc : CxOk P cx) {f : FuncId} {fn : Func} {code : Code} (hf : P.funcs[f]? = some fn) (hb : fn.body = some code) (hnm : (fn.name == "runtime.NumGoroutine") = false) {con : Con}
    (h : ∀ xs C r, con xs = some (C, r) → xs.all SA.pure = true → (r.pure = true ∧ xs.length ≤ fn.ntmps) ∧ (C → ∀ W S, ex Ar.std cx (Lp P W S) code (start fn.ntmps xs) (fin cx fn.results.toList (hands r)))) (hpu : ∀ xs C r, con xs = some (C, r) → xs.all SA.pure = true) : ConOk P f con := by
  refine ⟨⟨fn, hf, by rw [hb]; rfl, hnm⟩, fun xs C r hcon hC S vs w hvs => ?_⟩
  obtain ⟨⟨p2, p3⟩, hex⟩ := h xs C r hcon (hpu _ _ _ hcon)
  refine (calls_ok hc hf hb (hpu _ _ _ hcon) hvs p3 (hands r) (hex hC w S)).mono ?_
  rintro e w' ⟨us, ys, G, rfl, hh, hi, hsub, hb⟩
  exact ⟨_, rfl, pure_v hsub p2 (hands_is hh (pure_ok p2) (plain_as hi)), hb⟩
/-- A law of pure arguments. -/
theorem yes_ok (hc : CxOk P cx) {f : FuncId} {fn : Func} {code : Code} (hf : P.funcs[f]? = some fn) (hb : fn.body = some code) {args : List SA} {vs : List Value} {W : World} (hpure : args.all SA.pure = true) (hargs : sasIs (G1 (fun _ _ => True) W W) args vs)
    (hn : args.length ≤ fn.ntmps) (h : ex Ar.std cx (Lp P W (fun _ _ => True)) code (start fn.ntmps args) (fin cx fn.results.toList (hands (.sa (.one (.val (.bool true))))))) :
    Calls P f vs.toArray W (Law.Yes W) := by
  refine (calls_ok hc hf hb hpure hargs hn _ h).mono ?_
  rintro e w' ⟨us, ys, G, rfl, hh, hi, _, hb⟩
  have : (SV.sa (.one (.val (.bool true)))).is G (tupV us) := hands_is hh rfl (plain_as hi)
  exact ⟨by rw [this], hb⟩
end
end Go.Proofs.Ytcbfccadodikgaa.Rx
