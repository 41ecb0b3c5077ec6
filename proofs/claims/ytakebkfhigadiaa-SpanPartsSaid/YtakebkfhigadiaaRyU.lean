/-
  The reckoner over the seat's program: short words. No condition.
-/
import Derived.Test.YtakebkfhigadiaaRyJ
import Derived.Test.YtakebkfhigadiaaYt
import Derived.IntWalk
namespace Go.Proofs.Ytakebkfhigadiaa.Ry
open Go

theorem look_of {l : List (Nat × TI)} (h : l.map (fun p => tiOf Try.prog p.1) = l.map (fun p => some p.2)) : ∀ t ti, look l t = some ti → tiOf Try.prog t = some ti := by
  induction l with
  | nil => intro t ti h; cases h
  | cons p l ih =>
    intro t ti hl
    simp only [List.map_cons, List.cons.injEq] at h
    obtain ⟨k, a⟩ := p
    simp only [look] at hl
    split at hl
    · rename_i hk
      cases hl
      rw [← eqn_eq hk]
      exact h.1
    · exact ih h.2 t ti hl
theorem bs_of {l : List (Nat × Nat)} (h : l.map (fun p => (Try.prog.info? p.1).map (·.bytes)) = l.map (fun p => some p.2)) : ∀ t b, look l t = some b → ∃ i, Try.prog.info? t = some i ∧ i.bytes = b := by
  induction l with
  | nil => intro t b h; cases h
  | cons p l ih =>
    intro t b hl
    simp only [List.map_cons, List.cons.injEq] at h
    obtain ⟨k, q⟩ := p
    simp only [look] at hl
    split at hl
    · rename_i hk
      cases hl
      rw [← eqn_eq hk]
      exact Option.map_eq_some_iff.1 h.1
    · exact ih h.2 t b hl
structure FsOk (l : List (Nat × Con)) : Prop where
  con : ∀ f con, lee f 999999 = true → look l f = some con → ConOk Try.prog f con
  keep : ∀ f con, lee f 999999 = true → (∃ q, look l (keepKey f) = some q) → look l f = some con → Keeps con
def noCon : Con := fun _ _ => none
theorem FsOk.nil : FsOk [] := by
  refine ⟨fun _ _ _ h => (by cases h), fun _ _ _ h _ => ?_⟩
  obtain ⟨_, h⟩ := h
  cases h
theorem few : Try.prog.funcs.size ≤ 999999 := of_decide_eq_true (by kernel_rfl)
theorem FsOk.cons {f : Nat} {con : Con} {l : List (Nat × Con)} (h : ConOk Try.prog f con) (hl : FsOk l) (hn : look l (keepKey f) = none) : FsOk ((f, con) :: l) := by
  have hf : f < 999999 := by
    obtain ⟨fn, h1, _⟩ := h.1
    have := few
    rcases Nat.lt_or_ge f Try.prog.funcs.size with k | k
    · omega
    · rw [Array.getElem?_eq_none k] at h1
      cases h1
  refine ⟨fun g c h6 hg => ?_, fun g c h6 hq hg => ?_⟩
  · simp only [look] at hg
    split at hg
    · rename_i hk
      cases hg
      rw [← eqn_eq hk]
      exact h
    · exact hl.con g c h6 hg
  · have hq' : ∃ q, look l (keepKey g) = some q := by
      obtain ⟨q, hq⟩ := hq
      simp only [look] at hq
      split at hq
      · rename_i hk
        have := eqn_eq hk
        unfold keepKey at this
        omega
      · exact ⟨q, hq⟩
    simp only [look] at hg
    split at hg
    · rename_i hk
      rw [← eqn_eq hk, hn] at hq'
      obtain ⟨_, hq'⟩ := hq'
      cases hq'
    · exact hl.keep g c h6 hq' hg
/-- A function that leaves its arguments' blocks as they were. -/
theorem FsOk.keeps {f : Nat} {con : Con} {l : List (Nat × Con)} (h : ConOk Try.prog f con) (hk : Keeps con) (hl : FsOk l) : FsOk ((f, con) :: (keepKey f, noCon) :: l) := by
  have hf : f < 999999 := by
    obtain ⟨fn, h1, _⟩ := h.1
    have := few
    rcases Nat.lt_or_ge f Try.prog.funcs.size with k | k
    · omega
    · rw [Array.getElem?_eq_none k] at h1
      cases h1
  refine ⟨fun g c h6 hg => ?_, fun g c h6 hq hg => ?_⟩
  · simp only [look] at hg
    split at hg
    · rename_i hk
      cases hg
      rw [← eqn_eq hk]
      exact h
    · split at hg
      · rename_i hk
        have := eqn_eq hk
        have := lee_le h6
        unfold keepKey at *
        omega
      · exact hl.con g c h6 hg
  · simp only [look] at hg
    split at hg
    · cases hg
      exact hk
    · rename_i hk1
      split at hg
      · rename_i hk
        have := eqn_eq hk
        have := lee_le h6
        unfold keepKey at *
        omega
      · refine hl.keep g c h6 ?_ hg
        obtain ⟨q', hq⟩ := hq
        simp only [look] at hq
        split at hq
        · rename_i hk
          have := eqn_eq hk
          unfold keepKey at this
          omega
        · split at hq
          · rename_i hk
            have e := eqn_eq hk
            unfold keepKey at e
            have : f = g := by omega
            rw [this, eqn_refl] at hk1
            cases hk1
          · exact ⟨q', hq⟩
/-- An empty slice that is to grow into a row of one's own. -/
theorem FsOk.own {u : Nat} {l : List (Nat × Con)} (hl : FsOk l) : FsOk ((ownKey u, noCon) :: l) := by
  refine ⟨fun g c h6 hg => ?_, fun g c h6 hq hg => ?_⟩
  · have := lee_le h6
    simp only [look] at hg
    split at hg
    · rename_i hk
      have := eqn_eq hk
      unfold ownKey at this
      omega
    · exact hl.con g c h6 hg
  · have := lee_le h6
    obtain ⟨q', hq⟩ := hq
    simp only [look] at hg hq
    split at hg
    · rename_i hk
      have := eqn_eq hk
      unfold ownKey at this
      omega
    · split at hq
      · rename_i hk
        have := eqn_eq hk
        unfold ownKey keepKey at this
        omega
      · exact hl.keep g c h6 ⟨q', hq⟩ hg
theorem zr_of {l : List (Nat × Ct)} (h : zrAll l) : ∀ t ct, look l t = some ct → zr1 tt t ct := by
  induction l with
  | nil => intro t b h; cases h
  | cons p l ih =>
    intro t ct hl
    obtain ⟨k, q⟩ := p
    simp only [look] at hl
    split at hl
    · rename_i hk
      cases hl
      rw [← eqn_eq hk]
      exact h.1
    · exact ih h.2 t ct hl
theorem sz_of {l : List (Nat × TI)} (h : l.all (fun p => eqn p.2.zero.length p.2.size) = true) : ∀ t ti, look l t = some ti → ti.zero.length = ti.size := by
  induction l with
  | nil => intro t b h; cases h
  | cons p l ih =>
    intro t ti hl
    obtain ⟨k, q⟩ := p
    simp only [List.all_cons, Bool.and_eq_true] at h
    simp only [look] at hl
    split at hl
    · cases hl
      exact eqn_eq h.1
    · exact ih h.2 t ti hl
abbrev cxOf (l : List (Nat × Con)) : Cx := ⟨tt, l, hs, bs⟩
theorem cx_ok {l : List (Nat × Con)} (h : FsOk l) : CxOk Try.prog (cxOf l) := ⟨look_of tt_ok, h.con, h.keep, by rfl, bs_of bs_ok, sz_of sz_ok, zr_of zr_ok⟩
def bodyOf (f : Func) : Code := f.body.getD .skip
/-- What is to be shown of a function's code. -/
def Does (l : List (Nat × Con)) (fn : Func) (args : List SA) (h : H) (p : Post) : Prop := ∀ b gv, ex Ar.std (cxOf l) (Lp Try.prog b gv) (bodyOf fn) (start fn.ntmps args h) (fin Ar.std (cxOf l) fn.results.toList p)
abbrev I (n : Int) : SA := .one (.val (.int .i64 n))
abbrev U8 (n : Int) : SA := .one (.val (.int .u8 n))
abbrev U32 (n : Int) : SA := .one (.val (.int .u32 n))
abbrev U64 (n : Int) : SA := .one (.val (.int .u64 n))
abbrev B (b : Bool) : SA := .one (.val (.bool b))
abbrev Bytes (l : List Int) : SA := .one (.sl none (.ints .u8 l))
abbrev Any : SA := .one .any
/-- No slice that comes in is longer than a slice may be. -/
def sized : List SA → Prop
  | [] => True
  | .one (.sl _ (.ints _ l)) :: r => l.length ≤ 9223372036854775807 ∧ sized r
  | .one (.sl _ (.recs _ l)) :: r => l.length ≤ 9223372036854775807 ∧ sized r
  | _ :: r => sized r
theorem sized_of {G : Gm} : ∀ {xs : List SA} {vs : List Value}, sasIs G xs vs → sized xs
  | [], _, _ => trivial
  | x :: xs, [], h => h.elim
  | x :: xs, v :: vs, ⟨h1, h2⟩ => by
    have ih := sized_of h2
    unfold sized
    split
    · trivial
    · rename_i heq
      cases heq
      obtain ⟨⟨A, c, _, hl, hm, _⟩, _⟩ := h1
      exact ⟨Nat.le_trans hl (by unfold maxLen at hm; omega), ih⟩
    · rename_i heq
      cases heq
      obtain ⟨⟨A, c, _, hl, hm, _⟩, _⟩ := h1
      exact ⟨Nat.le_trans hl (by unfold maxLen at hm; omega), ih⟩
    · rename_i heq
      cases heq
      exact ih
theorem con_of {l : List (Nat × Con)} (hl : FsOk l) {f : FuncId} {fn : Func} (hf : Try.prog.funcs[f]? = some fn) (hb : fn.body = some (bodyOf fn)) (hnm : (fn.name == "runtime.NumGoroutine") = false) {con : Con}
    (h : ∀ xs h p, con xs h = some p → xs.length ≤ fn.ntmps ∧ (p.C → sized xs → Does l fn xs h p)) : ConOk Try.prog f con :=
  con_ok (cx_ok hl) hf hb hnm fun xs h0 p hc => ⟨(h xs h0 p hc).1, fun hC _ _ hv b gv => (h xs h0 p hc).2 hC (sized_of hv) b gv⟩
def says (b : Bool) (args : List SA) : Post := ⟨True, .sa (.one (.val (.bool b))), [], args.map fun _ => .one .any⟩
theorem yes_of {l : List (Nat × Con)} (hl : FsOk l) {f : FuncId} {fn : Func} (hf : Try.prog.funcs[f]? = some fn) (hb : fn.body = some (bodyOf fn)) {args : List SA} {vs : List Value} {W : World} (hargs : sasIs (G0 W) args vs)
    (hn : args.length ≤ fn.ntmps) (h : sized args → Does l fn args [] (says true args)) : Calls Try.prog f vs.toArray W (Law.Yes W) :=
  yes_ok (cx_ok hl) hf hb hargs hn (h (sized_of hargs))
/-! ## Ways -/
theorem orf {b : Bool} {X : Prop} (h : b = true → X) : b = false ∨ X := by
  cases b
  · exact .inl rfl
  · exact .inr (h rfl)
theorem ort {b : Bool} {X : Prop} (h : b = false → X) : b = true ∨ X := by
  cases b
  · exact .inr (h rfl)
  · exact .inl rfl
/-! ## Loops -/
/-- A state of n slots: these, and these blocks; of the others nothing is known. -/
def stOf (n : Nat) (ss : List (Nat × SC)) (h : H) (gs : List SA) : St :=
  ⟨ss.foldl (fun l p => l.set p.1 ⟨none, .sa (.one p.2)⟩) (List.replicate n Ent.nil), h, gs⟩
/-! What a state tells: a slot's number, truth, slice; a block's cell. -/
def valI : SC → Int
  | .val (.int _ n) => n
  | .num _ n => n
  | _ => 0
def valB : SC → Bool
  | .val (.bool b) => b
  | .tf b => b
  | _ => false
def ctL : Ct → List Int
  | .ints _ l => l
  | _ => []
def ctR : Ct → List E
  | .recs _ l => l
  | _ => []
/-- The contents of a slice, or of a string. -/
def valL (h : H) : SC → List Int
  | .sl _ c => ctL c
  | .str l => l
  | .own n => match hget h n with
    | some (.row _ c) => ctL c
    | some (.frz c) => ctL c
    | _ => []
  | _ => []
def valR (h : H) : SC → List E
  | .sl _ c => ctR c
  | .own n => match hget h n with
    | some (.row _ c) => ctR c
    | some (.frz c) => ctR c
    | _ => []
  | _ => []
def valM (h : H) : SC → List (Int × Int)
  | .mp n => match hget h n with
    | some (.mp l) => l
    | _ => []
  | _ => []
def slotC (st : St) (t : Nat) : SC :=
  match st.slots.getD t Ent.nil with
  | ⟨none, .sa (.one c)⟩ => c
  | _ => .any
/-- The j-th cell of the block that a slot points to. -/
def cellC (st : St) (t j : Nat) : SC :=
  match slotC st t with
  | .ptr n off => match hget st.heap n with
    | some (.cells _ cs) => cs.getD (off + j) .any
    | _ => .any
  | _ => .any
def slotI (st : St) (t : Nat) : Int := valI (slotC st t)
def slotB (st : St) (t : Nat) : Bool := valB (slotC st t)
def slotL (st : St) (t : Nat) : List Int := valL st.heap (slotC st t)
def slotR (st : St) (t : Nat) : List E := valR st.heap (slotC st t)
def slotM (st : St) (t : Nat) : List (Int × Int) := valM st.heap (slotC st t)
theorem Lp.mono {P : Program} {b : Bs} {gv : List Value} {c : Code} {st : St} {K K' : Ex → St → Prop} (hK : ∀ e s, K e s → K' e s) (h : Lp P b gv c st K) : Lp P b gv c st K' := by
  intro ν a w hr b k cs
  obtain ⟨e, a', w', h1, h2⟩ := h ν a w hr b k cs
  refine ⟨e, a', w', ?_, h2⟩
  cases e <;> first | exact h1.elim | (obtain ⟨s, ν, h1, h3⟩ := h1; exact ⟨s, ν, h1, hK _ _ h3⟩)
theorem runW_mono {A : Ar} {cx : Cx} {r : Nat} {ops : List Oper} : ∀ (l : List Oper) {i : Nat} {st : St} {K K' : List It → St → Prop}, (∀ T s, K T s → K' T s) → runW A cx r ops i l st K → runW A cx r ops i l st K'
  | [], i, st, K, K', hK, h => hK _ _ h
  | o :: l, i, st, K, K', hK, h => by
    simp only [runW] at h ⊢
    cases hw : wantG A ops st o.guard with
    | bad => simp [hw] at h
    | yes =>
      simp only [hw] at h ⊢
      cases he : eff A cx st (uid r i) o.op with
      | none => simp [he] at h
      | some E =>
        simp only [he] at h ⊢
        exact runW_mono l (fun T s => hK _ s) h
    | no =>
      simp only [hw] at h ⊢
      exact runW_mono l (fun T s => hK _ s) h
    | sym b =>
      simp only [hw] at h ⊢
      cases he : eff A cx st (uid r i) o.op with
      | none =>
        simp only [he] at h ⊢
        exact runW_mono l (fun T s => hK _ s) h
      | some E =>
        obtain ⟨C, e, bl⟩ := E
        cases bl with
        | nil =>
          simp only [he] at h ⊢
          exact runW_mono l (fun T s => hK _ s) h
        | cons p q =>
          simp only [he] at h ⊢
          exact ⟨h.1.imp id (runW_mono l fun T s => hK _ s), h.2.imp id (runW_mono l fun T s => hK _ s)⟩
theorem ex_mono {A : Ar} {cx : Cx} {L : Code → St → (Ex → St → Prop) → Prop} (hL : ∀ c st K K', (∀ e s, K e s → K' e s) → L c st K → L c st K') : ∀ (c : Code) {st : St} {K K' : Ex → St → Prop}, (∀ e s, K e s → K' e s) → ex A cx L c st K → ex A cx L c st K'
  | .skip, st, K, K', hK, h => hK _ _ h
  | .region id ops draw, st, K, K', hK, h => by
    simp only [ex] at h ⊢
    refine runW_mono _ (fun T s q => ?_) h
    split at q
    · exact q.elim
    · exact ⟨q.1, hK _ _ q.2⟩
  | .seq x y, st, K, K', hK, h => by
    simp only [ex] at h ⊢
    refine ex_mono hL x (fun e s q => ?_) h
    cases e with
    | normal => exact ex_mono hL y hK q
    | exit i => exact hK _ _ q
    | ret => exact hK _ _ q
  | .cond c x y, st, K, K', hK, h => by
    simp only [ex] at h ⊢
    split at h
    · rename_i t ht
      split at h
      · exact ex_mono hL x hK h
      · exact ex_mono hL y hK h
    · rename_i t ht
      exact ⟨h.1.imp id (ex_mono hL x hK), h.2.imp id (ex_mono hL y hK)⟩
    · exact h.elim
  | .block id c, st, K, K', hK, h => by
    simp only [ex] at h ⊢
    refine ex_mono hL c (fun e s q => ?_) h
    cases e with
    | normal => exact hK _ _ q
    | exit i =>
      dsimp only at q ⊢
      split at q
      · exact hK _ _ q
      · exact hK _ _ q
    | ret => exact hK _ _ q
  | .exit id, st, K, K', hK, h => hK _ _ h
  | .ret, st, K, K', hK, h => hK _ _ h
  | .loop c, st, K, K', hK, h => hL c st K K' hK h
  | .rangeFunc .., st, K, K', hK, h => by simp [ex] at h
  | .scope _, st, K, K', hK, h => by simp [ex] at h
  | .label _, st, K, K', hK, h => by simp [ex] at h
  | .goto _, st, K, K', hK, h => by simp [ex] at h
  | .refuse _, st, K, K', hK, h => by simp [ex] at h
/-- What a loop asks of where it is. -/
structure Ob (α : Type) where
  q : α → Prop
  m : α → Prop
/-- A loop, where a state tells of itself where the loop is. -/
theorem loop_rd {P : Program} {cx : Cx} (hc : CxOk P cx) {b : Bs} {gv : List Value} {c : Code} {st : St} {K : Ex → St → Prop} {α : Type} (Q : α → Prop) (I : α → St) (μ : α → Nat) (rd : St → α) (x0 : α) (hQ : Q x0) (h0 : st.le (I x0))
    (round : ∀ x, Q x → ∀ O : Ob α, (⟨Q, fun y => μ y < μ x⟩ : Ob α) = O → ex Ar.std cx (Lp P b gv) c (I x) (fun e st' => match e with
      | .normal => O.q (rd st') ∧ O.m (rd st') ∧ st'.le (I (rd st'))
      | .exit i => K (.exit i) st'
      | .ret => K .ret st')) : Lp P b gv c st K := by
  refine loop_ok hc (α := { x : α // Q x }) (fun x => I x.1) (fun x => μ x.1) ⟨x0, hQ⟩ h0 fun x => ?_
  refine ex_mono (L := Lp P b gv) (fun _ _ _ _ => Lp.mono) c (fun e s' h => ?_) (round x.1 x.2 _ rfl)
  cases e with
  | normal => exact ⟨⟨_, h.1⟩, h.2.2, h.2.1⟩
  | exit i => exact h
  | ret => exact h
/-! ## A function's code in parts -/
/-- What is left behind a first part: one's own name for it keeps the reckoner from going on. -/
theorem ex_cut {A : Ar} {cx : Cx} {L : Code → St → (Ex → St → Prop) → Prop} {x y : Code} {s : St} {K : Ex → St → Prop}
    (h : ∀ K' : Ex → St → Prop, (∀ s', ex A cx L y s' K → K' .normal s') → (∀ i s', K (.exit i) s' → K' (.exit i) s') → (∀ s', K .ret s' → K' .ret s') → ex A cx L x s K') : ex A cx L (.seq x y) s K :=
  h (fun e s' => match e with
    | .normal => ex A cx L y s' K
    | e => K e s') (fun _ h => h) (fun _ _ h => h) (fun _ h => h)
theorem ex_blk {A : Ar} {cx : Cx} {L : Code → St → (Ex → St → Prop) → Prop} {id : Nat} {c : Code} {s : St} {K : Ex → St → Prop}
    (h : ∀ K' : Ex → St → Prop, (∀ s', K .normal s' → K' .normal s') → (∀ i s', (match eqn i id with
      | true => K .normal s'
      | false => K (.exit i) s') → K' (.exit i) s') → (∀ s', K .ret s' → K' .ret s') → ex A cx L c s K') : ex A cx L (.block id c) s K :=
  h (fun e s' => match e with
    | .exit i => match eqn i id with
      | true => K .normal s'
      | false => K (.exit i) s'
    | e => K e s') (fun _ h => h) (fun _ _ h => h) (fun _ h => h)
theorem b_add (k : IntKind) (a b : Int) : stdBin .add k a b = k.wrap (a + b) := rfl
theorem b_sub (k : IntKind) (a b : Int) : stdBin .sub k a b = k.wrap (a - b) := rfl
theorem b_mul (k : IntKind) (a b : Int) : stdBin .mul k a b = k.wrap (a * b) := rfl
theorem b_quo (k : IntKind) (a b : Int) : stdBin .quo k a b = k.wrap (a.tdiv b) := rfl
theorem b_rem (k : IntKind) (a b : Int) : stdBin .rem k a b = a.tmod b := rfl
/-- A number that fits. -/
theorem wr (a : Int) (h1 : -9223372036854775808 ≤ a) (h2 : a ≤ 9223372036854775807) : IntKind.i64.wrap a = a := IntWalk.i64_in a (by omega)
end Go.Proofs.Ytakebkfhigadiaa.Ry
