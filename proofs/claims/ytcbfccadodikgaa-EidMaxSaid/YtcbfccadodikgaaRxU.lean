/-
  The reckoner over the seat's program: short words. No condition.
-/
import Derived.Test.YtcbfccadodikgaaRxOk
import Derived.Test.YtcbfccadodikgaaRt
import Derived.IntWalk
namespace Go.Proofs.Ytcbfccadodikgaa.Rx
open Go

theorem look_of {l : List (Nat × TI)} (h : l.map (fun p => tiOf Try.prog p.1) = l.map (fun p => some p.2)) : ∀ t ti, look l t = some ti → tiOf Try.prog t = some ti := by
  induction l with
  | nil => intro t ti h; cases h
  | cons p l ih =>
    intro t ti hl
    simp only [List.map_cons, List.cons.injEq] at h
    obtain ⟨k, a⟩ := p
    simp only [look] at hl
    split at hl
    · rename_i hk
      cases hl
      rw [← Nat.eq_of_beq_eq_true hk]
      exact h.1
    · exact ih h.2 t ti hl
def FsOk (l : List (Nat × Con)) : Prop := ∀ f con, look l f = some con → ConOk Try.prog f con
theorem FsOk.nil : FsOk [] := fun _ _ h => by cases h
theorem FsOk.cons {f : Nat} {con : Con} {l : List (Nat × Con)} (h : ConOk Try.prog f con) (hl : FsOk l) : FsOk ((f, con) :: l) := by
  intro g c hg
  simp only [look] at hg
  split at hg
  · rename_i hk
    cases hg
    rw [← Nat.eq_of_beq_eq_true hk]
    exact h
  · exact hl g c hg
theorem cx_ok {l : List (Nat × Con)} (h : FsOk l) : CxOk Try.prog ⟨tt, l, hs⟩ := ⟨look_of tt_ok, h, by rfl⟩
def bodyOf (f : Func) : Code := f.body.getD .skip
/-- What is to be shown of a function's code. -/
def Does (l : List (Nat × Con)) (fn : Func) (args : List SA) (R : List SA → Prop) : Prop := ∀ W S, ex Ar.std ⟨tt, l, hs⟩ (Lp Try.prog W S) (bodyOf fn) (start fn.ntmps args) (fin ⟨tt, l, hs⟩ fn.results.toList R)
abbrev I (n : Int) : SC := .val (.int .i64 n)
abbrev B (b : Bool) : SC := .val (.bool b)
theorem con_of {l : List (Nat × Con)} (hl : FsOk l) {f : FuncId} {fn : Func} (hf : Try.prog.funcs[f]? = some fn) (hb : fn.body = some (bodyOf fn)) (hnm : (fn.name == "runtime.NumGoroutine") = false) {con : Con}
    (h : ∀ xs C r, con xs = some (C, r) → (xs.all SA.pure = true ∧ r.pure = true ∧ xs.length ≤ fn.ntmps) ∧ (C → Does l fn xs (hands r))) : ConOk Try.prog f con :=
  con_ok (cx_ok hl) hf hb hnm (fun xs C r hc _ => ⟨(h xs C r hc).1.2, fun hC W S => (h xs C r hc).2 hC W S⟩) (fun xs C r hc => (h xs C r hc).1.1)
/-- No slice that comes in is longer than a slice may be. -/
def sized : List SA → Prop
  | [] => True
  | .one (.sl _ (.ints _ l)) :: r => l.length ≤ 9223372036854775807 ∧ sized r
  | .one (.sl _ (.recs _ l)) :: r => l.length ≤ 9223372036854775807 ∧ sized r
  | _ :: r => sized r
theorem sized_of {G : Gm} : ∀ {xs : List SA} {vs : List Value}, sasIs G xs vs → sized xs
  | [], _, _ => trivial
  | x :: xs, [], h => h.elim
  | x :: xs, v :: vs, ⟨h1, h2⟩ => by
    have ih := sized_of h2
    unfold sized
    split
    · trivial
    · rename_i heq
      cases heq
      obtain ⟨⟨A, c, _, hl, hm, _⟩, _⟩ := h1
      exact ⟨Nat.le_trans hl (by unfold maxLen at hm; omega), ih⟩
    · rename_i heq
      cases heq
      obtain ⟨⟨A, c, _, hl, hm, _⟩, _⟩ := h1
      exact ⟨Nat.le_trans hl (by unfold maxLen at hm; omega), ih⟩
    · rename_i heq
      cases heq
      exact ih
theorem con_sized {l : List (Nat × Con)} (hl : FsOk l) {f : FuncId} {fn : Func} (hf : Try.prog.funcs[f]? = some fn) (hb : fn.body = some (bodyOf fn)) (hnm : (fn.name == "runtime.NumGoroutine") = false) {con : Con}
    (h : ∀ xs C r, con xs = some (C, r) → (xs.all SA.pure = true ∧ r.pure = true ∧ xs.length ≤ fn.ntmps) ∧ (C → sized xs → Does l fn xs (hands r))) : ConOk Try.prog f con := by
  have key : ConOk Try.prog f (fun xs => (con xs).map fun p => (p.1 ∧ sized xs, p.2)) := by
    refine con_of hl hf hb hnm fun xs C r hc => ?_
    obtain ⟨⟨C', r'⟩, h1, h2⟩ := Option.map_eq_some_iff.1 hc
    cases h2
    exact ⟨(h xs C' r' h1).1, fun hC => (h xs C' r' h1).2 hC.1 hC.2⟩
  refine ⟨key.1, fun xs C r hc hC S vs w hv => ?_⟩
  exact key.2 xs (C ∧ sized xs) r (by simp [hc]) ⟨hC, sized_of hv⟩ S vs w hv
theorem yes_of {l : List (Nat × Con)} (hl : FsOk l) {f : FuncId} {fn : Func} (hf : Try.prog.funcs[f]? = some fn) (hb : fn.body = some (bodyOf fn)) {args : List SA} {vs : List Value} {W : World} (hpure : args.all SA.pure = true) (hargs : sasIs (G1 (fun _ _ => True) W W) args vs)
    (hn : args.length ≤ fn.ntmps) (h : Does l fn args (hands (.sa (.one (B true))))) : Calls Try.prog f vs.toArray W (Law.Yes W) :=
  yes_ok (cx_ok hl) hf hb hpure hargs hn (h W _)
/-! ## Ways -/
theorem orf {b : Bool} {X : Prop} (h : b = true → X) : b = false ∨ X := by
  cases b
  · exact .inl rfl
  · exact .inr (h rfl)
theorem ort {b : Bool} {X : Prop} (h : b = false → X) : b = true ∨ X := by
  cases b
  · exact .inr (h rfl)
  · exact .inl rfl
/-! ## Loops -/
/-- A state of n slots: these, and these blocks; of the others nothing is known. -/
def stOf (n : Nat) (ss : List (Nat × SV)) (bs : List (Nat × TypeId × List SC)) : St :=
  ⟨ss.foldl (fun l p => l.set p.1 ⟨none, p.2⟩) (List.replicate n Ent.nil), bs.foldl (fun l p => l.set p.1 (some (.cells p.2.1 p.2.2))) (List.replicate n none)⟩
theorem loop_of {P : Program} {cx : Cx} (hc : CxOk P cx) {W0 : World} {S : Nat → Nat → Prop} {c : Code} {st : St} {K : Ex → St → Prop} {α : Type} (Q : α → Prop) (I : α → St) (μ : α → Nat) (x0 : α) (hQ : Q x0) (h0 : st.le (I x0))
    (round : ∀ x, Q x → ∀ N : St → Prop, (∀ st' x', Q x' → st'.le (I x') → μ x' < μ x → N st') → ex Ar.std cx (Lp P W0 S) c (I x) (fun e st' => match e with
      | .normal => N st'
      | .exit i => K (.exit i) st'
      | .ret => K .ret st')) : Lp P W0 S c st K := by
  refine loop_ok hc (α := { x : α // Q x }) (fun x => I x.1) (fun x => μ x.1) ⟨x0, hQ⟩ h0 fun x => ?_
  exact round x.1 x.2 _ fun st' x' h1 h2 h3 => ⟨⟨x', h1⟩, h2, h3⟩
/-! What a state tells: a slot's number, truth, slice; a block's cell. -/
def valI : SC → Int
  | .val (.int _ n) => n
  | _ => 0
def valB : SC → Bool
  | .val (.bool b) => b
  | _ => false
def valL : SC → List Int
  | .sl _ (.ints _ l) => l
  | .str l => l
  | _ => []
def valR : SC → List E
  | .sl _ (.recs _ l) => l
  | _ => []
def slotC (st : St) (t : Nat) : SC :=
  match st.slots.getD t Ent.nil with
  | ⟨none, .sa (.one c)⟩ => c
  | _ => .any
def blkC (st : St) (b j : Nat) : SC :=
  match st.heap.getD b none with
  | some (.cells _ cs) => cs.getD j .any
  | _ => .any
theorem Lp.mono {P : Program} {W0 : World} {S : Nat → Nat → Prop} {c : Code} {st : St} {K K' : Ex → St → Prop} (hK : ∀ e s, K e s → K' e s) (h : Lp P W0 S c st K) : Lp P W0 S c st K' := by
  intro ρ σ a w hr
  refine wp_mono (h ρ σ a w hr) fun e a w q => ?_
  cases e <;> first | exact q.elim | (obtain ⟨s, ρ, σ, h1, h2⟩ := q; exact ⟨s, ρ, σ, h1, hK _ _ h2⟩)
theorem ex_mono {A : Ar} {cx : Cx} {L : Code → St → (Ex → St → Prop) → Prop} (hL : ∀ c st K K', (∀ e s, K e s → K' e s) → L c st K → L c st K') : ∀ (c : Code) {st : St} {K K' : Ex → St → Prop}, (∀ e s, K e s → K' e s) → ex A cx L c st K → ex A cx L c st K'
  | .skip, st, K, K', hK, h => hK _ _ h
  | .region id ops draw, st, K, K', hK, h => by
    simp only [ex] at h ⊢
    split at h
    · split at h
      · exact h.elim
      · rename_i hd
        first | rw [hd] | skip
        exact ⟨h.1, hK _ _ h.2⟩
    · exact h.elim
  | .seq x y, st, K, K', hK, h => by
    simp only [ex] at h ⊢
    refine ex_mono hL x (fun e s q => ?_) h
    cases e with
    | normal => exact ex_mono hL y hK q
    | exit i => exact hK _ _ q
    | ret => exact hK _ _ q
  | .cond c x y, st, K, K', hK, h => by
    simp only [ex] at h ⊢
    split at h
    · rename_i hc
      exact ⟨h.1.imp id (ex_mono hL x hK), h.2.imp id (ex_mono hL y hK)⟩
    · exact h.elim
  | .block id c, st, K, K', hK, h => by
    simp only [ex] at h ⊢
    refine ex_mono hL c (fun e s q => ?_) h
    cases e with
    | normal => exact hK _ _ q
    | exit i =>
      dsimp only at q ⊢
      split at q
      · rename_i hi
        rw [if_pos hi]
        exact hK _ _ q
      · rename_i hi
        rw [if_neg hi]
        exact hK _ _ q
    | ret => exact hK _ _ q
  | .exit id, st, K, K', hK, h => hK _ _ h
  | .ret, st, K, K', hK, h => hK _ _ h
  | .loop c, st, K, K', hK, h => hL c st K K' hK h
/-- What a loop asks of where it is. -/
structure Ob (α : Type) where
  q : α → Prop
  m : α → Prop
/-- The same, where a state tells of itself where the loop is. -/
theorem loop_rd {P : Program} {cx : Cx} (hc : CxOk P cx) {W0 : World} {S : Nat → Nat → Prop} {c : Code} {st : St} {K : Ex → St → Prop} {α : Type} (Q : α → Prop) (I : α → St) (μ : α → Nat) (rd : St → α) (x0 : α) (hQ : Q x0) (h0 : st.le (I x0))
    (round : ∀ x, Q x → ∀ O : Ob α, (⟨Q, fun y => μ y < μ x⟩ : Ob α) = O → ex Ar.std cx (Lp P W0 S) c (I x) (fun e st' => match e with
      | .normal => O.q (rd st') ∧ O.m (rd st') ∧ st'.le (I (rd st'))
      | .exit i => K (.exit i) st'
      | .ret => K .ret st')) : Lp P W0 S c st K := by
  refine loop_ok hc (α := { x : α // Q x }) (fun x => I x.1) (fun x => μ x.1) ⟨x0, hQ⟩ h0 fun x => ?_
  refine ex_mono (L := Lp P W0 S) (fun _ _ _ _ => Lp.mono) c (fun e s' h => ?_) (round x.1 x.2 _ rfl)
  cases e with
  | normal => exact ⟨⟨_, h.1⟩, h.2.2, h.2.1⟩
  | exit i => exact h
  | ret => exact h

/-! ## Slices that come in -/
theorem rows_of {W : World} {A : Option Addr} {n c sz : Nat} {xs : List Value} {α : Type} {Q : α → List Value → Prop} {l : List α} (hz : 0 < sz) (hr : Law.Reads W W.heap.size sz A n xs) (h1 : n ≤ c) (h2 : c ≤ maxLen) (hl : l.length = n)
    (hQ : ∀ i x, l[i]? = some x → Q x ((xs.drop (i * sz)).take sz) ∧ ∀ u ∈ (xs.drop (i * sz)).take sz, u.oneCell' = true) : rowIs (G1 (fun _ _ => True) W W) sz Q l (.slice A n c) := by
  obtain ⟨hlen, hc⟩ := hr
  subst hl
  refine ⟨A, c, rfl, h1, h2, fun hne => ?_⟩
  have hpos : 0 < l.length := List.length_pos_iff.2 hne
  obtain ⟨⟨b, o, spot⟩, rfl, hb, hcell⟩ := hc hpos
  have hsz : ∀ i x, l[i]? = some x → ((xs.drop (i * sz)).take sz).length = sz := by
    intro i x hx
    have hi : i < l.length := by
      rcases Nat.lt_or_ge i l.length with g | g
      · exact g
      · rw [List.getElem?_eq_none g] at hx; cases hx
    have : i * sz + sz ≤ l.length * sz := by
      rw [← Nat.succ_mul]
      exact Nat.mul_le_mul_right _ hi
    simp
    omega
  have hsp : spot = none := by
    have hlt : 0 < xs.length := by rw [hlen]; exact Nat.mul_pos hpos hz
    have h := hcell 0 _ (List.getElem?_eq_getElem hlt)
    cases spot with
    | none => rfl
    | some s =>
      simp [World.cell?, Addr.add] at h
      split at h <;> simp at h
  subst hsp
  refine ⟨b, o, rfl, fun i x hx => ⟨_, hsz i x hx, (hQ i x hx).1, fun j u hu => ⟨⟨hb, fun _ => trivial, fun n hn => ?_, fun id c hid => ?_⟩, ?_, (hQ i x hx).2 u (List.mem_of_getElem? hu)⟩⟩⟩
  · obtain ⟨_, _, hn⟩ := hn
    simp [G1] at hn
  · simp [tokOn, G1] at hid
  · rw [List.getElem?_take] at hu
    split at hu
    · rw [List.getElem?_drop] at hu
      have := hcell _ u hu
      rw [add_at] at this
      rw [Nat.add_assoc]
      exact this
    · cases hu
theorem ints_of {W : World} {A : Option Addr} {n c : Nat} {k : IntKind} {l : List Int} (hr : Law.Reads W W.heap.size 1 A n (l.map (Value.int k))) (h1 : n ≤ c ∧ c ≤ maxLen) : l.length = n ∧ (SC.sl none (.ints k l)).is (G1 (fun _ _ => True) W W) (.slice A n c) := by
  have hl : l.length = n := by have := hr.1; simpa using this
  refine ⟨hl, rows_of (Nat.one_pos) hr h1.1 h1.2 hl fun i x hx => ?_, trivial⟩
  have hd : ((l.map (Value.int k)).drop (i * 1)).take 1 = [.int k x] := by
    rw [Nat.mul_one, ← List.map_drop, ← List.map_take]
    have : (l.drop i).take 1 = [x] := by
      have hi : i < l.length := by
        rcases Nat.lt_or_ge i l.length with g | g
        · exact g
        · rw [List.getElem?_eq_none g] at hx; cases hx
      rw [List.drop_eq_getElem_cons hi]
      rw [List.getElem?_eq_getElem hi] at hx
      cases hx
      rfl
    rw [this]
    rfl
  rw [hd]
  exact ⟨rfl, fun u hu => by rw [List.mem_singleton] at hu; subst hu; rfl⟩
theorem bools_of {W : World} {A : Option Addr} {n c : Nat} {l : List Bool} (hr : Law.Reads W W.heap.size 1 A n (l.map Value.bool)) (h1 : n ≤ c ∧ c ≤ maxLen) : l.length = n ∧ (SC.sl none (.recs (.bool .nil) (l.map fun b => [D.bool b]))).is (G1 (fun _ _ => True) W W) (.slice A n c) := by
  have hl : l.length = n := by have := hr.1; simpa using this
  refine ⟨hl, rows_of (sz := (Sh.bool .nil).size) Nat.one_pos hr h1.1 h1.2 (by simpa using hl) fun i x hx => ?_, trivial⟩
  rw [List.getElem?_map] at hx
  obtain ⟨b, hb, rfl⟩ := Option.map_eq_some_iff.1 hx
  have hd : ((l.map Value.bool).drop (i * (Sh.bool .nil).size)).take (Sh.bool .nil).size = [.bool b] := by
    show ((l.map Value.bool).drop (i * 1)).take 1 = _
    rw [Nat.mul_one, ← List.map_drop, ← List.map_take]
    have : (l.drop i).take 1 = [b] := by
      have hi : i < l.length := by
        rcases Nat.lt_or_ge i l.length with g | g
        · exact g
        · rw [List.getElem?_eq_none g] at hb; cases hb
      rw [List.drop_eq_getElem_cons hi]
      rw [List.getElem?_eq_getElem hi] at hb
      cases hb
      rfl
    rw [this]
    rfl
  rw [hd]
  exact ⟨⟨[], rfl, rfl⟩, fun u hu => by rw [List.mem_singleton] at hu; subst hu; rfl⟩

/-- A number that fits. -/
theorem wr (a : Int) (h1 : -9223372036854775808 ≤ a) (h2 : a ≤ 9223372036854775807) : IntKind.i64.wrap a = a := IntWalk.i64_in a (by omega)
end Go.Proofs.Ytcbfccadodikgaa.Rx
