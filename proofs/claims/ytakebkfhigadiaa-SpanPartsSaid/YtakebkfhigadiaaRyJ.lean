/-
  The reckoner's rules hold in the model: code, loops, functions. No condition.
-/
import Derived.Test.YtakebkfhigadiaaRyI
namespace Go.Proofs.Ytakebkfhigadiaa.Ry
open Go Go.RowKit

section
variable {P : Program} {cx : Cx} {bs : Bs} {gv : List Value} {st : St} {ν : Nat → Option (Nat × Nat)} {a : Act} {w : World} {G : Gm}

/-! ## Code -/
def Ends (bs : Bs) (gv : List Value) (K : Ex → St → Prop) : Exit → Act → World → Prop
  | .normal, a, w => ∃ st ν, Rep bs gv st ν a w ∧ K .normal st
  | .exit i, a, w => ∃ st ν, Rep bs gv st ν a w ∧ K (.exit i) st
  | .ret, a, w => ∃ st ν, Rep bs gv st ν a w ∧ K .ret st
  | _, _, _ => False
/-- What is said of a loop: the loop does it. -/
def Lp (P : Program) (bs : Bs) (gv : List Value) (c : Code) (st : St) (K : Ex → St → Prop) : Prop :=
  ∀ ν a w, Rep bs gv st ν a w → ∀ b k cs, ∃ e a' w', Ends bs gv K e a' w' ∧ Arrives P (lone (b.at a (.code c :: .inLoop c :: k)) cs w) b k cs e a' w'
theorem ex_ok (hc : CxOk P cx) : ∀ (c : Code) {st : St} {K : Ex → St → Prop} {ν : Nat → Option (Nat × Nat)} {a : Act} {w : World}, ex Ar.std cx (Lp P bs gv) c st K → Rep bs gv st ν a w → c.wp P (Ends bs gv K) a w
  | .skip, st, K, ν, a, w, h, hr => wp_skip ⟨st, ν, hr, h⟩
  | .region id ops draw, st, K, ν, a, w, h, hr => by
    simp only [ex] at h
    obtain ⟨ds, T, st', hds, hT, T0, hK, hsd, heq⟩ := runW_ok h
    split at hK
    · exact hK.elim
    · rename_i hd
      cases draw with
      | false => exact region_ok hc hds hT (hsd hK.1) hr fun ν' a' w' hr' => ⟨st', ν', hr', hK.2⟩
      | true =>
        simp only [Bool.true_and, Bool.not_eq_false', Bool.and_eq_true] at hd
        have hp := pairsB_eq (ops := ops.toList) (heq _ fun _ => rfl)
        rw [hp] at hd
        exact region_any hc hds hT hd.1 hd.2 (hsd hK.1) hr fun ν' a' w' hr' => ⟨st', ν', hr', hK.2⟩
  | .seq x y, st, K, ν, a, w, h, hr => by
    refine wp_seq (wp_mono (ex_ok hc x (by simpa only [ex] using h) hr) ?_)
    intro e a' w' hp
    cases e with
    | normal =>
      obtain ⟨st', ν', hr', hk⟩ := hp
      exact ex_ok hc y hk hr'
    | exit i => exact hp
    | ret => exact hp
    | goto l => exact hp
    | panic ch => exact hp
    | outgrown => exact hp
  | .cond c x y, st, K, ν, a, w, h, hr => by
    simp only [ex] at h
    have hv := evalE_is hr c
    split at h
    · rename_i t ht
      rw [ht] at hv
      split at h
      · exact wp_cond_true (show a.eval c = .bool true from hv) (ex_ok hc x h hr)
      · exact wp_cond_false (show a.eval c = .bool false from hv) (ex_ok hc y h hr)
    · rename_i t ht
      rw [ht] at hv
      have e : a.eval c = .bool t := hv
      obtain ⟨h1, h2⟩ := h
      cases t with
      | true => exact wp_cond_true e (ex_ok hc x (h1.resolve_left (by decide)) hr)
      | false => exact wp_cond_false e (ex_ok hc y (h2.resolve_left (by decide)) hr)
    · exact h.elim
  | .block id c, st, K, ν, a, w, h, hr => by
    refine wp_block (wp_mono (ex_ok hc c (by simpa only [ex] using h) hr) ?_)
    intro e a' w' hp
    cases e with
    | normal => exact hp
    | exit i =>
      obtain ⟨st', ν', hr', hk⟩ := hp
      simp only at hk
      show if i = id then Ends bs gv K .normal a' w' else Ends bs gv K (.exit i) a' w'
      split at hk
      · rename_i hi
        rw [if_pos (eqn_eq hi)]
        exact ⟨st', ν', hr', hk⟩
      · rename_i hi
        rw [if_neg (no_beq hi)]
        exact ⟨st', ν', hr', hk⟩
    | ret => exact hp
    | goto l => exact hp
    | panic ch => exact hp
    | outgrown => exact hp
  | .exit id, st, K, ν, a, w, h, hr => wp_exit ⟨st, ν, hr, h⟩
  | .ret, st, K, ν, a, w, h, hr => wp_ret ⟨st, ν, hr, h⟩
  | .loop c, st, K, ν, a, w, h, hr => by
    intro b k cs
    obtain ⟨e, a', w', hq, harr⟩ := h ν a w hr b k cs
    exact ⟨e, a', w', hq, .of_steps (.one step_loop) harr⟩
  | .rangeFunc .., st, K, ν, a, w, h, hr => by simp [ex] at h
  | .scope _, st, K, ν, a, w, h, hr => by simp [ex] at h
  | .label _, st, K, ν, a, w, h, hr => by simp [ex] at h
  | .goto _, st, K, ν, a, w, h, hr => by simp [ex] at h
  | .refuse _, st, K, ν, a, w, h, hr => by simp [ex] at h

/-! ## Loops -/
theorem loop_ok (hc : CxOk P cx) {c : Code} {K : Ex → St → Prop} {α : Type} (I : α → St) (μ : α → Nat) (x0 : α) (h0 : st.le (I x0))
    (round : ∀ x, ex Ar.std cx (Lp P bs gv) c (I x) (fun e st' => match e with
      | .normal => ∃ x', st'.le (I x') ∧ μ x' < μ x
      | .exit i => K (.exit i) st'
      | .ret => K .ret st')) : Lp P bs gv c st K := by
  intro ν a w hr b k cs
  have key : ∀ n x ν a w, μ x = n → Rep bs gv (I x) ν a w →
      ∃ e a' w', Ends bs gv K e a' w' ∧ Arrives P (lone (b.at a (.code c :: .inLoop c :: k)) cs w) b k cs e a' w' := by
    intro n
    induction n using Nat.strongRecOn with
    | _ n ih =>
      intro x ν a w hn hI
      obtain ⟨e, a₁, w₁, hq, harr⟩ := ex_ok hc c (round x) hI b (.inLoop c :: k) cs
      cases e with
      | normal =>
        obtain ⟨st', ν', hr', x', hle, hlt⟩ := hq
        obtain ⟨ν2, hr2⟩ := rep_leM hr' hle
        obtain ⟨e₂, a₂, w₂, hq₂, harr₂⟩ := ih (μ x') (hn ▸ hlt) x' ν2 a₁ w₁ rfl hr2
        exact ⟨e₂, a₂, w₂, hq₂, .of_steps (Steps.trans harr (.one step_inLoop)) harr₂⟩
      | exit id => exact ⟨.exit id, a₁, w₁, hq, .pass (x := .inLoop c) rfl (fun _ _ => .inl (by simp)) harr⟩
      | goto l => exact ⟨.goto l, a₁, w₁, hq, .pass (x := .inLoop c) rfl (fun _ _ => .inl (by simp)) harr⟩
      | ret => exact ⟨.ret, a₁, w₁, hq, .pass (x := .inLoop c) rfl (fun _ _ => .inl (by simp)) harr⟩
      | panic ch => exact ⟨.panic ch, a₁, w₁, hq, .pass (x := .inLoop c) rfl (fun _ _ => .inl (by simp)) harr⟩
      | outgrown => exact ⟨.outgrown, a₁, w₁, hq, .pass (x := .inLoop c) rfl (fun _ _ => .inl (by simp)) harr⟩
  obtain ⟨ν0, hr0⟩ := rep_leM hr h0
  exact key _ x0 ν0 a w rfl hr0
/-- One round, then the rest. -/
theorem loop_one (hc : CxOk P cx) {c : Code} {K : Ex → St → Prop} (h : ex Ar.std cx (Lp P bs gv) c st (fun e st' => match e with
      | .normal => Lp P bs gv c st' K
      | .exit i => K (.exit i) st'
      | .ret => K .ret st')) : Lp P bs gv c st K := by
  intro ν a w hr b k cs
  obtain ⟨e, a₁, w₁, hq, harr⟩ := ex_ok hc c h hr b (.inLoop c :: k) cs
  cases e with
  | normal =>
    obtain ⟨st', ν', hr', hl⟩ := hq
    obtain ⟨e₂, a₂, w₂, hq₂, harr₂⟩ := hl ν' a₁ w₁ hr' b k cs
    exact ⟨e₂, a₂, w₂, hq₂, .of_steps (Steps.trans harr (.one step_inLoop)) harr₂⟩
  | exit id => exact ⟨.exit id, a₁, w₁, hq, .pass (x := .inLoop c) rfl (fun _ _ => .inl (by simp)) harr⟩
  | goto l => exact ⟨.goto l, a₁, w₁, hq, .pass (x := .inLoop c) rfl (fun _ _ => .inl (by simp)) harr⟩
  | ret => exact ⟨.ret, a₁, w₁, hq, .pass (x := .inLoop c) rfl (fun _ _ => .inl (by simp)) harr⟩
  | panic ch => exact ⟨.panic ch, a₁, w₁, hq, .pass (x := .inLoop c) rfl (fun _ _ => .inl (by simp)) harr⟩
  | outgrown => exact ⟨.outgrown, a₁, w₁, hq, .pass (x := .inLoop c) rfl (fun _ _ => .inl (by simp)) harr⟩

/-! ## Functions -/
def resSem (tmps : Array Value) : ResultVar → Sem Value
  | .tmp t => pure (tmps.getD t undef)
  | .cell a t => do loadVar t (← asAddr (tmps.getD a undef))
theorem results_eq (fn : Func) (tmps : Array Value) : results fn tmps = (do
    let vs ← fn.results.mapM (resSem tmps)
    pure (if h : vs.size = 1 then vs[0] else .tuple vs)) := by
  unfold results
  congr 1
theorem resE_ok (hc : CxOk P cx) (hr : Rep bs gv st ν a w) {r : ResultVar} {C : Prop} {x : SA} (h : resE Ar.std cx st r = some (C, x)) (hC : C) : ∃ v, (resSem a.tmps r).run P w = .ok v w ∧ x.is (gg bs st ν w) v := by
  cases r with
  | tmp t =>
    simp only [resE] at h
    have hv := evalE_is hr (.tmp t)
    split at h
    · rename_i y hy
      cases h
      rw [hy] at hv
      exact ⟨a.tmps.getD t undef, rfl, hv⟩
    · cases h
  | cell b t =>
    simp only [resE] at h
    have hv := evalE_is hr (.tmp b)
    split at h
    · rename_i b' off hx
      rw [hx] at hv
      obtain ⟨g, v, e, hrun, hv'⟩ := loadS_ok hc hr h hC hv.2
      have e : a.tmps.getD b undef = .pointer (some ⟨g, off, none⟩) := e
      exact ⟨v, by rw [resSem, e]; simp [asAddr, hrun], hv'⟩
    · cases h
theorem resL_ok (hc : CxOk P cx) (hr : Rep bs gv st ν a w) : ∀ {l : List ResultVar} {C : Prop} {xs : List SA}, resL Ar.std cx st l = some (C, xs) → C → ∃ vs : List Value, (l.mapM (resSem a.tmps)).run P w = .ok vs w ∧ sasIs (gg bs st ν w) xs vs
  | [], C, xs, h, _ => by cases h; exact ⟨[], rfl, trivial⟩
  | r :: l, C, xs, h, hC => by
    simp only [resL] at h
    split at h
    · rename_i C1 y C2 ys h1 h2
      cases h
      obtain ⟨v, e1, i1⟩ := resE_ok hc hr h1 hC.1
      obtain ⟨vs, e2, i2⟩ := resL_ok hc hr h2 hC.2
      refine ⟨v :: vs, ?_, i1, i2⟩
      rw [List.mapM_cons]
      simp only [Sem.run_bind]
      rw [e1]
      simp only [Result.andThen_ok, e2, Sem.run_pure]
    · cases h
def tupV : List Value → Value
  | [u] => u
  | vs => .tuple vs.toArray
theorem results_ok (hc : CxOk P cx) (hr : Rep bs gv st ν a w) {fn : Func} {C : Prop} {xs : List SA} (h : resL Ar.std cx st fn.results.toList = some (C, xs)) (hC : C) : ∃ vs : List Value, (results fn a.tmps).run P w = .ok (tupV vs) w ∧ sasIs (gg bs st ν w) xs vs := by
  obtain ⟨vs, e, hi⟩ := resL_ok hc hr h hC
  refine ⟨vs, ?_, hi⟩
  rw [results_eq, Sem.run_bind]
  have : (fn.results.mapM (resSem a.tmps)).run P w = .ok vs.toArray w := by
    rw [Array.mapM_eq_mapM_toList, Sem.run_map, e]
    rfl
  rw [this]
  simp only [Result.andThen_ok]
  match vs with
  | [] => rfl
  | [u] => rfl
  | u :: u' :: vs => simp [tupV]
theorem hasRef_is : ∀ {xs : List SA} {vs : List Value}, sasIs G xs vs → sasIs G (xs.map hasRef) vs
  | [], [], _ => trivial
  | [], _ :: _, h => h.elim
  | _ :: _, [], h => h.elim
  | x :: xs, v :: vs, ⟨h1, h2⟩ => by
    refine ⟨?_, hasRef_is h2⟩
    unfold hasRef
    split
    · trivial
    · exact h1
theorem tups_le {M : Mt} {G G' : Gm} (s : LeG M G G') : ∀ {xs ys : List SA} {us : List Value}, entsLe M (xs.map entA) (ys.map fun x => (⟨none, .sa x⟩ : Ent)) → sasIs G xs us → sasIs G' ys us
  | [], [], [], _, _ => trivial
  | [], [], _ :: _, _, h => h.elim
  | [], _ :: _, _, h, _ => h.elim
  | _ :: _, [], _, h, _ => h.elim
  | _ :: _, _ :: _, [], _, h => h.elim
  | x :: _, y :: _, _ :: _, h, hv => ⟨Ent.le_is (x := entA x) (y := ⟨none, .sa y⟩) s h.1 hv.1, tups_le s h.2 hv.2⟩
/-- What the cells lead to has a value. -/
theorem ownsC_is : ∀ {cs : List SC} {vs : List Value}, cellsIs G cs vs → ∀ j ∈ ownsC cs, ∃ v, j.is G v
  | [], _, _, j, h => by cases h
  | c :: cs, v :: vs, ⟨⟨h1, _⟩, h2⟩, j, h => by
    have ih := ownsC_is h2 j
    cases c <;> first
      | exact ih h
      | exact (List.mem_cons.1 h).elim (fun e => ⟨v, e ▸ h1⟩) ih
  | _ :: _, [], h, _, _ => h.elim
theorem ownsA_is : ∀ {xs : List SA} {vs : List Value}, sasIs G xs vs → ∀ j ∈ xs.flatMap ownsA, ∃ v, j.is G v
  | [], _, _, j, h => by cases h
  | _ :: _, [], h, _, _ => h.elim
  | x :: xs, v :: vs, ⟨h1, h2⟩, j, h => by
    rw [List.flatMap_cons] at h
    rcases List.mem_append.1 h with h | h
    · unfold ownsA at h
      split at h
      · obtain ⟨us, _, hc⟩ := h1
        exact ownsC_is hc j h
      · cases h
    · exact ownsA_is h2 j h
theorem owns_are (hm : Mem G) {xs : List SA} {vs : List Value} (ha : sasIs G xs vs) : ∃ us, sasIs G ((ownsAll xs G.h).map .one) us := by
  have key : ∀ j ∈ ownsAll xs G.h, ∃ v, j.is G v := by
    intro j hj
    unfold ownsAll at hj
    rcases List.mem_append.1 hj with hj | hj
    rotate_left
    · exact ownsA_is ha j hj
    unfold ownsOf at hj
    obtain ⟨p, _, hp⟩ := List.mem_flatMap.1 hj
    split at hp
    · rename_i t cs hk
      obtain ⟨g, vs, _, _, hc⟩ := hm.blk _ _ hk
      exact ownsC_is hc j hp
    · cases hp
  revert key
  generalize ownsAll xs G.h = l
  intro key
  induction l with
  | nil => exact ⟨[], trivial⟩
  | cons j l ih =>
    obtain ⟨v, hv⟩ := key j List.mem_cons_self
    obtain ⟨us, hu⟩ := ih fun k hk => key k (List.mem_cons_of_mem _ hk)
    exact ⟨v :: us, hv, hu⟩
/-- A row that is the same slice is at the same place. -/
theorem own_same {G' : Gm} {i j : Nat} {v : Value} (h1 : (SC.own j).is G v) (h2 : (SC.own i).is G' v) (hi : hasR G'.h i = true) (hj : hasR G.h j = true) : G'.o i = G.o j := by
  have z1 := h1.2
  have z2 := h2.2
  unfold ownAt at z1 z2
  unfold hasR at hi hj
  split at hi
  · rename_i t c e1
    split at hj
    · rename_i t' c' e2
      rw [e1] at z2
      rw [e2] at z1
      rcases z1 with ⟨_, y1, A1, y2⟩ | ⟨g1, o1, cap1, _, _, y1, y2, _, _, _, _, y5⟩ <;> rcases z2 with ⟨_, y3, A2, y4⟩ | ⟨g2, o2, cap2, _, _, y3, y4, _, _, _, _, y6⟩ <;> rw [y2] at y4
      · exact y3.trans y1.symm
      · have := (Value.slice.inj y4).2.2
        omega
      · have := (Value.slice.inj y4).2.2
        omega
      · simp only [Value.slice.injEq, Option.some.injEq, Addr.mk.injEq] at y4
        rw [y3, ← y4.1.1, ← y4.1.2.1]
        exact y1.symm
    · rename_i t' e' c' q' e2
      rw [e1] at z2
      rw [e2] at z1
      rcases z1 with ⟨_, y1, A1, y2⟩ | ⟨g1, o1, cap1, _, _, y1, y2, _, _, _, _, y5⟩ <;> rcases z2 with ⟨_, y3, A2, y4⟩ | ⟨g2, o2, cap2, _, _, y3, y4, _, _, _, _, y6⟩ <;> rw [y2] at y4
      · exact y3.trans y1.symm
      · have := (Value.slice.inj y4).2.2
        omega
      · have := (Value.slice.inj y4).2.2
        omega
      · simp only [Value.slice.injEq, Option.some.injEq, Addr.mk.injEq] at y4
        rw [y3, ← y4.1.1, ← y4.1.2.1]
        exact y1.symm
    · cases hj
  · rename_i t e c q e1
    split at hj
    · rename_i t' c' e2
      rw [e1] at z2
      rw [e2] at z1
      rcases z1 with ⟨_, y1, A1, y2⟩ | ⟨g1, o1, cap1, _, _, y1, y2, _, _, _, _, y5⟩ <;> rcases z2 with ⟨_, y3, A2, y4⟩ | ⟨g2, o2, cap2, _, _, y3, y4, _, _, _, _, y6⟩ <;> rw [y2] at y4
      · exact y3.trans y1.symm
      · have := (Value.slice.inj y4).2.2
        omega
      · have := (Value.slice.inj y4).2.2
        omega
      · simp only [Value.slice.injEq, Option.some.injEq, Addr.mk.injEq] at y4
        rw [y3, ← y4.1.1, ← y4.1.2.1]
        exact y1.symm
    · rename_i t' e' c' q' e2
      rw [e1] at z2
      rw [e2] at z1
      rcases z1 with ⟨_, y1, A1, y2⟩ | ⟨g1, o1, cap1, _, _, y1, y2, _, _, _, _, y5⟩ <;> rcases z2 with ⟨_, y3, A2, y4⟩ | ⟨g2, o2, cap2, _, _, y3, y4, _, _, _, _, y6⟩ <;> rw [y2] at y4
      · exact y3.trans y1.symm
      · have := (Value.slice.inj y4).2.2
        omega
      · have := (Value.slice.inj y4).2.2
        omega
      · simp only [Value.slice.injEq, Option.some.injEq, Addr.mk.injEq] at y4
        rw [y3, ← y4.1.1, ← y4.1.2.1]
        exact y1.symm
    · cases hj
  · cases hi
/-- A block that the same pointer leads to is the same. -/
theorem ptr_same {G' : Gm} {i j o o' : Nat} {v : Value} (h1 : (SC.ptr j o).is G v) (h2 : (SC.ptr i o').is G' v) (hi : hasC G'.h i = true) (hj : hasC G.h j = true) : G'.o i = G.o j := by
  have z1 : ptrAt G j o v := h1.2
  have z2 : ptrAt G' i o' v := h2.2
  unfold ptrAt at z1 z2
  unfold hasC at hi hj
  split at hi
  · rename_i t c e1
    split at hj
    · rename_i t' c' e2
      rw [e1] at z2
      rw [e2] at z1
      obtain ⟨g1, y1, y2⟩ := z1
      obtain ⟨g2, y3, y4⟩ := z2
      rw [y2] at y4
      simp only [Value.pointer.injEq, Option.some.injEq, Addr.mk.injEq] at y4
      rw [y3, y1, y4.1]
    · cases hj
  · cases hi
theorem stays_of {G' : Gm} : ∀ {l : List SC} {us : List Value} {ys : List SA}, sasIs G (l.map .one) us → pasIs G' ys us → stayIs G G' l ys
  | [], _, ys, _, _ => fun p hp => by cases hp
  | x :: _, _, [], _, _ => fun p hp => by cases x <;> cases hp
  | j :: l, [], _ :: _, h, _ => h.elim
  | j :: l, u :: us, y :: ys, ⟨h1, h2⟩, ⟨h3, h4⟩ => fun p hp => by
    have ih := stays_of h2 h4
    unfold stayOf at hp
    split at hp
    · rename_i e1 e2
      cases e1
      cases e2
      rcases List.mem_cons.1 hp with rfl | hp
      · intro hk
        have hk : (hasR G.h _ && hasR G'.h _) = true := hk
        rw [Bool.and_eq_true] at hk
        exact own_same h1 h3 hk.2 hk.1
      · exact ih p hp
    · rename_i e1 e2
      cases e1
      cases e2
      rcases List.mem_cons.1 hp with rfl | hp
      · intro hk
        have hk : (hasC G.h _ && hasC G'.h _) = true := hk
        rw [Bool.and_eq_true] at hk
        exact ptr_same h1 h3 hk.2 hk.1
      · exact ih p hp
    · rename_i e1 e2
      cases e1
      cases e2
      exact ih p hp
    · cases hp
theorem as_of {G' : Gm} {l : List SC} {us : List Value} (hu : sasIs G (l.map .one) us) : ∀ {ys : List SA} {vs : List Value}, pasIs G' ys (vs ++ us) → asIs G G' l ys vs
  | [], _, _ => trivial
  | _ :: _, _ :: _, ⟨a, b⟩ => ⟨a, as_of hu b⟩
  | _ :: _, [], h => stays_of hu h
/-- A function, from its arguments to what it hands back. -/
theorem calls_ok (hc : CxOk P cx) {f : FuncId} {fn : Func} {code : Code} (hf : P.funcs[f]? = some fn) (hb : fn.body = some code) {args : List SA} {vs : List Value} (hm : Mem G) (hargs : sasIs G args vs)
    (hn : args.length ≤ fn.ntmps) (p : Post) (h : ∀ gv, ex Ar.std cx (Lp P G.bs gv) code (start fn.ntmps args G.h) (fin Ar.std cx fn.results.toList p)) :
    Calls P f vs.toArray G.w fun e w' => ∃ v G', e = .returned v ∧ G'.w = w' ∧ G'.bs = G.bs ∧ G'.h = p.h ∧ Mem G' ∧ p.r.is G' v ∧ asIs G G' (ownsAll args G.h) p.as vs := by
  have hlen := hargs.len
  obtain ⟨us, hus⟩ := owns_are hm hargs
  have h := h (vs ++ us)
  refine calls_of_wp hf hb ?_
  have hrep : Rep G.bs (vs ++ us) (start fn.ntmps args G.h) G.o { tmps := vs.toArray ++ Array.replicate (fn.ntmps - vs.toArray.size) undef, defers := [] } G.w := by
    refine ⟨by simp [start]; omega, fun t e he => ?_, pas_of (sasIs_app (hasRef_is hargs) hus), rfl, hm⟩
    simp only [start] at he ⊢
    rw [List.getElem?_append] at he
    split at he
    · rename_i hlt
      rw [List.getElem?_map] at he
      obtain ⟨x, hx, rfl⟩ := Option.map_eq_some_iff.1 he
      obtain ⟨v, h1, h2⟩ := hargs.get t hx
      have hv : (vs.toArray ++ Array.replicate (fn.ntmps - vs.toArray.size) undef).getD t undef = v := by
        have hlt' : t < vs.length := get_lt h1
        rw [List.getElem?_eq_getElem hlt'] at h1
        simpa [Array.getD_eq_getD_getElem?, Array.getElem?_append, hlt'] using h1
      rw [hv]
      exact h2
    · rw [List.getElem?_replicate] at he
      split at he
      · cases he
        exact trivial
      · cases he
  refine wp_mono (ex_ok hc code h hrep) ?_
  have done : ∀ {st : St} {ν : Nat → Option (Nat × Nat)} {a : Act} {w : World}, Rep G.bs (vs ++ us) st ν a w → (match resL Ar.std cx st fn.results.toList with
      | some (C, xs) => (match p.r, xs with
        | .sa _, [_] => True
        | .tup _, [_] => False
        | .tup _, _ => True
        | _, _ => False) ∧ C ∧ (St.mk (xs.map entA) st.heap st.gs).le (St.mk (entsOf p.r) p.h p.as)
      | none => False) → a.defers = [] ∧ ∃ v, (results fn a.tmps).run P w = .ok v w ∧ ∃ v' G', Ending.returned v = .returned v' ∧ G'.w = w ∧ G'.bs = G.bs ∧ G'.h = p.h ∧ Mem G' ∧ p.r.is G' v' ∧ asIs G G' (ownsAll args G.h) p.as vs := by
    intro st ν a w hr hR
    split at hR
    · rename_i C xs hxs
      obtain ⟨hkind, hC, hl⟩ := hR
      unfold St.le at hl
      generalize close _ _ _ _ _ = m at hl
      obtain ⟨l1, l2, l3, l4⟩ := hl
      obtain ⟨us, e, hi⟩ := results_ok hc hr hxs hC
      obtain ⟨hle, hmm⟩ := le_mem (G := gg G.bs st ν w) (bs' := G.bs) hr.mem l1 l4 rfl (.inl ⟨rfl, trivial⟩)
      refine ⟨hr.defers, _, e, tupV us, _, rfl, ?_, ?_, ?_, hmm, ?_, as_of hus (pasLe_is hle l3 hr.gs)⟩
      · rfl
      · rfl
      · rfl
      cases hpr : p.r with
      | sa y =>
        rw [hpr] at hkind l2
        match xs, us, hkind, hi, l2 with
        | [x], [u], _, hi, l2 => exact Ent.le_is (x := entA x) hle l2.1 hi.1
        | [x], [], _, hi, _ => exact hi.elim
        | [x], _ :: _ :: _, _, hi, _ => exact hi.2.elim
      | tup ys =>
        rw [hpr] at hkind l2
        have ht := tups_le hle l2 hi
        refine ⟨us, ?_, ht⟩
        match xs, us, hkind, hi with
        | [], [], _, _ => rfl
        | _ :: _ :: _, _ :: _ :: _, _, _ => rfl
        | [], _ :: _, _, hi => exact hi.elim
        | _ :: _ :: _, [], _, hi => exact hi.elim
        | _ :: _ :: _, [_], _, hi => exact hi.2.elim
    · exact hR.elim
  intro e a' w' hp
  cases e with
  | normal => obtain ⟨st, ν', hr, hk⟩ := hp; exact done hr hk
  | ret => obtain ⟨st, ν', hr, hk⟩ := hp; exact done hr hk
  | exit i => obtain ⟨st, ν', hr, hk⟩ := hp; exact hk.elim
  | goto l => exact hp.elim
  | panic c => exact hp.elim
  | outgrown => exact hp.elim
/-- A contract. -/
theorem con_ok (hc : CxOk P cx) {f : FuncId} {fn : Func} {code : Code} (hf : P.funcs[f]? = some fn) (hb : fn.body = some code) (hnm : (fn.name == "runtime.NumGoroutine") = false) {con : Con}
    (h : ∀ args h p, con args h = some p → args.length ≤ fn.ntmps ∧ (p.C → ∀ G vs, sasIs G args vs → ∀ bs gv, ex Ar.std cx (Lp P bs gv) code (start fn.ntmps args h) (fin Ar.std cx fn.results.toList p))) : ConOk P f con := by
  refine ⟨⟨fn, hf, by rw [hb]; rfl, hnm⟩, fun args h0 p hcon hC G vs hh hw hm hvs => ?_⟩
  obtain ⟨h1, h2⟩ := h args h0 p hcon
  subst hh
  exact calls_ok hc hf hb hm hvs h1 p fun gv => h2 hC G vs hvs _ gv
/-- What a law may look at. -/
def G0 (w : World) : Gm := ⟨fun _ => none, [], ⟨w, fun _ _ => True, fun _ => False⟩, w⟩
theorem mem_G0 (w : World) : Mem (G0 w) :=
  ⟨rfl, rfl, rfl, Nat.le_refl _, fun _ _ _ => rfl, fun _ _ _ _ => rfl, (fun _ _ _ _ h => by cases h), (fun _ _ _ _ _ _ _ h => by cases h), (fun _ _ h => by cases h), Shp.refl _, fun _ _ h => by cases h⟩
/-- A law. -/
theorem yes_ok (hc : CxOk P cx) {f : FuncId} {fn : Func} {code : Code} (hf : P.funcs[f]? = some fn) (hb : fn.body = some code) {args : List SA} {vs : List Value} {W : World} (hargs : sasIs (G0 W) args vs)
    (hn : args.length ≤ fn.ntmps) (h : ∀ bs gv, ex Ar.std cx (Lp P bs gv) code (start fn.ntmps args []) (fin Ar.std cx fn.results.toList ⟨True, .sa (.one (.val (.bool true))), [], args.map fun _ => .one .any⟩)) :
    Calls P f vs.toArray W (Law.Yes W) := by
  refine (calls_ok (G := G0 W) hc hf hb (mem_G0 W) hargs hn _ fun gv => h _ gv).mono ?_
  rintro e w' ⟨v, G', rfl, rfl, hbs, _, hm, hv, _⟩
  have hv : v = .bool true := hv
  have hW : G'.bs.W = W := by rw [hbs]; rfl
  refine ⟨by rw [hv], ?_, ?_, ?_, ?_, fun k hk => ?_⟩
  · have := hm.os; rwa [hW] at this
  · have := hm.tape; rwa [hW] at this
  · have := hm.output; rwa [hW] at this
  · have := hm.size; rwa [hW] at this
  · have := hm.block k (by rw [hW]; exact hk) (by rw [hbs]; exact fun h => h)
    rwa [hW] at this
end
end Go.Proofs.Ytakebkfhigadiaa.Ry
