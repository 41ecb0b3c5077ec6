/-
  The reckoner's rules hold in the model: regions, in the text's order and in any. No condition.
-/
import Derived.Test.YtakebkfhigadiaaRyG
namespace Go.Proofs.Ytakebkfhigadiaa.Ry
open Go Go.RowKit

section
variable {P : Program} {cx : Cx} {bs : Bs} {gv : List Value} {st : St} {ν : Nat → Option (Nat × Nat)} {a : Act} {w : World} {G : Gm}

/-! ## A state behind an operation -/
theorem getD_set {α : Type} {l : Array α} {d t : Nat} {v u : α} (hd : d < l.size) : (l.setIfInBounds d v).getD t u = if d = t then v else l.getD t u := by
  by_cases h : d = t
  · subst h
    simp [hd]
  · simp [h, Array.getElem?_setIfInBounds_ne h]
theorem rep_put (hr : Rep bs gv st ν a w) {ν' : Nat → Option (Nat × Nat)} {h' : H} {w' : World} {dst : Option Tmp} {e : Ent} {v : Value} (hx : Ext (gg bs st ν w) ⟨ν', h', bs, w'⟩) (hv : e.is ⟨ν', h', bs, w'⟩ v) (hm : Mem ⟨ν', h', bs, w'⟩) :
    Rep bs gv { (st.put dst e) with heap := h' } ν' (a.put dst v) w' := by
  cases dst with
  | none => exact ⟨hr.size, fun t e' he => (hr.slot t e' he).ext hx, hr.gs.ext hx, hr.defers, hm⟩
  | some d =>
    refine ⟨by simpa [Act.put, St.put] using hr.size, fun t e' he => ?_, hr.gs.ext hx, hr.defers, hm⟩
    simp only [St.put, List.getElem?_set] at he
    have hsz := hr.size
    split at he
    · rename_i hdt
      split at he
      · rename_i hlt
        cases he
        subst hdt
        show e.is ⟨ν', h', bs, w'⟩ ((a.tmps.setIfInBounds d v).getD d undef)
        rw [getD_set (by omega), if_pos rfl]
        exact hv
      · cases he
    · rename_i hdt
      have := (hr.slot t e' he).ext hx
      show e'.is ⟨ν', h', bs, w'⟩ ((a.tmps.setIfInBounds d v).getD t undef)
      rcases Nat.lt_or_ge d a.tmps.size with g | g
      · rw [getD_set g, if_neg hdt]
        exact this
      · rwa [Array.setIfInBounds_eq_of_size_le g]
theorem rep_app (hr : Rep bs gv st ν a w) {dst : Option Tmp} {E : Eff} {v : Value} {w' : World} (h : Res bs st ν w E v w') : ∃ ν', Rep bs gv (st.app dst E) ν' (a.put dst v) w' := by
  obtain ⟨ν', hx, hv, hm⟩ := h
  exact ⟨ν', rep_put hr hx hv hm⟩
/-- Whether a guard lets an operation run. -/
theorem wantG_ok (hr : Rep bs gv st ν a w) {ops : List Oper} {o : Oper} {r : Wn} (h : wantG Ar.std ops st o.guard = r) (hb : r ≠ .bad) : Region.wanted o (yielded ops.toArray a.tmps) = match r with
    | .yes => true
    | .no => false
    | .sym b => b
    | .bad => false := by
  unfold wantG at h
  unfold Region.wanted
  split at h
  · rename_i hg
    subst h
    simp [hg]
  · rename_i j want hg
    split at h
    · rename_i o' ho'
      split at h
      · rename_i t ht
        have hy : t < a.tmps.size → yielded ops.toArray a.tmps j = match a.tmps.getD t undef with
            | .bool b => some b
            | _ => none := by
          intro hlt
          unfold yielded
          simp only [List.getElem?_toArray, ho', Option.bind_some, ht, Array.getElem?_eq_getElem hlt]
          simp only [Array.getD_eq_getD_getElem?, Array.getElem?_eq_getElem hlt, Option.getD_some]
          cases a.tmps[t] <;> rfl
        cases hs : st.slots[t]? with
        | none =>
          rw [List.getD_eq_getElem?_getD, hs] at h
          simp only [Option.getD_none, Ent.nil, wantT] at h
          exact absurd h.symm hb
        | some e =>
          rw [List.getD_eq_getElem?_getD, hs] at h
          simp only [Option.getD_some] at h
          have hlt : t < a.tmps.size := by
            rw [hr.size]
            exact get_lt hs
          have hv := hr.slot t _ hs
          simp only [hg, hy hlt]
          unfold wantT at h
          split at h
          · rename_i c
            have hv' : a.tmps.getD t undef = .bool c := hv
            rw [hv']
            subst h
            cases want <;> cases c <;> rfl
          · rename_i g c
            subst h
            cases g with
            | true =>
              have hv' : a.tmps.getD t undef = .bool c := hv
              rw [hv']
              cases want <;> cases c <;> rfl
            | false =>
              have hv' : a.tmps.getD t undef = undef := hv
              rw [hv']
              cases want <;> cases c <;> rfl
          · rename_i c
            have hv' : a.tmps.getD t undef = .bool c := hv
            rw [hv']
            subst h
            cases want <;> cases c <;> rfl
          · rename_i g c
            subst h
            cases g with
            | true =>
              have hv' : a.tmps.getD t undef = .bool c := hv
              rw [hv']
              cases want <;> cases c <;> rfl
            | false =>
              have hv' : a.tmps.getD t undef = undef := hv
              rw [hv']
              cases want <;> cases c <;> rfl
          · exact absurd h.symm hb
      · exact absurd h.symm hb
    · exact absurd h.symm hb
/-- One operation, with its guard. -/
theorem effG_ok (hc : CxOk P cx) (hr : Rep bs gv st ν a w) {ops : List Oper} {o : Oper} {u : Nat} {d : Bool} {E : Eff} (h : effG Ar.std cx ops st u o d = some E) (hs : E.side) {K : Act → World → Prop} {Q : Exit → Act → World → Prop}
    (hK : ∀ ν' a' w', Rep bs gv (st.app o.dst E) ν' a' w' → K a' w') :
    if Region.wanted o (yielded ops.toArray a.tmps) then o.wp P a w K Q ∨ (o.asks P a w ∧ LetsOut Q) else K (a.put o.dst undef) w := by
  have skip : ∀ {C : Prop} {e : Ent}, E = ⟨C, e, []⟩ → e.is (gg bs st ν w) undef → K (a.put o.dst undef) w := by
    intro C e hE he
    subst hE
    obtain ⟨ν'', hr'⟩ := rep_app (dst := o.dst) (E := ⟨C, e, []⟩) (v := undef) hr ⟨ν, Ext.refl _, he, hr.mem⟩
    exact hK _ _ _ hr'
  unfold effG at h
  split at h
  · cases h
  · rename_i hw
    rw [wantG_ok hr hw (by simp)]
    simp only [if_true]
    refine .inl (eff_ok hc hr h hs fun v w' hres => ?_)
    obtain ⟨ν', hr'⟩ := rep_app (dst := o.dst) hr hres
    exact hK ν' _ _ hr'
  · rename_i hw
    rw [wantG_ok hr hw (by simp)]
    cases h
    exact skip rfl rfl
  · rename_i b hw
    rw [wantG_ok hr hw (by simp)]
    split at h
    · rename_i C e he
      cases h
      cases b with
      | true =>
        simp only [if_true]
        have hs' : C := by
          rcases hs with hs | hs
          · cases hs
          · exact hs
        refine .inl (eff_ok hc hr he hs' fun v w' hres => ?_)
        obtain ⟨ν', hx, hv, hm⟩ := hres
        have hv' : (⟨gand Ar.std (some true) e.g, e.v⟩ : Ent).is ⟨ν', setAll st.heap [], bs, w'⟩ v := by
          obtain ⟨g, ev⟩ := e
          cases g with
          | none => exact hv
          | some g => cases g <;> exact hv
        obtain ⟨ν'', hr'⟩ := rep_app (dst := o.dst) (E := ⟨true = false ∨ C, ⟨gand Ar.std (some true) e.g, e.v⟩, []⟩) hr ⟨ν', hx, hv', hm⟩
        exact hK _ _ _ hr'
      | false =>
        simp only [Bool.false_eq_true, if_false]
        refine skip rfl ?_
        obtain ⟨g, ev⟩ := e
        cases g with
        | none => rfl
        | some g => cases g <;> rfl
    · rename_i C e p l he
      split at h
      · cases h
        obtain ⟨rfl, hs'⟩ := hs
        simp only [if_true]
        refine .inl (eff_ok hc hr he hs' fun v w' hres => ?_)
        obtain ⟨ν'', hr'⟩ := rep_app (dst := o.dst) (E := ⟨true = true ∧ C, e, p :: l⟩) hr hres
        exact hK _ _ _ hr'
      · cases h
        have hs : b = false := hs
        subst hs
        exact skip rfl trivial
    · cases h
      have hs : b = false := hs
      subst hs
      exact skip rfl trivial
/-! ## Regions in the text's order -/
theorem run_ok (hc : CxOk P cx) {r : Nat} {ops : List Oper} {Q : Exit → Act → World → Prop} {st' : St} (hQ : ∀ ν' a' w', Rep bs gv st' ν' a' w' → Q .normal a' w') : ∀ {l : List Jt} {T : List It} {st : St} {ν : Nat → Option (Nat × Nat)} {a : Act} {w : World},
    runT Ar.std cx r ops l st = some (T, st') → sides T → Rep bs gv st ν a w → wpList P ops.toArray Q (l.map (·.o)) a w
  | [], T, st, ν, a, w, h, _, hr => by
    cases h
    exact hQ _ _ _ hr
  | j :: l, T, st, ν, a, w, h, hs, hr => by
    simp only [runT] at h
    split at h
    · rename_i E hE
      split at h
      · rename_i T' st'' hT
        cases h
        exact effG_ok hc hr hE hs.1 fun ν' a' w' hr' => run_ok hc hQ hT hs.2 hr'
      · cases h
    · cases h
theorem withIdx_snd : ∀ (l : List Oper) (k : Nat) (ds : List Bool), ds.length = l.length → (withIdx k l ds).map (·.o) = l
  | [], _, [], _ => rfl
  | o :: l, k, d :: ds, h => by simp [withIdx, withIdx_snd l (k + 1) ds (by simpa using h)]
  | [], _, _ :: _, h => by simp at h
  | _ :: _, _, [], h => by simp at h
theorem region_ok (hc : CxOk P cx) {id : Nat} {ops : Array Oper} {Q : Exit → Act → World → Prop} {T : List It} {st' : St} {ds : List Bool} (hds : ds.length = ops.toList.length) (h : runT Ar.std cx id ops.toList (withIdx 0 ops.toList ds) st = some (T, st')) (hs : sides T) (hr : Rep bs gv st ν a w)
    (hQ : ∀ ν' a' w', Rep bs gv st' ν' a' w' → Q .normal a' w') : (Code.region id ops false).wp P Q a w := by
  have := run_ok hc hQ h hs hr
  rw [withIdx_snd _ _ _ hds] at this
  exact wp_region_list (by simpa using this)
/-- Of all ways through a region's guards the one that is gone. -/
theorem runW_ok {A : Ar} {r : Nat} {ops : List Oper} : ∀ {l : List Oper} {i : Nat} {st : St} {K : List It → St → Prop}, runW A cx r ops i l st K → ∃ ds T st', ds.length = l.length ∧ runT A cx r ops (withIdx i l ds) st = some (T, st') ∧ (∃ T0, K T0 st' ∧ (sides T0 → sides T) ∧ (∀ f : It → Nat × Oper × List Nat × List Nat, (∀ x : It, f x = (x.i, x.o, x.wb, x.ft)) → T0.map f = T.map f))
  | [], i, st, K, h => ⟨[], [], st, rfl, rfl, [], h, id, fun _ _ => rfl⟩
  | o :: l, i, st, K, h => by
    unfold runW at h
    split at h
    · exact h.elim
    · rename_i hw
      split at h
      · rename_i E hE
        obtain ⟨ds, T, st', h1, h2, T0, h3, h4, h5⟩ := runW_ok h
        refine ⟨true :: ds, ⟨i, o, true, E.side, E.blk.map (·.1), foot cx st (uid r i) o⟩ :: T, st', by simp [h1], ?_, _ :: T0, h3, fun hs => ⟨hs.1, h4 hs.2⟩, fun f hf => ?_⟩
        · simp only [withIdx, runT, effG, hw, hE, h2]
        · simp only [List.map_cons, hf, h5 f hf]
      · exact h.elim
    · rename_i hw
      obtain ⟨ds, T, st', h1, h2, T0, h3, h4, h5⟩ := runW_ok h
      refine ⟨true :: ds, ⟨i, o, true, True, [], foot cx st (uid r i) o⟩ :: T, st', by simp [h1], ?_, _ :: T0, h3, fun hs => ⟨hs.1, h4 hs.2⟩, fun f hf => ?_⟩
      · simp only [withIdx, runT, effG, hw, h2]
        rfl
      · simp only [List.map_cons, hf, h5 f hf]
    · rename_i b hw
      split at h
      · rename_i C e he
        obtain ⟨ds, T, st', h1, h2, T0, h3, h4, h5⟩ := runW_ok h
        refine ⟨true :: ds, ⟨i, o, true, b = false ∨ C, [], foot cx st (uid r i) o⟩ :: T, st', by simp [h1], ?_, _ :: T0, h3, fun hs => ⟨hs.1, h4 hs.2⟩, fun f hf => ?_⟩
        · simp only [withIdx, runT, effG, hw, he, h2]
          rfl
        · simp only [List.map_cons, hf, h5 f hf]
      · rename_i C e p q he
        cases hb : b with
        | true =>
          obtain ⟨ds, T, st', h1, h2, T0, h3, h4, h5⟩ := runW_ok (h.1.resolve_left (by rw [hb]; decide))
          refine ⟨true :: ds, ⟨i, o, true, b = true ∧ C, p.1 :: q.map (·.1), foot cx st (uid r i) o⟩ :: T, st', by simp [h1], ?_, _ :: T0, h3, fun hs => ⟨⟨hb, hs.1⟩, h4 hs.2⟩, fun f hf => ?_⟩
          · simp only [withIdx, runT, effG, hw, he, h2]
            rfl
          · simp only [List.map_cons, hf, h5 f hf]
        | false =>
          obtain ⟨ds, T, st', h1, h2, T0, h3, h4, h5⟩ := runW_ok (h.2.resolve_left (by rw [hb]; decide))
          refine ⟨false :: ds, ⟨i, o, false, b = false, [], foot cx st (uid r i) o⟩ :: T, st', by simp [h1], ?_, _ :: T0, h3, fun hs => ⟨hb, h4 hs.2⟩, fun f hf => ?_⟩
          · simp only [withIdx, runT, effG, hw, he, h2]
            rfl
          · simp only [List.map_cons, hf, h5 f hf]
      · rename_i he
        obtain ⟨ds, T, st', h1, h2, T0, h3, h4, h5⟩ := runW_ok h
        refine ⟨true :: ds, ⟨i, o, true, b = false, [], foot cx st (uid r i) o⟩ :: T, st', by simp [h1], ?_, _ :: T0, h3, fun hs => ⟨hs.1, h4 hs.2⟩, fun f hf => ?_⟩
        · simp only [withIdx, runT, effG, hw, he, h2]
          rfl
        · simp only [List.map_cons, hf, h5 f hf]
/-- What two lists of operations have in common may change places alike. -/
theorem pairsB_eq {ops : List Oper} {T0 T : List It} (h : T0.map (fun x => (x.i, x.o, x.wb, x.ft)) = T.map (fun x => (x.i, x.o, x.wb, x.ft))) : pairsB ops T0 = pairsB ops T := by
  induction T0 generalizing T with
  | nil => cases T with
    | nil => rfl
    | cons _ _ => simp at h
  | cons x T0 ih => cases T with
    | nil => simp at h
    | cons y T =>
      simp only [List.map_cons, List.cons.injEq, Prod.mk.injEq] at h
      obtain ⟨⟨e1, e2, e3, e4⟩, h⟩ := h
      have hp : ∀ (A B : List It), A.map (fun x => (x.i, x.o, x.wb, x.ft)) = B.map (fun x => (x.i, x.o, x.wb, x.ft)) → A.all (pairB ops x) = B.all (pairB ops y) := by
        intro A
        induction A with
        | nil => intro B hB; cases B with
          | nil => rfl
          | cons _ _ => simp at hB
        | cons p A ihA => intro B hB; cases B with
          | nil => simp at hB
          | cons q B =>
            simp only [List.map_cons, List.cons.injEq, Prod.mk.injEq] at hB
            obtain ⟨⟨f1, f2, f3, f4⟩, hB⟩ := hB
            simp only [List.all_cons, ihA B hB]
            congr 1
            unfold pairB
            rw [e1, e2, e3, e4, f1, f2, f3, f4]
      unfold pairsB
      rw [hp T0 T h, ih h]
end
end Go.Proofs.Ytakebkfhigadiaa.Ry
