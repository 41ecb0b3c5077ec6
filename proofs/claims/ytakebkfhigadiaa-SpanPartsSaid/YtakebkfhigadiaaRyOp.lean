/-
  What comes in of any shape, as the reckoner holds it: numbers, truths, strings, structs, arrays, slices of them. No condition.
-/
import Derived.Test.YtakebkfhigadiaaRyIn
import Derived.Test.YtakebkfhigadiaaRyZ
import Derived.Lib.SmallJoins
namespace Go.Proofs.Ytakebkfhigadiaa.Ry
open Go Go.ChangeShapes Go.WideShapes Go.ChangeAt Go.Joins Go.RowKit

/-- Fields lie one behind the other. -/
def contig (P : Program) : List Field → Nat → Option Nat
  | [], o => some o
  | f :: fs, o => if f.offset == o then contig P fs (o + P.cellsOf f.type) else none
def shL (g : TypeId → Sh → Option Sh) : List TypeId → Sh → Option Sh
  | [], r => some r
  | t :: ts, r => match shL g ts r with
    | some q => g t q
    | none => none
/-- A type's shape, ahead of another one's. -/
def shP (P : Program) : Nat → TypeId → Sh → Option Sh
  | 0, _, _ => none
  | f + 1, t, r => match P.underlying t with
    | some (.int k) => some (.int k r)
    | some .bool => some (.bool r)
    | some .string => some (.str r)
    | some (.slice e) => match P.underlying e with
      | some (.int k) => if P.cellsOf e == 1 then some (.ints k r) else none
      | _ => match shP P f e .nil with
        | some s => if s.size == P.cellsOf e && 0 < s.size then some (.recs s r) else none
        | none => none
    | some (.struct fs) => if contig P fs.toList 0 == some (P.cellsOf t) then shL (shP P f) (fs.toList.map (·.type)) r else none
    | some (.array n e) => if P.cellsOf t == n * P.cellsOf e then shL (shP P f) (List.replicate n e) r else none
    | _ => none
/-- Numbers are within their kinds. -/
def wfS : Sh → E → Nat → Prop
  | .nil, _, _ => True
  | .int k r, x, j => (Lit.int k (ri x j)).wf = true ∧ wfS r x (j + 1)
  | .bool r, x, j => wfS r x (j + 1)
  | .str r, x, j => wfS r x (j + 1)
  | .ints k r, x, j => (∀ n ∈ rl x j, (Lit.int k n).wf = true) ∧ wfS r x (j + 1)
  | .recs s r, x, j => (∀ y ∈ rr x j, wfS s y 0) ∧ wfS r x (j + 1)
def Fits (G : Gm) (s r : Sh) (cs : List Value) : Prop :=
  ∃ ys : List D, ys.length = cs.length ∧ (∀ u ∈ cs, u.oneCell' = true) ∧ ∀ (pre z : List D) (vs : List Value), valsIs G r (pre ++ (ys ++ z)) (pre.length + ys.length) vs → wfS r (pre ++ (ys ++ z)) (pre.length + ys.length) → valsIs G s (pre ++ (ys ++ z)) pre.length (cs ++ vs) ∧ wfS s (pre ++ (ys ++ z)) pre.length
section
variable {H : Type} {enc : TypeId × Value → H} {P : Program} {W : World} {G : Gm}
theorem fits_one {s r : Sh} {u : Value} {d : D} (hu : u.oneCell' = true) (h : ∀ (x : E) (j : Nat) (vs : List Value), x[j]? = some d → valsIs G r x (j + 1) vs → wfS r x (j + 1) → valsIs G s x j (u :: vs) ∧ wfS s x j) : Fits G s r [u] := by
  refine ⟨[d], rfl, fun v hv => by rw [List.mem_singleton] at hv; rw [hv]; exact hu, fun pre z vs hvs hw => h _ _ _ ?_ hvs hw⟩
  simp
theorem fits_all {g : TypeId → Sh → Option Sh} {T : TypeId → List Value → Prop} (hg : ∀ t r s, g t r = some s → ∀ cs, T t cs → Fits G s r cs) : ∀ (ts : List TypeId) (r s : Sh), shL g ts r = some s → ∀ css : List (List Value), css.length = ts.length → (∀ (i : Nat) (t : TypeId) (c : List Value), ts[i]? = some t → css[i]? = some c → T t c) → Fits G s r css.flatten
  | [], r, s, h, css, hl, _ => by
    cases h
    have : css = [] := List.eq_nil_of_length_eq_zero hl
    subst this
    exact ⟨[], rfl, fun u hu => (by cases hu), fun pre z vs hvs hw => by simpa using ⟨hvs, hw⟩⟩
  | t :: ts, r, s, h, css, hl, hT => by
    match css, hl with
    | c :: css, hl =>
      unfold shL at h
      split at h
      · rename_i q hq
        obtain ⟨ys', h1', h2', h3'⟩ := fits_all hg ts r q hq css (by simpa using hl) (fun i t c ht hc => hT (i + 1) t c (by simpa using ht) (by simpa using hc))
        obtain ⟨ys, h1, h2, h3⟩ := hg t q s h c (hT 0 t c rfl rfl)
        refine ⟨ys ++ ys', by simp [h1, h1'], fun u hu => ?_, fun pre z vs hvs hw => ?_⟩
        · rw [List.flatten_cons] at hu
          rcases List.mem_append.1 hu with hu | hu
          · exact h2 u hu
          · exact h2' u hu
        · have e1 : pre ++ (ys ++ ys' ++ z) = pre ++ ys ++ (ys' ++ z) := by simp
          have e2 : pre.length + (ys ++ ys').length = (pre ++ ys).length + ys'.length := by simp [Nat.add_assoc]
          rw [e1, e2] at hvs hw
          obtain ⟨k, kw⟩ := h3' (pre ++ ys) z vs hvs hw
          have e3 : pre ++ ys ++ (ys' ++ z) = pre ++ (ys ++ (ys' ++ z)) := by simp
          rw [e3, List.length_append] at k kw
          have k2 := h3 pre (ys' ++ z) _ k kw
          rw [e1, e3, List.flatten_cons, List.append_assoc]
          exact k2
      · cases h
theorem contig_ge : ∀ {fs : List Field} {o n : Nat}, contig P fs o = some n → o ≤ n
  | [], _, _, h => by cases h; exact Nat.le_refl _
  | f :: fs, o, n, h => by
    unfold contig at h
    split at h
    · have := contig_ge h
      omega
    · cases h
theorem contig_cut : ∀ {fs : List Field} {o n : Nat} {cs : List Value}, contig P fs o = some n → ((fs.map fun f => (cs.drop f.offset).take (P.cellsOf f.type))).flatten = (cs.drop o).take (n - o)
  | [], o, n, cs, h => by cases h; simp
  | f :: fs, o, n, cs, h => by
    unfold contig at h
    split at h
    · rename_i e
      have e := beq_iff_eq.1 e
      have hge := contig_ge h
      rw [List.map_cons, List.flatten_cons, contig_cut h, e]
      have e2 : n - o = P.cellsOf f.type + (n - (o + P.cellsOf f.type)) := by omega
      rw [e2, List.take_add, List.drop_drop]
    · cases h
theorem cut_all (sz : Nat) (cs : List Value) : ∀ n : Nat, ((List.range n).map fun i => (cs.drop (i * sz)).take sz).flatten = cs.take (n * sz)
  | 0 => by simp
  | n + 1 => by
    rw [List.range_succ, List.map_append, List.flatten_append, cut_all sz cs n, Nat.succ_mul, List.take_add]
    simp
theorem row_in2 {t e : TypeId} {sz fuel : Nat} {cs : List Value} {x : DataW H × List MemPlace} {α : Type} [Inhabited α] {Q : α → List Value → Prop} {R : α → Prop} (ht : P.underlying t = some (.slice e)) (hc : P.cellsOf e = sz) (hz : 0 < sz)
    (hf : DataW.trod enc P W 0 (fun _ => true) true fuel t cs = some x) (hel : ∀ fuel cs x, DataW.trod enc P W 0 (fun _ => true) true fuel e cs = some x → ∃ y : α, Q y cs ∧ (∀ u ∈ cs, u.oneCell' = true) ∧ R y) :
    ∃ (v : Value) (l : List α), cs = [v] ∧ v.oneCell' = true ∧ rowIs (G0 W) sz Q l v ∧ ∀ y ∈ l, R y := by
  rcases Go.Deep.open_slice ht hf with ⟨rfl, _⟩ | ⟨a, len, cap, m, n', D, Pl, rfl, _, hl, hm, hmm, _, hx⟩
  · exact ⟨_, [], rfl, rfl, ⟨none, 0, rfl, Nat.le_refl _, by unfold maxLen; omega, fun h => absurd rfl h⟩, fun y hy => (by cases hy)⟩
  · have hmc : m = cap := by simpa using hmm
    subst hmc
    obtain ⟨f, hf⟩ := Go.Deep.choose_lt (α := α) (n := m) (p := fun i y => ∃ cs : List Value, (Q y cs ∧ R y) ∧ (∀ u ∈ cs, u.oneCell' = true) ∧ cs.length = sz ∧ ∀ j, j < sz → W.cell? ((a.add (i * sz)).add j) = cs[j]?) (fun i hi => by
      obtain ⟨cs', h1, h2⟩ := hx i hi
      rw [hc] at h1
      obtain ⟨_, c2, c3⟩ := World.cells?_some h1
      obtain ⟨y, q1, q2, q3⟩ := hel _ _ _ h2
      exact ⟨y, cs', ⟨q1, q3⟩, q2, c2, c3⟩)
    refine ⟨_, (List.range len).map f, rfl, rfl, ⟨some a, m, by simp, by simpa using hl, hm, fun hne => ?_⟩, fun y hy => by
      obtain ⟨i, hi, rfl⟩ := List.mem_map.1 hy
      obtain ⟨_, q, _⟩ := hf i (by have := List.mem_range.1 hi; omega)
      exact q.2⟩
    have hn : 0 < len := by
      rcases Nat.eq_zero_or_pos len with h | h
      · subst h; exact absurd rfl hne
      · exact h
    obtain ⟨b, o, spot⟩ := a
    have hsp : spot = none := by
      obtain ⟨cs, _, _, c2, c3⟩ := hf 0 (by omega)
      have h := c3 0 hz
      cases spot with
      | none => rfl
      | some s =>
        rw [List.getElem?_eq_getElem (by omega)] at h
        simp [World.cell?, Addr.add] at h
        split at h <;> simp at h
    subst hsp
    have hadd : ∀ i j, (((⟨b, o, none⟩ : Addr).add (i * sz)).add j) = ⟨b, o + i * sz + j, none⟩ := by
      intro i j
      rw [add_at, add_at]
    have hb : b < W.heap.size := by
      obtain ⟨cs, _, _, c2, c3⟩ := hf 0 (by omega)
      have h := c3 0 hz
      rw [List.getElem?_eq_getElem (by omega), hadd] at h
      exact World.block_lt_of_cell? W _ h
    refine ⟨b, o, rfl, fun i y hy => ?_⟩
    rw [List.getElem?_map] at hy
    obtain ⟨i', hi, rfl⟩ := Option.map_eq_some_iff.1 hy
    obtain ⟨hi3, hi4⟩ := List.getElem?_eq_some_iff.1 hi
    simp at hi3 hi4
    subst hi4
    obtain ⟨cs, q1, q2, c2, c3⟩ := hf i (by omega)
    refine ⟨cs, c2, q1.1, fun j u hu => ⟨⟨hb, fun _ => .inl trivial, fun _ _ _ _ h => by cases h⟩, ?_, q2 u (List.mem_of_getElem? hu)⟩⟩
    have hj : j < sz := by rw [← c2]; exact get_lt hu
    have := c3 j hj
    rw [hadd] at this
    exact this.trans hu
/-- Whatever can be read of a type that has a shape is of that shape. -/
theorem sh_in : ∀ (f : Nat) {t : TypeId} {r s : Sh}, shP P f t r = some s → ∀ {fuel : Nat} {cs : List Value} {x : DataW H × List MemPlace}, DataW.trod enc P W 0 (fun _ => true) true fuel t cs = some x → Fits (G0 W) s r cs
  | 0, t, r, s, h, _, _, _, _ => by cases h
  | f + 1, t, r, s, h, fuel, cs, x, hx => by
    unfold shP at h
    split at h
    · rename_i k hu
      cases h
      obtain ⟨n, rfl, _, hwf⟩ := DataW.trod_int hu hx
      exact fits_one (d := .int n) rfl fun y j vs hy hvs hw => ⟨⟨vs, by simp [ri, hy], hvs⟩, by simpa [ri, hy] using hwf, hw⟩
    · rename_i hu
      cases h
      obtain ⟨n, rfl, _⟩ := DataW.trod_bool hu hx
      exact fits_one (d := .bool n) rfl fun y j vs hy hvs hw => ⟨⟨vs, by simp [rb, hy], hvs⟩, hw⟩
    · rename_i hu
      cases h
      obtain ⟨n, rfl, _⟩ := DataW.trod_string hu hx
      exact fits_one (d := .str (bytesL n)) rfl fun y j vs hy hvs hw => ⟨⟨n, vs, rfl, by simp [rs, hy], hvs⟩, hw⟩
    · rename_i e hu
      split at h
      · rename_i k he
        split at h
        · rename_i hc
          cases h
          obtain ⟨v, l, rfl, hv, hrow, hwf⟩ := row_in2 (α := Int) (Q := fun n us => us = [.int k n]) (R := fun n => (Lit.int k n).wf = true) hu (beq_iff_eq.1 hc) Nat.one_pos hx (fun fuel cs x hx => by
            obtain ⟨n, rfl, _, hwf⟩ := DataW.trod_int he hx
            exact ⟨n, rfl, fun u hu => (by rw [List.mem_singleton] at hu; subst hu; rfl), hwf⟩)
          exact fits_one (d := .ints l) hv fun y j vs hy hvs hw => ⟨⟨v, vs, rfl, by simpa [rl, hy, intsIs] using hrow, hvs⟩, by simpa [rl, hy] using hwf, hw⟩
        · cases h
      · split at h
        · rename_i s' hs'
          split at h
          · rename_i hc
            cases h
            simp only [Bool.and_eq_true, beq_iff_eq, decide_eq_true_eq] at hc
            obtain ⟨v, l, rfl, hv, hrow, hwf⟩ := row_in2 (α := E) (Q := fun y us => valsIs (G0 W) s' y 0 us) (R := fun y => wfS s' y 0) hu hc.1.symm hc.2 hx (fun fuel cs x hx => by
              obtain ⟨ys, h1, h2, h3⟩ := sh_in f hs' hx
              have := h3 [] [] [] rfl trivial
              refine ⟨ys, ?_, h2, ?_⟩
              · simpa using this.1
              · simpa using this.2)
            exact fits_one (d := .recs l) hv fun y j vs hy hvs hw => ⟨⟨v, vs, rfl, by simpa [rr, hy] using hrow, hvs⟩, by simpa [rr, hy] using hwf, hw⟩
          · cases h
        · cases h
    · rename_i fs hu
      split at h
      · rename_i hc
        have hc := beq_iff_eq.1 hc
        obtain ⟨xs, n, _, _, hl, hxl, hxs⟩ := DataW.trod_struct hu hx
        have e := contig_cut (cs := cs) hc
        rw [List.drop_zero, Nat.sub_zero, ← hl, List.take_length] at e
        rw [← e]
        refine fits_all (T := fun t c => ∃ x, DataW.trod enc P W 0 (fun _ => true) true n t c = some x) (fun t r s hs cs ⟨x, hx⟩ => sh_in f hs hx) _ _ _ h _ (by simp) (fun i t c h1 h2 => ?_)
        rw [List.getElem?_map] at h1 h2
        obtain ⟨fd, g1, rfl⟩ := Option.map_eq_some_iff.1 h1
        rw [g1] at h2
        cases h2
        have := hxs i fd (by simpa using g1)
        have hi : i < xs.length := by
          rw [hxl]
          have := (List.getElem?_eq_some_iff.1 g1).1
          simpa using this
        rw [List.getElem?_eq_getElem hi] at this
        exact ⟨_, this⟩
      · cases h
    · rename_i n e hu
      split at h
      · rename_i hc
        have hc := beq_iff_eq.1 hc
        cases fuel with
        | zero => simp [DataW.trod] at hx
        | succ fuel =>
          unfold DataW.trod at hx
          rw [hu] at hx
          simp only at hx
          split at hx
          · rename_i hl
            obtain ⟨xs, hm, _⟩ := Option.map_eq_some_iff.1 hx
            have e := cut_all (P.cellsOf e) cs n
            rw [← hc, ← hl, List.take_length] at e
            rw [← e]
            refine fits_all (T := fun t c => ∃ x, DataW.trod enc P W 0 (fun _ => true) true fuel t c = some x) (fun t r s hs cs ⟨x, hx⟩ => sh_in f hs hx) _ _ _ h _ (by simp) (fun i t c h1 h2 => ?_)
            rw [List.getElem?_replicate] at h1
            split at h1
            · rename_i hi
              cases h1
              rw [List.getElem?_map, List.getElem?_range hi] at h2
              cases h2
              have hlen := mapM_some_length hm
              have hg := mapM_some_get hm i i (List.getElem?_range hi)
              have hi2 : i < xs.length := by rw [hlen]; simpa using hi
              rw [List.getElem?_eq_getElem hi2] at hg
              exact ⟨_, hg⟩
            · cases h1
          · cases hx
      · cases h
    · cases h
/-- A slice that comes in. -/
theorem sl_any {r : Reach} {b0 : Nat} {t e : TypeId} {s : Sh} {v : Value} {d : DataW H} {p : List MemPlace} (ht : P.underlying t = some (.slice e)) (hs : shP P 12 e .nil = some s) (hz : (s.size == P.cellsOf e && 0 < s.size) = true) (hv : Value.okWide P W r b0 t v)
    (h : DataW.Trod enc P W 0 (fun _ => true) true t v d p) : ∃ (A : Option Addr) (n c : Nat) (l : List E), v = .slice A n c ∧ l.length = n ∧ (SC.sl none (.recs s l)).is (G0 W) (.slice A n c) ∧ ∀ y ∈ l, wfS s y 0 := by
  obtain ⟨A, n, c, rfl⟩ := okWide_slice ht hv
  obtain ⟨fuel, hf⟩ := h
  simp only [Bool.and_eq_true, beq_iff_eq, decide_eq_true_eq] at hz
  obtain ⟨v, l, e1, _, hrow, hwf⟩ := row_in2 (α := E) (Q := fun y us => valsIs (G0 W) s y 0 us) (R := fun y => wfS s y 0) ht hz.1.symm hz.2 hf (fun fuel cs x hx => by
    obtain ⟨ys, h1, h2, h3⟩ := sh_in 12 hs hx
    have := h3 [] [] [] rfl trivial
    refine ⟨ys, ?_, h2, ?_⟩
    · simpa using this.1
    · simpa using this.2)
  have e2 : v = .slice A n c := by
    have : [Value.slice A n c] = [v] := e1
    simpa using this.symm
  subst e2
  refine ⟨A, n, c, l, rfl, ?_, ⟨hrow, trivial⟩, hwf⟩
  obtain ⟨A', c', e3, _⟩ := hrow
  cases e3
  rfl
theorem okWide_parts {r : Reach} {b0 : Nat} {t : TypeId} {v : Value} (ht : (match P.underlying t with | some (.struct _) | some (.array _ _) => true | _ => false) = true) (h : Value.okWide P W r b0 t v) : ∃ cs, v = .agg cs := by
  unfold Value.okWide at h
  split at h
  · obtain ⟨cs, h1, _⟩ := h
    exact ⟨cs, h1⟩
  · obtain ⟨cs, h1, _⟩ := h
    exact ⟨cs, h1⟩
  · rename_i q1 q2
    split at ht
    · rename_i fs e
      exact absurd e (q1 fs)
    · rename_i n e1 e
      exact absurd e (q2 n e1)
    · cases ht
/-- A struct or an array that comes in. -/
theorem agg_any {r : Reach} {b0 : Nat} {t : TypeId} {s : Sh} {v : Value} {d : DataW H} {p : List MemPlace} (ht : (match P.underlying t with | some (.struct _) | some (.array _ _) => true | _ => false) = true) (hs : shP P 12 t .nil = some s) (hz : s.size = P.cellsOf t) (hv : Value.okWide P W r b0 t v)
    (h : DataW.Trod enc P W 0 (fun _ => true) true t v d p) : ∃ y : E, (SA.agg (shCells Ar.std s y 0 s.size)).is (G0 W) v ∧ wfS s y 0 := by
  obtain ⟨cs, rfl⟩ := okWide_parts ht hv
  obtain ⟨fuel, hf⟩ := h
  obtain ⟨ys, h1, h2, h3⟩ := sh_in 12 hs hf
  have h4 := h3 [] [] [] rfl trivial
  have ec : (Value.agg cs).cells.toList = cs.toList := rfl
  rw [ec] at h1 h2 h4
  have hlen : cs.toList.length ≤ s.size := by
    have hg : ∀ {s : Sh} {x : E} {j : Nat} {vs : List Value}, valsIs (G0 W) s x j vs → vs.length = s.size := by
      intro s
      induction s with
      | nil => intro x j vs h; cases h; rfl
      | int k r ih => rintro x j vs ⟨us, rfl, h⟩; simp [Sh.size, ih h]
      | bool r ih => rintro x j vs ⟨us, rfl, h⟩; simp [Sh.size, ih h]
      | str r ih => rintro x j vs ⟨u, us, rfl, _, h⟩; simp [Sh.size, ih h]
      | ints k r ih => rintro x j vs ⟨u, us, rfl, _, h⟩; simp [Sh.size, ih h]
      | recs s r _ ih => rintro x j vs ⟨u, us, rfl, _, h⟩; simp [Sh.size, ih h]
    have := hg h4.1
    simp at this ⊢
    omega
  refine ⟨ys, ⟨cs.toList, by simp, ?_⟩, by simpa using h4.2⟩
  have := shCells_is (G := G0 W) s.size (x := ys) (j := 0) (vs := cs.toList) (by simpa using h4.1) h2 (Nat.le_refl _)
  rwa [List.take_of_length_le (by simpa using hlen)] at this
end
end Go.Proofs.Ytakebkfhigadiaa.Ry
