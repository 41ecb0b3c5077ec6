/-
  What comes in, as the reckoner holds it. No condition.
-/
import Derived.Test.YtakebkfhigadiaaRyU
import Derived.ChangeSame
import Derived.SizedLaws
namespace Go.Proofs.Ytakebkfhigadiaa.Ry
open Go Go.ChangeShapes Go.WideShapes Go.ChangeAt Go.Joins Go.RowKit
theorem rows_of {W : World} {A : Option Addr} {n c sz : Nat} {xs : List Value} {α : Type} {Q : α → List Value → Prop} {l : List α} (hz : 0 < sz) (hr : Law.Reads W W.heap.size sz A n xs) (h1 : n ≤ c) (h2 : c ≤ maxLen) (hl : l.length = n)
    (hQ : ∀ i x, l[i]? = some x → Q x ((xs.drop (i * sz)).take sz) ∧ ∀ u ∈ (xs.drop (i * sz)).take sz, u.oneCell' = true) : rowIs (G0 W) sz Q l (.slice A n c) := by
  obtain ⟨hlen, hc⟩ := hr
  subst hl
  refine ⟨A, c, rfl, h1, h2, fun hne => ?_⟩
  have hpos : 0 < l.length := List.length_pos_iff.2 hne
  obtain ⟨⟨b, o, spot⟩, rfl, hb, hcell⟩ := hc hpos
  have hsz : ∀ i x, l[i]? = some x → ((xs.drop (i * sz)).take sz).length = sz := by
    intro i x hx
    have hi : i < l.length := by
      rcases Nat.lt_or_ge i l.length with g | g
      · exact g
      · rw [List.getElem?_eq_none g] at hx; cases hx
    have : i * sz + sz ≤ l.length * sz := by
      rw [← Nat.succ_mul]
      exact Nat.mul_le_mul_right _ hi
    simp
    omega
  have hsp : spot = none := by
    have hlt : 0 < xs.length := by rw [hlen]; exact Nat.mul_pos hpos hz
    have h := hcell 0 _ (List.getElem?_eq_getElem hlt)
    cases spot with
    | none => rfl
    | some s =>
      simp [World.cell?, Addr.add] at h
      split at h <;> simp at h
  subst hsp
  refine ⟨b, o, rfl, fun i x hx => ⟨_, hsz i x hx, (hQ i x hx).1, fun j u hu => ⟨⟨hb, fun _ => .inl trivial, fun _ _ _ _ h => by cases h⟩, ?_, (hQ i x hx).2 u (List.mem_of_getElem? hu)⟩⟩⟩
  · rw [List.getElem?_take] at hu
    split at hu
    · rw [List.getElem?_drop] at hu
      have := hcell _ u hu
      rw [add_at] at this
      rw [Nat.add_assoc]
      exact this
    · cases hu
theorem ints_of {W : World} {A : Option Addr} {n c : Nat} {k : IntKind} {l : List Int} (hr : Law.Reads W W.heap.size 1 A n (l.map (Value.int k))) (h1 : n ≤ c ∧ c ≤ maxLen) : l.length = n ∧ (SC.sl none (.ints k l)).is (G0 W) (.slice A n c) := by
  have hl : l.length = n := by have := hr.1; simpa using this
  refine ⟨hl, rows_of (Nat.one_pos) hr h1.1 h1.2 hl fun i x hx => ?_, trivial⟩
  have hd : ((l.map (Value.int k)).drop (i * 1)).take 1 = [.int k x] := by
    rw [Nat.mul_one, ← List.map_drop, ← List.map_take]
    have : (l.drop i).take 1 = [x] := by
      have hi : i < l.length := by
        rcases Nat.lt_or_ge i l.length with g | g
        · exact g
        · rw [List.getElem?_eq_none g] at hx; cases hx
      rw [List.drop_eq_getElem_cons hi]
      rw [List.getElem?_eq_getElem hi] at hx
      cases hx
      rfl
    rw [this]
    rfl
  rw [hd]
  exact ⟨rfl, fun u hu => by rw [List.mem_singleton] at hu; subst hu; rfl⟩
theorem bools_of {W : World} {A : Option Addr} {n c : Nat} {l : List Bool} (hr : Law.Reads W W.heap.size 1 A n (l.map Value.bool)) (h1 : n ≤ c ∧ c ≤ maxLen) : l.length = n ∧ (SC.sl none (.recs (.bool .nil) (l.map fun b => [D.bool b]))).is (G0 W) (.slice A n c) := by
  have hl : l.length = n := by have := hr.1; simpa using this
  refine ⟨hl, rows_of (sz := (Sh.bool .nil).size) Nat.one_pos hr h1.1 h1.2 (by simpa using hl) fun i x hx => ?_, trivial⟩
  rw [List.getElem?_map] at hx
  obtain ⟨b, hb, rfl⟩ := Option.map_eq_some_iff.1 hx
  have hd : ((l.map Value.bool).drop (i * (Sh.bool .nil).size)).take (Sh.bool .nil).size = [.bool b] := by
    show ((l.map Value.bool).drop (i * 1)).take 1 = _
    rw [Nat.mul_one, ← List.map_drop, ← List.map_take]
    have : (l.drop i).take 1 = [b] := by
      have hi : i < l.length := by
        rcases Nat.lt_or_ge i l.length with g | g
        · exact g
        · rw [List.getElem?_eq_none g] at hb; cases hb
      rw [List.drop_eq_getElem_cons hi]
      rw [List.getElem?_eq_getElem hi] at hb
      cases hb
      rfl
    rw [this]
    rfl
  rw [hd]
  exact ⟨⟨[], rfl, rfl⟩, fun u hu => by rw [List.mem_singleton] at hu; subst hu; rfl⟩

section
variable {H : Type} {enc : TypeId × Value → H} {P : Program} {W : World}
theorem row_in {r : Reach} {b0 : Nat} {t e : TypeId} {sz : Nat} {v : Value} {d : DataW H} {p : List MemPlace} {α : Type} [Inhabited α] {Q : α → List Value → Prop} (ht : P.underlying t = some (.slice e)) (hc : P.cellsOf e = sz) (hz : 0 < sz) (hv : Value.okWide P W r b0 t v)
    (h : DataW.Trod enc P W 0 (fun _ => true) true t v d p) (hel : ∀ fuel cs x, DataW.trod enc P W 0 (fun _ => true) true fuel e cs = some x → ∃ y : α, Q y cs ∧ ∀ u ∈ cs, u.oneCell' = true) :
    ∃ (A : Option Addr) (n c : Nat) (l : List α), v = .slice A n c ∧ rowIs (G0 W) sz Q l (.slice A n c) := by
  obtain ⟨A, n, c, rfl⟩ := okWide_slice ht hv
  obtain ⟨fuel, hf⟩ := h
  rcases Go.Deep.open_slice ht hf with ⟨h0, _⟩ | ⟨a, len, cap, m, n', D, Pl, h0, _, hl, hm, hmm, _, hx⟩
  · simp only [Value.cells, List.cons.injEq, Value.slice.injEq, and_true] at h0
    obtain ⟨rfl, rfl, rfl⟩ := h0
    exact ⟨none, 0, 0, [], rfl, none, 0, rfl, Nat.le_refl _, by unfold maxLen; omega, fun h => absurd rfl h⟩
  · simp only [Value.cells, List.cons.injEq, Value.slice.injEq, and_true] at h0
    obtain ⟨rfl, rfl, rfl⟩ := h0
    have hmc : m = c := by simpa using hmm
    subst hmc
    obtain ⟨f, hf⟩ := Go.Deep.choose_lt (α := α) (n := m) (p := fun i y => ∃ cs : List Value, Q y cs ∧ (∀ u ∈ cs, u.oneCell' = true) ∧ cs.length = sz ∧ ∀ j, j < sz → W.cell? ((a.add (i * sz)).add j) = cs[j]?) (fun i hi => by
      obtain ⟨cs', h1, h2⟩ := hx i hi
      rw [hc] at h1
      obtain ⟨_, c2, c3⟩ := World.cells?_some h1
      obtain ⟨y, q1, q2⟩ := hel _ _ _ h2
      exact ⟨y, cs', q1, q2, c2, c3⟩)
    refine ⟨some a, n, m, (List.range n).map f, rfl, some a, m, by simp, by simpa using hl, hm, fun hne => ?_⟩
    have hn : 0 < n := by
      rcases Nat.eq_zero_or_pos n with h | h
      · subst h; exact absurd rfl hne
      · exact h
    obtain ⟨b, o, spot⟩ := a
    have hsp : spot = none := by
      obtain ⟨cs, _, _, c2, c3⟩ := hf 0 (by omega)
      have h := c3 0 hz
      cases spot with
      | none => rfl
      | some s =>
        rw [List.getElem?_eq_getElem (by omega)] at h
        simp [World.cell?, Addr.add] at h
        split at h <;> simp at h
    subst hsp
    have hadd : ∀ i j, (((⟨b, o, none⟩ : Addr).add (i * sz)).add j) = ⟨b, o + i * sz + j, none⟩ := by
      intro i j
      rw [add_at, add_at]
    have hb : b < W.heap.size := by
      obtain ⟨cs, _, _, c2, c3⟩ := hf 0 (by omega)
      have h := c3 0 hz
      rw [List.getElem?_eq_getElem (by omega), hadd] at h
      exact World.block_lt_of_cell? W _ h
    refine ⟨b, o, rfl, fun i y hy => ?_⟩
    rw [List.getElem?_map] at hy
    obtain ⟨i', hi, rfl⟩ := Option.map_eq_some_iff.1 hy
    have hi2 := (List.getElem?_eq_some_iff.1 hi)
    obtain ⟨hi3, hi4⟩ := hi2
    simp at hi3 hi4
    subst hi4
    obtain ⟨cs, q1, q2, c2, c3⟩ := hf i (by omega)
    refine ⟨cs, c2, q1, fun j u hu => ⟨⟨hb, fun _ => .inl trivial, fun _ _ _ _ h => by cases h⟩, ?_, q2 u (List.mem_of_getElem? hu)⟩⟩
    · have hj : j < sz := by rw [← c2]; exact get_lt hu
      have := c3 j hj
      rw [hadd] at this
      exact this.trans hu
/-- Structs of two numbers. -/
theorem ii_in {G : Gm} {e : TypeId} {f0 f1 : Field} {k0 k1 : IntKind} (hs : P.underlying e = some (.struct #[f0, f1])) (h0 : P.underlying f0.type = some (.int k0)) (h1 : P.underlying f1.type = some (.int k1)) (ho0 : f0.offset = 0 ∧ P.cellsOf f0.type = 1) (ho1 : f1.offset = 1 ∧ P.cellsOf f1.type = 1) (hc : P.cellsOf e = 2)
    (fuel : Nat) (cs : List Value) (x : DataW H × List MemPlace) (h : DataW.trod enc P W 0 (fun _ => true) true fuel e cs = some x) : ∃ y : E, valsIs G (.int k0 (.int k1 .nil)) y 0 cs ∧ ∀ u ∈ cs, u.oneCell' = true := by
  obtain ⟨y0, y1, n, _, hl, g0, g1⟩ := trod_struct2 hs h
  rw [hc] at hl
  match cs, hl with
  | [u, v], _ =>
    rw [ho0.1, ho0.2] at g0
    rw [ho1.1, ho1.2] at g1
    obtain ⟨a, ha, _⟩ := DataW.trod_int h0 g0
    obtain ⟨b, hb, _⟩ := DataW.trod_int h1 g1
    simp at ha hb
    subst ha hb
    exact ⟨[.int a, .int b], ⟨_, rfl, _, rfl, rfl⟩, fun u hu => by simp at hu; rcases hu with rfl | rfl <;> rfl⟩
/-- No slice that comes in is longer than a machine's memory. -/
theorem short_of {A : Option Addr} {n c j : Nat} {t e : TypeId} {ts : List TypeId} {d : DataW H} {ds : List (DataW H)} {p : List MemPlace} (hu : P.underlying t = some (.slice e)) (hb : 1 ≤ P.bytesOf e) (hz : (DataW.weightsEach P ts ds).all (· ≤ reachBytes) = true)
    (ht : ts[j]? = some t) (hd : ds[j]? = some d) (h : DataW.Trod enc P W 0 (fun _ => true) true t (.slice A n c) d p) : n ≤ 140737488355328 := by
  obtain ⟨fuel, hf⟩ := h
  rcases Go.Deep.open_slice hu hf with ⟨h0, _⟩ | ⟨a, len, cap, m, n', D, Pl, h0, _, hl, hm, hmm, hx, _⟩
  · simp only [Value.cells, List.cons.injEq, Value.slice.injEq, and_true] at h0
    omega
  · simp only [Value.cells, List.cons.injEq, Value.slice.injEq, and_true] at h0
    obtain ⟨rfl, rfl, rfl⟩ := h0
    simp only [Prod.mk.injEq] at hx
    rw [hx.1] at hd
    have h1 := sized_slice hz ht hd hu
    have h2 := reachBytes_lt
    have h3 : (n + ((List.range (m - n)).map fun j => D (n + j)).length) * 1 ≤ (n + ((List.range (m - n)).map fun j => D (n + j)).length) * P.bytesOf e := Nat.mul_le_mul_left _ hb
    simp only [List.length_map, List.length_range] at h1 h3
    omega
end
end Go.Proofs.Ytakebkfhigadiaa.Ry
