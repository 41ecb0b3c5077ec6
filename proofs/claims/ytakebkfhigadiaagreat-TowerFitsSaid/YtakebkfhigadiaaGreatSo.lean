
/-
  The library's sort of edges, as a contract of the reckoner's: the row holds a permutation of what it held, sorted. No condition.
-/
import Derived.Test.YtakebkfhigadiaaGreatSl
import Derived.Test.YtakebkfhigadiaaGreatEcX
import Derived.Test.YtakebkfhigadiaaGreatRyU
namespace Go.Proofs.YtakebkfhigadiaaGreat.So
open Go Go.Shelf Go.RowKit Go.Lib Go.Sort Go.Proofs.YtakebkfhigadiaaGreat.Ry Go.Proofs.YtakebkfhigadiaaGreat.EcX Go.Proofs.YtakebkfhigadiaaGreat.Cmp

abbrev SE : Sh := .int .i64 (.int .i64 (.int .i64 .nil))
def encE (x : E) : List Value := [.int .i64 (ri x 0), .int .i64 (ri x 1), .int .i64 (ri x 2)]
def cfE (x y : E) : Int := cmpF (ri x 0) (ri x 1) (ri x 2) (ri y 0) (ri y 1) (ri y 2)
def aheadE (x y : E) : Prop := ri x 2 < ri y 2 ∨ ri x 2 = ri y 2 ∧ (ri x 0 < ri y 0 ∨ ri x 0 = ri y 0 ∧ ri x 1 < ri y 1)
theorem ltE (x y : E) : ltOf cfE x y = true ↔ aheadE x y := by
  unfold ltOf cfE aheadE
  rw [decide_eq_true_eq]
  exact cmpF_lt _ _ _ _ _ _
theorem ltE_no (x y : E) : ltOf cfE x y = false ↔ ¬ aheadE x y := by
  rw [← ltE, Bool.not_eq_true]
theorem swoE : SWO (ltOf cfE) where
  irrefl x := by
    rw [ltE_no]
    unfold aheadE
    omega
  trans x y z h1 h2 := by
    rw [ltE] at *
    unfold aheadE at *
    omega
  ntrans x y z h1 h2 := by
    rw [ltE_no] at *
    unfold aheadE at *
    omega
def srtE (l : List E) : List E := (pdq (ltOf cfE) l.toArray 0 l.toArray.size (Lib.bitLen l.toArray.size) true true).toList
theorem srt_all (l : List E) : (srtE l).length = l.length ∧ (srtE l).Perm l ∧ (srtE l).Pairwise fun x y => ¬ aheadE y x := by
  have h := pdq_sorts (ltOf cfE) swoE l.toArray 0 l.toArray.size (Lib.bitLen l.toArray.size) true true (Nat.zero_le _) (Nat.le_refl _) (Or.inl rfl)
  obtain ⟨⟨h1, _, h3⟩, h4⟩ := h
  have hl : (srtE l).length = l.length := by
    unfold srtE
    rw [Array.length_toList, h1]
    rfl
  refine ⟨hl, ?_, ?_⟩
  · have e1 : ∀ a : Array E, (a.extract 0 a.size).toList = a.toList := fun a => by rw [Array.extract_size]
    have e2 := e1 (pdq (ltOf cfE) l.toArray 0 l.toArray.size (Lib.bitLen l.toArray.size) true true)
    rw [h1] at e2
    rw [e1, e2] at h3
    exact h3
  · rw [List.pairwise_iff_getElem]
    intro i j hi hj hij
    have h5 := h4 i j (Nat.zero_le _) hij (by rw [hl] at hj; exact hj)
    rw [ltE_no] at h5
    have g : ∀ k (hk : k < (srtE l).length), (pdq (ltOf cfE) l.toArray 0 l.toArray.size (Lib.bitLen l.toArray.size) true true)[k]! = (srtE l)[k] := fun k hk => by
      have hk' : k < (pdq (ltOf cfE) l.toArray 0 l.toArray.size (Lib.bitLen l.toArray.size) true true).size := by
        rw [h1]
        rw [hl] at hk
        exact hk
      rw [getElem!_pos (pdq (ltOf cfE) l.toArray 0 l.toArray.size (Lib.bitLen l.toArray.size) true true) k hk']
      rfl
    rw [g i hi, g j hj] at h5
    exact h5
/-! ## The row -/
theorem drop3 {α : Type} {L : List α} {k : Nat} {a b c : α} (h0 : L[k]? = some a) (h1 : L[k + 1]? = some b) (h2 : L[k + 2]? = some c) : (L.drop k).take 3 = [a, b, c] := by
  obtain ⟨k0, rfl⟩ := List.getElem?_eq_some_iff.1 h0
  obtain ⟨k1, rfl⟩ := List.getElem?_eq_some_iff.1 h1
  obtain ⟨k2, rfl⟩ := List.getElem?_eq_some_iff.1 h2
  rw [List.drop_eq_getElem_cons k0, List.drop_eq_getElem_cons k1, List.drop_eq_getElem_cons k2]
  rfl
theorem take3 {α : Type} {L : List α} {k : Nat} {a b c : α} (h : (L.drop k).take 3 = [a, b, c]) : L[k]? = some a ∧ L[k + 1]? = some b ∧ L[k + 2]? = some c := by
  have g : ∀ t, t < 3 → L[k + t]? = ([a, b, c] : List α)[t]? := fun t ht => by
    rw [← h, List.getElem?_take_of_lt ht, List.getElem?_drop]
  exact ⟨g 0 (by decide), g 1 (by decide), g 2 (by decide)⟩
theorem vals_iff {G : Gm} {x : E} {us : List Value} : valsIs G SE x 0 us ↔ us = encE x := by
  constructor
  · rintro ⟨u1, rfl, u2, rfl, u3, rfl, rfl⟩
    rfl
  · rintro rfl
    exact ⟨_, rfl, _, rfl, _, rfl, rfl⟩
theorem flat_at {d : Array E} {t : Nat} (h : t < d.size * 3) : (flatK encE 3 d)[t]! = (encE d[t / 3]!)[t % 3]! := get_flatK encE 3 d t h
theorem flat_list (d : Array E) : (flatK encE 3 d).toList.length = d.toList.length * 3 ∧ ∀ (i : Nat) (x : E), d.toList[i]? = some x → (((flatK encE 3 d).toList.drop (i * 3)).take 3) = encE x := by
  refine ⟨by rw [Array.length_toList, size_flatK, Array.length_toList], fun i x hx => ?_⟩
  obtain ⟨hi, rfl⟩ := List.getElem?_eq_some_iff.1 hx
  rw [Array.length_toList] at hi
  have g : ∀ t, t < 3 → (flatK encE 3 d).toList[i * 3 + t]? = some (encE d[i])[t]! := fun t ht => by
    have hlt : i * 3 + t < (flatK encE 3 d).size := by rw [size_flatK]; omega
    have h1 := flat_at (d := d) (t := i * 3 + t) (by omega)
    have e1 : (i * 3 + t) / 3 = i := by omega
    have e2 : (i * 3 + t) % 3 = t := by omega
    rw [e1, e2, getElem!_pos (flatK encE 3 d) (i * 3 + t) hlt, getElem!_pos d i hi] at h1
    rw [Array.getElem?_toList, Array.getElem?_eq_getElem hlt, h1]
  exact drop3 (g 0 (by decide)) (g 1 (by decide)) (g 2 (by decide))
theorem flat_ones (d : Array E) : ∀ u ∈ (flatK encE 3 d).toList, u.oneCell' = true := by
  intro u hu
  obtain ⟨t, ht, rfl⟩ := List.getElem_of_mem hu
  have hlt : t < (flatK encE 3 d).size := ht
  have h1 := flat_at (d := d) (t := t) (by rw [size_flatK] at hlt; exact hlt)
  rw [getElem!_pos (flatK encE 3 d) t hlt] at h1
  have e : (flatK encE 3 d).toList[t] = (flatK encE 3 d)[t] := rfl
  rw [e, h1]
  have h3 : t % 3 = 0 ∨ t % 3 = 1 ∨ t % 3 = 2 := by omega
  rcases h3 with h3 | h3 | h3 <;> rw [h3] <;> rfl
theorem flat_eq {l : List E} {us : List Value} {G : Gm} (h : flatIs G (.recs SE l) us) : us = (flatK encE 3 l.toArray).toList := by
  obtain ⟨h1, h2⟩ := h
  have hs : SE.size = 3 := rfl
  rw [hs] at h1
  obtain ⟨f1, f2⟩ := flat_list l.toArray
  apply List.ext_getElem?
  intro t
  by_cases ht : t < l.length * 3
  · have hi : t / 3 < l.length := by omega
    have hx : l[t / 3]? = some l[t / 3] := List.getElem?_eq_getElem hi
    have a1 := vals_iff.1 (h2 _ _ hx)
    have a2 := f2 (t / 3) l[t / 3] hx
    rw [hs] at a1
    obtain ⟨p0, p1, p2⟩ := take3 a1
    obtain ⟨q0, q1, q2⟩ := take3 a2
    have h3 : t = t / 3 * 3 ∨ t = t / 3 * 3 + 1 ∨ t = t / 3 * 3 + 2 := by omega
    rcases h3 with h3 | h3 | h3
    · rw [h3, p0, q0]
    · rw [h3, p1, q1]
    · rw [h3, p2, q2]
  · rw [List.getElem?_eq_none (by omega), List.getElem?_eq_none (by rw [f1]; simp only; omega)]
theorem holds_of {w : World} {g : Nat} {l : List E} {us rest : List Value} {e : TypeId} (hg : w.heap[g]? = some (.cells (us ++ rest).toArray e (0, 0))) (hu : us = (flatK encE 3 l.toArray).toList) : HoldsK encE 3 w g 0 l.toArray := by
  intro j hj
  have hlt : j < us.length := by
    rw [hu, Array.length_toList]
    exact hj
  have hju : us[j]? = some (flatK encE 3 l.toArray)[j]! := by
    rw [hu, Array.getElem?_toList, Array.getElem?_eq_getElem hj, getElem!_pos (flatK encE 3 l.toArray) j hj]
  refine ⟨?_, ?_⟩
  · unfold World.cell?
    simp only [hg, Nat.zero_add]
    rw [if_neg (by simp), List.getElem?_toArray, List.getElem?_append_left hlt]
    exact hju
  · unfold World.frozen?
    simp only [hg]
    simp
theorem put_at {w : World} {g n : Nat} {d : Array E} {us rest : List Value} {e : TypeId} {os : Array Obj} (hg : w.heap[g]? = some (.cells (us ++ rest).toArray e (0, 0))) (hu : us.length = d.size * 3) :
    (sortWorldK encE 3 w g 0 n d os).heap[g]? = some (.cells ((flatK encE 3 d).toList ++ rest).toArray e (0, 0)) ∧ ∀ b, b < w.heap.size → b ≠ g → (sortWorldK encE 3 w g 0 n d os).heap[b]? = w.heap[b]? := by
  have hlt := heap_lt hg
  refine ⟨?_, fun b hb hbg => ?_⟩
  · unfold sortWorldK grow putRowK putRow mapBlock
    simp only
    rw [Array.getElem?_append_left (by rw [Array.size_modify]; exact hlt), Array.getElem?_modify, if_pos rfl]
    show Option.map _ w.heap[g]? = _
    rw [hg]
    simp only [Option.map_some, onCells]
    congr 2
    unfold putCells
    apply Array.ext_getElem?
    intro k
    rw [Array.getElem?_mapIdx, List.getElem?_toArray, List.getElem?_toArray]
    by_cases hk : k < us.length
    · have hk2 : k < (flatK encE 3 d).size := by rw [size_flatK]; omega
      rw [List.getElem?_append_left hk, List.getElem?_append_left (by rw [Array.length_toList]; exact hk2), List.getElem?_eq_getElem hk, Option.map_some, if_pos ⟨Nat.zero_le _, by omega⟩, Nat.sub_zero, getElem!_pos (flatK encE 3 d) k hk2, Array.getElem?_toList, Array.getElem?_eq_getElem hk2]
      rfl
    · have hk2 : ¬ k < (flatK encE 3 d).size := by rw [size_flatK]; omega
      have e2 : (flatK encE 3 d).toList.length = us.length := by rw [Array.length_toList, size_flatK, hu]
      rw [List.getElem?_append_right (by omega), List.getElem?_append_right (by omega), e2]
      cases rest[k - us.length]? with
      | none => rfl
      | some v => rw [Option.map_some, if_neg (by omega)]
  · unfold sortWorldK grow putRowK putRow mapBlock
    simp only
    rw [Array.getElem?_append_left (by rw [Array.size_modify]; exact hb), Array.getElem?_modify, if_neg (fun h => hbg h.symm)]
    rfl
structure Os where
  srt : List E → List E
  ok : List E → Bool
def Os.std : Os := ⟨srtE, fun l => decide (l.length ≤ 1000000)⟩
def c_sort (F : Os) : Con := fun xs h => match xs, h with
  | [.one (.own 0), .one (.val (.func (.func 247) ⟨[]⟩ ⟨[]⟩))], [(0, .row 325 (.recs (.int .i64 (.int .i64 (.int .i64 .nil))) l))] => some ⟨F.ok l = true, .tup [], [(0, .row 325 (.recs (.int .i64 (.int .i64 (.int .i64 .nil))) (F.srt l)))], [.one (.own 0), Any]⟩
  | _, _ => none
end Go.Proofs.YtakebkfhigadiaaGreat.So
