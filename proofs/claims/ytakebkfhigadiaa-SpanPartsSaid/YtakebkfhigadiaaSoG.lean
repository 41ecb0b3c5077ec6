/-
  The library's sort, of elements of any shape, as a contract of the reckoner's: the row holds a permutation of what it held, sorted. No condition.
-/
import Derived.Shelf.SlSortCmp.WholeK
import Derived.Test.YtakebkfhigadiaaRyU
namespace Go.Proofs.Ytakebkfhigadiaa.SoG
open Go Go.Shelf Go.RowKit Go.Lib Go.Sort Go.Proofs.Ytakebkfhigadiaa.Ry

/-- What is sorted: its shape, its cells, its order. -/
structure Kd where
  sh : Sh
  K : Nat
  enc : E → List Value
  cf : E → E → Int
  pos : 0 < K
  size : sh.size = K
  len : ∀ x, (enc x).length = K
  vals : ∀ {G : Gm} {x : E} {us : List Value}, valsIs G sh x 0 us ↔ us = enc x
  ones : ∀ x, ∀ v ∈ enc x, v.oneCell' = true
  swo : SWO (ltOf cf)
variable (k : Kd)
def srt (l : List E) : List E := (pdq (ltOf k.cf) l.toArray 0 l.toArray.size (Lib.bitLen l.toArray.size) true true).toList
theorem srt_all (l : List E) : (srt k l).length = l.length ∧ (srt k l).Perm l ∧ (srt k l).Pairwise fun x y => ltOf k.cf y x = false := by
  have h := pdq_sorts (ltOf k.cf) k.swo l.toArray 0 l.toArray.size (Lib.bitLen l.toArray.size) true true (Nat.zero_le _) (Nat.le_refl _) (Or.inl rfl)
  obtain ⟨⟨h1, _, h3⟩, h4⟩ := h
  have hl : (srt k l).length = l.length := by
    unfold srt
    rw [Array.length_toList, h1]
    rfl
  refine ⟨hl, ?_, ?_⟩
  · have e1 : ∀ a : Array E, (a.extract 0 a.size).toList = a.toList := fun a => by rw [Array.extract_size]
    have e2 := e1 (pdq (ltOf k.cf) l.toArray 0 l.toArray.size (Lib.bitLen l.toArray.size) true true)
    rw [h1] at e2
    rw [e1, e2] at h3
    exact h3
  · rw [List.pairwise_iff_getElem]
    intro i j hi hj hij
    have h5 := h4 i j (Nat.zero_le _) hij (by rw [hl] at hj; exact hj)
    have g : ∀ t (ht : t < (srt k l).length), (pdq (ltOf k.cf) l.toArray 0 l.toArray.size (Lib.bitLen l.toArray.size) true true)[t]! = (srt k l)[t] := fun t ht => by
      have ht' : t < (pdq (ltOf k.cf) l.toArray 0 l.toArray.size (Lib.bitLen l.toArray.size) true true).size := by
        rw [h1]
        rw [hl] at ht
        exact ht
      rw [getElem!_pos (pdq (ltOf k.cf) l.toArray 0 l.toArray.size (Lib.bitLen l.toArray.size) true true) t ht']
      rfl
    rw [g i hi, g j hj] at h5
    exact h5
/-! ## The row -/
theorem chunk_of {α : Type} {L vs : List α} {s : Nat} (h : ∀ t, t < vs.length → L[s + t]? = vs[t]?) : (L.drop s).take vs.length = vs := by
  apply List.ext_getElem?
  intro t
  by_cases ht : t < vs.length
  · rw [List.getElem?_take_of_lt ht, List.getElem?_drop, h t ht]
  · rw [List.getElem?_eq_none (by rw [List.length_take]; omega), List.getElem?_eq_none (by omega)]
theorem of_chunk {α : Type} {L vs : List α} {s : Nat} (h : (L.drop s).take vs.length = vs) : ∀ t, t < vs.length → L[s + t]? = vs[t]? := fun t ht => by
  conv => rhs; rw [← h]
  rw [List.getElem?_take_of_lt ht, List.getElem?_drop]
theorem flat_at {d : Array E} {t : Nat} (h : t < d.size * k.K) : (flatK k.enc k.K d)[t]! = (k.enc d[t / k.K]!)[t % k.K]! := get_flatK k.enc k.K d t h
theorem flat_list (d : Array E) : (flatK k.enc k.K d).toList.length = d.toList.length * k.K ∧ ∀ (i : Nat) (x : E), d.toList[i]? = some x → (((flatK k.enc k.K d).toList.drop (i * k.K)).take k.K) = k.enc x := by
  refine ⟨by rw [Array.length_toList, size_flatK, Array.length_toList], fun i x hx => ?_⟩
  obtain ⟨hi, rfl⟩ := List.getElem?_eq_some_iff.1 hx
  rw [Array.length_toList] at hi
  have hp := k.pos
  have key := chunk_of (L := (flatK k.enc k.K d).toList) (vs := k.enc d.toList[i]) (s := i * k.K) fun t ht => by
    rw [k.len] at ht
    have hin : i * k.K + t < d.size * k.K := Nat.lt_of_lt_of_le (Nat.add_lt_add_left ht _) (by rw [← Nat.succ_mul]; exact Nat.mul_le_mul_right _ hi)
    have hlt : i * k.K + t < (flatK k.enc k.K d).size := by rw [size_flatK]; exact hin
    have h1 := flat_at k hin
    have e1 : (i * k.K + t) / k.K = i := by rw [Nat.add_comm, Nat.add_mul_div_right _ _ hp, Nat.div_eq_of_lt ht, Nat.zero_add]
    have e2 : (i * k.K + t) % k.K = t := by rw [Nat.add_comm, Nat.add_mul_mod_self_right, Nat.mod_eq_of_lt ht]
    rw [e1, e2, getElem!_pos (flatK k.enc k.K d) (i * k.K + t) hlt, getElem!_pos d i hi] at h1
    rw [Array.getElem?_toList, Array.getElem?_eq_getElem hlt, h1, getElem!_pos (k.enc d[i]) t (by rw [k.len]; exact ht)]
    exact (List.getElem?_eq_getElem _).symm
  rw [k.len] at key
  exact key
theorem flat_ones (d : Array E) : ∀ u ∈ (flatK k.enc k.K d).toList, u.oneCell' = true := by
  intro u hu
  obtain ⟨t, ht, rfl⟩ := List.getElem_of_mem hu
  have hlt : t < (flatK k.enc k.K d).size := ht
  have h1 := flat_at k (d := d) (t := t) (by rw [size_flatK] at hlt; exact hlt)
  rw [getElem!_pos (flatK k.enc k.K d) t hlt] at h1
  have e : (flatK k.enc k.K d).toList[t] = (flatK k.enc k.K d)[t] := rfl
  have hm : t % k.K < (k.enc d[t / k.K]!).length := by rw [k.len]; exact Nat.mod_lt _ k.pos
  rw [e, h1, getElem!_pos (k.enc d[t / k.K]!) (t % k.K) hm]
  exact k.ones _ _ (List.getElem_mem hm)
theorem flat_eq {l : List E} {us : List Value} {G : Gm} (h : flatIs G (.recs k.sh l) us) : us = (flatK k.enc k.K l.toArray).toList := by
  obtain ⟨h1, h2⟩ := h
  rw [k.size] at h1
  obtain ⟨f1, f2⟩ := flat_list k l.toArray
  have hp := k.pos
  apply List.ext_getElem?
  intro t
  by_cases ht : t < l.length * k.K
  · have hi : t / k.K < l.length := by rw [Nat.div_lt_iff_lt_mul hp]; exact ht
    have hx : l[t / k.K]? = some l[t / k.K] := List.getElem?_eq_getElem hi
    have a1 := k.vals.1 (h2 _ _ hx)
    have a2 := f2 (t / k.K) l[t / k.K] hx
    rw [k.size] at a1
    have b1 := of_chunk (L := us) (vs := k.enc l[t / k.K]) (s := t / k.K * k.K) (by rw [k.len]; exact a1) (t % k.K) (by rw [k.len]; exact Nat.mod_lt _ hp)
    have b2 := of_chunk (L := (flatK k.enc k.K l.toArray).toList) (vs := k.enc l[t / k.K]) (s := t / k.K * k.K) (by rw [k.len]; exact a2) (t % k.K) (by rw [k.len]; exact Nat.mod_lt _ hp)
    have e : t / k.K * k.K + t % k.K = t := by rw [Nat.mul_comm]; exact Nat.div_add_mod t k.K
    rw [e] at b1 b2
    rw [b1, b2]
  · rw [List.getElem?_eq_none (by omega), List.getElem?_eq_none (by rw [f1]; simp only; omega)]
theorem holds_of {w : World} {g : Nat} {l : List E} {pre us rest : List Value} {e : TypeId} (hg : w.heap[g]? = some (.cells (pre ++ (us ++ rest)).toArray e (0, 0))) (hu : us = (flatK k.enc k.K l.toArray).toList) : HoldsK k.enc k.K w g pre.length l.toArray := by
  intro j hj
  have hlt : j < us.length := by
    rw [hu, Array.length_toList]
    exact hj
  have hju : us[j]? = some (flatK k.enc k.K l.toArray)[j]! := by
    rw [hu, Array.getElem?_toList, Array.getElem?_eq_getElem hj, getElem!_pos (flatK k.enc k.K l.toArray) j hj]
  refine ⟨?_, ?_⟩
  · unfold World.cell?
    simp only [hg]
    rw [if_neg (by simp), List.getElem?_toArray, List.getElem?_append_right (by omega), Nat.add_sub_cancel_left, List.getElem?_append_left hlt]
    exact hju
  · unfold World.frozen?
    simp only [hg]
    simp
theorem put_at {w : World} {g n : Nat} {d : Array E} {pre us rest : List Value} {e : TypeId} {os : Array Obj} (hg : w.heap[g]? = some (.cells (pre ++ (us ++ rest)).toArray e (0, 0))) (hu : us.length = d.size * k.K) :
    (sortWorldK k.enc k.K w g pre.length n d os).heap[g]? = some (.cells (pre ++ ((flatK k.enc k.K d).toList ++ rest)).toArray e (0, 0)) ∧ ∀ b, b < w.heap.size → b ≠ g → (sortWorldK k.enc k.K w g pre.length n d os).heap[b]? = w.heap[b]? := by
  have hlt := heap_lt hg
  refine ⟨?_, fun b hb hbg => ?_⟩
  · unfold sortWorldK grow putRowK putRow mapBlock
    simp only
    rw [Array.getElem?_append_left (by rw [Array.size_modify]; exact hlt), Array.getElem?_modify, if_pos rfl]
    show Option.map _ w.heap[g]? = _
    rw [hg]
    simp only [Option.map_some, onCells]
    congr 2
    unfold putCells
    apply Array.ext_getElem?
    intro j
    rw [Array.getElem?_mapIdx, List.getElem?_toArray, List.getElem?_toArray]
    have e2 : (flatK k.enc k.K d).toList.length = us.length := by rw [Array.length_toList, size_flatK, hu]
    by_cases hp : j < pre.length
    · rw [List.getElem?_append_left hp, List.getElem?_append_left hp, List.getElem?_eq_getElem hp, Option.map_some, if_neg (by omega)]
    · rw [List.getElem?_append_right (l₁ := pre) (l₂ := us ++ rest) (by omega), List.getElem?_append_right (l₁ := pre) (l₂ := (flatK k.enc k.K d).toList ++ rest) (by omega)]
      by_cases hk : j - pre.length < us.length
      · have hk2 : j - pre.length < (flatK k.enc k.K d).size := by rw [size_flatK]; omega
        rw [List.getElem?_append_left hk, List.getElem?_append_left (by rw [Array.length_toList]; exact hk2), List.getElem?_eq_getElem hk, Option.map_some, if_pos ⟨by omega, by omega⟩, getElem!_pos (flatK k.enc k.K d) (j - pre.length) hk2, Array.getElem?_toList, Array.getElem?_eq_getElem hk2]
        rfl
      · have hk2 : ¬ j - pre.length < (flatK k.enc k.K d).size := by rw [size_flatK]; omega
        rw [List.getElem?_append_right (l₁ := us) (by omega), List.getElem?_append_right (l₁ := (flatK k.enc k.K d).toList) (by omega), e2]
        cases rest[j - pre.length - us.length]? with
        | none => rfl
        | some v => rw [Option.map_some, if_neg (by omega)]
  · unfold sortWorldK grow putRowK putRow mapBlock
    simp only
    rw [Array.getElem?_append_left (by rw [Array.size_modify]; exact hb), Array.getElem?_modify, if_neg (fun h => hbg h.symm)]
    rfl
/-- The contract, of any program's sort that does so. -/
theorem sort_ok {P : Program} {f c : FuncId} {T : TypeId} (con : Con) (ok : List E → Bool) (hok : ∀ l, ok l = true → 0 < l.length ∧ l.length ≤ 1000000)
    (hcon : ∀ xs h p, con xs h = some p → ∃ l, xs = [.one (.own 0), .one (.val (.func (.func c) ⟨[]⟩ ⟨[]⟩))] ∧ h = [(0, .row T (.recs k.sh l))] ∧ p = ⟨ok l = true, .tup [], [(0, .row T (.recs k.sh (srt k l)))], [.one (.own 0), Any]⟩)
    (hin : ∃ fn, P.funcs[f]? = some fn ∧ fn.body.isNone = false ∧ (fn.name == "runtime.NumGoroutine") = false)
    (calls : ∀ (g off cap : Nat) (l : List E) (w : World), HoldsK k.enc k.K w g off l.toArray → g < w.heap.size → l.length < 4611686018427387904 →
      Calls P f #[.slice (some ⟨g, off, none⟩) l.length cap, .func (.func c) #[] #[]] w fun e w' => e = .returned (.tuple #[]) ∧ ∃ n os, w' = sortWorldK k.enc k.K w g off n (srt k l).toArray os) : ConOk P f con := by
  refine ⟨hin, ?_⟩
  intro args h p hp hC G vs hh hbs hm hv
  obtain ⟨l, rfl, rfl, rfl⟩ := hcon _ _ _ hp
  have hk := hok l hC
  match vs, hv with
  | [v0, v1], ⟨hv0, hv1, _⟩ =>
    have hv1 : v1 = .func (.func c) #[] #[] := hv1
    subst hv1
    have hg0 : hget G.h 0 = some (.row T (.recs k.sh l)) := by rw [hh]; rfl
    have hgn : ∀ n, n ≠ 0 → hget G.h n = none := fun n hn => by
      rw [hh]
      have : eqn 0 n = false := by rw [← Bool.not_eq_true, eqn_iff]; omega
      simp only [hget, this]
    obtain ⟨_, hown⟩ := hv0
    unfold ownAt at hown
    rw [hg0] at hown
    have hn : (Ct.recs k.sh l).n = l.length := rfl
    rcases hown with ⟨hz, _⟩ | ⟨g, off, cap, tt, kk, ho, rfl, hc1, hc2, hc3, hc4, hc5⟩
    · omega
    rcases hm.blk 0 _ hg0 with ⟨hz, _⟩ | ⟨g', pre, us, rest, ho', hg, hf, h1⟩
    · omega
    obtain ⟨rfl, rfl⟩ : g' = g ∧ off = pre.length := by
      rw [ho] at ho'
      cases ho'
      exact ⟨rfl, rfl⟩
    have hu := flat_eq k hf
    have hul : us.length = (srt k l).toArray.size * k.K := by
      rw [hu, Array.length_toList, size_flatK]
      simp only [List.size_toArray, (srt_all k l).1]
    have hH := holds_of k hg hu
    refine (calls g' pre.length cap l G.w hH (heap_lt hg) (by omega)).mono fun e w' ⟨he, n, os, hw⟩ => ?_
    obtain ⟨p1, p2⟩ := put_at k (n := n) (d := (srt k l).toArray) (os := os) hg hul
    rw [← hw] at p1 p2
    have hos : w'.os = G.w.os ∧ w'.tape = G.w.tape ∧ w'.output = G.w.output ∧ G.w.heap.size ≤ w'.heap.size := by
      rw [hw]
      refine ⟨rfl, rfl, rfl, ?_⟩
      unfold sortWorldK
      rw [Go.Sort.size_grow]
      unfold putRowK putRow mapBlock
      simp only [Array.size_modify]
      exact Nat.le_add_right _ _
    refine ⟨.tuple #[], ⟨G.o, [(0, .row T (.recs k.sh (srt k l)))], G.bs, w'⟩, he, rfl, rfl, rfl, ?_⟩
    have hshp : Shp G.w w' := by
      intro b x hx
      unfold World.shape? at hx ⊢
      by_cases e : b = g'
      · subst e
        rw [hg] at hx
        rw [p1]
        have e2 : (flatK k.enc k.K (srt k l).toArray).toList.length = us.length := by rw [Array.length_toList, size_flatK, hul]
        simpa [e2] using hx
      · by_cases hb : b < G.w.heap.size
        · rw [p2 b hb e]
          exact hx
        · rw [Array.getElem?_eq_none (by omega)] at hx
          cases hx
    have key := mem_step (G' := ⟨G.o, [(0, .row T (.recs k.sh (srt k l)))], G.bs, w'⟩) hm (fun n => n = 0) rfl
      (fun n hn => ⟨by
        rw [hgn n hn]
        have : eqn 0 n = false := by rw [← Bool.not_eq_true, eqn_iff]; omega
        simp only [hget, this], rfl⟩)
      hos.1 hos.2.1 hos.2.2.1 hos.2.2.2
      (fun b hb hne => p2 b hb fun hbg => hne 0 pre.length rfl (.inl ⟨_, hg0, rfl⟩) (by rw [hbg]; exact ho))
      (fun n b m j hn _ hob hj => by
        subst hn
        rw [ho] at hob
        cases hob
        unfold World.cell?
        simp only
        rw [p1, hg]
        simp only
        rw [if_neg (by simp), if_neg (by simp), List.getElem?_toArray, List.getElem?_toArray, List.getElem?_append_left hj, List.getElem?_append_left hj])
      (fun n hn _ b m hob => by
        subst hn
        have hob : G.o 0 = some (b, m) := hob
        rw [ho] at hob
        cases hob
        exact ⟨Nat.lt_of_lt_of_le (heap_lt hg) hos.2.2.2, .inr ⟨0, pre.length, rfl, .inl ⟨_, hg0, rfl⟩, ho, Nat.le_refl _⟩⟩)
      (fun n n' hn hn' _ _ _ _ _ _ _ => by rw [hn, hn'])
      (fun n hn q hq => by
        subst hn
        rw [hg0] at hq
        cases hq
        exact ⟨.row T (.recs k.sh (srt k l)), rfl, fun _ => ⟨rfl, rfl, (srt_all k l).1⟩⟩)
      (fun n hn q hq _ => by
        subst hn
        have hq : some (Blk.row T (.recs k.sh (srt k l))) = some q := hq
        cases hq
        obtain ⟨f1, f2⟩ := flat_list k (srt k l).toArray
        exact .inr ⟨g', pre, (flatK k.enc k.K (srt k l).toArray).toList, rest, ho, p1, ⟨by rw [k.size]; exact f1, fun i x hx => k.vals.2 (by rw [k.size]; exact f2 i x hx)⟩, flat_ones k _⟩)
      hshp
      (fun n hn => .inr ⟨_, by subst hn; exact hg0⟩)
      (fun n hn b i hb => by
        subst hn
        have hb : some (Blk.row T (.recs k.sh (srt k l))) = some b := hb
        cases hb
        exact fun h => h)
    refine ⟨key.2, ⟨[], rfl, trivial⟩, ⟨⟨_, _, _, rfl⟩, ?_⟩, trivial, trivial⟩
    unfold ownAt
    refine .inr ⟨g', pre.length, cap, tt, kk, ho, (congrArg (fun n => Value.slice (some ⟨g', pre.length, none⟩) n cap) (srt_all k l).1).symm, Nat.le_trans (Nat.le_of_eq (srt_all k l).1) hc1, hc2, hshp _ _ hc3, hc4, hc5⟩
end Go.Proofs.Ytakebkfhigadiaa.SoG
