/-
  The library's sort of edges, as a contract of the reckoner's: the row holds a permutation of what it held, sorted. No condition.
-/
import Derived.Test.YtakebkfhigadiaaSl
import Derived.Test.YtakebkfhigadiaaEcX
import Derived.Test.YtakebkfhigadiaaSoG
import Derived.Shelf.SlSortCmp.NoneTotal
namespace Go.Proofs.Ytakebkfhigadiaa.So
open Go Go.Shelf Go.RowKit Go.Lib Go.Sort Go.Proofs Go.Proofs.Ytakebkfhigadiaa.Ry Go.Proofs.Ytakebkfhigadiaa.EcX Go.Proofs.Ytakebkfhigadiaa.Cmp
open Go.Proofs.Ytakebkfhigadiaa.SoG (Kd sort_ok)

abbrev SE : Sh := .int .i64 (.int .i64 (.int .i64 .nil))
def encE (x : E) : List Value := [.int .i64 (ri x 0), .int .i64 (ri x 1), .int .i64 (ri x 2)]
def cfE (x y : E) : Int := cmpF (ri x 0) (ri x 1) (ri x 2) (ri y 0) (ri y 1) (ri y 2)
def aheadE (x y : E) : Prop := ri x 2 < ri y 2 ∨ ri x 2 = ri y 2 ∧ (ri x 0 < ri y 0 ∨ ri x 0 = ri y 0 ∧ ri x 1 < ri y 1)
theorem ltE (x y : E) : ltOf cfE x y = true ↔ aheadE x y := by
  unfold ltOf cfE aheadE
  rw [decide_eq_true_eq]
  exact cmpF_lt _ _ _ _ _ _
theorem ltE_no (x y : E) : ltOf cfE x y = false ↔ ¬ aheadE x y := by
  rw [← ltE, Bool.not_eq_true]
theorem swoE : SWO (ltOf cfE) where
  irrefl x := by
    rw [ltE_no]
    unfold aheadE
    omega
  trans x y z h1 h2 := by
    rw [ltE] at *
    unfold aheadE at *
    omega
  ntrans x y z h1 h2 := by
    rw [ltE_no] at *
    unfold aheadE at *
    omega
def srtE (l : List E) : List E := (pdq (ltOf cfE) l.toArray 0 l.toArray.size (Lib.bitLen l.toArray.size) true true).toList
theorem srt_all (l : List E) : (srtE l).length = l.length ∧ (srtE l).Perm l ∧ (srtE l).Pairwise fun x y => ¬ aheadE y x := by
  have h := pdq_sorts (ltOf cfE) swoE l.toArray 0 l.toArray.size (Lib.bitLen l.toArray.size) true true (Nat.zero_le _) (Nat.le_refl _) (Or.inl rfl)
  obtain ⟨⟨h1, _, h3⟩, h4⟩ := h
  have hl : (srtE l).length = l.length := by
    unfold srtE
    rw [Array.length_toList, h1]
    rfl
  refine ⟨hl, ?_, ?_⟩
  · have e1 : ∀ a : Array E, (a.extract 0 a.size).toList = a.toList := fun a => by rw [Array.extract_size]
    have e2 := e1 (pdq (ltOf cfE) l.toArray 0 l.toArray.size (Lib.bitLen l.toArray.size) true true)
    rw [h1] at e2
    rw [e1, e2] at h3
    exact h3
  · rw [List.pairwise_iff_getElem]
    intro i j hi hj hij
    have h5 := h4 i j (Nat.zero_le _) hij (by rw [hl] at hj; exact hj)
    rw [ltE_no] at h5
    have g : ∀ k (hk : k < (srtE l).length), (pdq (ltOf cfE) l.toArray 0 l.toArray.size (Lib.bitLen l.toArray.size) true true)[k]! = (srtE l)[k] := fun k hk => by
      have hk' : k < (pdq (ltOf cfE) l.toArray 0 l.toArray.size (Lib.bitLen l.toArray.size) true true).size := by
        rw [h1]
        rw [hl] at hk
        exact hk
      rw [getElem!_pos (pdq (ltOf cfE) l.toArray 0 l.toArray.size (Lib.bitLen l.toArray.size) true true) k hk']
      rfl
    rw [g i hi, g j hj] at h5
    exact h5
/-! ## The row -/
theorem vals_iff {G : Gm} {x : E} {us : List Value} : valsIs G SE x 0 us ↔ us = encE x := by
  constructor
  · rintro ⟨u1, rfl, u2, rfl, u3, rfl, rfl⟩
    rfl
  · rintro rfl
    exact ⟨_, rfl, _, rfl, _, rfl, rfl⟩
def kdE : Kd where
  sh := SE
  K := 3
  enc := encE
  cf := cfE
  pos := by decide
  size := rfl
  len _ := rfl
  vals := vals_iff
  ones x v hv := by
    simp only [encE, List.mem_cons, List.not_mem_nil, or_false] at hv
    rcases hv with rfl | rfl | rfl <;> rfl
  swo := swoE
theorem sort_calls (g off cap : Nat) (l : List E) (w : World) (hH : HoldsK encE 3 w g off l.toArray) (hg : g < w.heap.size) (hl : l.length < 4611686018427387904) :
    Calls Try.prog 59 #[.slice (some ⟨g, off, none⟩) l.length cap, .func (.func 60) #[] #[]] w fun e w' => e = .returned (.tuple #[]) ∧ ∃ n os, w' = sortWorldK encE 3 w g off n (srtE l).toArray os := by
  have hc : CmpLays Try.prog 60 #[] encE 3 cfE g off l.toArray.size w := fun m os dk hs x y => (compare_any _ _ _ _ _ _ _).mono fun e w' ⟨he, hw⟩ => ⟨he, hw⟩
  have h := AnyQ.slices_SortFunc_eq Sl.sortE 3 Try.isAgg63 Try.sizeOf63 encE (fun _ => rfl) (fun x v hv => by simp [encE] at hv; rcases hv with rfl | rfl | rfl <;> rfl) cfE swoE 60 #[] g off cap l.toArray w (enters_of Try.func60 (by kernel_rfl) rfl) hc hH hg hl
  exact h.mono fun e w' ⟨he, n, os, hw⟩ => ⟨he, n, os, hw⟩
structure Os where
  srt : List E → List E
  ok : List E → Bool
def Os.std : Os := ⟨srtE, fun l => decide (l.length ≤ 1000000)⟩
def c_sort (F : Os) : Con := fun xs h => match xs, h with
  | [.one (.own 0), .one (.val (.func (.func 60) ⟨[]⟩ ⟨[]⟩))], [(0, .row 63 (.recs (.int .i64 (.int .i64 (.int .i64 .nil))) l))] => some ⟨F.ok l = true, .tup [], [(0, .row 63 (.recs (.int .i64 (.int .i64 (.int .i64 .nil))) (F.srt l)))], [.one (.own 0), Any]⟩
  | _, _ => none
theorem ok_sort1 : ConOk Try.prog 59 (c_sort ⟨srtE, fun l => decide (0 < l.length ∧ l.length ≤ 1000000)⟩) := by
  refine sort_ok kdE (c := 60) (T := 63) _ (fun l => decide (0 < l.length ∧ l.length ≤ 1000000)) (fun l h => of_decide_eq_true h) (fun xs h p hp => ?_) ⟨_, Try.func59, rfl, by kernel_rfl⟩ (fun g off cap l w h1 h2 h3 => sort_calls g off cap l w h1 h2 h3)
  unfold c_sort at hp
  split at hp
  · rename_i l
    cases hp
    exact ⟨l, rfl, rfl, rfl⟩
  · cases hp
theorem ok_sort : ConOk Try.prog 59 (c_sort Os.std) := by
  refine ⟨ok_sort1.1, fun args h p hp hC G vs hh hbs hm hv => ?_⟩
  unfold c_sort at hp
  split at hp
  · rename_i l
    cases hp
    have hk : l.length ≤ 1000000 := of_decide_eq_true hC
    by_cases h0 : 0 < l.length
    · exact ok_sort1.2 _ _ ⟨decide (0 < l.length ∧ l.length ≤ 1000000) = true, .tup [], [(0, .row 63 (.recs SE (srtE l)))], [.one (.own 0), Any]⟩ rfl (decide_eq_true ⟨h0, hk⟩) G vs hh hbs hm hv
    · have hl : l = [] := List.eq_nil_of_length_eq_zero (by omega)
      subst hl
      have hs : srtE [] = [] := List.eq_nil_of_length_eq_zero (srt_all []).1
      match vs, hv with
      | [v0, v1], ⟨hv0, hv1, _⟩ =>
        have hg0 : hget G.h 0 = some (.row 63 (.recs SE [])) := by rw [hh]; rfl
        have hsl : ∃ A c, v0 = .slice A 0 c := by
          have hown := hv0.2
          unfold ownAt at hown
          rw [hg0] at hown
          rcases hown with ⟨_, _, A, hA⟩ | ⟨g, off, cap, tt, kk, _, hA, _⟩
          · exact ⟨A, 0, hA⟩
          · exact ⟨_, cap, hA⟩
        obtain ⟨A, c, rfl⟩ := hsl
        refine (AnyF.slices_SortFunc_none Sl.sortE A c v1 G.w).mono fun e w' ⟨he, hw⟩ => ?_
        subst hw
        refine ⟨_, G, he, rfl, rfl, ?_, hm, ⟨[], rfl, trivial⟩, hv0, trivial, trivial⟩
        rw [hh]
        show _ = [(0, Blk.row 63 (.recs SE (srtE [])))]
        rw [hs]
  · cases hp
end Go.Proofs.Ytakebkfhigadiaa.So
