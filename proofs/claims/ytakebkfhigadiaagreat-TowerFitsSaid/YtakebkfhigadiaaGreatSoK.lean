/-
  The library's sort of links by node and peer, as a contract of the reckoner's. No condition.
-/
import Derived.Test.YtakebkfhigadiaaGreatSl
import Derived.Test.YtakebkfhigadiaaGreatVcX
import Derived.Test.YtakebkfhigadiaaGreatSoG
namespace Go.Proofs.YtakebkfhigadiaaGreat.SoK
open Go Go.Shelf Go.RowKit Go.Lib Go.Sort Go.Proofs.YtakebkfhigadiaaGreat.Ry Go.Proofs.YtakebkfhigadiaaGreat.SoG Go.Proofs.YtakebkfhigadiaaGreat.VcX

abbrev SK : Sh := .int .i64 (.int .i64 (.int .i64 (.int .i64 (.bool .nil))))
def encK (x : E) : List Value := [.int .i64 (ri x 0), .int .i64 (ri x 1), .int .i64 (ri x 2), .int .i64 (ri x 3), .bool (rb x 4)]
def cfV (x y : E) : Int := kcF (ri x 0) (ri x 1) (ri y 0) (ri y 1)
theorem ltV (x y : E) : ltOf cfV x y = true ↔ ri x 0 < ri y 0 ∨ ri x 0 = ri y 0 ∧ ri x 1 < ri y 1 := by
  unfold ltOf cfV
  rw [decide_eq_true_eq]
  exact kcF_lt _ _ _ _
theorem ltV_no (x y : E) : ltOf cfV x y = false ↔ ¬ (ri x 0 < ri y 0 ∨ ri x 0 = ri y 0 ∧ ri x 1 < ri y 1) := by
  rw [← ltV, Bool.not_eq_true]
theorem valsK {G : Gm} {x : E} {us : List Value} : valsIs G SK x 0 us ↔ us = encK x := by
  constructor
  · rintro ⟨u1, rfl, u2, rfl, u3, rfl, u4, rfl, u5, rfl, rfl⟩
    rfl
  · rintro rfl
    exact ⟨_, rfl, _, rfl, _, rfl, _, rfl, _, rfl, rfl⟩
def kdV : Kd where
  sh := SK
  K := 5
  enc := encK
  cf := cfV
  pos := by decide
  size := rfl
  len _ := rfl
  vals := valsK
  ones x v hv := by
    simp only [encK, List.mem_cons, List.not_mem_nil, or_false] at hv
    rcases hv with rfl | rfl | rfl | rfl | rfl <;> rfl
  swo := {
    irrefl := fun x => by
      rw [ltV_no]
      omega
    trans := fun x y z h1 h2 => by
      rw [ltV] at *
      omega
    ntrans := fun x y z h1 h2 => by
      rw [ltV_no] at *
      omega }
def srtV (l : List E) : List E := srt kdV l
theorem srtV_all (l : List E) : (srtV l).length = l.length ∧ (srtV l).Perm l ∧ (srtV l).Pairwise fun x y => ¬ (ri y 0 < ri x 0 ∨ ri y 0 = ri x 0 ∧ ri y 1 < ri x 1) := by
  obtain ⟨a, b, c⟩ := srt_all kdV l
  exact ⟨a, b, c.imp fun {x y} h => (ltV_no y x).1 h⟩
theorem sort_calls (g off cap : Nat) (l : List E) (w : World) (hH : HoldsK encK 5 w g off l.toArray) (hg : g < w.heap.size) (hl : l.length < 4611686018427387904) :
    Calls Tryz.prog 221 #[.slice (some ⟨g, off, none⟩) l.length cap, .func (.func 209) #[] #[]] w fun e w' => e = .returned (.tuple #[]) ∧ ∃ n os, w' = sortWorldK encK 5 w g off n (srtV l).toArray os := by
  have hc : CmpLays Tryz.prog 209 #[] encK 5 cfV g off l.toArray.size w := fun m os dk hs x y => (kcomp_any _ _ _ _ _ _ _ _ _ _ _).mono fun e w' ⟨he, hw⟩ => ⟨he, hw⟩
  have h := AnyQ.slices_SortFunc_eq Sl.sortK 5 Tryz.isAgg176 Tryz.sizeOf176 encK (fun _ => rfl) (fun x v hv => by simp [encK] at hv; rcases hv with rfl | rfl | rfl | rfl | rfl <;> rfl) cfV kdV.swo 209 #[] g off cap l.toArray w (enters_of Tryz.func209 (by kernel_rfl) rfl) hc hH hg hl
  exact h.mono fun e w' ⟨he, n, os, hw⟩ => ⟨he, n, os, hw⟩
structure Ok where
  srt : List E → List E
  ok : List E → Bool
def Ok.std : Ok := ⟨srtV, fun l => decide (0 < l.length ∧ l.length ≤ 1000000)⟩
def c_sortv (F : Ok) : Con := fun xs h => match xs, h with
  | [.one (.own 0), .one (.val (.func (.func 209) ⟨[]⟩ ⟨[]⟩))], [(0, .row 176 (.recs (.int .i64 (.int .i64 (.int .i64 (.int .i64 (.bool .nil))))) l))] => some ⟨F.ok l = true, .tup [], [(0, .row 176 (.recs (.int .i64 (.int .i64 (.int .i64 (.int .i64 (.bool .nil))))) (F.srt l)))], [.one (.own 0), Any]⟩
  | _, _ => none
theorem ok_sortv : ConOk Tryz.prog 221 (c_sortv Ok.std) := by
  refine sort_ok kdV (c := 209) (T := 176) (c_sortv Ok.std) (fun l => decide (0 < l.length ∧ l.length ≤ 1000000)) (fun l h => of_decide_eq_true h) (fun xs h p hp => ?_) ⟨_, Tryz.func221, rfl, by kernel_rfl⟩ sort_calls
  unfold c_sortv at hp
  split at hp
  · rename_i l
    cases hp
    exact ⟨l, rfl, rfl, rfl⟩
  · cases hp
end Go.Proofs.YtakebkfhigadiaaGreat.SoK
