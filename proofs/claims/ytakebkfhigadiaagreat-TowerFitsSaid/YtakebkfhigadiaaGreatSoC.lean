/-
  What choose.compare tells of two links, exactly; the library's sort of links by their edges, as a contract of the reckoner's; the sort of nothing. No condition.
-/
import Derived.Shelf.SlSortCmp.QuietGrown
import Derived.Shelf.SlSortCmp.NoneTotal
import Derived.Test.YtakebkfhigadiaaGreatSl
import Derived.Test.YtakebkfhigadiaaGreatEcX
import Derived.Test.YtakebkfhigadiaaGreatSoG
namespace Go.Proofs.YtakebkfhigadiaaGreat.CcX
open Go.RowKit Go.Proofs.YtakebkfhigadiaaGreat.Law Go.Proofs.YtakebkfhigadiaaGreat.Cmp Go.Sort Go.Proofs.YtakebkfhigadiaaGreat.EcX

abbrev kv (n p w s : Int) (m : Bool) : Array Value := #[Value.int IntKind.i64 n, Value.int IntKind.i64 p, Value.int IntKind.i64 w, Value.int IntKind.i64 s, Value.bool m]
abbrev ev (a b c : Int) : Array Value := #[Value.int IntKind.i64 a, Value.int IntKind.i64 b, Value.int IntKind.i64 c]
theorem new_at1 (w : World) (a b : Obj) : ((w.alloc a).alloc b).heap[w.heap.size + 1]? = some b := by
  have := heap_alloc_new (w.alloc a) b
  rw [World.size_alloc] at this
  exact this
theorem new_at0 (w : World) (a b : Obj) : ((w.alloc a).alloc b).heap[w.heap.size]? = some a := by
  have := heap_alloc_new w a
  show ((w.alloc a).heap.push b)[w.heap.size]? = _
  rw [Array.getElem?_push_lt (by rw [World.size_alloc]; omega), ← Array.getElem?_eq_getElem]
  exact this
set_option maxRecDepth 20000 in
set_option maxHeartbeats 400000 in
theorem edge_any (n p v s : Int) (m : Bool) (w : World) : Calls Tryz.prog 242 #[.agg (kv n p v s m)] w
    fun e w' => e = .returned (.agg (ev (min n p) (max n p) v)) ∧ Gr w w' := by
  go_enter Tryz.func242, Tryz.ntmps242
  go_wp2
  refine bodyPost_ret (results_cell_row rfl _ _ (w.heap.size + 1) 325 (ev (min n p) (max n p) v) (0, 0) _ rfl (new_at1 _ _ _) Tryz.underlying325 rfl (by kernel_rfl)) rfl ?_
  exact ⟨rfl, ((Gr.refl _).alloc _).alloc _⟩
theorem cell_gr {w : World} {b : Nat} {T : TypeId} {cs : Array Value} (hb : b < w.heap.size) (hg : w.heap[b]? = some (.cells cs T (0, 0))) (j : Nat) {v : Value} (hv : cs[j]? = some v) (n : Nat) (os : Array Obj) :
    (grow (w.drewN n) os).cell? ⟨b, j, none⟩ = some v :=
  cell_grown hb (by rw [cell_of_row w b j cs T (0, 0) hg]; exact hv) n os
set_option maxRecDepth 20000 in
set_option maxHeartbeats 400000 in
theorem ccomp_any (n p v s : Int) (m : Bool) (n' p' v' s' : Int) (m' : Bool) (w : World) : Calls Tryz.prog 231 #[.agg (kv n p v s m), .agg (kv n' p' v' s' m')] w
    fun e w' => e = .returned (.int .i64 (cmpF (min n p) (max n p) v (min n' p') (max n' p') v')) ∧ Gr w w' := by
  have mixed : Tryz.prog.follows .mixedOrders = true := by kernel_rfl
  go_enter Tryz.func231, Tryz.ntmps231
  go_wp2
  have hs0 : w.heap.size < ((w.alloc (Obj.cells (kv n p v s m) 176)).alloc (Obj.cells (kv n' p' v' s' m') 176)).heap.size := by rw [World.size_alloc, World.size_alloc]; omega
  have hs1 : w.heap.size + 1 < ((w.alloc (Obj.cells (kv n p v s m) 176)).alloc (Obj.cells (kv n' p' v' s' m') 176)).heap.size := by rw [World.size_alloc, World.size_alloc]; omega
  have g0 := new_at0 w (Obj.cells (kv n p v s m) 176) (Obj.cells (kv n' p' v' s' m') 176)
  have g1 := new_at1 w (Obj.cells (kv n p v s m) 176) (Obj.cells (kv n' p' v' s' m') 176)
  have k00 := cell_gr hs0 g0 0 rfl
  have k01 := cell_gr hs0 g0 1 rfl
  have k02 := cell_gr hs0 g0 2 rfl
  have k03 := cell_gr hs0 g0 3 rfl
  have k04 := cell_gr hs0 g0 4 rfl
  have k10 := cell_gr hs1 g1 0 rfl
  have k11 := cell_gr hs1 g1 1 rfl
  have k12 := cell_gr hs1 g1 2 rfl
  have k13 := cell_gr hs1 g1 3 rfl
  have k14 := cell_gr hs1 g1 4 rfl
  have hb : Gr w ((w.alloc (Obj.cells (kv n p v s m) 176)).alloc (Obj.cells (kv n' p' v' s' m') 176)) := ((Gr.refl _).alloc _).alloc _
  generalize ((w.alloc (Obj.cells (kv n p v s m) 176)).alloc (Obj.cells (kv n' p' v' s' m') 176)) = w2 at *
  clear hs0 hs1 g0 g1
  go_quiet_grown (first | (exact Calls.grown_of (edge_any _ _ _ _ _ _)) | (exact Calls.grown_of (compare_any _ _ _ _ _ _ _)))
  have HB := Law.hide hb
  clear hb k00 k01 k02 k03 k04 k10 k11 k12 k13 k14
  go_wp2
  go_ret
  refine ⟨rfl, ?_⟩
  obtain ⟨q, os, rfl⟩ := HB.out
  exact ⟨q + nq, os ++ osq, by show grow (grow ((w.drewN q).drewN nq) os) osq = _; rw [grow_grow, World.drewN_drewN]⟩
end Go.Proofs.YtakebkfhigadiaaGreat.CcX
namespace Go.Proofs.YtakebkfhigadiaaGreat.SoC
open Go Go.Shelf Go.RowKit Go.Lib Go.Sort Go.Proofs.YtakebkfhigadiaaGreat.Ry Go.Proofs.YtakebkfhigadiaaGreat.SoG Go.Proofs.YtakebkfhigadiaaGreat.CcX Go.Proofs.YtakebkfhigadiaaGreat.EcX

abbrev SK : Sh := .int .i64 (.int .i64 (.int .i64 (.int .i64 (.bool .nil))))
def encK (x : E) : List Value := [.int .i64 (ri x 0), .int .i64 (ri x 1), .int .i64 (ri x 2), .int .i64 (ri x 3), .bool (rb x 4)]
theorem valsK {G : Gm} {x : E} {us : List Value} : valsIs G SK x 0 us ↔ us = encK x := by
  constructor
  · rintro ⟨u1, rfl, u2, rfl, u3, rfl, u4, rfl, u5, rfl, rfl⟩
    rfl
  · rintro rfl
    exact ⟨_, rfl, _, rfl, _, rfl, _, rfl, _, rfl, rfl⟩
def orC (c1 c2 : Con) : Con := fun xs h => match c1 xs h with
  | some p => some p
  | none => c2 xs h
theorem orC_ok {P : Program} {f : FuncId} {c1 c2 : Con} (h1 : ConOk P f c1) (h2 : ConOk P f c2) : ConOk P f (orC c1 c2) := by
  refine ⟨h1.1, fun args h p hc => ?_⟩
  unfold orC at hc
  split at hc
  · rename_i q hq
    cases hc
    exact h1.2 args h _ hq
  · exact h2.2 args h p hc
def cfC (x y : E) : Int := cmpF (min (ri x 0) (ri x 1)) (max (ri x 0) (ri x 1)) (ri x 2) (min (ri y 0) (ri y 1)) (max (ri y 0) (ri y 1)) (ri y 2)
def ltE (x y : E) : Prop := ri x 2 < ri y 2 ∨ ri x 2 = ri y 2 ∧ (min (ri x 0) (ri x 1) < min (ri y 0) (ri y 1) ∨ min (ri x 0) (ri x 1) = min (ri y 0) (ri y 1) ∧ max (ri x 0) (ri x 1) < max (ri y 0) (ri y 1))
theorem ltC (x y : E) : ltOf cfC x y = true ↔ ltE x y := by
  unfold ltOf cfC
  rw [decide_eq_true_eq]
  exact cmpF_lt _ _ _ _ _ _
theorem ltC_no (x y : E) : ltOf cfC x y = false ↔ ¬ ltE x y := by
  rw [← ltC, Bool.not_eq_true]
def kdC : Kd where
  sh := SK
  K := 5
  enc := encK
  cf := cfC
  pos := by decide
  size := rfl
  len _ := rfl
  vals := valsK
  ones x v hv := by
    simp only [encK, List.mem_cons, List.not_mem_nil, or_false] at hv
    rcases hv with rfl | rfl | rfl | rfl | rfl <;> rfl
  swo := {
    irrefl := fun x => by
      rw [ltC_no]
      unfold ltE
      omega
    trans := fun x y z h1 h2 => by
      rw [ltC] at *
      unfold ltE at *
      omega
    ntrans := fun x y z h1 h2 => by
      rw [ltC_no] at *
      unfold ltE at *
      omega }
def srtC (l : List E) : List E := srt kdC l
theorem srtC_all (l : List E) : (srtC l).length = l.length ∧ (srtC l).Perm l ∧ (srtC l).Pairwise fun x y => ¬ ltE y x := by
  obtain ⟨a, b, c⟩ := srt_all kdC l
  exact ⟨a, b, c.imp fun {x y} h => (ltC_no y x).1 h⟩
theorem sort_calls (g off cap : Nat) (l : List E) (w : World) (hH : HoldsK encK 5 w g off l.toArray) (hg : g < w.heap.size) (hl : l.length < 4611686018427387904) :
    Calls Tryz.prog 221 #[.slice (some ⟨g, off, none⟩) l.length cap, .func (.func 231) #[] #[]] w fun e w' => e = .returned (.tuple #[]) ∧ ∃ n os, w' = sortWorldK encK 5 w g off n (srtC l).toArray os := by
  have hc : CmpLays Tryz.prog 231 #[] encK 5 cfC g off l.toArray.size w := fun m os dk hs x y => (ccomp_any _ _ _ _ _ _ _ _ _ _ _).mono fun e w' ⟨he, hw⟩ => ⟨he, hw⟩
  have h := AnyQ.slices_SortFunc_eq Sl.sortK 5 Tryz.isAgg176 Tryz.sizeOf176 encK (fun _ => rfl) (fun x v hv => by simp [encK] at hv; rcases hv with rfl | rfl | rfl | rfl | rfl <;> rfl) cfC kdC.swo 231 #[] g off cap l.toArray w (enters_of Tryz.func231 (by kernel_rfl) rfl) hc hH hg hl
  exact h.mono fun e w' ⟨he, n, os, hw⟩ => ⟨he, n, os, hw⟩
structure Oc where
  srt : List E → List E
  ok : List E → Bool
def Oc.std : Oc := ⟨srtC, fun l => decide (0 < l.length ∧ l.length ≤ 1000000)⟩
def c_sortr (F : Oc) : Con := fun xs h => match xs, h with
  | [.one (.own 0), .one (.val (.func (.func 231) ⟨[]⟩ ⟨[]⟩))], [(0, .row 176 (.recs (.int .i64 (.int .i64 (.int .i64 (.int .i64 (.bool .nil))))) l))] => some ⟨F.ok l = true, .tup [], [(0, .row 176 (.recs (.int .i64 (.int .i64 (.int .i64 (.int .i64 (.bool .nil))))) (F.srt l)))], [.one (.own 0), Any]⟩
  | _, _ => none
def c_sort0 (_ : Oc) : Con := fun xs h => match xs, h with
  | [.one (.val (.slice none 0 0)), .one (.val (.func (.func 231) ⟨[]⟩ ⟨[]⟩))], [] => some ⟨True, .tup [], [], [Any, Any]⟩
  | _, _ => none
theorem ok_sortr : ConOk Tryz.prog 221 (c_sortr Oc.std) := by
  refine sort_ok kdC (c := 231) (T := 176) (c_sortr Oc.std) (fun l => decide (0 < l.length ∧ l.length ≤ 1000000)) (fun l h => of_decide_eq_true h) (fun xs h p hp => ?_) ⟨_, Tryz.func221, rfl, by kernel_rfl⟩ sort_calls
  unfold c_sortr at hp
  split at hp
  · rename_i l
    cases hp
    exact ⟨l, rfl, rfl, rfl⟩
  · cases hp
theorem ok_sort0 : ConOk Tryz.prog 221 (c_sort0 Oc.std) := by
  refine ⟨⟨_, Tryz.func221, rfl, by kernel_rfl⟩, ?_⟩
  intro args h p hp hC G vs hh hbs hm hv
  unfold c_sort0 at hp
  split at hp
  · cases hp
    match vs, hv with
    | [v0, v1], ⟨hv0, _⟩ =>
      have hv0 : v0 = .slice none 0 0 := hv0
      subst hv0
      refine (AnyF.slices_SortFunc_none Sl.sortK none 0 v1 G.w).mono fun e w' ⟨he, hw⟩ => ?_
      subst hw
      exact ⟨_, G, he, rfl, rfl, hh, hm, ⟨[], rfl, trivial⟩, trivial, trivial, trivial⟩
  · cases hp
def c_sortc (F : Oc) : Con := orC (c_sortr F) (c_sort0 F)
theorem ok_sortc : ConOk Tryz.prog 221 (c_sortc Oc.std) := orC_ok ok_sortr ok_sort0
end Go.Proofs.YtakebkfhigadiaaGreat.SoC
