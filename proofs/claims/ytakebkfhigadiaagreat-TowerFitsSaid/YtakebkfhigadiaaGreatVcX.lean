/-
  What view.compare tells of two links, and what it makes of the world: draws and new blocks, nothing else. No condition.
-/
import Derived.Test.YtakebkfhigadiaaGreatEcX
namespace Go.Proofs.YtakebkfhigadiaaGreat.VcX
open Go.RowKit Go.Proofs.YtakebkfhigadiaaGreat.Law Go.Proofs.YtakebkfhigadiaaGreat.Cmp Go.Sort Go.Proofs.YtakebkfhigadiaaGreat.EcX

def kcF (n p n' p' : Int) : Int := orF [sgn n n', sgn p p']
theorem kcF_lt (n p n' p' : Int) : (kcF n p n' p' < 0) ↔ (n < n' ∨ n = n' ∧ p < p') := by
  unfold kcF orF orF orF sgn
  (repeat' split) <;> omega
abbrev kv (n p w s : Int) (m : Bool) : Array Value := #[Value.int IntKind.i64 n, Value.int IntKind.i64 p, Value.int IntKind.i64 w, Value.int IntKind.i64 s, Value.bool m]
set_option maxRecDepth 20000 in
set_option maxHeartbeats 400000 in
theorem kcomp_any (n p v s : Int) (m : Bool) (n' p' v' s' : Int) (m' : Bool) (w : World) : Calls Tryz.prog 209 #[.agg (kv n p v s m), .agg (kv n' p' v' s' m')] w
    fun e w' => e = .returned (.int .i64 (kcF n p n' p')) ∧ Gr w w' := by
  go_enter Tryz.func209, Tryz.ntmps209
  go_wp2
  refine wp_region_still_tail 10 (by kernel_rfl) (by kernel_rfl) ?_
  simp only [List.take_succ_cons, List.take_zero, List.drop_succ_cons, List.drop_zero]
  have hb : Gr w (((w.alloc (Obj.cells (kv n p v s m) 176)).alloc (Obj.cells (kv n' p' v' s' m') 176)).drew) := (((Gr.refl _).alloc _).alloc _).drew
  have k00 : (((w.alloc (Obj.cells (kv n p v s m) 176)).alloc (Obj.cells (kv n' p' v' s' m') 176)).drew).cell? ⟨w.heap.size, 0, none⟩ = some (.int .i64 n) := by go_simp
  have k01 : (((w.alloc (Obj.cells (kv n p v s m) 176)).alloc (Obj.cells (kv n' p' v' s' m') 176)).drew).cell? ⟨w.heap.size, 1, none⟩ = some (.int .i64 p) := by go_simp
  have k10 : (((w.alloc (Obj.cells (kv n p v s m) 176)).alloc (Obj.cells (kv n' p' v' s' m') 176)).drew).cell? ⟨w.heap.size + 1, 0, none⟩ = some (.int .i64 n') := by go_simp
  have k11 : (((w.alloc (Obj.cells (kv n p v s m) 176)).alloc (Obj.cells (kv n' p' v' s' m') 176)).drew).cell? ⟨w.heap.size + 1, 1, none⟩ = some (.int .i64 p') := by go_simp
  change wpStill _ _ (World.drew _) (fun a' => wpList _ _ _ _ a' (World.drew _)) _ _
  generalize (((w.alloc (Obj.cells (kv n p v s m) 176)).alloc (Obj.cells (kv n' p' v' s' m') 176)).drew) = w2 at *
  repeat still_step
  still_call (still_of (cmp_any _ _ _))
  repeat still_step
  still_call (still_of (cmp_any _ _ _))
  repeat still_step
  refine wpStill_nil ?_
  have HB := Law.hide hb; clear hb k00 k01 k10 k11
  go_wp2_with fail
  refine (or_any [sgn n n', sgn p p'] w2.heap.size _ (by simp) ?_).mono ?_
  · intro i v hx
    match i, hx with
    | 0, hx => simp at hx; subst hx; go_simp
    | 1, hx => simp at hx; subst hx; go_simp
  rintro e w' ⟨rfl, rfl⟩
  go_wp2_with fail
  go_ret
  exact ⟨rfl, HB.out.alloc _⟩
end Go.Proofs.YtakebkfhigadiaaGreat.VcX
