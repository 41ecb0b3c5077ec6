/-
  Cells of the call's own that are kept over calls: block, place, value; none is frozen; below the first world nothing has turned. No condition.
-/
import Derived.Test.YtcbfccadodikgaaLaw
namespace Go.Proofs.Ytcbfccadodikgaa.Law
open Go.RowKit

def Held (w0 : World) (L : List (Nat × Nat × Value)) (w' : World) : Prop :=
  Below w0.heap.size w0 w' ∧ ∀ x ∈ L, x.1 < w'.heap.size ∧ w'.cell? ⟨x.1, x.2.1, none⟩ = some x.2.2 ∧ ∀ o, w'.frozen? ⟨x.1, o, none⟩ = false
section
variable {w0 w' w2 : World} {L : List (Nat × Nat × Value)}
theorem Held.start (w : World) : Held w [] w := ⟨Below.refl _ _, fun x hx => by cases hx⟩
theorem Held.size (h : Held w0 L w') : w0.heap.size ≤ w'.heap.size := h.1.size
theorem Held.drew (h : Held w0 L w') : Held w0 L w'.drew := ⟨h.1.drew, h.2⟩
theorem Held.drewN (h : Held w0 L w') (k : Nat) : Held w0 L (w'.drewN k) := ⟨below_drewN h.1 k, h.2⟩
theorem Held.call (h : Held w0 L w') (hb : Below w'.heap.size w' w2) : Held w0 L w2 :=
  ⟨h.1.trans (hb.mono h.1.size), fun x hx => ⟨Nat.lt_of_lt_of_le (h.2 x hx).1 hb.size, ((bcell hb).1 _ _ (h.2 x hx).1).trans (h.2 x hx).2.1, fun o => ((bcell hb).2 _ _ (h.2 x hx).1).trans ((h.2 x hx).2.2 o)⟩⟩
theorem frozen_alloc_lt (w : World) (o : Obj) (a : Addr) (h : a.block < w.heap.size) : (w.alloc o).frozen? a = w.frozen? a := World.frozen?_of_block (Below.heap_alloc w o _ h)
theorem Held.alloc (h : Held w0 L w') (o : Obj) : Held w0 L (w'.alloc o) :=
  ⟨h.1.alloc h.1.size o, fun x hx => ⟨by have := (h.2 x hx).1; simp; omega, (World.cell?_alloc_lt w' o _ (h.2 x hx).1).trans (h.2 x hx).2.1, fun j => (frozen_alloc_lt w' o _ (h.2 x hx).1).trans ((h.2 x hx).2.2 j)⟩⟩
theorem Held.add (h : Held w0 L w') {b o : Nat} {v : Value} (hb : b < w'.heap.size) (hc : w'.cell? ⟨b, o, none⟩ = some v) (hf : ∀ o, w'.frozen? ⟨b, o, none⟩ = false) : Held w0 ((b, o, v) :: L) w' :=
  ⟨h.1, fun x hx => by
    rcases List.mem_cons.1 hx with rfl | hx
    · exact ⟨hb, hc, hf⟩
    · exact h.2 x hx⟩
theorem Held.new1 (h : Held w0 L w') (t : TypeId) (a : Value) : Held w0 ((w'.heap.size, 0, a) :: L) (w'.alloc (.cells #[a] t)) :=
  (h.alloc _).add (by simp) (by go_simp) (fun o => by go_simp)
theorem Held.new2 (h : Held w0 L w') (t : TypeId) (a b : Value) : Held w0 ((w'.heap.size, 0, a) :: (w'.heap.size, 1, b) :: L) (w'.alloc (.cells #[a, b] t)) :=
  ((h.alloc _).add (by simp) (by go_simp) (fun o => by go_simp)).add (by simp) (by go_simp) (fun o => by go_simp)
theorem Held.new3 (h : Held w0 L w') (t : TypeId) (a b c : Value) : Held w0 ((w'.heap.size, 0, a) :: (w'.heap.size, 1, b) :: (w'.heap.size, 2, c) :: L) (w'.alloc (.cells #[a, b, c] t)) :=
  (((h.alloc _).add (by simp) (by go_simp) (fun o => by go_simp)).add (by simp) (by go_simp) (fun o => by go_simp)).add (by simp) (by go_simp) (fun o => by go_simp)
theorem Held.new4 (h : Held w0 L w') (t : TypeId) (a b c d : Value) : Held w0 ((w'.heap.size, 0, a) :: (w'.heap.size, 1, b) :: (w'.heap.size, 2, c) :: (w'.heap.size, 3, d) :: L) (w'.alloc (.cells #[a, b, c, d] t)) :=
  ((((h.alloc _).add (by simp) (by go_simp) (fun o => by go_simp)).add (by simp) (by go_simp) (fun o => by go_simp)).add (by simp) (by go_simp) (fun o => by go_simp)).add (by simp) (by go_simp) (fun o => by go_simp)
theorem Held.head {b o : Nat} {v : Value} (h : Held w0 ((b, o, v) :: L) w') : b < w'.heap.size ∧ w'.cell? ⟨b, o, none⟩ = some v ∧ (∀ o, w'.frozen? ⟨b, o, none⟩ = false) ∧ Held w0 L w' :=
  ⟨(h.2 _ (List.mem_cons_self ..)).1, (h.2 _ (List.mem_cons_self ..)).2.1, (h.2 _ (List.mem_cons_self ..)).2.2, h.1, fun x hx => h.2 x (List.mem_cons_of_mem _ hx)⟩
theorem Held.at1 (h : Held w0 L w') (b0 : Nat) (e : w'.heap.size = b0) (t : TypeId) (a : Value) : Held w0 ((b0, 0, a) :: L) (w'.alloc (.cells #[a] t)) := by
  subst e
  exact h.new1 t a
theorem Held.at2 (h : Held w0 L w') (b0 : Nat) (e : w'.heap.size = b0) (t : TypeId) (a b : Value) : Held w0 ((b0, 0, a) :: (b0, 1, b) :: L) (w'.alloc (.cells #[a, b] t)) := by
  subst e
  exact h.new2 t a b
theorem Held.at3 (h : Held w0 L w') (b0 : Nat) (e : w'.heap.size = b0) (t : TypeId) (a b c : Value) : Held w0 ((b0, 0, a) :: (b0, 1, b) :: (b0, 2, c) :: L) (w'.alloc (.cells #[a, b, c] t)) := by
  subst e
  exact h.new3 t a b c
theorem Held.at4 (h : Held w0 L w') (b0 : Nat) (e : w'.heap.size = b0) (t : TypeId) (a b c d : Value) : Held w0 ((b0, 0, a) :: (b0, 1, b) :: (b0, 2, c) :: (b0, 3, d) :: L) (w'.alloc (.cells #[a, b, c, d] t)) := by
  subst e
  exact h.new4 t a b c d
/-- A store into a cell that is kept, or into another block. -/
theorem Held.set (h : Held w0 L w') {b o : Nat} {v : Value} (hb : w0.heap.size ≤ b) (hne : ∀ x ∈ L, x.1 ≠ b ∨ x.2.1 ≠ o) : Held w0 L (w'.setCell ⟨b, o, none⟩ v) :=
  ⟨h.1.setCell hb v, fun x hx => ⟨by simpa using (h.2 x hx).1, (World.cell?_setCell_other _ _ _ _ (by
    intro e
    have h1 : b = x.1 := congrArg Addr.block e
    have h2 : o = x.2.1 := congrArg Addr.off e
    rcases hne x hx with h | h
    · exact h h1.symm
    · exact h h2.symm)).trans (h.2 x hx).2.1, fun j => by
      have := (h.2 x hx).2.2 j
      simpa using this⟩⟩
end
end Go.Proofs.Ytcbfccadodikgaa.Law
