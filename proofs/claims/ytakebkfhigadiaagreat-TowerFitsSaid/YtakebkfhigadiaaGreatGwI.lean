/-
  slices.Grow of a nil slice: nothing is in what it gives, and it may be appended to. No condition.
-/
import Derived.Test.YtakebkfhigadiaaGreatRyOp
import Derived.Test.YtakebkfhigadiaaGreatSg
namespace Go.Proofs.YtakebkfhigadiaaGreat.GwI
open Go Go.Proofs Go.Proofs.YtakebkfhigadiaaGreat.Ry Go.Lib Go.RowKit

structure Gf where
  ok : Int → Bool
def Gf.std : Gf := ⟨fun n => decide (0 ≤ n ∧ n ≤ 1000000)⟩
def c_grow (F : Gf) : Con := fun xs h => match xs, h with
  | [.one (.val (.slice none 0 0)), .one (.val (.int .i64 n))], [] => some ⟨F.ok n = true, .sa (.one (.sl (some (0, 3)) (.ints .i64 []))), [(0, .tok)], [Any, Any]⟩
  | _, _ => none
set_option maxRecDepth 100000 in
theorem info : ∃ i z, Tryz.prog.info? 3 = some i ∧ i.zero = some z ∧ i.size = 1 ∧ i.bytes ≤ 1000 ∧ z.cells.size = 1 := by
  have h : (match Tryz.prog.info? 3 with
    | some i => (match i.zero with
      | some z => (i.size == 1) && (decide (i.bytes ≤ 1000) && (z.cells.size == 1))
      | none => false)
    | none => false) = true := by kernel_rfl
  split at h
  · rename_i i hi
    split at h
    · rename_i z hz
      simp only [Bool.and_eq_true, beq_iff_eq, decide_eq_true_eq] at h
      exact ⟨i, z, hi, hz, h.1, h.2.1, h.2.2⟩
    · cases h
  · cases h
set_option maxRecDepth 100000 in
theorem ok_grow : ConOk Tryz.prog 234 (c_grow Gf.std) := by
  refine ⟨⟨_, Tryz.func234, rfl, by kernel_rfl⟩, ?_⟩
  intro args h p hp hC G vs hh hbs hm hv
  unfold c_grow at hp
  split at hp
  · rename_i n
    cases hp
    have hk : 0 ≤ n ∧ n ≤ 1000000 := of_decide_eq_true hC
    have hd : hget G.h 0 = none := by rw [hh]; rfl
    have hset0 : hset G.h 0 .tok = [(0, .tok)] := by rw [hh]; rfl
    match vs, hv with
    | [v0, v1], ⟨hv0, hv1, _⟩ =>
      have hv0 : v0 = .slice none 0 0 := hv0
      have hv1 : v1 = .int .i64 n := hv1
      subst hv0 hv1
      by_cases h0 : n = 0
      · subst h0
        refine (Any8.slices_Grow_room Sg.growI none 0 0 0 G.w (Nat.le_refl _) (by decide) (by decide) (Nat.le_refl _)).mono fun e w' ⟨he, hw⟩ => ?_
        subst hw
        obtain ⟨x2, m2⟩ := mem_one (G := G) (d := 0) (k' := .tok) (x := none) (w' := G.w) hm rfl rfl rfl (Nat.le_refl _) (fun _ _ _ => rfl) (fun _ _ _ _ _ _ => rfl) (fun b m h => by cases h) (fun k hk _ => by rw [hd] at hk; cases hk) (fun _ => trivial)
        refine ⟨_, Ry.one G 0 .tok none G.w, he, rfl, rfl, hset0, m2, ?_, trivial, trivial, trivial⟩
        exact ⟨⟨none, 0, rfl, Nat.le_refl _, by unfold maxLen; omega, fun h => absurd rfl h⟩, tok_of (hget_self _ _ _) (.inl ⟨none, rfl⟩)⟩
      · have hn : ((n.toNat : Nat) : Int) = n := by omega
        obtain ⟨i, z, hi, hz, hs, hb, hzs⟩ := info
        have hc := Any8.slices_Grow_grow Sg.growI i z hi hz (by omega) none 0 0 n.toNat [] G.w (Nat.le_refl _) (by omega) (by
          have : (0 + n.toNat) * i.bytes ≤ 1000000 * 1000 := Nat.mul_le_mul (by omega) hb
          omega) (by omega) (by simp) (fun _ => rfl) (fun a h => by cases h)
        rw [hn] at hc
        have hcge := grownCap_ge G.w (0 + n.toNat) 0 3
        have hcle := grownCap_le_maxLen G.w (0 + n.toNat) 0 3 (by unfold maxLen; omega)
        refine hc.mono fun e w' ⟨he, hw⟩ => ?_
        change e = .returned (.slice (some ⟨G.w.heap.size, 0, none⟩) 0 (grownCap G.w (0 + n.toNat) 0 3)) at he
        change w' = G.w.drew.alloc (.cells (#[] ++ Builtin.zeroCells z.cells (0 + n.toNat - 0) ++ Builtin.zeroCells z.cells (grownCap G.w (0 + n.toNat) 0 3 - (0 + n.toNat))) 3) at hw
        generalize grownCap G.w (0 + n.toNat) 0 3 = cap at he hw hcge hcle
        have hw2 : w' = G.w.drew.alloc (.cells ([] ++ ((Builtin.zeroCells z.cells (0 + n.toNat - 0)).toList ++ (Builtin.zeroCells z.cells (cap - (0 + n.toNat))).toList)).toArray 3) := by
          rw [hw]
          congr 2
          simp
        have hbl : Below G.w.heap.size G.w w' := by
          rw [hw2]
          exact ((Below.refl _ _).drew).alloc (by simp) _
        obtain ⟨x2, m2, i2⟩ := new_tok (G := G) (w' := w') (d := 0) (ct := .ints .i64 []) (cap := cap) (e := 3) hm hd hbl (us := []) (rest := (Builtin.zeroCells z.cells (0 + n.toNat - 0)).toList ++ (Builtin.zeroCells z.cells (cap - (0 + n.toNat))).toList) (by rw [hw2]; exact heap_alloc_new _ _) (by rfl) (fun u hu => by cases hu) (Nat.zero_le _) hcle (by
          simp only [List.nil_append, List.length_append, Array.length_toList, size_zeroCells, hzs]
          show _ = cap * 1
          rw [← Nat.add_mul]
          congr 1
          omega)
        exact ⟨_, Ry.one G 0 .tok (some (G.w.heap.size, (.ints .i64 [] : Ct).n * (.ints .i64 [] : Ct).sz)) w', he, rfl, rfl, hset0, m2, i2, trivial, trivial, trivial⟩
  · cases hp
end Go.Proofs.YtakebkfhigadiaaGreat.GwI
