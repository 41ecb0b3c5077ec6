/-
  edges in order, whatever the order was. No condition.
-/
import Derived.Test.YtakebkfhigadiaaEgR
namespace Go.Proofs.Ytakebkfhigadiaa.EgL
open Go Go.Proofs.Ytakebkfhigadiaa.Ry Go.Proofs.Ytakebkfhigadiaa.So Go.Proofs.Ytakebkfhigadiaa.EcX Go.Proofs.Ytakebkfhigadiaa.Cmp Go.Proofs.Ytakebkfhigadiaa.EgR

def goodT (l : List (Int × Int × Int)) : Prop := (∀ y ∈ l, mayE y.1 y.2.1 y.2.2 = true) ∧ (l.map fun y => (y.1, y.2.1)).Nodup
theorem good_T (l : List E) : goodL l = true ↔ goodT (l.map trE) := by
  rw [good_iff]
  unfold goodT
  rw [List.map_map]
  constructor
  · rintro ⟨a, b⟩
    refine ⟨fun y hy => ?_, b⟩
    obtain ⟨z, hz, rfl⟩ := List.mem_map.1 hy
    exact a z hz
  · rintro ⟨a, b⟩
    exact ⟨fun y hy => a (trE y) (List.mem_map.2 ⟨y, hy, rfl⟩), b⟩
theorem goodT_perm {l c : List (Int × Int × Int)} (h : c.Perm l) : goodT c ↔ goodT l := by
  unfold goodT
  have e : (∀ y ∈ c, mayE y.1 y.2.1 y.2.2 = true) ↔ ∀ y ∈ l, mayE y.1 y.2.1 y.2.2 = true := ⟨fun a y hy => a y (h.mem_iff.2 hy), fun a y hy => a y (h.mem_iff.1 hy)⟩
  rw [e, (h.map _).nodup_iff]
theorem all_perm {l c : List E} (h : (c.map trE).Perm (l.map trE)) : allE c = allE l := by
  have h1 : goodL c = goodL l := by
    have := (good_T c).trans ((goodT_perm h).trans (good_T l).symm)
    cases a : goodL c <;> cases b : goodL l <;> simp_all
  have h2 : c.length = l.length := by
    have := h.length_eq
    simpa using this
  unfold allE
  rw [h1, h2]
def ahT (x y : Int × Int × Int) : Prop := x.2.2 < y.2.2 ∨ x.2.2 = y.2.2 ∧ (x.1 < y.1 ∨ x.1 = y.1 ∧ x.2.1 < y.2.1)
theorem srt_tr (l : List E) : ((srtE l).map trE).Perm (l.map trE) ∧ ((srtE l).map trE).Pairwise fun x y => ¬ ahT y x := by
  obtain ⟨_, h2, h3⟩ := srt_all l
  refine ⟨h2.map _, ?_⟩
  rw [List.pairwise_map]
  exact h3
/-- Edges in order are the same, whatever the order was. -/
theorem srt_same {l c : List E} (h : (c.map trE).Perm (l.map trE)) : (srtE c).map trE = (srtE l).map trE := by
  obtain ⟨a1, a2⟩ := srt_tr c
  obtain ⟨b1, b2⟩ := srt_tr l
  refine List.Perm.eq_of_pairwise (fun x y _ _ g1 g2 => ?_) a2 b2 (a1.trans (h.trans b1.symm))
  obtain ⟨x1, x2, x3⟩ := x
  obtain ⟨y1, y2, y3⟩ := y
  simp only [ahT] at g1 g2
  simp only [Prod.mk.injEq]
  omega
theorem x_same {l c : List E} (h : (c.map trE).Perm (l.map trE)) : sameE (srtX l) (srtX c) = true := by
  unfold sameE srtX
  rw [all_perm h]
  split
  · exact decide_eq_true (srt_same h).symm
  · rfl
theorem x_steps {l : List E} (h : allE l = 0) {i : Int} (h1 : 1 ≤ i) (h2 : i < (srtX l).length) :
    cmpF (ri ((srtX l).getD (i - 1).toNat []) 0) (ri ((srtX l).getD (i - 1).toNat []) 1) (ri ((srtX l).getD (i - 1).toNat []) 2) (ri ((srtX l).getD i.toNat []) 0) (ri ((srtX l).getD i.toNat []) 1) (ri ((srtX l).getD i.toNat []) 2) < 0 := by
  have hg : goodL l = true := by
    cases g : goodL l with
    | true => rfl
    | false =>
      unfold allE at h
      rw [g, if_neg (by decide)] at h
      exact absurd h (by decide)
  have e : srtX l = srtE l := by
    unfold srtX
    rw [if_pos h]
  rw [e] at h2 ⊢
  obtain ⟨s1, s2, s3⟩ := srt_all l
  have hn : ((srtE l).map prE).Nodup := (s2.map prE).nodup_iff.2 ((good_iff l).1 hg).2
  have hi : i.toNat < (srtE l).length := by omega
  have hj : (i - 1).toNat < (srtE l).length := by omega
  have g1 := (List.pairwise_iff_getElem.1 s3) (i - 1).toNat i.toNat hj hi (by omega)
  have g2 : prE (srtE l)[(i - 1).toNat] ≠ prE (srtE l)[i.toNat] := by
    have := (List.pairwise_iff_getElem.1 (List.pairwise_map.1 hn)) (i - 1).toNat i.toNat hj hi (by omega)
    exact this
  rw [List.getD_eq_getElem?_getD, List.getD_eq_getElem?_getD, List.getElem?_eq_getElem hi, List.getElem?_eq_getElem hj]
  simp only [Option.getD_some]
  rw [cmpF_lt]
  unfold aheadE at g1
  unfold prE at g2
  simp only [ne_eq, Prod.mk.injEq] at g2
  omega
structure XS where
  i : Int
  c : List E
def swQ (l : List E) (y : XS) : Prop := 0 ≤ y.i ∧ y.i ≤ y.c.length ∧ (y.c.map trE).Perm (l.map trE)
def swM (y : XS) : Nat := y.c.length - y.i.toNat
theorem sw_zero (l : List E) : swQ l ⟨0, l⟩ := ⟨Int.le_refl 0, Int.natCast_nonneg _, List.Perm.refl _⟩
theorem sw_len {l : List E} {i : Int} {c : List E} (hq : swQ l ⟨i, c⟩) : c.length = l.length := by
  have := hq.2.2.length_eq
  simpa using this
theorem sw_step {l : List E} {i : Int} {c : List E} (hq : swQ l ⟨i, c⟩) (mx : List Int) (hm : ∀ x ∈ mx, 0 ≤ x ∧ x ≤ 255) (h : i < c.length) (h2 : i < mx.length) (hl : c.length ≤ 1000000) :
    stdBin .add .i64 i 1 = i + 1 ∧ 0 ≤ stdBin .rem .i64 (IntKind.i64.wrap (mx.getD i.toNat 0)) c.length ∧ stdBin .rem .i64 (IntKind.i64.wrap (mx.getD i.toNat 0)) c.length < c.length ∧ (c.length : Int) ≠ 0 ∧
    swQ l ⟨i + 1, (c.set i.toNat [D.int (ri (c.getD (stdBin .rem .i64 (IntKind.i64.wrap (mx.getD i.toNat 0)) c.length).toNat []) 0), D.int (ri (c.getD (stdBin .rem .i64 (IntKind.i64.wrap (mx.getD i.toNat 0)) c.length).toNat []) 1), D.int (ri (c.getD (stdBin .rem .i64 (IntKind.i64.wrap (mx.getD i.toNat 0)) c.length).toNat []) 2)]).set (stdBin .rem .i64 (IntKind.i64.wrap (mx.getD i.toNat 0)) c.length).toNat [D.int (ri (c.getD i.toNat []) 0), D.int (ri (c.getD i.toNat []) 1), D.int (ri (c.getD i.toNat []) 2)]⟩ ∧
    (∀ a b, swM ⟨i + 1, (c.set i.toNat a).set (stdBin .rem .i64 (IntKind.i64.wrap (mx.getD i.toNat 0)) c.length).toNat b⟩ < swM ⟨i, c⟩) := by
  obtain ⟨h0, h1, h3⟩ := hq
  simp only at h0 h1 h3
  have hv : 0 ≤ mx.getD i.toNat 0 ∧ mx.getD i.toNat 0 ≤ 255 := by
    have hi : i.toNat < mx.length := by omega
    rw [List.getD_eq_getElem?_getD, List.getElem?_eq_getElem hi]
    exact hm _ (List.getElem_mem hi)
  have hw : stdBin .rem .i64 (IntKind.i64.wrap (mx.getD i.toNat 0)) c.length = mx.getD i.toNat 0 % c.length := by
    rw [wr _ (by omega) (by omega), b_rem, Int.tmod_eq_emod_of_nonneg hv.1]
  rw [hw]
  have k0 := Int.emod_nonneg (mx.getD i.toNat 0) (show (c.length : Int) ≠ 0 by omega)
  have k1 := Int.emod_lt_of_pos (mx.getD i.toNat 0) (show (0 : Int) < c.length by omega)
  generalize mx.getD i.toNat 0 % (c.length : Int) = k at k0 k1 ⊢
  have hi : i.toNat < c.length := by omega
  have hk : k.toNat < c.length := by omega
  have ei : c.getD i.toNat [] = c[i.toNat] := by rw [List.getD_eq_getElem?_getD, List.getElem?_eq_getElem hi]; rfl
  have ek : c.getD k.toNat [] = c[k.toNat] := by rw [List.getD_eq_getElem?_getD, List.getElem?_eq_getElem hk]; rfl
  refine ⟨by rw [b_add, wr _ (by omega) (by omega)], k0, k1, by omega, ⟨by simp only; omega, by simp only [List.length_set]; omega, ?_⟩, fun a b => by simp only [swM, List.length_set]; omega⟩
  simp only
  rw [List.map_set, List.map_set, ei, ek]
  have hp := List.set_set_perm («as» := c.map trE) (i := i.toNat) (j := k.toNat) (by simpa using hi) (by simpa using hk)
  rw [List.getElem_map, List.getElem_map] at hp
  exact hp.trans h3
structure XP where
  i : Int
def stpQ (l : List E) (y : XP) : Prop := 1 ≤ y.i ∧ (y.i ≤ l.length ∨ y.i = 1)
def stpM (l : List E) (y : XP) : Nat := l.length - y.i.toNat
theorem stp_step {l : List E} (h : allE l = 0) {i : Int} (hq : stpQ (srtX l) ⟨i⟩) (h2 : i < (srtX l).length) (hl : (srtX l).length ≤ 1000000) :
    stdBin .sub .i64 i 1 = i - 1 ∧ stdBin .add .i64 i 1 = i + 1 ∧ stpQ (srtX l) ⟨i + 1⟩ ∧ stpM (srtX l) ⟨i + 1⟩ < stpM (srtX l) ⟨i⟩ ∧
    cmpF (ri ((srtX l).getD (i - 1).toNat []) 0) (ri ((srtX l).getD (i - 1).toNat []) 1) (ri ((srtX l).getD (i - 1).toNat []) 2) (ri ((srtX l).getD i.toNat []) 0) (ri ((srtX l).getD i.toNat []) 1) (ri ((srtX l).getD i.toNat []) 2) < 0 := by
  obtain ⟨h0, h1⟩ := hq
  simp only at h0 h1
  exact ⟨by rw [b_sub, wr _ (by omega) (by omega)], by rw [b_add, wr _ (by omega) (by omega)], ⟨by simp only; omega, by simp only; omega⟩, by simp only [stpM]; omega, x_steps h h0 h2⟩
theorem x_len (l : List E) : (srtX l).length ≤ l.length := by
  unfold srtX
  split
  · rw [(srt_all l).1]
    exact Nat.le_refl _
  · exact Nat.zero_le _

structure Ls where
  l : Unit
def Ls.std : Ls := ⟨()⟩
end Go.Proofs.Ytakebkfhigadiaa.EgL
