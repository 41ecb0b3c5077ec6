/-
  The least forest, as the statements ask of it. No condition.
-/
import Derived.Test.YtakebkfhigadiaaSpO
namespace Go.Proofs.Ytakebkfhigadiaa.SpL
open Go Go.Proofs.Ytakebkfhigadiaa.Ry Go.Proofs.Ytakebkfhigadiaa.So Go.Proofs.Ytakebkfhigadiaa.JoS Go.Proofs.Ytakebkfhigadiaa.JoR Go.Proofs.Ytakebkfhigadiaa.JoW Go.Proofs.Ytakebkfhigadiaa.EgR Go.Proofs.Ytakebkfhigadiaa.EgL Go.Proofs.Ytakebkfhigadiaa.SpR Go.Proofs.Ytakebkfhigadiaa.SpQ Go.Proofs.Ytakebkfhigadiaa.SpK Go.Proofs.Ytakebkfhigadiaa.SpT Go.Proofs.Ytakebkfhigadiaa.SpO

theorem all_good {l : List E} (h : allE l = 0) : goodL l = true := by
  cases g : goodL l with
  | true => rfl
  | false =>
    unfold allE at h
    rw [g, if_neg (by decide)] at h
    exact absurd h (by decide)
theorem may_ok {y : E} (h : may1 y = true) : okT (trE y) := by
  have := may_1 h
  exact ⟨⟨this.1, this.2.1⟩, ⟨this.2.2.1, this.2.2.2.1⟩⟩
theorem ok_T {l : List E} (h : goodL l = true) : ∀ y ∈ l, okT (trE y) := fun y hy => may_ok (((good_iff l).1 h).1 y hy)
theorem srt_in {l : List E} (h : goodL l = true) : ∀ y ∈ srtE l, may1 y = true := fun y hy => ((good_iff l).1 h).1 y ((srt_all l).2.1.mem_iff.1 hy)
theorem in_R {l : List E} (h : goodL l = true) (hl : l.length ≤ 1000000) : inR l = true := inR_iff.2 ⟨hl, fun y hy => by
  have := may_1 (((good_iff l).1 h).1 y hy)
  omega⟩
theorem lsF_len : ∀ (s : List E) (J : JT), (lsF J s).length ≤ s.length
  | [], _ => Nat.le_refl _
  | y :: s, J => by
    have := lsF_len s (jF J y)
    unfold lsF
    split <;> simp only [List.length_cons] <;> omega
theorem lst_len (l : List E) : (lstB l).length ≤ l.length := by
  unfold lstB
  split
  · have := lsF_len (srtE l) j0
    rw [(srt_all l).1] at this
    exact this
  · exact Nat.zero_le _
theorem rlF_len : ∀ (s o : List E), (rlF o s).length ≤ o.length + s.length
  | [], o => Nat.le_refl _
  | y :: s, o => by
    have h1 := rlF_len s o
    have h2 := rlF_len s (o ++ [e3 y])
    rw [List.length_append] at h2
    unfold rlF
    split <;> simp only [List.length_cons, List.length_nil] at * <;> omega
theorem rl_len (l : List E) : (rlB l).length ≤ l.length := by
  have := rlF_len (rsB l) []
  rw [rs_len] at this
  simpa [rlB] using this
/-- The code's least forest. -/
theorem lst_kru {l : List E} (h : allE l = 0) : (lstB l).map trE = kru ((srtE l).map trE) := by
  unfold lstB
  rw [if_pos h]
  exact ls_grd _ j0_ok rel_0 fun y hy => may_ok (srt_in (all_good h) y hy)
theorem rl_kru {l : List E} (h : goodL l = true) : (rlB l).map trE = kru ((srtE l).map trE) := by
  unfold rlB
  rw [rl_grd _ [] (fun y hy => may_ok (rs_in h y hy)) (fun y hy => by cases hy), rs_srt]
  rfl
theorem least_same {l : List E} (h : allE l = 0) : sameE (lstB l) (rlB l) = true := decide_eq_true ((lst_kru h).trans (rl_kru (all_good h)).symm)
theorem for_same {l : List E} (h : allE l = 0) : forB l = rfB l := by
  have hl := ok_T (all_good h)
  have a := for_frs l j0_ok rel_0 hl
  have b := rf_iff hl
  unfold forB
  rw [decide_eq_true h, Bool.true_and, Bool.eq_iff_iff]
  exact a.trans b.symm
theorem lk_same {l : List E} (h : allE l = 0) (a b : Int) : lkB l a b = lkR l a b := by
  have hl := ok_T (all_good h)
  unfold lkB
  rw [decide_eq_true h, Bool.true_and, Bool.eq_iff_iff, same_iff hl, lk_iff hl]
theorem lsF_congr : ∀ (s r : List E) (J : JT), s.map trE = r.map trE → lsF J s = lsF J r
  | [], [], _, _ => rfl
  | [], _ :: _, _, h => by cases h
  | _ :: _, [], _, h => by cases h
  | y :: s, z :: r, J, h => by
    rw [List.map_cons, List.map_cons, List.cons.injEq] at h
    have e := h.1
    unfold trE at e
    simp only [Prod.mk.injEq] at e
    have ej : jF J y = jF J z := by
      unfold jF
      rw [e.1, e.2.1]
    have ih := lsF_congr s r (jF J z) h.2
    unfold lsF
    rw [ej, ih, e.1, e.2.1, e.2.2]
def aL : List E := [[D.int 1, D.int 2, D.int 5], [D.int 2, D.int 3, D.int 1], [D.int 1, D.int 3, D.int 1]]
def aF : List E := [[D.int 1, D.int 3, D.int 1], [D.int 2, D.int 3, D.int 1]]
theorem aw_all : allE aL = 0 := by decide +kernel
theorem aw_rs : rsB aL = [[D.int 1, D.int 3, D.int 1], [D.int 2, D.int 3, D.int 1], [D.int 1, D.int 2, D.int 5]] := by rfl
theorem aw_ls : lsF j0 [[D.int 1, D.int 3, D.int 1], [D.int 2, D.int 3, D.int 1], [D.int 1, D.int 2, D.int 5]] = aF := by rfl
theorem aw_l : lstB aL = aF := by
  unfold lstB
  rw [if_pos aw_all, lsF_congr _ (rsB aL) j0 (rs_srt aL).symm, aw_rs, aw_ls]
theorem aw_f : forB aF = true ∧ lkB aF 1 2 = true ∧ sameE aF aF = true := by decide +kernel
/-- Edges in order rise. -/
theorem inc_srt {l : List E} (h : goodL l = true) : Inc ((srtE l).map trE) := by
  obtain ⟨a1, a2⟩ := srt_tr l
  have hn : ((srtE l).map prE).Nodup := ((srt_all l).2.1.map prE).nodup_iff.2 ((good_iff l).1 h).2
  have hn2 : ((srtE l).map trE).Pairwise fun x y => ¬ (x.1, x.2.1) = (y.1, y.2.1) := by
    rw [List.pairwise_map]
    exact List.pairwise_map.1 hn
  refine (a2.and hn2).imp fun {x y} k => ?_
  obtain ⟨x1, x2, x3⟩ := x
  obtain ⟨y1, y2, y3⟩ := y
  obtain ⟨k1, k2⟩ := k
  simp only [ahT, Prod.mk.injEq, lt] at *
  omega
theorem mem_srt (l : List E) (y : T) : y ∈ (srtE l).map trE ↔ y ∈ l.map trE := (srt_tr l).1.mem_iff
end Go.Proofs.Ytakebkfhigadiaa.SpL
