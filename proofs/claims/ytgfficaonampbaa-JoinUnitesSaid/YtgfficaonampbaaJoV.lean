/-
  joins: what any joinings leave. No condition.
-/
import Derived.Test.YtgfficaonampbaaJoU
namespace Go.Proofs.Ytgfficaonampbaa.JoV
open Go Go.Proofs.Ytgfficaonampbaa.Ry Go.Proofs.Ytgfficaonampbaa.JoS Go.Proofs.Ytgfficaonampbaa.JoR Go.Proofs.Ytgfficaonampbaa.JoW Go.Proofs.Ytgfficaonampbaa.JoN Go.Proofs.Ytgfficaonampbaa.JoC Go.Proofs.Ytgfficaonampbaa.JoU

theorem lw_if (W : List Int) (a : Int) : lw W a = if inB W a = true then ix W a else 0 := by
  unfold lw inB
  by_cases h : 1 ≤ a ∧ a < (W.length : Int)
  · rw [if_pos h, if_pos (decide_eq_true h)]
  · rw [if_neg h, if_neg (by simpa using h)]
theorem lw_no {W : List Int} (hw : WOk W) (a : Int) : lw W a = 0 ↔ inB W a = false := by
  rw [lw_if]
  cases h : inB W a with
  | true =>
    have h := of_decide_eq_true h
    have := hw.lo a h.1 h.2
    simp only [if_true]
    constructor
    · intro w
      omega
    · intro w
      cases w
  | false => simp
theorem rJ_join {W : List Int} (hw : WOk W) (h0 : ix W 0 = 0) {lo hi : Int} (hh : 1 ≤ hi) : rJ W lo hi W.length = join W lo hi := by
  unfold rJ join
  apply List.ext_getElem?
  intro i
  rw [List.getElem?_map, List.getElem?_map]
  by_cases hi' : i < W.length
  · rw [List.getElem?_range hi', List.getElem?_eq_getElem hi']
    have e : ix W (i : Int) = W[i] := by
      show W.getD (i : Int).toNat 0 = W[i]
      rw [Int.toNat_natCast, List.getD_eq_getElem?_getD, List.getElem?_eq_getElem hi']
      rfl
    simp only [Option.map_some]
    congr 1
    rw [e]
    by_cases g : W[i] = hi
    · by_cases g2 : 0 < (i : Int)
      · rw [if_pos ⟨g2, g⟩, if_pos g]
      · exfalso
        have : i = 0 := by omega
        subst this
        rw [← e] at g
        have h0' : ix W ((0 : Nat) : Int) = 0 := h0
        omega
    · rw [if_neg (fun w => g w.2), if_neg g]
  · rw [List.getElem?_eq_none (by simpa using hi'), List.getElem?_eq_none (by simpa using hi')]
    rfl
theorem rU_uni {W : List Int} (hw : WOk W) (h0 : ix W 0 = 0) (a b : Int) : rU W a b = uniW W a b ∧ rB W a b = decide (lw W a ≠ 0 ∧ lw W b ≠ 0 ∧ lw W a ≠ lw W b) := by
  have ha := lw_no hw a
  have hb := lw_no hw b
  have ea := lw_if W a
  have eb := lw_if W b
  by_cases ga : inB W a = true
  · by_cases gb : inB W b = true
    · rw [if_pos ga] at ea
      rw [if_pos gb] at eb
      have ia := of_decide_eq_true ga
      have ib := of_decide_eq_true gb
      have la := hw.lo a ia.1 ia.2
      have lb := hw.lo b ib.1 ib.2
      unfold uniW rU rB
      rw [ea, eb]
      by_cases g : ix W a = ix W b
      · rw [decide_eq_false (fun w => w.2.2 g), if_neg (by decide), if_neg (fun w => w.2.2 g)]
        exact ⟨rfl, (decide_eq_false (fun w => w.2.2 g)).symm⟩
      · have hp : (1 ≤ a ∧ a < (W.length : Int)) ∧ (1 ≤ b ∧ b < (W.length : Int)) ∧ ¬ ix W a = ix W b := ⟨ia, ib, g⟩
        have hq : ix W a ≠ 0 ∧ ix W b ≠ 0 ∧ ix W a ≠ ix W b := ⟨by omega, by omega, g⟩
        rw [decide_eq_true hp, if_pos rfl, if_pos hq, decide_eq_true hq]
        refine ⟨?_, rfl⟩
        have hh : (if ix W b < ix W a then ix W a else ix W b) = (if ix W a < ix W b then ix W b else ix W a) := by
          split <;> split <;> omega
        rw [rJ_join hw h0 (by split <;> omega), hh]
    · have gb' : inB W b = false := by simpa using gb
      have nb : ¬ (1 ≤ b ∧ b < (W.length : Int)) := of_decide_eq_false gb'
      have zb := hb.2 gb'
      unfold uniW rU rB
      rw [decide_eq_false (fun w => nb w.2.1), if_neg (by simp), if_neg (fun w => w.2.1 zb), decide_eq_false (fun w => w.2.1 zb)]
      exact ⟨rfl, rfl⟩
  · have ga' : inB W a = false := by simpa using ga
    have na : ¬ (1 ≤ a ∧ a < (W.length : Int)) := of_decide_eq_false ga'
    have za := ha.2 ga'
    unfold uniW rU rB
    rw [decide_eq_false (fun w => na w.1), if_neg (by simp), if_neg (fun w => w.1 za), decide_eq_false (fun w => w.1 za)]
    exact ⟨rfl, rfl⟩
structure XU where
  i : Int
  s : Int
  u : List Int
  z : List Int
  w : List Int
def juQ (n : Int) (l : List E) (y : XU) : Prop := 0 ≤ y.i ∧ y.i ≤ 60 ∧ y.i ≤ l.length ∧ JInv y.w y.s y.u y.z ∧ ix y.w 0 = 0 ∧ y.w.length = (n + 1).toNat
def juM (y : XU) : Nat := (60 - y.i).toNat
def px (l : List E) (i : Int) : Int := ri (l.getD i.toNat []) 0
def py (l : List E) (i : Int) : Int := ri (l.getD i.toNat []) 1
theorem ju_zero {n : Int} (l : List E) (hn : 0 ≤ n) : juQ n l ⟨0, n, iota n, ones n, iota n⟩ := ⟨Int.le_refl 0, show (0 : Int) ≤ 60 by decide, Int.natCast_nonneg _, jinv_new n hn, iota_ix n 0 (Int.le_refl 0) hn, iota_len n⟩
theorem ok_z {W : List Int} {s : Int} {u z v : List Int} (h : JInv W s u z) (hl : W.length ≤ 5000) (hv : Up v W) : okU v = true ∧ okZ v z = true := by
  have h1 := up_ok hv h.ok hl
  refine ⟨h1, ?_⟩
  unfold okZ
  rw [h1, h.zl, hv.len]
  simp
theorem ju_step {n : Int} {l : List E} (hn : 0 ≤ n ∧ n ≤ 60) {i s : Int} {u z w : List Int} (hq : juQ n l ⟨i, s, u, z, w⟩) (h : i < l.length) (h6 : i < 60) :
    stdBin .add .i64 i 1 = i + 1 ∧ okZ u z = true ∧ okW w = true ∧ rB w (px l i) (py l i) = unB u (px l i) (py l i) ∧ rS (rU w (px l i) (py l i)) = unS u s (px l i) (py l i) ∧ okW (rU w (px l i) (py l i)) = true ∧
    juQ n l ⟨i + 1, unS u s (px l i) (py l i), unU u (px l i) (py l i), unZ u z (px l i) (py l i), rU w (px l i) (py l i)⟩ ∧ juM ⟨i + 1, unS u s (px l i) (py l i), unU u (px l i) (py l i), unZ u z (px l i) (py l i), rU w (px l i) (py l i)⟩ < juM ⟨i, s, u, z, w⟩ := by
  obtain ⟨q0, q1, q2, q3, q4, q5⟩ := hq
  simp only at q0 q1 q2 q3 q4 q5
  have hu := jinv_unite q3 (by omega) (px l i) (py l i)
  have hr := rU_uni q3.ok q4 (px l i) (py l i)
  have hp := q3.ok.pos
  have hl := uni_len w (px l i) (py l i)
  have e0 : ix (uniW w (px l i) (py l i)) 0 = 0 := by
    unfold uniW
    split
    · rename_i g
      unfold join
      rw [ix_map w _ 0 (Int.le_refl 0) (by omega), q4, if_neg]
      have := lw_root q3.ok g.1
      have := lw_root q3.ok g.2.1
      split <;> omega
    · exact q4
  rw [hr.1, hr.2]
  refine ⟨by rw [b_add, wr _ (by omega) (by omega)], (ok_z q3 (by omega) q3.up).2, decide_eq_true ⟨hp, by omega⟩, hu.2.1.symm, hu.1.s.symm, decide_eq_true ⟨by omega, by omega⟩, ⟨by simp only; omega, by simp only; omega, by simp only; omega, hu.1, e0, by simp only; omega⟩, by simp only [juM]; omega⟩
theorem ju_end {n : Int} {l : List E} (hn : 0 ≤ n ∧ n ≤ 60) {i s : Int} {u z w : List Int} (hq : juQ n l ⟨i, s, u, z, w⟩) (a b : Int) :
    okU u = true ∧ okW w = true ∧ lstI u a = (if inB w a = true then ix w a else 0) ∧ okZ (lstU u a) z = true ∧ szI (lstU u a) z a = rZ w a ∧ okU (lstU (lstU u a) a) = true ∧
    sameB (lstU (lstU u a) a) a b = (inB w a && (inB w b && (ix w a == ix w b))) ∧ (inB w a = true → 0 ≤ a ∧ a < w.length) ∧ (inB w b = true → 0 ≤ b ∧ b < w.length) := by
  obtain ⟨q0, q1, q2, q3, q4, q5⟩ := hq
  simp only at q3 q4 q5
  have hp := q3.ok.pos
  obtain ⟨a1, a2⟩ := lst_w q3.up a
  obtain ⟨b1, b2⟩ := lst_w a2 a
  obtain ⟨c1, c2⟩ := lst_w b2 a
  obtain ⟨d1, d2⟩ := lst_w c2 b
  have o1 := ok_z q3 (by omega) q3.up
  have o2 := ok_z q3 (by omega) a2
  have o3 := ok_z q3 (by omega) b2
  refine ⟨o1.1, decide_eq_true ⟨hp, by omega⟩, by rw [a1, lw_if], o2.2, ?_, o3.1, ?_, fun h => ?_, fun h => ?_⟩
  · rw [sz_w q3 a2]
    unfold rZ
    cases g : inB w a with
    | true =>
      have e : lw w a = ix w a := by rw [lw_if, g, if_pos rfl]
      have hz : ¬ lw w a = 0 := fun v => by rw [(lw_no q3.ok a).1 v] at g; cases g
      rw [if_neg hz, if_pos rfl, e]
      rfl
    | false =>
      rw [if_pos ((lw_no q3.ok a).2 g), if_neg (by decide)]
  · unfold sameB
    rw [c1, d1]
    have ea := lw_if w a
    have eb := lw_if w b
    have na := lw_no q3.ok a
    have nb := lw_no q3.ok b
    cases g : inB w a with
    | true =>
      rw [g, if_pos rfl] at ea
      have hz : ¬ lw w a = 0 := fun v => by rw [na.1 v] at g; cases g
      cases g2 : inB w b with
      | true =>
        rw [g2, if_pos rfl] at eb
        rw [← ea, ← eb]
        by_cases g3 : lw w a = lw w b
        · rw [decide_eq_true ⟨hz, g3⟩, g3]
          simp
        · rw [decide_eq_false (fun v => g3 v.2)]
          simp [g3]
      | false =>
        have hb := nb.2 g2
        rw [decide_eq_false (fun v => hz (v.2.trans hb))]
        rfl
    | false =>
      rw [decide_eq_false (fun v => v.1 (na.2 g))]
      rfl
  · have h := of_decide_eq_true h
    omega
  · have h := of_decide_eq_true h
    omega
theorem ju_big {n : Int} (h1 : 60 < n) (h2 : n ≤ 4096) : okU (iota n) = true ∧ lstI (iota n) n = n ∧ okZ (lstU (iota n) n) (ones n) = true ∧ stdBin .add .i64 n 1 = n + 1 ∧ unB (lstU (iota n) n) n (n + 1) = false := by
  have hj := jinv_new n (by omega)
  have hl : (iota n).length ≤ 5000 := by rw [iota_len]; omega
  obtain ⟨a1, a2⟩ := lst_w hj.up n
  have hj2 : JInv (iota n) n (lstU (iota n) n) (ones n) := ⟨a2, hj.ok, hj.zl, hj.s, hj.z⟩
  have hu := (jinv_unite hj2 hl n (n + 1)).2.1
  refine ⟨(ok_z hj hl hj.up).1, ?_, (ok_z hj hl a2).2, by rw [b_add, wr _ (by omega) (by omega)], ?_⟩
  · rw [a1]
    unfold lw
    rw [if_pos ⟨by omega, by rw [iota_len]; omega⟩, iota_ix n n (by omega) (Int.le_refl n)]
  · rw [hu]
    refine decide_eq_false fun w => w.2.1 ?_
    unfold lw
    rw [if_neg]
    rw [iota_len]
    omega

structure Vs3 where
  l : Unit
def Vs3.std : Vs3 := ⟨()⟩
end Go.Proofs.Ytgfficaonampbaa.JoV
