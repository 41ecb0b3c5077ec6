/-
  nodes part by part, by the code. No condition but size.
-/
import Derived.Test.YtakebkfhigadiaaCgR
import Derived.Test.YtakebkfhigadiaaSpM
namespace Go.Proofs.Ytakebkfhigadiaa.PaR
open Go Go.Proofs.Ytakebkfhigadiaa.Ry Go.Proofs.Ytakebkfhigadiaa.JoS Go.Proofs.Ytakebkfhigadiaa.JoR Go.Proofs.Ytakebkfhigadiaa.JoW Go.Proofs.Ytakebkfhigadiaa.JoN Go.Proofs.Ytakebkfhigadiaa.EgR Go.Proofs.Ytakebkfhigadiaa.SpR Go.Proofs.Ytakebkfhigadiaa.SpQ Go.Proofs.Ytakebkfhigadiaa.CgR

def okS : List Int → List E → Bool
  | [], _ => true
  | x :: n, M => decide (1 ≤ x ∧ x ≤ 64) && (!rb (M.getD x.toNat []) 0) && okS n (inSt M x)
def mrL (n : List Int) : List E := if okS n zer = true then inA n else zer
def mrE (n : List Int) : Int := if okS n zer = true then 0 else 1
structure XM where
  k : Int
  M : List E
def mQ (n : List Int) (y : XM) : Prop := 0 ≤ y.k ∧ y.k ≤ n.length ∧ y.M = (n.take y.k.toNat).foldl inSt zer ∧ okS n zer = okS (n.drop y.k.toNat) y.M
def mM (n : List Int) (y : XM) : Nat := n.length - y.k.toNat
theorem m_all {n : List Int} (hl : n.length ≤ 1000000) {k : Int} {M : List E} (hq : mQ n ⟨k, M⟩) : 0 ≤ k ∧ k ≤ n.length ∧ M.length = 65 ∧ (¬ k < n.length → okS n zer = true ∧ M = inA n) ∧
    (k < n.length → stdBin .add .i64 k 1 = k + 1 ∧ (∀ p, mM n ⟨k + 1, p⟩ < mM n ⟨k, M⟩) ∧ (¬ (1 ≤ n.getD k.toNat 0 ∧ n.getD k.toNat 0 ≤ 64) → okS n zer = false) ∧ (rb (M.getD (n.getD k.toNat 0).toNat []) 0 = true → okS n zer = false) ∧
      (1 ≤ n.getD k.toNat 0 → n.getD k.toNat 0 ≤ 64 → rb (M.getD (n.getD k.toNat 0).toNat []) 0 = false → mQ n ⟨k + 1, M.set (n.getD k.toNat 0).toNat [D.bool true]⟩)) := by
  obtain ⟨h0, h1, h2, h3⟩ := hq
  simp only at h0 h1 h2 h3
  refine ⟨h0, h1, by rw [h2, fo_len, zer_len], fun g => ?_, fun g => ?_⟩
  · have e : k.toNat = n.length := by omega
    rw [e, List.drop_length] at h3
    rw [e, List.take_length] at h2
    exact ⟨h3, h2⟩
  · have hk : k.toNat < n.length := by omega
    have e : n.drop k.toNat = n.getD k.toNat 0 :: n.drop (k.toNat + 1) := by
      rw [List.drop_eq_getElem_cons hk, List.getD_eq_getElem?_getD, List.getElem?_eq_getElem hk]
      rfl
    rw [e] at h3
    have e2 : (k + 1).toNat = k.toNat + 1 := by omega
    have e3 : n.take (k.toNat + 1) = n.take k.toNat ++ [n.getD k.toNat 0] := by
      rw [List.take_add_one, List.getD_eq_getElem?_getD, List.getElem?_eq_getElem hk]
      rfl
    generalize n.getD k.toNat 0 = x at *
    have h3 : okS n zer = (decide (1 ≤ x ∧ x ≤ 64) && (!rb (M.getD x.toNat []) 0) && okS (n.drop (k.toNat + 1)) (inSt M x)) := h3
    refine ⟨by rw [b_add, wr _ (by omega) (by omega)], fun p => by simp only [mM]; omega, fun g => ?_, fun g => ?_, fun g1 g2 g3 => ⟨by simp only; omega, by simp only; omega, ?_, ?_⟩⟩
    · rw [h3, decide_eq_false g]
      rfl
    · rw [h3, g, Bool.not_true, Bool.and_false, Bool.false_and]
    · simp only
      rw [e2, e3, List.foldl_append, ← h2]
      rfl
    · simp only
      rw [h3, g3, decide_eq_true ⟨g1, g2⟩, e2]
      rfl
/-! ## Parts -/
structure XP where
  i : Int
  o : List E
  p : List Int
  u : List Int
def prO (o : List E) (p : List Int) (s : Int) : List E := if p.getD s.toNat 0 = 0 then o ++ [[D.ints []]] else o
def prP (o : List E) (p : List Int) (s : Int) : List Int := if p.getD s.toNat 0 = 0 then p.set s.toNat (o.length + 1) else p
def prA (o : List E) (k i : Int) : List E := o.set k.toNat [D.ints (rl (o.getD k.toNat []) 0 ++ [i])]
def prT (x : List E) (y : XP) : XP :=
  if rb (x.getD y.i.toNat []) 0 = true then
    ⟨y.i + 1, prA (prO y.o y.p (lstI y.u y.i)) ((prP y.o y.p (lstI y.u y.i)).getD (lstI y.u y.i).toNat 0 - 1) y.i, prP y.o y.p (lstI y.u y.i), lstU y.u y.i⟩
  else ⟨y.i + 1, y.o, y.p, y.u⟩
def prN (x : List E) (u : List Int) : Nat → XP
  | 0 => ⟨0, [], List.replicate 65 0, u⟩
  | k + 1 => prT x (prN x u k)
structure PB (y : XP) : Prop where
  i : 0 ≤ y.i ∧ y.i ≤ 65
  o : (y.o.length : Int) ≤ y.i
  l : ∀ e ∈ y.o, ∃ q, e = [D.ints q] ∧ (q.length : Int) ≤ y.i
  p : y.p.length = 65
  v : ∀ s : Nat, s < 65 → 0 ≤ y.p.getD s 0 ∧ y.p.getD s 0 ≤ y.o.length
  u : okU y.u = true ∧ y.u.length = 65
theorem pb_step {x : List E} {y : XP} (h : PB y) (hi : y.i < 65) : PB (prT x y) ∧ (prT x y).i = y.i + 1 := by
  obtain ⟨i, o, p, u⟩ := y
  obtain ⟨h1, h2, h3, h4, h5, h6⟩ := h
  simp only at *
  unfold prT
  simp only
  split
  · refine ⟨?_, rfl⟩
    obtain ⟨k1, k2, k3, k4⟩ := lst_ok i h6.1
    rw [h6.2] at k4
    generalize lstI u i = s at *
    obtain ⟨v1, v2⟩ := h5 s.toNat (by omega)
    have hol : (prO o p s).length = if p.getD s.toNat 0 = 0 then o.length + 1 else o.length := by
      unfold prO
      split
      · rw [List.length_append]; rfl
      · rfl
    have hoe : ∀ e ∈ prO o p s, ∃ q, e = [D.ints q] ∧ (q.length : Int) ≤ i := fun e he => by
      unfold prO at he
      split at he
      · rcases List.mem_append.1 he with he | he
        · exact h3 e he
        · exact ⟨[], List.mem_singleton.1 he, by simp; omega⟩
      · exact h3 e he
    refine ⟨⟨by simp only; omega, by simp only; omega⟩, ?_, fun e he => ?_, ?_, fun t ht => ?_, k1, by simp only; omega⟩
    · simp only
      unfold prA
      rw [List.length_set, hol]
      split <;> omega
    · simp only at he ⊢
      unfold prA at he
      rcases List.mem_or_eq_of_mem_set he with he | he
      · obtain ⟨q, e1, e2⟩ := hoe e he
        exact ⟨q, e1, by omega⟩
      · refine ⟨_, he, ?_⟩
        rw [List.length_append]
        generalize ((prP o p s).getD s.toNat 0 - 1).toNat = w
        by_cases hw : w < (prO o p s).length
        · obtain ⟨q, e1, e2⟩ := hoe _ (List.getElem_mem hw)
          rw [List.getD_eq_getElem?_getD, List.getElem?_eq_getElem hw, Option.getD_some, e1]
          show ((q.length + 1 : Nat) : Int) ≤ i + 1
          omega
        · rw [List.getD_eq_getElem?_getD, List.getElem?_eq_none (by omega)]
          show (((rl [] 0).length + 1 : Nat) : Int) ≤ i + 1
          have : (rl [] 0).length = 0 := rfl
          omega
    · simp only
      unfold prP
      split
      · rw [List.length_set]; exact h4
      · exact h4
    · simp only
      have hl2 : ((prA (prO o p s) ((prP o p s).getD s.toNat 0 - 1) i).length) = (prO o p s).length := by unfold prA; rw [List.length_set]
      rw [hl2, hol]
      unfold prP
      obtain ⟨w1, w2⟩ := h5 t ht
      split
      · rw [List.getD_eq_getElem?_getD, List.getElem?_set]
        split
        · rw [if_pos (by omega)]
          simp only [Option.getD_some]
          omega
        · rw [List.getD_eq_getElem?_getD] at w1 w2
          omega
      · omega
  · exact ⟨⟨⟨by simp only; omega, by simp only; omega⟩, by simp only; omega, fun e he => by
      obtain ⟨q, e1, e2⟩ := h3 e he
      exact ⟨q, e1, by simp only; omega⟩, h4, h5, h6⟩, rfl⟩
theorem pb_all {x : List E} {u : List Int} (h : okU u = true ∧ u.length = 65) : ∀ k : Nat, k ≤ 65 → PB (prN x u k) ∧ (prN x u k).i = k
  | 0, _ => ⟨⟨⟨Int.le_refl _, by show (0 : Int) ≤ 65; decide⟩, Int.le_refl _, fun e he => (by cases he), List.length_replicate, fun s hs => by
      have e9 : (List.replicate 65 (0 : Int)).getD s 0 = 0 := by
        rw [List.getD_eq_getElem?_getD, List.getElem?_replicate, if_pos hs]
        rfl
      show 0 ≤ (List.replicate 65 (0 : Int)).getD s 0 ∧ (List.replicate 65 (0 : Int)).getD s 0 ≤ ((0 : Nat) : Int)
      rw [e9]
      exact ⟨Int.le_refl _, Int.le_refl _⟩, h⟩, rfl⟩
  | k + 1, hk => by
    obtain ⟨h1, h2⟩ := pb_all h k (by omega)
    obtain ⟨h3, h4⟩ := pb_step (x := x) h1 (by rw [h2]; omega)
    exact ⟨h3, by show (prT x (prN x u k)).i = _; rw [h4, h2]; omega⟩
def pQ (x : List E) (u0 : List Int) (y : XP) : Prop := 0 ≤ y.i ∧ y.i ≤ 65 ∧ y = prN x u0 y.i.toNat
def pM (y : XP) : Nat := 65 - y.i.toNat
def paU (x : List E) (u : List Int) : List Int := (prN x u 65).u
def paX (x : List E) (u : List Int) : List E := (prN x u 65).o
def okPa (x : List E) (u : List Int) : Bool := decide (x.length = 65 ∧ u.length = 65) && okU u
theorem p_all {x : List E} {u0 : List Int} (hk : okPa x u0 = true) {i : Int} {o : List E} {p u : List Int} (hq : pQ x u0 ⟨i, o, p, u⟩) : x.length = 65 ∧ 0 ≤ i ∧ i ≤ 65 ∧ okU u = true ∧ p.length = 65 ∧ o.length ≤ 65 ∧ (¬ i < 65 → o = paX x u0 ∧ u = paU x u0) ∧
    (i < 65 → stdBin .add .i64 i 1 = i + 1 ∧ (∀ o' p' u', pM ⟨i + 1, o', p', u'⟩ < pM ⟨i, o, p, u⟩) ∧ (rb (x.getD i.toNat []) 0 = false → pQ x u0 ⟨i + 1, o, p, u⟩) ∧
      (rb (x.getD i.toNat []) 0 = true → 0 ≤ lstI u i ∧ lstI u i < 65 ∧
        (p.getD (lstI u i).toNat 0 = 0 → (p.set (lstI u i).toNat ((o ++ [[D.ints []]]).length : Int)).getD (lstI u i).toNat 0 = (o.length : Int) + 1 ∧ ((o ++ [[D.ints []]]).length : Int) = (o.length : Int) + 1 ∧ stdBin .sub .i64 ((o.length : Int) + 1) 1 = (o.length : Int) ∧
          (rl ((o ++ [[D.ints []]]).getD ((o.length : Int)).toNat []) 0).length ≤ 65 ∧
          pQ x u0 ⟨i + 1, (o ++ [[D.ints []]]).set ((o.length : Int)).toNat [D.ints (rl ((o ++ [[D.ints []]]).getD ((o.length : Int)).toNat []) 0 ++ [i])], p.set (lstI u i).toNat ((o ++ [[D.ints []]]).length : Int), lstU u i⟩) ∧
        (¬ p.getD (lstI u i).toNat 0 = 0 → stdBin .sub .i64 (p.getD (lstI u i).toNat 0) 1 = p.getD (lstI u i).toNat 0 - 1 ∧ 0 ≤ p.getD (lstI u i).toNat 0 - 1 ∧ p.getD (lstI u i).toNat 0 - 1 < o.length ∧ (rl (o.getD (p.getD (lstI u i).toNat 0 - 1).toNat []) 0).length ≤ 65 ∧
          pQ x u0 ⟨i + 1, o.set (p.getD (lstI u i).toNat 0 - 1).toNat [D.ints (rl (o.getD (p.getD (lstI u i).toNat 0 - 1).toNat []) 0 ++ [i])], p, lstU u i⟩))) := by
  have hk2 : x.length = 65 ∧ okU u0 = true ∧ u0.length = 65 := by
    unfold okPa at hk
    rw [Bool.and_eq_true, decide_eq_true_eq] at hk
    exact ⟨hk.1.1, hk.2, hk.1.2⟩
  obtain ⟨h0, h1, h2⟩ := hq
  simp only at h0 h1 h2
  obtain ⟨b1, b2⟩ := pb_all (x := x) hk2.2 i.toNat (by omega)
  rw [← h2] at b1 b2
  obtain ⟨c1, c2, c3, c4, c5, c6⟩ := b1
  simp only at c1 c2 c3 c4 c5 c6
  have hrl : ∀ (l : List E) (w : Nat), (∀ e ∈ l, ∃ q, e = [D.ints q] ∧ (q.length : Int) ≤ i) → (rl (l.getD w []) 0).length ≤ 65 := fun l w hl => by
    by_cases hw : w < l.length
    · obtain ⟨q, e1, e2⟩ := hl _ (List.getElem_mem hw)
      rw [List.getD_eq_getElem?_getD, List.getElem?_eq_getElem hw, Option.getD_some, e1]
      show q.length ≤ 65
      omega
    · rw [List.getD_eq_getElem?_getD, List.getElem?_eq_none (by omega)]
      exact Nat.zero_le _
  refine ⟨hk2.1, h0, h1, c6.1, c4, by omega, fun g => ?_, fun g => ?_⟩
  · have e : i.toNat = 65 := by omega
    rw [e] at h2
    unfold paX paU
    rw [← h2]
    exact ⟨rfl, rfl⟩
  · have nx : ∀ y, prT x ⟨i, o, p, u⟩ = y → y.i = i + 1 → pQ x u0 y := fun y hy hyi => by
      refine ⟨by omega, by omega, ?_⟩
      rw [hyi, show (i + 1).toNat = i.toNat + 1 by omega]
      show y = prT x (prN x u0 i.toNat)
      rw [← h2, hy]
    refine ⟨by rw [b_add, wr _ (by omega) (by omega)], fun _ _ _ => by simp only [pM]; omega, fun hb => nx _ ?_ rfl, fun hb => ?_⟩
    · unfold prT
      simp only
      rw [if_neg (by rw [hb]; decide)]
    · obtain ⟨k1, k2, k3, k4⟩ := lst_ok i c6.1
      rw [c6.2] at k4
      have hprt : prT x ⟨i, o, p, u⟩ = ⟨i + 1, prA (prO o p (lstI u i)) ((prP o p (lstI u i)).getD (lstI u i).toNat 0 - 1) i, prP o p (lstI u i), lstU u i⟩ := by
        unfold prT
        simp only
        rw [if_pos hb]
      generalize lstI u i = s at *
      generalize lstU u i = u' at *
      obtain ⟨v1, v2⟩ := c5 s.toNat (by omega)
      refine ⟨k3, by omega, fun hz => ?_, fun hz => ?_⟩
      · have e1 : (p.set s.toNat ((o ++ [[D.ints []]]).length : Int)).getD s.toNat 0 = (o.length : Int) + 1 := by
          rw [List.getD_eq_getElem?_getD, List.getElem?_set_self (by omega), Option.getD_some, List.length_append]
          rfl
        have e2 : ((o ++ [[D.ints []]]).length : Int) = (o.length : Int) + 1 := by rw [List.length_append]; rfl
        refine ⟨e1, e2, by rw [b_sub, wr _ (by omega) (by omega)]; omega, hrl _ _ fun e he => ?_, nx _ ?_ rfl⟩
        · rcases List.mem_append.1 he with he | he
          · exact c3 e he
          · exact ⟨[], List.mem_singleton.1 he, by simp; omega⟩
        · rw [hprt]
          unfold prO prP prA
          rw [if_pos hz, if_pos hz]
          have e3 : (p.set s.toNat ((o.length : Int) + 1)).getD s.toNat 0 - 1 = (o.length : Int) := by
            rw [← e2, e1]
            omega
          rw [e3, e2]
      · refine ⟨by rw [b_sub, wr _ (by omega) (by omega)], by omega, by omega, hrl _ _ c3, nx _ ?_ rfl⟩
        rw [hprt]
        unfold prO prP prA
        rw [if_neg hz, if_neg hz]

theorem fit_ok {n b : Int} (h : n * b ≤ 140737488355328) : decide (n * b ≤ 140737488355328) = true := decide_eq_true h
theorem lt_of {a b : Int} (h : stdCmp .lss a b = true) : a < b := of_decide_eq_true h
theorem p_lo {x : List E} {u0 : List Int} (hk : okPa x u0 = true) {i : Int} {o : List E} {p u : List Int} (hq : pQ x u0 ⟨i, o, p, u⟩) : okU u = true ∧ stdCmp .geq i 0 = true ∧ stdCmp .leq (Int.ofNat 65) (x.length : Int) = true ∧ stdCmp .leq (Int.ofNat 65) (p.length : Int) = true ∧
    (stdCmp .lss i 65 = true → stdCmp .lss i (Int.ofNat 65) = true) ∧ (stdCmp .lss i 65 = false → o = paX x u0 ∧ u = paU x u0) := by
  obtain ⟨h1, h2, h3, h4, h5, h6, h7, _⟩ := p_all hk hq
  exact ⟨h4, decide_eq_true h2, decide_eq_true (by show (65 : Int) ≤ _; omega), decide_eq_true (by show (65 : Int) ≤ _; omega), fun h => h, fun h => h7 (of_decide_eq_false h)⟩
theorem p_skip {x : List E} {u0 : List Int} (hk : okPa x u0 = true) {i : Int} {o : List E} {p u : List Int} (hq : pQ x u0 ⟨i, o, p, u⟩) (hi : stdCmp .lss i 65 = true) (hb : (!rb (x.getD i.toNat []) 0) = true) :
    pQ x u0 ⟨stdBin .add .i64 i 1, o, p, u⟩ ∧ pM ⟨stdBin .add .i64 i 1, o, p, u⟩ < pM ⟨i, o, p, u⟩ := by
  obtain ⟨h1, h2, h3, h4, h5, h6, h7, h8⟩ := p_all hk hq
  obtain ⟨g1, g2, g3, _⟩ := h8 (lt_of hi)
  rw [g1]
  exact ⟨g3 (by simpa using hb), g2 _ _ _⟩
theorem p_set {x : List E} {u0 : List Int} (hk : okPa x u0 = true) {i : Int} {o : List E} {p u : List Int} (hq : pQ x u0 ⟨i, o, p, u⟩) (hi : stdCmp .lss i 65 = true) (hb : (!rb (x.getD i.toNat []) 0) = false) :
    stdCmp .geq (lstI u i) 0 = true ∧ stdCmp .lss (lstI u i) (Int.ofNat 65) = true := by
  obtain ⟨h1, h2, h3, h4, h5, h6, h7, h8⟩ := p_all hk hq
  obtain ⟨g1, g2, g3, g4⟩ := h8 (lt_of hi)
  obtain ⟨k1, k2, _⟩ := g4 (by simpa using hb)
  exact ⟨decide_eq_true k1, decide_eq_true k2⟩
theorem p_new {x : List E} {u0 : List Int} (hk : okPa x u0 = true) {i : Int} {o : List E} {p u : List Int} (hq : pQ x u0 ⟨i, o, p, u⟩) (hi : stdCmp .lss i 65 = true) (hb : (!rb (x.getD i.toNat []) 0) = false) (hz : stdCmp .eql (p.getD (lstI u i).toNat 0) 0 = true)
    {o1 : List E} (ho1 : o ++ [[D.ints []]] = o1) {p1 : List Int} (hp1 : p.set (lstI u i).toNat (o1.length : Int) = p1) {k : Int} (hk1 : stdBin .sub .i64 (p1.getD (lstI u i).toNat 0) 1 = k) {r : List Int} (hr : rl (o1.getD k.toNat []) 0 ++ [i] = r) :
    decide ((o1.length : Int) * Int.ofNat 24 ≤ 140737488355328) = true ∧ stdCmp .leq (Int.ofNat 65) (p1.length : Int) = true ∧ stdCmp .geq k 0 = true ∧ stdCmp .lss k (o1.length : Int) = true ∧ stdCmp .eql k k = true ∧ decide ((r.length : Int) * Int.ofNat 8 ≤ 140737488355328) = true ∧
      pQ x u0 ⟨stdBin .add .i64 i 1, o1.set k.toNat [D.ints r], p1, lstU u i⟩ ∧ pM ⟨stdBin .add .i64 i 1, o1.set k.toNat [D.ints r], p1, lstU u i⟩ < pM ⟨i, o, p, u⟩ := by
  obtain ⟨h1, h2, h3, h4, h5, h6, h7, h8⟩ := p_all hk hq
  obtain ⟨g1, g2, g3, g4⟩ := h8 (lt_of hi)
  obtain ⟨k1, k2, k3, _⟩ := g4 (by simpa using hb)
  obtain ⟨e1, e2, e3, e4, e5⟩ := k3 (of_decide_eq_true hz)
  subst ho1
  subst hp1
  rw [e1, e3] at hk1
  subst hk1
  subst hr
  rw [g1]
  refine ⟨decide_eq_true ?_, decide_eq_true ?_, decide_eq_true (show (0 : Int) ≤ (o.length : Int) from Int.natCast_nonneg _), decide_eq_true ?_, decide_eq_true rfl, decide_eq_true ?_, e5, g2 _ _ _⟩
  · rw [e2]
    show ((o.length : Int) + 1) * 24 ≤ _
    omega
  · rw [List.length_set]
    show (65 : Int) ≤ _
    omega
  · rw [e2]
    omega
  · rw [List.length_append]
    show (((rl _ 0).length + 1 : Nat) : Int) * 8 ≤ _
    omega
theorem p_old {x : List E} {u0 : List Int} (hk : okPa x u0 = true) {i : Int} {o : List E} {p u : List Int} (hq : pQ x u0 ⟨i, o, p, u⟩) (hi : stdCmp .lss i 65 = true) (hb : (!rb (x.getD i.toNat []) 0) = false) (hz : stdCmp .eql (p.getD (lstI u i).toNat 0) 0 = false)
    {k : Int} (hk1 : stdBin .sub .i64 (p.getD (lstI u i).toNat 0) 1 = k) {r : List Int} (hr : rl (o.getD k.toNat []) 0 ++ [i] = r) :
    stdCmp .geq k 0 = true ∧ stdCmp .lss k (o.length : Int) = true ∧ stdCmp .eql k k = true ∧ decide ((r.length : Int) * Int.ofNat 8 ≤ 140737488355328) = true ∧
      pQ x u0 ⟨stdBin .add .i64 i 1, o.set k.toNat [D.ints r], p, lstU u i⟩ ∧ pM ⟨stdBin .add .i64 i 1, o.set k.toNat [D.ints r], p, lstU u i⟩ < pM ⟨i, o, p, u⟩ := by
  obtain ⟨h1, h2, h3, h4, h5, h6, h7, h8⟩ := p_all hk hq
  obtain ⟨g1, g2, g3, g4⟩ := h8 (lt_of hi)
  obtain ⟨k1, k2, _, k4⟩ := g4 (by simpa using hb)
  obtain ⟨e1, e2, e3, e4, e5⟩ := k4 (of_decide_eq_false hz)
  rw [e1] at hk1
  subst hk1
  subst hr
  rw [g1]
  refine ⟨decide_eq_true e2, decide_eq_true e3, decide_eq_true rfl, decide_eq_true ?_, e5, g2 _ _ _⟩
  rw [List.length_append]
  show (((rl _ 0).length + 1 : Nat) : Int) * 8 ≤ _
  omega

def stA (n : Nat) (ss : List (Nat × SC)) (vs : List (Nat × SA)) (h : H) (gs : List SA) : St :=
  ⟨vs.foldl (fun l p => l.set p.1 ⟨none, .sa p.2⟩) (stOf n ss h gs).slots, h, gs⟩
noncomputable def mkI (A : Ar) (n : List Int) (y : XM) : St := stOf Try.f19.ntmps [(2, .ptr 2 0), (4, .ptr 1 0), (7, .sl none (.ints .i64 n)), (8, .val (.int .i64 (A.lenI n))), (9, .val (.int .i64 y.k))] [(1, .row 66 (.recs (.bool .nil) y.M)), (2, .row 66 (.recs (.bool .nil) (A.repE 65 [D.bool false])))] [Any]
def mkR (st : St) : XM := ⟨slotI st 9, rdA st 4⟩
noncomputable def nrI (n : List Int) (y : XM) : St := stOf Try.f10.ntmps [(0, .sl none (.ints .i64 n)), (3, .ptr 1 0), (4, .val (.int .i64 y.k))] [(1, .row 66 (.recs (.bool .nil) y.M))] [Any]
def nrR (st : St) : XM := ⟨slotI st 4, rdA st 3⟩
/-- What a row of slices holds. -/
def rrR (st : St) (s : Nat) : List E := match slotC st s with | .own n => (match hget st.heap n with | some (.rr _ _ c _) => ctR c | _ => []) | _ => []
def ptL (st : St) (s : Nat) : List Int := match hget st.heap (match slotC st s with | .ptr n _ => n | _ => 0) with | some (.row _ c) => ctL c | _ => []
noncomputable def pdI (s0 : Int) (z : List Int) (x : List E) (y : XP) : St := stA Try.f21.ntmps [(1, .ptr 1 0), (5, .own 4), (6, .ptr 5 0), (11, .val (.int .i64 y.i))] [(10, .blob (.recs (.bool .nil) x))] [(1, .cells 117 [.own 2, .own 3, .val (.int .i64 s0)]), (2, .row 3 (.ints .i64 y.u)), (3, .row 3 (.ints .i64 z)), (4, .rr 22 3 (.recs (.ints .i64 .nil) y.o) none), (5, .row 92 (.ints .i64 y.p))] [Any, .one (.ptr 1 0)]
def pdR (st : St) : XP := ⟨slotI st 11, rrR st 5, ptL st 6, valL st.heap (cellC st 1 0)⟩
def okN (n : List Int) : Bool := decide (n.length ≤ 1000000)
def okR (n : List Int) (l : List E) : Bool := okN n && decide (l.length ≤ 1000000)
def rE (n : List Int) (l : List E) : Int := if okS n zer = true then allE l else 1
def rO (n : List Int) (l : List E) : List E := if okS n zer = true ∧ allE l = 0 then paX (inA n) (jJ l).u else []
theorem jok (l : List E) (n : List Int) : okPa (inA n) (jJ l).u = true := by
  obtain ⟨W, h⟩ := jJ_ok l
  unfold okPa
  rw [Bool.and_eq_true, decide_eq_true_eq]
  exact ⟨⟨inA_len n, h.2.up.len.trans h.1⟩, jJ_u l⟩
theorem mr_len (n : List Int) : (mrL n).length = 65 := by
  unfold mrL
  split
  · exact inA_len n
  · exact zer_len
structure XJ where
  i : Int
def allQ (n : Nat) (p : Nat → Bool) (y : XJ) : Prop := 0 ≤ y.i ∧ y.i ≤ n ∧ ∀ j : Nat, j < y.i → p j = true
def allM (n : Nat) (y : XJ) : Nat := n - y.i.toNat
def sameI (p q : List Int) : Bool := decide (p = q)
def eI (p q : List Int) (i : Nat) : Bool := decide (p.getD i 0 = q.getD i 0)
theorem eI_step {p q : List Int} (hn : p.length ≤ 1000000) (hl : p.length = q.length) {i : Int} (hq : allQ p.length (eI p q) ⟨i⟩) : (i < p.length → stdBin .add .i64 i 1 = i + 1 ∧ allM p.length ⟨i + 1⟩ < allM p.length ⟨i⟩ ∧ (p.getD i.toNat 0 = q.getD i.toNat 0 → allQ p.length (eI p q) ⟨i + 1⟩) ∧ (¬ p.getD i.toNat 0 = q.getD i.toNat 0 → sameI p q = false)) ∧ (¬ i < p.length → sameI p q = true) := by
  obtain ⟨h0, h1, h2⟩ := hq
  simp only at h0 h1 h2
  refine ⟨fun h => ⟨by rw [b_add, wr _ (by omega) (by omega)], by simp only [allM]; omega, fun g => ⟨by simp only; omega, by simp only; omega, fun j hj => ?_⟩, fun g => decide_eq_false fun e => g (by rw [e])⟩, fun h => decide_eq_true ?_⟩
  · simp only at hj
    by_cases e : j = i.toNat
    · rw [e]
      exact decide_eq_true g
    · exact h2 j (by omega)
  · refine List.ext_getElem hl fun j a b => ?_
    have := of_decide_eq_true (h2 j (by omega))
    rw [List.getD_eq_getElem?_getD, List.getD_eq_getElem?_getD, List.getElem?_eq_getElem a, List.getElem?_eq_getElem b] at this
    exact this
theorem nI {p q : List Int} (h : p.length ≠ q.length) : sameI p q = false := decide_eq_false fun e => h (by rw [e])
noncomputable def s3I (p q : List Int) (y : XJ) : St := stOf Try.f12.ntmps [(0, .sl none (.ints .i64 p)), (1, .sl none (.ints .i64 q)), (5, .val (.int .i64 y.i))] [] [Any, Any]
def s3R (st : St) : XJ := ⟨slotI st 5⟩
theorem mr_e {n : List Int} (h : mrE n = 0) : okS n zer = true ∧ mrL n = inA n := by
  unfold mrE at h
  split at h
  · rename_i g
    exact ⟨g, by unfold mrL; rw [if_pos g]⟩
  · cases h

structure Pa where
  p_m : List Int → List E
  p_e : List Int → Int
  p_b : List Int → Bool
  p_ok : List Int → Bool
  p_okp : List E → List Int → Bool
  p_o : List E → List Int → List E
  p_u : List E → List Int → List Int
  p_okr : List Int → List E → Bool
  p_r : List Int → List E → List E
  p_re : List Int → List E → Int
  p_s : List Int → List Int → Bool
  p_so : List Int → List Int → Bool
def Pa.std : Pa := ⟨mrL, mrE, fun n => okS n zer, okN, okPa, paX, paU, okR, rO, rE, sameI, fun p q => decide (p.length ≤ 1000000 ∧ q.length ≤ 1000000)⟩

def c_marked (F : Pa) : Con := fun xs h => match xs, h with
  | [.one (.sl none (.ints .i64 n))], [] => some ⟨F.p_ok n = true, .tup [.blob (.recs (.bool .nil) (F.p_m n)), I (F.p_e n)], [], [Any]⟩
  | _, _ => none
set_option cbv.maxSteps 4000000 in
set_option maxHeartbeats 4000000 in
set_option maxRecDepth 100000 in
theorem x_marked (n : List Int) (hC : Pa.std.p_ok n = true) : Does [(37, c_node EgR.Fs.std)] Try.f19 [.one (.sl none (.ints .i64 n))] [] ⟨Pa.std.p_ok n = true, .tup [.blob (.recs (.bool .nil) (Pa.std.p_m n)), I (Pa.std.p_e n)], [], [Any]⟩ := by
  intro b gv
  have hk : n.length ≤ 1000000 := of_decide_eq_true (show decide (n.length ≤ 1000000) = true from hC)
  have hfs := (FsOk.cons ok_node FsOk.nil rfl)
  generalize hF : Pa.std = F at hC hfs ⊢
  generalize hG0 : EgR.Fs.std = G0 at hC hfs ⊢
  generalize hG1 : JoR.Fs.std = G1 at hC hfs ⊢
  generalize hG2 : SpR.Sp.std = G2 at hC hfs ⊢
  generalize hA : Ar.std = A
  generalize hL : Lp _ _ _ = L
  obtain ⟨Z, zq⟩ := z_all
  refine @cd_open _ _ _ _ _ _ _ (lp_mono hL) _ _ zq rfl ?_
  repeat' (first
    | (refine z_open zq ?_; try dsimp only)
    | refine cd_seq zq ?_ (lp_mono hL)
    | refine cd_blk zq ?_
    | refine cd_ret ?_
    | refine cd_skip ?_
    | refine cd_exit ?_
    | refine cd_loop ?_
    | refine cd_cond rfl ?_
    | refine cd_condT rfl ?_
    | refine cd_condF rfl ?_
    | (refine Cd.mk ?_; cbv)
    | (refine Ends1.mk ?_; cbv)
    | (refine Fin1.mk ?_; cbv)
    | exact trivial
    | refine And.intro ?_ ?_
    | refine orf fun _ => ?_
    | refine ort fun _ => ?_)
  all_goals first | (show L _ _ _; skip) | (clear hL hfs zq Z; subst hA hF hG0 hG1 hG2; simp only [Pa.std, EgR.Fs.std, JoR.Fs.std, SpR.Sp.std, Ar.std, List.nil_append] at * <;> grind [stdCmp, nodB, mrL, mrE]; done)
  subst hL
  refine loop_z (cx_ok hfs) (mQ n) (mkI A n) (mM n) mkR ⟨0, A.repE 65 [D.bool false]⟩ ?_ ?_ ?_
  · subst hA; exact ⟨Int.le_refl 0, Int.natCast_nonneg _, rfl, rfl⟩
  · cbv
    repeat' (first | exact trivial | exact rfl | refine And.intro ?_ ?_)
  rintro ⟨k, M⟩ hq O hO
  have hst := m_all hk hq
  subst hA
  generalize hA : Ar.std = A
  generalize hL : Lp _ _ _ = L
  refine cd_close zq ?_
  repeat' (first
    | (refine z_open zq ?_; try dsimp only)
    | refine cd_seq zq ?_ (lp_mono hL)
    | refine cd_blk zq ?_
    | refine cd_ret ?_
    | refine cd_skip ?_
    | refine cd_exit ?_
    | refine cd_loop ?_
    | refine cd_cond rfl ?_
    | refine cd_condT rfl ?_
    | refine cd_condF rfl ?_
    | (refine Cd.mk ?_; cbv)
    | (refine Ends1.mk ?_; cbv)
    | (refine Fin1.mk ?_; cbv)
    | exact trivial
    | refine And.intro ?_ ?_
    | refine orf fun _ => ?_
    | refine ort fun _ => ?_)
  all_goals (clear hL hfs zq Z hq; subst hA hF hG0 hG1 hG2 hO; simp only [Pa.std, EgR.Fs.std, Ar.std] at * <;> grind [stdCmp, nodB, mrL, mrE, zer]; done)
theorem ok_marked : ConOk Try.prog 19 (c_marked Pa.std) := by
  refine con_of (FsOk.cons ok_node FsOk.nil rfl) Try.func19 rfl rfl fun xs h p hp => ?_
  unfold c_marked at hp
  split at hp
  · cases hp
    exact ⟨lee_le rfl, fun hC _ => @x_marked _ hC⟩
  · cases hp

def c_rnodes7 (F : Pa) : Con := fun xs h => match xs, h with
  | [.one (.sl none (.ints .i64 n))], [] => some ⟨F.p_ok n = true, .sa (B (F.p_b n)), [], [Any]⟩
  | _, _ => none
set_option cbv.maxSteps 4000000 in
set_option maxHeartbeats 4000000 in
set_option maxRecDepth 100000 in
theorem x_rnodes7 (n : List Int) (hC : Pa.std.p_ok n = true) : Does [(25, c_rnode EgR.Fs.std)] Try.f10 [.one (.sl none (.ints .i64 n))] [] ⟨Pa.std.p_ok n = true, .sa (B (Pa.std.p_b n)), [], [Any]⟩ := by
  intro b gv
  have hk : n.length ≤ 1000000 := of_decide_eq_true (show decide (n.length ≤ 1000000) = true from hC)
  have hfs := (FsOk.cons ok_rnode FsOk.nil rfl)
  generalize hF : Pa.std = F at hC hfs ⊢
  generalize hG0 : EgR.Fs.std = G0 at hC hfs ⊢
  generalize hG1 : JoR.Fs.std = G1 at hC hfs ⊢
  generalize hG2 : SpR.Sp.std = G2 at hC hfs ⊢
  generalize hA : Ar.std = A
  generalize hL : Lp _ _ _ = L
  obtain ⟨Z, zq⟩ := z_all
  refine @cd_open _ _ _ _ _ _ _ (lp_mono hL) _ _ zq rfl ?_
  repeat' (first
    | (refine z_open zq ?_; try dsimp only)
    | refine cd_seq zq ?_ (lp_mono hL)
    | refine cd_blk zq ?_
    | refine cd_ret ?_
    | refine cd_skip ?_
    | refine cd_exit ?_
    | refine cd_loop ?_
    | refine cd_cond rfl ?_
    | refine cd_condT rfl ?_
    | refine cd_condF rfl ?_
    | (refine Cd.mk ?_; cbv)
    | (refine Ends1.mk ?_; cbv)
    | (refine Fin1.mk ?_; cbv)
    | exact trivial
    | refine And.intro ?_ ?_
    | refine orf fun _ => ?_
    | refine ort fun _ => ?_)
  all_goals first | (show L _ _ _; skip) | (clear hL hfs zq Z; subst hA hF hG0 hG1 hG2; simp only [Pa.std, Ar.std] at * <;> grind [stdCmp, nodB]; done)
  subst hL
  refine loop_z (cx_ok hfs) (mQ n) (nrI n) (mM n) nrR ⟨0, A.repE 65 [D.bool false]⟩ ?_ ?_ ?_
  · subst hA; exact ⟨Int.le_refl 0, Int.natCast_nonneg _, rfl, rfl⟩
  · cbv
    repeat' (first | exact trivial | exact rfl | refine And.intro ?_ ?_)
  rintro ⟨k, M⟩ hq O hO
  have hst := m_all hk hq
  subst hA
  generalize hA : Ar.std = A
  generalize hL : Lp _ _ _ = L
  refine cd_close zq ?_
  repeat' (first
    | (refine z_open zq ?_; try dsimp only)
    | refine cd_seq zq ?_ (lp_mono hL)
    | refine cd_blk zq ?_
    | refine cd_ret ?_
    | refine cd_skip ?_
    | refine cd_exit ?_
    | refine cd_loop ?_
    | refine cd_cond rfl ?_
    | refine cd_condT rfl ?_
    | refine cd_condF rfl ?_
    | (refine Cd.mk ?_; cbv)
    | (refine Ends1.mk ?_; cbv)
    | (refine Fin1.mk ?_; cbv)
    | exact trivial
    | refine And.intro ?_ ?_
    | refine orf fun _ => ?_
    | refine ort fun _ => ?_)
  all_goals (clear hL hfs zq Z hq; subst hA hF hG0 hG1 hG2 hO; simp only [Pa.std, EgR.Fs.std, Ar.std] at * <;> grind [stdCmp, nodB]; done)
theorem ok_rnodes7 : ConOk Try.prog 10 (c_rnodes7 Pa.std) := by
  refine con_of (FsOk.cons ok_rnode FsOk.nil rfl) Try.func10 rfl rfl fun xs h p hp => ?_
  unfold c_rnodes7 at hp
  split at hp
  · cases hp
    exact ⟨lee_le rfl, fun hC _ => @x_rnodes7 _ hC⟩
  · cases hp

def c_parted (F : Pa) : Con := fun xs h => match xs, h with
  | [.blob (.recs (.bool .nil) x), .one (.ptr 0 0)], [(0, .cells 117 [.own 1, .own 2, .val (.int .i64 s)]), (1, .row 3 (.ints .i64 u)), (2, .row 3 (.ints .i64 z))] => some ⟨F.p_okp x u = true, .sa (.one (.sl none (.recs (.ints .i64 .nil) (F.p_o x u)))), [(0, .cells 117 [.own 1, .own 2, .val (.int .i64 s)]), (1, .row 3 (.ints .i64 (F.p_u x u))), (2, .row 3 (.ints .i64 z))], [Any, .one (.ptr 0 0)]⟩
  | _, _ => none
set_option cbv.maxSteps 4000000 in
set_option maxHeartbeats 4000000 in
set_option maxRecDepth 100000 in
theorem x_parted (x : List E) (s : Int) (u : List Int) (z : List Int) (hC : Pa.std.p_okp x u = true) : Does [(39, c_least JoR.Fs.std), (ownKey 9001, noCon), (ownKey 9002, noCon), (ownKey 11011, noCon)] Try.f21 [.blob (.recs (.bool .nil) x), .one (.ptr 0 0)] [(0, .cells 117 [.own 1, .own 2, .val (.int .i64 s)]), (1, .row 3 (.ints .i64 u)), (2, .row 3 (.ints .i64 z))] ⟨Pa.std.p_okp x u = true, .sa (.one (.sl none (.recs (.ints .i64 .nil) (Pa.std.p_o x u)))), [(0, .cells 117 [.own 1, .own 2, .val (.int .i64 s)]), (1, .row 3 (.ints .i64 (Pa.std.p_u x u))), (2, .row 3 (.ints .i64 z))], [Any, .one (.ptr 0 0)]⟩ := by
  intro b gv
  have hk : okPa x u = true := hC
  have hx65 : x.length = 65 := by
    have h := hk
    unfold okPa at h
    rw [Bool.and_eq_true, decide_eq_true_eq] at h
    exact h.1.1
  have hfs := (FsOk.cons ok_least (FsOk.own (u := 9001) (FsOk.own (u := 9002) (FsOk.own (u := 11011) FsOk.nil))) rfl)
  generalize hF : Pa.std = F at hC hfs ⊢
  generalize hG0 : EgR.Fs.std = G0 at hC hfs ⊢
  generalize hG1 : JoR.Fs.std = G1 at hC hfs ⊢
  generalize hG2 : SpR.Sp.std = G2 at hC hfs ⊢
  generalize hA : Ar.std = A
  generalize hL : Lp _ _ _ = L
  obtain ⟨Z, zq⟩ := z_all
  refine @cd_open _ _ _ _ _ _ _ (lp_mono hL) _ _ zq rfl ?_
  repeat' (first
    | (refine z_open zq ?_; try dsimp only)
    | refine cd_seq zq ?_ (lp_mono hL)
    | refine cd_blk zq ?_
    | refine cd_ret ?_
    | refine cd_skip ?_
    | refine cd_exit ?_
    | refine cd_loop ?_
    | refine cd_cond rfl ?_
    | refine cd_condT rfl ?_
    | refine cd_condF rfl ?_
    | (refine Cd.mk ?_; cbv)
    | (refine Ends1.mk ?_; cbv)
    | (refine Fin1.mk ?_; cbv)
    | exact trivial
    | refine And.intro ?_ ?_
    | refine orf fun _ => ?_
    | refine ort fun _ => ?_)
  all_goals first | (show L _ _ _; skip) | (clear hL hfs zq Z; subst hA hF hG0 hG1 hG2; simp only [Pa.std, Ar.std] at * <;> grind [stdCmp]; done)
  subst hL
  refine loop_z (cx_ok hfs) (pQ x u) (pdI s z x) (pM) pdR ⟨0, [], A.repI 65, u⟩ ?_ ?_ ?_
  · subst hA; exact ⟨Int.le_refl 0, by show (0 : Int) ≤ 65; decide, rfl⟩
  · cbv
    repeat' (first | exact trivial | exact rfl | refine And.intro ?_ ?_)
  rintro ⟨i, o, p, u9⟩ hq O hO
  subst hA
  generalize hA : Ar.std = A
  generalize hL : Lp _ _ _ = L
  refine cd_close zq ?_
  repeat' (first
    | (refine z_open zq ?_; try dsimp only)
    | refine cd_seq zq ?_ (lp_mono hL)
    | refine cd_blk zq ?_
    | refine cd_ret ?_
    | refine cd_skip ?_
    | refine cd_exit ?_
    | refine cd_loop ?_
    | refine cd_cond rfl ?_
    | refine cd_condT rfl ?_
    | refine cd_condF rfl ?_
    | (refine Cd.mk ?_; cbv)
    | (refine Ends1.mk ?_; cbv)
    | (refine Fin1.mk ?_; cbv)
    | exact trivial
    | refine And.intro ?_ ?_
    | refine orf fun _ => ?_
    | refine ort fun _ => ?_)
  all_goals
    clear hL zq Z hfs
    subst hA hF hG0 hG1 hG2 hO
    simp only [Pa.std, JoR.Fs.std, Ar.std] at *
    have w0 := p_lo hk hq
    first
      | exact w0.1
      | exact w0.2.1
      | exact w0.2.2.1
      | exact w0.2.2.2.1
      | exact w0.2.2.2.2.1 (by assumption)
      | exact (w0.2.2.2.2.2 (by assumption)).1
      | exact (w0.2.2.2.2.2 (by assumption)).2
      | exact (p_skip hk hq (by assumption) (by assumption)).1
      | exact (p_skip hk hq (by assumption) (by assumption)).2
      | exact (p_set hk hq (by assumption) (by assumption)).1
      | exact (p_set hk hq (by assumption) (by assumption)).2
      | exact (p_new hk hq (by assumption) (by assumption) (by assumption) rfl rfl rfl rfl).1
      | exact (p_new hk hq (by assumption) (by assumption) (by assumption) rfl rfl rfl rfl).2.1
      | exact (p_new hk hq (by assumption) (by assumption) (by assumption) rfl rfl rfl rfl).2.2.1
      | exact (p_new hk hq (by assumption) (by assumption) (by assumption) rfl rfl rfl rfl).2.2.2.1
      | exact (p_new hk hq (by assumption) (by assumption) (by assumption) rfl rfl rfl rfl).2.2.2.2.1
      | exact (p_new hk hq (by assumption) (by assumption) (by assumption) rfl rfl rfl rfl).2.2.2.2.2.1
      | exact (p_new hk hq (by assumption) (by assumption) (by assumption) rfl rfl rfl rfl).2.2.2.2.2.2.1
      | exact (p_new hk hq (by assumption) (by assumption) (by assumption) rfl rfl rfl rfl).2.2.2.2.2.2.2
      | exact (p_old hk hq (by assumption) (by assumption) (by assumption) rfl rfl).1
      | exact (p_old hk hq (by assumption) (by assumption) (by assumption) rfl rfl).2.1
      | exact (p_old hk hq (by assumption) (by assumption) (by assumption) rfl rfl).2.2.1
      | exact (p_old hk hq (by assumption) (by assumption) (by assumption) rfl rfl).2.2.2.1
      | exact (p_old hk hq (by assumption) (by assumption) (by assumption) rfl rfl).2.2.2.2.1
      | exact (p_old hk hq (by assumption) (by assumption) (by assumption) rfl rfl).2.2.2.2.2
theorem ok_parted : ConOk Try.prog 21 (c_parted Pa.std) := by
  refine con_of (FsOk.cons ok_least (FsOk.own (u := 9001) (FsOk.own (u := 9002) (FsOk.own (u := 11011) FsOk.nil))) rfl) Try.func21 rfl rfl fun xs h p hp => ?_
  unfold c_parted at hp
  split at hp
  · cases hp
    exact ⟨lee_le rfl, fun hC _ => @x_parted _ _ _ _ hC⟩
  · cases hp

def c_sparts (F : Pa) : Con := fun xs h => match xs, h with
  | [.one (.sl none (.ints .i64 n)), .one (.sl none (.recs (.int .i64 (.int .i64 (.int .i64 .nil))) l))], [] => some ⟨F.p_okr n l = true, .tup [.one (.sl none (.recs (.ints .i64 .nil) (F.p_r n l))), I (F.p_re n l)], [], [Any, Any]⟩
  | _, _ => none
set_option cbv.maxSteps 4000000 in
set_option maxHeartbeats 4000000 in
set_option maxRecDepth 100000 in
theorem x_sparts (n : List Int) (l : List E) (hC : Pa.std.p_okr n l = true) : Does [(19, c_marked Pa.std), (20, c_echeckall EgR.Fs.std), (22, c_joined SpR.Sp.std), (21, c_parted Pa.std)] Try.f6 [.one (.sl none (.ints .i64 n)), .one (.sl none (.recs (.int .i64 (.int .i64 (.int .i64 .nil))) l))] [] ⟨Pa.std.p_okr n l = true, .tup [.one (.sl none (.recs (.ints .i64 .nil) (Pa.std.p_r n l))), I (Pa.std.p_re n l)], [], [Any, Any]⟩ := by
  intro b gv
  have hk : okN n = true ∧ decide (l.length ≤ 1000000) = true := (Bool.and_eq_true _ _).mp hC
  have hk2 : l.length ≤ 1000000 := of_decide_eq_true hk.2
  have hk1 := hk.1
  have hj := jok l n
  have he := fun h => mr_e (n := n) h
  have hml := mr_len n
  have hfs := (FsOk.cons ok_marked (FsOk.cons ok_echeckall (FsOk.cons ok_joined (FsOk.cons ok_parted FsOk.nil rfl) rfl) rfl) rfl)
  generalize hF : Pa.std = F at hC hfs ⊢
  generalize hG0 : EgR.Fs.std = G0 at hC hfs ⊢
  generalize hG1 : JoR.Fs.std = G1 at hC hfs ⊢
  generalize hG2 : SpR.Sp.std = G2 at hC hfs ⊢
  generalize hA : Ar.std = A
  generalize hL : Lp _ _ _ = L
  obtain ⟨Z, zq⟩ := z_all
  refine @cd_open _ _ _ _ _ _ _ (lp_mono hL) _ _ zq rfl ?_
  repeat' (first
    | (refine z_open zq ?_; try dsimp only)
    | refine cd_seq zq ?_ (lp_mono hL)
    | refine cd_blk zq ?_
    | refine cd_ret ?_
    | refine cd_skip ?_
    | refine cd_exit ?_
    | refine cd_loop ?_
    | refine cd_cond rfl ?_
    | refine cd_condT rfl ?_
    | refine cd_condF rfl ?_
    | (refine Cd.mk ?_; cbv)
    | (refine Ends1.mk ?_; cbv)
    | (refine Fin1.mk ?_; cbv)
    | exact trivial
    | refine And.intro ?_ ?_
    | refine orf fun _ => ?_
    | refine ort fun _ => ?_)
  all_goals (clear hL hfs zq Z; subst hA hF hG0 hG1 hG2; simp only [Pa.std, EgR.Fs.std, SpR.Sp.std, Ar.std] at * <;> grind [stdCmp, rE, rO, mrE]; done)
theorem ok_sparts : ConOk Try.prog 6 (c_sparts Pa.std) := by
  refine con_of (FsOk.cons ok_marked (FsOk.cons ok_echeckall (FsOk.cons ok_joined (FsOk.cons ok_parted FsOk.nil rfl) rfl) rfl) rfl) Try.func6 rfl rfl fun xs h p hp => ?_
  unfold c_sparts at hp
  split at hp
  · cases hp
    exact ⟨lee_le rfl, fun hC _ => @x_sparts _ _ hC⟩
  · cases hp

def c_rints (F : Pa) : Con := fun xs h => match xs, h with
  | [.one (.sl none (.ints .i64 p)), .one (.sl none (.ints .i64 q))], [] => some ⟨F.p_so p q = true, .sa (B (F.p_s p q)), [], [Any, Any]⟩
  | _, _ => none
set_option cbv.maxSteps 4000000 in
set_option maxHeartbeats 4000000 in
set_option maxRecDepth 100000 in
theorem x_rints (p : List Int) (q : List Int) (hC : Pa.std.p_so p q = true) : Does [] Try.f12 [.one (.sl none (.ints .i64 p)), .one (.sl none (.ints .i64 q))] [] ⟨Pa.std.p_so p q = true, .sa (B (Pa.std.p_s p q)), [], [Any, Any]⟩ := by
  intro b gv
  have hk : p.length ≤ 1000000 ∧ q.length ≤ 1000000 := of_decide_eq_true (show decide (p.length ≤ 1000000 ∧ q.length ≤ 1000000) = true from hC)
  have hne := fun h => nI (p := p) (q := q) h
  generalize hF : Pa.std = F at hC ⊢
  generalize hG0 : EgR.Fs.std = G0 at hC ⊢
  generalize hG1 : JoR.Fs.std = G1 at hC ⊢
  generalize hG2 : SpR.Sp.std = G2 at hC ⊢
  generalize hA : Ar.std = A
  generalize hL : Lp _ _ _ = L
  obtain ⟨Z, zq⟩ := z_all
  refine @cd_open _ _ _ _ _ _ _ (lp_mono hL) _ _ zq rfl ?_
  repeat' (first
    | (refine z_open zq ?_; try dsimp only)
    | refine cd_seq zq ?_ (lp_mono hL)
    | refine cd_blk zq ?_
    | refine cd_ret ?_
    | refine cd_skip ?_
    | refine cd_exit ?_
    | refine cd_loop ?_
    | refine cd_cond rfl ?_
    | refine cd_condT rfl ?_
    | refine cd_condF rfl ?_
    | (refine Cd.mk ?_; cbv)
    | (refine Ends1.mk ?_; cbv)
    | (refine Fin1.mk ?_; cbv)
    | exact trivial
    | refine And.intro ?_ ?_
    | refine orf fun _ => ?_
    | refine ort fun _ => ?_)
  all_goals first | (show L _ _ _; skip) | (clear hL  zq Z; subst hA hF hG0 hG1 hG2; simp only [Pa.std, Ar.std] at * <;> grind [stdCmp]; done)
  rename_i hx
  have hl : p.length = q.length := by
    clear hL zq Z hF hG0 hG1 hG2
    subst hA
    simp only [Ar.std] at hx
    grind [stdCmp]
  clear hx
  subst hL
  refine loop_z (cx_ok FsOk.nil) (allQ p.length (eI p q)) (s3I p q) (allM p.length) s3R ⟨0⟩ ?_ ?_ ?_
  · exact ⟨Int.le_refl 0, Int.natCast_nonneg _, fun j hj => by simp only at hj; omega⟩
  · cbv
    repeat' (first | exact trivial | exact rfl | refine And.intro ?_ ?_)
  rintro ⟨i⟩ hq O hO
  have hst := eI_step hk.1 hl hq
  have q0 := hq.1
  have q1 := hq.2.1
  dsimp only at q0 q1
  subst hA
  generalize hA : Ar.std = A
  generalize hL : Lp _ _ _ = L
  refine cd_close zq ?_
  repeat' (first
    | (refine z_open zq ?_; try dsimp only)
    | refine cd_seq zq ?_ (lp_mono hL)
    | refine cd_blk zq ?_
    | refine cd_ret ?_
    | refine cd_skip ?_
    | refine cd_exit ?_
    | refine cd_loop ?_
    | refine cd_cond rfl ?_
    | refine cd_condT rfl ?_
    | refine cd_condF rfl ?_
    | (refine Cd.mk ?_; cbv)
    | (refine Ends1.mk ?_; cbv)
    | (refine Fin1.mk ?_; cbv)
    | exact trivial
    | refine And.intro ?_ ?_
    | refine orf fun _ => ?_
    | refine ort fun _ => ?_)
  all_goals (clear hL  zq Z hq; subst hA hF hG0 hG1 hG2 hO; simp only [Pa.std, Ar.std] at * <;> grind [stdCmp]; done)
theorem ok_rints : ConOk Try.prog 12 (c_rints Pa.std) := by
  refine con_of FsOk.nil Try.func12 rfl rfl fun xs h p hp => ?_
  unfold c_rints at hp
  split at hp
  · cases hp
    exact ⟨lee_le rfl, fun hC _ => @x_rints _ _ hC⟩
  · cases hp
end Go.Proofs.Ytakebkfhigadiaa.PaR
