/-
  links: new ones, payloads, ends, weights. No condition.
-/
import Derived.Test.YtinjeffkhjcbnaaLkT
namespace Go.Proofs.Ytinjeffkhjcbnaa.LkU
open Go Go.Proofs.Ytinjeffkhjcbnaa.Ry Go.Proofs.Ytinjeffkhjcbnaa.HaR Go.Proofs.Ytinjeffkhjcbnaa.SeR Go.Proofs.Ytinjeffkhjcbnaa.SeS Go.Proofs.Ytinjeffkhjcbnaa.SeT Go.Proofs.Ytinjeffkhjcbnaa.SeU Go.Proofs.Ytinjeffkhjcbnaa.SeL Go.Proofs.Ytinjeffkhjcbnaa.SeV Go.Proofs.Ytinjeffkhjcbnaa.LiR Go.Proofs.Ytinjeffkhjcbnaa.LiQ Go.Proofs.Ytinjeffkhjcbnaa.LiS Go.Proofs.Ytinjeffkhjcbnaa.LkR Go.Proofs.Ytinjeffkhjcbnaa.LkQ Go.Proofs.Ytinjeffkhjcbnaa.LkS Go.Proofs.Ytinjeffkhjcbnaa.LkT

def fitK (h g n : Int) : Bool := decide (1 ≤ h ∧ h ≤ 64) && wtB g && limitB n
theorem fit_iff {h g n : Int} : fitK h g n = true ↔ (1 ≤ h ∧ h ≤ 64) ∧ (0 ≤ g ∧ g ≤ 2147483647) ∧ limitB n = true := by
  simp only [fitK, wtB, Bool.and_eq_true, decide_eq_true_eq]
  exact ⟨fun h => ⟨h.1.1, h.1.2, h.2⟩, fun h => ⟨⟨h.1, h.2.1⟩, h.2.2⟩⟩
theorem may_rnew {n : Int} (hl : limitB n = true) : mayL (rnewL n) = true := by
  have h1 := may_new (l := 0) (Int.le_refl 0) (by decide) hl
  have hnf : newF 0 n = newH 0 n := by
    unfold newF
    exact if_pos ⟨Int.le_refl 0, by decide, hl⟩
  rw [hnf] at h1
  unfold mayL rnewL
  dsimp only
  rw [h1]
  simp only [Bool.true_and, Bool.and_eq_true, Bool.or_eq_true]
  exact ⟨⟨rfl, rfl⟩, .inr (sm_refl _)⟩
theorem newK_ok {h g n : Int} : (fitK h g n = true → (newK h g n).e = 0 ∧ smK (newK h g n).k ⟨h, g, rnewL n, 0, 0⟩ = true ∧ byS (newK h g n).k.x.q = true ∧ byS (rnewL n).q = true) ∧ (fitK h g n = false → newK h g n = ⟨zK, zN, 1⟩) := by
  have hn := new_ok (n := n)
  refine ⟨fun hf => ?_, fun hf => ?_⟩
  · obtain ⟨f1, f2, f3⟩ := fit_iff.1 hf
    obtain ⟨e1, e2, e3, e4⟩ := hn.1 f3
    unfold newK
    rw [if_pos e1, e2, if_pos (may_mk f1 f2 (may_rnew f3) ⟨by decide, by decide, by decide, by decide⟩ (.inr ⟨rfl, rfl⟩))]
    exact ⟨rfl, smK_refl _, e4, e4⟩
  · unfold newK
    cases hl : limitB n with
    | false =>
      rw [hn.2 hl]
      rfl
    | true =>
      obtain ⟨e1, e2, e3, e4⟩ := hn.1 hl
      rw [if_pos e1, e2, if_neg]
      intro hm
      have hk := may_K hm
      rw [fit_iff.2 ⟨⟨hk.1, hk.2.1⟩, ⟨hk.2.2.1, hk.2.2.2.1⟩, hl⟩] at hf
      cases hf
theorem pushK_ok {k : KN} {p : List Int} {n : Int} (hlq : k.x.q.length ≤ 300) (hb : byS k.x.q = true) (hp : ∀ y ∈ p, 0 ≤ y ∧ y ≤ 255) :
    (¬ (mayK k = true ∧ limitB n = true) → pushK k p n = ⟨zK, zN, 1⟩) ∧ (mayK k = true → limitB n = true → (pushK k p n).e = (rpushL k.x p n).e ∧ (¬ (rpushL k.x p n).e = 0 → (pushK k p n).k = zK) ∧
      ((rpushL k.x p n).e = 0 → smL (pushK k p n).k.x (rpushL k.x p n).x = true ∧ (pushK k p n).k.u = k.u ∧ (pushK k p n).k.v = k.v ∧ (pushK k p n).k.h = k.h) ∧ byS (pushK k p n).k.x.q = true ∧ byS (rpushL k.x p n).x.q = true) := by
  refine ⟨fun h => ?_, fun hm hl => ?_⟩
  · unfold pushK
    by_cases hm : mayK k = true
    · have hl : ¬ (mayL k.x = true ∧ limitB n = true) := fun w => h ⟨hm, w.2⟩
      rw [if_pos hm, push_bad hl]
      rfl
    · rw [if_neg hm]
  · obtain ⟨a1, a2, a3, a4⟩ := push_alike (x := k.x) (p := p) (n := n) hlq hb hp (may_K hm).2.2.2.2.1 hl
    unfold pushK
    rw [if_pos hm, a1]
    by_cases g : (rpushL k.x p n).e = 0
    · rw [if_pos g]
      exact ⟨g.symm, fun w => absurd g w, fun _ => ⟨a2, rfl, rfl, rfl⟩, a3, a4⟩
    · rw [if_neg g]
      exact ⟨rfl, fun _ => rfl, fun w => absurd w g, rfl, a4⟩
theorem cloK_bad {k : KN} {n : Int} (h : ¬ (mayK k = true ∧ limitB n = true)) : cloK k n = ⟨zK, zN, 1⟩ := by
  unfold cloK
  rw [if_neg h]
theorem cloK_ok {k : KN} {n : Int} (hb : byS k.x.q = true) (hm : mayK k = true) (hl : limitB n = true) : AlK (cloK k n) (rcloK k n) := by
  have hk := may_K hm
  have h := clo_same hb hk.2.2.2.2.1 hl
  unfold cloK rcloK
  rw [if_pos ⟨hm, hl⟩]
  by_cases g : opL k.x = true
  · have hd : (rcloL k.x n).y.d = true := by
      unfold rcloL
      rw [if_neg (op_ne g)]
    rw [hd, if_pos rfl, if_pos rfl]
    exact ⟨rfl, smK_of rfl rfl rfl rfl h.s, h.n, h.b1, h.b2, h.n1, h.n2⟩
  · have huv : k.u = 0 ∧ k.v = 0 := hk.2.2.2.2.2.2.2.2.2.resolve_left g
    refine ⟨rfl, smK_of rfl rfl ?_ ?_ h.s, h.n, h.b1, h.b2, h.n1, h.n2⟩
    · simp only
      split
      · rfl
      · exact huv.1.symm
    · simp only
      split
      · rfl
      · exact huv.2.symm
theorem fluK_bad {k : KN} (h : ¬ mayK k = true) : fluK k = ⟨zK, zN, 1⟩ := by
  unfold fluK
  rw [if_neg h]
theorem fluK_ok {k : KN} (hb : byS k.x.q = true) (hm : mayK k = true) : (fluK k).e = 0 ∧ smL (fluK k).k.x (rfluL k.x).x = true ∧ nwE (fluK k).y (rfluL k.x).y = true ∧ (fluK k).k.u = k.u ∧ (fluK k).k.v = k.v ∧ byS (fluK k).k.x.q = true ∧ byS (rfluL k.x).x.q = true ∧ nwB (fluK k).y = true ∧ nwB (rfluL k.x).y = true := by
  have h := flu_same hb (may_K hm).2.2.2.2.1
  unfold fluK
  rw [if_pos hm]
  exact ⟨rfl, h.s, h.n, rfl, rfl, h.b1, h.b2, h.n1, h.n2⟩
theorem weiK_bad {k : KN} {x n : Int} (h : ¬ (mayK k = true ∧ wtB x = true ∧ limitB n = true)) : weiK k x n = ⟨zK, zN, 1⟩ := by
  unfold weiK
  rw [if_neg h]
theorem weiK_ok {k : KN} {x n : Int} (hb : byS k.x.q = true) (hm : mayK k = true) (hx : wtB x = true) (hl : limitB n = true) :
    (weiK k x n).e = 0 ∧ (x = k.g → smK (weiK k x n).k k = true ∧ (weiK k x n).y = zN) ∧ (¬ x = k.g → smK (weiK k x n).k ⟨(rcloK k n).k.h, x, (rcloK k n).k.x, (rcloK k n).k.u, (rcloK k n).k.v⟩ = true ∧ nwE (weiK k x n).y (rcloK k n).y = true) ∧ byS (weiK k x n).k.x.q = true ∧ nwB (weiK k x n).y = true := by
  have hc := cloK_ok hb hm hl
  unfold weiK
  rw [if_pos ⟨hm, hx, hl⟩]
  by_cases g : x = k.g
  · rw [if_pos g]
    have := cpK_same k hb
    exact ⟨rfl, fun _ => ⟨this.1, rfl⟩, fun w => absurd g w, this.2, rfl⟩
  · rw [if_neg g]
    have e : cloK k n = ⟨⟨k.h, k.g, (cloL k.x n).x, 0, 0⟩, (cloL k.x n).y, 0⟩ := by
      unfold cloK
      rw [if_pos ⟨hm, hl⟩]
    rw [e] at hc
    obtain ⟨s1, s2, s3, s4, s5⟩ := smK_iff hc.s
    exact ⟨rfl, fun w => absurd w g, fun _ => ⟨smK_of s1 rfl s3 s4 s5, hc.n⟩, hc.b1, hc.n1⟩

structure Xs2 where
  l : Unit
def Xs2.std : Xs2 := ⟨()⟩
end Go.Proofs.Ytinjeffkhjcbnaa.LkU
