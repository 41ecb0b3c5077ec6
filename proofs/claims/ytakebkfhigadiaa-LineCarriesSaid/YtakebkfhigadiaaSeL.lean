/-
  senders: what the code makes is what the document says. No condition.
-/
import Derived.Test.YtakebkfhigadiaaSeT
import Derived.Test.YtakebkfhigadiaaSeU
namespace Go.Proofs.Ytakebkfhigadiaa.SeL
open Go Go.Proofs.Ytakebkfhigadiaa.Ry Go.Proofs.Ytakebkfhigadiaa.SeR Go.Proofs.Ytakebkfhigadiaa.SeS Go.Proofs.Ytakebkfhigadiaa.SeT Go.Proofs.Ytakebkfhigadiaa.SeU

theorem li_len {q : List E} (h : liW q = true) : q.length ≤ 300 := by
  simp only [liW, Bool.and_eq_true, decide_eq_true_eq] at h
  exact h.1
theorem pq_app (p q : List E) : pq (p ++ q) = pq p ++ pq q := by simp [pq]
theorem by_nq {q : List E} (h : byS q = true) : byS (nq q) = true := by
  have h := of_decide_eq_true h
  refine decide_eq_true ⟨by rw [nq_len]; exact h.1, fun y hy x hx => ?_⟩
  obtain ⟨z, hz, rfl⟩ := List.mem_map.1 hy
  exact h.2 z hz x hx
theorem by_app {q : List E} {p : List Int} (hl : q.length ≤ 1000) (h : byS q = true) (hp : ∀ x ∈ p, 0 ≤ x ∧ x ≤ 255) : byS (q ++ [[D.ints p]]) = true := by
  have h := of_decide_eq_true h
  refine decide_eq_true ⟨by rw [List.length_append]; simp; omega, fun y hy x hx => ?_⟩
  rcases List.mem_append.1 hy with hy | hy
  · exact h.2 y hy x hx
  · rw [List.mem_singleton] at hy
    subst hy
    exact hp x hx
theorem by_drop {q : List E} (h : byS q = true) (k : Nat) : byS (q.drop k) = true := by
  have h := of_decide_eq_true h
  exact decide_eq_true ⟨by rw [List.length_drop]; omega, fun y hy => h.2 y (List.mem_of_mem_drop hy)⟩
theorem sm_same {b s : Int} {q q' : List E} {c : Int} (h : pq q = pq q') : smS b s q c b s q' c = true := by
  unfold smS
  exact decide_eq_true ⟨rfl, rfl, rfl, h⟩
theorem push_same {b s : Int} {q : List E} {c : Int} {p : List Int} {n : Int} (hl : q.length ≤ 300) (hq : byS q = true) (hp : ∀ x ∈ p, 0 ≤ x ∧ x ≤ 255) :
    (pushS b s q c p n).e = (rpushS b s q c p n).e ∧ smS (pushS b s q c p n).b (pushS b s q c p n).s (pushS b s q c p n).q (pushS b s q c p n).c (rpushS b s q c p n).b (rpushS b s q c p n).s (rpushS b s q c p n).q (rpushS b s q c p n).c = true ∧ byS (pushS b s q c p n).q = true ∧ byS (rpushS b s q c p n).q = true := by
  have hz : byS [] = true := rfl
  unfold pushS rpushS
  split
  · exact ⟨rfl, rfl, hz, hz⟩
  split
  · exact ⟨rfl, rfl, hz, hz⟩
  split
  · exact ⟨rfl, rfl, hz, hz⟩
  split
  · exact ⟨rfl, rfl, hz, hz⟩
  · refine ⟨rfl, sm_same ?_, by_app (by rw [nq_len]; omega) (by_nq hq) hp, by_app (by omega) hq hp⟩
    rw [pq_app, pq_app, pq_nq]
theorem ack_same {b s : Int} {q : List E} {c k : Int} (hq : byS q = true) :
    (maySn b s q c = true → (ackS b s q c k).e = 0 ∧ smS (ackS b s q c k).b (ackS b s q c k).s (ackS b s q c k).q (ackS b s q c k).c (rackS b s q c k).b (rackS b s q c k).s (rackS b s q c k).q (rackS b s q c k).c = true ∧ byS (ackS b s q c k).q = true ∧ byS (rackS b s q c k).q = true) ∧ (maySn b s q c = false → ackS b s q c k = zS 1) := by
  refine ⟨fun h => ?_, fun h => ?_⟩
  · unfold ackS rackS
    rw [if_neg (by rw [h]; decide)]
    split
    · exact ⟨rfl, sm_same (pq_nq _), by_nq (by_drop hq _), by_drop hq _⟩
    · exact ⟨rfl, sm_same (pq_nq _), by_nq hq, hq⟩
  · unfold ackS
    rw [if_pos h]
theorem ch_is (b s : Int) (q : List E) (c : Int) : (chS b s q c == 0) = maySn b s q c := by
  unfold chS
  cases maySn b s q c <;> rfl

structure Ls where
  r : Fs
def Ls.std : Ls := ⟨Fs.std⟩
end Go.Proofs.Ytakebkfhigadiaa.SeL
