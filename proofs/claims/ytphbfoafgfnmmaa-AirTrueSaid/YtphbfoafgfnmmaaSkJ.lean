/-
  what the laws of an air ask of the acts. No condition.
-/
import Derived.Test.YtphbfoafgfnmmaaSkA
import Derived.Test.YtphbfoafgfnmmaaSkY
import Derived.Test.YtphbfoafgfnmmaaSkH
import Derived.Test.YtphbfoafgfnmmaaRyOz
namespace Go.Proofs.Ytphbfoafgfnmmaa.SkJ
open Go Go.Proofs.Ytphbfoafgfnmmaa.Ry Go.Proofs.Ytphbfoafgfnmmaa.SkR Go.Proofs.Ytphbfoafgfnmmaa.SkT Go.Proofs.Ytphbfoafgfnmmaa.SkO Go.Proofs.Ytphbfoafgfnmmaa.SkC Go.Proofs.Ytphbfoafgfnmmaa.SkD Go.Proofs.Ytphbfoafgfnmmaa.SkP Go.Proofs.Ytphbfoafgfnmmaa.SkS Go.Proofs.Ytphbfoafgfnmmaa.SkQ Go.Proofs.Ytphbfoafgfnmmaa.SkN Go.Proofs.Ytphbfoafgfnmmaa.SkY Go.Proofs.Ytphbfoafgfnmmaa.SkA Go.Proofs.Ytphbfoafgfnmmaa.SkU Go.Proofs.Ytphbfoafgfnmmaa.SkV Go.Proofs.Ytphbfoafgfnmmaa.SkW Go.Proofs.Ytphbfoafgfnmmaa.SkH Go.Proofs.Ytphbfoafgfnmmaa.SkM

open Go.Proofs.Ytphbfoafgfnmmaa.EgR (trE sameE)
theorem no_may {f u : List E} (h : mayA f u = false) : chA f u = 1 := by
  rcases ch_01 f u with g | g
  · rw [(may_V f u).2 ((ch_V f u).1 g)] at h
    cases h
  · exact g
theorem ys_may {f u : List E} (h : mayA f u = true) : chA f u = 0 := (ch_V f u).2 ((may_V f u).1 h)
theorem no_do {f u : List E} (h : mayA f u = false) (k a b n w : Int) : adF f u k a b n w = [] ∧ adU f u k a b w = [] ∧ adG f u k a b n = ⟨0, 0, [], false, false⟩ := by
  have e := no_may h
  unfold adF adU adG
  rw [e]
  exact ⟨rfl, rfl, rfl⟩
theorem fT_nrm (y : E) : fT (nrm y) = fT y := rfl
theorem fT_cp (f : List E) : (cpF f).map fT = f.map fT := by
  unfold cpF
  rw [List.map_map]
  rfl
theorem fl_self (a b : Int) (l : List Int) (x : Bool) : flB a b l x a b l x = true := decide_eq_true ⟨rfl, rfl, rfl, rfl⟩
theorem sm_nil : sameA [] [] [] [] = true := by decide +kernel
theorem ys_do {f u : List E} (h : mayA f u = true) (k a b n w : Int) : adG f u k a b n = rdG f k n ∧ sameA (adF f u k a b n w) (adU f u k a b w) (rdF f u k a b n w) (rdU u k a b w) = true ∧ mayA (adF f u k a b n w) (adU f u k a b w) = true ∧
    (adF f u k a b n w).length ≤ 16384 ∧ (adU f u k a b w).length ≤ 512 ∧ (rdF f u k a b n w).length ≤ 16384 ∧ (rdU u k a b w).length ≤ 512 := by
  obtain ⟨h1, h2, h3, h4⟩ := act_ok ((may_V f u).1 h) k a b n w
  have e1 : (rdF f u k a b n w).length = (adF f u k a b n w).length := by rw [h1, cp_len]
  have e2 : (rdU u k a b w).length = (adU f u k a b w).length := by
    have := congrArg List.length h2
    rw [List.length_map, List.length_map] at this
    exact this.symm
  refine ⟨h3, ?_, (may_V _ _).2 h4, h4.m, h4.n, by rw [e1]; exact h4.m, by rw [e2]; exact h4.n⟩
  unfold sameA sameE sameFl
  rw [Bool.and_eq_true]
  exact ⟨decide_eq_true h2, decide_eq_true (by rw [h1, fT_cp])⟩
theorem li_sz {f u : List E} (h : liB f u = true) : f.length ≤ 150 ∧ u.length ≤ 600 ∧ totF f ≤ 9000 := by
  have := of_decide_eq_true (show decide _ = true from h)
  omega
theorem li_ad {f u : List E} (h : liB f u = true) : adOk f u = true := by
  have := li_sz h
  exact decide_eq_true (by omega)
theorem lg_of {x : E} (h : wfZ (.recs (.int .i64 (.int .i64 (.ints .u8 (.bool .nil)))) (.recs (.int .i64 (.int .i64 (.int .i64 .nil))) .nil)) x 0) : lgOk (rr x 0) (rr x 1) = true := by
  obtain ⟨h1, h2, _, h3, _⟩ := h
  refine decide_eq_true ⟨h2, h3, fun y hy => ?_⟩
  exact (h1 y hy).2.2.2.1
end Go.Proofs.Ytphbfoafgfnmmaa.SkJ
