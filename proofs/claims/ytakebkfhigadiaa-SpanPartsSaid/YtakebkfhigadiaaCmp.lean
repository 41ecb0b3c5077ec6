/-
  cmp.Compare and cmp.Or of ints: what they tell. No condition.
-/
import Derived.Test.YtakebkfhigadiaaLaw
import Derived.Test.YtakebkfhigadiaaProg
import Derived.Deep.QuietTactic
import Derived.BigQuiet
import Derived.BigFrame
namespace Go.Proofs.Ytakebkfhigadiaa.Cmp
open Go.RowKit Go.Proofs.Ytakebkfhigadiaa.Law

def sgn (a b : Int) : Int := if a < b then -1 else if b < a then 1 else 0
theorem sgn_lt {a b : Int} (h : a < b) : sgn a b = -1 := by simp [sgn, h]
theorem sgn_gt {a b : Int} (h : b < a) : sgn a b = 1 := by simp [sgn]; omega
theorem sgn_eq {a b : Int} (h : a = b) : sgn a b = 0 := by simp [sgn]; omega
theorem sgn_bd (a b : Int) : -1 ≤ sgn a b ∧ sgn a b ≤ 1 := by unfold sgn; split <;> (try split) <;> omega

theorem nan_any (a : Int) (w : World) : Calls Try.prog 96 #[.int .i64 a] w fun e w' => e = .returned (.bool false) ∧ w = w' := by
  go_enter Try.func96, Try.ntmps96
  go_wp2
  go_ret
  exact ⟨by simp, rfl⟩

theorem cmp_any (a b : Int) (w : World) : Calls Try.prog 80 #[.int .i64 a, .int .i64 b] w fun e w' => e = .returned (.int .i64 (sgn a b)) ∧ w = w' := by
  rcases Int.lt_trichotomy a b with h | h | h
  · go_enter Try.func80, Try.ntmps80
    go_wp2_with (go_at_call 96; refine (nan_any _ _).mono ?_; rintro e w' ⟨rfl, rfl⟩)
    go_ret
    exact ⟨ret_int (sgn_lt h).symm, rfl⟩
  · have h1 := Law.hide h; clear h
    have h2 : ¬ a < b := by have := h1.out; omega
    have h3 : ¬ b < a := by have := h1.out; omega
    go_enter Try.func80, Try.ntmps80
    go_wp2_with (go_at_call 96; refine (nan_any _ _).mono ?_; rintro e w' ⟨rfl, rfl⟩)
    go_ret
    exact ⟨ret_int (sgn_eq h1.out).symm, rfl⟩
  · have h2 : ¬ a < b := by omega
    go_enter Try.func80, Try.ntmps80
    go_wp2_with (go_at_call 96; refine (nan_any _ _).mono ?_; rintro e w' ⟨rfl, rfl⟩)
    go_ret
    exact ⟨ret_int (sgn_gt h).symm, rfl⟩

def orF : List Int → Int
  | [] => 0
  | x :: xs => if x = 0 then orF xs else x

set_option maxHeartbeats 400000 in
theorem or_any (xs : List Int) (B : Nat) (w : World) (hn : xs.length ≤ 1000) (hc : ∀ i x, xs[i]? = some x → w.cell? ⟨B, i, none⟩ = some (.int .i64 x)) :
    Calls Try.prog 79 #[.slice (some ⟨B, 0, none⟩) xs.length xs.length] w fun e w' => e = .returned (.int .i64 (orF xs)) ∧ w = w' := by
  have HC := Law.hide hc; clear hc
  go_enter Try.func79, Try.ntmps79
  go_wp2
  go_loop [8] (fun i => ∃ k : Nat, k ≤ xs.length ∧ i = .int .i64 k ∧ Hid (orF xs = orF (xs.drop k))) (fun i => xs.length - (intOf i).toNat)
  case atStart => exact ⟨0, Nat.zero_le _, rfl, rfl⟩
  case round =>
    obtain ⟨k, hk, rfl, ho⟩ := hrel
    by_cases hlt : k < xs.length
    · have hx : xs[k]? = some xs[k] := List.getElem?_eq_getElem hlt
      have hcell := HC.out k _ hx
      have hd : xs.drop k = xs[k] :: xs.drop (k + 1) := List.drop_eq_getElem_cons hlt
      have HX := Law.hide hx; clear hx
      have HD := Law.hide hd; clear hd
      generalize xs[k] = x at *
      by_cases h0 : x = 0
      · subst h0
        go_wp2
        go_round
        case rel => exact ⟨k + 1, by omega, by go_num, by rw [Hid, ho.out, HD.out]; simp [orF]⟩
        case measure => simp [intOf]; omega
      · have h1 : (x == 0) = false := by simpa using h0
        have h2 : (x != 0) = true := by simpa using h0
        have H0 := Law.hide h0; clear h0
        go_wp2
        go_ret
        exact ⟨ret_int (by rw [ho.out, HD.out]; simp [orF, H0.out]), rfl⟩
    · have hk2 : k = xs.length := by omega
      have HK := Law.hide hk2; clear hk2
      go_wp2
      go_ret
      exact ⟨ret_int (by rw [ho.out, HK.out]; simp [orF]), rfl⟩
end Go.Proofs.Ytakebkfhigadiaa.Cmp
