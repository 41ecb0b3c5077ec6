
/-
  the answer of forests: sorted by swaps, and its least forest. No condition.
-/
import Derived.Test.YtakebkfhigadiaaSpT
namespace Go.Proofs.Ytakebkfhigadiaa.SpO
open Go Go.Proofs.Ytakebkfhigadiaa.Ry Go.Proofs.Ytakebkfhigadiaa.So Go.Proofs.Ytakebkfhigadiaa.JoS Go.Proofs.Ytakebkfhigadiaa.EgR Go.Proofs.Ytakebkfhigadiaa.SpR Go.Proofs.Ytakebkfhigadiaa.SpQ Go.Proofs.Ytakebkfhigadiaa.SpT

def rlB (l : List E) : List E := rlF [] (rsB l)
theorem rs_len (l : List E) : (rsB l).length = l.length := ou_len l _
theorem rs_in {l : List E} (h : goodL l = true) : ∀ y ∈ rsB l, may1 y = true := by
  intro y hy
  have h1 : trE y ∈ (rsB l).map trE := List.mem_map_of_mem hy
  rw [(rs_ok l).1.mem_iff] at h1
  obtain ⟨z, hz, e⟩ := List.mem_map.1 h1
  have := ((good_iff l).1 h).1 z hz
  unfold may1 at *
  unfold trE at e
  simp only [Prod.mk.injEq] at e
  rw [← e.1, ← e.2.1, ← e.2.2]
  exact this
structure XL where
  i : Int
  o : List E
def rlQ (s : List E) (y : XL) : Prop := 0 ≤ y.i ∧ y.i ≤ s.length ∧ y.o.length ≤ y.i ∧ inR y.o = true ∧ rlF y.o (s.drop y.i.toNat) = rlF [] s
def rlM (s : List E) (y : XL) : Nat := s.length - y.i.toNat
theorem rl_zero (s : List E) : rlQ s ⟨0, []⟩ := ⟨Int.le_refl 0, Int.natCast_nonneg _, Int.le_refl 0, rfl, rfl⟩
theorem rl_step {s : List E} (hs : ∀ y ∈ s, may1 y = true) (hl : s.length ≤ 1000000) {i : Int} {o : List E} (hq : rlQ s ⟨i, o⟩) (h : i < s.length) :
    stdBin .add .i64 i 1 = i + 1 ∧ o.length ≤ 1000000 ∧ (∀ p : List E, rlM s ⟨i + 1, p⟩ < rlM s ⟨i, o⟩) ∧
    (lkR o (ri (s.getD i.toNat []) 0) (ri (s.getD i.toNat []) 1) = true → rlQ s ⟨i + 1, o⟩) ∧
    (lkR o (ri (s.getD i.toNat []) 0) (ri (s.getD i.toNat []) 1) = false → rlQ s ⟨i + 1, o ++ [[D.int (ri (s.getD i.toNat []) 0), D.int (ri (s.getD i.toNat []) 1), D.int (ri (s.getD i.toNat []) 2)]]⟩) := by
  obtain ⟨h0, h1, h2, h3, h4⟩ := hq
  simp only at h0 h1 h2 h3 h4
  have hi : i.toNat < s.length := by omega
  have e : (i + 1).toNat = i.toNat + 1 := by omega
  have eg : s.getD i.toNat [] = s[i.toNat] := by rw [List.getD_eq_getElem?_getD, List.getElem?_eq_getElem hi]; rfl
  have hm := may_1 (hs _ (List.getElem_mem hi))
  rw [List.drop_eq_getElem_cons hi, ← eg] at h4
  rw [← eg] at hm
  have mz : ∀ p : List E, rlM s ⟨i + 1, p⟩ < rlM s ⟨i, o⟩ := fun p => by simp only [rlM]; omega
  refine ⟨by rw [b_add, wr _ (by omega) (by omega)], by omega, mz, fun g => ⟨by simp only; omega, by simp only; omega, by simp only; omega, h3, ?_⟩, fun g => ⟨by simp only; omega, by simp only; omega, by simp only [List.length_append, List.length_cons, List.length_nil]; omega, ?_, ?_⟩⟩
  · simp only [rlF] at h4 ⊢
    rw [if_pos g] at h4
    rw [e]
    exact h4
  · obtain ⟨k1, k2⟩ := inR_iff.1 h3
    refine inR_iff.2 ⟨by simp only [List.length_append, List.length_cons, List.length_nil]; omega, fun y hy => ?_⟩
    simp only at hy
    rcases List.mem_append.1 hy with hy | hy
    · exact k2 y hy
    · rw [List.mem_singleton.1 hy]
      show 0 ≤ ri (s.getD i.toNat []) 0 ∧ ri (s.getD i.toNat []) 0 < 65 ∧ 0 ≤ ri (s.getD i.toNat []) 1 ∧ ri (s.getD i.toNat []) 1 < 65
      omega
  · simp only [rlF] at h4 ⊢
    rw [if_neg (by rw [g]; decide)] at h4
    rw [e]
    exact h4
theorem rl_end {s : List E} {i : Int} {o : List E} (hq : rlQ s ⟨i, o⟩) (h : ¬ i < s.length) : o = rlF [] s := by
  obtain ⟨h0, h1, h2, h3, h4⟩ := hq
  simp only at h4 h0 h1
  rw [← h4, List.drop_eq_nil_of_le (by omega)]
  rfl
def rlR (st : St) : XL := ⟨slotI st 5, ctR (match slotC st 4 with | .sl _ c => c | _ => .recs .nil [])⟩

structure Sv where
  t_srt : List E → List E
  t_ok : List E → Bool
  t_le : List E → List E
  t_g : List E → Bool
def Sv.std : Sv := ⟨rsB, fun l => decide (l.length ≤ 1000000), rlB, fun l => decide (l.length ≤ 1000000) && goodL l⟩

def c_rsort (F : Sv) : Con := fun xs h => match xs, h with
  | [.one (.sl none (.recs (.int .i64 (.int .i64 (.int .i64 .nil))) l))], [] => some ⟨F.t_ok l = true, .sa (.one (.sl none (.recs (.int .i64 (.int .i64 (.int .i64 .nil))) (F.t_srt l)))), [], [Any]⟩
  | _, _ => none
def c_rleast (F : Sv) : Con := fun xs h => match xs, h with
  | [.one (.sl none (.recs (.int .i64 (.int .i64 (.int .i64 .nil))) l))], [] => some ⟨F.t_g l = true, .sa (.one (.sl none (.recs (.int .i64 (.int .i64 (.int .i64 .nil))) (F.t_le l)))), [], [Any]⟩
  | _, _ => none
end Go.Proofs.Ytakebkfhigadiaa.SpO
