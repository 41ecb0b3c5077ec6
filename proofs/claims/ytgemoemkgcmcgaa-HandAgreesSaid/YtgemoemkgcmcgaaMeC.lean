/-
  what holds in the loops of HandAgrees. No condition.
-/
import Derived.Test.YtgemoemkgcmcgaaRyZ
import Derived.Test.YtgemoemkgcmcgaaRyOp
import Derived.Test.YtgemoemkgcmcgaaMeB
import Derived.Test.YtgemoemkgcmcgaaMeA
namespace Go.Proofs.Ytgemoemkgcmcgaa.MeC
open Go Go.Proofs.Ytgemoemkgcmcgaa.Ry Go.Proofs.Ytgemoemkgcmcgaa.HaR Go.Proofs.Ytgemoemkgcmcgaa.BwS Go.Proofs.Ytgemoemkgcmcgaa.MeR Go.Proofs.Ytgemoemkgcmcgaa.MeM Go.Proofs.Ytgemoemkgcmcgaa.MeQ Go.Proofs.Ytgemoemkgcmcgaa.MeT Go.Proofs.Ytgemoemkgcmcgaa.MeB

open Go.Proofs.Ytgemoemkgcmcgaa.MeA
structure XA where
  i : Int
  d : MS
structure XB where
  n : Int
  r : Int
  c : List E
  d : MS
structure XC where
  s : Int
  c : List E
  d : MS
structure XD where
  k : Int
  c : List E
  d : MS
def tot (d : MS) : Nat := d.w0.length + d.w1.length
def aQ (lim : Int) (l : List E) (y : XA) : Prop := 0 ≤ y.i ∧ y.i ≤ l.length ∧ y.d = MeT.runN lim (l.take y.i.toNat) ∧ J lim y.d ∧ (tot y.d : Int) ≤ y.i
noncomputable def aI (lim : Int) (l : List E) (y : XA) : St := stOf Try.f7.ntmps [(0, .val (.int .i64 lim)), (1, .sl none (.recs (.int .i64 (.int .i64 (.int .i64 (.int .i64 (.int .i64 .nil))))) l)), (5, .ptr 1 0), (6, .val (.int .i64 y.i))] [(1, .cells 81 [.val (.int .i64 lim), .val (.int .i64 y.d.l0), .val (.int .i64 y.d.c0), .val (.int .i64 y.d.p0), .val (.bool y.d.o0), .val (.int .i64 y.d.l1), .val (.int .i64 y.d.c1), .val (.int .i64 y.d.p1), .val (.bool y.d.o1), .sl none (.recs (.bool (.int .i64 .nil)) y.d.w0), .sl none (.recs (.bool (.int .i64 .nil)) y.d.w1)])] [Any, Any]
def aM (l : List E) (y : XA) : Nat := l.length - y.i.toNat
def wayX (st : St) (s j : Nat) : List E := ctR (match cellC st s j with | .sl _ c => c | _ => .recs .nil [])
def dX (st : St) : MS := ⟨valI (cellC st 5 1), valI (cellC st 5 2), valI (cellC st 5 3), valB (cellC st 5 4), valI (cellC st 5 5), valI (cellC st 5 6), valI (cellC st 5 7), valB (cellC st 5 8), wayX st 5 9, wayX st 5 10⟩
def aR (st : St) : XA := ⟨slotI st 6, dX st⟩
def bQ (lim : Int) (l : List E) (y : XB) : Prop := 0 ≤ y.n ∧ 3 ≤ y.r ∧ y.r ≤ 1000 ∧ y.d = MeT.runN lim y.c ∧ y.c.length < 900 ∧ stage lim y.n.toNat y.d ∧ tot y.d ≤ l.length
noncomputable def bI (lim : Int) (l : List E) (y : XB) : St := stOf Try.f7.ntmps [(0, .val (.int .i64 lim)), (1, .sl none (.recs (.int .i64 (.int .i64 (.int .i64 (.int .i64 (.int .i64 .nil))))) l)), (5, .ptr 2 0), (7, .sl (some (1, 46)) (.recs (.int .i64 (.int .i64 (.int .i64 (.int .i64 (.int .i64 .nil))))) y.c)), (8, .val (.int .i64 y.r)), (9, .val (.int .i64 y.n))] [(1, .tok), (2, .cells 81 [.val (.int .i64 lim), .val (.int .i64 y.d.l0), .val (.int .i64 y.d.c0), .val (.int .i64 y.d.p0), .val (.bool y.d.o0), .val (.int .i64 y.d.l1), .val (.int .i64 y.d.c1), .val (.int .i64 y.d.p1), .val (.bool y.d.o1), .sl none (.recs (.bool (.int .i64 .nil)) y.d.w0), .sl none (.recs (.bool (.int .i64 .nil)) y.d.w1)])] [Any, Any]
def bM (y : XB) : Nat := (y.r - y.n).toNat
def bR (st : St) : XB := ⟨slotI st 9, slotI st 8, slotR st 7, dX st⟩
def tkN (lim s : Int) (d : MS) : MS := if s = 1 then d else if s = 2 then goN lim 1 0 1 d else tk lim d
def cQ (lim : Int) (l : List E) (d0 : MS) (y : XC) : Prop := 1 ≤ y.s ∧ y.s ≤ 3 ∧ y.d = tkN lim y.s d0 ∧ y.d = MeT.runN lim y.c ∧ (y.c.length : Int) < 899 + y.s ∧ J lim y.d ∧ (tot y.d : Int) < l.length + y.s
noncomputable def cI (lim : Int) (l : List E) (r n : Int) (y : XC) : St := stOf Try.f7.ntmps [(0, .val (.int .i64 lim)), (1, .sl none (.recs (.int .i64 (.int .i64 (.int .i64 (.int .i64 (.int .i64 .nil))))) l)), (5, .ptr 2 0), (7, .sl (some (1, 46)) (.recs (.int .i64 (.int .i64 (.int .i64 (.int .i64 (.int .i64 .nil))))) y.c)), (8, .val (.int .i64 r)), (9, .val (.int .i64 n)), (10, .val (.int .i64 y.s))] [(1, .tok), (2, .cells 81 [.val (.int .i64 lim), .val (.int .i64 y.d.l0), .val (.int .i64 y.d.c0), .val (.int .i64 y.d.p0), .val (.bool y.d.o0), .val (.int .i64 y.d.l1), .val (.int .i64 y.d.c1), .val (.int .i64 y.d.p1), .val (.bool y.d.o1), .sl none (.recs (.bool (.int .i64 .nil)) y.d.w0), .sl none (.recs (.bool (.int .i64 .nil)) y.d.w1)])] [Any, Any]
def cM (y : XC) : Nat := (3 - y.s).toNat
def cR (st : St) : XC := ⟨slotI st 10, slotR st 7, dX st⟩
def dQ (lim : Int) (l : List E) (d0 : MS) (y : XD) : Prop := 0 ≤ y.k ∧ y.k ≤ 2 * l.length + 20 ∧ y.d = dls lim y.k.toNat (tk lim d0) ∧ y.d = MeT.runN lim y.c ∧ y.c.length ≤ 902 ∧ J lim y.d ∧ tot y.d ≤ 2 * l.length + 4
noncomputable def dI (lim : Int) (l : List E) (r n : Int) (y : XD) : St := stOf Try.f7.ntmps [(0, .val (.int .i64 lim)), (1, .sl none (.recs (.int .i64 (.int .i64 (.int .i64 (.int .i64 (.int .i64 .nil))))) l)), (5, .ptr 2 0), (7, .sl (some (1, 46)) (.recs (.int .i64 (.int .i64 (.int .i64 (.int .i64 (.int .i64 .nil))))) y.c)), (8, .val (.int .i64 r)), (9, .val (.int .i64 n)), (11, .val (.int .i64 y.k))] [(1, .tok), (2, .cells 81 [.val (.int .i64 lim), .val (.int .i64 y.d.l0), .val (.int .i64 y.d.c0), .val (.int .i64 y.d.p0), .val (.bool y.d.o0), .val (.int .i64 y.d.l1), .val (.int .i64 y.d.c1), .val (.int .i64 y.d.p1), .val (.bool y.d.o1), .sl none (.recs (.bool (.int .i64 .nil)) y.d.w0), .sl none (.recs (.bool (.int .i64 .nil)) y.d.w1)])] [Any, Any]
def dM (l : List E) (y : XD) : Nat := 2 * l.length + 20 - y.k.toNat
def dR (st : St) : XD := ⟨slotI st 11, slotR st 7, dX st⟩
def O3 (k s : Int) : E := [.int k, .int s, .int 0, .int 0, .int 0]
theorem co_tot (lim e : Int) (he : ok1 e) (d : MS) (h : Bool) (p : Int) : tot (coN lim e d h p) ≤ tot d + 1 := by
  unfold coN
  split
  · rcases he with rfl | rfl <;> exact Nat.le_succ _
  · split
    · rcases he with rfl | rfl
      · show d.w0.length + (d.w1 ++ [_]).length ≤ d.w0.length + d.w1.length + 1
        simp; omega
      · show (d.w0 ++ [_]).length + d.w1.length ≤ d.w0.length + d.w1.length + 1
        simp; omega
    · rcases he with rfl | rfl <;> exact Nat.le_succ _
theorem res_len (w : List E) (i : Int) : (res w i).length ≤ w.length := by
  unfold res
  rw [List.length_append, List.length_take, List.length_drop]
  omega
theorem res_lt {w : List E} {i : Int} (h0 : 0 ≤ i) (h : i < w.length) : (res w i).length + 1 = w.length := by
  unfold res
  rw [List.length_append, List.length_take, List.length_drop]
  omega
theorem setW_tot {e : Int} (he : ok1 e) (d : MS) (w : List E) : tot (setW e d w) + (wy e d).length = tot d + w.length := by
  rcases he with rfl | rfl
  · show w.length + d.w1.length + d.w0.length = d.w0.length + d.w1.length + w.length
    omega
  · show d.w0.length + w.length + d.w1.length = d.w0.length + d.w1.length + w.length
    omega
theorem setH_tot {e : Int} (he : ok1 e) (d : MS) (l c p : Int) (o : Bool) : tot (setH e d l c p o) = tot d := by
  rcases he with rfl | rfl <;> rfl
theorem do_tot (lim k n e : Int) (he : ok1 e) (d : MS) : tot (doN lim k n e d) ≤ tot d + 1 := by
  have hr := res_len (wy e d) (modI n (wy e d).length)
  unfold doN
  split
  · split
    · have := setW_tot he d (wy e d ++ [[D.bool true, D.int (en e d).p]])
      simp only [List.length_append, List.length_singleton] at this
      omega
    · omega
  · split
    · rw [setH_tot he]; omega
    · split
      · omega
      · split
        · rename_i g _
          have h1 := modI_lt (n := n) (show (0 : Int) < (wy e d).length by omega)
          have h2 := res_lt h1.1 h1.2
          have h3 := setW_tot he d (res (wy e d) (modI n (wy e d).length))
          have h4 := co_tot lim e he (setW e d (res (wy e d) (modI n (wy e d).length))) (rb (atN (wy e d) n) 0) (ri (atN (wy e d) n) 1)
          omega
        · split
          · have h3 := setW_tot he d (res (wy e d) (modI n (wy e d).length))
            omega
          · split
            · have h3 := setW_tot he d (wy e d ++ [nO (atN (wy e d) n)])
              simp only [List.length_append, List.length_singleton] at h3
              omega
            · have h3 := setW_tot he d (res (wy e d) (modI n (wy e d).length) ++ [nO (atN (wy e d) n)])
              simp only [List.length_append, List.length_singleton] at h3
              omega
theorem go_tot (lim k n a : Int) (d : MS) : tot (goN lim k n a d) ≤ tot d + 1 := by
  unfold goN
  split
  · exact do_tot lim k n 0 (.inl rfl) d
  · split
    · exact do_tot lim k n 1 (.inr rfl) d
    · omega
theorem run_snoc (lim : Int) (c : List E) (k s : Int) : MeT.runN lim (c ++ [O3 k s]) = goN lim k 0 s (MeT.runN lim c) := by
  unfold MeT.runN
  rw [List.foldl_append]
  rfl
theorem j_may {lim : Int} {d : MS} (h : J lim d) (ht : tot d ≤ 1000) : mayN ⟨d.l0, d.c0, d.p0, d.o0, d.l1, d.c1, d.p1, d.o1, d.w0, d.w1⟩ = true := by
  have h0 := may_en h (.inl rfl)
  have h1 := may_en h (.inr rfl)
  have a : (0 ≤ d.l0 ∧ d.l0 ≤ 2147483647) := ⟨h0.1, h0.2.1⟩
  have b : (0 ≤ d.l1 ∧ d.l1 ≤ 2147483647) := ⟨h1.1, h1.2.1⟩
  unfold tot at ht
  unfold mayN cntB
  simp only [Bool.and_eq_true, decide_eq_true_eq]
  omega
theorem tot_pot (d : MS) : tot d ≤ pot d ∧ pot d ≤ 2 * tot d := by
  have h0 := pw_le d.w0
  have h1 := pw_le d.w1
  unfold tot pot
  omega
theorem dls_tot (lim : Int) (d : MS) (k : Nat) : tot (dls lim k d) ≤ 2 * tot d := by
  have h1 := tot_pot d
  have h2 := tot_pot (dls lim k d)
  rcases dls_pot lim d k with h | h
  · unfold emp at h
    unfold tot
    omega
  · omega
theorem inv_all {lim : Int} (hb : limitB lim = true) (c : List E) (hc : c.length ≤ 10000) : ∀ k : Nat, k ≤ c.length → MeT.Inv (runM lim (c.take k)) (MeT.runN lim (c.take k)) ∧ (runM lim (c.take k)).w0.length ≤ 2 * k ∧ (runM lim (c.take k)).w1.length ≤ 2 * k := fun k => by
  induction k with
  | zero => exact fun _ => ⟨begin_inv hb, Nat.le_refl 0, Nat.le_refl 0⟩
  | succ k ih =>
    intro hk
    obtain ⟨h1, h2, h3⟩ := ih (by omega)
    have e1 := MeM.run_next lim c (k : Int) (by omega) (by omega)
    have e2 := MeT.runN_next lim c (k : Int) (by omega) (by omega)
    rw [show ((k : Int) + 1).toNat = k + 1 by omega, Int.toNat_natCast] at e1 e2
    rw [e1, e2]
    refine ⟨(go_inv hb h1 (by omega) _).1, ?_⟩
    have hw := MeM.do_w lim (ri (c.getD k []) 0) (ri (c.getD k []) 3) (ri (c.getD k []) 1 - 1) (runM lim (c.take k))
    unfold MeM.stM
    split <;> omega
theorem fin_all {lim : Int} (hb : limitB lim = true) {c : List E} (hc : c.length ≤ 1000) {n : Nat} {d : MS} (hd : d = MeT.runN lim c) (hn : 3 ≤ n) (hs : stage lim n d) : mtE lim c = 0 ∧ ((mtM lim c).o0 = true ∨ (mtM lim c).o1 = true ∨ (mtM lim c).c0 ≠ 0 ∧ (mtM lim c).c0 = (mtM lim c).c1) := by
  have hi := (inv_all hb c (by omega) c.length (Nat.le_refl _)).1
  rw [List.take_length, ← hd] at hi
  have h0 : (⟨(runM lim c).l0, (runM lim c).c0, (runM lim c).p0, (runM lim c).o0⟩ : HN) = ⟨d.l0, d.c0, d.p0, d.o0⟩ := (hi 0 (.inl rfl)).1
  have h1 : (⟨(runM lim c).l1, (runM lim c).c1, (runM lim c).p1, (runM lim c).o1⟩ : HN) = ⟨d.l1, d.c1, d.p1, d.o1⟩ := (hi 1 (.inr rfl)).1
  simp only [HN.mk.injEq] at h0 h1
  have e : mtM lim c = runM lim c := if_pos ⟨hb, hc⟩
  refine ⟨?_, ?_⟩
  · unfold mtE
    rw [hb, if_neg (by decide), if_neg (by omega)]
  · rw [e, h0.2.2.2, h1.2.2.2, h0.2.1, h1.2.1]
    rcases hs.2.2.2 hn with (g | g) | g
    · exact .inl g
    · exact .inr (.inl g)
    · exact .inr (.inr g)
theorem a_zero {lim : Int} (hb : limitB lim = true) (l : List E) : aQ lim l ⟨0, n00 lim⟩ := ⟨Int.le_refl 0, Int.natCast_nonneg _, rfl, j_begin hb, Int.le_refl 0⟩
theorem a_all {lim : Int} {l : List E} (hl : l.length ≤ 100) (hb : limitB lim = true) {i : Int} {d : MS} (hq : aQ lim l ⟨i, d⟩) : 0 ≤ i ∧ i ≤ l.length ∧ mayN ⟨d.l0, d.c0, d.p0, d.o0, d.l1, d.c1, d.p1, d.o1, d.w0, d.w1⟩ = true ∧ d.w0.length ≤ 100 ∧ d.w1.length ≤ 100 ∧ (i < l.length → stdBin .add .i64 i 1 = i + 1 ∧ (∀ e, aM l ⟨i + 1, e⟩ < aM l ⟨i, d⟩) ∧ aQ lim l ⟨i + 1, ⟨(goN lim (ri (l.getD i.toNat []) 0) (ri (l.getD i.toNat []) 3) (ri (l.getD i.toNat []) 1) d).l0, (goN lim (ri (l.getD i.toNat []) 0) (ri (l.getD i.toNat []) 3) (ri (l.getD i.toNat []) 1) d).c0, (goN lim (ri (l.getD i.toNat []) 0) (ri (l.getD i.toNat []) 3) (ri (l.getD i.toNat []) 1) d).p0, (goN lim (ri (l.getD i.toNat []) 0) (ri (l.getD i.toNat []) 3) (ri (l.getD i.toNat []) 1) d).o0, (goN lim (ri (l.getD i.toNat []) 0) (ri (l.getD i.toNat []) 3) (ri (l.getD i.toNat []) 1) d).l1, (goN lim (ri (l.getD i.toNat []) 0) (ri (l.getD i.toNat []) 3) (ri (l.getD i.toNat []) 1) d).c1, (goN lim (ri (l.getD i.toNat []) 0) (ri (l.getD i.toNat []) 3) (ri (l.getD i.toNat []) 1) d).p1, (goN lim (ri (l.getD i.toNat []) 0) (ri (l.getD i.toNat []) 3) (ri (l.getD i.toNat []) 1) d).o1, (goN lim (ri (l.getD i.toNat []) 0) (ri (l.getD i.toNat []) 3) (ri (l.getD i.toNat []) 1) d).w0, (goN lim (ri (l.getD i.toNat []) 0) (ri (l.getD i.toNat []) 3) (ri (l.getD i.toNat []) 1) d).w1⟩⟩) ∧ (¬ i < l.length → stdBin .add .i64 (stdBin .add .i64 d.w0.length d.w1.length) 3 = d.w0.length + d.w1.length + 3 ∧ bQ lim l ⟨0, d.w0.length + d.w1.length + 3, l, ⟨d.l0, d.c0, d.p0, d.o0, d.l1, d.c1, d.p1, d.o1, d.w0, d.w1⟩⟩) := by
  obtain ⟨h0, h1, h2, h3, h4⟩ := hq
  simp only at h0 h1 h2 h3 h4
  have ht : d.w0.length + d.w1.length = tot d := rfl
  refine ⟨h0, h1, j_may h3 (by omega), by omega, by omega, fun h => ⟨by rw [b_add, wr _ (by omega) (by omega)], fun _ => by simp only [aM]; omega, by simp only; omega, by simp only; omega, ?_, j_go hb h3 _ _ _, ?_⟩, fun h => ⟨?_, Int.le_refl 0, by simp only; omega, by simp only; omega, ?_, by simp only; omega, ⟨h3, fun g => absurd (show 1 ≤ (0 : Nat) from g) (by decide), fun g => absurd (show 2 ≤ (0 : Nat) from g) (by decide), fun g => absurd (show 3 ≤ (0 : Nat) from g) (by decide)⟩, ?_⟩⟩
  · have hn := MeT.runN_next lim l i h0 h
    rw [← h2] at hn
    exact hn.symm
  · have := go_tot lim (ri (l.getD i.toNat []) 0) (ri (l.getD i.toNat []) 3) (ri (l.getD i.toNat []) 1) d
    show (tot (goN lim _ _ _ d) : Int) ≤ i + 1
    omega
  · have e1 : stdBin .add .i64 (d.w0.length : Int) d.w1.length = d.w0.length + d.w1.length := by rw [b_add, wr _ (by omega) (by omega)]
    rw [e1, b_add, wr _ (by omega) (by omega)]
  · show d = MeT.runN lim l
    rw [h2, List.take_of_length_le (by omega)]
  · show tot d ≤ l.length
    omega
theorem b_all {lim : Int} {l : List E} (hb : limitB lim = true) {n r : Int} {c : List E} {d : MS} (hq : bQ lim l ⟨n, r, c, d⟩) : 0 ≤ n ∧ (n < r → cQ lim l d ⟨1, c, ⟨d.l0, d.c0, d.p0, d.o0, d.l1, d.c1, d.p1, d.o1, d.w0, d.w1⟩⟩) ∧ (¬ n < r → c.length ≤ 1000 ∧ mtE lim c = 0 ∧ ((mtM lim c).o0 = true ∨ (mtM lim c).o1 = true ∨ (mtM lim c).c0 ≠ 0 ∧ (mtM lim c).c0 = (mtM lim c).c1)) := by
  obtain ⟨h0, h1, h2, h3, h4, h5, h6⟩ := hq
  simp only at h0 h1 h2 h3 h4 h5 h6
  refine ⟨h0, fun _ => ⟨Int.le_refl 1, show (1 : Int) ≤ 3 by decide, rfl, h3, by simp only; omega, h5.1, ?_⟩, fun h => ⟨by omega, fin_all hb (by omega) h3 (by omega) h5⟩⟩
  show (tot d : Int) < l.length + 1
  omega
theorem c_all {lim : Int} {l : List E} (hl : l.length ≤ 100) (hb : limitB lim = true) {d0 : MS} {s : Int} {c : List E} {d : MS} (hq : cQ lim l d0 ⟨s, c, d⟩) : 1 ≤ s ∧ s ≤ 3 ∧ mayN ⟨d.l0, d.c0, d.p0, d.o0, d.l1, d.c1, d.p1, d.o1, d.w0, d.w1⟩ = true ∧ c.length ≤ 902 ∧ d.w0.length ≤ 200 ∧ d.w1.length ≤ 200 ∧ (s ≤ 2 → stdBin .add .i64 s 1 = s + 1 ∧ (∀ c' d', cM ⟨s + 1, c', d'⟩ < cM ⟨s, c, d⟩) ∧ cQ lim l d0 ⟨s + 1, c ++ [O3 1 s], ⟨(goN lim 1 0 s d).l0, (goN lim 1 0 s d).c0, (goN lim 1 0 s d).p0, (goN lim 1 0 s d).o0, (goN lim 1 0 s d).l1, (goN lim 1 0 s d).c1, (goN lim 1 0 s d).p1, (goN lim 1 0 s d).o1, (goN lim 1 0 s d).w0, (goN lim 1 0 s d).w1⟩⟩) ∧ (¬ s ≤ 2 → dQ lim l d0 ⟨0, c, ⟨d.l0, d.c0, d.p0, d.o0, d.l1, d.c1, d.p1, d.o1, d.w0, d.w1⟩⟩) := by
  obtain ⟨h0, h1, h2, h3, h4, h5, h6⟩ := hq
  simp only at h0 h1 h2 h3 h4 h5 h6
  have ht : d.w0.length + d.w1.length = tot d := rfl
  refine ⟨h0, h1, j_may h5 (by omega), by omega, by omega, by omega, fun h => ⟨by rw [b_add, wr _ (by omega) (by omega)], fun _ _ => by simp only [cM]; omega, by simp only; omega, by simp only; omega, ?_, ?_, ?_, j_go hb h5 _ _ _, ?_⟩, fun h => ⟨Int.le_refl 0, by simp only; omega, ?_, h3, by simp only; omega, h5, ?_⟩⟩
  · show goN lim 1 0 s d = tkN lim (s + 1) d0
    rw [h2]
    have e : s = 1 ∨ s = 2 := by omega
    rcases e with rfl | rfl <;> rfl
  · show goN lim 1 0 s d = _
    rw [run_snoc, h3]
  · simp only [List.length_append, List.length_singleton]
    omega
  · have := go_tot lim 1 0 s d
    show (tot (goN lim 1 0 s d) : Int) < l.length + (s + 1)
    omega
  · show d = dls lim 0 (tk lim d0)
    have e : s = 3 := by omega
    rw [h2, e]
    rfl
  · show tot d ≤ _
    omega
theorem d_all {lim : Int} {l : List E} (hl : l.length ≤ 100) (hb : limitB lim = true) {r n : Int} {c0 : List E} {d0 : MS} (hb0 : bQ lim l ⟨n, r, c0, d0⟩) {k : Int} {c : List E} {d : MS} (hq : dQ lim l d0 ⟨k, c, d⟩) : 0 ≤ k ∧ mayN ⟨d.l0, d.c0, d.p0, d.o0, d.l1, d.c1, d.p1, d.o1, d.w0, d.w1⟩ = true ∧ c.length ≤ 902 ∧ d.w0.length ≤ 1000 ∧ d.w1.length ≤ 1000 ∧ stdBin .mul .i64 2 l.length = 2 * l.length ∧ stdBin .add .i64 (2 * l.length) 20 = 2 * l.length + 20 ∧ stdBin .add .i64 d.w0.length d.w1.length = d.w0.length + d.w1.length ∧ (k < 2 * l.length + 20 → 0 < (d.w0.length : Int) + d.w1.length → (c.length : Int) < 900 → stdBin .add .i64 k 1 = k + 1 ∧ (∀ c' d', dM l ⟨k + 1, c', d'⟩ < dM l ⟨k, c, d⟩) ∧ (d.w0.length = 0 → dQ lim l d0 ⟨k + 1, c ++ [O3 2 2], ⟨(goN lim 2 0 2 d).l0, (goN lim 2 0 2 d).c0, (goN lim 2 0 2 d).p0, (goN lim 2 0 2 d).o0, (goN lim 2 0 2 d).l1, (goN lim 2 0 2 d).c1, (goN lim 2 0 2 d).p1, (goN lim 2 0 2 d).o1, (goN lim 2 0 2 d).w0, (goN lim 2 0 2 d).w1⟩⟩) ∧ (¬ d.w0.length = 0 → dQ lim l d0 ⟨k + 1, c ++ [O3 2 1], ⟨(goN lim 2 0 1 d).l0, (goN lim 2 0 1 d).c0, (goN lim 2 0 1 d).p0, (goN lim 2 0 1 d).o0, (goN lim 2 0 1 d).l1, (goN lim 2 0 1 d).c1, (goN lim 2 0 1 d).p1, (goN lim 2 0 1 d).o1, (goN lim 2 0 1 d).w0, (goN lim 2 0 1 d).w1⟩⟩)) ∧ (¬ (k < 2 * l.length + 20 ∧ 0 < (d.w0.length : Int) + d.w1.length) → (c.length : Int) < 900 → n < r → stdBin .add .i64 n 1 = n + 1 ∧ (∀ c' d', bM ⟨n + 1, r, c', d'⟩ < bM ⟨n, r, c0, d0⟩) ∧ bQ lim l ⟨n + 1, r, c, ⟨d.l0, d.c0, d.p0, d.o0, d.l1, d.c1, d.p1, d.o1, d.w0, d.w1⟩⟩) := by
  obtain ⟨h0, h1, h2, h3, h4, h5, h6⟩ := hq
  obtain ⟨g0, g1, g2, _, _, g5, g6⟩ := hb0
  simp only at h0 h1 h2 h3 h4 h5 h6 g0 g1 g2 g5 g6
  have ht : d.w0.length + d.w1.length = tot d := rfl
  have a1 := go_tot lim 1 0 1 d0
  have a2 := go_tot lim 1 0 2 (goN lim 1 0 1 d0)
  have a3 : tot (tk lim d0) ≤ l.length + 2 := by
    show tot (goN lim 1 0 2 (goN lim 1 0 1 d0)) ≤ _
    omega
  have hk : (k + 1).toNat = k.toNat + 1 := by omega
  have hd : dls lim (k + 1).toNat (tk lim d0) = dl lim d := by
    rw [hk, h2]
    rfl
  have ht2 : tot (dl lim d) ≤ 2 * l.length + 4 := by
    rw [← hd]
    have := dls_tot lim (tk lim d0) (k + 1).toNat
    omega
  have hj := j_dl hb h5
  refine ⟨h0, j_may h5 (by omega), h4, by omega, by omega, by rw [b_mul, wr _ (by omega) (by omega)], by rw [b_add, wr _ (by omega) (by omega)], by rw [b_add, wr _ (by omega) (by omega)], fun q1 q2 q3 => ⟨by rw [b_add, wr _ (by omega) (by omega)], fun _ _ => by simp only [dM]; omega, fun w => ?_, fun w => ?_⟩, fun q1 q2 q3 => ⟨by rw [b_add, wr _ (by omega) (by omega)], fun _ _ => by simp only [bM]; omega, by simp only; omega, g1, g2, h3, by simp only; omega, ?_, ?_⟩⟩
  · have e : dl lim d = goN lim 2 0 2 d := if_pos w
    rw [e] at hd hj ht2
    refine ⟨by simp only; omega, by simp only; omega, hd.symm, ?_, by simp; omega, hj, ht2⟩
    show goN lim 2 0 2 d = _
    rw [run_snoc, h3]
  · have e : dl lim d = goN lim 2 0 1 d := if_neg w
    rw [e] at hd hj ht2
    refine ⟨by simp only; omega, by simp only; omega, hd.symm, ?_, by simp; omega, hj, ht2⟩
    show goN lim 2 0 1 d = _
    rw [run_snoc, h3]
  · have hp : pot (tk lim d0) ≤ 2 * l.length + 20 := by
      have := (tot_pot (tk lim d0)).2
      omega
    have hs := stage_next hb (n := 2 * l.length + 20) g5 (by omega) hp
    have e : rnd lim (2 * l.length + 20) d0 = d := by
      show dls lim (2 * l.length + 20) (tk lim d0) = d
      by_cases w : k < 2 * l.length + 20
      · have he : emp d := by
          unfold emp
          omega
        rw [h2] at he ⊢
        exact dls_e _ he _ (by omega)
      · rw [h2]
        congr 1
        omega
    rw [e] at hs
    show stage lim (n + 1).toNat d
    rw [show (n + 1).toNat = n.toNat + 1 by omega]
    exact hs
  · show tot d ≤ l.length
    by_cases w : k < 2 * l.length + 20
    · omega
    · have hp : pot (tk lim d0) ≤ k.toNat := by
        have := (tot_pot (tk lim d0)).2
        omega
      have he := dls_emp (lim := lim) hp
      rw [← h2] at he
      unfold emp at he
      unfold tot
      omega
end Go.Proofs.Ytgemoemkgcmcgaa.MeC
