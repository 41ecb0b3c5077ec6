/-
  HandMeets: for every input the call tells true, and nothing that was there turns. No condition.
-/
import Derived.Test.YtgemoemkgcmcgaaRows
import Derived.Test.YtgemoemkgcmcgaaLaw
import Derived.Test.YtgemoemkgcmcgaaRyIn
import Derived.Test.YtgemoemkgcmcgaaRyZ
import Derived.Test.YtgemoemkgcmcgaaRyOp
import Derived.Test.YtgemoemkgcmcgaaMeB
namespace Go.Proofs.Ytgemoemkgcmcgaa.HandMeets
open Go Go.Proofs.Ytgemoemkgcmcgaa.Ry Go.Proofs.Ytgemoemkgcmcgaa.Law Go.Proofs.Ytgemoemkgcmcgaa.MeB Go.Proofs.Ytgemoemkgcmcgaa.HaR Go.Proofs.Ytgemoemkgcmcgaa.BwS Go.Proofs.Ytgemoemkgcmcgaa.MeR Go.Proofs.Ytgemoemkgcmcgaa.MeM Go.Proofs.Ytgemoemkgcmcgaa.MeQ Go.Proofs.Ytgemoemkgcmcgaa.MeT
open Go.ChangeShapes Go.WideShapes Go.ChangeAt Go.Joins Go.RowKit
structure XH where
  i : Int
  d : MS
def hQ (lim : Int) (l : List E) (y : XH) : Prop := 0 ≤ y.i ∧ y.i ≤ l.length ∧ y.d = MeT.runN lim (l.take y.i.toNat) ∧ Inv (runM lim (l.take y.i.toNat)) y.d ∧ y.d.w0.length + y.d.w1.length ≤ 500
noncomputable def hI (G : MeM.Mm) (lim : Int) (l : List E) (y : XH) : St := stOf Try.f6.ntmps [(0, .val (.int .i64 lim)), (1, .sl none (.recs (.int .i64 (.int .i64 (.int .i64 (.int .i64 (.int .i64 .nil))))) l)), (5, .ptr 1 0), (6, .ptr 2 0), (7, .val (.int .i64 (G.m_e lim l))), (8, .ptr 3 0), (9, .val (.int .i64 y.i))] [(1, .cells 25 [.val (.int .i64 (G.m_run lim l).l0), .val (.int .i64 (G.m_run lim l).c0), .val (.int .i64 (G.m_run lim l).p0), .val (.bool (G.m_run lim l).o0)]), (2, .cells 25 [.val (.int .i64 (G.m_run lim l).l1), .val (.int .i64 (G.m_run lim l).c1), .val (.int .i64 (G.m_run lim l).p1), .val (.bool (G.m_run lim l).o1)]), (3, .cells 81 [.val (.int .i64 lim), .val (.int .i64 y.d.l0), .val (.int .i64 y.d.c0), .val (.int .i64 y.d.p0), .val (.bool y.d.o0), .val (.int .i64 y.d.l1), .val (.int .i64 y.d.c1), .val (.int .i64 y.d.p1), .val (.bool y.d.o1), .sl none (.recs (.bool (.int .i64 .nil)) y.d.w0), .sl none (.recs (.bool (.int .i64 .nil)) y.d.w1)])] [Any, Any]
def hM (l : List E) (y : XH) : Nat := l.length - y.i.toNat
def wayH (st : St) (j : Nat) : List E := ctR (match cellC st 8 j with | .sl _ c => c | _ => .recs .nil [])
def hR (st : St) : XH := ⟨slotI st 9, ⟨valI (cellC st 8 1), valI (cellC st 8 2), valI (cellC st 8 3), valB (cellC st 8 4), valI (cellC st 8 5), valI (cellC st 8 6), valI (cellC st 8 7), valB (cellC st 8 8), wayH st 9, wayH st 10⟩⟩
structure XJ where
  k : Nat
def jQ (y : XJ) : Prop := y.k ≤ 2
def jM (y : XJ) : Nat := 2 - y.k
noncomputable def jI (G : MeM.Mm) (lim : Int) (l : List E) (i : Int) (b q : MS) (y : XJ) : St := match y.k with
  | 0 => stOf Try.f6.ntmps [(0, .val (.int .i64 lim)), (1, .sl none (.recs (.int .i64 (.int .i64 (.int .i64 (.int .i64 (.int .i64 .nil))))) l)), (5, .ptr 1 0), (6, .ptr 2 0), (7, .val (.int .i64 (G.m_e lim l))), (8, .ptr 3 0), (9, .val (.int .i64 i)), (10, .ptr 4 0), (11, .num .i64 0)] [(1, .cells 25 [.val (.int .i64 (G.m_run lim l).l0), .val (.int .i64 (G.m_run lim l).c0), .val (.int .i64 (G.m_run lim l).p0), .val (.bool (G.m_run lim l).o0)]), (2, .cells 25 [.val (.int .i64 (G.m_run lim l).l1), .val (.int .i64 (G.m_run lim l).c1), .val (.int .i64 (G.m_run lim l).p1), .val (.bool (G.m_run lim l).o1)]), (3, .cells 81 [.val (.int .i64 lim), .val (.int .i64 q.l0), .val (.int .i64 q.c0), .val (.int .i64 q.p0), .val (.bool q.o0), .val (.int .i64 q.l1), .val (.int .i64 q.c1), .val (.int .i64 q.p1), .val (.bool q.o1), .sl none (.recs (.bool (.int .i64 .nil)) q.w0), .sl none (.recs (.bool (.int .i64 .nil)) q.w1)]), (4, .cells 77 [.val (.int .i64 b.l0), .val (.int .i64 b.c0), .val (.int .i64 b.p0), .val (.bool b.o0), .val (.int .i64 b.l1), .val (.int .i64 b.c1), .val (.int .i64 b.p1), .val (.bool b.o1)])] [Any, Any]
  | 1 => stOf Try.f6.ntmps [(0, .val (.int .i64 lim)), (1, .sl none (.recs (.int .i64 (.int .i64 (.int .i64 (.int .i64 (.int .i64 .nil))))) l)), (5, .ptr 1 0), (6, .ptr 2 0), (7, .val (.int .i64 (G.m_e lim l))), (8, .ptr 3 0), (9, .val (.int .i64 i)), (10, .ptr 4 0), (11, .num .i64 1)] [(1, .cells 25 [.val (.int .i64 (G.m_run lim l).l0), .val (.int .i64 (G.m_run lim l).c0), .val (.int .i64 (G.m_run lim l).p0), .val (.bool (G.m_run lim l).o0)]), (2, .cells 25 [.val (.int .i64 (G.m_run lim l).l1), .val (.int .i64 (G.m_run lim l).c1), .val (.int .i64 (G.m_run lim l).p1), .val (.bool (G.m_run lim l).o1)]), (3, .cells 81 [.val (.int .i64 lim), .val (.int .i64 q.l0), .val (.int .i64 q.c0), .val (.int .i64 q.p0), .val (.bool q.o0), .val (.int .i64 q.l1), .val (.int .i64 q.c1), .val (.int .i64 q.p1), .val (.bool q.o1), .sl none (.recs (.bool (.int .i64 .nil)) q.w0), .sl none (.recs (.bool (.int .i64 .nil)) q.w1)]), (4, .cells 77 [.val (.int .i64 b.l0), .val (.int .i64 b.c0), .val (.int .i64 b.p0), .val (.bool b.o0), .val (.int .i64 b.l1), .val (.int .i64 b.c1), .val (.int .i64 b.p1), .val (.bool b.o1)])] [Any, Any]
  | _ => stOf Try.f6.ntmps [(0, .val (.int .i64 lim)), (1, .sl none (.recs (.int .i64 (.int .i64 (.int .i64 (.int .i64 (.int .i64 .nil))))) l)), (5, .ptr 1 0), (6, .ptr 2 0), (7, .val (.int .i64 (G.m_e lim l))), (8, .ptr 3 0), (9, .val (.int .i64 i)), (10, .ptr 4 0), (11, .num .i64 2)] [(1, .cells 25 [.val (.int .i64 (G.m_run lim l).l0), .val (.int .i64 (G.m_run lim l).c0), .val (.int .i64 (G.m_run lim l).p0), .val (.bool (G.m_run lim l).o0)]), (2, .cells 25 [.val (.int .i64 (G.m_run lim l).l1), .val (.int .i64 (G.m_run lim l).c1), .val (.int .i64 (G.m_run lim l).p1), .val (.bool (G.m_run lim l).o1)]), (3, .cells 81 [.val (.int .i64 lim), .val (.int .i64 q.l0), .val (.int .i64 q.c0), .val (.int .i64 q.p0), .val (.bool q.o0), .val (.int .i64 q.l1), .val (.int .i64 q.c1), .val (.int .i64 q.p1), .val (.bool q.o1), .sl none (.recs (.bool (.int .i64 .nil)) q.w0), .sl none (.recs (.bool (.int .i64 .nil)) q.w1)]), (4, .cells 77 [.val (.int .i64 b.l0), .val (.int .i64 b.c0), .val (.int .i64 b.p0), .val (.bool b.o0), .val (.int .i64 b.l1), .val (.int .i64 b.c1), .val (.int .i64 b.p1), .val (.bool b.o1)])] [Any, Any]
def jR (st : St) : XJ := ⟨match slotC st 11 with | .num _ n => n.toNat | _ => 3⟩
theorem inv_len {d d' : MS} (h : Inv d d') : d.w0.length = d'.w0.length ∧ d.w1.length = d'.w1.length := by
  have h0 := (h 0 (.inl rfl)).2.1
  have h1 := (h 1 (.inr rfl)).2.1
  have h0 : d'.w0 = d.w0.map cv := h0
  have h1 : d'.w1 = d.w1.map cv := h1
  rw [h0, h1, List.length_map, List.length_map]
  exact ⟨rfl, rfl⟩
theorem inv_ends {d d' : MS} (h : Inv d d') : d.l0 = d'.l0 ∧ d.c0 = d'.c0 ∧ d.p0 = d'.p0 ∧ d.o0 = d'.o0 ∧ d.l1 = d'.l1 ∧ d.c1 = d'.c1 ∧ d.p1 = d'.p1 ∧ d.o1 = d'.o1 := by
  have h0 : (⟨d.l0, d.c0, d.p0, d.o0⟩ : HN) = ⟨d'.l0, d'.c0, d'.p0, d'.o0⟩ := (h 0 (.inl rfl)).1
  have h1 : (⟨d.l1, d.c1, d.p1, d.o1⟩ : HN) = ⟨d'.l1, d'.c1, d'.p1, d'.o1⟩ := (h 1 (.inr rfl)).1
  simp only [HN.mk.injEq] at h0 h1
  exact ⟨h0.1, h0.2.1, h0.2.2.1, h0.2.2.2, h1.1, h1.2.1, h1.2.2.1, h1.2.2.2⟩
theorem h_zero {lim : Int} (hb : limitB lim = true) (l : List E) : hQ lim l ⟨0, n00 lim⟩ := ⟨Int.le_refl 0, Int.natCast_nonneg _, rfl, begin_inv hb, by show 0 + 0 ≤ 500; omega⟩
theorem h_all {lim : Int} {l : List E} (hl : l.length ≤ 1000) (hb : limitB lim = true) {i : Int} {d : MS} (hq : hQ lim l ⟨i, d⟩) : 0 ≤ i ∧ i ≤ l.length ∧ mayN ⟨d.l0, d.c0, d.p0, d.o0, d.l1, d.c1, d.p1, d.o1, d.w0, d.w1⟩ = true ∧ d.w0.length + d.w1.length ≤ 500 ∧ (i < l.length → stdBin .add .i64 i 1 = i + 1 ∧ (∀ e, hM l ⟨i + 1, e⟩ < hM l ⟨i, d⟩) ∧ (goN lim (ri (l.getD i.toNat []) 0) (ri (l.getD i.toNat []) 3) (ri (l.getD i.toNat []) 1) d).w0.length ≤ 10000 ∧ (goN lim (ri (l.getD i.toNat []) 0) (ri (l.getD i.toNat []) 3) (ri (l.getD i.toNat []) 1) d).w1.length ≤ 10000 ∧ ((goN lim (ri (l.getD i.toNat []) 0) (ri (l.getD i.toNat []) 3) (ri (l.getD i.toNat []) 1) d).w0.length + (goN lim (ri (l.getD i.toNat []) 0) (ri (l.getD i.toNat []) 3) (ri (l.getD i.toNat []) 1) d).w1.length ≤ 500 → hQ lim l ⟨i + 1, ⟨(goN lim (ri (l.getD i.toNat []) 0) (ri (l.getD i.toNat []) 3) (ri (l.getD i.toNat []) 1) d).l0, (goN lim (ri (l.getD i.toNat []) 0) (ri (l.getD i.toNat []) 3) (ri (l.getD i.toNat []) 1) d).c0, (goN lim (ri (l.getD i.toNat []) 0) (ri (l.getD i.toNat []) 3) (ri (l.getD i.toNat []) 1) d).p0, (goN lim (ri (l.getD i.toNat []) 0) (ri (l.getD i.toNat []) 3) (ri (l.getD i.toNat []) 1) d).o0, (goN lim (ri (l.getD i.toNat []) 0) (ri (l.getD i.toNat []) 3) (ri (l.getD i.toNat []) 1) d).l1, (goN lim (ri (l.getD i.toNat []) 0) (ri (l.getD i.toNat []) 3) (ri (l.getD i.toNat []) 1) d).c1, (goN lim (ri (l.getD i.toNat []) 0) (ri (l.getD i.toNat []) 3) (ri (l.getD i.toNat []) 1) d).p1, (goN lim (ri (l.getD i.toNat []) 0) (ri (l.getD i.toNat []) 3) (ri (l.getD i.toNat []) 1) d).o1, (goN lim (ri (l.getD i.toNat []) 0) (ri (l.getD i.toNat []) 3) (ri (l.getD i.toNat []) 1) d).w0, (goN lim (ri (l.getD i.toNat []) 0) (ri (l.getD i.toNat []) 3) (ri (l.getD i.toNat []) 1) d).w1⟩⟩) ∧ ((goN lim (ri (l.getD i.toNat []) 0) (ri (l.getD i.toNat []) 3) (ri (l.getD i.toNat []) 1) d).c0 ≠ 0 → d.c0 ≠ (goN lim (ri (l.getD i.toNat []) 0) (ri (l.getD i.toNat []) 3) (ri (l.getD i.toNat []) 1) d).c0 → d.l0 < (goN lim (ri (l.getD i.toNat []) 0) (ri (l.getD i.toNat []) 3) (ri (l.getD i.toNat []) 1) d).c0) ∧ ((goN lim (ri (l.getD i.toNat []) 0) (ri (l.getD i.toNat []) 3) (ri (l.getD i.toNat []) 1) d).c1 ≠ 0 → d.c1 ≠ (goN lim (ri (l.getD i.toNat []) 0) (ri (l.getD i.toNat []) 3) (ri (l.getD i.toNat []) 1) d).c1 → d.l1 < (goN lim (ri (l.getD i.toNat []) 0) (ri (l.getD i.toNat []) 3) (ri (l.getD i.toNat []) 1) d).c1)) ∧ (¬ i < l.length → mtE lim l = 0 ∧ (mtM lim l).l0 = d.l0 ∧ (mtM lim l).c0 = d.c0 ∧ (mtM lim l).p0 = d.p0 ∧ (mtM lim l).o0 = d.o0 ∧ (mtM lim l).l1 = d.l1 ∧ (mtM lim l).c1 = d.c1 ∧ (mtM lim l).p1 = d.p1 ∧ (mtM lim l).o1 = d.o1) := by
  obtain ⟨h0, h1, h2, h3, h4⟩ := hq
  simp only at h0 h1 h2 h3 h4
  have le := inv_len h3
  have ee := inv_ends h3
  have m0 : mayH (runM lim (l.take i.toNat)).l0 (runM lim (l.take i.toNat)).c0 (runM lim (l.take i.toNat)).p0 (runM lim (l.take i.toNat)).o0 = true := (h3 0 (.inl rfl)).2.2
  have m1 : mayH (runM lim (l.take i.toNat)).l1 (runM lim (l.take i.toNat)).c1 (runM lim (l.take i.toNat)).p1 (runM lim (l.take i.toNat)).o1 = true := (h3 1 (.inr rfl)).2.2
  have k0 := may_is m0
  have k1 := may_is m1
  refine ⟨h0, h1, ?_, h4, fun h => ?_, fun h => ?_⟩
  · unfold mayN cntB
    simp only [Bool.and_eq_true, decide_eq_true_eq]
    omega
  · have hn := runN_next lim l i h0 h
    have hm := MeM.run_next lim l i h0 h
    rw [← h2] at hn
    obtain ⟨i1, i2⟩ := go_inv hb h3 (by omega) (l.getD i.toNat [])
    have hw : (MeM.stM lim (l.getD i.toNat []) (runM lim (l.take i.toNat))).w0.length ≤ 510 ∧ (MeM.stM lim (l.getD i.toNat []) (runM lim (l.take i.toNat))).w1.length ≤ 510 := by
      have hw := MeM.do_w lim (ri (l.getD i.toNat []) 0) (ri (l.getD i.toNat []) 3) (ri (l.getD i.toNat []) 1 - 1) (runM lim (l.take i.toNat))
      unfold MeM.stM
      split <;> omega
    have le2 := inv_len i1
    have ee2 := inv_ends i1
    have n0 : (MeM.stM lim (l.getD i.toNat []) (runM lim (l.take i.toNat))).c0 ≠ 0 → (runM lim (l.take i.toNat)).c0 ≠ (MeM.stM lim (l.getD i.toNat []) (runM lim (l.take i.toNat))).c0 → (runM lim (l.take i.toNat)).l0 < (MeM.stM lim (l.getD i.toNat []) (runM lim (l.take i.toNat))).c0 := i2 0 (.inl rfl)
    have n1 : (MeM.stM lim (l.getD i.toNat []) (runM lim (l.take i.toNat))).c1 ≠ 0 → (runM lim (l.take i.toNat)).c1 ≠ (MeM.stM lim (l.getD i.toNat []) (runM lim (l.take i.toNat))).c1 → (runM lim (l.take i.toNat)).l1 < (MeM.stM lim (l.getD i.toNat []) (runM lim (l.take i.toNat))).c1 := i2 1 (.inr rfl)
    refine ⟨by rw [b_add, wr _ (by omega) (by omega)], fun e => by simp only [hM]; omega, by omega, by omega, fun g => ⟨by simp only; omega, by simp only; omega, hn.symm, ?_, g⟩, ?_, ?_⟩
    · show Inv (runM lim (l.take (i + 1).toNat)) _
      rw [hm]
      exact i1
    · rw [← ee2.2.1, ← ee.2.1, ← ee.1]
      exact n0
    · rw [← ee2.2.2.2.2.2.1, ← ee.2.2.2.2.2.1, ← ee.2.2.2.2.1]
      exact n1
  · rw [List.take_of_length_le (by omega)] at ee
    have e : mtM lim l = runM lim l := if_pos ⟨hb, hl⟩
    rw [e]
    refine ⟨?_, ee⟩
    unfold mtE
    rw [hb, if_neg (by decide), if_neg (by omega)]
set_option maxHeartbeats 4000000 in
set_option cbv.maxSteps 4000000 in
set_option maxRecDepth 100000 in
theorem x_law (a0 : Int) (a1 : List E) (_ : sized [.one (.val (.int .i64 a0)), .one (.sl none (.recs (.int .i64 (.int .i64 (.int .i64 (.int .i64 (.int .i64 .nil))))) a1))]) : Does [(28, c_meet MeM.Mm.std), (29, c_rlimit HaR.Fs.std), (30, c_hawake Mb.std), (31, c_rbegin Mb.std), (32, c_rdo MeQ.Mq.std)] Try.f6 [.one (.val (.int .i64 a0)), .one (.sl none (.recs (.int .i64 (.int .i64 (.int .i64 (.int .i64 (.int .i64 .nil))))) a1))] [] ⟨True, .sa (B true), [], [Any, Any]⟩ := by
  intro b gv
  have hfs := (FsOk.cons ok_meet (FsOk.cons ok_rlimit (FsOk.cons ok_hawake (FsOk.cons ok_rbegin (FsOk.cons ok_rdo FsOk.nil rfl) rfl) rfl) rfl) rfl)
  generalize hF : MeB.Mb.std = F at hfs ⊢
  generalize hG0 : HaR.Fs.std = G0 at hfs ⊢
  generalize hG1 : MeM.Mm.std = G1 at hfs ⊢
  generalize hG2 : MeQ.Mq.std = G2 at hfs ⊢
  generalize hA : Ar.std = A
  generalize hL : Lp _ _ _ = L
  obtain ⟨Z, zq⟩ := z_all
  refine cd_open (lp_mono hL) zq rfl ?_
  repeat' (first
    | (refine z_open zq ?_; try dsimp only)
    | refine cd_seq zq ?_ (lp_mono hL)
    | refine cd_blk zq ?_
    | refine cd_ret ?_
    | refine cd_skip ?_
    | refine cd_exit ?_
    | refine cd_loop ?_
    | refine cd_cond rfl ?_
    | refine cd_condT rfl ?_
    | refine cd_condF rfl ?_
    | (refine Cd.mk ?_; cbv)
    | (refine Ends1.mk ?_; cbv)
    | (refine Fin1.mk ?_; cbv)
    | exact trivial
    | refine And.intro ?_ ?_
    | refine orf fun _ => ?_
    | refine ort fun _ => ?_)
  all_goals first | (show L _ _ _; skip) | (clear hL hfs zq Z; subst hA hF hG0 hG1 hG2; simp only [HaR.Fs.std, MeM.Mm.std, Ar.std] at * <;> grind [stdCmp, mtM, mtE, zM]; done)
  rename_i hx1 hx2
  have hin : limitB a0 = true ∧ a1.length ≤ 1000 := by
    clear hfs hL zq Z
    subst hA hF hG0 hG1 hG2
    simp only [HaR.Fs.std, Ar.std] at *
    grind [stdCmp]
  clear hx1 hx2
  obtain ⟨hb, hl⟩ := hin
  subst hL
  refine loop_z (cx_ok hfs) (hQ a0 a1) (hI G1 a0 a1) (hM a1) hR ⟨0, F.b_n a0⟩ ?_ ?_ ?_
  · subst hF
    exact h_zero hb a1
  · cbv
    repeat' (first | exact trivial | exact rfl | refine And.intro ?_ ?_)
  rintro ⟨i, ⟨l0, c0, p0, o0, l1, c1, p1, o1, w0, w1⟩⟩ hq O hO
  have hst := h_all hl hb hq
  dsimp only at hst
  subst hA
  generalize hA : Ar.std = A
  generalize hL : Lp _ _ _ = L
  refine cd_close zq ?_
  repeat' (first
    | (refine z_open zq ?_; try dsimp only)
    | refine cd_seq zq ?_ (lp_mono hL)
    | refine cd_blk zq ?_
    | refine cd_ret ?_
    | refine cd_skip ?_
    | refine cd_exit ?_
    | refine cd_loop ?_
    | refine cd_cond rfl ?_
    | refine cd_condT rfl ?_
    | refine cd_condF rfl ?_
    | (refine Cd.mk ?_; cbv)
    | (refine Ends1.mk ?_; cbv)
    | (refine Fin1.mk ?_; cbv)
    | exact trivial
    | refine And.intro ?_ ?_
    | refine orf fun _ => ?_
    | refine ort fun _ => ?_)
  all_goals first | (show L _ _ _; skip) | (clear hL hfs zq Z hq; subst hA hF hG0 hG1 hG2 hO; simp only [MeM.Mm.std, MeQ.Mq.std, Ar.std] at * <;> grind [stdCmp]; done)
  rename_i hx1 hx2
  have hi : i < a1.length ∧ (goN a0 (ri (a1.getD i.toNat []) 0) (ri (a1.getD i.toNat []) 3) (ri (a1.getD i.toNat []) 1) ⟨l0, c0, p0, o0, l1, c1, p1, o1, w0, w1⟩).w0.length + (goN a0 (ri (a1.getD i.toNat []) 0) (ri (a1.getD i.toNat []) 3) (ri (a1.getD i.toNat []) 1) ⟨l0, c0, p0, o0, l1, c1, p1, o1, w0, w1⟩).w1.length ≤ 500 := by
    clear hfs hL zq Z hq
    subst hA hF hG0 hG1 hG2 hO
    simp only [MeQ.Mq.std, Ar.std] at *
    grind [stdCmp, b_add, wr]
  clear hx1 hx2
  obtain ⟨hi, hi5⟩ := hi
  have hsi := hst.2.2.2.2.1 hi
  have hsq := hsi.2.2.2.2.1 hi5
  subst hL
  refine loop_z (cx_ok hfs) jQ (jI G1 a0 a1 i ⟨l0, c0, p0, o0, l1, c1, p1, o1, w0, w1⟩ (G2.q_go a0 (A.ri (A.atE a1 i) 0) (A.ri (A.atE a1 i) 3) (A.ri (A.atE a1 i) 1) ⟨l0, c0, p0, o0, l1, c1, p1, o1, w0, w1⟩)) jM jR ⟨0⟩ ?_ ?_ ?_
  · exact Nat.zero_le 2
  · cbv
    repeat' (first | exact trivial | exact rfl | refine And.intro ?_ ?_)
  rintro ⟨k⟩ hqk U hU
  have hk : k = 0 ∨ k = 1 ∨ k = 2 := by
    have : k ≤ 2 := hqk
    omega
  clear hqk
  subst hA
  generalize hA : Ar.std = A
  generalize hL : Lp _ _ _ = L
  rcases hk with rfl | rfl | rfl <;> refine cd_close zq ?_
  all_goals
    repeat' (first
      | (refine z_open zq ?_; try dsimp only)
      | refine cd_seq zq ?_ (lp_mono hL)
      | refine cd_blk zq ?_
      | refine cd_ret ?_
      | refine cd_skip ?_
      | refine cd_exit ?_
      | refine cd_loop ?_
      | refine cd_cond rfl ?_
      | refine cd_condT rfl ?_
      | refine cd_condF rfl ?_
      | (refine Cd.mk ?_; cbv)
      | (refine Ends1.mk ?_; cbv)
      | (refine Fin1.mk ?_; cbv)
      | exact trivial
      | refine And.intro ?_ ?_
      | refine orf fun _ => ?_
      | refine ort fun _ => ?_)
  all_goals (clear hL hfs zq Z hq; subst hA hF hG0 hG1 hG2 hO hU; simp only [MeQ.Mq.std, Ar.std, jQ, jM] at * <;> grind [stdCmp]; done)
theorem walk (a0 : Int) (a1 : List E) (A1 : Option Addr) (n1 c1 : Nat) (w : World) (_ : (Lit.int .i64 a0).wf = true) (r1 : (SC.sl none (.recs (.int .i64 (.int .i64 (.int .i64 (.int .i64 (.int .i64 .nil))))) a1)).is (G0 w) (.slice A1 n1 c1)) (_ : ∀ y ∈ a1, wfS (.int .i64 (.int .i64 (.int .i64 (.int .i64 (.int .i64 .nil))))) y 0) (_ : a1.length ≤ 140737488355328) : Calls Try.prog 6 #[.int .i64 a0, .slice A1 n1 c1] w (Law.Yes w) :=
  yes_of (FsOk.cons ok_meet (FsOk.cons ok_rlimit (FsOk.cons ok_hawake (FsOk.cons ok_rbegin (FsOk.cons ok_rdo FsOk.nil rfl) rfl) rfl) rfl) rfl) Try.func6 rfl (vs := [.int .i64 a0, .slice A1 n1 c1]) (by exact ⟨rfl, r1, trivial⟩) (lee_le rfl) fun hZ => x_law a0 a1 hZ
theorem own : ownKnob Try.prog.godebug = none := by kernel_rfl
theorem laidOut : laidOutB Try.prog = true := by kernel_rfl
set_option maxRecDepth 100000 in
theorem lifted (os : Os) (started : os.Started) (H : Type) (enc : TypeId × Value → H) :
    ReturnsInHanded {} Try.checked os 6 .any (Rows.handMeetsSpec.pre6 enc Try.prog Try.f6 Rows.handMeetsRow.domain false) (Rows.handMeetsSpec.post enc Try.prog Try.f6 false true false false) := by
  refine returnsInHanded_of_change_sized (C := Try.checked) own started (by kernel_rfl) Try.func6
    (ChangeSpec.witness6 (enc := enc) (C := Try.checked) false ⟨#[], #[.int .i64 0, .slice none 0 0], []⟩ 8 (by kernel_rfl) (by kernel_rfl) (by kernel_rfl) (by kernel_rfl)) ?_
  intro W base args ds gs before hval0 hW _ hz _
  have hval : ∀ (j : Nat) t v, Try.f6.params[j]? = some t → args[j]? = some v → Value.okWide Try.prog W .any base t v := hval0
  have hW' := hW
  obtain ⟨p, q, hA0, hV, rfl, _, _⟩ := hW
  have hA : DataW.TrodAll enc Try.prog W 0 (fun _ => true) true Try.f6.params.toList args.toList ds p := hA0
  rw [Try.params6] at hA hval
  obtain ⟨v0, v1, d0, d1, p0, p1, rfl, rfl, rfl, h0, h1⟩ := trodAll_two hA
  obtain ⟨rfl, rfl⟩ := trodVars_none hV
  obtain ⟨a0, rfl, rfl, rfl, w0⟩ := open_int Try.underlying3 (hval 0 3 v0 rfl rfl) h0
  obtain ⟨A1, n1, c1, a1, rfl, l1, r1, w1⟩ := sl_any (s := .int .i64 (.int .i64 (.int .i64 (.int .i64 (.int .i64 .nil))))) Try.underlying23 (by kernel_rfl) (by kernel_rfl) (hval 1 23 v1 rfl rfl) h1
  have s1 : a1.length ≤ 140737488355328 := by rw [l1]; exact short_of Try.underlying23 (by decide +kernel) hz (j := 1) rfl rfl h1
  refine (walk a0 a1 A1 n1 c1 W w0 r1 w1 s1).mono fun e W' ⟨he, hb⟩ => ?_
  subst he
  exact ⟨_, rfl, law_post laidOut (by kernel_rfl) (by kernel_rfl) Try.underlying4 rfl hW' rfl hb⟩
theorem proved : Rows.HandMeetsSaid :=
  OpenClaim.holds_of_wide 6 Try.f6 rfl rfl rfl rfl rfl rfl rfl ⟨rfl, rfl, rfl, rfl, rfl⟩ rfl rfl rfl rfl rfl (by kernel_rfl) Try.func6 (by kernel_rfl)
    (of_decide_eq_true (by kernel_rfl)) (by unfold Func.isWrapper; first | (rw [if_pos (by decide +kernel)]; kernel_rfl) | (rw [if_neg (by decide +kernel)]; exact ⟨rfl, rfl⟩))
    (fun os started H enc _ => lifted os started H enc)
end Go.Proofs.Ytgemoemkgcmcgaa.HandMeets
