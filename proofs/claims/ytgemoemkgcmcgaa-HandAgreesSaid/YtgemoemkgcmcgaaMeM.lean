/-
  two ends that open sessions, from the beginning. No condition.
-/
import Derived.Test.YtgemoemkgcmcgaaMeR
import Derived.Test.YtgemoemkgcmcgaaRyOp
namespace Go.Proofs.Ytgemoemkgcmcgaa.MeM
open Go Go.Proofs.Ytgemoemkgcmcgaa.Ry Go.Proofs.Ytgemoemkgcmcgaa.HaR Go.Proofs.Ytgemoemkgcmcgaa.BwS Go.Proofs.Ytgemoemkgcmcgaa.MeR

def d00 (lim : Int) : MS := ⟨(newF 0 lim).l, (newF 0 lim).c, (newF 0 lim).p, (newF 0 lim).o, (newF 0 lim).l, (newF 0 lim).c, (newF 0 lim).p, (newF 0 lim).o, [], []⟩
def zM : MS := ⟨0, 0, 0, false, 0, 0, 0, false, [], []⟩
def stM (lim : Int) (y : E) (d : MS) : MS := if ri y 1 = 1 ∨ ri y 1 = 2 then doM lim (ri y 0) (ri y 3) (ri y 1 - 1) d else d
def runM (lim : Int) (l : List E) : MS := l.foldl (fun d y => stM lim y d) (d00 lim)
def mtM (lim : Int) (l : List E) : MS := if limitB lim = true ∧ l.length ≤ 1000 then runM lim l else zM
def mtE (lim : Int) (l : List E) : Int := if limitB lim = false then 1 else if 1000 < l.length then 3 else 0
structure XK where
  k : Nat
def kQ (y : XK) : Prop := y.k ≤ 2
def kM (y : XK) : Nat := 2 - y.k
noncomputable def kI (G : HaR.Fs) (lim : Int) (l : List E) (y : XK) : St := match y.k with
  | 0 => stOf Try.f28.ntmps [(0, .val (.int .i64 lim)), (1, .sl none (.recs (.int .i64 (.int .i64 (.int .i64 (.int .i64 (.int .i64 .nil))))) l)), (4, .ptr 1 0), (5, .ptr 2 0), (7, .ptr 3 0), (23, .num .i64 0)] [(1, .cells 25 [.val (.int .i64 0), .val (.int .i64 0), .val (.int .i64 0), .val (.bool false)]), (2, .cells 25 [.val (.int .i64 0), .val (.int .i64 0), .val (.int .i64 0), .val (.bool false)]), (3, .cells 163 [.val (.int .i64 lim), .val (.int .i64 0), .val (.int .i64 0), .val (.int .i64 0), .val (.bool false), .val (.int .i64 0), .val (.int .i64 0), .val (.int .i64 0), .val (.bool false), .val (.slice none 0 0), .val (.slice none 0 0)])] [Any, Any]
  | 1 => stOf Try.f28.ntmps [(0, .val (.int .i64 lim)), (1, .sl none (.recs (.int .i64 (.int .i64 (.int .i64 (.int .i64 (.int .i64 .nil))))) l)), (4, .ptr 1 0), (5, .ptr 2 0), (7, .ptr 3 0), (23, .num .i64 1)] [(1, .cells 25 [.val (.int .i64 0), .val (.int .i64 0), .val (.int .i64 0), .val (.bool false)]), (2, .cells 25 [.val (.int .i64 0), .val (.int .i64 0), .val (.int .i64 0), .val (.bool false)]), (3, .cells 163 [.val (.int .i64 lim), .val (.int .i64 (G.f_new 0 lim).l), .val (.int .i64 (G.f_new 0 lim).c), .val (.int .i64 (G.f_new 0 lim).p), .val (.bool (G.f_new 0 lim).o), .val (.int .i64 0), .val (.int .i64 0), .val (.int .i64 0), .val (.bool false), .val (.slice none 0 0), .val (.slice none 0 0)])] [Any, Any]
  | _ => stOf Try.f28.ntmps [(0, .val (.int .i64 lim)), (1, .sl none (.recs (.int .i64 (.int .i64 (.int .i64 (.int .i64 (.int .i64 .nil))))) l)), (4, .ptr 1 0), (5, .ptr 2 0), (7, .ptr 3 0), (23, .num .i64 2)] [(1, .cells 25 [.val (.int .i64 0), .val (.int .i64 0), .val (.int .i64 0), .val (.bool false)]), (2, .cells 25 [.val (.int .i64 0), .val (.int .i64 0), .val (.int .i64 0), .val (.bool false)]), (3, .cells 163 [.val (.int .i64 lim), .val (.int .i64 (G.f_new 0 lim).l), .val (.int .i64 (G.f_new 0 lim).c), .val (.int .i64 (G.f_new 0 lim).p), .val (.bool (G.f_new 0 lim).o), .val (.int .i64 (G.f_new 0 lim).l), .val (.int .i64 (G.f_new 0 lim).c), .val (.int .i64 (G.f_new 0 lim).p), .val (.bool (G.f_new 0 lim).o), .val (.slice none 0 0), .val (.slice none 0 0)])] [Any, Any]
def kR (st : St) : XK := ⟨match slotC st 23 with | .num _ n => n.toNat | _ => 3⟩
structure XM where
  i : Int
  d : MS
def mQ (lim : Int) (l : List E) (y : XM) : Prop := 0 ≤ y.i ∧ y.i ≤ l.length ∧ y.d = runM lim (l.take y.i.toNat) ∧ (y.d.w0.length : Int) ≤ 2 * y.i ∧ (y.d.w1.length : Int) ≤ 2 * y.i
noncomputable def mI (A : Ar) (lim : Int) (l : List E) (y : XM) : St := stOf Try.f28.ntmps [(4, .ptr 1 0), (5, .ptr 2 0), (7, .ptr 3 0), (35, .sl none (.recs (.int .i64 (.int .i64 (.int .i64 (.int .i64 (.int .i64 .nil))))) l)), (36, .val (.int .i64 (A.lenE l))), (37, .val (.int .i64 y.i))] ([(1, .cells 25 [.val (.int .i64 0), .val (.int .i64 0), .val (.int .i64 0), .val (.bool false)]), (2, .cells 25 [.val (.int .i64 0), .val (.int .i64 0), .val (.int .i64 0), .val (.bool false)])] ++ [(3, .cells 163 [.val (.int .i64 lim), .val (.int .i64 y.d.l0), .val (.int .i64 y.d.c0), .val (.int .i64 y.d.p0), .val (.bool y.d.o0), .val (.int .i64 y.d.l1), .val (.int .i64 y.d.c1), .val (.int .i64 y.d.p1), .val (.bool y.d.o1), .sl (some (4, 242)) (.recs (.int .i64 (.bool .nil)) y.d.w0), .sl (some (5, 242)) (.recs (.int .i64 (.bool .nil)) y.d.w1)]), (4, .tok), (5, .tok)]) [Any, Any]
def mM (l : List E) (y : XM) : Nat := l.length - y.i.toNat
def wayR (st : St) (j : Nat) : List E := ctR (match cellC st 7 j with | .sl _ c => c | _ => .recs .nil [])
def mR (st : St) : XM := ⟨slotI st 37, ⟨valI (cellC st 7 1), valI (cellC st 7 2), valI (cellC st 7 3), valB (cellC st 7 4), valI (cellC st 7 5), valI (cellC st 7 6), valI (cellC st 7 7), valB (cellC st 7 8), wayR st 9, wayR st 10⟩⟩
theorem run_next (lim : Int) (l : List E) (i : Int) (h0 : 0 ≤ i) (h : i < l.length) : runM lim (l.take (i + 1).toNat) = stM lim (l.getD i.toNat []) (runM lim (l.take i.toNat)) := by
  have e : (i + 1).toNat = i.toNat + 1 := by omega
  have hi : i.toNat < l.length := by omega
  unfold runM
  rw [e, List.take_add_one, List.foldl_append, List.getD_eq_getElem?_getD, List.getElem?_eq_getElem hi]
  rfl
theorem he_w (lim e n : Int) (w : Bool) (d : MS) : (heM lim e d n w).w0.length ≤ d.w0.length + (if e = 0 then 1 else 0) ∧ (heM lim e d n w).w1.length ≤ d.w1.length + (if e = 0 then 0 else 1) := by
  unfold heM setH setW wy
  by_cases he : e = 0 <;> simp only [he, if_true, if_false] <;> repeat' split
  all_goals simp
theorem do_w (lim k n e : Int) (d : MS) : (doM lim k n e d).w0.length ≤ d.w0.length + 2 ∧ (doM lim k n e d).w1.length ≤ d.w1.length + 2 := by
  have b0 := bl_len d.w0 k n
  have b1 := bl_len d.w1 k n
  unfold doM
  split
  · split
    · unfold setW wy
      by_cases he : e = 0 <;> simp only [he, if_true, if_false] <;> constructor <;> simp
    · omega
  · split
    · unfold setH
      split <;> constructor <;> simp
    · have hw : (setW e d (bwL (wy e d) k n)).w0.length ≤ d.w0.length + 1 ∧ (setW e d (bwL (wy e d) k n)).w1.length ≤ d.w1.length + 1 := by
        unfold setW wy
        by_cases he : e = 0 <;> simp only [he, if_true, if_false] <;> omega
      split
      · have h := he_w lim (1 - e) (bwE (wy e d) k n).x0 (bwE (wy e d) k n).x1 (setW e d (bwL (wy e d) k n))
        refine ⟨Nat.le_trans h.1 ?_, Nat.le_trans h.2 ?_⟩ <;> split <;> omega
      · omega
theorem m_all {lim : Int} {l : List E} (hl : l.length ≤ 1000) (hb : limitB lim = true) {i : Int} {d : MS} (hq : mQ lim l ⟨i, d⟩) : 0 ≤ i ∧ i ≤ l.length ∧ d.w0.length ≤ 2000 ∧ d.w1.length ≤ 2000 ∧ (i < l.length → stdBin .add .i64 i 1 = i + 1 ∧ (∀ e, mM l ⟨i + 1, e⟩ < mM l ⟨i, d⟩) ∧ (¬ (ri (l.getD i.toNat []) 1 = 1 ∨ ri (l.getD i.toNat []) 1 = 2) → mQ lim l ⟨i + 1, ⟨d.l0, d.c0, d.p0, d.o0, d.l1, d.c1, d.p1, d.o1, d.w0, d.w1⟩⟩) ∧ (ri (l.getD i.toNat []) 1 = 1 ∨ ri (l.getD i.toNat []) 1 = 2 → stdBin .sub .i64 (ri (l.getD i.toNat []) 1) 1 = ri (l.getD i.toNat []) 1 - 1 ∧ mQ lim l ⟨i + 1, ⟨(doM lim (ri (l.getD i.toNat []) 0) (ri (l.getD i.toNat []) 3) (ri (l.getD i.toNat []) 1 - 1) d).l0, (doM lim (ri (l.getD i.toNat []) 0) (ri (l.getD i.toNat []) 3) (ri (l.getD i.toNat []) 1 - 1) d).c0, (doM lim (ri (l.getD i.toNat []) 0) (ri (l.getD i.toNat []) 3) (ri (l.getD i.toNat []) 1 - 1) d).p0, (doM lim (ri (l.getD i.toNat []) 0) (ri (l.getD i.toNat []) 3) (ri (l.getD i.toNat []) 1 - 1) d).o0, (doM lim (ri (l.getD i.toNat []) 0) (ri (l.getD i.toNat []) 3) (ri (l.getD i.toNat []) 1 - 1) d).l1, (doM lim (ri (l.getD i.toNat []) 0) (ri (l.getD i.toNat []) 3) (ri (l.getD i.toNat []) 1 - 1) d).c1, (doM lim (ri (l.getD i.toNat []) 0) (ri (l.getD i.toNat []) 3) (ri (l.getD i.toNat []) 1 - 1) d).p1, (doM lim (ri (l.getD i.toNat []) 0) (ri (l.getD i.toNat []) 3) (ri (l.getD i.toNat []) 1 - 1) d).o1, (doM lim (ri (l.getD i.toNat []) 0) (ri (l.getD i.toNat []) 3) (ri (l.getD i.toNat []) 1 - 1) d).w0, (doM lim (ri (l.getD i.toNat []) 0) (ri (l.getD i.toNat []) 3) (ri (l.getD i.toNat []) 1 - 1) d).w1⟩⟩)) ∧ (¬ i < l.length → mtM lim l = d ∧ mtE lim l = 0) := by
  obtain ⟨h0, h1, h2, h3, h4⟩ := hq
  simp only at h0 h1 h2 h3 h4
  refine ⟨h0, h1, by omega, by omega, fun h => ?_, fun h => ?_⟩
  · have hn := run_next lim l i h0 h
    rw [← h2] at hn
    have hw := do_w lim (ri (l.getD i.toNat []) 0) (ri (l.getD i.toNat []) 3) (ri (l.getD i.toNat []) 1 - 1) d
    refine ⟨by rw [b_add, wr _ (by omega) (by omega)], fun e => by simp only [mM]; omega, fun g => ⟨by simp only; omega, by simp only; omega, ?_, by simp only; omega, by simp only; omega⟩, fun g => ⟨by rw [b_sub, wr _ (by omega) (by omega)], by simp only; omega, by simp only; omega, ?_, by simp only; omega, by simp only; omega⟩⟩
    · simp only
      rw [hn]
      unfold stM
      rw [if_neg g]
    · simp only
      rw [hn]
      unfold stM
      rw [if_pos g]
  · rw [List.take_of_length_le (by omega)] at h2
    constructor
    · unfold mtM
      rw [if_pos ⟨hb, hl⟩, h2]
    · unfold mtE
      rw [hb, if_neg (by decide), if_neg (by omega)]

structure Mm where
  m_run : Int → List E → MS
  m_e : Int → List E → Int
def Mm.std : Mm := ⟨mtM, mtE⟩

def c_meet (F : Mm) : Con := fun xs h => match xs, h with
  | [.one (.val (.int .i64 lim)), .one (.sl none (.recs (.int .i64 (.int .i64 (.int .i64 (.int .i64 (.int .i64 .nil))))) l))], [] => some ⟨True, .tup [.agg [.val (.int .i64 (F.m_run lim l).l0), .val (.int .i64 (F.m_run lim l).c0), .val (.int .i64 (F.m_run lim l).p0), .val (.bool (F.m_run lim l).o0)], .agg [.val (.int .i64 (F.m_run lim l).l1), .val (.int .i64 (F.m_run lim l).c1), .val (.int .i64 (F.m_run lim l).p1), .val (.bool (F.m_run lim l).o1)], I (F.m_e lim l)], [], [Any, Any]⟩
  | _, _ => none
set_option maxHeartbeats 4000000 in
set_option maxRecDepth 100000 in
theorem x_meet (lim : Int) (l : List E) : Does [(79, c_hlimit HaR.Fs.std), (52, c_hnew HaR.Fs.std), (80, c_mdo MeR.Ms.std)] Try.f28 [.one (.val (.int .i64 lim)), .one (.sl none (.recs (.int .i64 (.int .i64 (.int .i64 (.int .i64 (.int .i64 .nil))))) l))] [] ⟨True, .tup [.agg [.val (.int .i64 (Mm.std.m_run lim l).l0), .val (.int .i64 (Mm.std.m_run lim l).c0), .val (.int .i64 (Mm.std.m_run lim l).p0), .val (.bool (Mm.std.m_run lim l).o0)], .agg [.val (.int .i64 (Mm.std.m_run lim l).l1), .val (.int .i64 (Mm.std.m_run lim l).c1), .val (.int .i64 (Mm.std.m_run lim l).p1), .val (.bool (Mm.std.m_run lim l).o1)], I (Mm.std.m_e lim l)], [], [Any, Any]⟩ := by
  intro b gv
  have hfs := (FsOk.cons ok_hlimit (FsOk.cons ok_hnew (FsOk.cons ok_mdo FsOk.nil rfl) rfl) rfl)
  generalize hF : Mm.std = F at hfs ⊢
  generalize hG0 : HaR.Fs.std = G0 at hfs ⊢
  generalize hG1 : MeR.Ms.std = G1 at hfs ⊢
  generalize hA : Ar.std = A
  generalize hL : Lp _ _ _ = L
  obtain ⟨Z, zq⟩ := z_all
  refine cd_open (lp_mono hL) zq rfl ?_
  repeat' (first
    | (refine z_open zq ?_; try dsimp only)
    | refine cd_seq zq ?_ (lp_mono hL)
    | refine cd_blk zq ?_
    | refine cd_ret ?_
    | refine cd_skip ?_
    | refine cd_exit ?_
    | refine cd_loop ?_
    | refine cd_cond rfl ?_
    | refine cd_condT rfl ?_
    | refine cd_condF rfl ?_
    | (refine Cd.mk ?_; cbv)
    | (refine Ends1.mk ?_; cbv)
    | (refine Fin1.mk ?_; cbv)
    | exact trivial
    | refine And.intro ?_ ?_
    | refine orf fun _ => ?_
    | refine ort fun _ => ?_)
  all_goals first | (show L _ _ _; skip) | (clear hL hfs zq Z; subst hA hF hG0 hG1; simp only [Mm.std, HaR.Fs.std, Ar.std] at * <;> grind [stdCmp, mtM, mtE, zM]; done)
  rename_i hx1 hx2
  have hin : limitB lim = true ∧ l.length ≤ 1000 := by
    clear hfs hL zq Z
    subst hA hF hG0 hG1
    simp only [HaR.Fs.std, Ar.std] at *
    grind [stdCmp]
  clear hx1 hx2
  obtain ⟨hb, hl⟩ := hin
  subst hL
  refine loop_z (cx_ok hfs) kQ (kI G0 lim l) kM kR ⟨0⟩ ?_ ?_ ?_
  · exact Nat.zero_le 2
  · cbv
    repeat' (first | exact trivial | exact rfl | refine And.intro ?_ ?_)
  rintro ⟨k⟩ hq O hO
  have hk : k = 0 ∨ k = 1 ∨ k = 2 := by
    have : k ≤ 2 := hq
    omega
  clear hq
  subst hA
  generalize hA : Ar.std = A
  generalize hL : Lp _ _ _ = L
  rcases hk with rfl | rfl | rfl <;> refine cd_close zq ?_
  all_goals
    repeat' (first
      | (refine z_open zq ?_; try dsimp only)
      | refine cd_seq zq ?_ (lp_mono hL)
      | refine cd_blk zq ?_
      | refine cd_ret ?_
      | refine cd_skip ?_
      | refine cd_exit ?_
      | refine cd_loop ?_
      | refine cd_cond rfl ?_
      | refine cd_condT rfl ?_
      | refine cd_condF rfl ?_
      | (refine Cd.mk ?_; cbv)
      | (refine Ends1.mk ?_; cbv)
      | (refine Fin1.mk ?_; cbv)
      | exact trivial
      | refine And.intro ?_ ?_
      | refine orf fun _ => ?_
      | refine ort fun _ => ?_)
  all_goals first | (show L _ _ _; skip) | (clear hL hfs zq Z; subst hA hF hG0 hG1 hO; simp only [kQ, kM] at * <;> grind [stdCmp]; done)
  clear hO
  subst hL
  refine loop_z (cx_ok hfs) (mQ lim l) (mI A lim l) (mM l) mR ⟨0, ⟨(G0.f_new 0 lim).l, (G0.f_new 0 lim).c, (G0.f_new 0 lim).p, (G0.f_new 0 lim).o, (G0.f_new 0 lim).l, (G0.f_new 0 lim).c, (G0.f_new 0 lim).p, (G0.f_new 0 lim).o, [], []⟩⟩ ?_ ?_ ?_
  · subst hG0
    exact ⟨Int.le_refl 0, Int.natCast_nonneg _, rfl, Int.le_refl 0, Int.le_refl 0⟩
  · cbv
    repeat' (first | exact trivial | exact rfl | refine And.intro ?_ ?_)
  rintro ⟨i, ⟨l0, c0, p0, o0, l1, c1, p1, o1, w0, w1⟩⟩ hq O hO
  have hst := m_all hl hb hq
  dsimp only at hst
  subst hA
  generalize hA : Ar.std = A
  generalize hL : Lp _ _ _ = L
  refine cd_close zq ?_
  repeat' (first
    | (refine z_open zq ?_; try dsimp only)
    | refine cd_seq zq ?_ (lp_mono hL)
    | refine cd_blk zq ?_
    | refine cd_ret ?_
    | refine cd_skip ?_
    | refine cd_exit ?_
    | refine cd_loop ?_
    | refine cd_cond rfl ?_
    | refine cd_condT rfl ?_
    | refine cd_condF rfl ?_
    | (refine Cd.mk ?_; cbv)
    | (refine Ends1.mk ?_; cbv)
    | (refine Fin1.mk ?_; cbv)
    | exact trivial
    | refine And.intro ?_ ?_
    | refine orf fun _ => ?_
    | refine ort fun _ => ?_)
  all_goals (clear hL hfs zq Z hq; subst hA hF hG0 hG1 hO; simp only [Mm.std, MeR.Ms.std, Ar.std] at * <;> grind [stdCmp, b_add, wr]; done)
theorem ok_meet : ConOk Try.prog 28 (c_meet Mm.std) := by
  refine con_of (FsOk.cons ok_hlimit (FsOk.cons ok_hnew (FsOk.cons ok_mdo FsOk.nil rfl) rfl) rfl) Try.func28 rfl rfl fun xs h p hp => ?_
  unfold c_meet at hp
  split at hp
  · cases hp
    exact ⟨lee_le rfl, fun _ _ => x_meet _ _⟩
  · cases hp
end Go.Proofs.Ytgemoemkgcmcgaa.MeM
