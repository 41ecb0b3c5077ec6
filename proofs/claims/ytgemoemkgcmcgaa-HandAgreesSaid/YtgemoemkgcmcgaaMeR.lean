/-
  two ends that open sessions, in any weather, over the reckoner. No condition.
-/
import Derived.Test.YtgemoemkgcmcgaaBwS
import Derived.Test.YtgemoemkgcmcgaaHaR
namespace Go.Proofs.Ytgemoemkgcmcgaa.MeR
open Go Go.Proofs.Ytgemoemkgcmcgaa.Ry Go.Proofs.Ytgemoemkgcmcgaa.HaR Go.Proofs.Ytgemoemkgcmcgaa.BwS

/-- Two ends, and what is on both ways. -/
structure MS where
  l0 : Int
  c0 : Int
  p0 : Int
  o0 : Bool
  l1 : Int
  c1 : Int
  p1 : Int
  o1 : Bool
  w0 : List E
  w1 : List E
structure HN where
  l : Int
  c : Int
  p : Int
  o : Bool
def en (e : Int) (d : MS) : HN := if e = 0 then ⟨d.l0, d.c0, d.p0, d.o0⟩ else ⟨d.l1, d.c1, d.p1, d.o1⟩
def wy (e : Int) (d : MS) : List E := if e = 0 then d.w0 else d.w1
def setH (e : Int) (d : MS) (l c p : Int) (o : Bool) : MS := if e = 0 then { d with l0 := l, c0 := c, p0 := p, o0 := o } else { d with l1 := l, c1 := c, p1 := p, o1 := o }
def setW (e : Int) (d : MS) (w : List E) : MS := if e = 0 then { d with w0 := w } else { d with w1 := w }
def heM (lim e : Int) (d : MS) (n : Int) (wc : Bool) : MS :=
  if wc = true then setH e d (welF (en e d).l (en e d).c (en e d).p (en e d).o n).l (welF (en e d).l (en e d).c (en e d).p (en e d).o n).c (welF (en e d).l (en e d).c (en e d).p (en e d).o n).p (welF (en e d).l (en e d).c (en e d).p (en e d).o n).o
  else if (helF (en e d).l (en e d).c (en e d).p (en e d).o n lim).a = true then setW e (setH e d (helF (en e d).l (en e d).c (en e d).p (en e d).o n lim).l (helF (en e d).l (en e d).c (en e d).p (en e d).o n lim).c (helF (en e d).l (en e d).c (en e d).p (en e d).o n lim).p (helF (en e d).l (en e d).c (en e d).p (en e d).o n lim).o) (wy e d ++ [[D.int n, D.bool true]])
  else setH e d (helF (en e d).l (en e d).c (en e d).p (en e d).o n lim).l (helF (en e d).l (en e d).c (en e d).p (en e d).o n lim).c (helF (en e d).l (en e d).c (en e d).p (en e d).o n lim).p (helF (en e d).l (en e d).c (en e d).p (en e d).o n lim).o
def doM (lim k n e : Int) (d : MS) : MS :=
  if k = 1 then (if openingB (en e d).l (en e d).c (en e d).p (en e d).o = true then setW e d (wy e d ++ [[D.int (en e d).p, D.bool false]]) else d)
  else if k = 9 then setH e d (closeF (en e d).l (en e d).c (en e d).p (en e d).o lim).l (closeF (en e d).l (en e d).c (en e d).p (en e d).o lim).c (closeF (en e d).l (en e d).c (en e d).p (en e d).o lim).p (closeF (en e d).l (en e d).c (en e d).p (en e d).o lim).o
  else if bwB (wy e d) k = true then heM lim (1 - e) (setW e d (bwL (wy e d) k n)) (bwE (wy e d) k n).x0 (bwE (wy e d) k n).x1 else setW e d (bwL (wy e d) k n)
theorem bl_len (w : List E) (k n : Int) : (bwL w k n).length ≤ w.length + 1 := by
  have hr : (res w (modI n w.length)).length ≤ w.length := by
    unfold res
    rw [List.length_append, List.length_take, List.length_drop]
    omega
  unfold bwL
  split
  · simp
  · split
    · omega
    · split
      · simp
      · split
        · simp; omega
        · omega

structure Ms where
  d_hear : Int → Int → MS → Int → Bool → MS
  d_do : Int → Int → Int → Int → MS → MS
  d_len : MS → Bool
  d_le2 : MS → Bool
def Ms.std : Ms := ⟨heM, doM, fun d => decide (d.w0.length ≤ 50000 ∧ d.w1.length ≤ 50000), fun d => decide (d.w0.length ≤ 40000 ∧ d.w1.length ≤ 40000)⟩

def c_hear0 (F : Ms) : Con := fun xs h => match xs, h with
  | [.one (.ptr 0 0), .one (.num .i64 0), .agg [.val (.int .i64 s_n), .val (.bool s_h)]], [(0, .cells 163 [.val (.int .i64 lim), .val (.int .i64 l0), .val (.int .i64 c0), .val (.int .i64 p0), .val (.bool o0), .val (.int .i64 l1), .val (.int .i64 c1), .val (.int .i64 p1), .val (.bool o1), .sl (some (1, 242)) (.recs (.int .i64 (.bool .nil)) w0), .sl (some (2, 242)) (.recs (.int .i64 (.bool .nil)) w1)]), (1, .tok), (2, .tok)] => some ⟨F.d_len ⟨l0, c0, p0, o0, l1, c1, p1, o1, w0, w1⟩ = true, .tup [], [(0, .cells 163 [.val (.int .i64 lim), .val (.int .i64 ((F.d_hear lim 0 ⟨l0, c0, p0, o0, l1, c1, p1, o1, w0, w1⟩ s_n s_h).l0)), .val (.int .i64 ((F.d_hear lim 0 ⟨l0, c0, p0, o0, l1, c1, p1, o1, w0, w1⟩ s_n s_h).c0)), .val (.int .i64 ((F.d_hear lim 0 ⟨l0, c0, p0, o0, l1, c1, p1, o1, w0, w1⟩ s_n s_h).p0)), .val (.bool ((F.d_hear lim 0 ⟨l0, c0, p0, o0, l1, c1, p1, o1, w0, w1⟩ s_n s_h).o0)), .val (.int .i64 ((F.d_hear lim 0 ⟨l0, c0, p0, o0, l1, c1, p1, o1, w0, w1⟩ s_n s_h).l1)), .val (.int .i64 ((F.d_hear lim 0 ⟨l0, c0, p0, o0, l1, c1, p1, o1, w0, w1⟩ s_n s_h).c1)), .val (.int .i64 ((F.d_hear lim 0 ⟨l0, c0, p0, o0, l1, c1, p1, o1, w0, w1⟩ s_n s_h).p1)), .val (.bool ((F.d_hear lim 0 ⟨l0, c0, p0, o0, l1, c1, p1, o1, w0, w1⟩ s_n s_h).o1)), .sl (some (1, 242)) (.recs (.int .i64 (.bool .nil)) ((F.d_hear lim 0 ⟨l0, c0, p0, o0, l1, c1, p1, o1, w0, w1⟩ s_n s_h).w0)), .sl (some (2, 242)) (.recs (.int .i64 (.bool .nil)) ((F.d_hear lim 0 ⟨l0, c0, p0, o0, l1, c1, p1, o1, w0, w1⟩ s_n s_h).w1))]), (1, .tok), (2, .tok)], [.one (.ptr 0 0), Any, Any]⟩
  | _, _ => none
set_option maxHeartbeats 4000000 in
set_option maxRecDepth 100000 in
theorem x_hear0 (s_n : Int) (s_h : Bool) (lim : Int) (l0 : Int) (c0 : Int) (p0 : Int) (o0 : Bool) (l1 : Int) (c1 : Int) (p1 : Int) (o1 : Bool) (w0 : List E) (w1 : List E) (hC : Ms.std.d_len ⟨l0, c0, p0, o0, l1, c1, p1, o1, w0, w1⟩ = true) : Does [(82, c_wel HaR.Fs.std), (81, c_hel HaR.Fs.std)] Try.f144 [.one (.ptr 0 0), .one (.num .i64 0), .agg [.val (.int .i64 s_n), .val (.bool s_h)]] [(0, .cells 163 [.val (.int .i64 lim), .val (.int .i64 l0), .val (.int .i64 c0), .val (.int .i64 p0), .val (.bool o0), .val (.int .i64 l1), .val (.int .i64 c1), .val (.int .i64 p1), .val (.bool o1), .sl (some (1, 242)) (.recs (.int .i64 (.bool .nil)) w0), .sl (some (2, 242)) (.recs (.int .i64 (.bool .nil)) w1)]), (1, .tok), (2, .tok)] ⟨Ms.std.d_len ⟨l0, c0, p0, o0, l1, c1, p1, o1, w0, w1⟩ = true, .tup [], [(0, .cells 163 [.val (.int .i64 lim), .val (.int .i64 ((Ms.std.d_hear lim 0 ⟨l0, c0, p0, o0, l1, c1, p1, o1, w0, w1⟩ s_n s_h).l0)), .val (.int .i64 ((Ms.std.d_hear lim 0 ⟨l0, c0, p0, o0, l1, c1, p1, o1, w0, w1⟩ s_n s_h).c0)), .val (.int .i64 ((Ms.std.d_hear lim 0 ⟨l0, c0, p0, o0, l1, c1, p1, o1, w0, w1⟩ s_n s_h).p0)), .val (.bool ((Ms.std.d_hear lim 0 ⟨l0, c0, p0, o0, l1, c1, p1, o1, w0, w1⟩ s_n s_h).o0)), .val (.int .i64 ((Ms.std.d_hear lim 0 ⟨l0, c0, p0, o0, l1, c1, p1, o1, w0, w1⟩ s_n s_h).l1)), .val (.int .i64 ((Ms.std.d_hear lim 0 ⟨l0, c0, p0, o0, l1, c1, p1, o1, w0, w1⟩ s_n s_h).c1)), .val (.int .i64 ((Ms.std.d_hear lim 0 ⟨l0, c0, p0, o0, l1, c1, p1, o1, w0, w1⟩ s_n s_h).p1)), .val (.bool ((Ms.std.d_hear lim 0 ⟨l0, c0, p0, o0, l1, c1, p1, o1, w0, w1⟩ s_n s_h).o1)), .sl (some (1, 242)) (.recs (.int .i64 (.bool .nil)) ((Ms.std.d_hear lim 0 ⟨l0, c0, p0, o0, l1, c1, p1, o1, w0, w1⟩ s_n s_h).w0)), .sl (some (2, 242)) (.recs (.int .i64 (.bool .nil)) ((Ms.std.d_hear lim 0 ⟨l0, c0, p0, o0, l1, c1, p1, o1, w0, w1⟩ s_n s_h).w1))]), (1, .tok), (2, .tok)], [.one (.ptr 0 0), Any, Any]⟩ := by
  intro b gv
  have hfs := (FsOk.cons ok_wel (FsOk.cons ok_hel FsOk.nil rfl) rfl)
  generalize hF : Ms.std = F at hC hfs ⊢
  generalize hG0 : HaR.Fs.std = G0 at hC hfs ⊢
  generalize hG1 : BwS.Bw.std = G1 at hC hfs ⊢
  generalize hA : Ar.std = A
  generalize hL : Lp _ _ _ = L
  obtain ⟨Z, zq⟩ := z_all
  refine cd_open (lp_mono hL) zq rfl ?_
  repeat' (first
    | (refine z_open zq ?_; try dsimp only)
    | refine cd_seq zq ?_ (lp_mono hL)
    | refine cd_blk zq ?_
    | refine cd_ret ?_
    | refine cd_skip ?_
    | refine cd_exit ?_
    | refine cd_loop ?_
    | refine cd_cond rfl ?_
    | refine cd_condT rfl ?_
    | refine cd_condF rfl ?_
    | (refine Cd.mk ?_; cbv)
    | (refine Ends1.mk ?_; cbv)
    | (refine Fin1.mk ?_; cbv)
    | exact trivial
    | refine And.intro ?_ ?_
    | refine orf fun _ => ?_
    | refine ort fun _ => ?_)
  all_goals
    clear hL zq Z hfs
    subst hA hF hG0 hG1
    have hb0 := bl_len w0
    have hb1 := bl_len w1
    simp only [Ms.std, HaR.Fs.std, Ar.std] at *
    try (grind [stdCmp, heM, doM, setH, setW, en, wy])
theorem ok_hear0 : ConOk Try.prog 144 (c_hear0 Ms.std) := by
  refine con_of (FsOk.cons ok_wel (FsOk.cons ok_hel FsOk.nil rfl) rfl) Try.func144 rfl rfl fun xs h p hp => ?_
  unfold c_hear0 at hp
  split at hp
  · cases hp
    exact ⟨lee_le rfl, fun hC _ => x_hear0 _ _ _ _ _ _ _ _ _ _ _ _ _ hC⟩
  · cases hp

def c_hear1 (F : Ms) : Con := fun xs h => match xs, h with
  | [.one (.ptr 0 0), .one (.num .i64 1), .agg [.val (.int .i64 s_n), .val (.bool s_h)]], [(0, .cells 163 [.val (.int .i64 lim), .val (.int .i64 l0), .val (.int .i64 c0), .val (.int .i64 p0), .val (.bool o0), .val (.int .i64 l1), .val (.int .i64 c1), .val (.int .i64 p1), .val (.bool o1), .sl (some (1, 242)) (.recs (.int .i64 (.bool .nil)) w0), .sl (some (2, 242)) (.recs (.int .i64 (.bool .nil)) w1)]), (1, .tok), (2, .tok)] => some ⟨F.d_len ⟨l0, c0, p0, o0, l1, c1, p1, o1, w0, w1⟩ = true, .tup [], [(0, .cells 163 [.val (.int .i64 lim), .val (.int .i64 ((F.d_hear lim 1 ⟨l0, c0, p0, o0, l1, c1, p1, o1, w0, w1⟩ s_n s_h).l0)), .val (.int .i64 ((F.d_hear lim 1 ⟨l0, c0, p0, o0, l1, c1, p1, o1, w0, w1⟩ s_n s_h).c0)), .val (.int .i64 ((F.d_hear lim 1 ⟨l0, c0, p0, o0, l1, c1, p1, o1, w0, w1⟩ s_n s_h).p0)), .val (.bool ((F.d_hear lim 1 ⟨l0, c0, p0, o0, l1, c1, p1, o1, w0, w1⟩ s_n s_h).o0)), .val (.int .i64 ((F.d_hear lim 1 ⟨l0, c0, p0, o0, l1, c1, p1, o1, w0, w1⟩ s_n s_h).l1)), .val (.int .i64 ((F.d_hear lim 1 ⟨l0, c0, p0, o0, l1, c1, p1, o1, w0, w1⟩ s_n s_h).c1)), .val (.int .i64 ((F.d_hear lim 1 ⟨l0, c0, p0, o0, l1, c1, p1, o1, w0, w1⟩ s_n s_h).p1)), .val (.bool ((F.d_hear lim 1 ⟨l0, c0, p0, o0, l1, c1, p1, o1, w0, w1⟩ s_n s_h).o1)), .sl (some (1, 242)) (.recs (.int .i64 (.bool .nil)) ((F.d_hear lim 1 ⟨l0, c0, p0, o0, l1, c1, p1, o1, w0, w1⟩ s_n s_h).w0)), .sl (some (2, 242)) (.recs (.int .i64 (.bool .nil)) ((F.d_hear lim 1 ⟨l0, c0, p0, o0, l1, c1, p1, o1, w0, w1⟩ s_n s_h).w1))]), (1, .tok), (2, .tok)], [.one (.ptr 0 0), Any, Any]⟩
  | _, _ => none
set_option maxHeartbeats 4000000 in
set_option maxRecDepth 100000 in
theorem x_hear1 (s_n : Int) (s_h : Bool) (lim : Int) (l0 : Int) (c0 : Int) (p0 : Int) (o0 : Bool) (l1 : Int) (c1 : Int) (p1 : Int) (o1 : Bool) (w0 : List E) (w1 : List E) (hC : Ms.std.d_len ⟨l0, c0, p0, o0, l1, c1, p1, o1, w0, w1⟩ = true) : Does [(82, c_wel HaR.Fs.std), (81, c_hel HaR.Fs.std)] Try.f144 [.one (.ptr 0 0), .one (.num .i64 1), .agg [.val (.int .i64 s_n), .val (.bool s_h)]] [(0, .cells 163 [.val (.int .i64 lim), .val (.int .i64 l0), .val (.int .i64 c0), .val (.int .i64 p0), .val (.bool o0), .val (.int .i64 l1), .val (.int .i64 c1), .val (.int .i64 p1), .val (.bool o1), .sl (some (1, 242)) (.recs (.int .i64 (.bool .nil)) w0), .sl (some (2, 242)) (.recs (.int .i64 (.bool .nil)) w1)]), (1, .tok), (2, .tok)] ⟨Ms.std.d_len ⟨l0, c0, p0, o0, l1, c1, p1, o1, w0, w1⟩ = true, .tup [], [(0, .cells 163 [.val (.int .i64 lim), .val (.int .i64 ((Ms.std.d_hear lim 1 ⟨l0, c0, p0, o0, l1, c1, p1, o1, w0, w1⟩ s_n s_h).l0)), .val (.int .i64 ((Ms.std.d_hear lim 1 ⟨l0, c0, p0, o0, l1, c1, p1, o1, w0, w1⟩ s_n s_h).c0)), .val (.int .i64 ((Ms.std.d_hear lim 1 ⟨l0, c0, p0, o0, l1, c1, p1, o1, w0, w1⟩ s_n s_h).p0)), .val (.bool ((Ms.std.d_hear lim 1 ⟨l0, c0, p0, o0, l1, c1, p1, o1, w0, w1⟩ s_n s_h).o0)), .val (.int .i64 ((Ms.std.d_hear lim 1 ⟨l0, c0, p0, o0, l1, c1, p1, o1, w0, w1⟩ s_n s_h).l1)), .val (.int .i64 ((Ms.std.d_hear lim 1 ⟨l0, c0, p0, o0, l1, c1, p1, o1, w0, w1⟩ s_n s_h).c1)), .val (.int .i64 ((Ms.std.d_hear lim 1 ⟨l0, c0, p0, o0, l1, c1, p1, o1, w0, w1⟩ s_n s_h).p1)), .val (.bool ((Ms.std.d_hear lim 1 ⟨l0, c0, p0, o0, l1, c1, p1, o1, w0, w1⟩ s_n s_h).o1)), .sl (some (1, 242)) (.recs (.int .i64 (.bool .nil)) ((Ms.std.d_hear lim 1 ⟨l0, c0, p0, o0, l1, c1, p1, o1, w0, w1⟩ s_n s_h).w0)), .sl (some (2, 242)) (.recs (.int .i64 (.bool .nil)) ((Ms.std.d_hear lim 1 ⟨l0, c0, p0, o0, l1, c1, p1, o1, w0, w1⟩ s_n s_h).w1))]), (1, .tok), (2, .tok)], [.one (.ptr 0 0), Any, Any]⟩ := by
  intro b gv
  have hfs := (FsOk.cons ok_wel (FsOk.cons ok_hel FsOk.nil rfl) rfl)
  generalize hF : Ms.std = F at hC hfs ⊢
  generalize hG0 : HaR.Fs.std = G0 at hC hfs ⊢
  generalize hG1 : BwS.Bw.std = G1 at hC hfs ⊢
  generalize hA : Ar.std = A
  generalize hL : Lp _ _ _ = L
  obtain ⟨Z, zq⟩ := z_all
  refine cd_open (lp_mono hL) zq rfl ?_
  repeat' (first
    | (refine z_open zq ?_; try dsimp only)
    | refine cd_seq zq ?_ (lp_mono hL)
    | refine cd_blk zq ?_
    | refine cd_ret ?_
    | refine cd_skip ?_
    | refine cd_exit ?_
    | refine cd_loop ?_
    | refine cd_cond rfl ?_
    | refine cd_condT rfl ?_
    | refine cd_condF rfl ?_
    | (refine Cd.mk ?_; cbv)
    | (refine Ends1.mk ?_; cbv)
    | (refine Fin1.mk ?_; cbv)
    | exact trivial
    | refine And.intro ?_ ?_
    | refine orf fun _ => ?_
    | refine ort fun _ => ?_)
  all_goals
    clear hL zq Z hfs
    subst hA hF hG0 hG1
    have hb0 := bl_len w0
    have hb1 := bl_len w1
    simp only [Ms.std, HaR.Fs.std, Ar.std] at *
    try (grind [stdCmp, heM, doM, setH, setW, en, wy])
theorem ok_hear1 : ConOk Try.prog 144 (c_hear1 Ms.std) := by
  refine con_of (FsOk.cons ok_wel (FsOk.cons ok_hel FsOk.nil rfl) rfl) Try.func144 rfl rfl fun xs h p hp => ?_
  unfold c_hear1 at hp
  split at hp
  · cases hp
    exact ⟨lee_le rfl, fun hC _ => x_hear1 _ _ _ _ _ _ _ _ _ _ _ _ _ hC⟩
  · cases hp

def c_mhear (F : Ms) : Con := fun xs h => match xs, h with
  | [.one (.ptr 0 0), .one (.val (.int .i64 en)), .agg [.val (.int .i64 s_n), .val (.bool s_h)]], [(0, .cells 163 [.val (.int .i64 lim), .val (.int .i64 l0), .val (.int .i64 c0), .val (.int .i64 p0), .val (.bool o0), .val (.int .i64 l1), .val (.int .i64 c1), .val (.int .i64 p1), .val (.bool o1), .sl (some (1, 242)) (.recs (.int .i64 (.bool .nil)) w0), .sl (some (2, 242)) (.recs (.int .i64 (.bool .nil)) w1)]), (1, .tok), (2, .tok)] => some ⟨(en = 0 ∨ en = 1) ∧ F.d_len ⟨l0, c0, p0, o0, l1, c1, p1, o1, w0, w1⟩ = true, .tup [], [(0, .cells 163 [.val (.int .i64 lim), .val (.int .i64 ((F.d_hear lim en ⟨l0, c0, p0, o0, l1, c1, p1, o1, w0, w1⟩ s_n s_h).l0)), .val (.int .i64 ((F.d_hear lim en ⟨l0, c0, p0, o0, l1, c1, p1, o1, w0, w1⟩ s_n s_h).c0)), .val (.int .i64 ((F.d_hear lim en ⟨l0, c0, p0, o0, l1, c1, p1, o1, w0, w1⟩ s_n s_h).p0)), .val (.bool ((F.d_hear lim en ⟨l0, c0, p0, o0, l1, c1, p1, o1, w0, w1⟩ s_n s_h).o0)), .val (.int .i64 ((F.d_hear lim en ⟨l0, c0, p0, o0, l1, c1, p1, o1, w0, w1⟩ s_n s_h).l1)), .val (.int .i64 ((F.d_hear lim en ⟨l0, c0, p0, o0, l1, c1, p1, o1, w0, w1⟩ s_n s_h).c1)), .val (.int .i64 ((F.d_hear lim en ⟨l0, c0, p0, o0, l1, c1, p1, o1, w0, w1⟩ s_n s_h).p1)), .val (.bool ((F.d_hear lim en ⟨l0, c0, p0, o0, l1, c1, p1, o1, w0, w1⟩ s_n s_h).o1)), .sl (some (1, 242)) (.recs (.int .i64 (.bool .nil)) ((F.d_hear lim en ⟨l0, c0, p0, o0, l1, c1, p1, o1, w0, w1⟩ s_n s_h).w0)), .sl (some (2, 242)) (.recs (.int .i64 (.bool .nil)) ((F.d_hear lim en ⟨l0, c0, p0, o0, l1, c1, p1, o1, w0, w1⟩ s_n s_h).w1))]), (1, .tok), (2, .tok)], [.one (.ptr 0 0), Any, Any]⟩
  | _, _ => none
theorem ok_mhear : ConOk Try.prog 144 (c_mhear Ms.std) := by
  refine ⟨ok_hear0.1, fun args h p hc hC G vs h1 h2 h3 hv => ?_⟩
  unfold c_mhear at hc
  split at hc
  · rename_i en s_n s_h lim l0 c0 p0 o0 l1 c1 p1 o1 w0 w1
    cases hc
    obtain ⟨he, hl⟩ := hC
    rcases he with rfl | rfl
    · have hv' : sasIs G [.one (.ptr 0 0), .one (.num .i64 0), .agg [.val (.int .i64 s_n), .val (.bool s_h)]] vs := by
        match vs, hv with
        | [_, _, _], hv => exact hv
      have := ok_hear0.2 [.one (.ptr 0 0), .one (.num .i64 0), .agg [.val (.int .i64 s_n), .val (.bool s_h)]] _ _ rfl hl G vs h1 h2 h3 hv'
      exact this
    · have hv' : sasIs G [.one (.ptr 0 0), .one (.num .i64 1), .agg [.val (.int .i64 s_n), .val (.bool s_h)]] vs := by
        match vs, hv with
        | [_, _, _], hv => exact hv
      have := ok_hear1.2 [.one (.ptr 0 0), .one (.num .i64 1), .agg [.val (.int .i64 s_n), .val (.bool s_h)]] _ _ rfl hl G vs h1 h2 h3 hv'
      exact this
  · cases hc

def c_mdo0 (F : Ms) : Con := fun xs h => match xs, h with
  | [.one (.ptr 0 0), .agg [.val (.int .i64 k), .val (.int .i64 _), .val (.int .i64 _), .val (.int .i64 n), .val (.int .i64 _)], .one (.num .i64 0)], [(0, .cells 163 [.val (.int .i64 lim), .val (.int .i64 l0), .val (.int .i64 c0), .val (.int .i64 p0), .val (.bool o0), .val (.int .i64 l1), .val (.int .i64 c1), .val (.int .i64 p1), .val (.bool o1), .sl (some (1, 242)) (.recs (.int .i64 (.bool .nil)) w0), .sl (some (2, 242)) (.recs (.int .i64 (.bool .nil)) w1)]), (1, .tok), (2, .tok)] => some ⟨F.d_le2 ⟨l0, c0, p0, o0, l1, c1, p1, o1, w0, w1⟩ = true, .tup [], [(0, .cells 163 [.val (.int .i64 lim), .val (.int .i64 ((F.d_do lim k n 0 ⟨l0, c0, p0, o0, l1, c1, p1, o1, w0, w1⟩).l0)), .val (.int .i64 ((F.d_do lim k n 0 ⟨l0, c0, p0, o0, l1, c1, p1, o1, w0, w1⟩).c0)), .val (.int .i64 ((F.d_do lim k n 0 ⟨l0, c0, p0, o0, l1, c1, p1, o1, w0, w1⟩).p0)), .val (.bool ((F.d_do lim k n 0 ⟨l0, c0, p0, o0, l1, c1, p1, o1, w0, w1⟩).o0)), .val (.int .i64 ((F.d_do lim k n 0 ⟨l0, c0, p0, o0, l1, c1, p1, o1, w0, w1⟩).l1)), .val (.int .i64 ((F.d_do lim k n 0 ⟨l0, c0, p0, o0, l1, c1, p1, o1, w0, w1⟩).c1)), .val (.int .i64 ((F.d_do lim k n 0 ⟨l0, c0, p0, o0, l1, c1, p1, o1, w0, w1⟩).p1)), .val (.bool ((F.d_do lim k n 0 ⟨l0, c0, p0, o0, l1, c1, p1, o1, w0, w1⟩).o1)), .sl (some (1, 242)) (.recs (.int .i64 (.bool .nil)) ((F.d_do lim k n 0 ⟨l0, c0, p0, o0, l1, c1, p1, o1, w0, w1⟩).w0)), .sl (some (2, 242)) (.recs (.int .i64 (.bool .nil)) ((F.d_do lim k n 0 ⟨l0, c0, p0, o0, l1, c1, p1, o1, w0, w1⟩).w1))]), (1, .tok), (2, .tok)], [.one (.ptr 0 0), Any, Any]⟩
  | _, _ => none
set_option maxHeartbeats 4000000 in
set_option maxRecDepth 100000 in
theorem x_mdo0 (k : Int) (oa : Int) (ob : Int) (n : Int) (ow : Int) (lim : Int) (l0 : Int) (c0 : Int) (p0 : Int) (o0 : Bool) (l1 : Int) (c1 : Int) (p1 : Int) (o1 : Bool) (w0 : List E) (w1 : List E) (hC : Ms.std.d_le2 ⟨l0, c0, p0, o0, l1, c1, p1, o1, w0, w1⟩ = true) : Does [(142, c_opening HaR.Fs.std), (122, c_hclose HaR.Fs.std), (143, c_blow BwS.Bw.std), (144, c_mhear Ms.std)] Try.f80 [.one (.ptr 0 0), .agg [.val (.int .i64 k), .val (.int .i64 oa), .val (.int .i64 ob), .val (.int .i64 n), .val (.int .i64 ow)], .one (.num .i64 0)] [(0, .cells 163 [.val (.int .i64 lim), .val (.int .i64 l0), .val (.int .i64 c0), .val (.int .i64 p0), .val (.bool o0), .val (.int .i64 l1), .val (.int .i64 c1), .val (.int .i64 p1), .val (.bool o1), .sl (some (1, 242)) (.recs (.int .i64 (.bool .nil)) w0), .sl (some (2, 242)) (.recs (.int .i64 (.bool .nil)) w1)]), (1, .tok), (2, .tok)] ⟨Ms.std.d_le2 ⟨l0, c0, p0, o0, l1, c1, p1, o1, w0, w1⟩ = true, .tup [], [(0, .cells 163 [.val (.int .i64 lim), .val (.int .i64 ((Ms.std.d_do lim k n 0 ⟨l0, c0, p0, o0, l1, c1, p1, o1, w0, w1⟩).l0)), .val (.int .i64 ((Ms.std.d_do lim k n 0 ⟨l0, c0, p0, o0, l1, c1, p1, o1, w0, w1⟩).c0)), .val (.int .i64 ((Ms.std.d_do lim k n 0 ⟨l0, c0, p0, o0, l1, c1, p1, o1, w0, w1⟩).p0)), .val (.bool ((Ms.std.d_do lim k n 0 ⟨l0, c0, p0, o0, l1, c1, p1, o1, w0, w1⟩).o0)), .val (.int .i64 ((Ms.std.d_do lim k n 0 ⟨l0, c0, p0, o0, l1, c1, p1, o1, w0, w1⟩).l1)), .val (.int .i64 ((Ms.std.d_do lim k n 0 ⟨l0, c0, p0, o0, l1, c1, p1, o1, w0, w1⟩).c1)), .val (.int .i64 ((Ms.std.d_do lim k n 0 ⟨l0, c0, p0, o0, l1, c1, p1, o1, w0, w1⟩).p1)), .val (.bool ((Ms.std.d_do lim k n 0 ⟨l0, c0, p0, o0, l1, c1, p1, o1, w0, w1⟩).o1)), .sl (some (1, 242)) (.recs (.int .i64 (.bool .nil)) ((Ms.std.d_do lim k n 0 ⟨l0, c0, p0, o0, l1, c1, p1, o1, w0, w1⟩).w0)), .sl (some (2, 242)) (.recs (.int .i64 (.bool .nil)) ((Ms.std.d_do lim k n 0 ⟨l0, c0, p0, o0, l1, c1, p1, o1, w0, w1⟩).w1))]), (1, .tok), (2, .tok)], [.one (.ptr 0 0), Any, Any]⟩ := by
  intro b gv
  have hfs := (FsOk.cons ok_opening (FsOk.cons ok_hclose (FsOk.cons ok_blow (FsOk.cons ok_mhear FsOk.nil rfl) rfl) rfl) rfl)
  generalize hF : Ms.std = F at hC hfs ⊢
  generalize hG0 : HaR.Fs.std = G0 at hC hfs ⊢
  generalize hG1 : BwS.Bw.std = G1 at hC hfs ⊢
  generalize hA : Ar.std = A
  generalize hL : Lp _ _ _ = L
  obtain ⟨Z, zq⟩ := z_all
  refine cd_open (lp_mono hL) zq rfl ?_
  repeat' (first
    | (refine z_open zq ?_; try dsimp only)
    | refine cd_seq zq ?_ (lp_mono hL)
    | refine cd_blk zq ?_
    | refine cd_ret ?_
    | refine cd_skip ?_
    | refine cd_exit ?_
    | refine cd_loop ?_
    | refine cd_cond rfl ?_
    | refine cd_condT rfl ?_
    | refine cd_condF rfl ?_
    | (refine Cd.mk ?_; cbv)
    | (refine Ends1.mk ?_; cbv)
    | (refine Fin1.mk ?_; cbv)
    | exact trivial
    | refine And.intro ?_ ?_
    | refine orf fun _ => ?_
    | refine ort fun _ => ?_)
  all_goals
    clear hL zq Z hfs
    subst hA hF hG0 hG1
    have hb0 := bl_len w0
    have hb1 := bl_len w1
    simp only [Ms.std, HaR.Fs.std, BwS.Bw.std, Ar.std] at *
    try (grind [stdCmp, heM, doM, setH, setW, en, wy])
theorem ok_mdo0 : ConOk Try.prog 80 (c_mdo0 Ms.std) := by
  refine con_of (FsOk.cons ok_opening (FsOk.cons ok_hclose (FsOk.cons ok_blow (FsOk.cons ok_mhear FsOk.nil rfl) rfl) rfl) rfl) Try.func80 rfl rfl fun xs h p hp => ?_
  unfold c_mdo0 at hp
  split at hp
  · cases hp
    exact ⟨lee_le rfl, fun hC _ => x_mdo0 _ _ _ _ _ _ _ _ _ _ _ _ _ _ _ _ hC⟩
  · cases hp

def c_mdo1 (F : Ms) : Con := fun xs h => match xs, h with
  | [.one (.ptr 0 0), .agg [.val (.int .i64 k), .val (.int .i64 _), .val (.int .i64 _), .val (.int .i64 n), .val (.int .i64 _)], .one (.num .i64 1)], [(0, .cells 163 [.val (.int .i64 lim), .val (.int .i64 l0), .val (.int .i64 c0), .val (.int .i64 p0), .val (.bool o0), .val (.int .i64 l1), .val (.int .i64 c1), .val (.int .i64 p1), .val (.bool o1), .sl (some (1, 242)) (.recs (.int .i64 (.bool .nil)) w0), .sl (some (2, 242)) (.recs (.int .i64 (.bool .nil)) w1)]), (1, .tok), (2, .tok)] => some ⟨F.d_le2 ⟨l0, c0, p0, o0, l1, c1, p1, o1, w0, w1⟩ = true, .tup [], [(0, .cells 163 [.val (.int .i64 lim), .val (.int .i64 ((F.d_do lim k n 1 ⟨l0, c0, p0, o0, l1, c1, p1, o1, w0, w1⟩).l0)), .val (.int .i64 ((F.d_do lim k n 1 ⟨l0, c0, p0, o0, l1, c1, p1, o1, w0, w1⟩).c0)), .val (.int .i64 ((F.d_do lim k n 1 ⟨l0, c0, p0, o0, l1, c1, p1, o1, w0, w1⟩).p0)), .val (.bool ((F.d_do lim k n 1 ⟨l0, c0, p0, o0, l1, c1, p1, o1, w0, w1⟩).o0)), .val (.int .i64 ((F.d_do lim k n 1 ⟨l0, c0, p0, o0, l1, c1, p1, o1, w0, w1⟩).l1)), .val (.int .i64 ((F.d_do lim k n 1 ⟨l0, c0, p0, o0, l1, c1, p1, o1, w0, w1⟩).c1)), .val (.int .i64 ((F.d_do lim k n 1 ⟨l0, c0, p0, o0, l1, c1, p1, o1, w0, w1⟩).p1)), .val (.bool ((F.d_do lim k n 1 ⟨l0, c0, p0, o0, l1, c1, p1, o1, w0, w1⟩).o1)), .sl (some (1, 242)) (.recs (.int .i64 (.bool .nil)) ((F.d_do lim k n 1 ⟨l0, c0, p0, o0, l1, c1, p1, o1, w0, w1⟩).w0)), .sl (some (2, 242)) (.recs (.int .i64 (.bool .nil)) ((F.d_do lim k n 1 ⟨l0, c0, p0, o0, l1, c1, p1, o1, w0, w1⟩).w1))]), (1, .tok), (2, .tok)], [.one (.ptr 0 0), Any, Any]⟩
  | _, _ => none
set_option maxHeartbeats 4000000 in
set_option maxRecDepth 100000 in
theorem x_mdo1 (k : Int) (oa : Int) (ob : Int) (n : Int) (ow : Int) (lim : Int) (l0 : Int) (c0 : Int) (p0 : Int) (o0 : Bool) (l1 : Int) (c1 : Int) (p1 : Int) (o1 : Bool) (w0 : List E) (w1 : List E) (hC : Ms.std.d_le2 ⟨l0, c0, p0, o0, l1, c1, p1, o1, w0, w1⟩ = true) : Does [(142, c_opening HaR.Fs.std), (122, c_hclose HaR.Fs.std), (143, c_blow BwS.Bw.std), (144, c_mhear Ms.std)] Try.f80 [.one (.ptr 0 0), .agg [.val (.int .i64 k), .val (.int .i64 oa), .val (.int .i64 ob), .val (.int .i64 n), .val (.int .i64 ow)], .one (.num .i64 1)] [(0, .cells 163 [.val (.int .i64 lim), .val (.int .i64 l0), .val (.int .i64 c0), .val (.int .i64 p0), .val (.bool o0), .val (.int .i64 l1), .val (.int .i64 c1), .val (.int .i64 p1), .val (.bool o1), .sl (some (1, 242)) (.recs (.int .i64 (.bool .nil)) w0), .sl (some (2, 242)) (.recs (.int .i64 (.bool .nil)) w1)]), (1, .tok), (2, .tok)] ⟨Ms.std.d_le2 ⟨l0, c0, p0, o0, l1, c1, p1, o1, w0, w1⟩ = true, .tup [], [(0, .cells 163 [.val (.int .i64 lim), .val (.int .i64 ((Ms.std.d_do lim k n 1 ⟨l0, c0, p0, o0, l1, c1, p1, o1, w0, w1⟩).l0)), .val (.int .i64 ((Ms.std.d_do lim k n 1 ⟨l0, c0, p0, o0, l1, c1, p1, o1, w0, w1⟩).c0)), .val (.int .i64 ((Ms.std.d_do lim k n 1 ⟨l0, c0, p0, o0, l1, c1, p1, o1, w0, w1⟩).p0)), .val (.bool ((Ms.std.d_do lim k n 1 ⟨l0, c0, p0, o0, l1, c1, p1, o1, w0, w1⟩).o0)), .val (.int .i64 ((Ms.std.d_do lim k n 1 ⟨l0, c0, p0, o0, l1, c1, p1, o1, w0, w1⟩).l1)), .val (.int .i64 ((Ms.std.d_do lim k n 1 ⟨l0, c0, p0, o0, l1, c1, p1, o1, w0, w1⟩).c1)), .val (.int .i64 ((Ms.std.d_do lim k n 1 ⟨l0, c0, p0, o0, l1, c1, p1, o1, w0, w1⟩).p1)), .val (.bool ((Ms.std.d_do lim k n 1 ⟨l0, c0, p0, o0, l1, c1, p1, o1, w0, w1⟩).o1)), .sl (some (1, 242)) (.recs (.int .i64 (.bool .nil)) ((Ms.std.d_do lim k n 1 ⟨l0, c0, p0, o0, l1, c1, p1, o1, w0, w1⟩).w0)), .sl (some (2, 242)) (.recs (.int .i64 (.bool .nil)) ((Ms.std.d_do lim k n 1 ⟨l0, c0, p0, o0, l1, c1, p1, o1, w0, w1⟩).w1))]), (1, .tok), (2, .tok)], [.one (.ptr 0 0), Any, Any]⟩ := by
  intro b gv
  have hfs := (FsOk.cons ok_opening (FsOk.cons ok_hclose (FsOk.cons ok_blow (FsOk.cons ok_mhear FsOk.nil rfl) rfl) rfl) rfl)
  generalize hF : Ms.std = F at hC hfs ⊢
  generalize hG0 : HaR.Fs.std = G0 at hC hfs ⊢
  generalize hG1 : BwS.Bw.std = G1 at hC hfs ⊢
  generalize hA : Ar.std = A
  generalize hL : Lp _ _ _ = L
  obtain ⟨Z, zq⟩ := z_all
  refine cd_open (lp_mono hL) zq rfl ?_
  repeat' (first
    | (refine z_open zq ?_; try dsimp only)
    | refine cd_seq zq ?_ (lp_mono hL)
    | refine cd_blk zq ?_
    | refine cd_ret ?_
    | refine cd_skip ?_
    | refine cd_exit ?_
    | refine cd_loop ?_
    | refine cd_cond rfl ?_
    | refine cd_condT rfl ?_
    | refine cd_condF rfl ?_
    | (refine Cd.mk ?_; cbv)
    | (refine Ends1.mk ?_; cbv)
    | (refine Fin1.mk ?_; cbv)
    | exact trivial
    | refine And.intro ?_ ?_
    | refine orf fun _ => ?_
    | refine ort fun _ => ?_)
  all_goals
    clear hL zq Z hfs
    subst hA hF hG0 hG1
    have hb0 := bl_len w0
    have hb1 := bl_len w1
    simp only [Ms.std, HaR.Fs.std, BwS.Bw.std, Ar.std] at *
    try (grind [stdCmp, heM, doM, setH, setW, en, wy])
theorem ok_mdo1 : ConOk Try.prog 80 (c_mdo1 Ms.std) := by
  refine con_of (FsOk.cons ok_opening (FsOk.cons ok_hclose (FsOk.cons ok_blow (FsOk.cons ok_mhear FsOk.nil rfl) rfl) rfl) rfl) Try.func80 rfl rfl fun xs h p hp => ?_
  unfold c_mdo1 at hp
  split at hp
  · cases hp
    exact ⟨lee_le rfl, fun hC _ => x_mdo1 _ _ _ _ _ _ _ _ _ _ _ _ _ _ _ _ hC⟩
  · cases hp

def c_mdo (F : Ms) : Con := fun xs h => match xs, h with
  | [.one (.ptr 0 0), .agg [.val (.int .i64 k), .val (.int .i64 _), .val (.int .i64 _), .val (.int .i64 n), .val (.int .i64 _)], .one (.val (.int .i64 en))], [(0, .cells 163 [.val (.int .i64 lim), .val (.int .i64 l0), .val (.int .i64 c0), .val (.int .i64 p0), .val (.bool o0), .val (.int .i64 l1), .val (.int .i64 c1), .val (.int .i64 p1), .val (.bool o1), .sl (some (1, 242)) (.recs (.int .i64 (.bool .nil)) w0), .sl (some (2, 242)) (.recs (.int .i64 (.bool .nil)) w1)]), (1, .tok), (2, .tok)] => some ⟨(en = 0 ∨ en = 1) ∧ F.d_le2 ⟨l0, c0, p0, o0, l1, c1, p1, o1, w0, w1⟩ = true, .tup [], [(0, .cells 163 [.val (.int .i64 lim), .val (.int .i64 ((F.d_do lim k n en ⟨l0, c0, p0, o0, l1, c1, p1, o1, w0, w1⟩).l0)), .val (.int .i64 ((F.d_do lim k n en ⟨l0, c0, p0, o0, l1, c1, p1, o1, w0, w1⟩).c0)), .val (.int .i64 ((F.d_do lim k n en ⟨l0, c0, p0, o0, l1, c1, p1, o1, w0, w1⟩).p0)), .val (.bool ((F.d_do lim k n en ⟨l0, c0, p0, o0, l1, c1, p1, o1, w0, w1⟩).o0)), .val (.int .i64 ((F.d_do lim k n en ⟨l0, c0, p0, o0, l1, c1, p1, o1, w0, w1⟩).l1)), .val (.int .i64 ((F.d_do lim k n en ⟨l0, c0, p0, o0, l1, c1, p1, o1, w0, w1⟩).c1)), .val (.int .i64 ((F.d_do lim k n en ⟨l0, c0, p0, o0, l1, c1, p1, o1, w0, w1⟩).p1)), .val (.bool ((F.d_do lim k n en ⟨l0, c0, p0, o0, l1, c1, p1, o1, w0, w1⟩).o1)), .sl (some (1, 242)) (.recs (.int .i64 (.bool .nil)) ((F.d_do lim k n en ⟨l0, c0, p0, o0, l1, c1, p1, o1, w0, w1⟩).w0)), .sl (some (2, 242)) (.recs (.int .i64 (.bool .nil)) ((F.d_do lim k n en ⟨l0, c0, p0, o0, l1, c1, p1, o1, w0, w1⟩).w1))]), (1, .tok), (2, .tok)], [.one (.ptr 0 0), Any, Any]⟩
  | _, _ => none
theorem ok_mdo : ConOk Try.prog 80 (c_mdo Ms.std) := by
  refine ⟨ok_mdo0.1, fun args h p hc hC G vs h1 h2 h3 hv => ?_⟩
  unfold c_mdo at hc
  split at hc
  · rename_i k oa ob n ow en lim l0 c0 p0 o0 l1 c1 p1 o1 w0 w1
    cases hc
    obtain ⟨he, hl⟩ := hC
    rcases he with rfl | rfl
    · have hv' : sasIs G [.one (.ptr 0 0), .agg [.val (.int .i64 k), .val (.int .i64 oa), .val (.int .i64 ob), .val (.int .i64 n), .val (.int .i64 ow)], .one (.num .i64 0)] vs := by
        match vs, hv with
        | [_, _, _], hv => exact hv
      have := ok_mdo0.2 [.one (.ptr 0 0), .agg [.val (.int .i64 k), .val (.int .i64 oa), .val (.int .i64 ob), .val (.int .i64 n), .val (.int .i64 ow)], .one (.num .i64 0)] _ _ rfl hl G vs h1 h2 h3 hv'
      exact this
    · have hv' : sasIs G [.one (.ptr 0 0), .agg [.val (.int .i64 k), .val (.int .i64 oa), .val (.int .i64 ob), .val (.int .i64 n), .val (.int .i64 ow)], .one (.num .i64 1)] vs := by
        match vs, hv with
        | [_, _, _], hv => exact hv
      have := ok_mdo1.2 [.one (.ptr 0 0), .agg [.val (.int .i64 k), .val (.int .i64 oa), .val (.int .i64 ob), .val (.int .i64 n), .val (.int .i64 ow)], .one (.num .i64 1)] _ _ rfl hl G vs h1 h2 h3 hv'
      exact this
  · cases hc
end Go.Proofs.Ytgemoemkgcmcgaa.MeR
