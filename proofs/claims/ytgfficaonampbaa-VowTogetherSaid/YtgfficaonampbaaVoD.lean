/-
  two ends of a vow in any weather, over the reckoner. No condition.
-/
import Derived.Test.YtgfficaonampbaaVoR
import Derived.Test.YtgfficaonampbaaRyOr
namespace Go.Proofs.Ytgfficaonampbaa.VoD
open Go Go.Proofs.Ytgfficaonampbaa.Ry Go.Proofs.Ytgfficaonampbaa.VoR

/-- Two ends, and the words on both ways. -/
structure DS where
  m0 : Int
  t0 : Bool
  b0 : Bool
  o0 : Int
  m1 : Int
  t1 : Bool
  b1 : Bool
  o1 : Int
  w0 : List Int
  w1 : List Int
def setA (e : Int) (d : DS) (v : VT) : DS := if e = 0 then { d with m0 := v.m, t0 := v.t, b0 := v.b, o0 := v.o } else { d with m1 := v.m, t1 := v.t, b1 := v.b, o1 := v.o }
def putW (e : Int) (d : DS) (w : List Int) : DS := if e = 0 then { d with w0 := d.w0 ++ w } else { d with w1 := d.w1 ++ w }
def hearD (e : Int) (d : DS) : DS := if e = 0 then let h := heV d.m1 d.t1 d.b1 d.o1 (d.w0.getD 0 0); putW 1 (setA 1 { d with w0 := d.w0.drop 1 } h) h.w
  else let h := heV d.m0 d.t0 d.b0 d.o0 (d.w1.getD 0 0); putW 0 (setA 0 { d with w1 := d.w1.drop 1 } h) h.w
def on (e : Int) (d : DS) (f : Int → Bool → Bool → Int → VT) : DS := let v := if e = 0 then f d.m0 d.t0 d.b0 d.o0 else f d.m1 d.t1 d.b1 d.o1; putW e (setA e d v) v.w
def doD (k e : Int) (d : DS) : DS := if k = 8 then on e d grV else if k = 5 then on e d reV else if k = 9 then on e d paV else if k = 2 then (if (if e = 0 then d.w0.length else d.w1.length) = 0 then d else hearD e d) else d
theorem heV_w (m : Int) (t b : Bool) (o k : Int) : (heV m t b o k).w.length ≤ 1 := by
  unfold heV hvV hfV v0 same
  repeat' split
  all_goals simp
theorem sV_w (m : Int) (t b : Bool) (o : Int) : (grV m t b o).w.length ≤ 1 ∧ (reV m t b o).w.length ≤ 1 ∧ (paV m t b o).w.length ≤ 1 := by
  unfold grV reV paV v0 same
  refine ⟨?_, ?_, ?_⟩ <;> repeat' split
  all_goals simp
def hasW (e : Int) (d : DS) : Bool := decide (0 < (if e = 0 then d.w0.length else d.w1.length))

structure Ds where
  d_hear : Int → DS → DS
  d_do : Int → Int → DS → DS
  d_has : Int → DS → Bool
  d_sm : List Int → Bool → Bool → Bool → List Int → Bool → Bool → Bool → Bool
  d_sh : List Int → Bool
  d_len : DS → Bool
def Ds.std : Ds := ⟨hearD, doD, hasW, smB, fun w => decide (w.length ≤ 1000000), fun d => decide (d.w0.length ≤ 100000 ∧ d.w1.length ≤ 100000)⟩

def c_hear0 (F : Ds) : Con := fun xs h => match xs, h with
  | [.one (.ptr 0 0), .one (.num .i64 0)], [(0, .cells 96 [.val (.int .i64 m0), .val (.bool t0), .val (.bool b0), .val (.int .i64 o0), .val (.int .i64 m1), .val (.bool t1), .val (.bool b1), .val (.int .i64 o1), .sl (some (1, 3)) (.ints .i64 w0), .sl (some (2, 3)) (.ints .i64 w1)]), (1, .tok), (2, .tok)] => some ⟨(F.d_has 0 ⟨m0, t0, b0, o0, m1, t1, b1, o1, w0, w1⟩ && F.d_len ⟨m0, t0, b0, o0, m1, t1, b1, o1, w0, w1⟩) = true, .tup [], [(0, .cells 96 [.val (.int .i64 ((F.d_hear 0 ⟨m0, t0, b0, o0, m1, t1, b1, o1, w0, w1⟩).m0)), .val (.bool ((F.d_hear 0 ⟨m0, t0, b0, o0, m1, t1, b1, o1, w0, w1⟩).t0)), .val (.bool ((F.d_hear 0 ⟨m0, t0, b0, o0, m1, t1, b1, o1, w0, w1⟩).b0)), .val (.int .i64 ((F.d_hear 0 ⟨m0, t0, b0, o0, m1, t1, b1, o1, w0, w1⟩).o0)), .val (.int .i64 ((F.d_hear 0 ⟨m0, t0, b0, o0, m1, t1, b1, o1, w0, w1⟩).m1)), .val (.bool ((F.d_hear 0 ⟨m0, t0, b0, o0, m1, t1, b1, o1, w0, w1⟩).t1)), .val (.bool ((F.d_hear 0 ⟨m0, t0, b0, o0, m1, t1, b1, o1, w0, w1⟩).b1)), .val (.int .i64 ((F.d_hear 0 ⟨m0, t0, b0, o0, m1, t1, b1, o1, w0, w1⟩).o1)), .sl (some (1, 3)) (.ints .i64 ((F.d_hear 0 ⟨m0, t0, b0, o0, m1, t1, b1, o1, w0, w1⟩).w0)), .sl (some (2, 3)) (.ints .i64 ((F.d_hear 0 ⟨m0, t0, b0, o0, m1, t1, b1, o1, w0, w1⟩).w1))]), (1, .tok), (2, .tok)], [.one (.ptr 0 0), Any]⟩
  | _, _ => none
set_option maxHeartbeats 4000000 in
set_option maxRecDepth 100000 in
theorem x_hear0 (m0 : Int) (t0 : Bool) (b0 : Bool) (o0 : Int) (m1 : Int) (t1 : Bool) (b1 : Bool) (o1 : Int) (w0 : List Int) (w1 : List Int) (hC : (Ds.std.d_has 0 ⟨m0, t0, b0, o0, m1, t1, b1, o1, w0, w1⟩ && Ds.std.d_len ⟨m0, t0, b0, o0, m1, t1, b1, o1, w0, w1⟩) = true) : Does [(30, c_hear Fs.std)] Try.f69 [.one (.ptr 0 0), .one (.num .i64 0)] [(0, .cells 96 [.val (.int .i64 m0), .val (.bool t0), .val (.bool b0), .val (.int .i64 o0), .val (.int .i64 m1), .val (.bool t1), .val (.bool b1), .val (.int .i64 o1), .sl (some (1, 3)) (.ints .i64 w0), .sl (some (2, 3)) (.ints .i64 w1)]), (1, .tok), (2, .tok)] ⟨(Ds.std.d_has 0 ⟨m0, t0, b0, o0, m1, t1, b1, o1, w0, w1⟩ && Ds.std.d_len ⟨m0, t0, b0, o0, m1, t1, b1, o1, w0, w1⟩) = true, .tup [], [(0, .cells 96 [.val (.int .i64 ((Ds.std.d_hear 0 ⟨m0, t0, b0, o0, m1, t1, b1, o1, w0, w1⟩).m0)), .val (.bool ((Ds.std.d_hear 0 ⟨m0, t0, b0, o0, m1, t1, b1, o1, w0, w1⟩).t0)), .val (.bool ((Ds.std.d_hear 0 ⟨m0, t0, b0, o0, m1, t1, b1, o1, w0, w1⟩).b0)), .val (.int .i64 ((Ds.std.d_hear 0 ⟨m0, t0, b0, o0, m1, t1, b1, o1, w0, w1⟩).o0)), .val (.int .i64 ((Ds.std.d_hear 0 ⟨m0, t0, b0, o0, m1, t1, b1, o1, w0, w1⟩).m1)), .val (.bool ((Ds.std.d_hear 0 ⟨m0, t0, b0, o0, m1, t1, b1, o1, w0, w1⟩).t1)), .val (.bool ((Ds.std.d_hear 0 ⟨m0, t0, b0, o0, m1, t1, b1, o1, w0, w1⟩).b1)), .val (.int .i64 ((Ds.std.d_hear 0 ⟨m0, t0, b0, o0, m1, t1, b1, o1, w0, w1⟩).o1)), .sl (some (1, 3)) (.ints .i64 ((Ds.std.d_hear 0 ⟨m0, t0, b0, o0, m1, t1, b1, o1, w0, w1⟩).w0)), .sl (some (2, 3)) (.ints .i64 ((Ds.std.d_hear 0 ⟨m0, t0, b0, o0, m1, t1, b1, o1, w0, w1⟩).w1))]), (1, .tok), (2, .tok)], [.one (.ptr 0 0), Any]⟩ := by
  intro b gv
  have hfs := (FsOk.cons ok_hear FsOk.nil rfl)
  generalize hF : Ds.std = F at hC hfs ⊢
  generalize hG0 : Fs.std = G0 at hC hfs ⊢
  generalize hA : Ar.std = A
  generalize hL : Lp _ _ _ = L
  obtain ⟨Z, zq⟩ := z_all
  refine cd_open (lp_mono hL) zq rfl ?_
  repeat' (first
    | (refine z_open zq ?_; try dsimp only)
    | refine cd_seq zq ?_ (lp_mono hL)
    | refine cd_blk zq ?_
    | refine cd_ret ?_
    | refine cd_skip ?_
    | refine cd_exit ?_
    | refine cd_loop ?_
    | refine cd_cond rfl ?_
    | refine cd_condT rfl ?_
    | refine cd_condF rfl ?_
    | (refine Cd.mk ?_; cbv)
    | (refine Ends1.mk ?_; cbv)
    | (refine Fin1.mk ?_; cbv)
    | exact trivial
    | refine And.intro ?_ ?_
    | refine orf fun _ => ?_
    | refine ort fun _ => ?_)
  all_goals
    clear hL zq Z hfs
    subst hF hA hG0
    have e8 : Int.ofNat 8 = 8 := rfl
    have e1 : Int.toNat 1 = 1 := rfl
    have e0 : Int.toNat 0 = 0 := rfl
    have hh1 := heV_w m1 t1 b1 o1 (w0.getD 0 0)
    have hh0 := heV_w m0 t0 b0 o0 (w1.getD 0 0)
    have g1 := sV_w m1 t1 b1 o1
    have g0 := sV_w m0 t0 b0 o0
    simp only [Ds.std, Fs.std, Ar.std, List.nil_append, e8, e1, e0, Int.toNat_natCast, List.take_length] at *
    try (grind [stdCmp, b_add, b_sub, wr, hearD, doD, on, setA, putW, hasW])
theorem ok_hear0 : ConOk Try.prog 69 (c_hear0 Ds.std) := by
  refine con_of (FsOk.cons ok_hear FsOk.nil rfl) Try.func69 rfl rfl fun xs h p hp => ?_
  unfold c_hear0 at hp
  split at hp
  · cases hp
    exact ⟨lee_le rfl, fun hC _ => x_hear0 _ _ _ _ _ _ _ _ _ _ hC⟩
  · cases hp

def c_hear1 (F : Ds) : Con := fun xs h => match xs, h with
  | [.one (.ptr 0 0), .one (.num .i64 1)], [(0, .cells 96 [.val (.int .i64 m0), .val (.bool t0), .val (.bool b0), .val (.int .i64 o0), .val (.int .i64 m1), .val (.bool t1), .val (.bool b1), .val (.int .i64 o1), .sl (some (1, 3)) (.ints .i64 w0), .sl (some (2, 3)) (.ints .i64 w1)]), (1, .tok), (2, .tok)] => some ⟨(F.d_has 1 ⟨m0, t0, b0, o0, m1, t1, b1, o1, w0, w1⟩ && F.d_len ⟨m0, t0, b0, o0, m1, t1, b1, o1, w0, w1⟩) = true, .tup [], [(0, .cells 96 [.val (.int .i64 ((F.d_hear 1 ⟨m0, t0, b0, o0, m1, t1, b1, o1, w0, w1⟩).m0)), .val (.bool ((F.d_hear 1 ⟨m0, t0, b0, o0, m1, t1, b1, o1, w0, w1⟩).t0)), .val (.bool ((F.d_hear 1 ⟨m0, t0, b0, o0, m1, t1, b1, o1, w0, w1⟩).b0)), .val (.int .i64 ((F.d_hear 1 ⟨m0, t0, b0, o0, m1, t1, b1, o1, w0, w1⟩).o0)), .val (.int .i64 ((F.d_hear 1 ⟨m0, t0, b0, o0, m1, t1, b1, o1, w0, w1⟩).m1)), .val (.bool ((F.d_hear 1 ⟨m0, t0, b0, o0, m1, t1, b1, o1, w0, w1⟩).t1)), .val (.bool ((F.d_hear 1 ⟨m0, t0, b0, o0, m1, t1, b1, o1, w0, w1⟩).b1)), .val (.int .i64 ((F.d_hear 1 ⟨m0, t0, b0, o0, m1, t1, b1, o1, w0, w1⟩).o1)), .sl (some (1, 3)) (.ints .i64 ((F.d_hear 1 ⟨m0, t0, b0, o0, m1, t1, b1, o1, w0, w1⟩).w0)), .sl (some (2, 3)) (.ints .i64 ((F.d_hear 1 ⟨m0, t0, b0, o0, m1, t1, b1, o1, w0, w1⟩).w1))]), (1, .tok), (2, .tok)], [.one (.ptr 0 0), Any]⟩
  | _, _ => none
set_option maxHeartbeats 4000000 in
set_option maxRecDepth 100000 in
theorem x_hear1 (m0 : Int) (t0 : Bool) (b0 : Bool) (o0 : Int) (m1 : Int) (t1 : Bool) (b1 : Bool) (o1 : Int) (w0 : List Int) (w1 : List Int) (hC : (Ds.std.d_has 1 ⟨m0, t0, b0, o0, m1, t1, b1, o1, w0, w1⟩ && Ds.std.d_len ⟨m0, t0, b0, o0, m1, t1, b1, o1, w0, w1⟩) = true) : Does [(30, c_hear Fs.std)] Try.f69 [.one (.ptr 0 0), .one (.num .i64 1)] [(0, .cells 96 [.val (.int .i64 m0), .val (.bool t0), .val (.bool b0), .val (.int .i64 o0), .val (.int .i64 m1), .val (.bool t1), .val (.bool b1), .val (.int .i64 o1), .sl (some (1, 3)) (.ints .i64 w0), .sl (some (2, 3)) (.ints .i64 w1)]), (1, .tok), (2, .tok)] ⟨(Ds.std.d_has 1 ⟨m0, t0, b0, o0, m1, t1, b1, o1, w0, w1⟩ && Ds.std.d_len ⟨m0, t0, b0, o0, m1, t1, b1, o1, w0, w1⟩) = true, .tup [], [(0, .cells 96 [.val (.int .i64 ((Ds.std.d_hear 1 ⟨m0, t0, b0, o0, m1, t1, b1, o1, w0, w1⟩).m0)), .val (.bool ((Ds.std.d_hear 1 ⟨m0, t0, b0, o0, m1, t1, b1, o1, w0, w1⟩).t0)), .val (.bool ((Ds.std.d_hear 1 ⟨m0, t0, b0, o0, m1, t1, b1, o1, w0, w1⟩).b0)), .val (.int .i64 ((Ds.std.d_hear 1 ⟨m0, t0, b0, o0, m1, t1, b1, o1, w0, w1⟩).o0)), .val (.int .i64 ((Ds.std.d_hear 1 ⟨m0, t0, b0, o0, m1, t1, b1, o1, w0, w1⟩).m1)), .val (.bool ((Ds.std.d_hear 1 ⟨m0, t0, b0, o0, m1, t1, b1, o1, w0, w1⟩).t1)), .val (.bool ((Ds.std.d_hear 1 ⟨m0, t0, b0, o0, m1, t1, b1, o1, w0, w1⟩).b1)), .val (.int .i64 ((Ds.std.d_hear 1 ⟨m0, t0, b0, o0, m1, t1, b1, o1, w0, w1⟩).o1)), .sl (some (1, 3)) (.ints .i64 ((Ds.std.d_hear 1 ⟨m0, t0, b0, o0, m1, t1, b1, o1, w0, w1⟩).w0)), .sl (some (2, 3)) (.ints .i64 ((Ds.std.d_hear 1 ⟨m0, t0, b0, o0, m1, t1, b1, o1, w0, w1⟩).w1))]), (1, .tok), (2, .tok)], [.one (.ptr 0 0), Any]⟩ := by
  intro b gv
  have hfs := (FsOk.cons ok_hear FsOk.nil rfl)
  generalize hF : Ds.std = F at hC hfs ⊢
  generalize hG0 : Fs.std = G0 at hC hfs ⊢
  generalize hA : Ar.std = A
  generalize hL : Lp _ _ _ = L
  obtain ⟨Z, zq⟩ := z_all
  refine cd_open (lp_mono hL) zq rfl ?_
  repeat' (first
    | (refine z_open zq ?_; try dsimp only)
    | refine cd_seq zq ?_ (lp_mono hL)
    | refine cd_blk zq ?_
    | refine cd_ret ?_
    | refine cd_skip ?_
    | refine cd_exit ?_
    | refine cd_loop ?_
    | refine cd_cond rfl ?_
    | refine cd_condT rfl ?_
    | refine cd_condF rfl ?_
    | (refine Cd.mk ?_; cbv)
    | (refine Ends1.mk ?_; cbv)
    | (refine Fin1.mk ?_; cbv)
    | exact trivial
    | refine And.intro ?_ ?_
    | refine orf fun _ => ?_
    | refine ort fun _ => ?_)
  all_goals
    clear hL zq Z hfs
    subst hF hA hG0
    have e8 : Int.ofNat 8 = 8 := rfl
    have e1 : Int.toNat 1 = 1 := rfl
    have e0 : Int.toNat 0 = 0 := rfl
    have hh1 := heV_w m1 t1 b1 o1 (w0.getD 0 0)
    have hh0 := heV_w m0 t0 b0 o0 (w1.getD 0 0)
    have g1 := sV_w m1 t1 b1 o1
    have g0 := sV_w m0 t0 b0 o0
    simp only [Ds.std, Fs.std, Ar.std, List.nil_append, e8, e1, e0, Int.toNat_natCast, List.take_length] at *
    try (grind [stdCmp, b_add, b_sub, wr, hearD, doD, on, setA, putW, hasW])
theorem ok_hear1 : ConOk Try.prog 69 (c_hear1 Ds.std) := by
  refine con_of (FsOk.cons ok_hear FsOk.nil rfl) Try.func69 rfl rfl fun xs h p hp => ?_
  unfold c_hear1 at hp
  split at hp
  · cases hp
    exact ⟨lee_le rfl, fun hC _ => x_hear1 _ _ _ _ _ _ _ _ _ _ hC⟩
  · cases hp

def c_dhear (F : Ds) : Con := fun xs h => match xs, h with
  | [.one (.ptr 0 0), .one (.val (.int .i64 en))], [(0, .cells 96 [.val (.int .i64 m0), .val (.bool t0), .val (.bool b0), .val (.int .i64 o0), .val (.int .i64 m1), .val (.bool t1), .val (.bool b1), .val (.int .i64 o1), .sl (some (1, 3)) (.ints .i64 w0), .sl (some (2, 3)) (.ints .i64 w1)]), (1, .tok), (2, .tok)] => some ⟨(en = 0 ∨ en = 1) ∧ (F.d_has en ⟨m0, t0, b0, o0, m1, t1, b1, o1, w0, w1⟩ && F.d_len ⟨m0, t0, b0, o0, m1, t1, b1, o1, w0, w1⟩) = true, .tup [], [(0, .cells 96 [.val (.int .i64 ((F.d_hear en ⟨m0, t0, b0, o0, m1, t1, b1, o1, w0, w1⟩).m0)), .val (.bool ((F.d_hear en ⟨m0, t0, b0, o0, m1, t1, b1, o1, w0, w1⟩).t0)), .val (.bool ((F.d_hear en ⟨m0, t0, b0, o0, m1, t1, b1, o1, w0, w1⟩).b0)), .val (.int .i64 ((F.d_hear en ⟨m0, t0, b0, o0, m1, t1, b1, o1, w0, w1⟩).o0)), .val (.int .i64 ((F.d_hear en ⟨m0, t0, b0, o0, m1, t1, b1, o1, w0, w1⟩).m1)), .val (.bool ((F.d_hear en ⟨m0, t0, b0, o0, m1, t1, b1, o1, w0, w1⟩).t1)), .val (.bool ((F.d_hear en ⟨m0, t0, b0, o0, m1, t1, b1, o1, w0, w1⟩).b1)), .val (.int .i64 ((F.d_hear en ⟨m0, t0, b0, o0, m1, t1, b1, o1, w0, w1⟩).o1)), .sl (some (1, 3)) (.ints .i64 ((F.d_hear en ⟨m0, t0, b0, o0, m1, t1, b1, o1, w0, w1⟩).w0)), .sl (some (2, 3)) (.ints .i64 ((F.d_hear en ⟨m0, t0, b0, o0, m1, t1, b1, o1, w0, w1⟩).w1))]), (1, .tok), (2, .tok)], [.one (.ptr 0 0), Any]⟩
  | _, _ => none
theorem ok_dhear : ConOk Try.prog 69 (c_dhear Ds.std) := by
  refine ⟨ok_hear0.1, fun args h p hc hC G vs h1 h2 h3 hv => ?_⟩
  unfold c_dhear at hc
  split at hc
  · rename_i en m0 t0 b0 o0 m1 t1 b1 o1 w0 w1
    cases hc
    obtain ⟨he, hl⟩ := hC
    rcases he with rfl | rfl
    · have hv' : sasIs G [.one (.ptr 0 0), .one (.num .i64 0)] vs := by
        match vs, hv with
        | [_, _], hv => exact hv
      have := ok_hear0.2 [.one (.ptr 0 0), .one (.num .i64 0)] _ _ rfl hl G vs h1 h2 h3 hv'
      exact this
    · have hv' : sasIs G [.one (.ptr 0 0), .one (.num .i64 1)] vs := by
        match vs, hv with
        | [_, _], hv => exact hv
      have := ok_hear1.2 [.one (.ptr 0 0), .one (.num .i64 1)] _ _ rfl hl G vs h1 h2 h3 hv'
      exact this
  · cases hc

def c_do0 (F : Ds) : Con := fun xs h => match xs, h with
  | [.one (.ptr 0 0), .one (.val (.int .i64 k)), .one (.num .i64 0)], [(0, .cells 96 [.val (.int .i64 m0), .val (.bool t0), .val (.bool b0), .val (.int .i64 o0), .val (.int .i64 m1), .val (.bool t1), .val (.bool b1), .val (.int .i64 o1), .sl (some (1, 3)) (.ints .i64 w0), .sl (some (2, 3)) (.ints .i64 w1)]), (1, .tok), (2, .tok)] => some ⟨F.d_len ⟨m0, t0, b0, o0, m1, t1, b1, o1, w0, w1⟩ = true, .tup [], [(0, .cells 96 [.val (.int .i64 ((F.d_do k 0 ⟨m0, t0, b0, o0, m1, t1, b1, o1, w0, w1⟩).m0)), .val (.bool ((F.d_do k 0 ⟨m0, t0, b0, o0, m1, t1, b1, o1, w0, w1⟩).t0)), .val (.bool ((F.d_do k 0 ⟨m0, t0, b0, o0, m1, t1, b1, o1, w0, w1⟩).b0)), .val (.int .i64 ((F.d_do k 0 ⟨m0, t0, b0, o0, m1, t1, b1, o1, w0, w1⟩).o0)), .val (.int .i64 ((F.d_do k 0 ⟨m0, t0, b0, o0, m1, t1, b1, o1, w0, w1⟩).m1)), .val (.bool ((F.d_do k 0 ⟨m0, t0, b0, o0, m1, t1, b1, o1, w0, w1⟩).t1)), .val (.bool ((F.d_do k 0 ⟨m0, t0, b0, o0, m1, t1, b1, o1, w0, w1⟩).b1)), .val (.int .i64 ((F.d_do k 0 ⟨m0, t0, b0, o0, m1, t1, b1, o1, w0, w1⟩).o1)), .sl (some (1, 3)) (.ints .i64 ((F.d_do k 0 ⟨m0, t0, b0, o0, m1, t1, b1, o1, w0, w1⟩).w0)), .sl (some (2, 3)) (.ints .i64 ((F.d_do k 0 ⟨m0, t0, b0, o0, m1, t1, b1, o1, w0, w1⟩).w1))]), (1, .tok), (2, .tok)], [.one (.ptr 0 0), Any, Any]⟩
  | _, _ => none
set_option maxHeartbeats 4000000 in
set_option maxRecDepth 100000 in
theorem x_do0 (k : Int) (m0 : Int) (t0 : Bool) (b0 : Bool) (o0 : Int) (m1 : Int) (t1 : Bool) (b1 : Bool) (o1 : Int) (w0 : List Int) (w1 : List Int) (hC : Ds.std.d_len ⟨m0, t0, b0, o0, m1, t1, b1, o1, w0, w1⟩ = true) : Does [(27, c_grant Fs.std), (28, c_recant Fs.std), (29, c_part Fs.std), (69, c_dhear Ds.std)] Try.f60 [.one (.ptr 0 0), .one (.val (.int .i64 k)), .one (.num .i64 0)] [(0, .cells 96 [.val (.int .i64 m0), .val (.bool t0), .val (.bool b0), .val (.int .i64 o0), .val (.int .i64 m1), .val (.bool t1), .val (.bool b1), .val (.int .i64 o1), .sl (some (1, 3)) (.ints .i64 w0), .sl (some (2, 3)) (.ints .i64 w1)]), (1, .tok), (2, .tok)] ⟨Ds.std.d_len ⟨m0, t0, b0, o0, m1, t1, b1, o1, w0, w1⟩ = true, .tup [], [(0, .cells 96 [.val (.int .i64 ((Ds.std.d_do k 0 ⟨m0, t0, b0, o0, m1, t1, b1, o1, w0, w1⟩).m0)), .val (.bool ((Ds.std.d_do k 0 ⟨m0, t0, b0, o0, m1, t1, b1, o1, w0, w1⟩).t0)), .val (.bool ((Ds.std.d_do k 0 ⟨m0, t0, b0, o0, m1, t1, b1, o1, w0, w1⟩).b0)), .val (.int .i64 ((Ds.std.d_do k 0 ⟨m0, t0, b0, o0, m1, t1, b1, o1, w0, w1⟩).o0)), .val (.int .i64 ((Ds.std.d_do k 0 ⟨m0, t0, b0, o0, m1, t1, b1, o1, w0, w1⟩).m1)), .val (.bool ((Ds.std.d_do k 0 ⟨m0, t0, b0, o0, m1, t1, b1, o1, w0, w1⟩).t1)), .val (.bool ((Ds.std.d_do k 0 ⟨m0, t0, b0, o0, m1, t1, b1, o1, w0, w1⟩).b1)), .val (.int .i64 ((Ds.std.d_do k 0 ⟨m0, t0, b0, o0, m1, t1, b1, o1, w0, w1⟩).o1)), .sl (some (1, 3)) (.ints .i64 ((Ds.std.d_do k 0 ⟨m0, t0, b0, o0, m1, t1, b1, o1, w0, w1⟩).w0)), .sl (some (2, 3)) (.ints .i64 ((Ds.std.d_do k 0 ⟨m0, t0, b0, o0, m1, t1, b1, o1, w0, w1⟩).w1))]), (1, .tok), (2, .tok)], [.one (.ptr 0 0), Any, Any]⟩ := by
  intro b gv
  have hfs := (FsOk.cons ok_grant (FsOk.cons ok_recant (FsOk.cons ok_part (FsOk.cons ok_dhear FsOk.nil rfl) rfl) rfl) rfl)
  generalize hF : Ds.std = F at hC hfs ⊢
  generalize hG0 : Fs.std = G0 at hC hfs ⊢
  generalize hA : Ar.std = A
  generalize hL : Lp _ _ _ = L
  obtain ⟨Z, zq⟩ := z_all
  refine cd_open (lp_mono hL) zq rfl ?_
  repeat' (first
    | (refine z_open zq ?_; try dsimp only)
    | refine cd_seq zq ?_ (lp_mono hL)
    | refine cd_blk zq ?_
    | refine cd_ret ?_
    | refine cd_skip ?_
    | refine cd_exit ?_
    | refine cd_loop ?_
    | refine cd_cond rfl ?_
    | refine cd_condT rfl ?_
    | refine cd_condF rfl ?_
    | (refine Cd.mk ?_; cbv)
    | (refine Ends1.mk ?_; cbv)
    | (refine Fin1.mk ?_; cbv)
    | exact trivial
    | refine And.intro ?_ ?_
    | refine orf fun _ => ?_
    | refine ort fun _ => ?_)
  all_goals
    clear hL zq Z hfs
    subst hF hA hG0
    have e8 : Int.ofNat 8 = 8 := rfl
    have e1 : Int.toNat 1 = 1 := rfl
    have e0 : Int.toNat 0 = 0 := rfl
    have hh1 := heV_w m1 t1 b1 o1 (w0.getD 0 0)
    have hh0 := heV_w m0 t0 b0 o0 (w1.getD 0 0)
    have g1 := sV_w m1 t1 b1 o1
    have g0 := sV_w m0 t0 b0 o0
    simp only [Ds.std, Fs.std, Ar.std, List.nil_append, e8, e1, e0, Int.toNat_natCast, List.take_length] at *
    try (grind [stdCmp, b_add, b_sub, wr, hearD, doD, on, setA, putW, hasW])
theorem ok_do0 : ConOk Try.prog 60 (c_do0 Ds.std) := by
  refine con_of (FsOk.cons ok_grant (FsOk.cons ok_recant (FsOk.cons ok_part (FsOk.cons ok_dhear FsOk.nil rfl) rfl) rfl) rfl) Try.func60 rfl rfl fun xs h p hp => ?_
  unfold c_do0 at hp
  split at hp
  · cases hp
    exact ⟨lee_le rfl, fun hC _ => x_do0 _ _ _ _ _ _ _ _ _ _ _ hC⟩
  · cases hp

def c_do1 (F : Ds) : Con := fun xs h => match xs, h with
  | [.one (.ptr 0 0), .one (.val (.int .i64 k)), .one (.num .i64 1)], [(0, .cells 96 [.val (.int .i64 m0), .val (.bool t0), .val (.bool b0), .val (.int .i64 o0), .val (.int .i64 m1), .val (.bool t1), .val (.bool b1), .val (.int .i64 o1), .sl (some (1, 3)) (.ints .i64 w0), .sl (some (2, 3)) (.ints .i64 w1)]), (1, .tok), (2, .tok)] => some ⟨F.d_len ⟨m0, t0, b0, o0, m1, t1, b1, o1, w0, w1⟩ = true, .tup [], [(0, .cells 96 [.val (.int .i64 ((F.d_do k 1 ⟨m0, t0, b0, o0, m1, t1, b1, o1, w0, w1⟩).m0)), .val (.bool ((F.d_do k 1 ⟨m0, t0, b0, o0, m1, t1, b1, o1, w0, w1⟩).t0)), .val (.bool ((F.d_do k 1 ⟨m0, t0, b0, o0, m1, t1, b1, o1, w0, w1⟩).b0)), .val (.int .i64 ((F.d_do k 1 ⟨m0, t0, b0, o0, m1, t1, b1, o1, w0, w1⟩).o0)), .val (.int .i64 ((F.d_do k 1 ⟨m0, t0, b0, o0, m1, t1, b1, o1, w0, w1⟩).m1)), .val (.bool ((F.d_do k 1 ⟨m0, t0, b0, o0, m1, t1, b1, o1, w0, w1⟩).t1)), .val (.bool ((F.d_do k 1 ⟨m0, t0, b0, o0, m1, t1, b1, o1, w0, w1⟩).b1)), .val (.int .i64 ((F.d_do k 1 ⟨m0, t0, b0, o0, m1, t1, b1, o1, w0, w1⟩).o1)), .sl (some (1, 3)) (.ints .i64 ((F.d_do k 1 ⟨m0, t0, b0, o0, m1, t1, b1, o1, w0, w1⟩).w0)), .sl (some (2, 3)) (.ints .i64 ((F.d_do k 1 ⟨m0, t0, b0, o0, m1, t1, b1, o1, w0, w1⟩).w1))]), (1, .tok), (2, .tok)], [.one (.ptr 0 0), Any, Any]⟩
  | _, _ => none
set_option maxHeartbeats 4000000 in
set_option maxRecDepth 100000 in
theorem x_do1 (k : Int) (m0 : Int) (t0 : Bool) (b0 : Bool) (o0 : Int) (m1 : Int) (t1 : Bool) (b1 : Bool) (o1 : Int) (w0 : List Int) (w1 : List Int) (hC : Ds.std.d_len ⟨m0, t0, b0, o0, m1, t1, b1, o1, w0, w1⟩ = true) : Does [(27, c_grant Fs.std), (28, c_recant Fs.std), (29, c_part Fs.std), (69, c_dhear Ds.std)] Try.f60 [.one (.ptr 0 0), .one (.val (.int .i64 k)), .one (.num .i64 1)] [(0, .cells 96 [.val (.int .i64 m0), .val (.bool t0), .val (.bool b0), .val (.int .i64 o0), .val (.int .i64 m1), .val (.bool t1), .val (.bool b1), .val (.int .i64 o1), .sl (some (1, 3)) (.ints .i64 w0), .sl (some (2, 3)) (.ints .i64 w1)]), (1, .tok), (2, .tok)] ⟨Ds.std.d_len ⟨m0, t0, b0, o0, m1, t1, b1, o1, w0, w1⟩ = true, .tup [], [(0, .cells 96 [.val (.int .i64 ((Ds.std.d_do k 1 ⟨m0, t0, b0, o0, m1, t1, b1, o1, w0, w1⟩).m0)), .val (.bool ((Ds.std.d_do k 1 ⟨m0, t0, b0, o0, m1, t1, b1, o1, w0, w1⟩).t0)), .val (.bool ((Ds.std.d_do k 1 ⟨m0, t0, b0, o0, m1, t1, b1, o1, w0, w1⟩).b0)), .val (.int .i64 ((Ds.std.d_do k 1 ⟨m0, t0, b0, o0, m1, t1, b1, o1, w0, w1⟩).o0)), .val (.int .i64 ((Ds.std.d_do k 1 ⟨m0, t0, b0, o0, m1, t1, b1, o1, w0, w1⟩).m1)), .val (.bool ((Ds.std.d_do k 1 ⟨m0, t0, b0, o0, m1, t1, b1, o1, w0, w1⟩).t1)), .val (.bool ((Ds.std.d_do k 1 ⟨m0, t0, b0, o0, m1, t1, b1, o1, w0, w1⟩).b1)), .val (.int .i64 ((Ds.std.d_do k 1 ⟨m0, t0, b0, o0, m1, t1, b1, o1, w0, w1⟩).o1)), .sl (some (1, 3)) (.ints .i64 ((Ds.std.d_do k 1 ⟨m0, t0, b0, o0, m1, t1, b1, o1, w0, w1⟩).w0)), .sl (some (2, 3)) (.ints .i64 ((Ds.std.d_do k 1 ⟨m0, t0, b0, o0, m1, t1, b1, o1, w0, w1⟩).w1))]), (1, .tok), (2, .tok)], [.one (.ptr 0 0), Any, Any]⟩ := by
  intro b gv
  have hfs := (FsOk.cons ok_grant (FsOk.cons ok_recant (FsOk.cons ok_part (FsOk.cons ok_dhear FsOk.nil rfl) rfl) rfl) rfl)
  generalize hF : Ds.std = F at hC hfs ⊢
  generalize hG0 : Fs.std = G0 at hC hfs ⊢
  generalize hA : Ar.std = A
  generalize hL : Lp _ _ _ = L
  obtain ⟨Z, zq⟩ := z_all
  refine cd_open (lp_mono hL) zq rfl ?_
  repeat' (first
    | (refine z_open zq ?_; try dsimp only)
    | refine cd_seq zq ?_ (lp_mono hL)
    | refine cd_blk zq ?_
    | refine cd_ret ?_
    | refine cd_skip ?_
    | refine cd_exit ?_
    | refine cd_loop ?_
    | refine cd_cond rfl ?_
    | refine cd_condT rfl ?_
    | refine cd_condF rfl ?_
    | (refine Cd.mk ?_; cbv)
    | (refine Ends1.mk ?_; cbv)
    | (refine Fin1.mk ?_; cbv)
    | exact trivial
    | refine And.intro ?_ ?_
    | refine orf fun _ => ?_
    | refine ort fun _ => ?_)
  all_goals
    clear hL zq Z hfs
    subst hF hA hG0
    have e8 : Int.ofNat 8 = 8 := rfl
    have e1 : Int.toNat 1 = 1 := rfl
    have e0 : Int.toNat 0 = 0 := rfl
    have hh1 := heV_w m1 t1 b1 o1 (w0.getD 0 0)
    have hh0 := heV_w m0 t0 b0 o0 (w1.getD 0 0)
    have g1 := sV_w m1 t1 b1 o1
    have g0 := sV_w m0 t0 b0 o0
    simp only [Ds.std, Fs.std, Ar.std, List.nil_append, e8, e1, e0, Int.toNat_natCast, List.take_length] at *
    try (grind [stdCmp, b_add, b_sub, wr, hearD, doD, on, setA, putW, hasW])
theorem ok_do1 : ConOk Try.prog 60 (c_do1 Ds.std) := by
  refine con_of (FsOk.cons ok_grant (FsOk.cons ok_recant (FsOk.cons ok_part (FsOk.cons ok_dhear FsOk.nil rfl) rfl) rfl) rfl) Try.func60 rfl rfl fun xs h p hp => ?_
  unfold c_do1 at hp
  split at hp
  · cases hp
    exact ⟨lee_le rfl, fun hC _ => x_do1 _ _ _ _ _ _ _ _ _ _ _ hC⟩
  · cases hp

def c_ddo (F : Ds) : Con := fun xs h => match xs, h with
  | [.one (.ptr 0 0), .one (.val (.int .i64 k)), .one (.val (.int .i64 en))], [(0, .cells 96 [.val (.int .i64 m0), .val (.bool t0), .val (.bool b0), .val (.int .i64 o0), .val (.int .i64 m1), .val (.bool t1), .val (.bool b1), .val (.int .i64 o1), .sl (some (1, 3)) (.ints .i64 w0), .sl (some (2, 3)) (.ints .i64 w1)]), (1, .tok), (2, .tok)] => some ⟨(en = 0 ∨ en = 1) ∧ F.d_len ⟨m0, t0, b0, o0, m1, t1, b1, o1, w0, w1⟩ = true, .tup [], [(0, .cells 96 [.val (.int .i64 ((F.d_do k en ⟨m0, t0, b0, o0, m1, t1, b1, o1, w0, w1⟩).m0)), .val (.bool ((F.d_do k en ⟨m0, t0, b0, o0, m1, t1, b1, o1, w0, w1⟩).t0)), .val (.bool ((F.d_do k en ⟨m0, t0, b0, o0, m1, t1, b1, o1, w0, w1⟩).b0)), .val (.int .i64 ((F.d_do k en ⟨m0, t0, b0, o0, m1, t1, b1, o1, w0, w1⟩).o0)), .val (.int .i64 ((F.d_do k en ⟨m0, t0, b0, o0, m1, t1, b1, o1, w0, w1⟩).m1)), .val (.bool ((F.d_do k en ⟨m0, t0, b0, o0, m1, t1, b1, o1, w0, w1⟩).t1)), .val (.bool ((F.d_do k en ⟨m0, t0, b0, o0, m1, t1, b1, o1, w0, w1⟩).b1)), .val (.int .i64 ((F.d_do k en ⟨m0, t0, b0, o0, m1, t1, b1, o1, w0, w1⟩).o1)), .sl (some (1, 3)) (.ints .i64 ((F.d_do k en ⟨m0, t0, b0, o0, m1, t1, b1, o1, w0, w1⟩).w0)), .sl (some (2, 3)) (.ints .i64 ((F.d_do k en ⟨m0, t0, b0, o0, m1, t1, b1, o1, w0, w1⟩).w1))]), (1, .tok), (2, .tok)], [.one (.ptr 0 0), Any, Any]⟩
  | _, _ => none
theorem ok_ddo : ConOk Try.prog 60 (c_ddo Ds.std) := by
  refine ⟨ok_do0.1, fun args h p hc hC G vs h1 h2 h3 hv => ?_⟩
  unfold c_ddo at hc
  split at hc
  · rename_i k en m0 t0 b0 o0 m1 t1 b1 o1 w0 w1
    cases hc
    obtain ⟨he, hl⟩ := hC
    rcases he with rfl | rfl
    · have hv' : sasIs G [.one (.ptr 0 0), .one (.val (.int .i64 k)), .one (.num .i64 0)] vs := by
        match vs, hv with
        | [_, _, _], hv => exact hv
      have := ok_do0.2 [.one (.ptr 0 0), .one (.val (.int .i64 k)), .one (.num .i64 0)] _ _ rfl hl G vs h1 h2 h3 hv'
      exact this
    · have hv' : sasIs G [.one (.ptr 0 0), .one (.val (.int .i64 k)), .one (.num .i64 1)] vs := by
        match vs, hv with
        | [_, _, _], hv => exact hv
      have := ok_do1.2 [.one (.ptr 0 0), .one (.val (.int .i64 k)), .one (.num .i64 1)] _ _ rfl hl G vs h1 h2 h3 hv'
      exact this
  · cases hc

structure XSm where
  i : Int
def smQ (w w' : List Int) (y : XSm) : Prop := 0 ≤ y.i ∧ y.i ≤ w.length ∧ w.take y.i.toNat = w'.take y.i.toNat
noncomputable def smI (x_w : List Int) (x_b x_p x_f : Bool) (y_w : List Int) (y_b y_p y_f : Bool) (y : XSm) : St := stOf Try.f32.ntmps [(2, .ptr 1 0), (3, .ptr 2 0), (5, .val (.int .i64 y.i))] [(1, .cells 46 [.sl none (.ints .i64 x_w), .val (.bool x_b), .val (.bool x_p), .val (.bool x_f)]), (2, .cells 46 [.sl none (.ints .i64 y_w), .val (.bool y_b), .val (.bool y_p), .val (.bool y_f)])] [Any, Any]
def smM (w : List Int) (y : XSm) : Nat := w.length - y.i.toNat
def smR (st : St) : XSm := ⟨slotI st 5⟩
theorem sm_step (w w' : List Int) (i : Int) (hl : w.length = w'.length) (h0 : 0 ≤ i) (hq : w.take i.toNat = w'.take i.toNat) (h : i < w.length) : (w.getD i.toNat 0 = w'.getD i.toNat 0 → w.take (i + 1).toNat = w'.take (i + 1).toNat) ∧ (¬ w.getD i.toNat 0 = w'.getD i.toNat 0 → ¬ w = w') := by
  have e : (i + 1).toNat = i.toNat + 1 := by omega
  have h1 : i.toNat < w.length := by omega
  have h2 : i.toNat < w'.length := by omega
  refine ⟨fun q => ?_, fun q e2 => q (by rw [e2])⟩
  rw [List.getD_eq_getElem?_getD, List.getD_eq_getElem?_getD, List.getElem?_eq_getElem h1, List.getElem?_eq_getElem h2] at q
  have q : w[i.toNat] = w'[i.toNat] := q
  rw [e, List.take_add_one, List.take_add_one, hq, List.getElem?_eq_getElem h1, List.getElem?_eq_getElem h2, q]

def c_rsame (F : Ds) : Con := fun xs h => match xs, h with
  | [.agg [.sl none (.ints .i64 x_w), .val (.bool x_b), .val (.bool x_p), .val (.bool x_f)], .agg [.sl none (.ints .i64 y_w), .val (.bool y_b), .val (.bool y_p), .val (.bool y_f)]], [] => some ⟨F.d_sh x_w = true, .sa (B (F.d_sm x_w x_b x_p x_f y_w y_b y_p y_f)), [], [Any, Any]⟩
  | _, _ => none
set_option maxHeartbeats 2000000 in
set_option maxRecDepth 100000 in
theorem x_rsame (x_w : List Int) (x_b : Bool) (x_p : Bool) (x_f : Bool) (y_w : List Int) (y_b : Bool) (y_p : Bool) (y_f : Bool) (hC : Ds.std.d_sh x_w = true) : Does [] Try.f32 [.agg [.sl none (.ints .i64 x_w), .val (.bool x_b), .val (.bool x_p), .val (.bool x_f)], .agg [.sl none (.ints .i64 y_w), .val (.bool y_b), .val (.bool y_p), .val (.bool y_f)]] [] ⟨Ds.std.d_sh x_w = true, .sa (B (Ds.std.d_sm x_w x_b x_p x_f y_w y_b y_p y_f)), [], [Any, Any]⟩ := by
  intro b gv
  have hw : x_w.length ≤ 1000000 := of_decide_eq_true (show decide (x_w.length ≤ 1000000) = true from hC)
  have hfs := FsOk.nil
  generalize hF : Ds.std = F at hC hfs ⊢
  generalize hA : Ar.std = A
  generalize hL : Lp _ _ _ = L
  obtain ⟨Z, zq⟩ := z_all
  refine cd_open (lp_mono hL) zq rfl ?_
  repeat' (first
    | (refine z_open zq ?_; try dsimp only)
    | refine cd_seq zq ?_ (lp_mono hL)
    | refine cd_blk zq ?_
    | refine cd_ret ?_
    | refine cd_skip ?_
    | refine cd_exit ?_
    | refine cd_loop ?_
    | refine cd_cond rfl ?_
    | refine cd_condT rfl ?_
    | refine cd_condF rfl ?_
    | (refine Cd.mk ?_; cbv)
    | (refine Ends1.mk ?_; cbv)
    | (refine Fin1.mk ?_; cbv)
    | exact trivial
    | refine And.intro ?_ ?_
    | refine orf fun _ => ?_
    | refine ort fun _ => ?_)
  all_goals first | (show L _ _ _; skip) | (clear hfs hL zq Z; subst hF hA; simp only [Ds.std, Ar.std] at * <;> grind [stdCmp, smB]; done)
  rename_i hx
  have hs : x_b = y_b ∧ x_p = y_p ∧ x_f = y_f ∧ x_w.length = y_w.length := by
    clear hfs hL zq Z hF
    subst hA
    simp only [Ar.std] at hx
    grind [stdCmp]
  clear hx
  subst hL
  refine loop_z (cx_ok hfs) (smQ x_w y_w) (smI x_w x_b x_p x_f y_w y_b y_p y_f) (smM x_w) smR ⟨0⟩ ?_ ?_ ?_
  · exact ⟨Int.le_refl 0, Int.natCast_nonneg _, rfl⟩
  · cbv
    repeat' (first | exact trivial | exact rfl | refine And.intro ?_ ?_)
  rintro ⟨i⟩ ⟨q0, q1, q2⟩ O hO
  dsimp only at q0 q1 q2
  have hst := sm_step x_w y_w i hs.2.2.2 q0 q2
  have hen : i = x_w.length → x_w = y_w := fun h => by
    have e : i.toNat = x_w.length := by omega
    have e2 : i.toNat = y_w.length := by omega
    rw [e, List.take_length, ← e, e2, List.take_length] at q2
    exact q2
  subst hA
  generalize hA : Ar.std = A
  generalize hL : Lp _ _ _ = L
  refine cd_close zq ?_
  repeat' (first
    | (refine z_open zq ?_; try dsimp only)
    | refine cd_seq zq ?_ (lp_mono hL)
    | refine cd_blk zq ?_
    | refine cd_ret ?_
    | refine cd_skip ?_
    | refine cd_exit ?_
    | refine cd_loop ?_
    | refine cd_cond rfl ?_
    | refine cd_condT rfl ?_
    | refine cd_condF rfl ?_
    | (refine Cd.mk ?_; cbv)
    | (refine Ends1.mk ?_; cbv)
    | (refine Fin1.mk ?_; cbv)
    | exact trivial
    | refine And.intro ?_ ?_
    | refine orf fun _ => ?_
    | refine ort fun _ => ?_)
  all_goals (clear hL hfs zq Z; subst hA hF hO; simp only [Ds.std, Ar.std] at * <;> grind [stdCmp, b_add, wr, smB, smQ, smM])
theorem ok_rsame : ConOk Try.prog 32 (c_rsame Ds.std) := by
  refine con_of FsOk.nil Try.func32 rfl rfl fun xs h p hp => ?_
  unfold c_rsame at hp
  split at hp
  · cases hp
    exact ⟨lee_le rfl, fun hC _ => x_rsame _ _ _ _ _ _ _ _ hC⟩
  · cases hp
end Go.Proofs.Ytgfficaonampbaa.VoD
