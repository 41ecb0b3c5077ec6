/-
  vows over the reckoner. No condition.
-/
import Derived.Test.YtgfficaonampbaaRyOp
namespace Go.Proofs.Ytgfficaonampbaa.VoR
open Go Go.Proofs.Ytgfficaonampbaa.Ry

/-- An end of a vow, what is told, and an error. -/
structure VT where
  m : Int
  t : Bool
  b : Bool
  o : Int
  w : List Int
  tb : Bool
  tp : Bool
  tf : Bool
  e : Int
def mayB (m : Int) (t b : Bool) (o : Int) : Bool := decide (0 ≤ m ∧ m ≤ 2 ∧ 0 ≤ o ∧ o ≤ 2147483647) && (if b then decide (m = 0) && !t else decide (m = 0) || !t)
def chI (m : Int) (t b : Bool) (o : Int) : Int := if mayB m t b o = true then 0 else 1
def v0 (e : Int) : VT := ⟨0, false, false, 0, [], false, false, false, e⟩
def same (m : Int) (t b : Bool) (o : Int) : VT := ⟨m, t, b, o, [], false, false, false, 0⟩
def owI (m o : Int) : Int := if m = 2 ∧ o < 2147483647 then o + 1 else o
def grV (m : Int) (t b : Bool) (o : Int) : VT := if mayB m t b o = false then v0 1 else if m ≠ 0 ∨ b = true then same m t b o else if t = true then ⟨0, false, true, owI m o, [4], true, false, false, 0⟩ else ⟨1, t, b, o, [4], false, false, false, 0⟩
def reV (m : Int) (t b : Bool) (o : Int) : VT := if mayB m t b o = false then v0 1 else if m ≠ 1 then same m t b o else ⟨2, t, b, o, [5], false, false, false, 0⟩
def paV (m : Int) (t b : Bool) (o : Int) : VT := if mayB m t b o = false then v0 1 else if b = false then same m t b o else ⟨m, t, false, o, [7], false, true, false, 0⟩
def hvV (m : Int) (t b : Bool) (o : Int) : VT := if m ≠ 0 then ⟨0, false, true, owI m o, [], true, false, false, 0⟩ else ⟨m, !b, b, o, [], false, false, false, 0⟩
def hfV (m : Int) (t b : Bool) (o : Int) : VT := if 0 < o then same m t b (o - 1) else if m ≠ 2 then same m t b o else ⟨0, t, b, o, [], false, false, true, 0⟩
def heV (m : Int) (t b : Bool) (o k : Int) : VT := if mayB m t b o = false then v0 1 else if k = 4 then hvV m t b o else if k = 5 then ⟨m, false, b, o, [6], false, false, false, 0⟩ else if k = 6 then hfV m t b o else if k = 7 then ⟨m, t, false, o, [], false, b, false, 0⟩ else same m t b o
def smB (w : List Int) (b p f : Bool) (w' : List Int) (b' p' f' : Bool) : Bool := (b == b') && (p == p') && (f == f') && decide (w = w')

structure Fs where
  f_may : Int → Bool → Bool → Int → Bool
  f_ch : Int → Bool → Bool → Int → Int
  f_ow : Int → Int → Int
  f_gr : Int → Bool → Bool → Int → VT
  f_re : Int → Bool → Bool → Int → VT
  f_pa : Int → Bool → Bool → Int → VT
  f_hv : Int → Bool → Bool → Int → VT
  f_hf : Int → Bool → Bool → Int → VT
  f_he : Int → Bool → Bool → Int → Int → VT
  f_sm : List Int → Bool → Bool → Bool → List Int → Bool → Bool → Bool → Bool
def Fs.std : Fs := ⟨mayB, chI, owI, grV, reV, paV, hvV, hfV, heV, smB⟩

def c_check (F : Fs) : Con := fun xs h => match xs, h with
  | [.agg [.val (.int .i64 v_m), .val (.bool v_t), .val (.bool v_b), .val (.int .i64 v_o)]], [] => some ⟨True, .sa (I (F.f_ch v_m v_t v_b v_o)), [], [Any]⟩
  | _, _ => none
set_option maxRecDepth 100000 in
theorem x_check (v_m : Int) (v_t : Bool) (v_b : Bool) (v_o : Int) : Does [] Try.f33 [.agg [.val (.int .i64 v_m), .val (.bool v_t), .val (.bool v_b), .val (.int .i64 v_o)]] [] ⟨True, .sa (I (Fs.std.f_ch v_m v_t v_b v_o)), [], [Any]⟩ := by
  intro b gv
  generalize hF : Fs.std = F
  generalize hA : Ar.std = A
  generalize hL : Lp _ _ _ = L
  obtain ⟨Z, zq⟩ := z_all
  refine cd_open (lp_mono hL) zq rfl ?_
  repeat' (first
    | (refine z_open zq ?_; try dsimp only)
    | refine cd_seq zq ?_ (lp_mono hL)
    | refine cd_blk zq ?_
    | refine cd_ret ?_
    | refine cd_skip ?_
    | refine cd_exit ?_
    | refine cd_loop ?_
    | refine cd_cond rfl ?_
    | refine cd_condT rfl ?_
    | refine cd_condF rfl ?_
    | (refine Cd.mk ?_; cbv)
    | (refine Ends1.mk ?_; cbv)
    | (refine Fin1.mk ?_; cbv)
    | exact trivial
    | refine And.intro ?_ ?_
    | refine orf fun _ => ?_
    | refine ort fun _ => ?_)
  all_goals
    clear hL zq Z
    subst hF hA
    simp only [Fs.std, Ar.std, List.nil_append] at *
    try (grind [stdCmp, b_add, b_sub, wr, mayB, chI, owI, grV, reV, paV, hvV, hfV, heV, v0, same])
theorem ok_check : ConOk Try.prog 33 (c_check Fs.std) := by
  refine con_of FsOk.nil Try.func33 rfl rfl fun xs h p hp => ?_
  unfold c_check at hp
  split at hp
  · cases hp
    exact ⟨lee_le rfl, fun _ _ => x_check _ _ _ _⟩
  · cases hp

def c_bind (F : Fs) : Con := fun xs h => match xs, h with
  | [.agg [.val (.int .i64 v_m), .val (.bool v_t), .val (.bool v_b), .val (.int .i64 v_o)]], [] => some ⟨F.f_may v_m v_t v_b v_o = true, .sa (.agg [.val (.int .i64 0), .val (.bool false), .val (.bool true), .val (.int .i64 (F.f_ow v_m v_o))]), [], [Any]⟩
  | _, _ => none
set_option maxRecDepth 100000 in
theorem x_bind (v_m : Int) (v_t : Bool) (v_b : Bool) (v_o : Int) (hC : Fs.std.f_may v_m v_t v_b v_o = true) : Does [] Try.f56 [.agg [.val (.int .i64 v_m), .val (.bool v_t), .val (.bool v_b), .val (.int .i64 v_o)]] [] ⟨Fs.std.f_may v_m v_t v_b v_o = true, .sa (.agg [.val (.int .i64 0), .val (.bool false), .val (.bool true), .val (.int .i64 (Fs.std.f_ow v_m v_o))]), [], [Any]⟩ := by
  intro b gv
  generalize hF : Fs.std = F at hC ⊢
  generalize hA : Ar.std = A
  generalize hL : Lp _ _ _ = L
  obtain ⟨Z, zq⟩ := z_all
  refine cd_open (lp_mono hL) zq rfl ?_
  repeat' (first
    | (refine z_open zq ?_; try dsimp only)
    | refine cd_seq zq ?_ (lp_mono hL)
    | refine cd_blk zq ?_
    | refine cd_ret ?_
    | refine cd_skip ?_
    | refine cd_exit ?_
    | refine cd_loop ?_
    | refine cd_cond rfl ?_
    | refine cd_condT rfl ?_
    | refine cd_condF rfl ?_
    | (refine Cd.mk ?_; cbv)
    | (refine Ends1.mk ?_; cbv)
    | (refine Fin1.mk ?_; cbv)
    | exact trivial
    | refine And.intro ?_ ?_
    | refine orf fun _ => ?_
    | refine ort fun _ => ?_)
  all_goals
    clear hL zq Z
    subst hF hA
    simp only [Fs.std, Ar.std, List.nil_append] at *
    try (grind [stdCmp, b_add, b_sub, wr, mayB, chI, owI, grV, reV, paV, hvV, hfV, heV, v0, same])
theorem ok_bind : ConOk Try.prog 56 (c_bind Fs.std) := by
  refine con_of FsOk.nil Try.func56 rfl rfl fun xs h p hp => ?_
  unfold c_bind at hp
  split at hp
  · cases hp
    exact ⟨lee_le rfl, fun hC _ => x_bind _ _ _ _ hC⟩
  · cases hp

def c_grant (F : Fs) : Con := fun xs h => match xs, h with
  | [.agg [.val (.int .i64 v_m), .val (.bool v_t), .val (.bool v_b), .val (.int .i64 v_o)]], [] => some ⟨True, .tup [.agg [.val (.int .i64 (F.f_gr v_m v_t v_b v_o).m), .val (.bool (F.f_gr v_m v_t v_b v_o).t), .val (.bool (F.f_gr v_m v_t v_b v_o).b), .val (.int .i64 (F.f_gr v_m v_t v_b v_o).o)], .agg [.sl none (.ints .i64 (F.f_gr v_m v_t v_b v_o).w), .val (.bool (F.f_gr v_m v_t v_b v_o).tb), .val (.bool (F.f_gr v_m v_t v_b v_o).tp), .val (.bool (F.f_gr v_m v_t v_b v_o).tf)], I (F.f_gr v_m v_t v_b v_o).e], [], [Any]⟩
  | _, _ => none
set_option maxHeartbeats 1000000 in
set_option maxRecDepth 100000 in
theorem x_grant (v_m : Int) (v_t : Bool) (v_b : Bool) (v_o : Int) : Does [(33, c_check Fs.std), (56, c_bind Fs.std)] Try.f27 [.agg [.val (.int .i64 v_m), .val (.bool v_t), .val (.bool v_b), .val (.int .i64 v_o)]] [] ⟨True, .tup [.agg [.val (.int .i64 (Fs.std.f_gr v_m v_t v_b v_o).m), .val (.bool (Fs.std.f_gr v_m v_t v_b v_o).t), .val (.bool (Fs.std.f_gr v_m v_t v_b v_o).b), .val (.int .i64 (Fs.std.f_gr v_m v_t v_b v_o).o)], .agg [.sl none (.ints .i64 (Fs.std.f_gr v_m v_t v_b v_o).w), .val (.bool (Fs.std.f_gr v_m v_t v_b v_o).tb), .val (.bool (Fs.std.f_gr v_m v_t v_b v_o).tp), .val (.bool (Fs.std.f_gr v_m v_t v_b v_o).tf)], I (Fs.std.f_gr v_m v_t v_b v_o).e], [], [Any]⟩ := by
  intro b gv
  generalize hF : Fs.std = F
  generalize hA : Ar.std = A
  generalize hL : Lp _ _ _ = L
  obtain ⟨Z, zq⟩ := z_all
  refine cd_open (lp_mono hL) zq rfl ?_
  repeat' (first
    | (refine z_open zq ?_; try dsimp only)
    | refine cd_seq zq ?_ (lp_mono hL)
    | refine cd_blk zq ?_
    | refine cd_ret ?_
    | refine cd_skip ?_
    | refine cd_exit ?_
    | refine cd_loop ?_
    | refine cd_cond rfl ?_
    | refine cd_condT rfl ?_
    | refine cd_condF rfl ?_
    | (refine Cd.mk ?_; cbv)
    | (refine Ends1.mk ?_; cbv)
    | (refine Fin1.mk ?_; cbv)
    | exact trivial
    | refine And.intro ?_ ?_
    | refine orf fun _ => ?_
    | refine ort fun _ => ?_)
  all_goals
    clear hL zq Z
    subst hF hA
    simp only [Fs.std, Ar.std, List.nil_append] at *
    try (grind [stdCmp, b_add, b_sub, wr, mayB, chI, owI, grV, reV, paV, hvV, hfV, heV, v0, same])
theorem ok_grant : ConOk Try.prog 27 (c_grant Fs.std) := by
  refine con_of (FsOk.cons ok_check (FsOk.cons ok_bind FsOk.nil rfl) rfl) Try.func27 rfl rfl fun xs h p hp => ?_
  unfold c_grant at hp
  split at hp
  · cases hp
    exact ⟨lee_le rfl, fun _ _ => x_grant _ _ _ _⟩
  · cases hp

def c_recant (F : Fs) : Con := fun xs h => match xs, h with
  | [.agg [.val (.int .i64 v_m), .val (.bool v_t), .val (.bool v_b), .val (.int .i64 v_o)]], [] => some ⟨True, .tup [.agg [.val (.int .i64 (F.f_re v_m v_t v_b v_o).m), .val (.bool (F.f_re v_m v_t v_b v_o).t), .val (.bool (F.f_re v_m v_t v_b v_o).b), .val (.int .i64 (F.f_re v_m v_t v_b v_o).o)], .agg [.sl none (.ints .i64 (F.f_re v_m v_t v_b v_o).w), .val (.bool (F.f_re v_m v_t v_b v_o).tb), .val (.bool (F.f_re v_m v_t v_b v_o).tp), .val (.bool (F.f_re v_m v_t v_b v_o).tf)], I (F.f_re v_m v_t v_b v_o).e], [], [Any]⟩
  | _, _ => none
set_option maxHeartbeats 1000000 in
set_option maxRecDepth 100000 in
theorem x_recant (v_m : Int) (v_t : Bool) (v_b : Bool) (v_o : Int) : Does [(33, c_check Fs.std), (56, c_bind Fs.std)] Try.f28 [.agg [.val (.int .i64 v_m), .val (.bool v_t), .val (.bool v_b), .val (.int .i64 v_o)]] [] ⟨True, .tup [.agg [.val (.int .i64 (Fs.std.f_re v_m v_t v_b v_o).m), .val (.bool (Fs.std.f_re v_m v_t v_b v_o).t), .val (.bool (Fs.std.f_re v_m v_t v_b v_o).b), .val (.int .i64 (Fs.std.f_re v_m v_t v_b v_o).o)], .agg [.sl none (.ints .i64 (Fs.std.f_re v_m v_t v_b v_o).w), .val (.bool (Fs.std.f_re v_m v_t v_b v_o).tb), .val (.bool (Fs.std.f_re v_m v_t v_b v_o).tp), .val (.bool (Fs.std.f_re v_m v_t v_b v_o).tf)], I (Fs.std.f_re v_m v_t v_b v_o).e], [], [Any]⟩ := by
  intro b gv
  generalize hF : Fs.std = F
  generalize hA : Ar.std = A
  generalize hL : Lp _ _ _ = L
  obtain ⟨Z, zq⟩ := z_all
  refine cd_open (lp_mono hL) zq rfl ?_
  repeat' (first
    | (refine z_open zq ?_; try dsimp only)
    | refine cd_seq zq ?_ (lp_mono hL)
    | refine cd_blk zq ?_
    | refine cd_ret ?_
    | refine cd_skip ?_
    | refine cd_exit ?_
    | refine cd_loop ?_
    | refine cd_cond rfl ?_
    | refine cd_condT rfl ?_
    | refine cd_condF rfl ?_
    | (refine Cd.mk ?_; cbv)
    | (refine Ends1.mk ?_; cbv)
    | (refine Fin1.mk ?_; cbv)
    | exact trivial
    | refine And.intro ?_ ?_
    | refine orf fun _ => ?_
    | refine ort fun _ => ?_)
  all_goals
    clear hL zq Z
    subst hF hA
    simp only [Fs.std, Ar.std, List.nil_append] at *
    try (grind [stdCmp, b_add, b_sub, wr, mayB, chI, owI, grV, reV, paV, hvV, hfV, heV, v0, same])
theorem ok_recant : ConOk Try.prog 28 (c_recant Fs.std) := by
  refine con_of (FsOk.cons ok_check (FsOk.cons ok_bind FsOk.nil rfl) rfl) Try.func28 rfl rfl fun xs h p hp => ?_
  unfold c_recant at hp
  split at hp
  · cases hp
    exact ⟨lee_le rfl, fun _ _ => x_recant _ _ _ _⟩
  · cases hp

def c_part (F : Fs) : Con := fun xs h => match xs, h with
  | [.agg [.val (.int .i64 v_m), .val (.bool v_t), .val (.bool v_b), .val (.int .i64 v_o)]], [] => some ⟨True, .tup [.agg [.val (.int .i64 (F.f_pa v_m v_t v_b v_o).m), .val (.bool (F.f_pa v_m v_t v_b v_o).t), .val (.bool (F.f_pa v_m v_t v_b v_o).b), .val (.int .i64 (F.f_pa v_m v_t v_b v_o).o)], .agg [.sl none (.ints .i64 (F.f_pa v_m v_t v_b v_o).w), .val (.bool (F.f_pa v_m v_t v_b v_o).tb), .val (.bool (F.f_pa v_m v_t v_b v_o).tp), .val (.bool (F.f_pa v_m v_t v_b v_o).tf)], I (F.f_pa v_m v_t v_b v_o).e], [], [Any]⟩
  | _, _ => none
set_option maxHeartbeats 1000000 in
set_option maxRecDepth 100000 in
theorem x_part (v_m : Int) (v_t : Bool) (v_b : Bool) (v_o : Int) : Does [(33, c_check Fs.std), (56, c_bind Fs.std)] Try.f29 [.agg [.val (.int .i64 v_m), .val (.bool v_t), .val (.bool v_b), .val (.int .i64 v_o)]] [] ⟨True, .tup [.agg [.val (.int .i64 (Fs.std.f_pa v_m v_t v_b v_o).m), .val (.bool (Fs.std.f_pa v_m v_t v_b v_o).t), .val (.bool (Fs.std.f_pa v_m v_t v_b v_o).b), .val (.int .i64 (Fs.std.f_pa v_m v_t v_b v_o).o)], .agg [.sl none (.ints .i64 (Fs.std.f_pa v_m v_t v_b v_o).w), .val (.bool (Fs.std.f_pa v_m v_t v_b v_o).tb), .val (.bool (Fs.std.f_pa v_m v_t v_b v_o).tp), .val (.bool (Fs.std.f_pa v_m v_t v_b v_o).tf)], I (Fs.std.f_pa v_m v_t v_b v_o).e], [], [Any]⟩ := by
  intro b gv
  generalize hF : Fs.std = F
  generalize hA : Ar.std = A
  generalize hL : Lp _ _ _ = L
  obtain ⟨Z, zq⟩ := z_all
  refine cd_open (lp_mono hL) zq rfl ?_
  repeat' (first
    | (refine z_open zq ?_; try dsimp only)
    | refine cd_seq zq ?_ (lp_mono hL)
    | refine cd_blk zq ?_
    | refine cd_ret ?_
    | refine cd_skip ?_
    | refine cd_exit ?_
    | refine cd_loop ?_
    | refine cd_cond rfl ?_
    | refine cd_condT rfl ?_
    | refine cd_condF rfl ?_
    | (refine Cd.mk ?_; cbv)
    | (refine Ends1.mk ?_; cbv)
    | (refine Fin1.mk ?_; cbv)
    | exact trivial
    | refine And.intro ?_ ?_
    | refine orf fun _ => ?_
    | refine ort fun _ => ?_)
  all_goals
    clear hL zq Z
    subst hF hA
    simp only [Fs.std, Ar.std, List.nil_append] at *
    try (grind [stdCmp, b_add, b_sub, wr, mayB, chI, owI, grV, reV, paV, hvV, hfV, heV, v0, same])
theorem ok_part : ConOk Try.prog 29 (c_part Fs.std) := by
  refine con_of (FsOk.cons ok_check (FsOk.cons ok_bind FsOk.nil rfl) rfl) Try.func29 rfl rfl fun xs h p hp => ?_
  unfold c_part at hp
  split at hp
  · cases hp
    exact ⟨lee_le rfl, fun _ _ => x_part _ _ _ _⟩
  · cases hp

def c_hvow (F : Fs) : Con := fun xs h => match xs, h with
  | [.agg [.val (.int .i64 v_m), .val (.bool v_t), .val (.bool v_b), .val (.int .i64 v_o)]], [] => some ⟨F.f_may v_m v_t v_b v_o = true, .tup [.agg [.val (.int .i64 (F.f_hv v_m v_t v_b v_o).m), .val (.bool (F.f_hv v_m v_t v_b v_o).t), .val (.bool (F.f_hv v_m v_t v_b v_o).b), .val (.int .i64 (F.f_hv v_m v_t v_b v_o).o)], .agg [.sl none (.ints .i64 (F.f_hv v_m v_t v_b v_o).w), .val (.bool (F.f_hv v_m v_t v_b v_o).tb), .val (.bool (F.f_hv v_m v_t v_b v_o).tp), .val (.bool (F.f_hv v_m v_t v_b v_o).tf)]], [], [Any]⟩
  | _, _ => none
set_option maxRecDepth 100000 in
theorem x_hvow (v_m : Int) (v_t : Bool) (v_b : Bool) (v_o : Int) (hC : Fs.std.f_may v_m v_t v_b v_o = true) : Does [(56, c_bind Fs.std)] Try.f57 [.agg [.val (.int .i64 v_m), .val (.bool v_t), .val (.bool v_b), .val (.int .i64 v_o)]] [] ⟨Fs.std.f_may v_m v_t v_b v_o = true, .tup [.agg [.val (.int .i64 (Fs.std.f_hv v_m v_t v_b v_o).m), .val (.bool (Fs.std.f_hv v_m v_t v_b v_o).t), .val (.bool (Fs.std.f_hv v_m v_t v_b v_o).b), .val (.int .i64 (Fs.std.f_hv v_m v_t v_b v_o).o)], .agg [.sl none (.ints .i64 (Fs.std.f_hv v_m v_t v_b v_o).w), .val (.bool (Fs.std.f_hv v_m v_t v_b v_o).tb), .val (.bool (Fs.std.f_hv v_m v_t v_b v_o).tp), .val (.bool (Fs.std.f_hv v_m v_t v_b v_o).tf)]], [], [Any]⟩ := by
  intro b gv
  generalize hF : Fs.std = F at hC ⊢
  generalize hA : Ar.std = A
  generalize hL : Lp _ _ _ = L
  obtain ⟨Z, zq⟩ := z_all
  refine cd_open (lp_mono hL) zq rfl ?_
  repeat' (first
    | (refine z_open zq ?_; try dsimp only)
    | refine cd_seq zq ?_ (lp_mono hL)
    | refine cd_blk zq ?_
    | refine cd_ret ?_
    | refine cd_skip ?_
    | refine cd_exit ?_
    | refine cd_loop ?_
    | refine cd_cond rfl ?_
    | refine cd_condT rfl ?_
    | refine cd_condF rfl ?_
    | (refine Cd.mk ?_; cbv)
    | (refine Ends1.mk ?_; cbv)
    | (refine Fin1.mk ?_; cbv)
    | exact trivial
    | refine And.intro ?_ ?_
    | refine orf fun _ => ?_
    | refine ort fun _ => ?_)
  all_goals
    clear hL zq Z
    subst hF hA
    simp only [Fs.std, Ar.std, List.nil_append] at *
    try (grind [stdCmp, b_add, b_sub, wr, mayB, chI, owI, grV, reV, paV, hvV, hfV, heV, v0, same])
theorem ok_hvow : ConOk Try.prog 57 (c_hvow Fs.std) := by
  refine con_of (FsOk.cons ok_bind FsOk.nil rfl) Try.func57 rfl rfl fun xs h p hp => ?_
  unfold c_hvow at hp
  split at hp
  · cases hp
    exact ⟨lee_le rfl, fun hC _ => x_hvow _ _ _ _ hC⟩
  · cases hp

def c_hfree (F : Fs) : Con := fun xs h => match xs, h with
  | [.agg [.val (.int .i64 v_m), .val (.bool v_t), .val (.bool v_b), .val (.int .i64 v_o)]], [] => some ⟨F.f_may v_m v_t v_b v_o = true, .tup [.agg [.val (.int .i64 (F.f_hf v_m v_t v_b v_o).m), .val (.bool (F.f_hf v_m v_t v_b v_o).t), .val (.bool (F.f_hf v_m v_t v_b v_o).b), .val (.int .i64 (F.f_hf v_m v_t v_b v_o).o)], .agg [.sl none (.ints .i64 (F.f_hf v_m v_t v_b v_o).w), .val (.bool (F.f_hf v_m v_t v_b v_o).tb), .val (.bool (F.f_hf v_m v_t v_b v_o).tp), .val (.bool (F.f_hf v_m v_t v_b v_o).tf)]], [], [Any]⟩
  | _, _ => none
set_option maxRecDepth 100000 in
theorem x_hfree (v_m : Int) (v_t : Bool) (v_b : Bool) (v_o : Int) (hC : Fs.std.f_may v_m v_t v_b v_o = true) : Does [] Try.f58 [.agg [.val (.int .i64 v_m), .val (.bool v_t), .val (.bool v_b), .val (.int .i64 v_o)]] [] ⟨Fs.std.f_may v_m v_t v_b v_o = true, .tup [.agg [.val (.int .i64 (Fs.std.f_hf v_m v_t v_b v_o).m), .val (.bool (Fs.std.f_hf v_m v_t v_b v_o).t), .val (.bool (Fs.std.f_hf v_m v_t v_b v_o).b), .val (.int .i64 (Fs.std.f_hf v_m v_t v_b v_o).o)], .agg [.sl none (.ints .i64 (Fs.std.f_hf v_m v_t v_b v_o).w), .val (.bool (Fs.std.f_hf v_m v_t v_b v_o).tb), .val (.bool (Fs.std.f_hf v_m v_t v_b v_o).tp), .val (.bool (Fs.std.f_hf v_m v_t v_b v_o).tf)]], [], [Any]⟩ := by
  intro b gv
  generalize hF : Fs.std = F at hC ⊢
  generalize hA : Ar.std = A
  generalize hL : Lp _ _ _ = L
  obtain ⟨Z, zq⟩ := z_all
  refine cd_open (lp_mono hL) zq rfl ?_
  repeat' (first
    | (refine z_open zq ?_; try dsimp only)
    | refine cd_seq zq ?_ (lp_mono hL)
    | refine cd_blk zq ?_
    | refine cd_ret ?_
    | refine cd_skip ?_
    | refine cd_exit ?_
    | refine cd_loop ?_
    | refine cd_cond rfl ?_
    | refine cd_condT rfl ?_
    | refine cd_condF rfl ?_
    | (refine Cd.mk ?_; cbv)
    | (refine Ends1.mk ?_; cbv)
    | (refine Fin1.mk ?_; cbv)
    | exact trivial
    | refine And.intro ?_ ?_
    | refine orf fun _ => ?_
    | refine ort fun _ => ?_)
  all_goals
    clear hL zq Z
    subst hF hA
    simp only [Fs.std, Ar.std, List.nil_append] at *
    try (grind [stdCmp, b_add, b_sub, wr, mayB, chI, owI, grV, reV, paV, hvV, hfV, heV, v0, same])
theorem ok_hfree : ConOk Try.prog 58 (c_hfree Fs.std) := by
  refine con_of FsOk.nil Try.func58 rfl rfl fun xs h p hp => ?_
  unfold c_hfree at hp
  split at hp
  · cases hp
    exact ⟨lee_le rfl, fun hC _ => x_hfree _ _ _ _ hC⟩
  · cases hp

def c_hear (F : Fs) : Con := fun xs h => match xs, h with
  | [.agg [.val (.int .i64 v_m), .val (.bool v_t), .val (.bool v_b), .val (.int .i64 v_o)], .one (.val (.int .i64 k))], [] => some ⟨True, .tup [.agg [.val (.int .i64 (F.f_he v_m v_t v_b v_o k).m), .val (.bool (F.f_he v_m v_t v_b v_o k).t), .val (.bool (F.f_he v_m v_t v_b v_o k).b), .val (.int .i64 (F.f_he v_m v_t v_b v_o k).o)], .agg [.sl none (.ints .i64 (F.f_he v_m v_t v_b v_o k).w), .val (.bool (F.f_he v_m v_t v_b v_o k).tb), .val (.bool (F.f_he v_m v_t v_b v_o k).tp), .val (.bool (F.f_he v_m v_t v_b v_o k).tf)], I (F.f_he v_m v_t v_b v_o k).e], [], [Any, Any]⟩
  | _, _ => none
set_option maxHeartbeats 2000000 in
set_option maxRecDepth 100000 in
theorem x_hear (v_m : Int) (v_t : Bool) (v_b : Bool) (v_o : Int) (k : Int) : Does [(33, c_check Fs.std), (57, c_hvow Fs.std), (58, c_hfree Fs.std)] Try.f30 [.agg [.val (.int .i64 v_m), .val (.bool v_t), .val (.bool v_b), .val (.int .i64 v_o)], .one (.val (.int .i64 k))] [] ⟨True, .tup [.agg [.val (.int .i64 (Fs.std.f_he v_m v_t v_b v_o k).m), .val (.bool (Fs.std.f_he v_m v_t v_b v_o k).t), .val (.bool (Fs.std.f_he v_m v_t v_b v_o k).b), .val (.int .i64 (Fs.std.f_he v_m v_t v_b v_o k).o)], .agg [.sl none (.ints .i64 (Fs.std.f_he v_m v_t v_b v_o k).w), .val (.bool (Fs.std.f_he v_m v_t v_b v_o k).tb), .val (.bool (Fs.std.f_he v_m v_t v_b v_o k).tp), .val (.bool (Fs.std.f_he v_m v_t v_b v_o k).tf)], I (Fs.std.f_he v_m v_t v_b v_o k).e], [], [Any, Any]⟩ := by
  intro b gv
  generalize hF : Fs.std = F
  generalize hA : Ar.std = A
  generalize hL : Lp _ _ _ = L
  obtain ⟨Z, zq⟩ := z_all
  refine cd_open (lp_mono hL) zq rfl ?_
  repeat' (first
    | (refine z_open zq ?_; try dsimp only)
    | refine cd_seq zq ?_ (lp_mono hL)
    | refine cd_blk zq ?_
    | refine cd_ret ?_
    | refine cd_skip ?_
    | refine cd_exit ?_
    | refine cd_loop ?_
    | refine cd_cond rfl ?_
    | refine cd_condT rfl ?_
    | refine cd_condF rfl ?_
    | (refine Cd.mk ?_; cbv)
    | (refine Ends1.mk ?_; cbv)
    | (refine Fin1.mk ?_; cbv)
    | exact trivial
    | refine And.intro ?_ ?_
    | refine orf fun _ => ?_
    | refine ort fun _ => ?_)
  all_goals
    clear hL zq Z
    subst hF hA
    simp only [Fs.std, Ar.std, List.nil_append] at *
    try (grind [stdCmp, b_add, b_sub, wr, mayB, chI, owI, grV, reV, paV, hvV, hfV, heV, v0, same])
theorem ok_hear : ConOk Try.prog 30 (c_hear Fs.std) := by
  refine con_of (FsOk.cons ok_check (FsOk.cons ok_hvow (FsOk.cons ok_hfree FsOk.nil rfl) rfl) rfl) Try.func30 rfl rfl fun xs h p hp => ?_
  unfold c_hear at hp
  split at hp
  · cases hp
    exact ⟨lee_le rfl, fun _ _ => x_hear _ _ _ _ _⟩
  · cases hp

def c_rmay (F : Fs) : Con := fun xs h => match xs, h with
  | [.agg [.val (.int .i64 v_m), .val (.bool v_t), .val (.bool v_b), .val (.int .i64 v_o)]], [] => some ⟨True, .sa (B (F.f_may v_m v_t v_b v_o)), [], [Any]⟩
  | _, _ => none
set_option maxRecDepth 100000 in
theorem x_rmay (v_m : Int) (v_t : Bool) (v_b : Bool) (v_o : Int) : Does [] Try.f31 [.agg [.val (.int .i64 v_m), .val (.bool v_t), .val (.bool v_b), .val (.int .i64 v_o)]] [] ⟨True, .sa (B (Fs.std.f_may v_m v_t v_b v_o)), [], [Any]⟩ := by
  intro b gv
  generalize hF : Fs.std = F
  generalize hA : Ar.std = A
  generalize hL : Lp _ _ _ = L
  obtain ⟨Z, zq⟩ := z_all
  refine cd_open (lp_mono hL) zq rfl ?_
  repeat' (first
    | (refine z_open zq ?_; try dsimp only)
    | refine cd_seq zq ?_ (lp_mono hL)
    | refine cd_blk zq ?_
    | refine cd_ret ?_
    | refine cd_skip ?_
    | refine cd_exit ?_
    | refine cd_loop ?_
    | refine cd_cond rfl ?_
    | refine cd_condT rfl ?_
    | refine cd_condF rfl ?_
    | (refine Cd.mk ?_; cbv)
    | (refine Ends1.mk ?_; cbv)
    | (refine Fin1.mk ?_; cbv)
    | exact trivial
    | refine And.intro ?_ ?_
    | refine orf fun _ => ?_
    | refine ort fun _ => ?_)
  all_goals
    clear hL zq Z
    subst hF hA
    simp only [Fs.std, Ar.std, List.nil_append] at *
    try (grind [stdCmp, b_add, b_sub, wr, mayB, chI, owI, grV, reV, paV, hvV, hfV, heV, v0, same])
theorem ok_rmay : ConOk Try.prog 31 (c_rmay Fs.std) := by
  refine con_of FsOk.nil Try.func31 rfl rfl fun xs h p hp => ?_
  unfold c_rmay at hp
  split at hp
  · cases hp
    exact ⟨lee_le rfl, fun _ _ => x_rmay _ _ _ _⟩
  · cases hp

def c_rbind (F : Fs) : Con := fun xs h => match xs, h with
  | [.agg [.val (.int .i64 v_m), .val (.bool v_t), .val (.bool v_b), .val (.int .i64 v_o)]], [] => some ⟨F.f_may v_m v_t v_b v_o = true, .sa (.agg [.val (.int .i64 0), .val (.bool false), .val (.bool true), .val (.int .i64 (F.f_ow v_m v_o))]), [], [Any]⟩
  | _, _ => none
set_option maxRecDepth 100000 in
theorem x_rbind (v_m : Int) (v_t : Bool) (v_b : Bool) (v_o : Int) (hC : Fs.std.f_may v_m v_t v_b v_o = true) : Does [] Try.f59 [.agg [.val (.int .i64 v_m), .val (.bool v_t), .val (.bool v_b), .val (.int .i64 v_o)]] [] ⟨Fs.std.f_may v_m v_t v_b v_o = true, .sa (.agg [.val (.int .i64 0), .val (.bool false), .val (.bool true), .val (.int .i64 (Fs.std.f_ow v_m v_o))]), [], [Any]⟩ := by
  intro b gv
  generalize hF : Fs.std = F at hC ⊢
  generalize hA : Ar.std = A
  generalize hL : Lp _ _ _ = L
  obtain ⟨Z, zq⟩ := z_all
  refine cd_open (lp_mono hL) zq rfl ?_
  repeat' (first
    | (refine z_open zq ?_; try dsimp only)
    | refine cd_seq zq ?_ (lp_mono hL)
    | refine cd_blk zq ?_
    | refine cd_ret ?_
    | refine cd_skip ?_
    | refine cd_exit ?_
    | refine cd_loop ?_
    | refine cd_cond rfl ?_
    | refine cd_condT rfl ?_
    | refine cd_condF rfl ?_
    | (refine Cd.mk ?_; cbv)
    | (refine Ends1.mk ?_; cbv)
    | (refine Fin1.mk ?_; cbv)
    | exact trivial
    | refine And.intro ?_ ?_
    | refine orf fun _ => ?_
    | refine ort fun _ => ?_)
  all_goals
    clear hL zq Z
    subst hF hA
    simp only [Fs.std, Ar.std, List.nil_append] at *
    try (grind [stdCmp, b_add, b_sub, wr, mayB, chI, owI, grV, reV, paV, hvV, hfV, heV, v0, same])
theorem ok_rbind : ConOk Try.prog 59 (c_rbind Fs.std) := by
  refine con_of FsOk.nil Try.func59 rfl rfl fun xs h p hp => ?_
  unfold c_rbind at hp
  split at hp
  · cases hp
    exact ⟨lee_le rfl, fun hC _ => x_rbind _ _ _ _ hC⟩
  · cases hp

def c_rgrant (F : Fs) : Con := fun xs h => match xs, h with
  | [.agg [.val (.int .i64 v_m), .val (.bool v_t), .val (.bool v_b), .val (.int .i64 v_o)]], [] => some ⟨F.f_may v_m v_t v_b v_o = true, .tup [.agg [.val (.int .i64 (F.f_gr v_m v_t v_b v_o).m), .val (.bool (F.f_gr v_m v_t v_b v_o).t), .val (.bool (F.f_gr v_m v_t v_b v_o).b), .val (.int .i64 (F.f_gr v_m v_t v_b v_o).o)], .agg [.sl none (.ints .i64 (F.f_gr v_m v_t v_b v_o).w), .val (.bool (F.f_gr v_m v_t v_b v_o).tb), .val (.bool (F.f_gr v_m v_t v_b v_o).tp), .val (.bool (F.f_gr v_m v_t v_b v_o).tf)]], [], [Any]⟩
  | _, _ => none
set_option maxHeartbeats 1000000 in
set_option maxRecDepth 100000 in
theorem x_rgrant (v_m : Int) (v_t : Bool) (v_b : Bool) (v_o : Int) (hC : Fs.std.f_may v_m v_t v_b v_o = true) : Does [(59, c_rbind Fs.std)] Try.f35 [.agg [.val (.int .i64 v_m), .val (.bool v_t), .val (.bool v_b), .val (.int .i64 v_o)]] [] ⟨Fs.std.f_may v_m v_t v_b v_o = true, .tup [.agg [.val (.int .i64 (Fs.std.f_gr v_m v_t v_b v_o).m), .val (.bool (Fs.std.f_gr v_m v_t v_b v_o).t), .val (.bool (Fs.std.f_gr v_m v_t v_b v_o).b), .val (.int .i64 (Fs.std.f_gr v_m v_t v_b v_o).o)], .agg [.sl none (.ints .i64 (Fs.std.f_gr v_m v_t v_b v_o).w), .val (.bool (Fs.std.f_gr v_m v_t v_b v_o).tb), .val (.bool (Fs.std.f_gr v_m v_t v_b v_o).tp), .val (.bool (Fs.std.f_gr v_m v_t v_b v_o).tf)]], [], [Any]⟩ := by
  intro b gv
  generalize hF : Fs.std = F at hC ⊢
  generalize hA : Ar.std = A
  generalize hL : Lp _ _ _ = L
  obtain ⟨Z, zq⟩ := z_all
  refine cd_open (lp_mono hL) zq rfl ?_
  repeat' (first
    | (refine z_open zq ?_; try dsimp only)
    | refine cd_seq zq ?_ (lp_mono hL)
    | refine cd_blk zq ?_
    | refine cd_ret ?_
    | refine cd_skip ?_
    | refine cd_exit ?_
    | refine cd_loop ?_
    | refine cd_cond rfl ?_
    | refine cd_condT rfl ?_
    | refine cd_condF rfl ?_
    | (refine Cd.mk ?_; cbv)
    | (refine Ends1.mk ?_; cbv)
    | (refine Fin1.mk ?_; cbv)
    | exact trivial
    | refine And.intro ?_ ?_
    | refine orf fun _ => ?_
    | refine ort fun _ => ?_)
  all_goals
    clear hL zq Z
    subst hF hA
    simp only [Fs.std, Ar.std, List.nil_append] at *
    try (grind [stdCmp, b_add, b_sub, wr, mayB, chI, owI, grV, reV, paV, hvV, hfV, heV, v0, same])
theorem ok_rgrant : ConOk Try.prog 35 (c_rgrant Fs.std) := by
  refine con_of (FsOk.cons ok_rbind FsOk.nil rfl) Try.func35 rfl rfl fun xs h p hp => ?_
  unfold c_rgrant at hp
  split at hp
  · cases hp
    exact ⟨lee_le rfl, fun hC _ => x_rgrant _ _ _ _ hC⟩
  · cases hp

def c_rrecant (F : Fs) : Con := fun xs h => match xs, h with
  | [.agg [.val (.int .i64 v_m), .val (.bool v_t), .val (.bool v_b), .val (.int .i64 v_o)]], [] => some ⟨F.f_may v_m v_t v_b v_o = true, .tup [.agg [.val (.int .i64 (F.f_re v_m v_t v_b v_o).m), .val (.bool (F.f_re v_m v_t v_b v_o).t), .val (.bool (F.f_re v_m v_t v_b v_o).b), .val (.int .i64 (F.f_re v_m v_t v_b v_o).o)], .agg [.sl none (.ints .i64 (F.f_re v_m v_t v_b v_o).w), .val (.bool (F.f_re v_m v_t v_b v_o).tb), .val (.bool (F.f_re v_m v_t v_b v_o).tp), .val (.bool (F.f_re v_m v_t v_b v_o).tf)]], [], [Any]⟩
  | _, _ => none
set_option maxHeartbeats 1000000 in
set_option maxRecDepth 100000 in
theorem x_rrecant (v_m : Int) (v_t : Bool) (v_b : Bool) (v_o : Int) (hC : Fs.std.f_may v_m v_t v_b v_o = true) : Does [(59, c_rbind Fs.std)] Try.f36 [.agg [.val (.int .i64 v_m), .val (.bool v_t), .val (.bool v_b), .val (.int .i64 v_o)]] [] ⟨Fs.std.f_may v_m v_t v_b v_o = true, .tup [.agg [.val (.int .i64 (Fs.std.f_re v_m v_t v_b v_o).m), .val (.bool (Fs.std.f_re v_m v_t v_b v_o).t), .val (.bool (Fs.std.f_re v_m v_t v_b v_o).b), .val (.int .i64 (Fs.std.f_re v_m v_t v_b v_o).o)], .agg [.sl none (.ints .i64 (Fs.std.f_re v_m v_t v_b v_o).w), .val (.bool (Fs.std.f_re v_m v_t v_b v_o).tb), .val (.bool (Fs.std.f_re v_m v_t v_b v_o).tp), .val (.bool (Fs.std.f_re v_m v_t v_b v_o).tf)]], [], [Any]⟩ := by
  intro b gv
  generalize hF : Fs.std = F at hC ⊢
  generalize hA : Ar.std = A
  generalize hL : Lp _ _ _ = L
  obtain ⟨Z, zq⟩ := z_all
  refine cd_open (lp_mono hL) zq rfl ?_
  repeat' (first
    | (refine z_open zq ?_; try dsimp only)
    | refine cd_seq zq ?_ (lp_mono hL)
    | refine cd_blk zq ?_
    | refine cd_ret ?_
    | refine cd_skip ?_
    | refine cd_exit ?_
    | refine cd_loop ?_
    | refine cd_cond rfl ?_
    | refine cd_condT rfl ?_
    | refine cd_condF rfl ?_
    | (refine Cd.mk ?_; cbv)
    | (refine Ends1.mk ?_; cbv)
    | (refine Fin1.mk ?_; cbv)
    | exact trivial
    | refine And.intro ?_ ?_
    | refine orf fun _ => ?_
    | refine ort fun _ => ?_)
  all_goals
    clear hL zq Z
    subst hF hA
    simp only [Fs.std, Ar.std, List.nil_append] at *
    try (grind [stdCmp, b_add, b_sub, wr, mayB, chI, owI, grV, reV, paV, hvV, hfV, heV, v0, same])
theorem ok_rrecant : ConOk Try.prog 36 (c_rrecant Fs.std) := by
  refine con_of (FsOk.cons ok_rbind FsOk.nil rfl) Try.func36 rfl rfl fun xs h p hp => ?_
  unfold c_rrecant at hp
  split at hp
  · cases hp
    exact ⟨lee_le rfl, fun hC _ => x_rrecant _ _ _ _ hC⟩
  · cases hp

def c_rpart (F : Fs) : Con := fun xs h => match xs, h with
  | [.agg [.val (.int .i64 v_m), .val (.bool v_t), .val (.bool v_b), .val (.int .i64 v_o)]], [] => some ⟨F.f_may v_m v_t v_b v_o = true, .tup [.agg [.val (.int .i64 (F.f_pa v_m v_t v_b v_o).m), .val (.bool (F.f_pa v_m v_t v_b v_o).t), .val (.bool (F.f_pa v_m v_t v_b v_o).b), .val (.int .i64 (F.f_pa v_m v_t v_b v_o).o)], .agg [.sl none (.ints .i64 (F.f_pa v_m v_t v_b v_o).w), .val (.bool (F.f_pa v_m v_t v_b v_o).tb), .val (.bool (F.f_pa v_m v_t v_b v_o).tp), .val (.bool (F.f_pa v_m v_t v_b v_o).tf)]], [], [Any]⟩
  | _, _ => none
set_option maxHeartbeats 1000000 in
set_option maxRecDepth 100000 in
theorem x_rpart (v_m : Int) (v_t : Bool) (v_b : Bool) (v_o : Int) (hC : Fs.std.f_may v_m v_t v_b v_o = true) : Does [(59, c_rbind Fs.std)] Try.f37 [.agg [.val (.int .i64 v_m), .val (.bool v_t), .val (.bool v_b), .val (.int .i64 v_o)]] [] ⟨Fs.std.f_may v_m v_t v_b v_o = true, .tup [.agg [.val (.int .i64 (Fs.std.f_pa v_m v_t v_b v_o).m), .val (.bool (Fs.std.f_pa v_m v_t v_b v_o).t), .val (.bool (Fs.std.f_pa v_m v_t v_b v_o).b), .val (.int .i64 (Fs.std.f_pa v_m v_t v_b v_o).o)], .agg [.sl none (.ints .i64 (Fs.std.f_pa v_m v_t v_b v_o).w), .val (.bool (Fs.std.f_pa v_m v_t v_b v_o).tb), .val (.bool (Fs.std.f_pa v_m v_t v_b v_o).tp), .val (.bool (Fs.std.f_pa v_m v_t v_b v_o).tf)]], [], [Any]⟩ := by
  intro b gv
  generalize hF : Fs.std = F at hC ⊢
  generalize hA : Ar.std = A
  generalize hL : Lp _ _ _ = L
  obtain ⟨Z, zq⟩ := z_all
  refine cd_open (lp_mono hL) zq rfl ?_
  repeat' (first
    | (refine z_open zq ?_; try dsimp only)
    | refine cd_seq zq ?_ (lp_mono hL)
    | refine cd_blk zq ?_
    | refine cd_ret ?_
    | refine cd_skip ?_
    | refine cd_exit ?_
    | refine cd_loop ?_
    | refine cd_cond rfl ?_
    | refine cd_condT rfl ?_
    | refine cd_condF rfl ?_
    | (refine Cd.mk ?_; cbv)
    | (refine Ends1.mk ?_; cbv)
    | (refine Fin1.mk ?_; cbv)
    | exact trivial
    | refine And.intro ?_ ?_
    | refine orf fun _ => ?_
    | refine ort fun _ => ?_)
  all_goals
    clear hL zq Z
    subst hF hA
    simp only [Fs.std, Ar.std, List.nil_append] at *
    try (grind [stdCmp, b_add, b_sub, wr, mayB, chI, owI, grV, reV, paV, hvV, hfV, heV, v0, same])
theorem ok_rpart : ConOk Try.prog 37 (c_rpart Fs.std) := by
  refine con_of (FsOk.cons ok_rbind FsOk.nil rfl) Try.func37 rfl rfl fun xs h p hp => ?_
  unfold c_rpart at hp
  split at hp
  · cases hp
    exact ⟨lee_le rfl, fun hC _ => x_rpart _ _ _ _ hC⟩
  · cases hp

def c_rhear (F : Fs) : Con := fun xs h => match xs, h with
  | [.agg [.val (.int .i64 v_m), .val (.bool v_t), .val (.bool v_b), .val (.int .i64 v_o)], .one (.val (.int .i64 k))], [] => some ⟨F.f_may v_m v_t v_b v_o = true, .tup [.agg [.val (.int .i64 (F.f_he v_m v_t v_b v_o k).m), .val (.bool (F.f_he v_m v_t v_b v_o k).t), .val (.bool (F.f_he v_m v_t v_b v_o k).b), .val (.int .i64 (F.f_he v_m v_t v_b v_o k).o)], .agg [.sl none (.ints .i64 (F.f_he v_m v_t v_b v_o k).w), .val (.bool (F.f_he v_m v_t v_b v_o k).tb), .val (.bool (F.f_he v_m v_t v_b v_o k).tp), .val (.bool (F.f_he v_m v_t v_b v_o k).tf)]], [], [Any, Any]⟩
  | _, _ => none
set_option maxHeartbeats 2000000 in
set_option maxRecDepth 100000 in
theorem x_rhear (v_m : Int) (v_t : Bool) (v_b : Bool) (v_o : Int) (k : Int) (hC : Fs.std.f_may v_m v_t v_b v_o = true) : Does [(59, c_rbind Fs.std)] Try.f38 [.agg [.val (.int .i64 v_m), .val (.bool v_t), .val (.bool v_b), .val (.int .i64 v_o)], .one (.val (.int .i64 k))] [] ⟨Fs.std.f_may v_m v_t v_b v_o = true, .tup [.agg [.val (.int .i64 (Fs.std.f_he v_m v_t v_b v_o k).m), .val (.bool (Fs.std.f_he v_m v_t v_b v_o k).t), .val (.bool (Fs.std.f_he v_m v_t v_b v_o k).b), .val (.int .i64 (Fs.std.f_he v_m v_t v_b v_o k).o)], .agg [.sl none (.ints .i64 (Fs.std.f_he v_m v_t v_b v_o k).w), .val (.bool (Fs.std.f_he v_m v_t v_b v_o k).tb), .val (.bool (Fs.std.f_he v_m v_t v_b v_o k).tp), .val (.bool (Fs.std.f_he v_m v_t v_b v_o k).tf)]], [], [Any, Any]⟩ := by
  intro b gv
  generalize hF : Fs.std = F at hC ⊢
  generalize hA : Ar.std = A
  generalize hL : Lp _ _ _ = L
  obtain ⟨Z, zq⟩ := z_all
  refine cd_open (lp_mono hL) zq rfl ?_
  repeat' (first
    | (refine z_open zq ?_; try dsimp only)
    | refine cd_seq zq ?_ (lp_mono hL)
    | refine cd_blk zq ?_
    | refine cd_ret ?_
    | refine cd_skip ?_
    | refine cd_exit ?_
    | refine cd_loop ?_
    | refine cd_cond rfl ?_
    | refine cd_condT rfl ?_
    | refine cd_condF rfl ?_
    | (refine Cd.mk ?_; cbv)
    | (refine Ends1.mk ?_; cbv)
    | (refine Fin1.mk ?_; cbv)
    | exact trivial
    | refine And.intro ?_ ?_
    | refine orf fun _ => ?_
    | refine ort fun _ => ?_)
  all_goals
    clear hL zq Z
    subst hF hA
    simp only [Fs.std, Ar.std, List.nil_append] at *
    try (grind [stdCmp, b_add, b_sub, wr, mayB, chI, owI, grV, reV, paV, hvV, hfV, heV, v0, same])
theorem ok_rhear : ConOk Try.prog 38 (c_rhear Fs.std) := by
  refine con_of (FsOk.cons ok_rbind FsOk.nil rfl) Try.func38 rfl rfl fun xs h p hp => ?_
  unfold c_rhear at hp
  split at hp
  · cases hp
    exact ⟨lee_le rfl, fun hC _ => x_rhear _ _ _ _ _ hC⟩
  · cases hp
end Go.Proofs.Ytgfficaonampbaa.VoR
