
/-
  ends that open sessions, and takers, over the reckoner. No condition.
-/
import Derived.Test.YtakebkfhigadiaaRyOp
import Derived.Test.YtakebkfhigadiaaRyOr
namespace Go.Proofs.Ytakebkfhigadiaa.HaR
open Go Go.Proofs.Ytakebkfhigadiaa.Ry

def limitB (n : Int) : Bool := decide (1 ≤ n) && decide (n ≤ 2147483647)
def openB (l c p : Int) (o : Bool) : Bool := c == l && c != 0 && p == 0 && !o
def openingB (l c p : Int) (o : Bool) : Bool := c == 0 && decide (l < p) && decide (p ≤ 2147483647) && !o
def overB (c p : Int) (o : Bool) : Bool := c == 0 && p == 0 && o
def mayH (l c p : Int) (o : Bool) : Bool := decide (0 ≤ l) && decide (l ≤ 2147483647) && (openB l c p o || openingB l c p o || overB c p o)
def chkH (l c p : Int) (o : Bool) : Int := if mayH l c p o then 0 else 1
structure HandE where
  l : Int
  c : Int
  p : Int
  o : Bool
  e : Int
structure HandQ where
  l : Int
  c : Int
  p : Int
  o : Bool
  a : Bool
  b : Bool
  e : Int
def cntB (n : Int) : Bool := decide (0 ≤ n) && decide (n ≤ 2147483647)
def newH (last limit : Int) : HandE := if limit ≤ last then ⟨last, 0, 0, true, 0⟩ else ⟨last, 0, last + 1, false, 0⟩
def newF (last limit : Int) : HandE := if 0 ≤ last ∧ last ≤ 2147483647 ∧ limitB limit = true then newH last limit else ⟨0, 0, 0, false, 1⟩
def closeH (l c p : Int) (o : Bool) (limit : Int) : HandE := if 0 < c then newH l limit else ⟨l, c, p, o, 0⟩
def closeF (l c p : Int) (o : Bool) (limit : Int) : HandE := if mayH l c p o = true ∧ limitB limit = true then closeH l c p o limit else ⟨0, 0, 0, false, 1⟩
def welH (l c p : Int) (o : Bool) (q : Int) : HandQ := if 0 < p ∧ p = q then ⟨q, q, 0, false, true, false, 0⟩ else ⟨l, c, p, o, false, false, 0⟩
def welF (l c p : Int) (o : Bool) (q : Int) : HandQ := if mayH l c p o = true then welH l c p o q else ⟨0, 0, 0, false, false, false, 1⟩
def helH (l c p : Int) (o : Bool) (q limit : Int) : HandQ :=
  if o = true ∨ q < 1 ∨ limit < q then ⟨l, c, p, o, false, false, 0⟩
  else if 0 < c then (if c < q then ⟨l, 0, q, false, true, true, 0⟩ else ⟨l, c, p, o, q == c, false, 0⟩)
  else if p < q then ⟨l, c, q, o, true, false, 0⟩ else ⟨l, c, p, o, q == p, false, 0⟩
def helF (l c p : Int) (o : Bool) (q limit : Int) : HandQ := if mayH l c p o = true ∧ limitB limit = true then helH l c p o q limit else ⟨0, 0, 0, false, false, false, 1⟩
/-- A taker, and what is told. -/
structure TkQ where
  n : Int
  w : Bool
  a : Bool
  k : Int
  e : Int
def getH (n : Int) (q : Int) : TkQ := if q = n ∧ q < 2147483647 then ⟨n + 1, true, true, 0, 0⟩ else ⟨n, true, false, 0, 0⟩
def getF (n : Int) (q : Int) : TkQ := if cntB n = true then getH n q else ⟨0, false, false, 0, 1⟩
def akF (n : Int) (w : Bool) : TkQ := if w = true ∧ cntB n = true then ⟨n, false, true, n, 0⟩ else ⟨n, w, false, 0, 0⟩
def tchF (n : Int) : Int := if cntB n = true then 0 else 1

structure Fs where
  f_cnt : Int → Bool
  f_limit : Int → Bool
  f_open : Int → Int → Int → Bool → Bool
  f_opening : Int → Int → Int → Bool → Bool
  f_over : Int → Int → Bool → Bool
  f_may : Int → Int → Int → Bool → Bool
  f_chk : Int → Int → Int → Bool → Int
  f_newH : Int → Int → HandE
  f_new : Int → Int → HandE
  f_closeH : Int → Int → Int → Bool → Int → HandE
  f_close : Int → Int → Int → Bool → Int → HandE
  f_welH : Int → Int → Int → Bool → Int → HandQ
  f_wel : Int → Int → Int → Bool → Int → HandQ
  f_helH : Int → Int → Int → Bool → Int → Int → HandQ
  f_hel : Int → Int → Int → Bool → Int → Int → HandQ
  f_getH : Int → Int → TkQ
  f_get : Int → Int → TkQ
  f_ak : Int → Bool → TkQ
  f_tch : Int → Int
def Fs.std : Fs := ⟨cntB, limitB, openB, openingB, overB, mayH, chkH, newH, newF, closeH, closeF, welH, welF, helH, helF, getH, getF, akF, tchF⟩

def c_hlimit (F : Fs) : Con := fun xs h => match xs, h with
  | [.one (.val (.int .i64 n))], [] => some ⟨True, .sa (B (F.f_limit n)), [], [Any]⟩
  | _, _ => none
set_option maxHeartbeats 2000000 in
set_option maxRecDepth 100000 in
theorem x_hlimit (n : Int) : Does [] Try.f42 [.one (.val (.int .i64 n))] [] ⟨True, .sa (B (Fs.std.f_limit n)), [], [Any]⟩ := by
  intro b gv
  generalize hF : Fs.std = F
  generalize hA : Ar.std = A
  generalize hL : Lp _ _ _ = L
  obtain ⟨Z, zq⟩ := z_all
  refine cd_open (lp_mono hL) zq rfl ?_
  repeat' (first
    | (refine z_open zq ?_; try dsimp only)
    | refine cd_seq zq ?_ (lp_mono hL)
    | refine cd_blk zq ?_
    | refine cd_ret ?_
    | refine cd_skip ?_
    | refine cd_exit ?_
    | refine cd_loop ?_
    | refine cd_cond rfl ?_
    | refine cd_condT rfl ?_
    | refine cd_condF rfl ?_
    | (refine Cd.mk ?_; cbv)
    | (refine Ends1.mk ?_; cbv)
    | (refine Fin1.mk ?_; cbv)
    | exact trivial
    | refine And.intro ?_ ?_
    | refine orf fun _ => ?_
    | refine ort fun _ => ?_)
  all_goals (clear hL zq Z; subst hF hA; simp only [Fs.std, Ar.std] at * <;> grind [stdCmp, b_add, b_sub, wr, limitB])
theorem ok_hlimit : ConOk Try.prog 42 (c_hlimit Fs.std) := by
  refine con_of FsOk.nil Try.func42 rfl rfl fun xs h p hp => ?_
  unfold c_hlimit at hp
  split at hp
  · cases hp
    exact ⟨lee_le rfl, fun _ _ => x_hlimit _⟩
  · cases hp

def c_rlimit (F : Fs) : Con := fun xs h => match xs, h with
  | [.one (.val (.int .i64 n))], [] => some ⟨True, .sa (B (F.f_limit n)), [], [Any]⟩
  | _, _ => none
def c_hopen (F : Fs) : Con := fun xs h => match xs, h with
  | [.agg [.val (.int .i64 h_l), .val (.int .i64 h_c), .val (.int .i64 h_p), .val (.bool h_o)]], [] => some ⟨True, .sa (B (F.f_open h_l h_c h_p h_o)), [], [Any]⟩
  | _, _ => none
set_option maxHeartbeats 2000000 in
set_option maxRecDepth 100000 in
theorem x_hopen (h_l : Int) (h_c : Int) (h_p : Int) (h_o : Bool) : Does [] Try.f76 [.agg [.val (.int .i64 h_l), .val (.int .i64 h_c), .val (.int .i64 h_p), .val (.bool h_o)]] [] ⟨True, .sa (B (Fs.std.f_open h_l h_c h_p h_o)), [], [Any]⟩ := by
  intro b gv
  generalize hF : Fs.std = F
  generalize hA : Ar.std = A
  generalize hL : Lp _ _ _ = L
  obtain ⟨Z, zq⟩ := z_all
  refine cd_open (lp_mono hL) zq rfl ?_
  repeat' (first
    | (refine z_open zq ?_; try dsimp only)
    | refine cd_seq zq ?_ (lp_mono hL)
    | refine cd_blk zq ?_
    | refine cd_ret ?_
    | refine cd_skip ?_
    | refine cd_exit ?_
    | refine cd_loop ?_
    | refine cd_cond rfl ?_
    | refine cd_condT rfl ?_
    | refine cd_condF rfl ?_
    | (refine Cd.mk ?_; cbv)
    | (refine Ends1.mk ?_; cbv)
    | (refine Fin1.mk ?_; cbv)
    | exact trivial
    | refine And.intro ?_ ?_
    | refine orf fun _ => ?_
    | refine ort fun _ => ?_)
  all_goals (clear hL zq Z; subst hF hA; simp only [Fs.std, Ar.std] at * <;> grind [stdCmp, b_add, b_sub, wr, openB])
theorem ok_hopen : ConOk Try.prog 76 (c_hopen Fs.std) := by
  refine con_of FsOk.nil Try.func76 rfl rfl fun xs h p hp => ?_
  unfold c_hopen at hp
  split at hp
  · cases hp
    exact ⟨lee_le rfl, fun _ _ => x_hopen _ _ _ _⟩
  · cases hp

def c_opening (F : Fs) : Con := fun xs h => match xs, h with
  | [.agg [.val (.int .i64 h_l), .val (.int .i64 h_c), .val (.int .i64 h_p), .val (.bool h_o)]], [] => some ⟨True, .sa (B (F.f_opening h_l h_c h_p h_o)), [], [Any]⟩
  | _, _ => none
set_option maxHeartbeats 2000000 in
set_option maxRecDepth 100000 in
theorem x_opening (h_l : Int) (h_c : Int) (h_p : Int) (h_o : Bool) : Does [] Try.f81 [.agg [.val (.int .i64 h_l), .val (.int .i64 h_c), .val (.int .i64 h_p), .val (.bool h_o)]] [] ⟨True, .sa (B (Fs.std.f_opening h_l h_c h_p h_o)), [], [Any]⟩ := by
  intro b gv
  generalize hF : Fs.std = F
  generalize hA : Ar.std = A
  generalize hL : Lp _ _ _ = L
  obtain ⟨Z, zq⟩ := z_all
  refine cd_open (lp_mono hL) zq rfl ?_
  repeat' (first
    | (refine z_open zq ?_; try dsimp only)
    | refine cd_seq zq ?_ (lp_mono hL)
    | refine cd_blk zq ?_
    | refine cd_ret ?_
    | refine cd_skip ?_
    | refine cd_exit ?_
    | refine cd_loop ?_
    | refine cd_cond rfl ?_
    | refine cd_condT rfl ?_
    | refine cd_condF rfl ?_
    | (refine Cd.mk ?_; cbv)
    | (refine Ends1.mk ?_; cbv)
    | (refine Fin1.mk ?_; cbv)
    | exact trivial
    | refine And.intro ?_ ?_
    | refine orf fun _ => ?_
    | refine ort fun _ => ?_)
  all_goals (clear hL zq Z; subst hF hA; simp only [Fs.std, Ar.std] at * <;> grind [stdCmp, b_add, b_sub, wr, openingB])
theorem ok_opening : ConOk Try.prog 81 (c_opening Fs.std) := by
  refine con_of FsOk.nil Try.func81 rfl rfl fun xs h p hp => ?_
  unfold c_opening at hp
  split at hp
  · cases hp
    exact ⟨lee_le rfl, fun _ _ => x_opening _ _ _ _⟩
  · cases hp

def c_over (F : Fs) : Con := fun xs h => match xs, h with
  | [.agg [.val (.int .i64 _), .val (.int .i64 h_c), .val (.int .i64 h_p), .val (.bool h_o)]], [] => some ⟨True, .sa (B (F.f_over h_c h_p h_o)), [], [Any]⟩
  | _, _ => none
set_option maxHeartbeats 2000000 in
set_option maxRecDepth 100000 in
theorem x_over (h_l : Int) (h_c : Int) (h_p : Int) (h_o : Bool) : Does [] Try.f82 [.agg [.val (.int .i64 h_l), .val (.int .i64 h_c), .val (.int .i64 h_p), .val (.bool h_o)]] [] ⟨True, .sa (B (Fs.std.f_over h_c h_p h_o)), [], [Any]⟩ := by
  intro b gv
  generalize hF : Fs.std = F
  generalize hA : Ar.std = A
  generalize hL : Lp _ _ _ = L
  obtain ⟨Z, zq⟩ := z_all
  refine cd_open (lp_mono hL) zq rfl ?_
  repeat' (first
    | (refine z_open zq ?_; try dsimp only)
    | refine cd_seq zq ?_ (lp_mono hL)
    | refine cd_blk zq ?_
    | refine cd_ret ?_
    | refine cd_skip ?_
    | refine cd_exit ?_
    | refine cd_loop ?_
    | refine cd_cond rfl ?_
    | refine cd_condT rfl ?_
    | refine cd_condF rfl ?_
    | (refine Cd.mk ?_; cbv)
    | (refine Ends1.mk ?_; cbv)
    | (refine Fin1.mk ?_; cbv)
    | exact trivial
    | refine And.intro ?_ ?_
    | refine orf fun _ => ?_
    | refine ort fun _ => ?_)
  all_goals (clear hL zq Z; subst hF hA; simp only [Fs.std, Ar.std] at * <;> grind [stdCmp, b_add, b_sub, wr, overB])
theorem ok_over : ConOk Try.prog 82 (c_over Fs.std) := by
  refine con_of FsOk.nil Try.func82 rfl rfl fun xs h p hp => ?_
  unfold c_over at hp
  split at hp
  · cases hp
    exact ⟨lee_le rfl, fun _ _ => x_over _ _ _ _⟩
  · cases hp

def c_hcheck (F : Fs) : Con := fun xs h => match xs, h with
  | [.agg [.val (.int .i64 h_l), .val (.int .i64 h_c), .val (.int .i64 h_p), .val (.bool h_o)]], [] => some ⟨True, .sa (I (F.f_chk h_l h_c h_p h_o)), [], [Any]⟩
  | _, _ => none
set_option maxHeartbeats 2000000 in
set_option maxRecDepth 100000 in
theorem x_hcheck (h_l : Int) (h_c : Int) (h_p : Int) (h_o : Bool) : Does [(76, c_hopen Fs.std), (81, c_opening Fs.std), (82, c_over Fs.std)] Try.f62 [.agg [.val (.int .i64 h_l), .val (.int .i64 h_c), .val (.int .i64 h_p), .val (.bool h_o)]] [] ⟨True, .sa (I (Fs.std.f_chk h_l h_c h_p h_o)), [], [Any]⟩ := by
  intro b gv
  generalize hF : Fs.std = F
  generalize hA : Ar.std = A
  generalize hL : Lp _ _ _ = L
  obtain ⟨Z, zq⟩ := z_all
  refine cd_open (lp_mono hL) zq rfl ?_
  repeat' (first
    | (refine z_open zq ?_; try dsimp only)
    | refine cd_seq zq ?_ (lp_mono hL)
    | refine cd_blk zq ?_
    | refine cd_ret ?_
    | refine cd_skip ?_
    | refine cd_exit ?_
    | refine cd_loop ?_
    | refine cd_cond rfl ?_
    | refine cd_condT rfl ?_
    | refine cd_condF rfl ?_
    | (refine Cd.mk ?_; cbv)
    | (refine Ends1.mk ?_; cbv)
    | (refine Fin1.mk ?_; cbv)
    | exact trivial
    | refine And.intro ?_ ?_
    | refine orf fun _ => ?_
    | refine ort fun _ => ?_)
  all_goals (clear hL zq Z; subst hF hA; simp only [Fs.std, Ar.std] at * <;> grind [stdCmp, b_add, b_sub, wr, chkH, mayH])
theorem ok_hcheck : ConOk Try.prog 62 (c_hcheck Fs.std) := by
  refine con_of (FsOk.cons ok_hopen (FsOk.cons ok_opening (FsOk.cons ok_over FsOk.nil rfl) rfl) rfl) Try.func62 rfl rfl fun xs h p hp => ?_
  unfold c_hcheck at hp
  split at hp
  · cases hp
    exact ⟨lee_le rfl, fun _ _ => x_hcheck _ _ _ _⟩
  · cases hp

def c_hmay (F : Fs) : Con := fun xs h => match xs, h with
  | [.agg [.val (.int .i64 h_l), .val (.int .i64 h_c), .val (.int .i64 h_p), .val (.bool h_o)]], [] => some ⟨True, .sa (B (F.f_may h_l h_c h_p h_o)), [], [Any]⟩
  | _, _ => none
def c_hnew (F : Fs) : Con := fun xs h => match xs, h with
  | [.one (.val (.int .i64 last)), .one (.val (.int .i64 limit))], [] => some ⟨True, .tup [.agg [.val (.int .i64 (F.f_new last limit).l), .val (.int .i64 (F.f_new last limit).c), .val (.int .i64 (F.f_new last limit).p), .val (.bool (F.f_new last limit).o)], I (F.f_new last limit).e], [], [Any, Any]⟩
  | _, _ => none
set_option maxHeartbeats 2000000 in
set_option maxRecDepth 100000 in
theorem x_hnew (last : Int) (limit : Int) : Does [(42, c_hlimit Fs.std)] Try.f27 [.one (.val (.int .i64 last)), .one (.val (.int .i64 limit))] [] ⟨True, .tup [.agg [.val (.int .i64 (Fs.std.f_new last limit).l), .val (.int .i64 (Fs.std.f_new last limit).c), .val (.int .i64 (Fs.std.f_new last limit).p), .val (.bool (Fs.std.f_new last limit).o)], I (Fs.std.f_new last limit).e], [], [Any, Any]⟩ := by
  intro b gv
  generalize hF : Fs.std = F
  generalize hA : Ar.std = A
  generalize hL : Lp _ _ _ = L
  obtain ⟨Z, zq⟩ := z_all
  refine cd_open (lp_mono hL) zq rfl ?_
  repeat' (first
    | (refine z_open zq ?_; try dsimp only)
    | refine cd_seq zq ?_ (lp_mono hL)
    | refine cd_blk zq ?_
    | refine cd_ret ?_
    | refine cd_skip ?_
    | refine cd_exit ?_
    | refine cd_loop ?_
    | refine cd_cond rfl ?_
    | refine cd_condT rfl ?_
    | refine cd_condF rfl ?_
    | (refine Cd.mk ?_; cbv)
    | (refine Ends1.mk ?_; cbv)
    | (refine Fin1.mk ?_; cbv)
    | exact trivial
    | refine And.intro ?_ ?_
    | refine orf fun _ => ?_
    | refine ort fun _ => ?_)
  all_goals (clear hL zq Z; subst hF hA; simp only [Fs.std, Ar.std] at * <;> grind [stdCmp, b_add, b_sub, wr, newF, newH, limitB])
theorem ok_hnew : ConOk Try.prog 27 (c_hnew Fs.std) := by
  refine con_of (FsOk.cons ok_hlimit FsOk.nil rfl) Try.func27 rfl rfl fun xs h p hp => ?_
  unfold c_hnew at hp
  split at hp
  · cases hp
    exact ⟨lee_le rfl, fun _ _ => x_hnew _ _⟩
  · cases hp

def c_hclose (F : Fs) : Con := fun xs h => match xs, h with
  | [.agg [.val (.int .i64 h_l), .val (.int .i64 h_c), .val (.int .i64 h_p), .val (.bool h_o)], .one (.val (.int .i64 limit))], [] => some ⟨True, .tup [.agg [.val (.int .i64 (F.f_close h_l h_c h_p h_o limit).l), .val (.int .i64 (F.f_close h_l h_c h_p h_o limit).c), .val (.int .i64 (F.f_close h_l h_c h_p h_o limit).p), .val (.bool (F.f_close h_l h_c h_p h_o limit).o)], I (F.f_close h_l h_c h_p h_o limit).e], [], [Any, Any]⟩
  | _, _ => none
set_option maxHeartbeats 2000000 in
set_option maxRecDepth 100000 in
theorem x_hclose (h_l : Int) (h_c : Int) (h_p : Int) (h_o : Bool) (limit : Int) : Does [(62, c_hcheck Fs.std), (42, c_hlimit Fs.std), (27, c_hnew Fs.std), (76, c_hopen Fs.std), (82, c_over Fs.std), (81, c_opening Fs.std)] Try.f57 [.agg [.val (.int .i64 h_l), .val (.int .i64 h_c), .val (.int .i64 h_p), .val (.bool h_o)], .one (.val (.int .i64 limit))] [] ⟨True, .tup [.agg [.val (.int .i64 (Fs.std.f_close h_l h_c h_p h_o limit).l), .val (.int .i64 (Fs.std.f_close h_l h_c h_p h_o limit).c), .val (.int .i64 (Fs.std.f_close h_l h_c h_p h_o limit).p), .val (.bool (Fs.std.f_close h_l h_c h_p h_o limit).o)], I (Fs.std.f_close h_l h_c h_p h_o limit).e], [], [Any, Any]⟩ := by
  intro b gv
  generalize hF : Fs.std = F
  generalize hA : Ar.std = A
  generalize hL : Lp _ _ _ = L
  obtain ⟨Z, zq⟩ := z_all
  refine cd_open (lp_mono hL) zq rfl ?_
  repeat' (first
    | (refine z_open zq ?_; try dsimp only)
    | refine cd_seq zq ?_ (lp_mono hL)
    | refine cd_blk zq ?_
    | refine cd_ret ?_
    | refine cd_skip ?_
    | refine cd_exit ?_
    | refine cd_loop ?_
    | refine cd_cond rfl ?_
    | refine cd_condT rfl ?_
    | refine cd_condF rfl ?_
    | (refine Cd.mk ?_; cbv)
    | (refine Ends1.mk ?_; cbv)
    | (refine Fin1.mk ?_; cbv)
    | exact trivial
    | refine And.intro ?_ ?_
    | refine orf fun _ => ?_
    | refine ort fun _ => ?_)
  all_goals (clear hL zq Z; subst hF hA; simp only [Fs.std, Ar.std] at * <;> grind [stdCmp, b_add, b_sub, wr, closeF, closeH, newF, newH, chkH, mayH, openB, openingB, overB, limitB])
theorem ok_hclose : ConOk Try.prog 57 (c_hclose Fs.std) := by
  refine con_of (FsOk.cons ok_hcheck (FsOk.cons ok_hlimit (FsOk.cons ok_hnew (FsOk.cons ok_hopen (FsOk.cons ok_over (FsOk.cons ok_opening FsOk.nil rfl) rfl) rfl) rfl) rfl) rfl) Try.func57 rfl rfl fun xs h p hp => ?_
  unfold c_hclose at hp
  split at hp
  · cases hp
    exact ⟨lee_le rfl, fun _ _ => x_hclose _ _ _ _ _⟩
  · cases hp

def c_hrnew (F : Fs) : Con := fun xs h => match xs, h with
  | [.one (.val (.int .i64 last)), .one (.val (.int .i64 limit))], [] => some ⟨F.f_cnt last = true, .sa (.agg [.val (.int .i64 (F.f_newH last limit).l), .val (.int .i64 (F.f_newH last limit).c), .val (.int .i64 (F.f_newH last limit).p), .val (.bool (F.f_newH last limit).o)]), [], [Any, Any]⟩
  | _, _ => none
def c_hrclose (F : Fs) : Con := fun xs h => match xs, h with
  | [.agg [.val (.int .i64 h_l), .val (.int .i64 h_c), .val (.int .i64 h_p), .val (.bool h_o)], .one (.val (.int .i64 limit))], [] => some ⟨F.f_cnt h_l = true, .sa (.agg [.val (.int .i64 (F.f_closeH h_l h_c h_p h_o limit).l), .val (.int .i64 (F.f_closeH h_l h_c h_p h_o limit).c), .val (.int .i64 (F.f_closeH h_l h_c h_p h_o limit).p), .val (.bool (F.f_closeH h_l h_c h_p h_o limit).o)]), [], [Any, Any]⟩
  | _, _ => none
def c_wel (F : Fs) : Con := fun xs h => match xs, h with
  | [.agg [.val (.int .i64 h_l), .val (.int .i64 h_c), .val (.int .i64 h_p), .val (.bool h_o)], .one (.val (.int .i64 q))], [] => some ⟨True, .tup [.agg [.val (.int .i64 (F.f_wel h_l h_c h_p h_o q).l), .val (.int .i64 (F.f_wel h_l h_c h_p h_o q).c), .val (.int .i64 (F.f_wel h_l h_c h_p h_o q).p), .val (.bool (F.f_wel h_l h_c h_p h_o q).o)], B (F.f_wel h_l h_c h_p h_o q).a, I (F.f_wel h_l h_c h_p h_o q).e], [], [Any, Any]⟩
  | _, _ => none
set_option maxHeartbeats 2000000 in
set_option maxRecDepth 100000 in
theorem x_wel (h_l : Int) (h_c : Int) (h_p : Int) (h_o : Bool) (q : Int) : Does [(62, c_hcheck Fs.std), (81, c_opening Fs.std)] Try.f69 [.agg [.val (.int .i64 h_l), .val (.int .i64 h_c), .val (.int .i64 h_p), .val (.bool h_o)], .one (.val (.int .i64 q))] [] ⟨True, .tup [.agg [.val (.int .i64 (Fs.std.f_wel h_l h_c h_p h_o q).l), .val (.int .i64 (Fs.std.f_wel h_l h_c h_p h_o q).c), .val (.int .i64 (Fs.std.f_wel h_l h_c h_p h_o q).p), .val (.bool (Fs.std.f_wel h_l h_c h_p h_o q).o)], B (Fs.std.f_wel h_l h_c h_p h_o q).a, I (Fs.std.f_wel h_l h_c h_p h_o q).e], [], [Any, Any]⟩ := by
  intro b gv
  generalize hF : Fs.std = F
  generalize hA : Ar.std = A
  generalize hL : Lp _ _ _ = L
  obtain ⟨Z, zq⟩ := z_all
  refine cd_open (lp_mono hL) zq rfl ?_
  repeat' (first
    | (refine z_open zq ?_; try dsimp only)
    | refine cd_seq zq ?_ (lp_mono hL)
    | refine cd_blk zq ?_
    | refine cd_ret ?_
    | refine cd_skip ?_
    | refine cd_exit ?_
    | refine cd_loop ?_
    | refine cd_cond rfl ?_
    | refine cd_condT rfl ?_
    | refine cd_condF rfl ?_
    | (refine Cd.mk ?_; cbv)
    | (refine Ends1.mk ?_; cbv)
    | (refine Fin1.mk ?_; cbv)
    | exact trivial
    | refine And.intro ?_ ?_
    | refine orf fun _ => ?_
    | refine ort fun _ => ?_)
  all_goals (clear hL zq Z; subst hF hA; simp only [Fs.std, Ar.std] at * <;> grind [stdCmp, b_add, b_sub, wr, welF, welH, chkH, mayH, openB, openingB, overB])
theorem ok_wel : ConOk Try.prog 69 (c_wel Fs.std) := by
  refine con_of (FsOk.cons ok_hcheck (FsOk.cons ok_opening FsOk.nil rfl) rfl) Try.func69 rfl rfl fun xs h p hp => ?_
  unfold c_wel at hp
  split at hp
  · cases hp
    exact ⟨lee_le rfl, fun _ _ => x_wel _ _ _ _ _⟩
  · cases hp

def c_hel (F : Fs) : Con := fun xs h => match xs, h with
  | [.agg [.val (.int .i64 h_l), .val (.int .i64 h_c), .val (.int .i64 h_p), .val (.bool h_o)], .one (.val (.int .i64 q)), .one (.val (.int .i64 limit))], [] => some ⟨True, .tup [.agg [.val (.int .i64 (F.f_hel h_l h_c h_p h_o q limit).l), .val (.int .i64 (F.f_hel h_l h_c h_p h_o q limit).c), .val (.int .i64 (F.f_hel h_l h_c h_p h_o q limit).p), .val (.bool (F.f_hel h_l h_c h_p h_o q limit).o)], B (F.f_hel h_l h_c h_p h_o q limit).a, B (F.f_hel h_l h_c h_p h_o q limit).b, I (F.f_hel h_l h_c h_p h_o q limit).e], [], [Any, Any, Any]⟩
  | _, _ => none
set_option maxHeartbeats 2000000 in
set_option maxRecDepth 100000 in
theorem x_hel (h_l : Int) (h_c : Int) (h_p : Int) (h_o : Bool) (q : Int) (limit : Int) : Does [(62, c_hcheck Fs.std), (42, c_hlimit Fs.std), (82, c_over Fs.std), (81, c_opening Fs.std)] Try.f67 [.agg [.val (.int .i64 h_l), .val (.int .i64 h_c), .val (.int .i64 h_p), .val (.bool h_o)], .one (.val (.int .i64 q)), .one (.val (.int .i64 limit))] [] ⟨True, .tup [.agg [.val (.int .i64 (Fs.std.f_hel h_l h_c h_p h_o q limit).l), .val (.int .i64 (Fs.std.f_hel h_l h_c h_p h_o q limit).c), .val (.int .i64 (Fs.std.f_hel h_l h_c h_p h_o q limit).p), .val (.bool (Fs.std.f_hel h_l h_c h_p h_o q limit).o)], B (Fs.std.f_hel h_l h_c h_p h_o q limit).a, B (Fs.std.f_hel h_l h_c h_p h_o q limit).b, I (Fs.std.f_hel h_l h_c h_p h_o q limit).e], [], [Any, Any, Any]⟩ := by
  intro b gv
  generalize hF : Fs.std = F
  generalize hA : Ar.std = A
  generalize hL : Lp _ _ _ = L
  obtain ⟨Z, zq⟩ := z_all
  refine cd_open (lp_mono hL) zq rfl ?_
  repeat' (first
    | (refine z_open zq ?_; try dsimp only)
    | refine cd_seq zq ?_ (lp_mono hL)
    | refine cd_blk zq ?_
    | refine cd_ret ?_
    | refine cd_skip ?_
    | refine cd_exit ?_
    | refine cd_loop ?_
    | refine cd_cond rfl ?_
    | refine cd_condT rfl ?_
    | refine cd_condF rfl ?_
    | (refine Cd.mk ?_; cbv)
    | (refine Ends1.mk ?_; cbv)
    | (refine Fin1.mk ?_; cbv)
    | exact trivial
    | refine And.intro ?_ ?_
    | refine orf fun _ => ?_
    | refine ort fun _ => ?_)
  all_goals (clear hL zq Z; subst hF hA; simp only [Fs.std, Ar.std] at * <;> grind (splits := 30) [stdCmp, b_add, b_sub, wr, helF, helH, chkH, mayH, openB, openingB, overB])
theorem ok_hel : ConOk Try.prog 67 (c_hel Fs.std) := by
  refine con_of (FsOk.cons ok_hcheck (FsOk.cons ok_hlimit (FsOk.cons ok_over (FsOk.cons ok_opening FsOk.nil rfl) rfl) rfl) rfl) Try.func67 rfl rfl fun xs h p hp => ?_
  unfold c_hel at hp
  split at hp
  · cases hp
    exact ⟨lee_le rfl, fun _ _ => x_hel _ _ _ _ _ _⟩
  · cases hp

def c_rwel (F : Fs) : Con := fun xs h => match xs, h with
  | [.agg [.val (.int .i64 h_l), .val (.int .i64 h_c), .val (.int .i64 h_p), .val (.bool h_o)], .one (.val (.int .i64 q))], [] => some ⟨True, .tup [.agg [.val (.int .i64 (F.f_welH h_l h_c h_p h_o q).l), .val (.int .i64 (F.f_welH h_l h_c h_p h_o q).c), .val (.int .i64 (F.f_welH h_l h_c h_p h_o q).p), .val (.bool (F.f_welH h_l h_c h_p h_o q).o)], B (F.f_welH h_l h_c h_p h_o q).a], [], [Any, Any]⟩
  | _, _ => none
def c_rhel (F : Fs) : Con := fun xs h => match xs, h with
  | [.agg [.val (.int .i64 h_l), .val (.int .i64 h_c), .val (.int .i64 h_p), .val (.bool h_o)], .one (.val (.int .i64 q)), .one (.val (.int .i64 limit))], [] => some ⟨True, .tup [.agg [.val (.int .i64 (F.f_helH h_l h_c h_p h_o q limit).l), .val (.int .i64 (F.f_helH h_l h_c h_p h_o q limit).c), .val (.int .i64 (F.f_helH h_l h_c h_p h_o q limit).p), .val (.bool (F.f_helH h_l h_c h_p h_o q limit).o)], B (F.f_helH h_l h_c h_p h_o q limit).a, B (F.f_helH h_l h_c h_p h_o q limit).b], [], [Any, Any, Any]⟩
  | _, _ => none
def c_tcheck (F : Fs) : Con := fun xs h => match xs, h with
  | [.agg [.val (.int .i64 t_n), .val (.bool _)]], [] => some ⟨True, .sa (I (F.f_tch t_n)), [], [Any]⟩
  | _, _ => none
set_option maxHeartbeats 2000000 in
set_option maxRecDepth 100000 in
theorem x_tcheck (t_n : Int) (t_w : Bool) : Does [] Try.f64 [.agg [.val (.int .i64 t_n), .val (.bool t_w)]] [] ⟨True, .sa (I (Fs.std.f_tch t_n)), [], [Any]⟩ := by
  intro b gv
  generalize hF : Fs.std = F
  generalize hA : Ar.std = A
  generalize hL : Lp _ _ _ = L
  obtain ⟨Z, zq⟩ := z_all
  refine cd_open (lp_mono hL) zq rfl ?_
  repeat' (first
    | (refine z_open zq ?_; try dsimp only)
    | refine cd_seq zq ?_ (lp_mono hL)
    | refine cd_blk zq ?_
    | refine cd_ret ?_
    | refine cd_skip ?_
    | refine cd_exit ?_
    | refine cd_loop ?_
    | refine cd_cond rfl ?_
    | refine cd_condT rfl ?_
    | refine cd_condF rfl ?_
    | (refine Cd.mk ?_; cbv)
    | (refine Ends1.mk ?_; cbv)
    | (refine Fin1.mk ?_; cbv)
    | exact trivial
    | refine And.intro ?_ ?_
    | refine orf fun _ => ?_
    | refine ort fun _ => ?_)
  all_goals (clear hL zq Z; subst hF hA; simp only [Fs.std, Ar.std] at * <;> grind [stdCmp, b_add, b_sub, wr, tchF, cntB])
theorem ok_tcheck : ConOk Try.prog 64 (c_tcheck Fs.std) := by
  refine con_of FsOk.nil Try.func64 rfl rfl fun xs h p hp => ?_
  unfold c_tcheck at hp
  split at hp
  · cases hp
    exact ⟨lee_le rfl, fun _ _ => x_tcheck _ _⟩
  · cases hp

def c_get (F : Fs) : Con := fun xs h => match xs, h with
  | [.agg [.val (.int .i64 t_n), .val (.bool _)], .one (.val (.int .i64 q))], [] => some ⟨True, .tup [.agg [.val (.int .i64 (F.f_get t_n q).n), .val (.bool (F.f_get t_n q).w)], B (F.f_get t_n q).a, I (F.f_get t_n q).e], [], [Any, Any]⟩
  | _, _ => none
set_option maxHeartbeats 2000000 in
set_option maxRecDepth 100000 in
theorem x_get (t_n : Int) (t_w : Bool) (q : Int) : Does [(64, c_tcheck Fs.std)] Try.f70 [.agg [.val (.int .i64 t_n), .val (.bool t_w)], .one (.val (.int .i64 q))] [] ⟨True, .tup [.agg [.val (.int .i64 (Fs.std.f_get t_n q).n), .val (.bool (Fs.std.f_get t_n q).w)], B (Fs.std.f_get t_n q).a, I (Fs.std.f_get t_n q).e], [], [Any, Any]⟩ := by
  intro b gv
  generalize hF : Fs.std = F
  generalize hA : Ar.std = A
  generalize hL : Lp _ _ _ = L
  obtain ⟨Z, zq⟩ := z_all
  refine cd_open (lp_mono hL) zq rfl ?_
  repeat' (first
    | (refine z_open zq ?_; try dsimp only)
    | refine cd_seq zq ?_ (lp_mono hL)
    | refine cd_blk zq ?_
    | refine cd_ret ?_
    | refine cd_skip ?_
    | refine cd_exit ?_
    | refine cd_loop ?_
    | refine cd_cond rfl ?_
    | refine cd_condT rfl ?_
    | refine cd_condF rfl ?_
    | (refine Cd.mk ?_; cbv)
    | (refine Ends1.mk ?_; cbv)
    | (refine Fin1.mk ?_; cbv)
    | exact trivial
    | refine And.intro ?_ ?_
    | refine orf fun _ => ?_
    | refine ort fun _ => ?_)
  all_goals (clear hL zq Z; subst hF hA; simp only [Fs.std, Ar.std] at * <;> grind [stdCmp, b_add, b_sub, wr, tchF, getF, getH, cntB])
theorem ok_get : ConOk Try.prog 70 (c_get Fs.std) := by
  refine con_of (FsOk.cons ok_tcheck FsOk.nil rfl) Try.func70 rfl rfl fun xs h p hp => ?_
  unfold c_get at hp
  split at hp
  · cases hp
    exact ⟨lee_le rfl, fun _ _ => x_get _ _ _⟩
  · cases hp

def c_tack (F : Fs) : Con := fun xs h => match xs, h with
  | [.agg [.val (.int .i64 t_n), .val (.bool t_w)]], [] => some ⟨True, .tup [.agg [.val (.int .i64 (F.f_ak t_n t_w).n), .val (.bool (F.f_ak t_n t_w).w)], I (F.f_ak t_n t_w).k, B (F.f_ak t_n t_w).a], [], [Any]⟩
  | _, _ => none
set_option maxHeartbeats 2000000 in
set_option maxRecDepth 100000 in
theorem x_tack (t_n : Int) (t_w : Bool) : Does [(64, c_tcheck Fs.std)] Try.f56 [.agg [.val (.int .i64 t_n), .val (.bool t_w)]] [] ⟨True, .tup [.agg [.val (.int .i64 (Fs.std.f_ak t_n t_w).n), .val (.bool (Fs.std.f_ak t_n t_w).w)], I (Fs.std.f_ak t_n t_w).k, B (Fs.std.f_ak t_n t_w).a], [], [Any]⟩ := by
  intro b gv
  generalize hF : Fs.std = F
  generalize hA : Ar.std = A
  generalize hL : Lp _ _ _ = L
  obtain ⟨Z, zq⟩ := z_all
  refine cd_open (lp_mono hL) zq rfl ?_
  repeat' (first
    | (refine z_open zq ?_; try dsimp only)
    | refine cd_seq zq ?_ (lp_mono hL)
    | refine cd_blk zq ?_
    | refine cd_ret ?_
    | refine cd_skip ?_
    | refine cd_exit ?_
    | refine cd_loop ?_
    | refine cd_cond rfl ?_
    | refine cd_condT rfl ?_
    | refine cd_condF rfl ?_
    | (refine Cd.mk ?_; cbv)
    | (refine Ends1.mk ?_; cbv)
    | (refine Fin1.mk ?_; cbv)
    | exact trivial
    | refine And.intro ?_ ?_
    | refine orf fun _ => ?_
    | refine ort fun _ => ?_)
  all_goals (clear hL zq Z; subst hF hA; simp only [Fs.std, Ar.std] at * <;> grind [stdCmp, b_add, b_sub, wr, tchF, akF, cntB])
theorem ok_tack : ConOk Try.prog 56 (c_tack Fs.std) := by
  refine con_of (FsOk.cons ok_tcheck FsOk.nil rfl) Try.func56 rfl rfl fun xs h p hp => ?_
  unfold c_tack at hp
  split at hp
  · cases hp
    exact ⟨lee_le rfl, fun _ _ => x_tack _ _⟩
  · cases hp

def c_rtmay (F : Fs) : Con := fun xs h => match xs, h with
  | [.agg [.val (.int .i64 t_n), .val (.bool _)]], [] => some ⟨True, .sa (B (F.f_cnt t_n)), [], [Any]⟩
  | _, _ => none
def c_rget (F : Fs) : Con := fun xs h => match xs, h with
  | [.agg [.val (.int .i64 t_n), .val (.bool _)], .one (.val (.int .i64 q))], [] => some ⟨F.f_cnt t_n = true, .tup [.agg [.val (.int .i64 (F.f_getH t_n q).n), .val (.bool (F.f_getH t_n q).w)], B (F.f_getH t_n q).a], [], [Any, Any]⟩
  | _, _ => none
end Go.Proofs.Ytakebkfhigadiaa.HaR
