
/-
  the answer's links over the reckoner. No condition.
-/
import Derived.Test.YtgemoemkgcmcgaaLkR
namespace Go.Proofs.Ytgemoemkgcmcgaa.LkQ
open Go Go.Proofs.Ytgemoemkgcmcgaa.Ry Go.Proofs.Ytgemoemkgcmcgaa.HaR Go.Proofs.Ytgemoemkgcmcgaa.SeR Go.Proofs.Ytgemoemkgcmcgaa.SeS Go.Proofs.Ytgemoemkgcmcgaa.SeT Go.Proofs.Ytgemoemkgcmcgaa.SeU Go.Proofs.Ytgemoemkgcmcgaa.SeL Go.Proofs.Ytgemoemkgcmcgaa.SeV Go.Proofs.Ytgemoemkgcmcgaa.LiR Go.Proofs.Ytgemoemkgcmcgaa.LiQ Go.Proofs.Ytgemoemkgcmcgaa.LiS Go.Proofs.Ytgemoemkgcmcgaa.LkR

open Go.Proofs.Ytgemoemkgcmcgaa.FrR (mayF chF isC smF decF DF)
open Go.Proofs.Ytgemoemkgcmcgaa.FrQ (rdecF)
open Go.Proofs.Ytgemoemkgcmcgaa.OctR (byB)
abbrev c_frdec := FrQ.c_rdecode
theorem ok_frdec : ConOk Try.prog 51 (c_frdec FrQ.Qs.std) := FrQ.ok_rdecode
def rbtT (u v : Int) : BT := ⟨if u = 5 then 0 else u + 1, if v = 1 then 0 else v + 1, v == 1, u == 5, 0⟩
def rheaK (k : KN) (f : DF) (r : LD) : KD :=
  if r.y.d = true ∨ 0 < r.y.s then ⟨⟨k.h, k.g, r.x, 0, 0⟩, r.y, 0⟩
  else if 0 < r.x.c ∧ r.x.c = f.s then ⟨⟨k.h, k.g, r.x, 0, k.v⟩, r.y, 0⟩
  else ⟨⟨k.h, k.g, r.x, k.u, k.v⟩, r.y, 0⟩
def rhearK (k : KN) (b : List Int) (n : Int) : KD :=
  if (rdecF b).e = 0 then rheaK k (rdecF b) (rhearL k.x (rdecF b).k (rdecF b).s (rdecF b).q (rdecF b).a (rdecF b).p n) else ⟨k, zN, 0⟩
def rcloK (k : KN) (n : Int) : KD := ⟨⟨k.h, k.g, (rcloL k.x n).x, if (rcloL k.x n).y.d = true then 0 else k.u, if (rcloL k.x n).y.d = true then 0 else k.v⟩, (rcloL k.x n).y, 0⟩
def rtikK (k : KN) (n : Int) : KD :=
  if (rtikL k.x).x.c = 0 then ⟨⟨k.h, k.g, (rtikL k.x).x, k.u, k.v⟩, (rtikL k.x).y, 0⟩
  else if k.u = 5 then rcloK ⟨k.h, k.g, (rtikL k.x).x, 0, if k.v = 1 then 0 else k.v + 1⟩ n
  else ⟨⟨k.h, k.g, (rtikL k.x).x, k.u + 1, if k.v = 1 then 0 else k.v + 1⟩, ⟨if k.v = 1 then (rtikL k.x).y.f ++ [[.int 5, .int (rtikL k.x).x.c, .int 0, .int (rtikL k.x).x.n, .ints []]] else (rtikL k.x).y.f, (rtikL k.x).y.g, (rtikL k.x).y.d, (rtikL k.x).y.s⟩, 0⟩
theorem lb_rtik {x : LN} (hb : byS x.q = true) (hm : mayL x = true) : byS (rtikL x).x.q = true ∧ (rtikL x).y.f.length ≤ 100000 := by
  have h := tik_same (n := 1) hb hm rfl
  exact ⟨h.b2, (of_decide_eq_true (Bool.and_eq_true _ _ ▸ (show (byF (rtikL x).y.f && byS (rtikL x).y.g) = true from h.n2)).1).1⟩
theorem may_rtik {x : LN} (hb : byS x.q = true) (hm : mayL x = true) : mayL (rtikL x).x = true := by
  have h4 := may_L hm
  unfold rtikL
  split
  · exact hm
  · rename_i hp
    have h2 := (two_tick ⟨h4.2.1, h4.2.1, rfl, rfl, rfl, rfl, hb, hb⟩).2.2.2.2.2.may'
    by_cases g : opL x = true
    · simp only [mayL, sndL, Bool.and_eq_true, Bool.or_eq_true]
      exact ⟨⟨⟨h4.1, h2⟩, h4.2.2.1⟩, .inl g⟩
    · have g : opL x = false := by simpa using g
      have e := shut hm g
      have e2 : sndL x (rtkS x.b x.s x.q x.t) = x := by rw [e]; rfl
      rw [e2]
      exact hm

structure Us2 where
  s_may : KN → Bool
  s_bm : Int → Int → Bool
  s_bt : Int → Int → BT
  s_hear : KN → List Int → Int → KD
  s_clo : KN → Int → KD
  s_tik : KN → Int → KD
  s_sm : KN → KN → Bool
  s_kb : KN → Bool
  s_kb2 : KN → KN → Bool
  s_mk : KN → Bool
  s_ltk : LN → LD
  s_ml : LN → Bool
  s_node : Int → Bool
  s_hc : KN → List Int → Bool
  s_tk : KN → Bool
def Us2.std : Us2 := ⟨mayK, bmB, rbtT, rhearK, rcloK, rtikK, smK, kbB, kb2, fun k => mayL k.x, rtikL, mayL, fun n => decide (1 ≤ n ∧ n ≤ 64), fun k b => mayK k && byB b, fun k => mayK k && kbB k⟩

def c_rknode (F : Us2) : Con := fun xs h => match xs, h with
  | [.one (.val (.int .i64 n))], [] => some ⟨True, .sa (B (F.s_node n)), [], [Any]⟩
  | _, _ => none
set_option maxHeartbeats 2000000 in
set_option maxRecDepth 100000 in
theorem x_rknode (n : Int) : Does [] Try.f202 [.one (.val (.int .i64 n))] [] ⟨True, .sa (B (Us2.std.s_node n)), [], [Any]⟩ := by
  intro b gv
  generalize hF : Us2.std = F
  generalize hA : Ar.std = A
  generalize hL : Lp _ _ _ = L
  obtain ⟨Z, zq⟩ := z_all
  refine cd_open (lp_mono hL) zq rfl ?_
  repeat' (first
    | (refine z_open zq ?_; try dsimp only)
    | refine cd_seq zq ?_ (lp_mono hL)
    | refine cd_blk zq ?_
    | refine cd_ret ?_
    | refine cd_skip ?_
    | refine cd_exit ?_
    | refine cd_loop ?_
    | refine cd_cond rfl ?_
    | refine cd_condT rfl ?_
    | refine cd_condF rfl ?_
    | (refine Cd.mk ?_; cbv)
    | (refine Ends1.mk ?_; cbv)
    | (refine Fin1.mk ?_; cbv)
    | exact trivial
    | refine And.intro ?_ ?_
    | refine orf fun _ => ?_
    | refine ort fun _ => ?_)
  all_goals
    clear hL zq Z
    subst hF hA
    simp only [Us2.std, Ar.std] at *
    try (grind [stdCmp, b_add, wr])
theorem ok_rknode : ConOk Try.prog 202 (c_rknode Us2.std) := by
  refine con_of FsOk.nil Try.func202 rfl rfl fun xs h p hp => ?_
  unfold c_rknode at hp
  split at hp
  · cases hp
    exact ⟨lee_le rfl, fun _ _ => x_rknode _⟩
  · cases hp

def c_rbmay (F : Us2) : Con := fun xs h => match xs, h with
  | [.agg [.val (.int .i64 b_u), .val (.int .i64 b_v)]], [] => some ⟨True, .sa (B (F.s_bm b_u b_v)), [], [Any]⟩
  | _, _ => none
def c_rbtick (F : Us2) : Con := fun xs h => match xs, h with
  | [.agg [.val (.int .i64 b_u), .val (.int .i64 b_v)]], [] => some ⟨F.s_bm b_u b_v = true, .tup [.agg [.val (.int .i64 (F.s_bt b_u b_v).u), .val (.int .i64 (F.s_bt b_u b_v).v)], B (F.s_bt b_u b_v).a, B (F.s_bt b_u b_v).b], [], [Any]⟩
  | _, _ => none
def c_rkmay (F : Us2) : Con := fun xs h => match xs, h with
  | [.agg [.val (.int .i64 v_h), .val (.int .i64 v_g), .val (.int .i64 v_xl), .val (.int .i64 v_xc), .val (.int .i64 v_xp), .val (.bool v_xo), .val (.int .i64 v_xb), .val (.int .i64 v_xs), .sl none (.recs (.ints .u8 .nil) v_xq), .val (.int .i64 v_xt), .val (.int .i64 v_xn), .val (.bool v_xw), .val (.int .i64 v_u), .val (.int .i64 v_v)]], [] => some ⟨F.s_kb ⟨v_h, v_g, ⟨v_xl, v_xc, v_xp, v_xo, v_xb, v_xs, v_xq, v_xt, v_xn, v_xw⟩, v_u, v_v⟩ = true, .sa (B (F.s_may ⟨v_h, v_g, ⟨v_xl, v_xc, v_xp, v_xo, v_xb, v_xs, v_xq, v_xt, v_xn, v_xw⟩, v_u, v_v⟩)), [], [Any]⟩
  | _, _ => none
def c_rksame (F : Us2) : Con := fun xs h => match xs, h with
  | [.agg [.val (.int .i64 v_h), .val (.int .i64 v_g), .val (.int .i64 v_xl), .val (.int .i64 v_xc), .val (.int .i64 v_xp), .val (.bool v_xo), .val (.int .i64 v_xb), .val (.int .i64 v_xs), .sl none (.recs (.ints .u8 .nil) v_xq), .val (.int .i64 v_xt), .val (.int .i64 v_xn), .val (.bool v_xw), .val (.int .i64 v_u), .val (.int .i64 v_v)], .agg [.val (.int .i64 y_h), .val (.int .i64 y_g), .val (.int .i64 y_xl), .val (.int .i64 y_xc), .val (.int .i64 y_xp), .val (.bool y_xo), .val (.int .i64 y_xb), .val (.int .i64 y_xs), .sl none (.recs (.ints .u8 .nil) y_xq), .val (.int .i64 y_xt), .val (.int .i64 y_xn), .val (.bool y_xw), .val (.int .i64 y_u), .val (.int .i64 y_v)]], [] => some ⟨F.s_kb2 ⟨v_h, v_g, ⟨v_xl, v_xc, v_xp, v_xo, v_xb, v_xs, v_xq, v_xt, v_xn, v_xw⟩, v_u, v_v⟩ ⟨y_h, y_g, ⟨y_xl, y_xc, y_xp, y_xo, y_xb, y_xs, y_xq, y_xt, y_xn, y_xw⟩, y_u, y_v⟩ = true, .sa (B (F.s_sm ⟨v_h, v_g, ⟨v_xl, v_xc, v_xp, v_xo, v_xb, v_xs, v_xq, v_xt, v_xn, v_xw⟩, v_u, v_v⟩ ⟨y_h, y_g, ⟨y_xl, y_xc, y_xp, y_xo, y_xb, y_xs, y_xq, y_xt, y_xn, y_xw⟩, y_u, y_v⟩)), [], [Any, Any]⟩
  | _, _ => none
def c_rkclose (F : Us2) : Con := fun xs h => match xs, h with
  | [.agg [.val (.int .i64 v_h), .val (.int .i64 v_g), .val (.int .i64 v_xl), .val (.int .i64 v_xc), .val (.int .i64 v_xp), .val (.bool v_xo), .val (.int .i64 v_xb), .val (.int .i64 v_xs), .sl none (.recs (.ints .u8 .nil) v_xq), .val (.int .i64 v_xt), .val (.int .i64 v_xn), .val (.bool v_xw), .val (.int .i64 v_u), .val (.int .i64 v_v)], .one (.val (.int .i64 n))], [] => some ⟨F.s_mk ⟨v_h, v_g, ⟨v_xl, v_xc, v_xp, v_xo, v_xb, v_xs, v_xq, v_xt, v_xn, v_xw⟩, v_u, v_v⟩ = true, .tup [.agg [.val (.int .i64 ((F.s_clo ⟨v_h, v_g, ⟨v_xl, v_xc, v_xp, v_xo, v_xb, v_xs, v_xq, v_xt, v_xn, v_xw⟩, v_u, v_v⟩ n).k).h), .val (.int .i64 ((F.s_clo ⟨v_h, v_g, ⟨v_xl, v_xc, v_xp, v_xo, v_xb, v_xs, v_xq, v_xt, v_xn, v_xw⟩, v_u, v_v⟩ n).k).g), .val (.int .i64 ((F.s_clo ⟨v_h, v_g, ⟨v_xl, v_xc, v_xp, v_xo, v_xb, v_xs, v_xq, v_xt, v_xn, v_xw⟩, v_u, v_v⟩ n).k).x.l), .val (.int .i64 ((F.s_clo ⟨v_h, v_g, ⟨v_xl, v_xc, v_xp, v_xo, v_xb, v_xs, v_xq, v_xt, v_xn, v_xw⟩, v_u, v_v⟩ n).k).x.c), .val (.int .i64 ((F.s_clo ⟨v_h, v_g, ⟨v_xl, v_xc, v_xp, v_xo, v_xb, v_xs, v_xq, v_xt, v_xn, v_xw⟩, v_u, v_v⟩ n).k).x.p), .val (.bool ((F.s_clo ⟨v_h, v_g, ⟨v_xl, v_xc, v_xp, v_xo, v_xb, v_xs, v_xq, v_xt, v_xn, v_xw⟩, v_u, v_v⟩ n).k).x.o), .val (.int .i64 ((F.s_clo ⟨v_h, v_g, ⟨v_xl, v_xc, v_xp, v_xo, v_xb, v_xs, v_xq, v_xt, v_xn, v_xw⟩, v_u, v_v⟩ n).k).x.b), .val (.int .i64 ((F.s_clo ⟨v_h, v_g, ⟨v_xl, v_xc, v_xp, v_xo, v_xb, v_xs, v_xq, v_xt, v_xn, v_xw⟩, v_u, v_v⟩ n).k).x.s), .sl none (.recs (.ints .u8 .nil) ((F.s_clo ⟨v_h, v_g, ⟨v_xl, v_xc, v_xp, v_xo, v_xb, v_xs, v_xq, v_xt, v_xn, v_xw⟩, v_u, v_v⟩ n).k).x.q), .val (.int .i64 ((F.s_clo ⟨v_h, v_g, ⟨v_xl, v_xc, v_xp, v_xo, v_xb, v_xs, v_xq, v_xt, v_xn, v_xw⟩, v_u, v_v⟩ n).k).x.t), .val (.int .i64 ((F.s_clo ⟨v_h, v_g, ⟨v_xl, v_xc, v_xp, v_xo, v_xb, v_xs, v_xq, v_xt, v_xn, v_xw⟩, v_u, v_v⟩ n).k).x.n), .val (.bool ((F.s_clo ⟨v_h, v_g, ⟨v_xl, v_xc, v_xp, v_xo, v_xb, v_xs, v_xq, v_xt, v_xn, v_xw⟩, v_u, v_v⟩ n).k).x.w), .val (.int .i64 ((F.s_clo ⟨v_h, v_g, ⟨v_xl, v_xc, v_xp, v_xo, v_xb, v_xs, v_xq, v_xt, v_xn, v_xw⟩, v_u, v_v⟩ n).k).u), .val (.int .i64 ((F.s_clo ⟨v_h, v_g, ⟨v_xl, v_xc, v_xp, v_xo, v_xb, v_xs, v_xq, v_xt, v_xn, v_xw⟩, v_u, v_v⟩ n).k).v)], .agg [.sl none (.recs (.int .i64 (.int .i64 (.int .i64 (.int .i64 (.ints .u8 .nil))))) ((F.s_clo ⟨v_h, v_g, ⟨v_xl, v_xc, v_xp, v_xo, v_xb, v_xs, v_xq, v_xt, v_xn, v_xw⟩, v_u, v_v⟩ n).y).f), .sl none (.recs (.ints .u8 .nil) ((F.s_clo ⟨v_h, v_g, ⟨v_xl, v_xc, v_xp, v_xo, v_xb, v_xs, v_xq, v_xt, v_xn, v_xw⟩, v_u, v_v⟩ n).y).g), .val (.bool ((F.s_clo ⟨v_h, v_g, ⟨v_xl, v_xc, v_xp, v_xo, v_xb, v_xs, v_xq, v_xt, v_xn, v_xw⟩, v_u, v_v⟩ n).y).d), .val (.int .i64 ((F.s_clo ⟨v_h, v_g, ⟨v_xl, v_xc, v_xp, v_xo, v_xb, v_xs, v_xq, v_xt, v_xn, v_xw⟩, v_u, v_v⟩ n).y).s)]], [], [Any, Any]⟩
  | _, _ => none
def c_rkhear (F : Us2) : Con := fun xs h => match xs, h with
  | [.agg [.val (.int .i64 v_h), .val (.int .i64 v_g), .val (.int .i64 v_xl), .val (.int .i64 v_xc), .val (.int .i64 v_xp), .val (.bool v_xo), .val (.int .i64 v_xb), .val (.int .i64 v_xs), .sl none (.recs (.ints .u8 .nil) v_xq), .val (.int .i64 v_xt), .val (.int .i64 v_xn), .val (.bool v_xw), .val (.int .i64 v_u), .val (.int .i64 v_v)], .one (.sl none (.ints .u8 d)), .one (.val (.int .i64 n))], [] => some ⟨F.s_hc ⟨v_h, v_g, ⟨v_xl, v_xc, v_xp, v_xo, v_xb, v_xs, v_xq, v_xt, v_xn, v_xw⟩, v_u, v_v⟩ d = true, .tup [.agg [.val (.int .i64 ((F.s_hear ⟨v_h, v_g, ⟨v_xl, v_xc, v_xp, v_xo, v_xb, v_xs, v_xq, v_xt, v_xn, v_xw⟩, v_u, v_v⟩ d n).k).h), .val (.int .i64 ((F.s_hear ⟨v_h, v_g, ⟨v_xl, v_xc, v_xp, v_xo, v_xb, v_xs, v_xq, v_xt, v_xn, v_xw⟩, v_u, v_v⟩ d n).k).g), .val (.int .i64 ((F.s_hear ⟨v_h, v_g, ⟨v_xl, v_xc, v_xp, v_xo, v_xb, v_xs, v_xq, v_xt, v_xn, v_xw⟩, v_u, v_v⟩ d n).k).x.l), .val (.int .i64 ((F.s_hear ⟨v_h, v_g, ⟨v_xl, v_xc, v_xp, v_xo, v_xb, v_xs, v_xq, v_xt, v_xn, v_xw⟩, v_u, v_v⟩ d n).k).x.c), .val (.int .i64 ((F.s_hear ⟨v_h, v_g, ⟨v_xl, v_xc, v_xp, v_xo, v_xb, v_xs, v_xq, v_xt, v_xn, v_xw⟩, v_u, v_v⟩ d n).k).x.p), .val (.bool ((F.s_hear ⟨v_h, v_g, ⟨v_xl, v_xc, v_xp, v_xo, v_xb, v_xs, v_xq, v_xt, v_xn, v_xw⟩, v_u, v_v⟩ d n).k).x.o), .val (.int .i64 ((F.s_hear ⟨v_h, v_g, ⟨v_xl, v_xc, v_xp, v_xo, v_xb, v_xs, v_xq, v_xt, v_xn, v_xw⟩, v_u, v_v⟩ d n).k).x.b), .val (.int .i64 ((F.s_hear ⟨v_h, v_g, ⟨v_xl, v_xc, v_xp, v_xo, v_xb, v_xs, v_xq, v_xt, v_xn, v_xw⟩, v_u, v_v⟩ d n).k).x.s), .sl none (.recs (.ints .u8 .nil) ((F.s_hear ⟨v_h, v_g, ⟨v_xl, v_xc, v_xp, v_xo, v_xb, v_xs, v_xq, v_xt, v_xn, v_xw⟩, v_u, v_v⟩ d n).k).x.q), .val (.int .i64 ((F.s_hear ⟨v_h, v_g, ⟨v_xl, v_xc, v_xp, v_xo, v_xb, v_xs, v_xq, v_xt, v_xn, v_xw⟩, v_u, v_v⟩ d n).k).x.t), .val (.int .i64 ((F.s_hear ⟨v_h, v_g, ⟨v_xl, v_xc, v_xp, v_xo, v_xb, v_xs, v_xq, v_xt, v_xn, v_xw⟩, v_u, v_v⟩ d n).k).x.n), .val (.bool ((F.s_hear ⟨v_h, v_g, ⟨v_xl, v_xc, v_xp, v_xo, v_xb, v_xs, v_xq, v_xt, v_xn, v_xw⟩, v_u, v_v⟩ d n).k).x.w), .val (.int .i64 ((F.s_hear ⟨v_h, v_g, ⟨v_xl, v_xc, v_xp, v_xo, v_xb, v_xs, v_xq, v_xt, v_xn, v_xw⟩, v_u, v_v⟩ d n).k).u), .val (.int .i64 ((F.s_hear ⟨v_h, v_g, ⟨v_xl, v_xc, v_xp, v_xo, v_xb, v_xs, v_xq, v_xt, v_xn, v_xw⟩, v_u, v_v⟩ d n).k).v)], .agg [.sl none (.recs (.int .i64 (.int .i64 (.int .i64 (.int .i64 (.ints .u8 .nil))))) ((F.s_hear ⟨v_h, v_g, ⟨v_xl, v_xc, v_xp, v_xo, v_xb, v_xs, v_xq, v_xt, v_xn, v_xw⟩, v_u, v_v⟩ d n).y).f), .sl none (.recs (.ints .u8 .nil) ((F.s_hear ⟨v_h, v_g, ⟨v_xl, v_xc, v_xp, v_xo, v_xb, v_xs, v_xq, v_xt, v_xn, v_xw⟩, v_u, v_v⟩ d n).y).g), .val (.bool ((F.s_hear ⟨v_h, v_g, ⟨v_xl, v_xc, v_xp, v_xo, v_xb, v_xs, v_xq, v_xt, v_xn, v_xw⟩, v_u, v_v⟩ d n).y).d), .val (.int .i64 ((F.s_hear ⟨v_h, v_g, ⟨v_xl, v_xc, v_xp, v_xo, v_xb, v_xs, v_xq, v_xt, v_xn, v_xw⟩, v_u, v_v⟩ d n).y).s)]], [], [Any, Any, Any]⟩
  | _, _ => none
def c_rltick2 (F : Us2) : Con := fun xs h => match xs, h with
  | [.agg [.val (.int .i64 v_l), .val (.int .i64 v_c), .val (.int .i64 v_p), .val (.bool v_o), .val (.int .i64 v_b), .val (.int .i64 v_s), .sl none (.recs (.ints .u8 .nil) v_q), .val (.int .i64 v_t), .val (.int .i64 v_n), .val (.bool v_w)]], [] => some ⟨F.s_ml ⟨v_l, v_c, v_p, v_o, v_b, v_s, v_q, v_t, v_n, v_w⟩ = true, .tup [.agg [.val (.int .i64 ((F.s_ltk ⟨v_l, v_c, v_p, v_o, v_b, v_s, v_q, v_t, v_n, v_w⟩).x).l), .val (.int .i64 ((F.s_ltk ⟨v_l, v_c, v_p, v_o, v_b, v_s, v_q, v_t, v_n, v_w⟩).x).c), .val (.int .i64 ((F.s_ltk ⟨v_l, v_c, v_p, v_o, v_b, v_s, v_q, v_t, v_n, v_w⟩).x).p), .val (.bool ((F.s_ltk ⟨v_l, v_c, v_p, v_o, v_b, v_s, v_q, v_t, v_n, v_w⟩).x).o), .val (.int .i64 ((F.s_ltk ⟨v_l, v_c, v_p, v_o, v_b, v_s, v_q, v_t, v_n, v_w⟩).x).b), .val (.int .i64 ((F.s_ltk ⟨v_l, v_c, v_p, v_o, v_b, v_s, v_q, v_t, v_n, v_w⟩).x).s), .sl none (.recs (.ints .u8 .nil) ((F.s_ltk ⟨v_l, v_c, v_p, v_o, v_b, v_s, v_q, v_t, v_n, v_w⟩).x).q), .val (.int .i64 ((F.s_ltk ⟨v_l, v_c, v_p, v_o, v_b, v_s, v_q, v_t, v_n, v_w⟩).x).t), .val (.int .i64 ((F.s_ltk ⟨v_l, v_c, v_p, v_o, v_b, v_s, v_q, v_t, v_n, v_w⟩).x).n), .val (.bool ((F.s_ltk ⟨v_l, v_c, v_p, v_o, v_b, v_s, v_q, v_t, v_n, v_w⟩).x).w)], .agg [.sl (some (0, 62)) (.recs (.int .i64 (.int .i64 (.int .i64 (.int .i64 (.ints .u8 .nil))))) (F.s_ltk ⟨v_l, v_c, v_p, v_o, v_b, v_s, v_q, v_t, v_n, v_w⟩).y.f), .sl none (.recs (.ints .u8 .nil) (F.s_ltk ⟨v_l, v_c, v_p, v_o, v_b, v_s, v_q, v_t, v_n, v_w⟩).y.g), .val (.bool (F.s_ltk ⟨v_l, v_c, v_p, v_o, v_b, v_s, v_q, v_t, v_n, v_w⟩).y.d), .val (.int .i64 (F.s_ltk ⟨v_l, v_c, v_p, v_o, v_b, v_s, v_q, v_t, v_n, v_w⟩).y.s)]], [(0, .tok)], [Any]⟩
  | _, _ => none
def c_rktick (F : Us2) : Con := fun xs h => match xs, h with
  | [.agg [.val (.int .i64 v_h), .val (.int .i64 v_g), .val (.int .i64 v_xl), .val (.int .i64 v_xc), .val (.int .i64 v_xp), .val (.bool v_xo), .val (.int .i64 v_xb), .val (.int .i64 v_xs), .sl none (.recs (.ints .u8 .nil) v_xq), .val (.int .i64 v_xt), .val (.int .i64 v_xn), .val (.bool v_xw), .val (.int .i64 v_u), .val (.int .i64 v_v)], .one (.val (.int .i64 n))], [] => some ⟨F.s_tk ⟨v_h, v_g, ⟨v_xl, v_xc, v_xp, v_xo, v_xb, v_xs, v_xq, v_xt, v_xn, v_xw⟩, v_u, v_v⟩ = true, .tup [.agg [.val (.int .i64 ((F.s_tik ⟨v_h, v_g, ⟨v_xl, v_xc, v_xp, v_xo, v_xb, v_xs, v_xq, v_xt, v_xn, v_xw⟩, v_u, v_v⟩ n).k).h), .val (.int .i64 ((F.s_tik ⟨v_h, v_g, ⟨v_xl, v_xc, v_xp, v_xo, v_xb, v_xs, v_xq, v_xt, v_xn, v_xw⟩, v_u, v_v⟩ n).k).g), .val (.int .i64 ((F.s_tik ⟨v_h, v_g, ⟨v_xl, v_xc, v_xp, v_xo, v_xb, v_xs, v_xq, v_xt, v_xn, v_xw⟩, v_u, v_v⟩ n).k).x.l), .val (.int .i64 ((F.s_tik ⟨v_h, v_g, ⟨v_xl, v_xc, v_xp, v_xo, v_xb, v_xs, v_xq, v_xt, v_xn, v_xw⟩, v_u, v_v⟩ n).k).x.c), .val (.int .i64 ((F.s_tik ⟨v_h, v_g, ⟨v_xl, v_xc, v_xp, v_xo, v_xb, v_xs, v_xq, v_xt, v_xn, v_xw⟩, v_u, v_v⟩ n).k).x.p), .val (.bool ((F.s_tik ⟨v_h, v_g, ⟨v_xl, v_xc, v_xp, v_xo, v_xb, v_xs, v_xq, v_xt, v_xn, v_xw⟩, v_u, v_v⟩ n).k).x.o), .val (.int .i64 ((F.s_tik ⟨v_h, v_g, ⟨v_xl, v_xc, v_xp, v_xo, v_xb, v_xs, v_xq, v_xt, v_xn, v_xw⟩, v_u, v_v⟩ n).k).x.b), .val (.int .i64 ((F.s_tik ⟨v_h, v_g, ⟨v_xl, v_xc, v_xp, v_xo, v_xb, v_xs, v_xq, v_xt, v_xn, v_xw⟩, v_u, v_v⟩ n).k).x.s), .sl none (.recs (.ints .u8 .nil) ((F.s_tik ⟨v_h, v_g, ⟨v_xl, v_xc, v_xp, v_xo, v_xb, v_xs, v_xq, v_xt, v_xn, v_xw⟩, v_u, v_v⟩ n).k).x.q), .val (.int .i64 ((F.s_tik ⟨v_h, v_g, ⟨v_xl, v_xc, v_xp, v_xo, v_xb, v_xs, v_xq, v_xt, v_xn, v_xw⟩, v_u, v_v⟩ n).k).x.t), .val (.int .i64 ((F.s_tik ⟨v_h, v_g, ⟨v_xl, v_xc, v_xp, v_xo, v_xb, v_xs, v_xq, v_xt, v_xn, v_xw⟩, v_u, v_v⟩ n).k).x.n), .val (.bool ((F.s_tik ⟨v_h, v_g, ⟨v_xl, v_xc, v_xp, v_xo, v_xb, v_xs, v_xq, v_xt, v_xn, v_xw⟩, v_u, v_v⟩ n).k).x.w), .val (.int .i64 ((F.s_tik ⟨v_h, v_g, ⟨v_xl, v_xc, v_xp, v_xo, v_xb, v_xs, v_xq, v_xt, v_xn, v_xw⟩, v_u, v_v⟩ n).k).u), .val (.int .i64 ((F.s_tik ⟨v_h, v_g, ⟨v_xl, v_xc, v_xp, v_xo, v_xb, v_xs, v_xq, v_xt, v_xn, v_xw⟩, v_u, v_v⟩ n).k).v)], .agg [.sl none (.recs (.int .i64 (.int .i64 (.int .i64 (.int .i64 (.ints .u8 .nil))))) ((F.s_tik ⟨v_h, v_g, ⟨v_xl, v_xc, v_xp, v_xo, v_xb, v_xs, v_xq, v_xt, v_xn, v_xw⟩, v_u, v_v⟩ n).y).f), .sl none (.recs (.ints .u8 .nil) ((F.s_tik ⟨v_h, v_g, ⟨v_xl, v_xc, v_xp, v_xo, v_xb, v_xs, v_xq, v_xt, v_xn, v_xw⟩, v_u, v_v⟩ n).y).g), .val (.bool ((F.s_tik ⟨v_h, v_g, ⟨v_xl, v_xc, v_xp, v_xo, v_xb, v_xs, v_xq, v_xt, v_xn, v_xw⟩, v_u, v_v⟩ n).y).d), .val (.int .i64 ((F.s_tik ⟨v_h, v_g, ⟨v_xl, v_xc, v_xp, v_xo, v_xb, v_xs, v_xq, v_xt, v_xn, v_xw⟩, v_u, v_v⟩ n).y).s)]], [], [Any, Any]⟩
  | _, _ => none
end Go.Proofs.Ytgemoemkgcmcgaa.LkQ
