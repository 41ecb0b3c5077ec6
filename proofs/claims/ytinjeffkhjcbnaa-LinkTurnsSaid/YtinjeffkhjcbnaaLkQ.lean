/-
  the answer's links over the reckoner. No condition.
-/
import Derived.Test.YtinjeffkhjcbnaaLkR
namespace Go.Proofs.Ytinjeffkhjcbnaa.LkQ
open Go Go.Proofs.Ytinjeffkhjcbnaa.Ry Go.Proofs.Ytinjeffkhjcbnaa.HaR Go.Proofs.Ytinjeffkhjcbnaa.SeR Go.Proofs.Ytinjeffkhjcbnaa.SeS Go.Proofs.Ytinjeffkhjcbnaa.SeT Go.Proofs.Ytinjeffkhjcbnaa.SeU Go.Proofs.Ytinjeffkhjcbnaa.SeL Go.Proofs.Ytinjeffkhjcbnaa.SeV Go.Proofs.Ytinjeffkhjcbnaa.LiR Go.Proofs.Ytinjeffkhjcbnaa.LiQ Go.Proofs.Ytinjeffkhjcbnaa.LiS Go.Proofs.Ytinjeffkhjcbnaa.LkR

open Go.Proofs.Ytinjeffkhjcbnaa.FrR (mayF chF isC smF decF DF)
open Go.Proofs.Ytinjeffkhjcbnaa.FrQ (rdecF)
open Go.Proofs.Ytinjeffkhjcbnaa.OctR (byB)
abbrev c_frdec := FrQ.c_rdecode
theorem ok_frdec : ConOk Try.prog 63 (c_frdec FrQ.Qs.std) := FrQ.ok_rdecode
def rbtT (u v : Int) : BT := ⟨if u = 5 then 0 else u + 1, if v = 1 then 0 else v + 1, v == 1, u == 5, 0⟩
def rheaK (k : KN) (f : DF) (r : LD) : KD :=
  if r.y.d = true ∨ 0 < r.y.s then ⟨⟨k.h, k.g, r.x, 0, 0⟩, r.y, 0⟩
  else if 0 < r.x.c ∧ r.x.c = f.s then ⟨⟨k.h, k.g, r.x, 0, k.v⟩, r.y, 0⟩
  else ⟨⟨k.h, k.g, r.x, k.u, k.v⟩, r.y, 0⟩
def rhearK (k : KN) (b : List Int) (n : Int) : KD :=
  if (rdecF b).e = 0 then rheaK k (rdecF b) (rhearL k.x (rdecF b).k (rdecF b).s (rdecF b).q (rdecF b).a (rdecF b).p n) else ⟨k, zN, 0⟩
def rcloK (k : KN) (n : Int) : KD := ⟨⟨k.h, k.g, (rcloL k.x n).x, if (rcloL k.x n).y.d = true then 0 else k.u, if (rcloL k.x n).y.d = true then 0 else k.v⟩, (rcloL k.x n).y, 0⟩
def rtikK (k : KN) (n : Int) : KD :=
  if (rtikL k.x).x.c = 0 then ⟨⟨k.h, k.g, (rtikL k.x).x, k.u, k.v⟩, (rtikL k.x).y, 0⟩
  else if k.u = 5 then rcloK ⟨k.h, k.g, (rtikL k.x).x, 0, if k.v = 1 then 0 else k.v + 1⟩ n
  else ⟨⟨k.h, k.g, (rtikL k.x).x, k.u + 1, if k.v = 1 then 0 else k.v + 1⟩, ⟨if k.v = 1 then (rtikL k.x).y.f ++ [[.int 5, .int (rtikL k.x).x.c, .int 0, .int (rtikL k.x).x.n, .ints []]] else (rtikL k.x).y.f, (rtikL k.x).y.g, (rtikL k.x).y.d, (rtikL k.x).y.s⟩, 0⟩
theorem lb_rtik {x : LN} (hb : byS x.q = true) (hm : mayL x = true) : byS (rtikL x).x.q = true ∧ (rtikL x).y.f.length ≤ 100000 := by
  have h := tik_same (n := 1) hb hm rfl
  exact ⟨h.b2, (of_decide_eq_true (Bool.and_eq_true _ _ ▸ (show (byF (rtikL x).y.f && byS (rtikL x).y.g) = true from h.n2)).1).1⟩
theorem may_rtik {x : LN} (hb : byS x.q = true) (hm : mayL x = true) : mayL (rtikL x).x = true := by
  have h4 := may_L hm
  unfold rtikL
  split
  · exact hm
  · rename_i hp
    have h2 := (two_tick ⟨h4.2.1, h4.2.1, rfl, rfl, rfl, rfl, hb, hb⟩).2.2.2.2.2.may'
    by_cases g : opL x = true
    · simp only [mayL, sndL, Bool.and_eq_true, Bool.or_eq_true]
      exact ⟨⟨⟨h4.1, h2⟩, h4.2.2.1⟩, .inl g⟩
    · have g : opL x = false := by simpa using g
      have e := shut hm g
      have e2 : sndL x (rtkS x.b x.s x.q x.t) = x := by rw [e]; rfl
      rw [e2]
      exact hm

structure Us2 where
  s_may : KN → Bool
  s_bm : Int → Int → Bool
  s_bt : Int → Int → BT
  s_hear : KN → List Int → Int → KD
  s_clo : KN → Int → KD
  s_tik : KN → Int → KD
  s_sm : KN → KN → Bool
  s_kb : KN → Bool
  s_kb2 : KN → KN → Bool
  s_mk : KN → Bool
  s_ltk : LN → LD
  s_ml : LN → Bool
  s_node : Int → Bool
  s_hc : KN → List Int → Bool
  s_tk : KN → Bool
def Us2.std : Us2 := ⟨mayK, bmB, rbtT, rhearK, rcloK, rtikK, smK, kbB, kb2, fun k => mayL k.x, rtikL, mayL, fun n => decide (1 ≤ n ∧ n ≤ 64), fun k b => mayK k && byB b, fun k => mayK k && kbB k⟩

def c_rknode (F : Us2) : Con := fun xs h => match xs, h with
  | [.one (.val (.int .i64 n))], [] => some ⟨True, .sa (B (F.s_node n)), [], [Any]⟩
  | _, _ => none
set_option maxHeartbeats 2000000 in
set_option maxRecDepth 100000 in
theorem x_rknode (n : Int) : Does [] Try.f53 [.one (.val (.int .i64 n))] [] ⟨True, .sa (B (Us2.std.s_node n)), [], [Any]⟩ := by
  intro b gv
  generalize hF : Us2.std = F
  generalize hA : Ar.std = A
  generalize hL : Lp _ _ _ = L
  obtain ⟨Z, zq⟩ := z_all
  refine cd_open (lp_mono hL) zq rfl ?_
  repeat' (first
    | (refine z_open zq ?_; try dsimp only)
    | refine cd_seq zq ?_ (lp_mono hL)
    | refine cd_blk zq ?_
    | refine cd_ret ?_
    | refine cd_skip ?_
    | refine cd_exit ?_
    | refine cd_loop ?_
    | refine cd_cond rfl ?_
    | refine cd_condT rfl ?_
    | refine cd_condF rfl ?_
    | (refine Cd.mk ?_; cbv)
    | (refine Ends1.mk ?_; cbv)
    | (refine Fin1.mk ?_; cbv)
    | exact trivial
    | refine And.intro ?_ ?_
    | refine orf fun _ => ?_
    | refine ort fun _ => ?_)
  all_goals
    clear hL zq Z
    subst hF hA
    simp only [Us2.std, Ar.std] at *
    try (grind [stdCmp, b_add, wr])
theorem ok_rknode : ConOk Try.prog 53 (c_rknode Us2.std) := by
  refine con_of FsOk.nil Try.func53 rfl rfl fun xs h p hp => ?_
  unfold c_rknode at hp
  split at hp
  · cases hp
    exact ⟨lee_le rfl, fun _ _ => x_rknode _⟩
  · cases hp

def c_rbmay (F : Us2) : Con := fun xs h => match xs, h with
  | [.agg [.val (.int .i64 b_u), .val (.int .i64 b_v)]], [] => some ⟨True, .sa (B (F.s_bm b_u b_v)), [], [Any]⟩
  | _, _ => none
set_option maxHeartbeats 2000000 in
set_option maxRecDepth 100000 in
theorem x_rbmay (b_u : Int) (b_v : Int) : Does [] Try.f114 [.agg [.val (.int .i64 b_u), .val (.int .i64 b_v)]] [] ⟨True, .sa (B (Us2.std.s_bm b_u b_v)), [], [Any]⟩ := by
  intro b gv
  generalize hF : Us2.std = F
  generalize hA : Ar.std = A
  generalize hL : Lp _ _ _ = L
  obtain ⟨Z, zq⟩ := z_all
  refine cd_open (lp_mono hL) zq rfl ?_
  repeat' (first
    | (refine z_open zq ?_; try dsimp only)
    | refine cd_seq zq ?_ (lp_mono hL)
    | refine cd_blk zq ?_
    | refine cd_ret ?_
    | refine cd_skip ?_
    | refine cd_exit ?_
    | refine cd_loop ?_
    | refine cd_cond rfl ?_
    | refine cd_condT rfl ?_
    | refine cd_condF rfl ?_
    | (refine Cd.mk ?_; cbv)
    | (refine Ends1.mk ?_; cbv)
    | (refine Fin1.mk ?_; cbv)
    | exact trivial
    | refine And.intro ?_ ?_
    | refine orf fun _ => ?_
    | refine ort fun _ => ?_)
  all_goals
    clear hL zq Z
    subst hF hA
    simp only [Us2.std, Ar.std] at *
    try (grind [stdCmp, b_add, wr, bmB])
theorem ok_rbmay : ConOk Try.prog 114 (c_rbmay Us2.std) := by
  refine con_of FsOk.nil Try.func114 rfl rfl fun xs h p hp => ?_
  unfold c_rbmay at hp
  split at hp
  · cases hp
    exact ⟨lee_le rfl, fun _ _ => x_rbmay _ _⟩
  · cases hp

def c_rbtick (F : Us2) : Con := fun xs h => match xs, h with
  | [.agg [.val (.int .i64 b_u), .val (.int .i64 b_v)]], [] => some ⟨F.s_bm b_u b_v = true, .tup [.agg [.val (.int .i64 (F.s_bt b_u b_v).u), .val (.int .i64 (F.s_bt b_u b_v).v)], B (F.s_bt b_u b_v).a, B (F.s_bt b_u b_v).b], [], [Any]⟩
  | _, _ => none
set_option maxHeartbeats 2000000 in
set_option maxRecDepth 100000 in
theorem x_rbtick (b_u : Int) (b_v : Int) (hC : Us2.std.s_bm b_u b_v = true) : Does [] Try.f115 [.agg [.val (.int .i64 b_u), .val (.int .i64 b_v)]] [] ⟨Us2.std.s_bm b_u b_v = true, .tup [.agg [.val (.int .i64 (Us2.std.s_bt b_u b_v).u), .val (.int .i64 (Us2.std.s_bt b_u b_v).v)], B (Us2.std.s_bt b_u b_v).a, B (Us2.std.s_bt b_u b_v).b], [], [Any]⟩ := by
  intro b gv
  have hb : bmB b_u b_v = true := hC
  have hb := of_decide_eq_true hb
  generalize hF : Us2.std = F at hC ⊢
  generalize hA : Ar.std = A
  generalize hL : Lp _ _ _ = L
  obtain ⟨Z, zq⟩ := z_all
  refine cd_open (lp_mono hL) zq rfl ?_
  repeat' (first
    | (refine z_open zq ?_; try dsimp only)
    | refine cd_seq zq ?_ (lp_mono hL)
    | refine cd_blk zq ?_
    | refine cd_ret ?_
    | refine cd_skip ?_
    | refine cd_exit ?_
    | refine cd_loop ?_
    | refine cd_cond rfl ?_
    | refine cd_condT rfl ?_
    | refine cd_condF rfl ?_
    | (refine Cd.mk ?_; cbv)
    | (refine Ends1.mk ?_; cbv)
    | (refine Fin1.mk ?_; cbv)
    | exact trivial
    | refine And.intro ?_ ?_
    | refine orf fun _ => ?_
    | refine ort fun _ => ?_)
  all_goals
    clear hL zq Z
    subst hF hA
    simp only [Us2.std, Ar.std] at *
    try (grind [stdCmp, b_add, wr, rbtT, bmB])
theorem ok_rbtick : ConOk Try.prog 115 (c_rbtick Us2.std) := by
  refine con_of FsOk.nil Try.func115 rfl rfl fun xs h p hp => ?_
  unfold c_rbtick at hp
  split at hp
  · cases hp
    exact ⟨lee_le rfl, fun hC _ => x_rbtick _ _ hC⟩
  · cases hp

def c_rkmay (F : Us2) : Con := fun xs h => match xs, h with
  | [.agg [.val (.int .i64 v_h), .val (.int .i64 v_g), .val (.int .i64 v_xl), .val (.int .i64 v_xc), .val (.int .i64 v_xp), .val (.bool v_xo), .val (.int .i64 v_xb), .val (.int .i64 v_xs), .sl none (.recs (.ints .u8 .nil) v_xq), .val (.int .i64 v_xt), .val (.int .i64 v_xn), .val (.bool v_xw), .val (.int .i64 v_u), .val (.int .i64 v_v)]], [] => some ⟨F.s_kb ⟨v_h, v_g, ⟨v_xl, v_xc, v_xp, v_xo, v_xb, v_xs, v_xq, v_xt, v_xn, v_xw⟩, v_u, v_v⟩ = true, .sa (B (F.s_may ⟨v_h, v_g, ⟨v_xl, v_xc, v_xp, v_xo, v_xb, v_xs, v_xq, v_xt, v_xn, v_xw⟩, v_u, v_v⟩)), [], [Any]⟩
  | _, _ => none
set_option maxHeartbeats 2000000 in
set_option maxRecDepth 100000 in
theorem x_rkmay (v_h : Int) (v_g : Int) (v_xl : Int) (v_xc : Int) (v_xp : Int) (v_xo : Bool) (v_xb : Int) (v_xs : Int) (v_xq : List E) (v_xt : Int) (v_xn : Int) (v_xw : Bool) (v_u : Int) (v_v : Int) (hC : Us2.std.s_kb ⟨v_h, v_g, ⟨v_xl, v_xc, v_xp, v_xo, v_xb, v_xs, v_xq, v_xt, v_xn, v_xw⟩, v_u, v_v⟩ = true) : Does [(53, c_rknode Us2.std), (17, c_rlmay Js.std), (114, c_rbmay Us2.std)] Try.f48 [.agg [.val (.int .i64 v_h), .val (.int .i64 v_g), .val (.int .i64 v_xl), .val (.int .i64 v_xc), .val (.int .i64 v_xp), .val (.bool v_xo), .val (.int .i64 v_xb), .val (.int .i64 v_xs), .sl none (.recs (.ints .u8 .nil) v_xq), .val (.int .i64 v_xt), .val (.int .i64 v_xn), .val (.bool v_xw), .val (.int .i64 v_u), .val (.int .i64 v_v)]] [] ⟨Us2.std.s_kb ⟨v_h, v_g, ⟨v_xl, v_xc, v_xp, v_xo, v_xb, v_xs, v_xq, v_xt, v_xn, v_xw⟩, v_u, v_v⟩ = true, .sa (B (Us2.std.s_may ⟨v_h, v_g, ⟨v_xl, v_xc, v_xp, v_xo, v_xb, v_xs, v_xq, v_xt, v_xn, v_xw⟩, v_u, v_v⟩)), [], [Any]⟩ := by
  intro b gv
  have hkb : lbB ⟨v_xl, v_xc, v_xp, v_xo, v_xb, v_xs, v_xq, v_xt, v_xn, v_xw⟩ = true := hC
  have hbs : byS v_xq = true := hkb
  have hmc := fun h => may_c (x := ⟨v_xl, v_xc, v_xp, v_xo, v_xb, v_xs, v_xq, v_xt, v_xn, v_xw⟩) h
  dsimp only at hmc
  have hfs := (FsOk.cons ok_rknode (FsOk.cons ok_rlmay (FsOk.cons ok_rbmay FsOk.nil rfl) rfl) rfl)
  generalize hF : Us2.std = F at hC hfs ⊢
  generalize hG0 : Js.std = G0 at hC hfs ⊢
  generalize hA : Ar.std = A
  generalize hL : Lp _ _ _ = L
  obtain ⟨Z, zq⟩ := z_all
  refine cd_open (lp_mono hL) zq rfl ?_
  repeat' (first
    | (refine z_open zq ?_; try dsimp only)
    | refine cd_seq zq ?_ (lp_mono hL)
    | refine cd_blk zq ?_
    | refine cd_ret ?_
    | refine cd_skip ?_
    | refine cd_exit ?_
    | refine cd_loop ?_
    | refine cd_cond rfl ?_
    | refine cd_condT rfl ?_
    | refine cd_condF rfl ?_
    | (refine Cd.mk ?_; cbv)
    | (refine Ends1.mk ?_; cbv)
    | (refine Fin1.mk ?_; cbv)
    | exact trivial
    | refine And.intro ?_ ?_
    | refine orf fun _ => ?_
    | refine ort fun _ => ?_)
  all_goals
    clear hL zq Z hfs
    subst hF hA hG0
    simp only [Us2.std, Js.std, Ar.std] at *
    try (grind [stdCmp, b_add, wr, mayK, wtB, bmB, opL])
theorem ok_rkmay : ConOk Try.prog 48 (c_rkmay Us2.std) := by
  refine con_of (FsOk.cons ok_rknode (FsOk.cons ok_rlmay (FsOk.cons ok_rbmay FsOk.nil rfl) rfl) rfl) Try.func48 rfl rfl fun xs h p hp => ?_
  unfold c_rkmay at hp
  split at hp
  · cases hp
    exact ⟨lee_le rfl, fun hC _ => x_rkmay _ _ _ _ _ _ _ _ _ _ _ _ _ _ hC⟩
  · cases hp

def c_rksame (F : Us2) : Con := fun xs h => match xs, h with
  | [.agg [.val (.int .i64 v_h), .val (.int .i64 v_g), .val (.int .i64 v_xl), .val (.int .i64 v_xc), .val (.int .i64 v_xp), .val (.bool v_xo), .val (.int .i64 v_xb), .val (.int .i64 v_xs), .sl none (.recs (.ints .u8 .nil) v_xq), .val (.int .i64 v_xt), .val (.int .i64 v_xn), .val (.bool v_xw), .val (.int .i64 v_u), .val (.int .i64 v_v)], .agg [.val (.int .i64 y_h), .val (.int .i64 y_g), .val (.int .i64 y_xl), .val (.int .i64 y_xc), .val (.int .i64 y_xp), .val (.bool y_xo), .val (.int .i64 y_xb), .val (.int .i64 y_xs), .sl none (.recs (.ints .u8 .nil) y_xq), .val (.int .i64 y_xt), .val (.int .i64 y_xn), .val (.bool y_xw), .val (.int .i64 y_u), .val (.int .i64 y_v)]], [] => some ⟨F.s_kb2 ⟨v_h, v_g, ⟨v_xl, v_xc, v_xp, v_xo, v_xb, v_xs, v_xq, v_xt, v_xn, v_xw⟩, v_u, v_v⟩ ⟨y_h, y_g, ⟨y_xl, y_xc, y_xp, y_xo, y_xb, y_xs, y_xq, y_xt, y_xn, y_xw⟩, y_u, y_v⟩ = true, .sa (B (F.s_sm ⟨v_h, v_g, ⟨v_xl, v_xc, v_xp, v_xo, v_xb, v_xs, v_xq, v_xt, v_xn, v_xw⟩, v_u, v_v⟩ ⟨y_h, y_g, ⟨y_xl, y_xc, y_xp, y_xo, y_xb, y_xs, y_xq, y_xt, y_xn, y_xw⟩, y_u, y_v⟩)), [], [Any, Any]⟩
  | _, _ => none
set_option maxHeartbeats 2000000 in
set_option maxRecDepth 100000 in
theorem x_rksame (v_h : Int) (v_g : Int) (v_xl : Int) (v_xc : Int) (v_xp : Int) (v_xo : Bool) (v_xb : Int) (v_xs : Int) (v_xq : List E) (v_xt : Int) (v_xn : Int) (v_xw : Bool) (v_u : Int) (v_v : Int) (y_h : Int) (y_g : Int) (y_xl : Int) (y_xc : Int) (y_xp : Int) (y_xo : Bool) (y_xb : Int) (y_xs : Int) (y_xq : List E) (y_xt : Int) (y_xn : Int) (y_xw : Bool) (y_u : Int) (y_v : Int) (hC : Us2.std.s_kb2 ⟨v_h, v_g, ⟨v_xl, v_xc, v_xp, v_xo, v_xb, v_xs, v_xq, v_xt, v_xn, v_xw⟩, v_u, v_v⟩ ⟨y_h, y_g, ⟨y_xl, y_xc, y_xp, y_xo, y_xb, y_xs, y_xq, y_xt, y_xn, y_xw⟩, y_u, y_v⟩ = true) : Does [(23, c_rlsame Js.std)] Try.f51 [.agg [.val (.int .i64 v_h), .val (.int .i64 v_g), .val (.int .i64 v_xl), .val (.int .i64 v_xc), .val (.int .i64 v_xp), .val (.bool v_xo), .val (.int .i64 v_xb), .val (.int .i64 v_xs), .sl none (.recs (.ints .u8 .nil) v_xq), .val (.int .i64 v_xt), .val (.int .i64 v_xn), .val (.bool v_xw), .val (.int .i64 v_u), .val (.int .i64 v_v)], .agg [.val (.int .i64 y_h), .val (.int .i64 y_g), .val (.int .i64 y_xl), .val (.int .i64 y_xc), .val (.int .i64 y_xp), .val (.bool y_xo), .val (.int .i64 y_xb), .val (.int .i64 y_xs), .sl none (.recs (.ints .u8 .nil) y_xq), .val (.int .i64 y_xt), .val (.int .i64 y_xn), .val (.bool y_xw), .val (.int .i64 y_u), .val (.int .i64 y_v)]] [] ⟨Us2.std.s_kb2 ⟨v_h, v_g, ⟨v_xl, v_xc, v_xp, v_xo, v_xb, v_xs, v_xq, v_xt, v_xn, v_xw⟩, v_u, v_v⟩ ⟨y_h, y_g, ⟨y_xl, y_xc, y_xp, y_xo, y_xb, y_xs, y_xq, y_xt, y_xn, y_xw⟩, y_u, y_v⟩ = true, .sa (B (Us2.std.s_sm ⟨v_h, v_g, ⟨v_xl, v_xc, v_xp, v_xo, v_xb, v_xs, v_xq, v_xt, v_xn, v_xw⟩, v_u, v_v⟩ ⟨y_h, y_g, ⟨y_xl, y_xc, y_xp, y_xo, y_xb, y_xs, y_xq, y_xt, y_xn, y_xw⟩, y_u, y_v⟩)), [], [Any, Any]⟩ := by
  intro b gv
  have hkb : (byS v_xq && byS y_xq) = true := hC
  have hfs := (FsOk.cons ok_rlsame FsOk.nil rfl)
  generalize hF : Us2.std = F at hC hfs ⊢
  generalize hG0 : Js.std = G0 at hC hfs ⊢
  generalize hA : Ar.std = A
  generalize hL : Lp _ _ _ = L
  obtain ⟨Z, zq⟩ := z_all
  refine cd_open (lp_mono hL) zq rfl ?_
  repeat' (first
    | (refine z_open zq ?_; try dsimp only)
    | refine cd_seq zq ?_ (lp_mono hL)
    | refine cd_blk zq ?_
    | refine cd_ret ?_
    | refine cd_skip ?_
    | refine cd_exit ?_
    | refine cd_loop ?_
    | refine cd_cond rfl ?_
    | refine cd_condT rfl ?_
    | refine cd_condF rfl ?_
    | (refine Cd.mk ?_; cbv)
    | (refine Ends1.mk ?_; cbv)
    | (refine Fin1.mk ?_; cbv)
    | exact trivial
    | refine And.intro ?_ ?_
    | refine orf fun _ => ?_
    | refine ort fun _ => ?_)
  all_goals
    clear hL zq Z hfs
    subst hF hA hG0
    simp only [Us2.std, Js.std, Ar.std] at *
    try (grind [stdCmp, b_add, wr, smK])
theorem ok_rksame : ConOk Try.prog 51 (c_rksame Us2.std) := by
  refine con_of (FsOk.cons ok_rlsame FsOk.nil rfl) Try.func51 rfl rfl fun xs h p hp => ?_
  unfold c_rksame at hp
  split at hp
  · cases hp
    exact ⟨lee_le rfl, fun hC _ => x_rksame _ _ _ _ _ _ _ _ _ _ _ _ _ _ _ _ _ _ _ _ _ _ _ _ _ _ _ _ hC⟩
  · cases hp

def c_rkclose (F : Us2) : Con := fun xs h => match xs, h with
  | [.agg [.val (.int .i64 v_h), .val (.int .i64 v_g), .val (.int .i64 v_xl), .val (.int .i64 v_xc), .val (.int .i64 v_xp), .val (.bool v_xo), .val (.int .i64 v_xb), .val (.int .i64 v_xs), .sl none (.recs (.ints .u8 .nil) v_xq), .val (.int .i64 v_xt), .val (.int .i64 v_xn), .val (.bool v_xw), .val (.int .i64 v_u), .val (.int .i64 v_v)], .one (.val (.int .i64 n))], [] => some ⟨F.s_mk ⟨v_h, v_g, ⟨v_xl, v_xc, v_xp, v_xo, v_xb, v_xs, v_xq, v_xt, v_xn, v_xw⟩, v_u, v_v⟩ = true, .tup [.agg [.val (.int .i64 ((F.s_clo ⟨v_h, v_g, ⟨v_xl, v_xc, v_xp, v_xo, v_xb, v_xs, v_xq, v_xt, v_xn, v_xw⟩, v_u, v_v⟩ n).k).h), .val (.int .i64 ((F.s_clo ⟨v_h, v_g, ⟨v_xl, v_xc, v_xp, v_xo, v_xb, v_xs, v_xq, v_xt, v_xn, v_xw⟩, v_u, v_v⟩ n).k).g), .val (.int .i64 ((F.s_clo ⟨v_h, v_g, ⟨v_xl, v_xc, v_xp, v_xo, v_xb, v_xs, v_xq, v_xt, v_xn, v_xw⟩, v_u, v_v⟩ n).k).x.l), .val (.int .i64 ((F.s_clo ⟨v_h, v_g, ⟨v_xl, v_xc, v_xp, v_xo, v_xb, v_xs, v_xq, v_xt, v_xn, v_xw⟩, v_u, v_v⟩ n).k).x.c), .val (.int .i64 ((F.s_clo ⟨v_h, v_g, ⟨v_xl, v_xc, v_xp, v_xo, v_xb, v_xs, v_xq, v_xt, v_xn, v_xw⟩, v_u, v_v⟩ n).k).x.p), .val (.bool ((F.s_clo ⟨v_h, v_g, ⟨v_xl, v_xc, v_xp, v_xo, v_xb, v_xs, v_xq, v_xt, v_xn, v_xw⟩, v_u, v_v⟩ n).k).x.o), .val (.int .i64 ((F.s_clo ⟨v_h, v_g, ⟨v_xl, v_xc, v_xp, v_xo, v_xb, v_xs, v_xq, v_xt, v_xn, v_xw⟩, v_u, v_v⟩ n).k).x.b), .val (.int .i64 ((F.s_clo ⟨v_h, v_g, ⟨v_xl, v_xc, v_xp, v_xo, v_xb, v_xs, v_xq, v_xt, v_xn, v_xw⟩, v_u, v_v⟩ n).k).x.s), .sl none (.recs (.ints .u8 .nil) ((F.s_clo ⟨v_h, v_g, ⟨v_xl, v_xc, v_xp, v_xo, v_xb, v_xs, v_xq, v_xt, v_xn, v_xw⟩, v_u, v_v⟩ n).k).x.q), .val (.int .i64 ((F.s_clo ⟨v_h, v_g, ⟨v_xl, v_xc, v_xp, v_xo, v_xb, v_xs, v_xq, v_xt, v_xn, v_xw⟩, v_u, v_v⟩ n).k).x.t), .val (.int .i64 ((F.s_clo ⟨v_h, v_g, ⟨v_xl, v_xc, v_xp, v_xo, v_xb, v_xs, v_xq, v_xt, v_xn, v_xw⟩, v_u, v_v⟩ n).k).x.n), .val (.bool ((F.s_clo ⟨v_h, v_g, ⟨v_xl, v_xc, v_xp, v_xo, v_xb, v_xs, v_xq, v_xt, v_xn, v_xw⟩, v_u, v_v⟩ n).k).x.w), .val (.int .i64 ((F.s_clo ⟨v_h, v_g, ⟨v_xl, v_xc, v_xp, v_xo, v_xb, v_xs, v_xq, v_xt, v_xn, v_xw⟩, v_u, v_v⟩ n).k).u), .val (.int .i64 ((F.s_clo ⟨v_h, v_g, ⟨v_xl, v_xc, v_xp, v_xo, v_xb, v_xs, v_xq, v_xt, v_xn, v_xw⟩, v_u, v_v⟩ n).k).v)], .agg [.sl none (.recs (.int .i64 (.int .i64 (.int .i64 (.int .i64 (.ints .u8 .nil))))) ((F.s_clo ⟨v_h, v_g, ⟨v_xl, v_xc, v_xp, v_xo, v_xb, v_xs, v_xq, v_xt, v_xn, v_xw⟩, v_u, v_v⟩ n).y).f), .sl none (.recs (.ints .u8 .nil) ((F.s_clo ⟨v_h, v_g, ⟨v_xl, v_xc, v_xp, v_xo, v_xb, v_xs, v_xq, v_xt, v_xn, v_xw⟩, v_u, v_v⟩ n).y).g), .val (.bool ((F.s_clo ⟨v_h, v_g, ⟨v_xl, v_xc, v_xp, v_xo, v_xb, v_xs, v_xq, v_xt, v_xn, v_xw⟩, v_u, v_v⟩ n).y).d), .val (.int .i64 ((F.s_clo ⟨v_h, v_g, ⟨v_xl, v_xc, v_xp, v_xo, v_xb, v_xs, v_xq, v_xt, v_xn, v_xw⟩, v_u, v_v⟩ n).y).s)]], [], [Any, Any]⟩
  | _, _ => none
set_option maxHeartbeats 2000000 in
set_option maxRecDepth 100000 in
theorem x_rkclose (v_h : Int) (v_g : Int) (v_xl : Int) (v_xc : Int) (v_xp : Int) (v_xo : Bool) (v_xb : Int) (v_xs : Int) (v_xq : List E) (v_xt : Int) (v_xn : Int) (v_xw : Bool) (v_u : Int) (v_v : Int) (n : Int) (hC : Us2.std.s_mk ⟨v_h, v_g, ⟨v_xl, v_xc, v_xp, v_xo, v_xb, v_xs, v_xq, v_xt, v_xn, v_xw⟩, v_u, v_v⟩ = true) : Does [(35, c_rlclose Js.std)] Try.f58 [.agg [.val (.int .i64 v_h), .val (.int .i64 v_g), .val (.int .i64 v_xl), .val (.int .i64 v_xc), .val (.int .i64 v_xp), .val (.bool v_xo), .val (.int .i64 v_xb), .val (.int .i64 v_xs), .sl none (.recs (.ints .u8 .nil) v_xq), .val (.int .i64 v_xt), .val (.int .i64 v_xn), .val (.bool v_xw), .val (.int .i64 v_u), .val (.int .i64 v_v)], .one (.val (.int .i64 n))] [] ⟨Us2.std.s_mk ⟨v_h, v_g, ⟨v_xl, v_xc, v_xp, v_xo, v_xb, v_xs, v_xq, v_xt, v_xn, v_xw⟩, v_u, v_v⟩ = true, .tup [.agg [.val (.int .i64 ((Us2.std.s_clo ⟨v_h, v_g, ⟨v_xl, v_xc, v_xp, v_xo, v_xb, v_xs, v_xq, v_xt, v_xn, v_xw⟩, v_u, v_v⟩ n).k).h), .val (.int .i64 ((Us2.std.s_clo ⟨v_h, v_g, ⟨v_xl, v_xc, v_xp, v_xo, v_xb, v_xs, v_xq, v_xt, v_xn, v_xw⟩, v_u, v_v⟩ n).k).g), .val (.int .i64 ((Us2.std.s_clo ⟨v_h, v_g, ⟨v_xl, v_xc, v_xp, v_xo, v_xb, v_xs, v_xq, v_xt, v_xn, v_xw⟩, v_u, v_v⟩ n).k).x.l), .val (.int .i64 ((Us2.std.s_clo ⟨v_h, v_g, ⟨v_xl, v_xc, v_xp, v_xo, v_xb, v_xs, v_xq, v_xt, v_xn, v_xw⟩, v_u, v_v⟩ n).k).x.c), .val (.int .i64 ((Us2.std.s_clo ⟨v_h, v_g, ⟨v_xl, v_xc, v_xp, v_xo, v_xb, v_xs, v_xq, v_xt, v_xn, v_xw⟩, v_u, v_v⟩ n).k).x.p), .val (.bool ((Us2.std.s_clo ⟨v_h, v_g, ⟨v_xl, v_xc, v_xp, v_xo, v_xb, v_xs, v_xq, v_xt, v_xn, v_xw⟩, v_u, v_v⟩ n).k).x.o), .val (.int .i64 ((Us2.std.s_clo ⟨v_h, v_g, ⟨v_xl, v_xc, v_xp, v_xo, v_xb, v_xs, v_xq, v_xt, v_xn, v_xw⟩, v_u, v_v⟩ n).k).x.b), .val (.int .i64 ((Us2.std.s_clo ⟨v_h, v_g, ⟨v_xl, v_xc, v_xp, v_xo, v_xb, v_xs, v_xq, v_xt, v_xn, v_xw⟩, v_u, v_v⟩ n).k).x.s), .sl none (.recs (.ints .u8 .nil) ((Us2.std.s_clo ⟨v_h, v_g, ⟨v_xl, v_xc, v_xp, v_xo, v_xb, v_xs, v_xq, v_xt, v_xn, v_xw⟩, v_u, v_v⟩ n).k).x.q), .val (.int .i64 ((Us2.std.s_clo ⟨v_h, v_g, ⟨v_xl, v_xc, v_xp, v_xo, v_xb, v_xs, v_xq, v_xt, v_xn, v_xw⟩, v_u, v_v⟩ n).k).x.t), .val (.int .i64 ((Us2.std.s_clo ⟨v_h, v_g, ⟨v_xl, v_xc, v_xp, v_xo, v_xb, v_xs, v_xq, v_xt, v_xn, v_xw⟩, v_u, v_v⟩ n).k).x.n), .val (.bool ((Us2.std.s_clo ⟨v_h, v_g, ⟨v_xl, v_xc, v_xp, v_xo, v_xb, v_xs, v_xq, v_xt, v_xn, v_xw⟩, v_u, v_v⟩ n).k).x.w), .val (.int .i64 ((Us2.std.s_clo ⟨v_h, v_g, ⟨v_xl, v_xc, v_xp, v_xo, v_xb, v_xs, v_xq, v_xt, v_xn, v_xw⟩, v_u, v_v⟩ n).k).u), .val (.int .i64 ((Us2.std.s_clo ⟨v_h, v_g, ⟨v_xl, v_xc, v_xp, v_xo, v_xb, v_xs, v_xq, v_xt, v_xn, v_xw⟩, v_u, v_v⟩ n).k).v)], .agg [.sl none (.recs (.int .i64 (.int .i64 (.int .i64 (.int .i64 (.ints .u8 .nil))))) ((Us2.std.s_clo ⟨v_h, v_g, ⟨v_xl, v_xc, v_xp, v_xo, v_xb, v_xs, v_xq, v_xt, v_xn, v_xw⟩, v_u, v_v⟩ n).y).f), .sl none (.recs (.ints .u8 .nil) ((Us2.std.s_clo ⟨v_h, v_g, ⟨v_xl, v_xc, v_xp, v_xo, v_xb, v_xs, v_xq, v_xt, v_xn, v_xw⟩, v_u, v_v⟩ n).y).g), .val (.bool ((Us2.std.s_clo ⟨v_h, v_g, ⟨v_xl, v_xc, v_xp, v_xo, v_xb, v_xs, v_xq, v_xt, v_xn, v_xw⟩, v_u, v_v⟩ n).y).d), .val (.int .i64 ((Us2.std.s_clo ⟨v_h, v_g, ⟨v_xl, v_xc, v_xp, v_xo, v_xb, v_xs, v_xq, v_xt, v_xn, v_xw⟩, v_u, v_v⟩ n).y).s)]], [], [Any, Any]⟩ := by
  intro b gv
  have hm : mayL ⟨v_xl, v_xc, v_xp, v_xo, v_xb, v_xs, v_xq, v_xt, v_xn, v_xw⟩ = true := hC
  have hfs := (FsOk.cons ok_rlclose FsOk.nil rfl)
  generalize hF : Us2.std = F at hC hfs ⊢
  generalize hG0 : Js.std = G0 at hC hfs ⊢
  generalize hA : Ar.std = A
  generalize hL : Lp _ _ _ = L
  obtain ⟨Z, zq⟩ := z_all
  refine cd_open (lp_mono hL) zq rfl ?_
  repeat' (first
    | (refine z_open zq ?_; try dsimp only)
    | refine cd_seq zq ?_ (lp_mono hL)
    | refine cd_blk zq ?_
    | refine cd_ret ?_
    | refine cd_skip ?_
    | refine cd_exit ?_
    | refine cd_loop ?_
    | refine cd_cond rfl ?_
    | refine cd_condT rfl ?_
    | refine cd_condF rfl ?_
    | (refine Cd.mk ?_; cbv)
    | (refine Ends1.mk ?_; cbv)
    | (refine Fin1.mk ?_; cbv)
    | exact trivial
    | refine And.intro ?_ ?_
    | refine orf fun _ => ?_
    | refine ort fun _ => ?_)
  all_goals
    clear hL zq Z hfs
    subst hF hA hG0
    simp only [Us2.std, Js.std] at *
    try (grind [stdCmp, b_add, wr, rcloK])
theorem ok_rkclose : ConOk Try.prog 58 (c_rkclose Us2.std) := by
  refine con_of (FsOk.cons ok_rlclose FsOk.nil rfl) Try.func58 rfl rfl fun xs h p hp => ?_
  unfold c_rkclose at hp
  split at hp
  · cases hp
    exact ⟨lee_le rfl, fun hC _ => x_rkclose _ _ _ _ _ _ _ _ _ _ _ _ _ _ _ hC⟩
  · cases hp

def c_rkhear (F : Us2) : Con := fun xs h => match xs, h with
  | [.agg [.val (.int .i64 v_h), .val (.int .i64 v_g), .val (.int .i64 v_xl), .val (.int .i64 v_xc), .val (.int .i64 v_xp), .val (.bool v_xo), .val (.int .i64 v_xb), .val (.int .i64 v_xs), .sl none (.recs (.ints .u8 .nil) v_xq), .val (.int .i64 v_xt), .val (.int .i64 v_xn), .val (.bool v_xw), .val (.int .i64 v_u), .val (.int .i64 v_v)], .one (.sl none (.ints .u8 d)), .one (.val (.int .i64 n))], [] => some ⟨F.s_hc ⟨v_h, v_g, ⟨v_xl, v_xc, v_xp, v_xo, v_xb, v_xs, v_xq, v_xt, v_xn, v_xw⟩, v_u, v_v⟩ d = true, .tup [.agg [.val (.int .i64 ((F.s_hear ⟨v_h, v_g, ⟨v_xl, v_xc, v_xp, v_xo, v_xb, v_xs, v_xq, v_xt, v_xn, v_xw⟩, v_u, v_v⟩ d n).k).h), .val (.int .i64 ((F.s_hear ⟨v_h, v_g, ⟨v_xl, v_xc, v_xp, v_xo, v_xb, v_xs, v_xq, v_xt, v_xn, v_xw⟩, v_u, v_v⟩ d n).k).g), .val (.int .i64 ((F.s_hear ⟨v_h, v_g, ⟨v_xl, v_xc, v_xp, v_xo, v_xb, v_xs, v_xq, v_xt, v_xn, v_xw⟩, v_u, v_v⟩ d n).k).x.l), .val (.int .i64 ((F.s_hear ⟨v_h, v_g, ⟨v_xl, v_xc, v_xp, v_xo, v_xb, v_xs, v_xq, v_xt, v_xn, v_xw⟩, v_u, v_v⟩ d n).k).x.c), .val (.int .i64 ((F.s_hear ⟨v_h, v_g, ⟨v_xl, v_xc, v_xp, v_xo, v_xb, v_xs, v_xq, v_xt, v_xn, v_xw⟩, v_u, v_v⟩ d n).k).x.p), .val (.bool ((F.s_hear ⟨v_h, v_g, ⟨v_xl, v_xc, v_xp, v_xo, v_xb, v_xs, v_xq, v_xt, v_xn, v_xw⟩, v_u, v_v⟩ d n).k).x.o), .val (.int .i64 ((F.s_hear ⟨v_h, v_g, ⟨v_xl, v_xc, v_xp, v_xo, v_xb, v_xs, v_xq, v_xt, v_xn, v_xw⟩, v_u, v_v⟩ d n).k).x.b), .val (.int .i64 ((F.s_hear ⟨v_h, v_g, ⟨v_xl, v_xc, v_xp, v_xo, v_xb, v_xs, v_xq, v_xt, v_xn, v_xw⟩, v_u, v_v⟩ d n).k).x.s), .sl none (.recs (.ints .u8 .nil) ((F.s_hear ⟨v_h, v_g, ⟨v_xl, v_xc, v_xp, v_xo, v_xb, v_xs, v_xq, v_xt, v_xn, v_xw⟩, v_u, v_v⟩ d n).k).x.q), .val (.int .i64 ((F.s_hear ⟨v_h, v_g, ⟨v_xl, v_xc, v_xp, v_xo, v_xb, v_xs, v_xq, v_xt, v_xn, v_xw⟩, v_u, v_v⟩ d n).k).x.t), .val (.int .i64 ((F.s_hear ⟨v_h, v_g, ⟨v_xl, v_xc, v_xp, v_xo, v_xb, v_xs, v_xq, v_xt, v_xn, v_xw⟩, v_u, v_v⟩ d n).k).x.n), .val (.bool ((F.s_hear ⟨v_h, v_g, ⟨v_xl, v_xc, v_xp, v_xo, v_xb, v_xs, v_xq, v_xt, v_xn, v_xw⟩, v_u, v_v⟩ d n).k).x.w), .val (.int .i64 ((F.s_hear ⟨v_h, v_g, ⟨v_xl, v_xc, v_xp, v_xo, v_xb, v_xs, v_xq, v_xt, v_xn, v_xw⟩, v_u, v_v⟩ d n).k).u), .val (.int .i64 ((F.s_hear ⟨v_h, v_g, ⟨v_xl, v_xc, v_xp, v_xo, v_xb, v_xs, v_xq, v_xt, v_xn, v_xw⟩, v_u, v_v⟩ d n).k).v)], .agg [.sl none (.recs (.int .i64 (.int .i64 (.int .i64 (.int .i64 (.ints .u8 .nil))))) ((F.s_hear ⟨v_h, v_g, ⟨v_xl, v_xc, v_xp, v_xo, v_xb, v_xs, v_xq, v_xt, v_xn, v_xw⟩, v_u, v_v⟩ d n).y).f), .sl none (.recs (.ints .u8 .nil) ((F.s_hear ⟨v_h, v_g, ⟨v_xl, v_xc, v_xp, v_xo, v_xb, v_xs, v_xq, v_xt, v_xn, v_xw⟩, v_u, v_v⟩ d n).y).g), .val (.bool ((F.s_hear ⟨v_h, v_g, ⟨v_xl, v_xc, v_xp, v_xo, v_xb, v_xs, v_xq, v_xt, v_xn, v_xw⟩, v_u, v_v⟩ d n).y).d), .val (.int .i64 ((F.s_hear ⟨v_h, v_g, ⟨v_xl, v_xc, v_xp, v_xo, v_xb, v_xs, v_xq, v_xt, v_xn, v_xw⟩, v_u, v_v⟩ d n).y).s)]], [], [Any, Any, Any]⟩
  | _, _ => none
set_option maxHeartbeats 2000000 in
set_option maxRecDepth 100000 in
theorem x_rkhear (v_h : Int) (v_g : Int) (v_xl : Int) (v_xc : Int) (v_xp : Int) (v_xo : Bool) (v_xb : Int) (v_xs : Int) (v_xq : List E) (v_xt : Int) (v_xn : Int) (v_xw : Bool) (v_u : Int) (v_v : Int) (d : List Int) (n : Int) (hC : Us2.std.s_hc ⟨v_h, v_g, ⟨v_xl, v_xc, v_xp, v_xo, v_xb, v_xs, v_xq, v_xt, v_xn, v_xw⟩, v_u, v_v⟩ d = true) : Does [(63, c_frdec FrQ.Qs.std), (22, c_rlhear Js.std)] Try.f62 [.agg [.val (.int .i64 v_h), .val (.int .i64 v_g), .val (.int .i64 v_xl), .val (.int .i64 v_xc), .val (.int .i64 v_xp), .val (.bool v_xo), .val (.int .i64 v_xb), .val (.int .i64 v_xs), .sl none (.recs (.ints .u8 .nil) v_xq), .val (.int .i64 v_xt), .val (.int .i64 v_xn), .val (.bool v_xw), .val (.int .i64 v_u), .val (.int .i64 v_v)], .one (.sl none (.ints .u8 d)), .one (.val (.int .i64 n))] [] ⟨Us2.std.s_hc ⟨v_h, v_g, ⟨v_xl, v_xc, v_xp, v_xo, v_xb, v_xs, v_xq, v_xt, v_xn, v_xw⟩, v_u, v_v⟩ d = true, .tup [.agg [.val (.int .i64 ((Us2.std.s_hear ⟨v_h, v_g, ⟨v_xl, v_xc, v_xp, v_xo, v_xb, v_xs, v_xq, v_xt, v_xn, v_xw⟩, v_u, v_v⟩ d n).k).h), .val (.int .i64 ((Us2.std.s_hear ⟨v_h, v_g, ⟨v_xl, v_xc, v_xp, v_xo, v_xb, v_xs, v_xq, v_xt, v_xn, v_xw⟩, v_u, v_v⟩ d n).k).g), .val (.int .i64 ((Us2.std.s_hear ⟨v_h, v_g, ⟨v_xl, v_xc, v_xp, v_xo, v_xb, v_xs, v_xq, v_xt, v_xn, v_xw⟩, v_u, v_v⟩ d n).k).x.l), .val (.int .i64 ((Us2.std.s_hear ⟨v_h, v_g, ⟨v_xl, v_xc, v_xp, v_xo, v_xb, v_xs, v_xq, v_xt, v_xn, v_xw⟩, v_u, v_v⟩ d n).k).x.c), .val (.int .i64 ((Us2.std.s_hear ⟨v_h, v_g, ⟨v_xl, v_xc, v_xp, v_xo, v_xb, v_xs, v_xq, v_xt, v_xn, v_xw⟩, v_u, v_v⟩ d n).k).x.p), .val (.bool ((Us2.std.s_hear ⟨v_h, v_g, ⟨v_xl, v_xc, v_xp, v_xo, v_xb, v_xs, v_xq, v_xt, v_xn, v_xw⟩, v_u, v_v⟩ d n).k).x.o), .val (.int .i64 ((Us2.std.s_hear ⟨v_h, v_g, ⟨v_xl, v_xc, v_xp, v_xo, v_xb, v_xs, v_xq, v_xt, v_xn, v_xw⟩, v_u, v_v⟩ d n).k).x.b), .val (.int .i64 ((Us2.std.s_hear ⟨v_h, v_g, ⟨v_xl, v_xc, v_xp, v_xo, v_xb, v_xs, v_xq, v_xt, v_xn, v_xw⟩, v_u, v_v⟩ d n).k).x.s), .sl none (.recs (.ints .u8 .nil) ((Us2.std.s_hear ⟨v_h, v_g, ⟨v_xl, v_xc, v_xp, v_xo, v_xb, v_xs, v_xq, v_xt, v_xn, v_xw⟩, v_u, v_v⟩ d n).k).x.q), .val (.int .i64 ((Us2.std.s_hear ⟨v_h, v_g, ⟨v_xl, v_xc, v_xp, v_xo, v_xb, v_xs, v_xq, v_xt, v_xn, v_xw⟩, v_u, v_v⟩ d n).k).x.t), .val (.int .i64 ((Us2.std.s_hear ⟨v_h, v_g, ⟨v_xl, v_xc, v_xp, v_xo, v_xb, v_xs, v_xq, v_xt, v_xn, v_xw⟩, v_u, v_v⟩ d n).k).x.n), .val (.bool ((Us2.std.s_hear ⟨v_h, v_g, ⟨v_xl, v_xc, v_xp, v_xo, v_xb, v_xs, v_xq, v_xt, v_xn, v_xw⟩, v_u, v_v⟩ d n).k).x.w), .val (.int .i64 ((Us2.std.s_hear ⟨v_h, v_g, ⟨v_xl, v_xc, v_xp, v_xo, v_xb, v_xs, v_xq, v_xt, v_xn, v_xw⟩, v_u, v_v⟩ d n).k).u), .val (.int .i64 ((Us2.std.s_hear ⟨v_h, v_g, ⟨v_xl, v_xc, v_xp, v_xo, v_xb, v_xs, v_xq, v_xt, v_xn, v_xw⟩, v_u, v_v⟩ d n).k).v)], .agg [.sl none (.recs (.int .i64 (.int .i64 (.int .i64 (.int .i64 (.ints .u8 .nil))))) ((Us2.std.s_hear ⟨v_h, v_g, ⟨v_xl, v_xc, v_xp, v_xo, v_xb, v_xs, v_xq, v_xt, v_xn, v_xw⟩, v_u, v_v⟩ d n).y).f), .sl none (.recs (.ints .u8 .nil) ((Us2.std.s_hear ⟨v_h, v_g, ⟨v_xl, v_xc, v_xp, v_xo, v_xb, v_xs, v_xq, v_xt, v_xn, v_xw⟩, v_u, v_v⟩ d n).y).g), .val (.bool ((Us2.std.s_hear ⟨v_h, v_g, ⟨v_xl, v_xc, v_xp, v_xo, v_xb, v_xs, v_xq, v_xt, v_xn, v_xw⟩, v_u, v_v⟩ d n).y).d), .val (.int .i64 ((Us2.std.s_hear ⟨v_h, v_g, ⟨v_xl, v_xc, v_xp, v_xo, v_xb, v_xs, v_xq, v_xt, v_xn, v_xw⟩, v_u, v_v⟩ d n).y).s)]], [], [Any, Any, Any]⟩ := by
  intro b gv
  have hc : (mayK ⟨v_h, v_g, ⟨v_xl, v_xc, v_xp, v_xo, v_xb, v_xs, v_xq, v_xt, v_xn, v_xw⟩, v_u, v_v⟩ && byB d) = true := hC
  simp only [Bool.and_eq_true] at hc
  have hm : mayL ⟨v_xl, v_xc, v_xp, v_xo, v_xb, v_xs, v_xq, v_xt, v_xn, v_xw⟩ = true := (may_K hc.1).2.2.2.2.1
  have hby := hc.2
  have hfs := (FsOk.cons ok_frdec (FsOk.cons ok_rlhear FsOk.nil rfl) rfl)
  generalize hF : Us2.std = F at hC hfs ⊢
  generalize hG0 : Js.std = G0 at hC hfs ⊢
  generalize hG1 : FrQ.Qs.std = G1 at hC hfs ⊢
  generalize hA : Ar.std = A
  generalize hL : Lp _ _ _ = L
  obtain ⟨Z, zq⟩ := z_all
  refine cd_open (lp_mono hL) zq rfl ?_
  repeat' (first
    | (refine z_open zq ?_; try dsimp only)
    | refine cd_seq zq ?_ (lp_mono hL)
    | refine cd_blk zq ?_
    | refine cd_ret ?_
    | refine cd_skip ?_
    | refine cd_exit ?_
    | refine cd_loop ?_
    | refine cd_cond rfl ?_
    | refine cd_condT rfl ?_
    | refine cd_condF rfl ?_
    | (refine Cd.mk ?_; cbv)
    | (refine Ends1.mk ?_; cbv)
    | (refine Fin1.mk ?_; cbv)
    | exact trivial
    | refine And.intro ?_ ?_
    | refine orf fun _ => ?_
    | refine ort fun _ => ?_)
  all_goals
    clear hL zq Z hfs
    subst hF hA hG0 hG1
    simp only [Us2.std, Js.std, FrQ.Qs.std, Ar.std] at *
    try (grind [stdCmp, b_add, wr, rhearK, rheaK, zN])
theorem ok_rkhear : ConOk Try.prog 62 (c_rkhear Us2.std) := by
  refine con_of (FsOk.cons ok_frdec (FsOk.cons ok_rlhear FsOk.nil rfl) rfl) Try.func62 rfl rfl fun xs h p hp => ?_
  unfold c_rkhear at hp
  split at hp
  · cases hp
    exact ⟨lee_le rfl, fun hC _ => x_rkhear _ _ _ _ _ _ _ _ _ _ _ _ _ _ _ _ hC⟩
  · cases hp

def c_rltick2 (F : Us2) : Con := fun xs h => match xs, h with
  | [.agg [.val (.int .i64 v_l), .val (.int .i64 v_c), .val (.int .i64 v_p), .val (.bool v_o), .val (.int .i64 v_b), .val (.int .i64 v_s), .sl none (.recs (.ints .u8 .nil) v_q), .val (.int .i64 v_t), .val (.int .i64 v_n), .val (.bool v_w)]], [] => some ⟨F.s_ml ⟨v_l, v_c, v_p, v_o, v_b, v_s, v_q, v_t, v_n, v_w⟩ = true, .tup [.agg [.val (.int .i64 ((F.s_ltk ⟨v_l, v_c, v_p, v_o, v_b, v_s, v_q, v_t, v_n, v_w⟩).x).l), .val (.int .i64 ((F.s_ltk ⟨v_l, v_c, v_p, v_o, v_b, v_s, v_q, v_t, v_n, v_w⟩).x).c), .val (.int .i64 ((F.s_ltk ⟨v_l, v_c, v_p, v_o, v_b, v_s, v_q, v_t, v_n, v_w⟩).x).p), .val (.bool ((F.s_ltk ⟨v_l, v_c, v_p, v_o, v_b, v_s, v_q, v_t, v_n, v_w⟩).x).o), .val (.int .i64 ((F.s_ltk ⟨v_l, v_c, v_p, v_o, v_b, v_s, v_q, v_t, v_n, v_w⟩).x).b), .val (.int .i64 ((F.s_ltk ⟨v_l, v_c, v_p, v_o, v_b, v_s, v_q, v_t, v_n, v_w⟩).x).s), .sl none (.recs (.ints .u8 .nil) ((F.s_ltk ⟨v_l, v_c, v_p, v_o, v_b, v_s, v_q, v_t, v_n, v_w⟩).x).q), .val (.int .i64 ((F.s_ltk ⟨v_l, v_c, v_p, v_o, v_b, v_s, v_q, v_t, v_n, v_w⟩).x).t), .val (.int .i64 ((F.s_ltk ⟨v_l, v_c, v_p, v_o, v_b, v_s, v_q, v_t, v_n, v_w⟩).x).n), .val (.bool ((F.s_ltk ⟨v_l, v_c, v_p, v_o, v_b, v_s, v_q, v_t, v_n, v_w⟩).x).w)], .agg [.sl (some (0, 33)) (.recs (.int .i64 (.int .i64 (.int .i64 (.int .i64 (.ints .u8 .nil))))) (F.s_ltk ⟨v_l, v_c, v_p, v_o, v_b, v_s, v_q, v_t, v_n, v_w⟩).y.f), .sl none (.recs (.ints .u8 .nil) (F.s_ltk ⟨v_l, v_c, v_p, v_o, v_b, v_s, v_q, v_t, v_n, v_w⟩).y.g), .val (.bool (F.s_ltk ⟨v_l, v_c, v_p, v_o, v_b, v_s, v_q, v_t, v_n, v_w⟩).y.d), .val (.int .i64 (F.s_ltk ⟨v_l, v_c, v_p, v_o, v_b, v_s, v_q, v_t, v_n, v_w⟩).y.s)]], [(0, .tok)], [Any]⟩
  | _, _ => none
set_option maxHeartbeats 2000000 in
set_option maxRecDepth 100000 in
theorem x_rltick2 (v_l : Int) (v_c : Int) (v_p : Int) (v_o : Bool) (v_b : Int) (v_s : Int) (v_q : List E) (v_t : Int) (v_n : Int) (v_w : Bool) (hC : Us2.std.s_ml ⟨v_l, v_c, v_p, v_o, v_b, v_s, v_q, v_t, v_n, v_w⟩ = true) : Does [(92, c_rtick Vs.std), (91, c_rdata Js.std)] Try.f28 [.agg [.val (.int .i64 v_l), .val (.int .i64 v_c), .val (.int .i64 v_p), .val (.bool v_o), .val (.int .i64 v_b), .val (.int .i64 v_s), .sl none (.recs (.ints .u8 .nil) v_q), .val (.int .i64 v_t), .val (.int .i64 v_n), .val (.bool v_w)]] [] ⟨Us2.std.s_ml ⟨v_l, v_c, v_p, v_o, v_b, v_s, v_q, v_t, v_n, v_w⟩ = true, .tup [.agg [.val (.int .i64 ((Us2.std.s_ltk ⟨v_l, v_c, v_p, v_o, v_b, v_s, v_q, v_t, v_n, v_w⟩).x).l), .val (.int .i64 ((Us2.std.s_ltk ⟨v_l, v_c, v_p, v_o, v_b, v_s, v_q, v_t, v_n, v_w⟩).x).c), .val (.int .i64 ((Us2.std.s_ltk ⟨v_l, v_c, v_p, v_o, v_b, v_s, v_q, v_t, v_n, v_w⟩).x).p), .val (.bool ((Us2.std.s_ltk ⟨v_l, v_c, v_p, v_o, v_b, v_s, v_q, v_t, v_n, v_w⟩).x).o), .val (.int .i64 ((Us2.std.s_ltk ⟨v_l, v_c, v_p, v_o, v_b, v_s, v_q, v_t, v_n, v_w⟩).x).b), .val (.int .i64 ((Us2.std.s_ltk ⟨v_l, v_c, v_p, v_o, v_b, v_s, v_q, v_t, v_n, v_w⟩).x).s), .sl none (.recs (.ints .u8 .nil) ((Us2.std.s_ltk ⟨v_l, v_c, v_p, v_o, v_b, v_s, v_q, v_t, v_n, v_w⟩).x).q), .val (.int .i64 ((Us2.std.s_ltk ⟨v_l, v_c, v_p, v_o, v_b, v_s, v_q, v_t, v_n, v_w⟩).x).t), .val (.int .i64 ((Us2.std.s_ltk ⟨v_l, v_c, v_p, v_o, v_b, v_s, v_q, v_t, v_n, v_w⟩).x).n), .val (.bool ((Us2.std.s_ltk ⟨v_l, v_c, v_p, v_o, v_b, v_s, v_q, v_t, v_n, v_w⟩).x).w)], .agg [.sl (some (0, 33)) (.recs (.int .i64 (.int .i64 (.int .i64 (.int .i64 (.ints .u8 .nil))))) (Us2.std.s_ltk ⟨v_l, v_c, v_p, v_o, v_b, v_s, v_q, v_t, v_n, v_w⟩).y.f), .sl none (.recs (.ints .u8 .nil) (Us2.std.s_ltk ⟨v_l, v_c, v_p, v_o, v_b, v_s, v_q, v_t, v_n, v_w⟩).y.g), .val (.bool (Us2.std.s_ltk ⟨v_l, v_c, v_p, v_o, v_b, v_s, v_q, v_t, v_n, v_w⟩).y.d), .val (.int .i64 (Us2.std.s_ltk ⟨v_l, v_c, v_p, v_o, v_b, v_s, v_q, v_t, v_n, v_w⟩).y.s)]], [(0, .tok)], [Any]⟩ := by
  intro b gv
  have hm : mayL ⟨v_l, v_c, v_p, v_o, v_b, v_s, v_q, v_t, v_n, v_w⟩ = true := hC
  have hm1 := may_L hm
  have hm2 := may_ok hm1.2.1
  have hm3 := may_c hm
  dsimp only at hm1 hm2 hm3
  have htl := tk_l v_b v_s v_q v_t
  have hfs := (FsOk.cons ok_rtick (FsOk.cons ok_rdata FsOk.nil rfl) rfl)
  generalize hF : Us2.std = F at hC hfs ⊢
  generalize hG0 : Vs.std = G0 at hC hfs ⊢
  generalize hG1 : Js.std = G1 at hC hfs ⊢
  generalize hA : Ar.std = A
  generalize hL : Lp _ _ _ = L
  obtain ⟨Z, zq⟩ := z_all
  refine cd_open (lp_mono hL) zq rfl ?_
  repeat' (first
    | (refine z_open zq ?_; try dsimp only)
    | refine cd_seq zq ?_ (lp_mono hL)
    | refine cd_blk zq ?_
    | refine cd_ret ?_
    | refine cd_skip ?_
    | refine cd_exit ?_
    | refine cd_loop ?_
    | refine cd_cond rfl ?_
    | refine cd_condT rfl ?_
    | refine cd_condF rfl ?_
    | (refine Cd.mk ?_; cbv)
    | (refine Ends1.mk ?_; cbv)
    | (refine Fin1.mk ?_; cbv)
    | exact trivial
    | refine And.intro ?_ ?_
    | refine orf fun _ => ?_
    | refine ort fun _ => ?_)
  all_goals
    clear hL zq Z hfs
    subst hF hA hG0 hG1
    simp only [Us2.std, Vs.std, Js.std, Ar.std] at *
    try (grind [stdCmp, b_add, wr, rtikL, sndL])
theorem ok_rltick2 : ConOk Try.prog 28 (c_rltick2 Us2.std) := by
  refine con_of (FsOk.cons ok_rtick (FsOk.cons ok_rdata FsOk.nil rfl) rfl) Try.func28 rfl rfl fun xs h p hp => ?_
  unfold c_rltick2 at hp
  split at hp
  · cases hp
    exact ⟨lee_le rfl, fun hC _ => x_rltick2 _ _ _ _ _ _ _ _ _ _ hC⟩
  · cases hp

def c_rktick (F : Us2) : Con := fun xs h => match xs, h with
  | [.agg [.val (.int .i64 v_h), .val (.int .i64 v_g), .val (.int .i64 v_xl), .val (.int .i64 v_xc), .val (.int .i64 v_xp), .val (.bool v_xo), .val (.int .i64 v_xb), .val (.int .i64 v_xs), .sl none (.recs (.ints .u8 .nil) v_xq), .val (.int .i64 v_xt), .val (.int .i64 v_xn), .val (.bool v_xw), .val (.int .i64 v_u), .val (.int .i64 v_v)], .one (.val (.int .i64 n))], [] => some ⟨F.s_tk ⟨v_h, v_g, ⟨v_xl, v_xc, v_xp, v_xo, v_xb, v_xs, v_xq, v_xt, v_xn, v_xw⟩, v_u, v_v⟩ = true, .tup [.agg [.val (.int .i64 ((F.s_tik ⟨v_h, v_g, ⟨v_xl, v_xc, v_xp, v_xo, v_xb, v_xs, v_xq, v_xt, v_xn, v_xw⟩, v_u, v_v⟩ n).k).h), .val (.int .i64 ((F.s_tik ⟨v_h, v_g, ⟨v_xl, v_xc, v_xp, v_xo, v_xb, v_xs, v_xq, v_xt, v_xn, v_xw⟩, v_u, v_v⟩ n).k).g), .val (.int .i64 ((F.s_tik ⟨v_h, v_g, ⟨v_xl, v_xc, v_xp, v_xo, v_xb, v_xs, v_xq, v_xt, v_xn, v_xw⟩, v_u, v_v⟩ n).k).x.l), .val (.int .i64 ((F.s_tik ⟨v_h, v_g, ⟨v_xl, v_xc, v_xp, v_xo, v_xb, v_xs, v_xq, v_xt, v_xn, v_xw⟩, v_u, v_v⟩ n).k).x.c), .val (.int .i64 ((F.s_tik ⟨v_h, v_g, ⟨v_xl, v_xc, v_xp, v_xo, v_xb, v_xs, v_xq, v_xt, v_xn, v_xw⟩, v_u, v_v⟩ n).k).x.p), .val (.bool ((F.s_tik ⟨v_h, v_g, ⟨v_xl, v_xc, v_xp, v_xo, v_xb, v_xs, v_xq, v_xt, v_xn, v_xw⟩, v_u, v_v⟩ n).k).x.o), .val (.int .i64 ((F.s_tik ⟨v_h, v_g, ⟨v_xl, v_xc, v_xp, v_xo, v_xb, v_xs, v_xq, v_xt, v_xn, v_xw⟩, v_u, v_v⟩ n).k).x.b), .val (.int .i64 ((F.s_tik ⟨v_h, v_g, ⟨v_xl, v_xc, v_xp, v_xo, v_xb, v_xs, v_xq, v_xt, v_xn, v_xw⟩, v_u, v_v⟩ n).k).x.s), .sl none (.recs (.ints .u8 .nil) ((F.s_tik ⟨v_h, v_g, ⟨v_xl, v_xc, v_xp, v_xo, v_xb, v_xs, v_xq, v_xt, v_xn, v_xw⟩, v_u, v_v⟩ n).k).x.q), .val (.int .i64 ((F.s_tik ⟨v_h, v_g, ⟨v_xl, v_xc, v_xp, v_xo, v_xb, v_xs, v_xq, v_xt, v_xn, v_xw⟩, v_u, v_v⟩ n).k).x.t), .val (.int .i64 ((F.s_tik ⟨v_h, v_g, ⟨v_xl, v_xc, v_xp, v_xo, v_xb, v_xs, v_xq, v_xt, v_xn, v_xw⟩, v_u, v_v⟩ n).k).x.n), .val (.bool ((F.s_tik ⟨v_h, v_g, ⟨v_xl, v_xc, v_xp, v_xo, v_xb, v_xs, v_xq, v_xt, v_xn, v_xw⟩, v_u, v_v⟩ n).k).x.w), .val (.int .i64 ((F.s_tik ⟨v_h, v_g, ⟨v_xl, v_xc, v_xp, v_xo, v_xb, v_xs, v_xq, v_xt, v_xn, v_xw⟩, v_u, v_v⟩ n).k).u), .val (.int .i64 ((F.s_tik ⟨v_h, v_g, ⟨v_xl, v_xc, v_xp, v_xo, v_xb, v_xs, v_xq, v_xt, v_xn, v_xw⟩, v_u, v_v⟩ n).k).v)], .agg [.sl none (.recs (.int .i64 (.int .i64 (.int .i64 (.int .i64 (.ints .u8 .nil))))) ((F.s_tik ⟨v_h, v_g, ⟨v_xl, v_xc, v_xp, v_xo, v_xb, v_xs, v_xq, v_xt, v_xn, v_xw⟩, v_u, v_v⟩ n).y).f), .sl none (.recs (.ints .u8 .nil) ((F.s_tik ⟨v_h, v_g, ⟨v_xl, v_xc, v_xp, v_xo, v_xb, v_xs, v_xq, v_xt, v_xn, v_xw⟩, v_u, v_v⟩ n).y).g), .val (.bool ((F.s_tik ⟨v_h, v_g, ⟨v_xl, v_xc, v_xp, v_xo, v_xb, v_xs, v_xq, v_xt, v_xn, v_xw⟩, v_u, v_v⟩ n).y).d), .val (.int .i64 ((F.s_tik ⟨v_h, v_g, ⟨v_xl, v_xc, v_xp, v_xo, v_xb, v_xs, v_xq, v_xt, v_xn, v_xw⟩, v_u, v_v⟩ n).y).s)]], [], [Any, Any]⟩
  | _, _ => none
set_option maxHeartbeats 2000000 in
set_option maxRecDepth 100000 in
theorem x_rktick (v_h : Int) (v_g : Int) (v_xl : Int) (v_xc : Int) (v_xp : Int) (v_xo : Bool) (v_xb : Int) (v_xs : Int) (v_xq : List E) (v_xt : Int) (v_xn : Int) (v_xw : Bool) (v_u : Int) (v_v : Int) (n : Int) (hC : Us2.std.s_tk ⟨v_h, v_g, ⟨v_xl, v_xc, v_xp, v_xo, v_xb, v_xs, v_xq, v_xt, v_xn, v_xw⟩, v_u, v_v⟩ = true) : Does [(28, c_rltick2 Us2.std), (115, c_rbtick Us2.std), (58, c_rkclose Us2.std)] Try.f50 [.agg [.val (.int .i64 v_h), .val (.int .i64 v_g), .val (.int .i64 v_xl), .val (.int .i64 v_xc), .val (.int .i64 v_xp), .val (.bool v_xo), .val (.int .i64 v_xb), .val (.int .i64 v_xs), .sl none (.recs (.ints .u8 .nil) v_xq), .val (.int .i64 v_xt), .val (.int .i64 v_xn), .val (.bool v_xw), .val (.int .i64 v_u), .val (.int .i64 v_v)], .one (.val (.int .i64 n))] [] ⟨Us2.std.s_tk ⟨v_h, v_g, ⟨v_xl, v_xc, v_xp, v_xo, v_xb, v_xs, v_xq, v_xt, v_xn, v_xw⟩, v_u, v_v⟩ = true, .tup [.agg [.val (.int .i64 ((Us2.std.s_tik ⟨v_h, v_g, ⟨v_xl, v_xc, v_xp, v_xo, v_xb, v_xs, v_xq, v_xt, v_xn, v_xw⟩, v_u, v_v⟩ n).k).h), .val (.int .i64 ((Us2.std.s_tik ⟨v_h, v_g, ⟨v_xl, v_xc, v_xp, v_xo, v_xb, v_xs, v_xq, v_xt, v_xn, v_xw⟩, v_u, v_v⟩ n).k).g), .val (.int .i64 ((Us2.std.s_tik ⟨v_h, v_g, ⟨v_xl, v_xc, v_xp, v_xo, v_xb, v_xs, v_xq, v_xt, v_xn, v_xw⟩, v_u, v_v⟩ n).k).x.l), .val (.int .i64 ((Us2.std.s_tik ⟨v_h, v_g, ⟨v_xl, v_xc, v_xp, v_xo, v_xb, v_xs, v_xq, v_xt, v_xn, v_xw⟩, v_u, v_v⟩ n).k).x.c), .val (.int .i64 ((Us2.std.s_tik ⟨v_h, v_g, ⟨v_xl, v_xc, v_xp, v_xo, v_xb, v_xs, v_xq, v_xt, v_xn, v_xw⟩, v_u, v_v⟩ n).k).x.p), .val (.bool ((Us2.std.s_tik ⟨v_h, v_g, ⟨v_xl, v_xc, v_xp, v_xo, v_xb, v_xs, v_xq, v_xt, v_xn, v_xw⟩, v_u, v_v⟩ n).k).x.o), .val (.int .i64 ((Us2.std.s_tik ⟨v_h, v_g, ⟨v_xl, v_xc, v_xp, v_xo, v_xb, v_xs, v_xq, v_xt, v_xn, v_xw⟩, v_u, v_v⟩ n).k).x.b), .val (.int .i64 ((Us2.std.s_tik ⟨v_h, v_g, ⟨v_xl, v_xc, v_xp, v_xo, v_xb, v_xs, v_xq, v_xt, v_xn, v_xw⟩, v_u, v_v⟩ n).k).x.s), .sl none (.recs (.ints .u8 .nil) ((Us2.std.s_tik ⟨v_h, v_g, ⟨v_xl, v_xc, v_xp, v_xo, v_xb, v_xs, v_xq, v_xt, v_xn, v_xw⟩, v_u, v_v⟩ n).k).x.q), .val (.int .i64 ((Us2.std.s_tik ⟨v_h, v_g, ⟨v_xl, v_xc, v_xp, v_xo, v_xb, v_xs, v_xq, v_xt, v_xn, v_xw⟩, v_u, v_v⟩ n).k).x.t), .val (.int .i64 ((Us2.std.s_tik ⟨v_h, v_g, ⟨v_xl, v_xc, v_xp, v_xo, v_xb, v_xs, v_xq, v_xt, v_xn, v_xw⟩, v_u, v_v⟩ n).k).x.n), .val (.bool ((Us2.std.s_tik ⟨v_h, v_g, ⟨v_xl, v_xc, v_xp, v_xo, v_xb, v_xs, v_xq, v_xt, v_xn, v_xw⟩, v_u, v_v⟩ n).k).x.w), .val (.int .i64 ((Us2.std.s_tik ⟨v_h, v_g, ⟨v_xl, v_xc, v_xp, v_xo, v_xb, v_xs, v_xq, v_xt, v_xn, v_xw⟩, v_u, v_v⟩ n).k).u), .val (.int .i64 ((Us2.std.s_tik ⟨v_h, v_g, ⟨v_xl, v_xc, v_xp, v_xo, v_xb, v_xs, v_xq, v_xt, v_xn, v_xw⟩, v_u, v_v⟩ n).k).v)], .agg [.sl none (.recs (.int .i64 (.int .i64 (.int .i64 (.int .i64 (.ints .u8 .nil))))) ((Us2.std.s_tik ⟨v_h, v_g, ⟨v_xl, v_xc, v_xp, v_xo, v_xb, v_xs, v_xq, v_xt, v_xn, v_xw⟩, v_u, v_v⟩ n).y).f), .sl none (.recs (.ints .u8 .nil) ((Us2.std.s_tik ⟨v_h, v_g, ⟨v_xl, v_xc, v_xp, v_xo, v_xb, v_xs, v_xq, v_xt, v_xn, v_xw⟩, v_u, v_v⟩ n).y).g), .val (.bool ((Us2.std.s_tik ⟨v_h, v_g, ⟨v_xl, v_xc, v_xp, v_xo, v_xb, v_xs, v_xq, v_xt, v_xn, v_xw⟩, v_u, v_v⟩ n).y).d), .val (.int .i64 ((Us2.std.s_tik ⟨v_h, v_g, ⟨v_xl, v_xc, v_xp, v_xo, v_xb, v_xs, v_xq, v_xt, v_xn, v_xw⟩, v_u, v_v⟩ n).y).s)]], [], [Any, Any]⟩ := by
  intro b gv
  have hc : (mayK ⟨v_h, v_g, ⟨v_xl, v_xc, v_xp, v_xo, v_xb, v_xs, v_xq, v_xt, v_xn, v_xw⟩, v_u, v_v⟩ && kbB ⟨v_h, v_g, ⟨v_xl, v_xc, v_xp, v_xo, v_xb, v_xs, v_xq, v_xt, v_xn, v_xw⟩, v_u, v_v⟩) = true := hC
  simp only [Bool.and_eq_true] at hc
  have hmk := may_K (k := ⟨v_h, v_g, ⟨v_xl, v_xc, v_xp, v_xo, v_xb, v_xs, v_xq, v_xt, v_xn, v_xw⟩, v_u, v_v⟩) hc.1
  dsimp only at hmk
  have hmr := may_rtik (x := ⟨v_xl, v_xc, v_xp, v_xo, v_xb, v_xs, v_xq, v_xt, v_xn, v_xw⟩) hc.2 hmk.2.2.2.2.1
  have hlr := lb_rtik (x := ⟨v_xl, v_xc, v_xp, v_xo, v_xb, v_xs, v_xq, v_xt, v_xn, v_xw⟩) hc.2 hmk.2.2.2.2.1
  generalize hF : Us2.std = F at hC ⊢
  generalize hA : Ar.std = A
  generalize hL : Lp _ _ _ = L
  obtain ⟨Z, zq⟩ := z_all
  refine cd_open (lp_mono hL) zq rfl ?_
  repeat' (first
    | (refine z_open zq ?_; try dsimp only)
    | refine cd_seq zq ?_ (lp_mono hL)
    | refine cd_blk zq ?_
    | refine cd_ret ?_
    | refine cd_skip ?_
    | refine cd_exit ?_
    | refine cd_loop ?_
    | refine cd_cond rfl ?_
    | refine cd_condT rfl ?_
    | refine cd_condF rfl ?_
    | (refine Cd.mk ?_; cbv)
    | (refine Ends1.mk ?_; cbv)
    | (refine Fin1.mk ?_; cbv)
    | exact trivial
    | refine And.intro ?_ ?_
    | refine orf fun _ => ?_
    | refine ort fun _ => ?_)
  all_goals
    clear hL zq Z
    subst hF hA
    simp only [Us2.std, Ar.std, eta_LN] at *
    try (grind [stdCmp, b_add, wr, rtikK, rcloK, rbtT, bmB])
theorem ok_rktick : ConOk Try.prog 50 (c_rktick Us2.std) := by
  refine con_of (FsOk.cons ok_rltick2 (FsOk.cons ok_rbtick (FsOk.cons ok_rkclose FsOk.nil rfl) rfl) rfl) Try.func50 rfl rfl fun xs h p hp => ?_
  unfold c_rktick at hp
  split at hp
  · cases hp
    exact ⟨lee_le rfl, fun hC _ => x_rktick _ _ _ _ _ _ _ _ _ _ _ _ _ _ _ hC⟩
  · cases hp
end Go.Proofs.Ytinjeffkhjcbnaa.LkQ
