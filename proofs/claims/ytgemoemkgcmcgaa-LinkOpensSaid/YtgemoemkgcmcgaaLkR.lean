
/-
  links over the reckoner. No condition.
-/
import Derived.Test.YtgemoemkgcmcgaaLiS
namespace Go.Proofs.Ytgemoemkgcmcgaa.LkR
open Go Go.Proofs.Ytgemoemkgcmcgaa.Ry Go.Proofs.Ytgemoemkgcmcgaa.HaR Go.Proofs.Ytgemoemkgcmcgaa.SeR Go.Proofs.Ytgemoemkgcmcgaa.SeS Go.Proofs.Ytgemoemkgcmcgaa.SeT Go.Proofs.Ytgemoemkgcmcgaa.SeU Go.Proofs.Ytgemoemkgcmcgaa.SeL Go.Proofs.Ytgemoemkgcmcgaa.SeV Go.Proofs.Ytgemoemkgcmcgaa.LiR Go.Proofs.Ytgemoemkgcmcgaa.LiQ Go.Proofs.Ytgemoemkgcmcgaa.LiS

open Go.Proofs.Ytgemoemkgcmcgaa.FrR (mayF chF isC smF decF DF)
abbrev c_fdec := FrR.c_decode
theorem ok_fdec : ConOk Try.prog 65 (c_fdec FrR.Rs.std) := FrR.ok_decode
/-- A link. -/
structure KN where
  h : Int
  g : Int
  x : LN
  u : Int
  v : Int
structure KD where
  k : KN
  y : NW
  e : Int
theorem eta_KN (k : KN) : (⟨k.h, k.g, k.x, k.u, k.v⟩ : KN) = k := rfl
def zK : KN := ⟨0, 0, zL, 0, 0⟩
def cpK (k : KN) : KN := ⟨k.h, k.g, cpL k.x, k.u, k.v⟩
def bmB (u v : Int) : Bool := decide (0 ≤ u ∧ u ≤ 5 ∧ 0 ≤ v ∧ v ≤ 1)
def bchB (u v : Int) : Int := if bmB u v = true then 0 else 1
def wtB (w : Int) : Bool := decide (0 ≤ w ∧ w ≤ 2147483647)
def mayK (k : KN) : Bool := decide (1 ≤ k.h ∧ k.h ≤ 64) && wtB k.g && mayL k.x && bmB k.u k.v && (opL k.x || decide (k.u = 0 ∧ k.v = 0))
def chK (k : KN) : Int := if mayK k = true then 0 else 1
structure BT where
  u : Int
  v : Int
  a : Bool
  b : Bool
  e : Int
def btT (u v : Int) : BT := if bmB u v = true then ⟨if u = 5 then 0 else u + 1, if v = 1 then 0 else v + 1, v == 1, u == 5, 0⟩ else ⟨0, 0, false, false, 1⟩
def bhT (u v : Int) : BT := if bmB u v = true then ⟨0, v, false, false, 0⟩ else ⟨0, 0, false, false, 1⟩
def newK (h g n : Int) : KD := if (newL n).e = 0 then (if mayK ⟨h, g, (newL n).x, 0, 0⟩ = true then ⟨⟨h, g, (newL n).x, 0, 0⟩, zN, 0⟩ else ⟨zK, zN, 1⟩) else ⟨zK, zN, (newL n).e⟩
def pushK (k : KN) (p : List Int) (n : Int) : KD := if mayK k = true then (if (pushL k.x p n).e = 0 then ⟨⟨k.h, k.g, (pushL k.x p n).x, k.u, k.v⟩, zN, 0⟩ else ⟨zK, zN, (pushL k.x p n).e⟩) else ⟨zK, zN, 1⟩
def heaK (k : KN) (f : DF) (r : LD) : KD :=
  if r.y.s ≠ 0 ∨ r.y.d = true then ⟨⟨k.h, k.g, r.x, 0, 0⟩, r.y, 0⟩
  else if opL r.x = true ∧ f.s = r.x.c then ⟨⟨k.h, k.g, r.x, 0, k.v⟩, r.y, 0⟩
  else ⟨⟨k.h, k.g, r.x, k.u, k.v⟩, r.y, 0⟩
def hearK (k : KN) (b : List Int) (n : Int) : KD :=
  if mayK k = true ∧ limitB n = true then
    if (decF b).e = 0 then heaK k (decF b) (hearL k.x (decF b).k (decF b).s (decF b).q (decF b).a (decF b).p n) else ⟨cpK k, zN, 0⟩
  else ⟨zK, zN, 1⟩
def cloK (k : KN) (n : Int) : KD := if mayK k = true ∧ limitB n = true then ⟨⟨k.h, k.g, (cloL k.x n).x, 0, 0⟩, (cloL k.x n).y, 0⟩ else ⟨zK, zN, 1⟩
def tikK (k : KN) (n : Int) : KD :=
  if mayK k = true ∧ limitB n = true then
    if opL (tikL k.x n).x = true then
      if k.u = 5 then cloK ⟨k.h, k.g, (tikL k.x n).x, k.u, k.v⟩ n
      else ⟨⟨k.h, k.g, (tikL k.x n).x, k.u + 1, if k.v = 1 then 0 else k.v + 1⟩, ⟨if k.v = 1 then (tikL k.x n).y.f ++ [[.int 5, .int (tikL k.x n).x.c, .int 0, .int (tikL k.x n).x.n, .ints []]] else (tikL k.x n).y.f, (tikL k.x n).y.g, (tikL k.x n).y.d, (tikL k.x n).y.s⟩, 0⟩
    else ⟨⟨k.h, k.g, (tikL k.x n).x, k.u, k.v⟩, (tikL k.x n).y, 0⟩
  else ⟨zK, zN, 1⟩
def fluK (k : KN) : KD := if mayK k = true then ⟨⟨k.h, k.g, (fluL k.x).x, k.u, k.v⟩, (fluL k.x).y, 0⟩ else ⟨zK, zN, 1⟩
def weiK (k : KN) (w n : Int) : KD :=
  if mayK k = true ∧ wtB w = true ∧ limitB n = true then
    if w = k.g then ⟨cpK k, zN, 0⟩ else ⟨⟨k.h, w, (cloL k.x n).x, 0, 0⟩, (cloL k.x n).y, 0⟩
  else ⟨zK, zN, 1⟩
def smK (a b : KN) : Bool := decide (a.h = b.h ∧ a.g = b.g) && decide (a.u = b.u ∧ a.v = b.v) && smL a.x b.x
def kbB (k : KN) : Bool := lbB k.x
def kb2 (a b : KN) : Bool := byS a.x.q && byS b.x.q
theorem kb_ok {k : KN} (h : kbB k = true) : lbB k.x = true := h
theorem may_K {k : KN} (h : mayK k = true) : 1 ≤ k.h ∧ k.h ≤ 64 ∧ 0 ≤ k.g ∧ k.g ≤ 2147483647 ∧ mayL k.x = true ∧ 0 ≤ k.u ∧ k.u ≤ 5 ∧ 0 ≤ k.v ∧ k.v ≤ 1 ∧ (opL k.x = true ∨ k.u = 0 ∧ k.v = 0) := by
  simp only [mayK, wtB, bmB, Bool.and_eq_true, Bool.or_eq_true, decide_eq_true_eq] at h
  obtain ⟨⟨⟨⟨h1, h2⟩, h3⟩, h4⟩, h5⟩ := h
  exact ⟨h1.1, h1.2, h2.1, h2.2, h3, h4.1, h4.2.1, h4.2.2.1, h4.2.2.2, h5⟩
theorem lb_tik {x : LN} {n : Int} (hb : byS x.q = true) (hm : mayL x = true) (hl : limitB n = true) : lbB (tikL x n).x = true ∧ (tikL x n).e = 0 ∧ (tikL x n).y.f.length ≤ 100000 := by
  have h := tik_same hb hm hl
  exact ⟨h.b1, h.e, (of_decide_eq_true (Bool.and_eq_true _ _ ▸ (show (byF (tikL x n).y.f && byS (tikL x n).y.g) = true from h.n1)).1).1⟩
theorem tm1 (v : Int) (h0 : 0 ≤ v) (h1 : v ≤ 1) : stdBin .rem .i64 (stdBin .add .i64 v 1) 2 = (if v = 1 then 0 else v + 1) := by
  have : v = 0 ∨ v = 1 := by omega
  rcases this with rfl | rfl <;> rfl
theorem tm5 (u : Int) (h0 : 0 ≤ u) (h1 : u ≤ 5) : stdBin .rem .i64 (stdBin .add .i64 u 1) 6 = (if u = 5 then 0 else u + 1) := by
  have : u = 0 ∨ u = 1 ∨ u = 2 ∨ u = 3 ∨ u = 4 ∨ u = 5 := by omega
  rcases this with rfl | rfl | rfl | rfl | rfl | rfl <;> rfl
/-- A line that ticked, or ended, may be. -/
theorem may_tik {x : LN} {n : Int} (hb : byS x.q = true) (hm : mayL x = true) (hl : limitB n = true) : mayL (tikL x n).x = true := by
  have h4 := may_L hm
  unfold tikL
  rw [if_pos ⟨hm, hl⟩]
  by_cases g : opL x = true
  · rw [if_pos g]
    have h2 := (two_tick ⟨h4.2.1, h4.2.1, rfl, rfl, rfl, rfl, hb, hb⟩).2.2.2.2.2.may
    simp only [mayL, sndL, Bool.and_eq_true, Bool.or_eq_true]
    exact ⟨⟨⟨h4.1, h2⟩, h4.2.2.1⟩, .inl g⟩
  · have g : opL x = false := by simpa using g
    rw [if_neg (by rw [g]; decide)]
    rw [← shut hm g]
    exact hm

structure Ts where
  t_may : KN → Bool
  t_ch : KN → Int
  t_wt : Int → Bool
  t_bm : Int → Int → Bool
  t_bch : Int → Int → Int
  t_bt : Int → Int → BT
  t_bh : Int → Int → BT
  t_new : Int → Int → Int → KD
  t_push : KN → List Int → Int → KD
  t_hear : KN → List Int → Int → KD
  t_tik : KN → Int → KD
  t_flu : KN → KD
  t_clo : KN → Int → KD
  t_wei : KN → Int → Int → KD
  t_sm : KN → KN → Bool
  t_kb : KN → Bool
  t_kb2 : KN → KN → Bool
  t_cp : KN → KN
  t_op : KN → Bool
  t_lim : Int → Bool
  t_okQ : List E → Bool
  t_ltk : LN → Int → LD
  t_lb : LN → Bool
def Ts.std : Ts := ⟨mayK, chK, wtB, bmB, bchB, btT, bhT, newK, pushK, hearK, tikK, fluK, cloK, weiK, smK, kbB, kb2, cpK, fun k => opL k.x, limitB, okQ, tikL, lbB⟩

def c_bcheck (F : Ts) : Con := fun xs h => match xs, h with
  | [.agg [.val (.int .i64 b_u), .val (.int .i64 b_v)]], [] => some ⟨True, .sa (I (F.t_bch b_u b_v)), [], [Any]⟩
  | _, _ => none
set_option maxHeartbeats 2000000 in
set_option maxRecDepth 100000 in
theorem x_bcheck (b_u : Int) (b_v : Int) : Does [] Try.f124 [.agg [.val (.int .i64 b_u), .val (.int .i64 b_v)]] [] ⟨True, .sa (I (Ts.std.t_bch b_u b_v)), [], [Any]⟩ := by
  intro b gv
  generalize hF : Ts.std = F
  generalize hA : Ar.std = A
  generalize hL : Lp _ _ _ = L
  obtain ⟨Z, zq⟩ := z_all
  refine cd_open (lp_mono hL) zq rfl ?_
  repeat' (first
    | (refine z_open zq ?_; try dsimp only)
    | refine cd_seq zq ?_ (lp_mono hL)
    | refine cd_blk zq ?_
    | refine cd_ret ?_
    | refine cd_skip ?_
    | refine cd_exit ?_
    | refine cd_loop ?_
    | refine cd_cond rfl ?_
    | refine cd_condT rfl ?_
    | refine cd_condF rfl ?_
    | (refine Cd.mk ?_; cbv)
    | (refine Ends1.mk ?_; cbv)
    | (refine Fin1.mk ?_; cbv)
    | exact trivial
    | refine And.intro ?_ ?_
    | refine orf fun _ => ?_
    | refine ort fun _ => ?_)
  all_goals
    clear hL zq Z
    subst hF hA
    simp only [Ts.std, Ar.std] at *
    try (grind [stdCmp, b_add, wr, bchB, bmB])
theorem ok_bcheck : ConOk Try.prog 124 (c_bcheck Ts.std) := by
  refine con_of FsOk.nil Try.func124 rfl rfl fun xs h p hp => ?_
  unfold c_bcheck at hp
  split at hp
  · cases hp
    exact ⟨lee_le rfl, fun _ _ => x_bcheck _ _⟩
  · cases hp

def c_bheard (F : Ts) : Con := fun xs h => match xs, h with
  | [.agg [.val (.int .i64 b_u), .val (.int .i64 b_v)]], [] => some ⟨True, .tup [.agg [.val (.int .i64 (F.t_bh b_u b_v).u), .val (.int .i64 (F.t_bh b_u b_v).v)], I (F.t_bh b_u b_v).e], [], [Any]⟩
  | _, _ => none
set_option maxHeartbeats 2000000 in
set_option maxRecDepth 100000 in
theorem x_bheard (b_u : Int) (b_v : Int) : Does [(124, c_bcheck Ts.std)] Try.f67 [.agg [.val (.int .i64 b_u), .val (.int .i64 b_v)]] [] ⟨True, .tup [.agg [.val (.int .i64 (Ts.std.t_bh b_u b_v).u), .val (.int .i64 (Ts.std.t_bh b_u b_v).v)], I (Ts.std.t_bh b_u b_v).e], [], [Any]⟩ := by
  intro b gv
  generalize hF : Ts.std = F
  generalize hA : Ar.std = A
  generalize hL : Lp _ _ _ = L
  obtain ⟨Z, zq⟩ := z_all
  refine cd_open (lp_mono hL) zq rfl ?_
  repeat' (first
    | (refine z_open zq ?_; try dsimp only)
    | refine cd_seq zq ?_ (lp_mono hL)
    | refine cd_blk zq ?_
    | refine cd_ret ?_
    | refine cd_skip ?_
    | refine cd_exit ?_
    | refine cd_loop ?_
    | refine cd_cond rfl ?_
    | refine cd_condT rfl ?_
    | refine cd_condF rfl ?_
    | (refine Cd.mk ?_; cbv)
    | (refine Ends1.mk ?_; cbv)
    | (refine Fin1.mk ?_; cbv)
    | exact trivial
    | refine And.intro ?_ ?_
    | refine orf fun _ => ?_
    | refine ort fun _ => ?_)
  all_goals
    clear hL zq Z
    subst hF hA
    simp only [Ts.std, Ar.std] at *
    try (grind [stdCmp, b_add, wr, bhT, bchB])
theorem ok_bheard : ConOk Try.prog 67 (c_bheard Ts.std) := by
  refine con_of (FsOk.cons ok_bcheck FsOk.nil rfl) Try.func67 rfl rfl fun xs h p hp => ?_
  unfold c_bheard at hp
  split at hp
  · cases hp
    exact ⟨lee_le rfl, fun _ _ => x_bheard _ _⟩
  · cases hp

def c_btick (F : Ts) : Con := fun xs h => match xs, h with
  | [.agg [.val (.int .i64 b_u), .val (.int .i64 b_v)]], [] => some ⟨True, .tup [.agg [.val (.int .i64 (F.t_bt b_u b_v).u), .val (.int .i64 (F.t_bt b_u b_v).v)], B (F.t_bt b_u b_v).a, B (F.t_bt b_u b_v).b, I (F.t_bt b_u b_v).e], [], [Any]⟩
  | _, _ => none
set_option maxHeartbeats 2000000 in
set_option maxRecDepth 100000 in
theorem x_btick (b_u : Int) (b_v : Int) : Does [(124, c_bcheck Ts.std)] Try.f63 [.agg [.val (.int .i64 b_u), .val (.int .i64 b_v)]] [] ⟨True, .tup [.agg [.val (.int .i64 (Ts.std.t_bt b_u b_v).u), .val (.int .i64 (Ts.std.t_bt b_u b_v).v)], B (Ts.std.t_bt b_u b_v).a, B (Ts.std.t_bt b_u b_v).b, I (Ts.std.t_bt b_u b_v).e], [], [Any]⟩ := by
  intro b gv
  have e1 := tm1 b_v
  have e5 := tm5 b_u
  generalize hF : Ts.std = F
  generalize hA : Ar.std = A
  generalize hL : Lp _ _ _ = L
  obtain ⟨Z, zq⟩ := z_all
  refine cd_open (lp_mono hL) zq rfl ?_
  repeat' (first
    | (refine z_open zq ?_; try dsimp only)
    | refine cd_seq zq ?_ (lp_mono hL)
    | refine cd_blk zq ?_
    | refine cd_ret ?_
    | refine cd_skip ?_
    | refine cd_exit ?_
    | refine cd_loop ?_
    | refine cd_cond rfl ?_
    | refine cd_condT rfl ?_
    | refine cd_condF rfl ?_
    | (refine Cd.mk ?_; cbv)
    | (refine Ends1.mk ?_; cbv)
    | (refine Fin1.mk ?_; cbv)
    | exact trivial
    | refine And.intro ?_ ?_
    | refine orf fun _ => ?_
    | refine ort fun _ => ?_)
  all_goals
    clear hL zq Z
    subst hF hA
    simp only [Ts.std, Ar.std] at *
    try (grind [stdCmp, b_add, wr, btT, bchB, bmB])
theorem ok_btick : ConOk Try.prog 63 (c_btick Ts.std) := by
  refine con_of (FsOk.cons ok_bcheck FsOk.nil rfl) Try.func63 rfl rfl fun xs h p hp => ?_
  unfold c_btick at hp
  split at hp
  · cases hp
    exact ⟨lee_le rfl, fun _ _ => x_btick _ _⟩
  · cases hp

def c_kweight (F : Ts) : Con := fun xs h => match xs, h with
  | [.one (.val (.int .i64 w))], [] => some ⟨True, .sa (B (F.t_wt w)), [], [Any]⟩
  | _, _ => none
set_option maxHeartbeats 2000000 in
set_option maxRecDepth 100000 in
theorem x_kweight (w : Int) : Does [] Try.f123 [.one (.val (.int .i64 w))] [] ⟨True, .sa (B (Ts.std.t_wt w)), [], [Any]⟩ := by
  intro b gv
  generalize hF : Ts.std = F
  generalize hA : Ar.std = A
  generalize hL : Lp _ _ _ = L
  obtain ⟨Z, zq⟩ := z_all
  refine cd_open (lp_mono hL) zq rfl ?_
  repeat' (first
    | (refine z_open zq ?_; try dsimp only)
    | refine cd_seq zq ?_ (lp_mono hL)
    | refine cd_blk zq ?_
    | refine cd_ret ?_
    | refine cd_skip ?_
    | refine cd_exit ?_
    | refine cd_loop ?_
    | refine cd_cond rfl ?_
    | refine cd_condT rfl ?_
    | refine cd_condF rfl ?_
    | (refine Cd.mk ?_; cbv)
    | (refine Ends1.mk ?_; cbv)
    | (refine Fin1.mk ?_; cbv)
    | exact trivial
    | refine And.intro ?_ ?_
    | refine orf fun _ => ?_
    | refine ort fun _ => ?_)
  all_goals
    clear hL zq Z
    subst hF hA
    simp only [Ts.std, Ar.std] at *
    try (grind [stdCmp, b_add, wr, wtB])
theorem ok_kweight : ConOk Try.prog 123 (c_kweight Ts.std) := by
  refine con_of FsOk.nil Try.func123 rfl rfl fun xs h p hp => ?_
  unfold c_kweight at hp
  split at hp
  · cases hp
    exact ⟨lee_le rfl, fun _ _ => x_kweight _⟩
  · cases hp

def c_klimit (F : Ts) : Con := fun xs h => match xs, h with
  | [.one (.val (.int .i64 n))], [] => some ⟨True, .sa (B (F.t_lim n)), [], [Any]⟩
  | _, _ => none
set_option maxHeartbeats 2000000 in
set_option maxRecDepth 100000 in
theorem x_klimit (n : Int) : Does [] Try.f61 [.one (.val (.int .i64 n))] [] ⟨True, .sa (B (Ts.std.t_lim n)), [], [Any]⟩ := by
  intro b gv
  generalize hF : Ts.std = F
  generalize hA : Ar.std = A
  generalize hL : Lp _ _ _ = L
  obtain ⟨Z, zq⟩ := z_all
  refine cd_open (lp_mono hL) zq rfl ?_
  repeat' (first
    | (refine z_open zq ?_; try dsimp only)
    | refine cd_seq zq ?_ (lp_mono hL)
    | refine cd_blk zq ?_
    | refine cd_ret ?_
    | refine cd_skip ?_
    | refine cd_exit ?_
    | refine cd_loop ?_
    | refine cd_cond rfl ?_
    | refine cd_condT rfl ?_
    | refine cd_condF rfl ?_
    | (refine Cd.mk ?_; cbv)
    | (refine Ends1.mk ?_; cbv)
    | (refine Fin1.mk ?_; cbv)
    | exact trivial
    | refine And.intro ?_ ?_
    | refine orf fun _ => ?_
    | refine ort fun _ => ?_)
  all_goals
    clear hL zq Z
    subst hF hA
    simp only [Ts.std, Ar.std] at *
    try (grind [stdCmp, b_add, wr, limitB])
theorem ok_klimit : ConOk Try.prog 61 (c_klimit Ts.std) := by
  refine con_of FsOk.nil Try.func61 rfl rfl fun xs h p hp => ?_
  unfold c_klimit at hp
  split at hp
  · cases hp
    exact ⟨lee_le rfl, fun _ _ => x_klimit _⟩
  · cases hp

def c_kopen (F : Ts) : Con := fun xs h => match xs, h with
  | [.agg [.val (.int .i64 v_h), .val (.int .i64 v_g), .val (.int .i64 v_xl), .val (.int .i64 v_xc), .val (.int .i64 v_xp), .val (.bool v_xo), .val (.int .i64 v_xb), .val (.int .i64 v_xs), .sl none (.recs (.ints .u8 .nil) v_xq), .val (.int .i64 v_xt), .val (.int .i64 v_xn), .val (.bool v_xw), .val (.int .i64 v_u), .val (.int .i64 v_v)]], [] => some ⟨True, .sa (B (F.t_op ⟨v_h, v_g, ⟨v_xl, v_xc, v_xp, v_xo, v_xb, v_xs, v_xq, v_xt, v_xn, v_xw⟩, v_u, v_v⟩)), [], [Any]⟩
  | _, _ => none
set_option maxHeartbeats 2000000 in
set_option maxRecDepth 100000 in
theorem x_kopen (v_h : Int) (v_g : Int) (v_xl : Int) (v_xc : Int) (v_xp : Int) (v_xo : Bool) (v_xb : Int) (v_xs : Int) (v_xq : List E) (v_xt : Int) (v_xn : Int) (v_xw : Bool) (v_u : Int) (v_v : Int) : Does [] Try.f62 [.agg [.val (.int .i64 v_h), .val (.int .i64 v_g), .val (.int .i64 v_xl), .val (.int .i64 v_xc), .val (.int .i64 v_xp), .val (.bool v_xo), .val (.int .i64 v_xb), .val (.int .i64 v_xs), .sl none (.recs (.ints .u8 .nil) v_xq), .val (.int .i64 v_xt), .val (.int .i64 v_xn), .val (.bool v_xw), .val (.int .i64 v_u), .val (.int .i64 v_v)]] [] ⟨True, .sa (B (Ts.std.t_op ⟨v_h, v_g, ⟨v_xl, v_xc, v_xp, v_xo, v_xb, v_xs, v_xq, v_xt, v_xn, v_xw⟩, v_u, v_v⟩)), [], [Any]⟩ := by
  intro b gv
  generalize hF : Ts.std = F
  generalize hA : Ar.std = A
  generalize hL : Lp _ _ _ = L
  obtain ⟨Z, zq⟩ := z_all
  refine cd_open (lp_mono hL) zq rfl ?_
  repeat' (first
    | (refine z_open zq ?_; try dsimp only)
    | refine cd_seq zq ?_ (lp_mono hL)
    | refine cd_blk zq ?_
    | refine cd_ret ?_
    | refine cd_skip ?_
    | refine cd_exit ?_
    | refine cd_loop ?_
    | refine cd_cond rfl ?_
    | refine cd_condT rfl ?_
    | refine cd_condF rfl ?_
    | (refine Cd.mk ?_; cbv)
    | (refine Ends1.mk ?_; cbv)
    | (refine Fin1.mk ?_; cbv)
    | exact trivial
    | refine And.intro ?_ ?_
    | refine orf fun _ => ?_
    | refine ort fun _ => ?_)
  all_goals
    clear hL zq Z
    subst hF hA
    simp only [Ts.std, Ar.std] at *
    try (grind [stdCmp, b_add, wr, opL])
theorem ok_kopen : ConOk Try.prog 62 (c_kopen Ts.std) := by
  refine con_of FsOk.nil Try.func62 rfl rfl fun xs h p hp => ?_
  unfold c_kopen at hp
  split at hp
  · cases hp
    exact ⟨lee_le rfl, fun _ _ => x_kopen _ _ _ _ _ _ _ _ _ _ _ _ _ _⟩
  · cases hp

def c_flink (F : Ts) : Con := fun xs h => match xs, h with
  | [.agg [.val (.int .i64 v_h), .val (.int .i64 v_g), .val (.int .i64 v_xl), .val (.int .i64 v_xc), .val (.int .i64 v_xp), .val (.bool v_xo), .val (.int .i64 v_xb), .val (.int .i64 v_xs), .sl none (.recs (.ints .u8 .nil) v_xq), .val (.int .i64 v_xt), .val (.int .i64 v_xn), .val (.bool v_xw), .val (.int .i64 v_u), .val (.int .i64 v_v)]], [] => some ⟨F.t_okQ v_xq = true, .sa (.agg [.val (.int .i64 (F.t_cp ⟨v_h, v_g, ⟨v_xl, v_xc, v_xp, v_xo, v_xb, v_xs, v_xq, v_xt, v_xn, v_xw⟩, v_u, v_v⟩).h), .val (.int .i64 (F.t_cp ⟨v_h, v_g, ⟨v_xl, v_xc, v_xp, v_xo, v_xb, v_xs, v_xq, v_xt, v_xn, v_xw⟩, v_u, v_v⟩).g), .val (.int .i64 (F.t_cp ⟨v_h, v_g, ⟨v_xl, v_xc, v_xp, v_xo, v_xb, v_xs, v_xq, v_xt, v_xn, v_xw⟩, v_u, v_v⟩).x.l), .val (.int .i64 (F.t_cp ⟨v_h, v_g, ⟨v_xl, v_xc, v_xp, v_xo, v_xb, v_xs, v_xq, v_xt, v_xn, v_xw⟩, v_u, v_v⟩).x.c), .val (.int .i64 (F.t_cp ⟨v_h, v_g, ⟨v_xl, v_xc, v_xp, v_xo, v_xb, v_xs, v_xq, v_xt, v_xn, v_xw⟩, v_u, v_v⟩).x.p), .val (.bool (F.t_cp ⟨v_h, v_g, ⟨v_xl, v_xc, v_xp, v_xo, v_xb, v_xs, v_xq, v_xt, v_xn, v_xw⟩, v_u, v_v⟩).x.o), .val (.int .i64 (F.t_cp ⟨v_h, v_g, ⟨v_xl, v_xc, v_xp, v_xo, v_xb, v_xs, v_xq, v_xt, v_xn, v_xw⟩, v_u, v_v⟩).x.b), .val (.int .i64 (F.t_cp ⟨v_h, v_g, ⟨v_xl, v_xc, v_xp, v_xo, v_xb, v_xs, v_xq, v_xt, v_xn, v_xw⟩, v_u, v_v⟩).x.s), .sl none (.recs (.ints .u8 .nil) (F.t_cp ⟨v_h, v_g, ⟨v_xl, v_xc, v_xp, v_xo, v_xb, v_xs, v_xq, v_xt, v_xn, v_xw⟩, v_u, v_v⟩).x.q), .val (.int .i64 (F.t_cp ⟨v_h, v_g, ⟨v_xl, v_xc, v_xp, v_xo, v_xb, v_xs, v_xq, v_xt, v_xn, v_xw⟩, v_u, v_v⟩).x.t), .val (.int .i64 (F.t_cp ⟨v_h, v_g, ⟨v_xl, v_xc, v_xp, v_xo, v_xb, v_xs, v_xq, v_xt, v_xn, v_xw⟩, v_u, v_v⟩).x.n), .val (.bool (F.t_cp ⟨v_h, v_g, ⟨v_xl, v_xc, v_xp, v_xo, v_xb, v_xs, v_xq, v_xt, v_xn, v_xw⟩, v_u, v_v⟩).x.w), .val (.int .i64 (F.t_cp ⟨v_h, v_g, ⟨v_xl, v_xc, v_xp, v_xo, v_xb, v_xs, v_xq, v_xt, v_xn, v_xw⟩, v_u, v_v⟩).u), .val (.int .i64 (F.t_cp ⟨v_h, v_g, ⟨v_xl, v_xc, v_xp, v_xo, v_xb, v_xs, v_xq, v_xt, v_xn, v_xw⟩, v_u, v_v⟩).v)]), [], [Any]⟩
  | _, _ => none
set_option maxHeartbeats 2000000 in
set_option maxRecDepth 100000 in
theorem x_flink (v_h : Int) (v_g : Int) (v_xl : Int) (v_xc : Int) (v_xp : Int) (v_xo : Bool) (v_xb : Int) (v_xs : Int) (v_xq : List E) (v_xt : Int) (v_xn : Int) (v_xw : Bool) (v_u : Int) (v_v : Int) (hC : Ts.std.t_okQ v_xq = true) : Does [(127, c_lists SeR.Fs.std)] Try.f66 [.agg [.val (.int .i64 v_h), .val (.int .i64 v_g), .val (.int .i64 v_xl), .val (.int .i64 v_xc), .val (.int .i64 v_xp), .val (.bool v_xo), .val (.int .i64 v_xb), .val (.int .i64 v_xs), .sl none (.recs (.ints .u8 .nil) v_xq), .val (.int .i64 v_xt), .val (.int .i64 v_xn), .val (.bool v_xw), .val (.int .i64 v_u), .val (.int .i64 v_v)]] [] ⟨Ts.std.t_okQ v_xq = true, .sa (.agg [.val (.int .i64 (Ts.std.t_cp ⟨v_h, v_g, ⟨v_xl, v_xc, v_xp, v_xo, v_xb, v_xs, v_xq, v_xt, v_xn, v_xw⟩, v_u, v_v⟩).h), .val (.int .i64 (Ts.std.t_cp ⟨v_h, v_g, ⟨v_xl, v_xc, v_xp, v_xo, v_xb, v_xs, v_xq, v_xt, v_xn, v_xw⟩, v_u, v_v⟩).g), .val (.int .i64 (Ts.std.t_cp ⟨v_h, v_g, ⟨v_xl, v_xc, v_xp, v_xo, v_xb, v_xs, v_xq, v_xt, v_xn, v_xw⟩, v_u, v_v⟩).x.l), .val (.int .i64 (Ts.std.t_cp ⟨v_h, v_g, ⟨v_xl, v_xc, v_xp, v_xo, v_xb, v_xs, v_xq, v_xt, v_xn, v_xw⟩, v_u, v_v⟩).x.c), .val (.int .i64 (Ts.std.t_cp ⟨v_h, v_g, ⟨v_xl, v_xc, v_xp, v_xo, v_xb, v_xs, v_xq, v_xt, v_xn, v_xw⟩, v_u, v_v⟩).x.p), .val (.bool (Ts.std.t_cp ⟨v_h, v_g, ⟨v_xl, v_xc, v_xp, v_xo, v_xb, v_xs, v_xq, v_xt, v_xn, v_xw⟩, v_u, v_v⟩).x.o), .val (.int .i64 (Ts.std.t_cp ⟨v_h, v_g, ⟨v_xl, v_xc, v_xp, v_xo, v_xb, v_xs, v_xq, v_xt, v_xn, v_xw⟩, v_u, v_v⟩).x.b), .val (.int .i64 (Ts.std.t_cp ⟨v_h, v_g, ⟨v_xl, v_xc, v_xp, v_xo, v_xb, v_xs, v_xq, v_xt, v_xn, v_xw⟩, v_u, v_v⟩).x.s), .sl none (.recs (.ints .u8 .nil) (Ts.std.t_cp ⟨v_h, v_g, ⟨v_xl, v_xc, v_xp, v_xo, v_xb, v_xs, v_xq, v_xt, v_xn, v_xw⟩, v_u, v_v⟩).x.q), .val (.int .i64 (Ts.std.t_cp ⟨v_h, v_g, ⟨v_xl, v_xc, v_xp, v_xo, v_xb, v_xs, v_xq, v_xt, v_xn, v_xw⟩, v_u, v_v⟩).x.t), .val (.int .i64 (Ts.std.t_cp ⟨v_h, v_g, ⟨v_xl, v_xc, v_xp, v_xo, v_xb, v_xs, v_xq, v_xt, v_xn, v_xw⟩, v_u, v_v⟩).x.n), .val (.bool (Ts.std.t_cp ⟨v_h, v_g, ⟨v_xl, v_xc, v_xp, v_xo, v_xb, v_xs, v_xq, v_xt, v_xn, v_xw⟩, v_u, v_v⟩).x.w), .val (.int .i64 (Ts.std.t_cp ⟨v_h, v_g, ⟨v_xl, v_xc, v_xp, v_xo, v_xb, v_xs, v_xq, v_xt, v_xn, v_xw⟩, v_u, v_v⟩).u), .val (.int .i64 (Ts.std.t_cp ⟨v_h, v_g, ⟨v_xl, v_xc, v_xp, v_xo, v_xb, v_xs, v_xq, v_xt, v_xn, v_xw⟩, v_u, v_v⟩).v)]), [], [Any]⟩ := by
  intro b gv
  have hfs := (FsOk.cons ok_lists FsOk.nil rfl)
  generalize hF : Ts.std = F at hC hfs ⊢
  generalize hG0 : SeR.Fs.std = G0 at hC hfs ⊢
  generalize hA : Ar.std = A
  generalize hL : Lp _ _ _ = L
  obtain ⟨Z, zq⟩ := z_all
  refine cd_open (lp_mono hL) zq rfl ?_
  repeat' (first
    | (refine z_open zq ?_; try dsimp only)
    | refine cd_seq zq ?_ (lp_mono hL)
    | refine cd_blk zq ?_
    | refine cd_ret ?_
    | refine cd_skip ?_
    | refine cd_exit ?_
    | refine cd_loop ?_
    | refine cd_cond rfl ?_
    | refine cd_condT rfl ?_
    | refine cd_condF rfl ?_
    | (refine Cd.mk ?_; cbv)
    | (refine Ends1.mk ?_; cbv)
    | (refine Fin1.mk ?_; cbv)
    | exact trivial
    | refine And.intro ?_ ?_
    | refine orf fun _ => ?_
    | refine ort fun _ => ?_)
  all_goals
    clear hL zq Z hfs
    subst hF hA hG0
    simp only [Ts.std, SeR.Fs.std] at *
    try (grind [stdCmp, b_add, wr, cpK, cpL])
theorem ok_flink : ConOk Try.prog 66 (c_flink Ts.std) := by
  refine con_of (FsOk.cons ok_lists FsOk.nil rfl) Try.func66 rfl rfl fun xs h p hp => ?_
  unfold c_flink at hp
  split at hp
  · cases hp
    exact ⟨lee_le rfl, fun hC _ => x_flink _ _ _ _ _ _ _ _ _ _ _ _ _ _ hC⟩
  · cases hp

def c_kcheck (F : Ts) : Con := fun xs h => match xs, h with
  | [.agg [.val (.int .i64 v_h), .val (.int .i64 v_g), .val (.int .i64 v_xl), .val (.int .i64 v_xc), .val (.int .i64 v_xp), .val (.bool v_xo), .val (.int .i64 v_xb), .val (.int .i64 v_xs), .sl none (.recs (.ints .u8 .nil) v_xq), .val (.int .i64 v_xt), .val (.int .i64 v_xn), .val (.bool v_xw), .val (.int .i64 v_u), .val (.int .i64 v_v)]], [] => some ⟨F.t_kb ⟨v_h, v_g, ⟨v_xl, v_xc, v_xp, v_xo, v_xb, v_xs, v_xq, v_xt, v_xn, v_xw⟩, v_u, v_v⟩ = true, .sa (I (F.t_ch ⟨v_h, v_g, ⟨v_xl, v_xc, v_xp, v_xo, v_xb, v_xs, v_xq, v_xt, v_xn, v_xw⟩, v_u, v_v⟩)), [], [Any]⟩
  | _, _ => none
set_option maxHeartbeats 2000000 in
set_option maxRecDepth 100000 in
theorem x_kcheck (v_h : Int) (v_g : Int) (v_xl : Int) (v_xc : Int) (v_xp : Int) (v_xo : Bool) (v_xb : Int) (v_xs : Int) (v_xq : List E) (v_xt : Int) (v_xn : Int) (v_xw : Bool) (v_u : Int) (v_v : Int) (hC : Ts.std.t_kb ⟨v_h, v_g, ⟨v_xl, v_xc, v_xp, v_xo, v_xb, v_xs, v_xq, v_xt, v_xn, v_xw⟩, v_u, v_v⟩ = true) : Does [(123, c_kweight Ts.std), (109, c_lcheck Ks.std), (124, c_bcheck Ts.std), (62, c_kopen Ts.std)] Try.f60 [.agg [.val (.int .i64 v_h), .val (.int .i64 v_g), .val (.int .i64 v_xl), .val (.int .i64 v_xc), .val (.int .i64 v_xp), .val (.bool v_xo), .val (.int .i64 v_xb), .val (.int .i64 v_xs), .sl none (.recs (.ints .u8 .nil) v_xq), .val (.int .i64 v_xt), .val (.int .i64 v_xn), .val (.bool v_xw), .val (.int .i64 v_u), .val (.int .i64 v_v)]] [] ⟨Ts.std.t_kb ⟨v_h, v_g, ⟨v_xl, v_xc, v_xp, v_xo, v_xb, v_xs, v_xq, v_xt, v_xn, v_xw⟩, v_u, v_v⟩ = true, .sa (I (Ts.std.t_ch ⟨v_h, v_g, ⟨v_xl, v_xc, v_xp, v_xo, v_xb, v_xs, v_xq, v_xt, v_xn, v_xw⟩, v_u, v_v⟩)), [], [Any]⟩ := by
  intro b gv
  have hkb : lbB ⟨v_xl, v_xc, v_xp, v_xo, v_xb, v_xs, v_xq, v_xt, v_xn, v_xw⟩ = true := hC
  have hbs : byS v_xq = true := hkb
  have hfs := (FsOk.cons ok_kweight (FsOk.cons ok_lcheck (FsOk.cons ok_bcheck (FsOk.cons ok_kopen FsOk.nil rfl) rfl) rfl) rfl)
  generalize hF : Ts.std = F at hC hfs ⊢
  generalize hG0 : Ks.std = G0 at hC hfs ⊢
  generalize hA : Ar.std = A
  generalize hL : Lp _ _ _ = L
  obtain ⟨Z, zq⟩ := z_all
  refine cd_open (lp_mono hL) zq rfl ?_
  repeat' (first
    | (refine z_open zq ?_; try dsimp only)
    | refine cd_seq zq ?_ (lp_mono hL)
    | refine cd_blk zq ?_
    | refine cd_ret ?_
    | refine cd_skip ?_
    | refine cd_exit ?_
    | refine cd_loop ?_
    | refine cd_cond rfl ?_
    | refine cd_condT rfl ?_
    | refine cd_condF rfl ?_
    | (refine Cd.mk ?_; cbv)
    | (refine Ends1.mk ?_; cbv)
    | (refine Fin1.mk ?_; cbv)
    | exact trivial
    | refine And.intro ?_ ?_
    | refine orf fun _ => ?_
    | refine ort fun _ => ?_)
  all_goals
    clear hL zq Z hfs
    subst hF hA hG0
    simp only [Ts.std, Ks.std, Ar.std] at *
    try (grind [stdCmp, b_add, wr, chK, mayK, chL, bchB, wtB])
theorem ok_kcheck : ConOk Try.prog 60 (c_kcheck Ts.std) := by
  refine con_of (FsOk.cons ok_kweight (FsOk.cons ok_lcheck (FsOk.cons ok_bcheck (FsOk.cons ok_kopen FsOk.nil rfl) rfl) rfl) rfl) Try.func60 rfl rfl fun xs h p hp => ?_
  unfold c_kcheck at hp
  split at hp
  · cases hp
    exact ⟨lee_le rfl, fun hC _ => x_kcheck _ _ _ _ _ _ _ _ _ _ _ _ _ _ hC⟩
  · cases hp

def c_ksame (F : Ts) : Con := fun xs h => match xs, h with
  | [.agg [.val (.int .i64 v_h), .val (.int .i64 v_g), .val (.int .i64 v_xl), .val (.int .i64 v_xc), .val (.int .i64 v_xp), .val (.bool v_xo), .val (.int .i64 v_xb), .val (.int .i64 v_xs), .sl none (.recs (.ints .u8 .nil) v_xq), .val (.int .i64 v_xt), .val (.int .i64 v_xn), .val (.bool v_xw), .val (.int .i64 v_u), .val (.int .i64 v_v)], .agg [.val (.int .i64 y_h), .val (.int .i64 y_g), .val (.int .i64 y_xl), .val (.int .i64 y_xc), .val (.int .i64 y_xp), .val (.bool y_xo), .val (.int .i64 y_xb), .val (.int .i64 y_xs), .sl none (.recs (.ints .u8 .nil) y_xq), .val (.int .i64 y_xt), .val (.int .i64 y_xn), .val (.bool y_xw), .val (.int .i64 y_u), .val (.int .i64 y_v)]], [] => some ⟨F.t_kb2 ⟨v_h, v_g, ⟨v_xl, v_xc, v_xp, v_xo, v_xb, v_xs, v_xq, v_xt, v_xn, v_xw⟩, v_u, v_v⟩ ⟨y_h, y_g, ⟨y_xl, y_xc, y_xp, y_xo, y_xb, y_xs, y_xq, y_xt, y_xn, y_xw⟩, y_u, y_v⟩ = true, .sa (B (F.t_sm ⟨v_h, v_g, ⟨v_xl, v_xc, v_xp, v_xo, v_xb, v_xs, v_xq, v_xt, v_xn, v_xw⟩, v_u, v_v⟩ ⟨y_h, y_g, ⟨y_xl, y_xc, y_xp, y_xo, y_xb, y_xs, y_xq, y_xt, y_xn, y_xw⟩, y_u, y_v⟩)), [], [Any, Any]⟩
  | _, _ => none
def c_knew (F : Ts) : Con := fun xs h => match xs, h with
  | [.one (.val (.int .i64 h)), .one (.val (.int .i64 g)), .one (.val (.int .i64 n))], [] => some ⟨True, .tup [.agg [.val (.int .i64 ((F.t_new h g n).k).h), .val (.int .i64 ((F.t_new h g n).k).g), .val (.int .i64 ((F.t_new h g n).k).x.l), .val (.int .i64 ((F.t_new h g n).k).x.c), .val (.int .i64 ((F.t_new h g n).k).x.p), .val (.bool ((F.t_new h g n).k).x.o), .val (.int .i64 ((F.t_new h g n).k).x.b), .val (.int .i64 ((F.t_new h g n).k).x.s), .sl none (.recs (.ints .u8 .nil) ((F.t_new h g n).k).x.q), .val (.int .i64 ((F.t_new h g n).k).x.t), .val (.int .i64 ((F.t_new h g n).k).x.n), .val (.bool ((F.t_new h g n).k).x.w), .val (.int .i64 ((F.t_new h g n).k).u), .val (.int .i64 ((F.t_new h g n).k).v)], I (F.t_new h g n).e], [], [Any, Any, Any]⟩
  | _, _ => none
set_option maxHeartbeats 2000000 in
set_option maxRecDepth 100000 in
theorem x_knew (h : Int) (g : Int) (n : Int) : Does [(14, c_lnew Ks.std), (60, c_kcheck Ts.std)] Try.f17 [.one (.val (.int .i64 h)), .one (.val (.int .i64 g)), .one (.val (.int .i64 n))] [] ⟨True, .tup [.agg [.val (.int .i64 ((Ts.std.t_new h g n).k).h), .val (.int .i64 ((Ts.std.t_new h g n).k).g), .val (.int .i64 ((Ts.std.t_new h g n).k).x.l), .val (.int .i64 ((Ts.std.t_new h g n).k).x.c), .val (.int .i64 ((Ts.std.t_new h g n).k).x.p), .val (.bool ((Ts.std.t_new h g n).k).x.o), .val (.int .i64 ((Ts.std.t_new h g n).k).x.b), .val (.int .i64 ((Ts.std.t_new h g n).k).x.s), .sl none (.recs (.ints .u8 .nil) ((Ts.std.t_new h g n).k).x.q), .val (.int .i64 ((Ts.std.t_new h g n).k).x.t), .val (.int .i64 ((Ts.std.t_new h g n).k).x.n), .val (.bool ((Ts.std.t_new h g n).k).x.w), .val (.int .i64 ((Ts.std.t_new h g n).k).u), .val (.int .i64 ((Ts.std.t_new h g n).k).v)], I (Ts.std.t_new h g n).e], [], [Any, Any, Any]⟩ := by
  intro b gv
  have hby : byS (newL n).x.q = true := by
    cases hl : limitB n with
    | true => exact ((new_ok (n := n)).1 hl).2.2.1
    | false => rw [(new_ok (n := n)).2 hl]; rfl
  have hfs := (FsOk.cons ok_lnew (FsOk.cons ok_kcheck FsOk.nil rfl) rfl)
  generalize hF : Ts.std = F at hfs ⊢
  generalize hG0 : Ks.std = G0 at hfs ⊢
  generalize hA : Ar.std = A
  generalize hL : Lp _ _ _ = L
  obtain ⟨Z, zq⟩ := z_all
  refine cd_open (lp_mono hL) zq rfl ?_
  repeat' (first
    | (refine z_open zq ?_; try dsimp only)
    | refine cd_seq zq ?_ (lp_mono hL)
    | refine cd_blk zq ?_
    | refine cd_ret ?_
    | refine cd_skip ?_
    | refine cd_exit ?_
    | refine cd_loop ?_
    | refine cd_cond rfl ?_
    | refine cd_condT rfl ?_
    | refine cd_condF rfl ?_
    | (refine Cd.mk ?_; cbv)
    | (refine Ends1.mk ?_; cbv)
    | (refine Fin1.mk ?_; cbv)
    | exact trivial
    | refine And.intro ?_ ?_
    | refine orf fun _ => ?_
    | refine ort fun _ => ?_)
  all_goals
    clear hL zq Z hfs
    subst hF hA hG0
    simp only [Ts.std, Ks.std, Ar.std, eta_LN] at *
    try (grind [stdCmp, b_add, wr, newK, zK, zL, chK, kbB, lbB])
theorem ok_knew : ConOk Try.prog 17 (c_knew Ts.std) := by
  refine con_of (FsOk.cons ok_lnew (FsOk.cons ok_kcheck FsOk.nil rfl) rfl) Try.func17 rfl rfl fun xs h p hp => ?_
  unfold c_knew at hp
  split at hp
  · cases hp
    exact ⟨lee_le rfl, fun _ _ => x_knew _ _ _⟩
  · cases hp

def c_kpush (F : Ts) : Con := fun xs h => match xs, h with
  | [.agg [.val (.int .i64 v_h), .val (.int .i64 v_g), .val (.int .i64 v_xl), .val (.int .i64 v_xc), .val (.int .i64 v_xp), .val (.bool v_xo), .val (.int .i64 v_xb), .val (.int .i64 v_xs), .sl none (.recs (.ints .u8 .nil) v_xq), .val (.int .i64 v_xt), .val (.int .i64 v_xn), .val (.bool v_xw), .val (.int .i64 v_u), .val (.int .i64 v_v)], .one (.sl none (.ints .u8 p)), .one (.val (.int .i64 n))], [] => some ⟨F.t_kb ⟨v_h, v_g, ⟨v_xl, v_xc, v_xp, v_xo, v_xb, v_xs, v_xq, v_xt, v_xn, v_xw⟩, v_u, v_v⟩ = true, .tup [.agg [.val (.int .i64 ((F.t_push ⟨v_h, v_g, ⟨v_xl, v_xc, v_xp, v_xo, v_xb, v_xs, v_xq, v_xt, v_xn, v_xw⟩, v_u, v_v⟩ p n).k).h), .val (.int .i64 ((F.t_push ⟨v_h, v_g, ⟨v_xl, v_xc, v_xp, v_xo, v_xb, v_xs, v_xq, v_xt, v_xn, v_xw⟩, v_u, v_v⟩ p n).k).g), .val (.int .i64 ((F.t_push ⟨v_h, v_g, ⟨v_xl, v_xc, v_xp, v_xo, v_xb, v_xs, v_xq, v_xt, v_xn, v_xw⟩, v_u, v_v⟩ p n).k).x.l), .val (.int .i64 ((F.t_push ⟨v_h, v_g, ⟨v_xl, v_xc, v_xp, v_xo, v_xb, v_xs, v_xq, v_xt, v_xn, v_xw⟩, v_u, v_v⟩ p n).k).x.c), .val (.int .i64 ((F.t_push ⟨v_h, v_g, ⟨v_xl, v_xc, v_xp, v_xo, v_xb, v_xs, v_xq, v_xt, v_xn, v_xw⟩, v_u, v_v⟩ p n).k).x.p), .val (.bool ((F.t_push ⟨v_h, v_g, ⟨v_xl, v_xc, v_xp, v_xo, v_xb, v_xs, v_xq, v_xt, v_xn, v_xw⟩, v_u, v_v⟩ p n).k).x.o), .val (.int .i64 ((F.t_push ⟨v_h, v_g, ⟨v_xl, v_xc, v_xp, v_xo, v_xb, v_xs, v_xq, v_xt, v_xn, v_xw⟩, v_u, v_v⟩ p n).k).x.b), .val (.int .i64 ((F.t_push ⟨v_h, v_g, ⟨v_xl, v_xc, v_xp, v_xo, v_xb, v_xs, v_xq, v_xt, v_xn, v_xw⟩, v_u, v_v⟩ p n).k).x.s), .sl none (.recs (.ints .u8 .nil) ((F.t_push ⟨v_h, v_g, ⟨v_xl, v_xc, v_xp, v_xo, v_xb, v_xs, v_xq, v_xt, v_xn, v_xw⟩, v_u, v_v⟩ p n).k).x.q), .val (.int .i64 ((F.t_push ⟨v_h, v_g, ⟨v_xl, v_xc, v_xp, v_xo, v_xb, v_xs, v_xq, v_xt, v_xn, v_xw⟩, v_u, v_v⟩ p n).k).x.t), .val (.int .i64 ((F.t_push ⟨v_h, v_g, ⟨v_xl, v_xc, v_xp, v_xo, v_xb, v_xs, v_xq, v_xt, v_xn, v_xw⟩, v_u, v_v⟩ p n).k).x.n), .val (.bool ((F.t_push ⟨v_h, v_g, ⟨v_xl, v_xc, v_xp, v_xo, v_xb, v_xs, v_xq, v_xt, v_xn, v_xw⟩, v_u, v_v⟩ p n).k).x.w), .val (.int .i64 ((F.t_push ⟨v_h, v_g, ⟨v_xl, v_xc, v_xp, v_xo, v_xb, v_xs, v_xq, v_xt, v_xn, v_xw⟩, v_u, v_v⟩ p n).k).u), .val (.int .i64 ((F.t_push ⟨v_h, v_g, ⟨v_xl, v_xc, v_xp, v_xo, v_xb, v_xs, v_xq, v_xt, v_xn, v_xw⟩, v_u, v_v⟩ p n).k).v)], I (F.t_push ⟨v_h, v_g, ⟨v_xl, v_xc, v_xp, v_xo, v_xb, v_xs, v_xq, v_xt, v_xn, v_xw⟩, v_u, v_v⟩ p n).e], [], [Any, Any, Any]⟩
  | _, _ => none
def c_kclose (F : Ts) : Con := fun xs h => match xs, h with
  | [.agg [.val (.int .i64 v_h), .val (.int .i64 v_g), .val (.int .i64 v_xl), .val (.int .i64 v_xc), .val (.int .i64 v_xp), .val (.bool v_xo), .val (.int .i64 v_xb), .val (.int .i64 v_xs), .sl none (.recs (.ints .u8 .nil) v_xq), .val (.int .i64 v_xt), .val (.int .i64 v_xn), .val (.bool v_xw), .val (.int .i64 v_u), .val (.int .i64 v_v)], .one (.val (.int .i64 n))], [] => some ⟨F.t_kb ⟨v_h, v_g, ⟨v_xl, v_xc, v_xp, v_xo, v_xb, v_xs, v_xq, v_xt, v_xn, v_xw⟩, v_u, v_v⟩ = true, .tup [.agg [.val (.int .i64 ((F.t_clo ⟨v_h, v_g, ⟨v_xl, v_xc, v_xp, v_xo, v_xb, v_xs, v_xq, v_xt, v_xn, v_xw⟩, v_u, v_v⟩ n).k).h), .val (.int .i64 ((F.t_clo ⟨v_h, v_g, ⟨v_xl, v_xc, v_xp, v_xo, v_xb, v_xs, v_xq, v_xt, v_xn, v_xw⟩, v_u, v_v⟩ n).k).g), .val (.int .i64 ((F.t_clo ⟨v_h, v_g, ⟨v_xl, v_xc, v_xp, v_xo, v_xb, v_xs, v_xq, v_xt, v_xn, v_xw⟩, v_u, v_v⟩ n).k).x.l), .val (.int .i64 ((F.t_clo ⟨v_h, v_g, ⟨v_xl, v_xc, v_xp, v_xo, v_xb, v_xs, v_xq, v_xt, v_xn, v_xw⟩, v_u, v_v⟩ n).k).x.c), .val (.int .i64 ((F.t_clo ⟨v_h, v_g, ⟨v_xl, v_xc, v_xp, v_xo, v_xb, v_xs, v_xq, v_xt, v_xn, v_xw⟩, v_u, v_v⟩ n).k).x.p), .val (.bool ((F.t_clo ⟨v_h, v_g, ⟨v_xl, v_xc, v_xp, v_xo, v_xb, v_xs, v_xq, v_xt, v_xn, v_xw⟩, v_u, v_v⟩ n).k).x.o), .val (.int .i64 ((F.t_clo ⟨v_h, v_g, ⟨v_xl, v_xc, v_xp, v_xo, v_xb, v_xs, v_xq, v_xt, v_xn, v_xw⟩, v_u, v_v⟩ n).k).x.b), .val (.int .i64 ((F.t_clo ⟨v_h, v_g, ⟨v_xl, v_xc, v_xp, v_xo, v_xb, v_xs, v_xq, v_xt, v_xn, v_xw⟩, v_u, v_v⟩ n).k).x.s), .sl none (.recs (.ints .u8 .nil) ((F.t_clo ⟨v_h, v_g, ⟨v_xl, v_xc, v_xp, v_xo, v_xb, v_xs, v_xq, v_xt, v_xn, v_xw⟩, v_u, v_v⟩ n).k).x.q), .val (.int .i64 ((F.t_clo ⟨v_h, v_g, ⟨v_xl, v_xc, v_xp, v_xo, v_xb, v_xs, v_xq, v_xt, v_xn, v_xw⟩, v_u, v_v⟩ n).k).x.t), .val (.int .i64 ((F.t_clo ⟨v_h, v_g, ⟨v_xl, v_xc, v_xp, v_xo, v_xb, v_xs, v_xq, v_xt, v_xn, v_xw⟩, v_u, v_v⟩ n).k).x.n), .val (.bool ((F.t_clo ⟨v_h, v_g, ⟨v_xl, v_xc, v_xp, v_xo, v_xb, v_xs, v_xq, v_xt, v_xn, v_xw⟩, v_u, v_v⟩ n).k).x.w), .val (.int .i64 ((F.t_clo ⟨v_h, v_g, ⟨v_xl, v_xc, v_xp, v_xo, v_xb, v_xs, v_xq, v_xt, v_xn, v_xw⟩, v_u, v_v⟩ n).k).u), .val (.int .i64 ((F.t_clo ⟨v_h, v_g, ⟨v_xl, v_xc, v_xp, v_xo, v_xb, v_xs, v_xq, v_xt, v_xn, v_xw⟩, v_u, v_v⟩ n).k).v)], .agg [.sl none (.recs (.int .i64 (.int .i64 (.int .i64 (.int .i64 (.ints .u8 .nil))))) ((F.t_clo ⟨v_h, v_g, ⟨v_xl, v_xc, v_xp, v_xo, v_xb, v_xs, v_xq, v_xt, v_xn, v_xw⟩, v_u, v_v⟩ n).y).f), .sl none (.recs (.ints .u8 .nil) ((F.t_clo ⟨v_h, v_g, ⟨v_xl, v_xc, v_xp, v_xo, v_xb, v_xs, v_xq, v_xt, v_xn, v_xw⟩, v_u, v_v⟩ n).y).g), .val (.bool ((F.t_clo ⟨v_h, v_g, ⟨v_xl, v_xc, v_xp, v_xo, v_xb, v_xs, v_xq, v_xt, v_xn, v_xw⟩, v_u, v_v⟩ n).y).d), .val (.int .i64 ((F.t_clo ⟨v_h, v_g, ⟨v_xl, v_xc, v_xp, v_xo, v_xb, v_xs, v_xq, v_xt, v_xn, v_xw⟩, v_u, v_v⟩ n).y).s)], I (F.t_clo ⟨v_h, v_g, ⟨v_xl, v_xc, v_xp, v_xo, v_xb, v_xs, v_xq, v_xt, v_xn, v_xw⟩, v_u, v_v⟩ n).e], [], [Any, Any]⟩
  | _, _ => none
set_option maxHeartbeats 2000000 in
set_option maxRecDepth 100000 in
theorem x_kclose (v_h : Int) (v_g : Int) (v_xl : Int) (v_xc : Int) (v_xp : Int) (v_xo : Bool) (v_xb : Int) (v_xs : Int) (v_xq : List E) (v_xt : Int) (v_xn : Int) (v_xw : Bool) (v_u : Int) (v_v : Int) (n : Int) (hC : Ts.std.t_kb ⟨v_h, v_g, ⟨v_xl, v_xc, v_xp, v_xo, v_xb, v_xs, v_xq, v_xt, v_xn, v_xw⟩, v_u, v_v⟩ = true) : Does [(60, c_kcheck Ts.std), (61, c_klimit Ts.std), (57, c_lclose Ks.std)] Try.f64 [.agg [.val (.int .i64 v_h), .val (.int .i64 v_g), .val (.int .i64 v_xl), .val (.int .i64 v_xc), .val (.int .i64 v_xp), .val (.bool v_xo), .val (.int .i64 v_xb), .val (.int .i64 v_xs), .sl none (.recs (.ints .u8 .nil) v_xq), .val (.int .i64 v_xt), .val (.int .i64 v_xn), .val (.bool v_xw), .val (.int .i64 v_u), .val (.int .i64 v_v)], .one (.val (.int .i64 n))] [] ⟨Ts.std.t_kb ⟨v_h, v_g, ⟨v_xl, v_xc, v_xp, v_xo, v_xb, v_xs, v_xq, v_xt, v_xn, v_xw⟩, v_u, v_v⟩ = true, .tup [.agg [.val (.int .i64 ((Ts.std.t_clo ⟨v_h, v_g, ⟨v_xl, v_xc, v_xp, v_xo, v_xb, v_xs, v_xq, v_xt, v_xn, v_xw⟩, v_u, v_v⟩ n).k).h), .val (.int .i64 ((Ts.std.t_clo ⟨v_h, v_g, ⟨v_xl, v_xc, v_xp, v_xo, v_xb, v_xs, v_xq, v_xt, v_xn, v_xw⟩, v_u, v_v⟩ n).k).g), .val (.int .i64 ((Ts.std.t_clo ⟨v_h, v_g, ⟨v_xl, v_xc, v_xp, v_xo, v_xb, v_xs, v_xq, v_xt, v_xn, v_xw⟩, v_u, v_v⟩ n).k).x.l), .val (.int .i64 ((Ts.std.t_clo ⟨v_h, v_g, ⟨v_xl, v_xc, v_xp, v_xo, v_xb, v_xs, v_xq, v_xt, v_xn, v_xw⟩, v_u, v_v⟩ n).k).x.c), .val (.int .i64 ((Ts.std.t_clo ⟨v_h, v_g, ⟨v_xl, v_xc, v_xp, v_xo, v_xb, v_xs, v_xq, v_xt, v_xn, v_xw⟩, v_u, v_v⟩ n).k).x.p), .val (.bool ((Ts.std.t_clo ⟨v_h, v_g, ⟨v_xl, v_xc, v_xp, v_xo, v_xb, v_xs, v_xq, v_xt, v_xn, v_xw⟩, v_u, v_v⟩ n).k).x.o), .val (.int .i64 ((Ts.std.t_clo ⟨v_h, v_g, ⟨v_xl, v_xc, v_xp, v_xo, v_xb, v_xs, v_xq, v_xt, v_xn, v_xw⟩, v_u, v_v⟩ n).k).x.b), .val (.int .i64 ((Ts.std.t_clo ⟨v_h, v_g, ⟨v_xl, v_xc, v_xp, v_xo, v_xb, v_xs, v_xq, v_xt, v_xn, v_xw⟩, v_u, v_v⟩ n).k).x.s), .sl none (.recs (.ints .u8 .nil) ((Ts.std.t_clo ⟨v_h, v_g, ⟨v_xl, v_xc, v_xp, v_xo, v_xb, v_xs, v_xq, v_xt, v_xn, v_xw⟩, v_u, v_v⟩ n).k).x.q), .val (.int .i64 ((Ts.std.t_clo ⟨v_h, v_g, ⟨v_xl, v_xc, v_xp, v_xo, v_xb, v_xs, v_xq, v_xt, v_xn, v_xw⟩, v_u, v_v⟩ n).k).x.t), .val (.int .i64 ((Ts.std.t_clo ⟨v_h, v_g, ⟨v_xl, v_xc, v_xp, v_xo, v_xb, v_xs, v_xq, v_xt, v_xn, v_xw⟩, v_u, v_v⟩ n).k).x.n), .val (.bool ((Ts.std.t_clo ⟨v_h, v_g, ⟨v_xl, v_xc, v_xp, v_xo, v_xb, v_xs, v_xq, v_xt, v_xn, v_xw⟩, v_u, v_v⟩ n).k).x.w), .val (.int .i64 ((Ts.std.t_clo ⟨v_h, v_g, ⟨v_xl, v_xc, v_xp, v_xo, v_xb, v_xs, v_xq, v_xt, v_xn, v_xw⟩, v_u, v_v⟩ n).k).u), .val (.int .i64 ((Ts.std.t_clo ⟨v_h, v_g, ⟨v_xl, v_xc, v_xp, v_xo, v_xb, v_xs, v_xq, v_xt, v_xn, v_xw⟩, v_u, v_v⟩ n).k).v)], .agg [.sl none (.recs (.int .i64 (.int .i64 (.int .i64 (.int .i64 (.ints .u8 .nil))))) ((Ts.std.t_clo ⟨v_h, v_g, ⟨v_xl, v_xc, v_xp, v_xo, v_xb, v_xs, v_xq, v_xt, v_xn, v_xw⟩, v_u, v_v⟩ n).y).f), .sl none (.recs (.ints .u8 .nil) ((Ts.std.t_clo ⟨v_h, v_g, ⟨v_xl, v_xc, v_xp, v_xo, v_xb, v_xs, v_xq, v_xt, v_xn, v_xw⟩, v_u, v_v⟩ n).y).g), .val (.bool ((Ts.std.t_clo ⟨v_h, v_g, ⟨v_xl, v_xc, v_xp, v_xo, v_xb, v_xs, v_xq, v_xt, v_xn, v_xw⟩, v_u, v_v⟩ n).y).d), .val (.int .i64 ((Ts.std.t_clo ⟨v_h, v_g, ⟨v_xl, v_xc, v_xp, v_xo, v_xb, v_xs, v_xq, v_xt, v_xn, v_xw⟩, v_u, v_v⟩ n).y).s)], I (Ts.std.t_clo ⟨v_h, v_g, ⟨v_xl, v_xc, v_xp, v_xo, v_xb, v_xs, v_xq, v_xt, v_xn, v_xw⟩, v_u, v_v⟩ n).e], [], [Any, Any]⟩ := by
  intro b gv
  have hkb : lbB ⟨v_xl, v_xc, v_xp, v_xo, v_xb, v_xs, v_xq, v_xt, v_xn, v_xw⟩ = true := hC
  have hbs : byS v_xq = true := hkb
  have hfs := (FsOk.cons ok_kcheck (FsOk.cons ok_klimit (FsOk.cons ok_lclose FsOk.nil rfl) rfl) rfl)
  generalize hF : Ts.std = F at hC hfs ⊢
  generalize hG0 : Ks.std = G0 at hC hfs ⊢
  generalize hA : Ar.std = A
  generalize hL : Lp _ _ _ = L
  obtain ⟨Z, zq⟩ := z_all
  refine cd_open (lp_mono hL) zq rfl ?_
  repeat' (first
    | (refine z_open zq ?_; try dsimp only)
    | refine cd_seq zq ?_ (lp_mono hL)
    | refine cd_blk zq ?_
    | refine cd_ret ?_
    | refine cd_skip ?_
    | refine cd_exit ?_
    | refine cd_loop ?_
    | refine cd_cond rfl ?_
    | refine cd_condT rfl ?_
    | refine cd_condF rfl ?_
    | (refine Cd.mk ?_; cbv)
    | (refine Ends1.mk ?_; cbv)
    | (refine Fin1.mk ?_; cbv)
    | exact trivial
    | refine And.intro ?_ ?_
    | refine orf fun _ => ?_
    | refine ort fun _ => ?_)
  all_goals
    clear hL zq Z hfs
    subst hF hA hG0
    simp only [Ts.std, Ks.std, Ar.std] at *
    try (grind [stdCmp, b_add, wr, cloK, zK, zL, zN, chK])
theorem ok_kclose : ConOk Try.prog 64 (c_kclose Ts.std) := by
  refine con_of (FsOk.cons ok_kcheck (FsOk.cons ok_klimit (FsOk.cons ok_lclose FsOk.nil rfl) rfl) rfl) Try.func64 rfl rfl fun xs h p hp => ?_
  unfold c_kclose at hp
  split at hp
  · cases hp
    exact ⟨lee_le rfl, fun hC _ => x_kclose _ _ _ _ _ _ _ _ _ _ _ _ _ _ _ hC⟩
  · cases hp

def c_kflush (F : Ts) : Con := fun xs h => match xs, h with
  | [.agg [.val (.int .i64 v_h), .val (.int .i64 v_g), .val (.int .i64 v_xl), .val (.int .i64 v_xc), .val (.int .i64 v_xp), .val (.bool v_xo), .val (.int .i64 v_xb), .val (.int .i64 v_xs), .sl none (.recs (.ints .u8 .nil) v_xq), .val (.int .i64 v_xt), .val (.int .i64 v_xn), .val (.bool v_xw), .val (.int .i64 v_u), .val (.int .i64 v_v)]], [] => some ⟨F.t_kb ⟨v_h, v_g, ⟨v_xl, v_xc, v_xp, v_xo, v_xb, v_xs, v_xq, v_xt, v_xn, v_xw⟩, v_u, v_v⟩ = true, .tup [.agg [.val (.int .i64 ((F.t_flu ⟨v_h, v_g, ⟨v_xl, v_xc, v_xp, v_xo, v_xb, v_xs, v_xq, v_xt, v_xn, v_xw⟩, v_u, v_v⟩).k).h), .val (.int .i64 ((F.t_flu ⟨v_h, v_g, ⟨v_xl, v_xc, v_xp, v_xo, v_xb, v_xs, v_xq, v_xt, v_xn, v_xw⟩, v_u, v_v⟩).k).g), .val (.int .i64 ((F.t_flu ⟨v_h, v_g, ⟨v_xl, v_xc, v_xp, v_xo, v_xb, v_xs, v_xq, v_xt, v_xn, v_xw⟩, v_u, v_v⟩).k).x.l), .val (.int .i64 ((F.t_flu ⟨v_h, v_g, ⟨v_xl, v_xc, v_xp, v_xo, v_xb, v_xs, v_xq, v_xt, v_xn, v_xw⟩, v_u, v_v⟩).k).x.c), .val (.int .i64 ((F.t_flu ⟨v_h, v_g, ⟨v_xl, v_xc, v_xp, v_xo, v_xb, v_xs, v_xq, v_xt, v_xn, v_xw⟩, v_u, v_v⟩).k).x.p), .val (.bool ((F.t_flu ⟨v_h, v_g, ⟨v_xl, v_xc, v_xp, v_xo, v_xb, v_xs, v_xq, v_xt, v_xn, v_xw⟩, v_u, v_v⟩).k).x.o), .val (.int .i64 ((F.t_flu ⟨v_h, v_g, ⟨v_xl, v_xc, v_xp, v_xo, v_xb, v_xs, v_xq, v_xt, v_xn, v_xw⟩, v_u, v_v⟩).k).x.b), .val (.int .i64 ((F.t_flu ⟨v_h, v_g, ⟨v_xl, v_xc, v_xp, v_xo, v_xb, v_xs, v_xq, v_xt, v_xn, v_xw⟩, v_u, v_v⟩).k).x.s), .sl none (.recs (.ints .u8 .nil) ((F.t_flu ⟨v_h, v_g, ⟨v_xl, v_xc, v_xp, v_xo, v_xb, v_xs, v_xq, v_xt, v_xn, v_xw⟩, v_u, v_v⟩).k).x.q), .val (.int .i64 ((F.t_flu ⟨v_h, v_g, ⟨v_xl, v_xc, v_xp, v_xo, v_xb, v_xs, v_xq, v_xt, v_xn, v_xw⟩, v_u, v_v⟩).k).x.t), .val (.int .i64 ((F.t_flu ⟨v_h, v_g, ⟨v_xl, v_xc, v_xp, v_xo, v_xb, v_xs, v_xq, v_xt, v_xn, v_xw⟩, v_u, v_v⟩).k).x.n), .val (.bool ((F.t_flu ⟨v_h, v_g, ⟨v_xl, v_xc, v_xp, v_xo, v_xb, v_xs, v_xq, v_xt, v_xn, v_xw⟩, v_u, v_v⟩).k).x.w), .val (.int .i64 ((F.t_flu ⟨v_h, v_g, ⟨v_xl, v_xc, v_xp, v_xo, v_xb, v_xs, v_xq, v_xt, v_xn, v_xw⟩, v_u, v_v⟩).k).u), .val (.int .i64 ((F.t_flu ⟨v_h, v_g, ⟨v_xl, v_xc, v_xp, v_xo, v_xb, v_xs, v_xq, v_xt, v_xn, v_xw⟩, v_u, v_v⟩).k).v)], .agg [.sl none (.recs (.int .i64 (.int .i64 (.int .i64 (.int .i64 (.ints .u8 .nil))))) ((F.t_flu ⟨v_h, v_g, ⟨v_xl, v_xc, v_xp, v_xo, v_xb, v_xs, v_xq, v_xt, v_xn, v_xw⟩, v_u, v_v⟩).y).f), .sl none (.recs (.ints .u8 .nil) ((F.t_flu ⟨v_h, v_g, ⟨v_xl, v_xc, v_xp, v_xo, v_xb, v_xs, v_xq, v_xt, v_xn, v_xw⟩, v_u, v_v⟩).y).g), .val (.bool ((F.t_flu ⟨v_h, v_g, ⟨v_xl, v_xc, v_xp, v_xo, v_xb, v_xs, v_xq, v_xt, v_xn, v_xw⟩, v_u, v_v⟩).y).d), .val (.int .i64 ((F.t_flu ⟨v_h, v_g, ⟨v_xl, v_xc, v_xp, v_xo, v_xb, v_xs, v_xq, v_xt, v_xn, v_xw⟩, v_u, v_v⟩).y).s)], I (F.t_flu ⟨v_h, v_g, ⟨v_xl, v_xc, v_xp, v_xo, v_xb, v_xs, v_xq, v_xt, v_xn, v_xw⟩, v_u, v_v⟩).e], [], [Any]⟩
  | _, _ => none
def c_kweigh (F : Ts) : Con := fun xs h => match xs, h with
  | [.agg [.val (.int .i64 v_h), .val (.int .i64 v_g), .val (.int .i64 v_xl), .val (.int .i64 v_xc), .val (.int .i64 v_xp), .val (.bool v_xo), .val (.int .i64 v_xb), .val (.int .i64 v_xs), .sl none (.recs (.ints .u8 .nil) v_xq), .val (.int .i64 v_xt), .val (.int .i64 v_xn), .val (.bool v_xw), .val (.int .i64 v_u), .val (.int .i64 v_v)], .one (.val (.int .i64 w)), .one (.val (.int .i64 n))], [] => some ⟨F.t_kb ⟨v_h, v_g, ⟨v_xl, v_xc, v_xp, v_xo, v_xb, v_xs, v_xq, v_xt, v_xn, v_xw⟩, v_u, v_v⟩ = true, .tup [.agg [.val (.int .i64 ((F.t_wei ⟨v_h, v_g, ⟨v_xl, v_xc, v_xp, v_xo, v_xb, v_xs, v_xq, v_xt, v_xn, v_xw⟩, v_u, v_v⟩ w n).k).h), .val (.int .i64 ((F.t_wei ⟨v_h, v_g, ⟨v_xl, v_xc, v_xp, v_xo, v_xb, v_xs, v_xq, v_xt, v_xn, v_xw⟩, v_u, v_v⟩ w n).k).g), .val (.int .i64 ((F.t_wei ⟨v_h, v_g, ⟨v_xl, v_xc, v_xp, v_xo, v_xb, v_xs, v_xq, v_xt, v_xn, v_xw⟩, v_u, v_v⟩ w n).k).x.l), .val (.int .i64 ((F.t_wei ⟨v_h, v_g, ⟨v_xl, v_xc, v_xp, v_xo, v_xb, v_xs, v_xq, v_xt, v_xn, v_xw⟩, v_u, v_v⟩ w n).k).x.c), .val (.int .i64 ((F.t_wei ⟨v_h, v_g, ⟨v_xl, v_xc, v_xp, v_xo, v_xb, v_xs, v_xq, v_xt, v_xn, v_xw⟩, v_u, v_v⟩ w n).k).x.p), .val (.bool ((F.t_wei ⟨v_h, v_g, ⟨v_xl, v_xc, v_xp, v_xo, v_xb, v_xs, v_xq, v_xt, v_xn, v_xw⟩, v_u, v_v⟩ w n).k).x.o), .val (.int .i64 ((F.t_wei ⟨v_h, v_g, ⟨v_xl, v_xc, v_xp, v_xo, v_xb, v_xs, v_xq, v_xt, v_xn, v_xw⟩, v_u, v_v⟩ w n).k).x.b), .val (.int .i64 ((F.t_wei ⟨v_h, v_g, ⟨v_xl, v_xc, v_xp, v_xo, v_xb, v_xs, v_xq, v_xt, v_xn, v_xw⟩, v_u, v_v⟩ w n).k).x.s), .sl none (.recs (.ints .u8 .nil) ((F.t_wei ⟨v_h, v_g, ⟨v_xl, v_xc, v_xp, v_xo, v_xb, v_xs, v_xq, v_xt, v_xn, v_xw⟩, v_u, v_v⟩ w n).k).x.q), .val (.int .i64 ((F.t_wei ⟨v_h, v_g, ⟨v_xl, v_xc, v_xp, v_xo, v_xb, v_xs, v_xq, v_xt, v_xn, v_xw⟩, v_u, v_v⟩ w n).k).x.t), .val (.int .i64 ((F.t_wei ⟨v_h, v_g, ⟨v_xl, v_xc, v_xp, v_xo, v_xb, v_xs, v_xq, v_xt, v_xn, v_xw⟩, v_u, v_v⟩ w n).k).x.n), .val (.bool ((F.t_wei ⟨v_h, v_g, ⟨v_xl, v_xc, v_xp, v_xo, v_xb, v_xs, v_xq, v_xt, v_xn, v_xw⟩, v_u, v_v⟩ w n).k).x.w), .val (.int .i64 ((F.t_wei ⟨v_h, v_g, ⟨v_xl, v_xc, v_xp, v_xo, v_xb, v_xs, v_xq, v_xt, v_xn, v_xw⟩, v_u, v_v⟩ w n).k).u), .val (.int .i64 ((F.t_wei ⟨v_h, v_g, ⟨v_xl, v_xc, v_xp, v_xo, v_xb, v_xs, v_xq, v_xt, v_xn, v_xw⟩, v_u, v_v⟩ w n).k).v)], .agg [.sl none (.recs (.int .i64 (.int .i64 (.int .i64 (.int .i64 (.ints .u8 .nil))))) ((F.t_wei ⟨v_h, v_g, ⟨v_xl, v_xc, v_xp, v_xo, v_xb, v_xs, v_xq, v_xt, v_xn, v_xw⟩, v_u, v_v⟩ w n).y).f), .sl none (.recs (.ints .u8 .nil) ((F.t_wei ⟨v_h, v_g, ⟨v_xl, v_xc, v_xp, v_xo, v_xb, v_xs, v_xq, v_xt, v_xn, v_xw⟩, v_u, v_v⟩ w n).y).g), .val (.bool ((F.t_wei ⟨v_h, v_g, ⟨v_xl, v_xc, v_xp, v_xo, v_xb, v_xs, v_xq, v_xt, v_xn, v_xw⟩, v_u, v_v⟩ w n).y).d), .val (.int .i64 ((F.t_wei ⟨v_h, v_g, ⟨v_xl, v_xc, v_xp, v_xo, v_xb, v_xs, v_xq, v_xt, v_xn, v_xw⟩, v_u, v_v⟩ w n).y).s)], I (F.t_wei ⟨v_h, v_g, ⟨v_xl, v_xc, v_xp, v_xo, v_xb, v_xs, v_xq, v_xt, v_xn, v_xw⟩, v_u, v_v⟩ w n).e], [], [Any, Any, Any]⟩
  | _, _ => none
def c_khear (F : Ts) : Con := fun xs h => match xs, h with
  | [.agg [.val (.int .i64 v_h), .val (.int .i64 v_g), .val (.int .i64 v_xl), .val (.int .i64 v_xc), .val (.int .i64 v_xp), .val (.bool v_xo), .val (.int .i64 v_xb), .val (.int .i64 v_xs), .sl none (.recs (.ints .u8 .nil) v_xq), .val (.int .i64 v_xt), .val (.int .i64 v_xn), .val (.bool v_xw), .val (.int .i64 v_u), .val (.int .i64 v_v)], .one (.sl none (.ints .u8 b)), .one (.val (.int .i64 n))], [] => some ⟨F.t_kb ⟨v_h, v_g, ⟨v_xl, v_xc, v_xp, v_xo, v_xb, v_xs, v_xq, v_xt, v_xn, v_xw⟩, v_u, v_v⟩ = true, .tup [.agg [.val (.int .i64 ((F.t_hear ⟨v_h, v_g, ⟨v_xl, v_xc, v_xp, v_xo, v_xb, v_xs, v_xq, v_xt, v_xn, v_xw⟩, v_u, v_v⟩ b n).k).h), .val (.int .i64 ((F.t_hear ⟨v_h, v_g, ⟨v_xl, v_xc, v_xp, v_xo, v_xb, v_xs, v_xq, v_xt, v_xn, v_xw⟩, v_u, v_v⟩ b n).k).g), .val (.int .i64 ((F.t_hear ⟨v_h, v_g, ⟨v_xl, v_xc, v_xp, v_xo, v_xb, v_xs, v_xq, v_xt, v_xn, v_xw⟩, v_u, v_v⟩ b n).k).x.l), .val (.int .i64 ((F.t_hear ⟨v_h, v_g, ⟨v_xl, v_xc, v_xp, v_xo, v_xb, v_xs, v_xq, v_xt, v_xn, v_xw⟩, v_u, v_v⟩ b n).k).x.c), .val (.int .i64 ((F.t_hear ⟨v_h, v_g, ⟨v_xl, v_xc, v_xp, v_xo, v_xb, v_xs, v_xq, v_xt, v_xn, v_xw⟩, v_u, v_v⟩ b n).k).x.p), .val (.bool ((F.t_hear ⟨v_h, v_g, ⟨v_xl, v_xc, v_xp, v_xo, v_xb, v_xs, v_xq, v_xt, v_xn, v_xw⟩, v_u, v_v⟩ b n).k).x.o), .val (.int .i64 ((F.t_hear ⟨v_h, v_g, ⟨v_xl, v_xc, v_xp, v_xo, v_xb, v_xs, v_xq, v_xt, v_xn, v_xw⟩, v_u, v_v⟩ b n).k).x.b), .val (.int .i64 ((F.t_hear ⟨v_h, v_g, ⟨v_xl, v_xc, v_xp, v_xo, v_xb, v_xs, v_xq, v_xt, v_xn, v_xw⟩, v_u, v_v⟩ b n).k).x.s), .sl none (.recs (.ints .u8 .nil) ((F.t_hear ⟨v_h, v_g, ⟨v_xl, v_xc, v_xp, v_xo, v_xb, v_xs, v_xq, v_xt, v_xn, v_xw⟩, v_u, v_v⟩ b n).k).x.q), .val (.int .i64 ((F.t_hear ⟨v_h, v_g, ⟨v_xl, v_xc, v_xp, v_xo, v_xb, v_xs, v_xq, v_xt, v_xn, v_xw⟩, v_u, v_v⟩ b n).k).x.t), .val (.int .i64 ((F.t_hear ⟨v_h, v_g, ⟨v_xl, v_xc, v_xp, v_xo, v_xb, v_xs, v_xq, v_xt, v_xn, v_xw⟩, v_u, v_v⟩ b n).k).x.n), .val (.bool ((F.t_hear ⟨v_h, v_g, ⟨v_xl, v_xc, v_xp, v_xo, v_xb, v_xs, v_xq, v_xt, v_xn, v_xw⟩, v_u, v_v⟩ b n).k).x.w), .val (.int .i64 ((F.t_hear ⟨v_h, v_g, ⟨v_xl, v_xc, v_xp, v_xo, v_xb, v_xs, v_xq, v_xt, v_xn, v_xw⟩, v_u, v_v⟩ b n).k).u), .val (.int .i64 ((F.t_hear ⟨v_h, v_g, ⟨v_xl, v_xc, v_xp, v_xo, v_xb, v_xs, v_xq, v_xt, v_xn, v_xw⟩, v_u, v_v⟩ b n).k).v)], .agg [.sl none (.recs (.int .i64 (.int .i64 (.int .i64 (.int .i64 (.ints .u8 .nil))))) ((F.t_hear ⟨v_h, v_g, ⟨v_xl, v_xc, v_xp, v_xo, v_xb, v_xs, v_xq, v_xt, v_xn, v_xw⟩, v_u, v_v⟩ b n).y).f), .sl none (.recs (.ints .u8 .nil) ((F.t_hear ⟨v_h, v_g, ⟨v_xl, v_xc, v_xp, v_xo, v_xb, v_xs, v_xq, v_xt, v_xn, v_xw⟩, v_u, v_v⟩ b n).y).g), .val (.bool ((F.t_hear ⟨v_h, v_g, ⟨v_xl, v_xc, v_xp, v_xo, v_xb, v_xs, v_xq, v_xt, v_xn, v_xw⟩, v_u, v_v⟩ b n).y).d), .val (.int .i64 ((F.t_hear ⟨v_h, v_g, ⟨v_xl, v_xc, v_xp, v_xo, v_xb, v_xs, v_xq, v_xt, v_xn, v_xw⟩, v_u, v_v⟩ b n).y).s)], I (F.t_hear ⟨v_h, v_g, ⟨v_xl, v_xc, v_xp, v_xo, v_xb, v_xs, v_xq, v_xt, v_xn, v_xw⟩, v_u, v_v⟩ b n).e], [], [Any, Any, Any]⟩
  | _, _ => none
set_option maxHeartbeats 2000000 in
set_option maxRecDepth 100000 in
theorem x_khear (v_h : Int) (v_g : Int) (v_xl : Int) (v_xc : Int) (v_xp : Int) (v_xo : Bool) (v_xb : Int) (v_xs : Int) (v_xq : List E) (v_xt : Int) (v_xn : Int) (v_xw : Bool) (v_u : Int) (v_v : Int) (b : List Int) (n : Int) (hC : Ts.std.t_kb ⟨v_h, v_g, ⟨v_xl, v_xc, v_xp, v_xo, v_xb, v_xs, v_xq, v_xt, v_xn, v_xw⟩, v_u, v_v⟩ = true) : Does [(60, c_kcheck Ts.std), (61, c_klimit Ts.std), (65, c_fdec FrR.Rs.std), (66, c_flink Ts.std), (53, c_lhear Ks.std), (67, c_bheard Ts.std), (62, c_kopen Ts.std)] Try.f19 [.agg [.val (.int .i64 v_h), .val (.int .i64 v_g), .val (.int .i64 v_xl), .val (.int .i64 v_xc), .val (.int .i64 v_xp), .val (.bool v_xo), .val (.int .i64 v_xb), .val (.int .i64 v_xs), .sl none (.recs (.ints .u8 .nil) v_xq), .val (.int .i64 v_xt), .val (.int .i64 v_xn), .val (.bool v_xw), .val (.int .i64 v_u), .val (.int .i64 v_v)], .one (.sl none (.ints .u8 b)), .one (.val (.int .i64 n))] [] ⟨Ts.std.t_kb ⟨v_h, v_g, ⟨v_xl, v_xc, v_xp, v_xo, v_xb, v_xs, v_xq, v_xt, v_xn, v_xw⟩, v_u, v_v⟩ = true, .tup [.agg [.val (.int .i64 ((Ts.std.t_hear ⟨v_h, v_g, ⟨v_xl, v_xc, v_xp, v_xo, v_xb, v_xs, v_xq, v_xt, v_xn, v_xw⟩, v_u, v_v⟩ b n).k).h), .val (.int .i64 ((Ts.std.t_hear ⟨v_h, v_g, ⟨v_xl, v_xc, v_xp, v_xo, v_xb, v_xs, v_xq, v_xt, v_xn, v_xw⟩, v_u, v_v⟩ b n).k).g), .val (.int .i64 ((Ts.std.t_hear ⟨v_h, v_g, ⟨v_xl, v_xc, v_xp, v_xo, v_xb, v_xs, v_xq, v_xt, v_xn, v_xw⟩, v_u, v_v⟩ b n).k).x.l), .val (.int .i64 ((Ts.std.t_hear ⟨v_h, v_g, ⟨v_xl, v_xc, v_xp, v_xo, v_xb, v_xs, v_xq, v_xt, v_xn, v_xw⟩, v_u, v_v⟩ b n).k).x.c), .val (.int .i64 ((Ts.std.t_hear ⟨v_h, v_g, ⟨v_xl, v_xc, v_xp, v_xo, v_xb, v_xs, v_xq, v_xt, v_xn, v_xw⟩, v_u, v_v⟩ b n).k).x.p), .val (.bool ((Ts.std.t_hear ⟨v_h, v_g, ⟨v_xl, v_xc, v_xp, v_xo, v_xb, v_xs, v_xq, v_xt, v_xn, v_xw⟩, v_u, v_v⟩ b n).k).x.o), .val (.int .i64 ((Ts.std.t_hear ⟨v_h, v_g, ⟨v_xl, v_xc, v_xp, v_xo, v_xb, v_xs, v_xq, v_xt, v_xn, v_xw⟩, v_u, v_v⟩ b n).k).x.b), .val (.int .i64 ((Ts.std.t_hear ⟨v_h, v_g, ⟨v_xl, v_xc, v_xp, v_xo, v_xb, v_xs, v_xq, v_xt, v_xn, v_xw⟩, v_u, v_v⟩ b n).k).x.s), .sl none (.recs (.ints .u8 .nil) ((Ts.std.t_hear ⟨v_h, v_g, ⟨v_xl, v_xc, v_xp, v_xo, v_xb, v_xs, v_xq, v_xt, v_xn, v_xw⟩, v_u, v_v⟩ b n).k).x.q), .val (.int .i64 ((Ts.std.t_hear ⟨v_h, v_g, ⟨v_xl, v_xc, v_xp, v_xo, v_xb, v_xs, v_xq, v_xt, v_xn, v_xw⟩, v_u, v_v⟩ b n).k).x.t), .val (.int .i64 ((Ts.std.t_hear ⟨v_h, v_g, ⟨v_xl, v_xc, v_xp, v_xo, v_xb, v_xs, v_xq, v_xt, v_xn, v_xw⟩, v_u, v_v⟩ b n).k).x.n), .val (.bool ((Ts.std.t_hear ⟨v_h, v_g, ⟨v_xl, v_xc, v_xp, v_xo, v_xb, v_xs, v_xq, v_xt, v_xn, v_xw⟩, v_u, v_v⟩ b n).k).x.w), .val (.int .i64 ((Ts.std.t_hear ⟨v_h, v_g, ⟨v_xl, v_xc, v_xp, v_xo, v_xb, v_xs, v_xq, v_xt, v_xn, v_xw⟩, v_u, v_v⟩ b n).k).u), .val (.int .i64 ((Ts.std.t_hear ⟨v_h, v_g, ⟨v_xl, v_xc, v_xp, v_xo, v_xb, v_xs, v_xq, v_xt, v_xn, v_xw⟩, v_u, v_v⟩ b n).k).v)], .agg [.sl none (.recs (.int .i64 (.int .i64 (.int .i64 (.int .i64 (.ints .u8 .nil))))) ((Ts.std.t_hear ⟨v_h, v_g, ⟨v_xl, v_xc, v_xp, v_xo, v_xb, v_xs, v_xq, v_xt, v_xn, v_xw⟩, v_u, v_v⟩ b n).y).f), .sl none (.recs (.ints .u8 .nil) ((Ts.std.t_hear ⟨v_h, v_g, ⟨v_xl, v_xc, v_xp, v_xo, v_xb, v_xs, v_xq, v_xt, v_xn, v_xw⟩, v_u, v_v⟩ b n).y).g), .val (.bool ((Ts.std.t_hear ⟨v_h, v_g, ⟨v_xl, v_xc, v_xp, v_xo, v_xb, v_xs, v_xq, v_xt, v_xn, v_xw⟩, v_u, v_v⟩ b n).y).d), .val (.int .i64 ((Ts.std.t_hear ⟨v_h, v_g, ⟨v_xl, v_xc, v_xp, v_xo, v_xb, v_xs, v_xq, v_xt, v_xn, v_xw⟩, v_u, v_v⟩ b n).y).s)], I (Ts.std.t_hear ⟨v_h, v_g, ⟨v_xl, v_xc, v_xp, v_xo, v_xb, v_xs, v_xq, v_xt, v_xn, v_xw⟩, v_u, v_v⟩ b n).e], [], [Any, Any, Any]⟩ := by
  intro b gv
  have hkb : lbB ⟨v_xl, v_xc, v_xp, v_xo, v_xb, v_xs, v_xq, v_xt, v_xn, v_xw⟩ = true := hC
  have hbs : byS v_xq = true := hkb
  have hok := fun h => (may_ok (may_L (may_K (k := ⟨v_h, v_g, ⟨v_xl, v_xc, v_xp, v_xo, v_xb, v_xs, v_xq, v_xt, v_xn, v_xw⟩, v_u, v_v⟩) h).2.2.2.2.1).2.1).1
  dsimp only at hok
  have hmk := may_K (k := ⟨v_h, v_g, ⟨v_xl, v_xc, v_xp, v_xo, v_xb, v_xs, v_xq, v_xt, v_xn, v_xw⟩, v_u, v_v⟩)
  dsimp only at hmk
  have hfs := (FsOk.cons ok_kcheck (FsOk.cons ok_klimit (FsOk.cons ok_fdec (FsOk.cons ok_flink (FsOk.cons ok_lhear (FsOk.cons ok_bheard (FsOk.cons ok_kopen FsOk.nil rfl) rfl) rfl) rfl) rfl) rfl) rfl)
  generalize hF : Ts.std = F at hC hfs ⊢
  generalize hG0 : Ks.std = G0 at hC hfs ⊢
  generalize hG1 : FrR.Rs.std = G1 at hC hfs ⊢
  generalize hA : Ar.std = A
  generalize hL : Lp _ _ _ = L
  obtain ⟨Z, zq⟩ := z_all
  refine cd_open (lp_mono hL) zq rfl ?_
  repeat' (first
    | (refine z_open zq ?_; try dsimp only)
    | refine cd_seq zq ?_ (lp_mono hL)
    | refine cd_blk zq ?_
    | refine cd_ret ?_
    | refine cd_skip ?_
    | refine cd_exit ?_
    | refine cd_loop ?_
    | refine cd_cond rfl ?_
    | refine cd_condT rfl ?_
    | refine cd_condF rfl ?_
    | (refine Cd.mk ?_; cbv)
    | (refine Ends1.mk ?_; cbv)
    | (refine Fin1.mk ?_; cbv)
    | exact trivial
    | refine And.intro ?_ ?_
    | refine orf fun _ => ?_
    | refine ort fun _ => ?_)
  all_goals
    clear hL zq Z hfs
    subst hF hA hG0 hG1
    simp only [Ts.std, Ks.std, FrR.Rs.std, Ar.std, eta_LN] at *
    try (grind [stdCmp, b_add, wr, hearK, heaK, zK, zL, zN, chK, bhT, bmB, opL])
theorem ok_khear : ConOk Try.prog 19 (c_khear Ts.std) := by
  refine con_of (FsOk.cons ok_kcheck (FsOk.cons ok_klimit (FsOk.cons ok_fdec (FsOk.cons ok_flink (FsOk.cons ok_lhear (FsOk.cons ok_bheard (FsOk.cons ok_kopen FsOk.nil rfl) rfl) rfl) rfl) rfl) rfl) rfl) Try.func19 rfl rfl fun xs h p hp => ?_
  unfold c_khear at hp
  split at hp
  · cases hp
    exact ⟨lee_le rfl, fun hC _ => x_khear _ _ _ _ _ _ _ _ _ _ _ _ _ _ _ _ hC⟩
  · cases hp

theorem tk_l (b s : Int) (q : List E) (c : Int) : (tkN b s q c).length ≤ 100000 := tk_len b s q c

def c_ltick2 (F : Ts) : Con := fun xs h => match xs, h with
  | [.agg [.val (.int .i64 v_l), .val (.int .i64 v_c), .val (.int .i64 v_p), .val (.bool v_o), .val (.int .i64 v_b), .val (.int .i64 v_s), .sl none (.recs (.ints .u8 .nil) v_q), .val (.int .i64 v_t), .val (.int .i64 v_n), .val (.bool v_w)], .one (.val (.int .i64 n))], [] => some ⟨F.t_lb ⟨v_l, v_c, v_p, v_o, v_b, v_s, v_q, v_t, v_n, v_w⟩ = true, .tup [.agg [.val (.int .i64 ((F.t_ltk ⟨v_l, v_c, v_p, v_o, v_b, v_s, v_q, v_t, v_n, v_w⟩ n).x).l), .val (.int .i64 ((F.t_ltk ⟨v_l, v_c, v_p, v_o, v_b, v_s, v_q, v_t, v_n, v_w⟩ n).x).c), .val (.int .i64 ((F.t_ltk ⟨v_l, v_c, v_p, v_o, v_b, v_s, v_q, v_t, v_n, v_w⟩ n).x).p), .val (.bool ((F.t_ltk ⟨v_l, v_c, v_p, v_o, v_b, v_s, v_q, v_t, v_n, v_w⟩ n).x).o), .val (.int .i64 ((F.t_ltk ⟨v_l, v_c, v_p, v_o, v_b, v_s, v_q, v_t, v_n, v_w⟩ n).x).b), .val (.int .i64 ((F.t_ltk ⟨v_l, v_c, v_p, v_o, v_b, v_s, v_q, v_t, v_n, v_w⟩ n).x).s), .sl none (.recs (.ints .u8 .nil) ((F.t_ltk ⟨v_l, v_c, v_p, v_o, v_b, v_s, v_q, v_t, v_n, v_w⟩ n).x).q), .val (.int .i64 ((F.t_ltk ⟨v_l, v_c, v_p, v_o, v_b, v_s, v_q, v_t, v_n, v_w⟩ n).x).t), .val (.int .i64 ((F.t_ltk ⟨v_l, v_c, v_p, v_o, v_b, v_s, v_q, v_t, v_n, v_w⟩ n).x).n), .val (.bool ((F.t_ltk ⟨v_l, v_c, v_p, v_o, v_b, v_s, v_q, v_t, v_n, v_w⟩ n).x).w)], .agg [.sl (some (0, 62)) (.recs (.int .i64 (.int .i64 (.int .i64 (.int .i64 (.ints .u8 .nil))))) (F.t_ltk ⟨v_l, v_c, v_p, v_o, v_b, v_s, v_q, v_t, v_n, v_w⟩ n).y.f), .sl none (.recs (.ints .u8 .nil) (F.t_ltk ⟨v_l, v_c, v_p, v_o, v_b, v_s, v_q, v_t, v_n, v_w⟩ n).y.g), .val (.bool (F.t_ltk ⟨v_l, v_c, v_p, v_o, v_b, v_s, v_q, v_t, v_n, v_w⟩ n).y.d), .val (.int .i64 (F.t_ltk ⟨v_l, v_c, v_p, v_o, v_b, v_s, v_q, v_t, v_n, v_w⟩ n).y.s)], I (F.t_ltk ⟨v_l, v_c, v_p, v_o, v_b, v_s, v_q, v_t, v_n, v_w⟩ n).e], [(0, .tok)], [Any, Any]⟩
  | _, _ => none
set_option maxHeartbeats 2000000 in
set_option maxRecDepth 100000 in
theorem x_ltick2 (v_l : Int) (v_c : Int) (v_p : Int) (v_o : Bool) (v_b : Int) (v_s : Int) (v_q : List E) (v_t : Int) (v_n : Int) (v_w : Bool) (n : Int) (hC : Ts.std.t_lb ⟨v_l, v_c, v_p, v_o, v_b, v_s, v_q, v_t, v_n, v_w⟩ = true) : Does [(109, c_lcheck Ks.std), (111, c_islimit Ks.std), (112, c_isopen Ks.std), (118, c_tick Vs.std), (119, c_df Ks.std), (120, c_begun Ks.std)] Try.f54 [.agg [.val (.int .i64 v_l), .val (.int .i64 v_c), .val (.int .i64 v_p), .val (.bool v_o), .val (.int .i64 v_b), .val (.int .i64 v_s), .sl none (.recs (.ints .u8 .nil) v_q), .val (.int .i64 v_t), .val (.int .i64 v_n), .val (.bool v_w)], .one (.val (.int .i64 n))] [] ⟨Ts.std.t_lb ⟨v_l, v_c, v_p, v_o, v_b, v_s, v_q, v_t, v_n, v_w⟩ = true, .tup [.agg [.val (.int .i64 ((Ts.std.t_ltk ⟨v_l, v_c, v_p, v_o, v_b, v_s, v_q, v_t, v_n, v_w⟩ n).x).l), .val (.int .i64 ((Ts.std.t_ltk ⟨v_l, v_c, v_p, v_o, v_b, v_s, v_q, v_t, v_n, v_w⟩ n).x).c), .val (.int .i64 ((Ts.std.t_ltk ⟨v_l, v_c, v_p, v_o, v_b, v_s, v_q, v_t, v_n, v_w⟩ n).x).p), .val (.bool ((Ts.std.t_ltk ⟨v_l, v_c, v_p, v_o, v_b, v_s, v_q, v_t, v_n, v_w⟩ n).x).o), .val (.int .i64 ((Ts.std.t_ltk ⟨v_l, v_c, v_p, v_o, v_b, v_s, v_q, v_t, v_n, v_w⟩ n).x).b), .val (.int .i64 ((Ts.std.t_ltk ⟨v_l, v_c, v_p, v_o, v_b, v_s, v_q, v_t, v_n, v_w⟩ n).x).s), .sl none (.recs (.ints .u8 .nil) ((Ts.std.t_ltk ⟨v_l, v_c, v_p, v_o, v_b, v_s, v_q, v_t, v_n, v_w⟩ n).x).q), .val (.int .i64 ((Ts.std.t_ltk ⟨v_l, v_c, v_p, v_o, v_b, v_s, v_q, v_t, v_n, v_w⟩ n).x).t), .val (.int .i64 ((Ts.std.t_ltk ⟨v_l, v_c, v_p, v_o, v_b, v_s, v_q, v_t, v_n, v_w⟩ n).x).n), .val (.bool ((Ts.std.t_ltk ⟨v_l, v_c, v_p, v_o, v_b, v_s, v_q, v_t, v_n, v_w⟩ n).x).w)], .agg [.sl (some (0, 62)) (.recs (.int .i64 (.int .i64 (.int .i64 (.int .i64 (.ints .u8 .nil))))) (Ts.std.t_ltk ⟨v_l, v_c, v_p, v_o, v_b, v_s, v_q, v_t, v_n, v_w⟩ n).y.f), .sl none (.recs (.ints .u8 .nil) (Ts.std.t_ltk ⟨v_l, v_c, v_p, v_o, v_b, v_s, v_q, v_t, v_n, v_w⟩ n).y.g), .val (.bool (Ts.std.t_ltk ⟨v_l, v_c, v_p, v_o, v_b, v_s, v_q, v_t, v_n, v_w⟩ n).y.d), .val (.int .i64 (Ts.std.t_ltk ⟨v_l, v_c, v_p, v_o, v_b, v_s, v_q, v_t, v_n, v_w⟩ n).y.s)], I (Ts.std.t_ltk ⟨v_l, v_c, v_p, v_o, v_b, v_s, v_q, v_t, v_n, v_w⟩ n).e], [(0, .tok)], [Any, Any]⟩ := by
  intro b gv
  have hlb := lb_ok (show lbB ⟨v_l, v_c, v_p, v_o, v_b, v_s, v_q, v_t, v_n, v_w⟩ = true from hC)
  dsimp only at hlb
  have htl := tk_l v_b v_s v_q v_t
  have hfs := (FsOk.cons ok_lcheck (FsOk.cons ok_islimit (FsOk.cons ok_isopen (FsOk.cons ok_tick (FsOk.cons ok_df (FsOk.cons ok_begun FsOk.nil rfl) rfl) rfl) rfl) rfl) rfl)
  generalize hF : Ts.std = F at hC hfs ⊢
  generalize hG0 : Ks.std = G0 at hC hfs ⊢
  generalize hG1 : Vs.std = G1 at hC hfs ⊢
  generalize hA : Ar.std = A
  generalize hL : Lp _ _ _ = L
  obtain ⟨Z, zq⟩ := z_all
  refine cd_open (lp_mono hL) zq rfl ?_
  repeat' (first
    | (refine z_open zq ?_; try dsimp only)
    | refine cd_seq zq ?_ (lp_mono hL)
    | refine cd_blk zq ?_
    | refine cd_ret ?_
    | refine cd_skip ?_
    | refine cd_exit ?_
    | refine cd_loop ?_
    | refine cd_cond rfl ?_
    | refine cd_condT rfl ?_
    | refine cd_condF rfl ?_
    | (refine Cd.mk ?_; cbv)
    | (refine Ends1.mk ?_; cbv)
    | (refine Fin1.mk ?_; cbv)
    | exact trivial
    | refine And.intro ?_ ?_
    | refine orf fun _ => ?_
    | refine ort fun _ => ?_)
  all_goals
    clear hL zq Z hfs
    subst hF hA hG0 hG1
    simp only [Ts.std, Ks.std, Vs.std, Ar.std] at *
    try (grind [stdCmp, b_add, wr, tikL, zL, zN, chL, bgL, sndL, opL])
theorem ok_ltick2 : ConOk Try.prog 54 (c_ltick2 Ts.std) := by
  refine con_of (FsOk.cons ok_lcheck (FsOk.cons ok_islimit (FsOk.cons ok_isopen (FsOk.cons ok_tick (FsOk.cons ok_df (FsOk.cons ok_begun FsOk.nil rfl) rfl) rfl) rfl) rfl) rfl) Try.func54 rfl rfl fun xs h p hp => ?_
  unfold c_ltick2 at hp
  split at hp
  · cases hp
    exact ⟨lee_le rfl, fun hC _ => x_ltick2 _ _ _ _ _ _ _ _ _ _ _ hC⟩
  · cases hp

def c_ktick (F : Ts) : Con := fun xs h => match xs, h with
  | [.agg [.val (.int .i64 v_h), .val (.int .i64 v_g), .val (.int .i64 v_xl), .val (.int .i64 v_xc), .val (.int .i64 v_xp), .val (.bool v_xo), .val (.int .i64 v_xb), .val (.int .i64 v_xs), .sl none (.recs (.ints .u8 .nil) v_xq), .val (.int .i64 v_xt), .val (.int .i64 v_xn), .val (.bool v_xw), .val (.int .i64 v_u), .val (.int .i64 v_v)], .one (.val (.int .i64 n))], [] => some ⟨F.t_kb ⟨v_h, v_g, ⟨v_xl, v_xc, v_xp, v_xo, v_xb, v_xs, v_xq, v_xt, v_xn, v_xw⟩, v_u, v_v⟩ = true, .tup [.agg [.val (.int .i64 ((F.t_tik ⟨v_h, v_g, ⟨v_xl, v_xc, v_xp, v_xo, v_xb, v_xs, v_xq, v_xt, v_xn, v_xw⟩, v_u, v_v⟩ n).k).h), .val (.int .i64 ((F.t_tik ⟨v_h, v_g, ⟨v_xl, v_xc, v_xp, v_xo, v_xb, v_xs, v_xq, v_xt, v_xn, v_xw⟩, v_u, v_v⟩ n).k).g), .val (.int .i64 ((F.t_tik ⟨v_h, v_g, ⟨v_xl, v_xc, v_xp, v_xo, v_xb, v_xs, v_xq, v_xt, v_xn, v_xw⟩, v_u, v_v⟩ n).k).x.l), .val (.int .i64 ((F.t_tik ⟨v_h, v_g, ⟨v_xl, v_xc, v_xp, v_xo, v_xb, v_xs, v_xq, v_xt, v_xn, v_xw⟩, v_u, v_v⟩ n).k).x.c), .val (.int .i64 ((F.t_tik ⟨v_h, v_g, ⟨v_xl, v_xc, v_xp, v_xo, v_xb, v_xs, v_xq, v_xt, v_xn, v_xw⟩, v_u, v_v⟩ n).k).x.p), .val (.bool ((F.t_tik ⟨v_h, v_g, ⟨v_xl, v_xc, v_xp, v_xo, v_xb, v_xs, v_xq, v_xt, v_xn, v_xw⟩, v_u, v_v⟩ n).k).x.o), .val (.int .i64 ((F.t_tik ⟨v_h, v_g, ⟨v_xl, v_xc, v_xp, v_xo, v_xb, v_xs, v_xq, v_xt, v_xn, v_xw⟩, v_u, v_v⟩ n).k).x.b), .val (.int .i64 ((F.t_tik ⟨v_h, v_g, ⟨v_xl, v_xc, v_xp, v_xo, v_xb, v_xs, v_xq, v_xt, v_xn, v_xw⟩, v_u, v_v⟩ n).k).x.s), .sl none (.recs (.ints .u8 .nil) ((F.t_tik ⟨v_h, v_g, ⟨v_xl, v_xc, v_xp, v_xo, v_xb, v_xs, v_xq, v_xt, v_xn, v_xw⟩, v_u, v_v⟩ n).k).x.q), .val (.int .i64 ((F.t_tik ⟨v_h, v_g, ⟨v_xl, v_xc, v_xp, v_xo, v_xb, v_xs, v_xq, v_xt, v_xn, v_xw⟩, v_u, v_v⟩ n).k).x.t), .val (.int .i64 ((F.t_tik ⟨v_h, v_g, ⟨v_xl, v_xc, v_xp, v_xo, v_xb, v_xs, v_xq, v_xt, v_xn, v_xw⟩, v_u, v_v⟩ n).k).x.n), .val (.bool ((F.t_tik ⟨v_h, v_g, ⟨v_xl, v_xc, v_xp, v_xo, v_xb, v_xs, v_xq, v_xt, v_xn, v_xw⟩, v_u, v_v⟩ n).k).x.w), .val (.int .i64 ((F.t_tik ⟨v_h, v_g, ⟨v_xl, v_xc, v_xp, v_xo, v_xb, v_xs, v_xq, v_xt, v_xn, v_xw⟩, v_u, v_v⟩ n).k).u), .val (.int .i64 ((F.t_tik ⟨v_h, v_g, ⟨v_xl, v_xc, v_xp, v_xo, v_xb, v_xs, v_xq, v_xt, v_xn, v_xw⟩, v_u, v_v⟩ n).k).v)], .agg [.sl none (.recs (.int .i64 (.int .i64 (.int .i64 (.int .i64 (.ints .u8 .nil))))) ((F.t_tik ⟨v_h, v_g, ⟨v_xl, v_xc, v_xp, v_xo, v_xb, v_xs, v_xq, v_xt, v_xn, v_xw⟩, v_u, v_v⟩ n).y).f), .sl none (.recs (.ints .u8 .nil) ((F.t_tik ⟨v_h, v_g, ⟨v_xl, v_xc, v_xp, v_xo, v_xb, v_xs, v_xq, v_xt, v_xn, v_xw⟩, v_u, v_v⟩ n).y).g), .val (.bool ((F.t_tik ⟨v_h, v_g, ⟨v_xl, v_xc, v_xp, v_xo, v_xb, v_xs, v_xq, v_xt, v_xn, v_xw⟩, v_u, v_v⟩ n).y).d), .val (.int .i64 ((F.t_tik ⟨v_h, v_g, ⟨v_xl, v_xc, v_xp, v_xo, v_xb, v_xs, v_xq, v_xt, v_xn, v_xw⟩, v_u, v_v⟩ n).y).s)], I (F.t_tik ⟨v_h, v_g, ⟨v_xl, v_xc, v_xp, v_xo, v_xb, v_xs, v_xq, v_xt, v_xn, v_xw⟩, v_u, v_v⟩ n).e], [], [Any, Any]⟩
  | _, _ => none
set_option maxHeartbeats 2000000 in
set_option maxRecDepth 100000 in
theorem x_ktick (v_h : Int) (v_g : Int) (v_xl : Int) (v_xc : Int) (v_xp : Int) (v_xo : Bool) (v_xb : Int) (v_xs : Int) (v_xq : List E) (v_xt : Int) (v_xn : Int) (v_xw : Bool) (v_u : Int) (v_v : Int) (n : Int) (hC : Ts.std.t_kb ⟨v_h, v_g, ⟨v_xl, v_xc, v_xp, v_xo, v_xb, v_xs, v_xq, v_xt, v_xn, v_xw⟩, v_u, v_v⟩ = true) : Does [(60, c_kcheck Ts.std), (61, c_klimit Ts.std), (54, c_ltick2 Ts.std), (62, c_kopen Ts.std), (63, c_btick Ts.std), (64, c_kclose Ts.std)] Try.f18 [.agg [.val (.int .i64 v_h), .val (.int .i64 v_g), .val (.int .i64 v_xl), .val (.int .i64 v_xc), .val (.int .i64 v_xp), .val (.bool v_xo), .val (.int .i64 v_xb), .val (.int .i64 v_xs), .sl none (.recs (.ints .u8 .nil) v_xq), .val (.int .i64 v_xt), .val (.int .i64 v_xn), .val (.bool v_xw), .val (.int .i64 v_u), .val (.int .i64 v_v)], .one (.val (.int .i64 n))] [] ⟨Ts.std.t_kb ⟨v_h, v_g, ⟨v_xl, v_xc, v_xp, v_xo, v_xb, v_xs, v_xq, v_xt, v_xn, v_xw⟩, v_u, v_v⟩ = true, .tup [.agg [.val (.int .i64 ((Ts.std.t_tik ⟨v_h, v_g, ⟨v_xl, v_xc, v_xp, v_xo, v_xb, v_xs, v_xq, v_xt, v_xn, v_xw⟩, v_u, v_v⟩ n).k).h), .val (.int .i64 ((Ts.std.t_tik ⟨v_h, v_g, ⟨v_xl, v_xc, v_xp, v_xo, v_xb, v_xs, v_xq, v_xt, v_xn, v_xw⟩, v_u, v_v⟩ n).k).g), .val (.int .i64 ((Ts.std.t_tik ⟨v_h, v_g, ⟨v_xl, v_xc, v_xp, v_xo, v_xb, v_xs, v_xq, v_xt, v_xn, v_xw⟩, v_u, v_v⟩ n).k).x.l), .val (.int .i64 ((Ts.std.t_tik ⟨v_h, v_g, ⟨v_xl, v_xc, v_xp, v_xo, v_xb, v_xs, v_xq, v_xt, v_xn, v_xw⟩, v_u, v_v⟩ n).k).x.c), .val (.int .i64 ((Ts.std.t_tik ⟨v_h, v_g, ⟨v_xl, v_xc, v_xp, v_xo, v_xb, v_xs, v_xq, v_xt, v_xn, v_xw⟩, v_u, v_v⟩ n).k).x.p), .val (.bool ((Ts.std.t_tik ⟨v_h, v_g, ⟨v_xl, v_xc, v_xp, v_xo, v_xb, v_xs, v_xq, v_xt, v_xn, v_xw⟩, v_u, v_v⟩ n).k).x.o), .val (.int .i64 ((Ts.std.t_tik ⟨v_h, v_g, ⟨v_xl, v_xc, v_xp, v_xo, v_xb, v_xs, v_xq, v_xt, v_xn, v_xw⟩, v_u, v_v⟩ n).k).x.b), .val (.int .i64 ((Ts.std.t_tik ⟨v_h, v_g, ⟨v_xl, v_xc, v_xp, v_xo, v_xb, v_xs, v_xq, v_xt, v_xn, v_xw⟩, v_u, v_v⟩ n).k).x.s), .sl none (.recs (.ints .u8 .nil) ((Ts.std.t_tik ⟨v_h, v_g, ⟨v_xl, v_xc, v_xp, v_xo, v_xb, v_xs, v_xq, v_xt, v_xn, v_xw⟩, v_u, v_v⟩ n).k).x.q), .val (.int .i64 ((Ts.std.t_tik ⟨v_h, v_g, ⟨v_xl, v_xc, v_xp, v_xo, v_xb, v_xs, v_xq, v_xt, v_xn, v_xw⟩, v_u, v_v⟩ n).k).x.t), .val (.int .i64 ((Ts.std.t_tik ⟨v_h, v_g, ⟨v_xl, v_xc, v_xp, v_xo, v_xb, v_xs, v_xq, v_xt, v_xn, v_xw⟩, v_u, v_v⟩ n).k).x.n), .val (.bool ((Ts.std.t_tik ⟨v_h, v_g, ⟨v_xl, v_xc, v_xp, v_xo, v_xb, v_xs, v_xq, v_xt, v_xn, v_xw⟩, v_u, v_v⟩ n).k).x.w), .val (.int .i64 ((Ts.std.t_tik ⟨v_h, v_g, ⟨v_xl, v_xc, v_xp, v_xo, v_xb, v_xs, v_xq, v_xt, v_xn, v_xw⟩, v_u, v_v⟩ n).k).u), .val (.int .i64 ((Ts.std.t_tik ⟨v_h, v_g, ⟨v_xl, v_xc, v_xp, v_xo, v_xb, v_xs, v_xq, v_xt, v_xn, v_xw⟩, v_u, v_v⟩ n).k).v)], .agg [.sl none (.recs (.int .i64 (.int .i64 (.int .i64 (.int .i64 (.ints .u8 .nil))))) ((Ts.std.t_tik ⟨v_h, v_g, ⟨v_xl, v_xc, v_xp, v_xo, v_xb, v_xs, v_xq, v_xt, v_xn, v_xw⟩, v_u, v_v⟩ n).y).f), .sl none (.recs (.ints .u8 .nil) ((Ts.std.t_tik ⟨v_h, v_g, ⟨v_xl, v_xc, v_xp, v_xo, v_xb, v_xs, v_xq, v_xt, v_xn, v_xw⟩, v_u, v_v⟩ n).y).g), .val (.bool ((Ts.std.t_tik ⟨v_h, v_g, ⟨v_xl, v_xc, v_xp, v_xo, v_xb, v_xs, v_xq, v_xt, v_xn, v_xw⟩, v_u, v_v⟩ n).y).d), .val (.int .i64 ((Ts.std.t_tik ⟨v_h, v_g, ⟨v_xl, v_xc, v_xp, v_xo, v_xb, v_xs, v_xq, v_xt, v_xn, v_xw⟩, v_u, v_v⟩ n).y).s)], I (Ts.std.t_tik ⟨v_h, v_g, ⟨v_xl, v_xc, v_xp, v_xo, v_xb, v_xs, v_xq, v_xt, v_xn, v_xw⟩, v_u, v_v⟩ n).e], [], [Any, Any]⟩ := by
  intro b gv
  have hkb : lbB ⟨v_xl, v_xc, v_xp, v_xo, v_xb, v_xs, v_xq, v_xt, v_xn, v_xw⟩ = true := hC
  have hbs : byS v_xq = true := hkb
  have hmk := may_K (k := ⟨v_h, v_g, ⟨v_xl, v_xc, v_xp, v_xo, v_xb, v_xs, v_xq, v_xt, v_xn, v_xw⟩, v_u, v_v⟩)
  dsimp only at hmk
  have hlt := fun h1 h2 => lb_tik (x := ⟨v_xl, v_xc, v_xp, v_xo, v_xb, v_xs, v_xq, v_xt, v_xn, v_xw⟩) (n := n) hbs h1 h2
  have hkk : ∀ a b c d e, kbB ⟨a, b, c, d, e⟩ = lbB c := fun _ _ _ _ _ => rfl
  generalize hF : Ts.std = F at hC ⊢
  generalize hA : Ar.std = A
  generalize hL : Lp _ _ _ = L
  obtain ⟨Z, zq⟩ := z_all
  refine cd_open (lp_mono hL) zq rfl ?_
  repeat' (first
    | (refine z_open zq ?_; try dsimp only)
    | refine cd_seq zq ?_ (lp_mono hL)
    | refine cd_blk zq ?_
    | refine cd_ret ?_
    | refine cd_skip ?_
    | refine cd_exit ?_
    | refine cd_loop ?_
    | refine cd_cond rfl ?_
    | refine cd_condT rfl ?_
    | refine cd_condF rfl ?_
    | (refine Cd.mk ?_; cbv)
    | (refine Ends1.mk ?_; cbv)
    | (refine Fin1.mk ?_; cbv)
    | exact trivial
    | refine And.intro ?_ ?_
    | refine orf fun _ => ?_
    | refine ort fun _ => ?_)
  all_goals
    clear hL zq Z
    subst hF hA
    simp only [Ts.std, Ar.std, eta_LN] at *
    try (grind [stdCmp, b_add, wr, tikK, cloK, zK, zL, zN, chK, btT, bmB, opL])
theorem ok_ktick : ConOk Try.prog 18 (c_ktick Ts.std) := by
  refine con_of (FsOk.cons ok_kcheck (FsOk.cons ok_klimit (FsOk.cons ok_ltick2 (FsOk.cons ok_kopen (FsOk.cons ok_btick (FsOk.cons ok_kclose FsOk.nil rfl) rfl) rfl) rfl) rfl) rfl) Try.func18 rfl rfl fun xs h p hp => ?_
  unfold c_ktick at hp
  split at hp
  · cases hp
    exact ⟨lee_le rfl, fun hC _ => x_ktick _ _ _ _ _ _ _ _ _ _ _ _ _ _ _ hC⟩
  · cases hp
end Go.Proofs.Ytgemoemkgcmcgaa.LkR
