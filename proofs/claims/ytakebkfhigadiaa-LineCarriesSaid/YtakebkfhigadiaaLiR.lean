
/-
  lines over the reckoner. No condition.
-/
import Derived.Test.YtakebkfhigadiaaHaR
import Derived.Test.YtakebkfhigadiaaSeV
import Derived.Test.YtakebkfhigadiaaFrR
namespace Go.Proofs.Ytakebkfhigadiaa.LiR
open Go Go.Proofs.Ytakebkfhigadiaa.Ry Go.Proofs.Ytakebkfhigadiaa.HaR Go.Proofs.Ytakebkfhigadiaa.SeR Go.Proofs.Ytakebkfhigadiaa.SeS Go.Proofs.Ytakebkfhigadiaa.SeT Go.Proofs.Ytakebkfhigadiaa.SeL Go.Proofs.Ytakebkfhigadiaa.SeV

open Go.Proofs.Ytakebkfhigadiaa.FrR (mayF chF isC)
abbrev c_fcheck := FrR.c_check
theorem ok_fcheck : ConOk Try.prog 44 (c_fcheck FrR.Rs.std) := FrR.ok_check
/-- A line. -/
structure LN where
  l : Int
  c : Int
  p : Int
  o : Bool
  b : Int
  s : Int
  q : List E
  t : Int
  n : Int
  w : Bool
/-- News. -/
structure NW where
  f : List E
  g : List E
  d : Bool
  s : Int
/-- A line, news and an error. -/
structure LD where
  x : LN
  y : NW
  e : Int
theorem eta_LN (x : LN) : (⟨x.l, x.c, x.p, x.o, x.b, x.s, x.q, x.t, x.n, x.w⟩ : LN) = x := rfl
theorem eta_NW (x : NW) : (⟨x.f, x.g, x.d, x.s⟩ : NW) = x := rfl
def zL : LN := ⟨0, 0, 0, false, 0, 0, [], 0, 0, false⟩
def zN : NW := ⟨[], [], false, 0⟩
def cpL (x : LN) : LN := ⟨x.l, x.c, x.p, x.o, x.b, x.s, nq x.q, x.t, x.n, x.w⟩
def bgL (x : LN) : LN := ⟨x.l, x.c, x.p, x.o, 0, 0, [], 0, 0, false⟩
def lbB (x : LN) : Bool := byS x.q
def opL (x : LN) : Bool := x.c != 0
def smL (x y : LN) : Bool := decide (x.l = y.l ∧ x.c = y.c ∧ x.p = y.p ∧ x.o = y.o) && decide (x.n = y.n ∧ x.w = y.w) && smS x.b x.s x.q x.t y.b y.s y.q y.t
def mayL (x : LN) : Bool := mayH x.l x.c x.p x.o && maySn x.b x.s x.q x.t && cntB x.n && (opL x || smL x (bgL x))
def chL (x : LN) : Int := if mayL x = true then 0 else 1
def newL (limit : Int) : LD := let h := newF 0 limit; if h.e = 0 then ⟨⟨h.l, h.c, h.p, h.o, 0, 0, [], 0, 0, false⟩, zN, 0⟩ else ⟨zL, zN, h.e⟩
def sndL (x : LN) (a : SD) : LN := ⟨x.l, x.c, x.p, x.o, a.b, a.s, a.q, a.c, x.n, x.w⟩
def pushL (x : LN) (p : List Int) (limit : Int) : LD :=
  if mayL x = true ∧ limitB limit = true then
    if opL x = true then (if (pushS x.b x.s x.q x.t p limit).e = 0 then ⟨sndL x (pushS x.b x.s x.q x.t p limit), zN, 0⟩ else ⟨zL, zN, (pushS x.b x.s x.q x.t p limit).e⟩)
    else ⟨zL, zN, 4⟩
  else ⟨zL, zN, 1⟩
def ackdL (x : LN) (k : Int) : LN := sndL x (ackS x.b x.s x.q x.t k)
def hndL (x : LN) (r : HandQ) : LN := ⟨r.l, r.c, r.p, r.o, x.b, x.s, x.q, x.t, x.n, x.w⟩
def hloL (x : LN) (p limit : Int) : LD :=
  let r := helF x.l x.c x.p x.o p limit
  ⟨if r.b = true then bgL (hndL x r) else hndL x r, ⟨if r.a = true then [[.int 2, .int p, .int 0, .int 0, .ints []]] else [], [], r.b, 0⟩, 0⟩
def wlcL (x : LN) (p : Int) : LD :=
  let r := welF x.l x.c x.p x.o p
  if r.a = true then ⟨⟨r.l, r.c, r.p, r.o, 0, 0, [], 0, 0, false⟩, ⟨[], [], false, p⟩, 0⟩ else ⟨x, zN, 0⟩
def datL (x : LN) (q a : Int) (p : List Int) : LD :=
  let g := getF x.n q
  ⟨ackdL ⟨x.l, x.c, x.p, x.o, x.b, x.s, x.q, x.t, g.n, g.w⟩ a, ⟨[], if g.a = true then [[.ints p]] else [], false, 0⟩, 0⟩
def hearL (x : LN) (k s q a : Int) (p : List Int) (limit : Int) : LD :=
  if mayL x = true ∧ mayF k s q a p = true ∧ limitB limit = true then
    if k = 1 then hloL (cpL x) s limit
    else if k = 2 then wlcL (cpL x) s
    else if opL x = false ∨ s ≠ x.c then ⟨cpL x, zN, 0⟩
    else if k = 3 then datL x q a p
    else ⟨ackdL x a, zN, 0⟩
  else ⟨zL, zN, 1⟩
def dfL (s n : Int) (l : List E) : List E := l.map fun y => [.int 3, .int s, .int (ri y 0), .int n, .ints (rl y 1)]
def tikL (x : LN) (limit : Int) : LD :=
  if mayL x = true ∧ limitB limit = true then
    if opL x = true then ⟨sndL x (tkS x.b x.s x.q x.t), ⟨dfL x.c x.n (tkN x.b x.s x.q x.t), [], false, 0⟩, 0⟩
    else ⟨bgL x, ⟨if x.o = true then [] else [[.int 1, .int x.p, .int 0, .int 0, .ints []]], [], false, 0⟩, 0⟩
  else ⟨zL, zN, 1⟩
def fluL (x : LN) : LD :=
  if mayL x = true then
    if opL x = true then
      ⟨⟨x.l, x.c, x.p, x.o, (rdyS x.b x.s x.q x.t).b, (rdyS x.b x.s x.q x.t).s, (rdyS x.b x.s x.q x.t).q, (rdyS x.b x.s x.q x.t).c, x.n, false⟩,
       ⟨if x.w = true then dfL x.c x.n (rdyN x.b x.s x.q x.t) ++ [[.int 4, .int x.c, .int 0, .int x.n, .ints []]] else dfL x.c x.n (rdyN x.b x.s x.q x.t), [], false, 0⟩, 0⟩
    else ⟨bgL x, zN, 0⟩
  else ⟨zL, zN, 1⟩
def cloL (x : LN) (limit : Int) : LD :=
  if mayL x = true ∧ limitB limit = true then
    if opL x = true then (let h := closeF x.l x.c x.p x.o limit; ⟨⟨h.l, h.c, h.p, h.o, 0, 0, [], 0, 0, false⟩, ⟨[], [], true, 0⟩, 0⟩)
    else ⟨bgL x, zN, 0⟩
  else ⟨zL, zN, 1⟩
theorem lb_ok {x : LN} (h : lbB x = true) : x.q.length ≤ 100000 ∧ (byS x.q && byS []) = true := by
  unfold lbB at h
  refine ⟨(of_decide_eq_true h).1, ?_⟩
  rw [h]
  rfl
theorem may_L {x : LN} (h : mayL x = true) : mayH x.l x.c x.p x.o = true ∧ maySn x.b x.s x.q x.t = true ∧ cntB x.n = true ∧ (opL x = true ∨ smL x (bgL x) = true) := by
  simp only [mayL, Bool.and_eq_true, Bool.or_eq_true] at h
  exact ⟨h.1.1.1, h.1.1.2, h.1.2, h.2⟩
theorem df_len (s n : Int) (l : List E) : (dfL s n l).length = l.length := by simp [dfL]
theorem hlo_e (x : LN) (p n : Int) : (hloL x p n).e = 0 := rfl
theorem wlc_e (x : LN) (p : Int) : (wlcL x p).e = 0 := by
  unfold wlcL
  dsimp only
  split <;> rfl
theorem dat_e (x : LN) (q a : Int) (p : List Int) : (datL x q a p).e = 0 := rfl
theorem may_F {k s q a : Int} {p : List Int} (h : mayF k s q a p = true) : p.length ≤ 16384 := by
  simp only [mayF, Bool.and_eq_true, decide_eq_true_eq] at h
  exact h.1.2
theorem tk_len (b s : Int) (q : List E) (c : Int) : (tkN b s q c).length ≤ 100000 := by
  unfold tkN
  repeat' split
  all_goals first | (simp; done) | skip
  rw [nus_len]
  have hm : maySn b s q c = true := by cases h : maySn b s q c <;> simp_all
  have := may_ok hm
  omega
theorem rd_len (b s : Int) (q : List E) (c : Int) : (rdyN b s q c).length ≤ 16 := by
  unfold rdyN
  split
  · simp
  · rw [nus_len]
    have hm : maySn b s q c = true := by cases h : maySn b s q c <;> simp_all
    have := may_ok hm
    have := mb_le q
    omega
structure XD where
  i : Int
  o : List E

structure Ks where
  k_lb : LN → Bool
  k_op : LN → Bool
  k_bg : LN → LN
  k_cp : LN → LN
  k_sm : LN → LN → Bool
  k_sb : LN → LN → Bool
  k_may : LN → Bool
  k_ch : LN → Int
  k_limit : Int → Bool
  k_new : Int → LD
  k_push : LN → List Int → Int → LD
  k_ackd : LN → Int → LN
  k_hlo : LN → Int → Int → LD
  k_wlc : LN → Int → LD
  k_dat : LN → Int → Int → List Int → LD
  k_hear : LN → Int → Int → Int → Int → List Int → Int → LD
  k_df : Int → Int → List E → List E
  k_tik : LN → Int → LD
  k_flu : LN → LD
  k_clo : LN → Int → LD
  k_lq : List E → Bool
  k_p : List Int → Bool
  k_okQ : List E → Bool
  k_dc : LN → List Int → Bool
def Ks.std : Ks := ⟨lbB, opL, bgL, cpL, smL, fun x y => byS x.q && byS y.q, mayL, chL, limitB, newL, pushL, ackdL, hloL, wlcL, datL, hearL, dfL, tikL, fluL, cloL, fun l => decide (l.length ≤ 100000), fun l => decide (l.length ≤ 1000000), okQ, fun x p => decide (x.q.length ≤ 100000) && decide (p.length ≤ 1000000)⟩

def c_isopen (F : Ks) : Con := fun xs h => match xs, h with
  | [.agg [.val (.int .i64 v_l), .val (.int .i64 v_c), .val (.int .i64 v_p), .val (.bool v_o), .val (.int .i64 v_b), .val (.int .i64 v_s), .sl none (.recs (.ints .u8 .nil) v_q), .val (.int .i64 v_t), .val (.int .i64 v_n), .val (.bool v_w)]], [] => some ⟨True, .sa (B (F.k_op ⟨v_l, v_c, v_p, v_o, v_b, v_s, v_q, v_t, v_n, v_w⟩)), [], [Any]⟩
  | _, _ => none
set_option maxHeartbeats 2000000 in
set_option maxRecDepth 100000 in
theorem x_isopen (v_l : Int) (v_c : Int) (v_p : Int) (v_o : Bool) (v_b : Int) (v_s : Int) (v_q : List E) (v_t : Int) (v_n : Int) (v_w : Bool) : Does [] Try.f46 [.agg [.val (.int .i64 v_l), .val (.int .i64 v_c), .val (.int .i64 v_p), .val (.bool v_o), .val (.int .i64 v_b), .val (.int .i64 v_s), .sl none (.recs (.ints .u8 .nil) v_q), .val (.int .i64 v_t), .val (.int .i64 v_n), .val (.bool v_w)]] [] ⟨True, .sa (B (Ks.std.k_op ⟨v_l, v_c, v_p, v_o, v_b, v_s, v_q, v_t, v_n, v_w⟩)), [], [Any]⟩ := by
  intro b gv
  generalize hF : Ks.std = F
  generalize hA : Ar.std = A
  generalize hL : Lp _ _ _ = L
  obtain ⟨Z, zq⟩ := z_all
  refine cd_open (lp_mono hL) zq rfl ?_
  repeat' (first
    | (refine z_open zq ?_; try dsimp only)
    | refine cd_seq zq ?_ (lp_mono hL)
    | refine cd_blk zq ?_
    | refine cd_ret ?_
    | refine cd_skip ?_
    | refine cd_exit ?_
    | refine cd_loop ?_
    | refine cd_cond rfl ?_
    | refine cd_condT rfl ?_
    | refine cd_condF rfl ?_
    | (refine Cd.mk ?_; cbv)
    | (refine Ends1.mk ?_; cbv)
    | (refine Fin1.mk ?_; cbv)
    | exact trivial
    | refine And.intro ?_ ?_
    | refine orf fun _ => ?_
    | refine ort fun _ => ?_)
  all_goals
    clear hL zq Z
    subst hF hA
    simp only [Ks.std, Ar.std] at *
    try (grind [stdCmp, b_add, wr, opL])
theorem ok_isopen : ConOk Try.prog 46 (c_isopen Ks.std) := by
  refine con_of FsOk.nil Try.func46 rfl rfl fun xs h p hp => ?_
  unfold c_isopen at hp
  split at hp
  · cases hp
    exact ⟨lee_le rfl, fun _ _ => x_isopen _ _ _ _ _ _ _ _ _ _⟩
  · cases hp

def c_islimit (F : Ks) : Con := fun xs h => match xs, h with
  | [.one (.val (.int .i64 n))], [] => some ⟨True, .sa (B (F.k_limit n)), [], [Any]⟩
  | _, _ => none
set_option maxHeartbeats 2000000 in
set_option maxRecDepth 100000 in
theorem x_islimit (n : Int) : Does [] Try.f45 [.one (.val (.int .i64 n))] [] ⟨True, .sa (B (Ks.std.k_limit n)), [], [Any]⟩ := by
  intro b gv
  generalize hF : Ks.std = F
  generalize hA : Ar.std = A
  generalize hL : Lp _ _ _ = L
  obtain ⟨Z, zq⟩ := z_all
  refine cd_open (lp_mono hL) zq rfl ?_
  repeat' (first
    | (refine z_open zq ?_; try dsimp only)
    | refine cd_seq zq ?_ (lp_mono hL)
    | refine cd_blk zq ?_
    | refine cd_ret ?_
    | refine cd_skip ?_
    | refine cd_exit ?_
    | refine cd_loop ?_
    | refine cd_cond rfl ?_
    | refine cd_condT rfl ?_
    | refine cd_condF rfl ?_
    | (refine Cd.mk ?_; cbv)
    | (refine Ends1.mk ?_; cbv)
    | (refine Fin1.mk ?_; cbv)
    | exact trivial
    | refine And.intro ?_ ?_
    | refine orf fun _ => ?_
    | refine ort fun _ => ?_)
  all_goals
    clear hL zq Z
    subst hF hA
    simp only [Ks.std, Ar.std] at *
    try (grind [stdCmp, b_add, wr, limitB])
theorem ok_islimit : ConOk Try.prog 45 (c_islimit Ks.std) := by
  refine con_of FsOk.nil Try.func45 rfl rfl fun xs h p hp => ?_
  unfold c_islimit at hp
  split at hp
  · cases hp
    exact ⟨lee_le rfl, fun _ _ => x_islimit _⟩
  · cases hp

def c_begun (F : Ks) : Con := fun xs h => match xs, h with
  | [.agg [.val (.int .i64 v_l), .val (.int .i64 v_c), .val (.int .i64 v_p), .val (.bool v_o), .val (.int .i64 v_b), .val (.int .i64 v_s), .sl none (.recs (.ints .u8 .nil) v_q), .val (.int .i64 v_t), .val (.int .i64 v_n), .val (.bool v_w)]], [] => some ⟨True, .sa (.agg [.val (.int .i64 (F.k_bg ⟨v_l, v_c, v_p, v_o, v_b, v_s, v_q, v_t, v_n, v_w⟩).l), .val (.int .i64 (F.k_bg ⟨v_l, v_c, v_p, v_o, v_b, v_s, v_q, v_t, v_n, v_w⟩).c), .val (.int .i64 (F.k_bg ⟨v_l, v_c, v_p, v_o, v_b, v_s, v_q, v_t, v_n, v_w⟩).p), .val (.bool (F.k_bg ⟨v_l, v_c, v_p, v_o, v_b, v_s, v_q, v_t, v_n, v_w⟩).o), .val (.int .i64 (F.k_bg ⟨v_l, v_c, v_p, v_o, v_b, v_s, v_q, v_t, v_n, v_w⟩).b), .val (.int .i64 (F.k_bg ⟨v_l, v_c, v_p, v_o, v_b, v_s, v_q, v_t, v_n, v_w⟩).s), .sl none (.recs (.ints .u8 .nil) (F.k_bg ⟨v_l, v_c, v_p, v_o, v_b, v_s, v_q, v_t, v_n, v_w⟩).q), .val (.int .i64 (F.k_bg ⟨v_l, v_c, v_p, v_o, v_b, v_s, v_q, v_t, v_n, v_w⟩).t), .val (.int .i64 (F.k_bg ⟨v_l, v_c, v_p, v_o, v_b, v_s, v_q, v_t, v_n, v_w⟩).n), .val (.bool (F.k_bg ⟨v_l, v_c, v_p, v_o, v_b, v_s, v_q, v_t, v_n, v_w⟩).w)]), [], [Any]⟩
  | _, _ => none
set_option maxHeartbeats 2000000 in
set_option maxRecDepth 100000 in
theorem x_begun (v_l : Int) (v_c : Int) (v_p : Int) (v_o : Bool) (v_b : Int) (v_s : Int) (v_q : List E) (v_t : Int) (v_n : Int) (v_w : Bool) : Does [] Try.f54 [.agg [.val (.int .i64 v_l), .val (.int .i64 v_c), .val (.int .i64 v_p), .val (.bool v_o), .val (.int .i64 v_b), .val (.int .i64 v_s), .sl none (.recs (.ints .u8 .nil) v_q), .val (.int .i64 v_t), .val (.int .i64 v_n), .val (.bool v_w)]] [] ⟨True, .sa (.agg [.val (.int .i64 (Ks.std.k_bg ⟨v_l, v_c, v_p, v_o, v_b, v_s, v_q, v_t, v_n, v_w⟩).l), .val (.int .i64 (Ks.std.k_bg ⟨v_l, v_c, v_p, v_o, v_b, v_s, v_q, v_t, v_n, v_w⟩).c), .val (.int .i64 (Ks.std.k_bg ⟨v_l, v_c, v_p, v_o, v_b, v_s, v_q, v_t, v_n, v_w⟩).p), .val (.bool (Ks.std.k_bg ⟨v_l, v_c, v_p, v_o, v_b, v_s, v_q, v_t, v_n, v_w⟩).o), .val (.int .i64 (Ks.std.k_bg ⟨v_l, v_c, v_p, v_o, v_b, v_s, v_q, v_t, v_n, v_w⟩).b), .val (.int .i64 (Ks.std.k_bg ⟨v_l, v_c, v_p, v_o, v_b, v_s, v_q, v_t, v_n, v_w⟩).s), .sl none (.recs (.ints .u8 .nil) (Ks.std.k_bg ⟨v_l, v_c, v_p, v_o, v_b, v_s, v_q, v_t, v_n, v_w⟩).q), .val (.int .i64 (Ks.std.k_bg ⟨v_l, v_c, v_p, v_o, v_b, v_s, v_q, v_t, v_n, v_w⟩).t), .val (.int .i64 (Ks.std.k_bg ⟨v_l, v_c, v_p, v_o, v_b, v_s, v_q, v_t, v_n, v_w⟩).n), .val (.bool (Ks.std.k_bg ⟨v_l, v_c, v_p, v_o, v_b, v_s, v_q, v_t, v_n, v_w⟩).w)]), [], [Any]⟩ := by
  intro b gv
  generalize hF : Ks.std = F
  generalize hA : Ar.std = A
  generalize hL : Lp _ _ _ = L
  obtain ⟨Z, zq⟩ := z_all
  refine cd_open (lp_mono hL) zq rfl ?_
  repeat' (first
    | (refine z_open zq ?_; try dsimp only)
    | refine cd_seq zq ?_ (lp_mono hL)
    | refine cd_blk zq ?_
    | refine cd_ret ?_
    | refine cd_skip ?_
    | refine cd_exit ?_
    | refine cd_loop ?_
    | refine cd_cond rfl ?_
    | refine cd_condT rfl ?_
    | refine cd_condF rfl ?_
    | (refine Cd.mk ?_; cbv)
    | (refine Ends1.mk ?_; cbv)
    | (refine Fin1.mk ?_; cbv)
    | exact trivial
    | refine And.intro ?_ ?_
    | refine orf fun _ => ?_
    | refine ort fun _ => ?_)
  all_goals
    clear hL zq Z
    subst hF hA
    simp only [Ks.std] at *
    try (grind [stdCmp, b_add, wr, bgL])
theorem ok_begun : ConOk Try.prog 54 (c_begun Ks.std) := by
  refine con_of FsOk.nil Try.func54 rfl rfl fun xs h p hp => ?_
  unfold c_begun at hp
  split at hp
  · cases hp
    exact ⟨lee_le rfl, fun _ _ => x_begun _ _ _ _ _ _ _ _ _ _⟩
  · cases hp

def c_copied (F : Ks) : Con := fun xs h => match xs, h with
  | [.agg [.val (.int .i64 v_l), .val (.int .i64 v_c), .val (.int .i64 v_p), .val (.bool v_o), .val (.int .i64 v_b), .val (.int .i64 v_s), .sl none (.recs (.ints .u8 .nil) v_q), .val (.int .i64 v_t), .val (.int .i64 v_n), .val (.bool v_w)]], [] => some ⟨F.k_okQ v_q = true, .sa (.agg [.val (.int .i64 (F.k_cp ⟨v_l, v_c, v_p, v_o, v_b, v_s, v_q, v_t, v_n, v_w⟩).l), .val (.int .i64 (F.k_cp ⟨v_l, v_c, v_p, v_o, v_b, v_s, v_q, v_t, v_n, v_w⟩).c), .val (.int .i64 (F.k_cp ⟨v_l, v_c, v_p, v_o, v_b, v_s, v_q, v_t, v_n, v_w⟩).p), .val (.bool (F.k_cp ⟨v_l, v_c, v_p, v_o, v_b, v_s, v_q, v_t, v_n, v_w⟩).o), .val (.int .i64 (F.k_cp ⟨v_l, v_c, v_p, v_o, v_b, v_s, v_q, v_t, v_n, v_w⟩).b), .val (.int .i64 (F.k_cp ⟨v_l, v_c, v_p, v_o, v_b, v_s, v_q, v_t, v_n, v_w⟩).s), .sl none (.recs (.ints .u8 .nil) (F.k_cp ⟨v_l, v_c, v_p, v_o, v_b, v_s, v_q, v_t, v_n, v_w⟩).q), .val (.int .i64 (F.k_cp ⟨v_l, v_c, v_p, v_o, v_b, v_s, v_q, v_t, v_n, v_w⟩).t), .val (.int .i64 (F.k_cp ⟨v_l, v_c, v_p, v_o, v_b, v_s, v_q, v_t, v_n, v_w⟩).n), .val (.bool (F.k_cp ⟨v_l, v_c, v_p, v_o, v_b, v_s, v_q, v_t, v_n, v_w⟩).w)]), [], [Any]⟩
  | _, _ => none
set_option maxHeartbeats 2000000 in
set_option maxRecDepth 100000 in
theorem x_copied (v_l : Int) (v_c : Int) (v_p : Int) (v_o : Bool) (v_b : Int) (v_s : Int) (v_q : List E) (v_t : Int) (v_n : Int) (v_w : Bool) (hC : Ks.std.k_okQ v_q = true) : Does [(68, c_lists SeR.Fs.std)] Try.f48 [.agg [.val (.int .i64 v_l), .val (.int .i64 v_c), .val (.int .i64 v_p), .val (.bool v_o), .val (.int .i64 v_b), .val (.int .i64 v_s), .sl none (.recs (.ints .u8 .nil) v_q), .val (.int .i64 v_t), .val (.int .i64 v_n), .val (.bool v_w)]] [] ⟨Ks.std.k_okQ v_q = true, .sa (.agg [.val (.int .i64 (Ks.std.k_cp ⟨v_l, v_c, v_p, v_o, v_b, v_s, v_q, v_t, v_n, v_w⟩).l), .val (.int .i64 (Ks.std.k_cp ⟨v_l, v_c, v_p, v_o, v_b, v_s, v_q, v_t, v_n, v_w⟩).c), .val (.int .i64 (Ks.std.k_cp ⟨v_l, v_c, v_p, v_o, v_b, v_s, v_q, v_t, v_n, v_w⟩).p), .val (.bool (Ks.std.k_cp ⟨v_l, v_c, v_p, v_o, v_b, v_s, v_q, v_t, v_n, v_w⟩).o), .val (.int .i64 (Ks.std.k_cp ⟨v_l, v_c, v_p, v_o, v_b, v_s, v_q, v_t, v_n, v_w⟩).b), .val (.int .i64 (Ks.std.k_cp ⟨v_l, v_c, v_p, v_o, v_b, v_s, v_q, v_t, v_n, v_w⟩).s), .sl none (.recs (.ints .u8 .nil) (Ks.std.k_cp ⟨v_l, v_c, v_p, v_o, v_b, v_s, v_q, v_t, v_n, v_w⟩).q), .val (.int .i64 (Ks.std.k_cp ⟨v_l, v_c, v_p, v_o, v_b, v_s, v_q, v_t, v_n, v_w⟩).t), .val (.int .i64 (Ks.std.k_cp ⟨v_l, v_c, v_p, v_o, v_b, v_s, v_q, v_t, v_n, v_w⟩).n), .val (.bool (Ks.std.k_cp ⟨v_l, v_c, v_p, v_o, v_b, v_s, v_q, v_t, v_n, v_w⟩).w)]), [], [Any]⟩ := by
  intro b gv
  have hfs := (FsOk.cons ok_lists FsOk.nil rfl)
  generalize hF : Ks.std = F at hC hfs ⊢
  generalize hG0 : SeR.Fs.std = G0 at hC hfs ⊢
  generalize hA : Ar.std = A
  generalize hL : Lp _ _ _ = L
  obtain ⟨Z, zq⟩ := z_all
  refine cd_open (lp_mono hL) zq rfl ?_
  repeat' (first
    | (refine z_open zq ?_; try dsimp only)
    | refine cd_seq zq ?_ (lp_mono hL)
    | refine cd_blk zq ?_
    | refine cd_ret ?_
    | refine cd_skip ?_
    | refine cd_exit ?_
    | refine cd_loop ?_
    | refine cd_cond rfl ?_
    | refine cd_condT rfl ?_
    | refine cd_condF rfl ?_
    | (refine Cd.mk ?_; cbv)
    | (refine Ends1.mk ?_; cbv)
    | (refine Fin1.mk ?_; cbv)
    | exact trivial
    | refine And.intro ?_ ?_
    | refine orf fun _ => ?_
    | refine ort fun _ => ?_)
  all_goals
    clear hL zq Z hfs
    subst hF hA hG0
    simp only [Ks.std, SeR.Fs.std] at *
    try (grind [stdCmp, b_add, wr, cpL])
theorem ok_copied : ConOk Try.prog 48 (c_copied Ks.std) := by
  refine con_of (FsOk.cons ok_lists FsOk.nil rfl) Try.func48 rfl rfl fun xs h p hp => ?_
  unfold c_copied at hp
  split at hp
  · cases hp
    exact ⟨lee_le rfl, fun hC _ => x_copied _ _ _ _ _ _ _ _ _ _ hC⟩
  · cases hp

def c_lsame (F : Ks) : Con := fun xs h => match xs, h with
  | [.agg [.val (.int .i64 v_l), .val (.int .i64 v_c), .val (.int .i64 v_p), .val (.bool v_o), .val (.int .i64 v_b), .val (.int .i64 v_s), .sl none (.recs (.ints .u8 .nil) v_q), .val (.int .i64 v_t), .val (.int .i64 v_n), .val (.bool v_w)], .agg [.val (.int .i64 y_l), .val (.int .i64 y_c), .val (.int .i64 y_p), .val (.bool y_o), .val (.int .i64 y_b), .val (.int .i64 y_s), .sl none (.recs (.ints .u8 .nil) y_q), .val (.int .i64 y_t), .val (.int .i64 y_n), .val (.bool y_w)]], [] => some ⟨F.k_sb ⟨v_l, v_c, v_p, v_o, v_b, v_s, v_q, v_t, v_n, v_w⟩ ⟨y_l, y_c, y_p, y_o, y_b, y_s, y_q, y_t, y_n, y_w⟩ = true, .sa (B (F.k_sm ⟨v_l, v_c, v_p, v_o, v_b, v_s, v_q, v_t, v_n, v_w⟩ ⟨y_l, y_c, y_p, y_o, y_b, y_s, y_q, y_t, y_n, y_w⟩)), [], [Any, Any]⟩
  | _, _ => none
set_option maxHeartbeats 2000000 in
set_option maxRecDepth 100000 in
theorem x_lsame (v_l : Int) (v_c : Int) (v_p : Int) (v_o : Bool) (v_b : Int) (v_s : Int) (v_q : List E) (v_t : Int) (v_n : Int) (v_w : Bool) (y_l : Int) (y_c : Int) (y_p : Int) (y_o : Bool) (y_b : Int) (y_s : Int) (y_q : List E) (y_t : Int) (y_n : Int) (y_w : Bool) (hC : Ks.std.k_sb ⟨v_l, v_c, v_p, v_o, v_b, v_s, v_q, v_t, v_n, v_w⟩ ⟨y_l, y_c, y_p, y_o, y_b, y_s, y_q, y_t, y_n, y_w⟩ = true) : Does [(83, c_same Hs.std)] Try.f65 [.agg [.val (.int .i64 v_l), .val (.int .i64 v_c), .val (.int .i64 v_p), .val (.bool v_o), .val (.int .i64 v_b), .val (.int .i64 v_s), .sl none (.recs (.ints .u8 .nil) v_q), .val (.int .i64 v_t), .val (.int .i64 v_n), .val (.bool v_w)], .agg [.val (.int .i64 y_l), .val (.int .i64 y_c), .val (.int .i64 y_p), .val (.bool y_o), .val (.int .i64 y_b), .val (.int .i64 y_s), .sl none (.recs (.ints .u8 .nil) y_q), .val (.int .i64 y_t), .val (.int .i64 y_n), .val (.bool y_w)]] [] ⟨Ks.std.k_sb ⟨v_l, v_c, v_p, v_o, v_b, v_s, v_q, v_t, v_n, v_w⟩ ⟨y_l, y_c, y_p, y_o, y_b, y_s, y_q, y_t, y_n, y_w⟩ = true, .sa (B (Ks.std.k_sm ⟨v_l, v_c, v_p, v_o, v_b, v_s, v_q, v_t, v_n, v_w⟩ ⟨y_l, y_c, y_p, y_o, y_b, y_s, y_q, y_t, y_n, y_w⟩)), [], [Any, Any]⟩ := by
  intro b gv
  have hfs := (FsOk.cons ok_same FsOk.nil rfl)
  generalize hF : Ks.std = F at hC hfs ⊢
  generalize hG0 : Hs.std = G0 at hC hfs ⊢
  generalize hA : Ar.std = A
  generalize hL : Lp _ _ _ = L
  obtain ⟨Z, zq⟩ := z_all
  refine cd_open (lp_mono hL) zq rfl ?_
  repeat' (first
    | (refine z_open zq ?_; try dsimp only)
    | refine cd_seq zq ?_ (lp_mono hL)
    | refine cd_blk zq ?_
    | refine cd_ret ?_
    | refine cd_skip ?_
    | refine cd_exit ?_
    | refine cd_loop ?_
    | refine cd_cond rfl ?_
    | refine cd_condT rfl ?_
    | refine cd_condF rfl ?_
    | (refine Cd.mk ?_; cbv)
    | (refine Ends1.mk ?_; cbv)
    | (refine Fin1.mk ?_; cbv)
    | exact trivial
    | refine And.intro ?_ ?_
    | refine orf fun _ => ?_
    | refine ort fun _ => ?_)
  all_goals
    clear hL zq Z hfs
    subst hF hA hG0
    simp only [Ks.std, Hs.std, Ar.std] at *
    try (grind [stdCmp, b_add, wr, smL])
theorem ok_lsame : ConOk Try.prog 65 (c_lsame Ks.std) := by
  refine con_of (FsOk.cons ok_same FsOk.nil rfl) Try.func65 rfl rfl fun xs h p hp => ?_
  unfold c_lsame at hp
  split at hp
  · cases hp
    exact ⟨lee_le rfl, fun hC _ => x_lsame _ _ _ _ _ _ _ _ _ _ _ _ _ _ _ _ _ _ _ _ hC⟩
  · cases hp

def c_lcheck (F : Ks) : Con := fun xs h => match xs, h with
  | [.agg [.val (.int .i64 v_l), .val (.int .i64 v_c), .val (.int .i64 v_p), .val (.bool v_o), .val (.int .i64 v_b), .val (.int .i64 v_s), .sl none (.recs (.ints .u8 .nil) v_q), .val (.int .i64 v_t), .val (.int .i64 v_n), .val (.bool v_w)]], [] => some ⟨F.k_lb ⟨v_l, v_c, v_p, v_o, v_b, v_s, v_q, v_t, v_n, v_w⟩ = true, .sa (I (F.k_ch ⟨v_l, v_c, v_p, v_o, v_b, v_s, v_q, v_t, v_n, v_w⟩)), [], [Any]⟩
  | _, _ => none
set_option maxHeartbeats 2000000 in
set_option maxRecDepth 100000 in
theorem x_lcheck (v_l : Int) (v_c : Int) (v_p : Int) (v_o : Bool) (v_b : Int) (v_s : Int) (v_q : List E) (v_t : Int) (v_n : Int) (v_w : Bool) (hC : Ks.std.k_lb ⟨v_l, v_c, v_p, v_o, v_b, v_s, v_q, v_t, v_n, v_w⟩ = true) : Does [(62, c_hcheck HaR.Fs.std), (63, c_check SeR.Fs.std), (64, c_tcheck HaR.Fs.std), (46, c_isopen Ks.std), (54, c_begun Ks.std), (65, c_lsame Ks.std)] Try.f43 [.agg [.val (.int .i64 v_l), .val (.int .i64 v_c), .val (.int .i64 v_p), .val (.bool v_o), .val (.int .i64 v_b), .val (.int .i64 v_s), .sl none (.recs (.ints .u8 .nil) v_q), .val (.int .i64 v_t), .val (.int .i64 v_n), .val (.bool v_w)]] [] ⟨Ks.std.k_lb ⟨v_l, v_c, v_p, v_o, v_b, v_s, v_q, v_t, v_n, v_w⟩ = true, .sa (I (Ks.std.k_ch ⟨v_l, v_c, v_p, v_o, v_b, v_s, v_q, v_t, v_n, v_w⟩)), [], [Any]⟩ := by
  intro b gv
  have hlb := lb_ok (show lbB ⟨v_l, v_c, v_p, v_o, v_b, v_s, v_q, v_t, v_n, v_w⟩ = true from hC)
  dsimp only at hlb
  have hbq : ∀ x : LN, (bgL x).q = [] := fun _ => rfl
  have hfs := (FsOk.cons ok_hcheck (FsOk.cons ok_check (FsOk.cons ok_tcheck (FsOk.cons ok_isopen (FsOk.cons ok_begun (FsOk.cons ok_lsame FsOk.nil rfl) rfl) rfl) rfl) rfl) rfl)
  generalize hF : Ks.std = F at hC hfs ⊢
  generalize hG0 : HaR.Fs.std = G0 at hC hfs ⊢
  generalize hG1 : SeR.Fs.std = G1 at hC hfs ⊢
  generalize hA : Ar.std = A
  generalize hL : Lp _ _ _ = L
  obtain ⟨Z, zq⟩ := z_all
  refine cd_open (lp_mono hL) zq rfl ?_
  repeat' (first
    | (refine z_open zq ?_; try dsimp only)
    | refine cd_seq zq ?_ (lp_mono hL)
    | refine cd_blk zq ?_
    | refine cd_ret ?_
    | refine cd_skip ?_
    | refine cd_exit ?_
    | refine cd_loop ?_
    | refine cd_cond rfl ?_
    | refine cd_condT rfl ?_
    | refine cd_condF rfl ?_
    | (refine Cd.mk ?_; cbv)
    | (refine Ends1.mk ?_; cbv)
    | (refine Fin1.mk ?_; cbv)
    | exact trivial
    | refine And.intro ?_ ?_
    | refine orf fun _ => ?_
    | refine ort fun _ => ?_)
  all_goals
    clear hL zq Z hfs
    subst hF hA hG0 hG1
    simp only [Ks.std, HaR.Fs.std, SeR.Fs.std, Ar.std, eta_LN] at *
    try (grind [stdCmp, b_add, wr, chL, mayL, chkH, chS, tchF])
theorem ok_lcheck : ConOk Try.prog 43 (c_lcheck Ks.std) := by
  refine con_of (FsOk.cons ok_hcheck (FsOk.cons ok_check (FsOk.cons ok_tcheck (FsOk.cons ok_isopen (FsOk.cons ok_begun (FsOk.cons ok_lsame FsOk.nil rfl) rfl) rfl) rfl) rfl) rfl) Try.func43 rfl rfl fun xs h p hp => ?_
  unfold c_lcheck at hp
  split at hp
  · cases hp
    exact ⟨lee_le rfl, fun hC _ => x_lcheck _ _ _ _ _ _ _ _ _ _ hC⟩
  · cases hp

def c_lnew (F : Ks) : Con := fun xs h => match xs, h with
  | [.one (.val (.int .i64 n))], [] => some ⟨True, .tup [.agg [.val (.int .i64 ((F.k_new n).x).l), .val (.int .i64 ((F.k_new n).x).c), .val (.int .i64 ((F.k_new n).x).p), .val (.bool ((F.k_new n).x).o), .val (.int .i64 ((F.k_new n).x).b), .val (.int .i64 ((F.k_new n).x).s), .sl none (.recs (.ints .u8 .nil) ((F.k_new n).x).q), .val (.int .i64 ((F.k_new n).x).t), .val (.int .i64 ((F.k_new n).x).n), .val (.bool ((F.k_new n).x).w)], I (F.k_new n).e], [], [Any]⟩
  | _, _ => none
set_option maxHeartbeats 2000000 in
set_option maxRecDepth 100000 in
theorem x_lnew (n : Int) : Does [(27, c_hnew HaR.Fs.std)] Try.f13 [.one (.val (.int .i64 n))] [] ⟨True, .tup [.agg [.val (.int .i64 ((Ks.std.k_new n).x).l), .val (.int .i64 ((Ks.std.k_new n).x).c), .val (.int .i64 ((Ks.std.k_new n).x).p), .val (.bool ((Ks.std.k_new n).x).o), .val (.int .i64 ((Ks.std.k_new n).x).b), .val (.int .i64 ((Ks.std.k_new n).x).s), .sl none (.recs (.ints .u8 .nil) ((Ks.std.k_new n).x).q), .val (.int .i64 ((Ks.std.k_new n).x).t), .val (.int .i64 ((Ks.std.k_new n).x).n), .val (.bool ((Ks.std.k_new n).x).w)], I (Ks.std.k_new n).e], [], [Any]⟩ := by
  intro b gv
  have hfs := (FsOk.cons ok_hnew FsOk.nil rfl)
  generalize hF : Ks.std = F at hfs ⊢
  generalize hG0 : HaR.Fs.std = G0 at hfs ⊢
  generalize hA : Ar.std = A
  generalize hL : Lp _ _ _ = L
  obtain ⟨Z, zq⟩ := z_all
  refine cd_open (lp_mono hL) zq rfl ?_
  repeat' (first
    | (refine z_open zq ?_; try dsimp only)
    | refine cd_seq zq ?_ (lp_mono hL)
    | refine cd_blk zq ?_
    | refine cd_ret ?_
    | refine cd_skip ?_
    | refine cd_exit ?_
    | refine cd_loop ?_
    | refine cd_cond rfl ?_
    | refine cd_condT rfl ?_
    | refine cd_condF rfl ?_
    | (refine Cd.mk ?_; cbv)
    | (refine Ends1.mk ?_; cbv)
    | (refine Fin1.mk ?_; cbv)
    | exact trivial
    | refine And.intro ?_ ?_
    | refine orf fun _ => ?_
    | refine ort fun _ => ?_)
  all_goals
    clear hL zq Z hfs
    subst hF hA hG0
    simp only [Ks.std, HaR.Fs.std, Ar.std] at *
    try (grind [stdCmp, b_add, wr, newL, zL])
theorem ok_lnew : ConOk Try.prog 13 (c_lnew Ks.std) := by
  refine con_of (FsOk.cons ok_hnew FsOk.nil rfl) Try.func13 rfl rfl fun xs h p hp => ?_
  unfold c_lnew at hp
  split at hp
  · cases hp
    exact ⟨lee_le rfl, fun _ _ => x_lnew _⟩
  · cases hp

def c_lpush (F : Ks) : Con := fun xs h => match xs, h with
  | [.agg [.val (.int .i64 v_l), .val (.int .i64 v_c), .val (.int .i64 v_p), .val (.bool v_o), .val (.int .i64 v_b), .val (.int .i64 v_s), .sl none (.recs (.ints .u8 .nil) v_q), .val (.int .i64 v_t), .val (.int .i64 v_n), .val (.bool v_w)], .one (.sl none (.ints .u8 p)), .one (.val (.int .i64 n))], [] => some ⟨F.k_lb ⟨v_l, v_c, v_p, v_o, v_b, v_s, v_q, v_t, v_n, v_w⟩ = true, .tup [.agg [.val (.int .i64 ((F.k_push ⟨v_l, v_c, v_p, v_o, v_b, v_s, v_q, v_t, v_n, v_w⟩ p n).x).l), .val (.int .i64 ((F.k_push ⟨v_l, v_c, v_p, v_o, v_b, v_s, v_q, v_t, v_n, v_w⟩ p n).x).c), .val (.int .i64 ((F.k_push ⟨v_l, v_c, v_p, v_o, v_b, v_s, v_q, v_t, v_n, v_w⟩ p n).x).p), .val (.bool ((F.k_push ⟨v_l, v_c, v_p, v_o, v_b, v_s, v_q, v_t, v_n, v_w⟩ p n).x).o), .val (.int .i64 ((F.k_push ⟨v_l, v_c, v_p, v_o, v_b, v_s, v_q, v_t, v_n, v_w⟩ p n).x).b), .val (.int .i64 ((F.k_push ⟨v_l, v_c, v_p, v_o, v_b, v_s, v_q, v_t, v_n, v_w⟩ p n).x).s), .sl none (.recs (.ints .u8 .nil) ((F.k_push ⟨v_l, v_c, v_p, v_o, v_b, v_s, v_q, v_t, v_n, v_w⟩ p n).x).q), .val (.int .i64 ((F.k_push ⟨v_l, v_c, v_p, v_o, v_b, v_s, v_q, v_t, v_n, v_w⟩ p n).x).t), .val (.int .i64 ((F.k_push ⟨v_l, v_c, v_p, v_o, v_b, v_s, v_q, v_t, v_n, v_w⟩ p n).x).n), .val (.bool ((F.k_push ⟨v_l, v_c, v_p, v_o, v_b, v_s, v_q, v_t, v_n, v_w⟩ p n).x).w)], I (F.k_push ⟨v_l, v_c, v_p, v_o, v_b, v_s, v_q, v_t, v_n, v_w⟩ p n).e], [], [Any, Any, Any]⟩
  | _, _ => none
set_option maxHeartbeats 2000000 in
set_option maxRecDepth 100000 in
theorem x_lpush (v_l : Int) (v_c : Int) (v_p : Int) (v_o : Bool) (v_b : Int) (v_s : Int) (v_q : List E) (v_t : Int) (v_n : Int) (v_w : Bool) (p : List Int) (n : Int) (hC : Ks.std.k_lb ⟨v_l, v_c, v_p, v_o, v_b, v_s, v_q, v_t, v_n, v_w⟩ = true) : Does [(43, c_lcheck Ks.std), (45, c_islimit Ks.std), (46, c_isopen Ks.std), (58, c_push Gs.std)] Try.f33 [.agg [.val (.int .i64 v_l), .val (.int .i64 v_c), .val (.int .i64 v_p), .val (.bool v_o), .val (.int .i64 v_b), .val (.int .i64 v_s), .sl none (.recs (.ints .u8 .nil) v_q), .val (.int .i64 v_t), .val (.int .i64 v_n), .val (.bool v_w)], .one (.sl none (.ints .u8 p)), .one (.val (.int .i64 n))] [] ⟨Ks.std.k_lb ⟨v_l, v_c, v_p, v_o, v_b, v_s, v_q, v_t, v_n, v_w⟩ = true, .tup [.agg [.val (.int .i64 ((Ks.std.k_push ⟨v_l, v_c, v_p, v_o, v_b, v_s, v_q, v_t, v_n, v_w⟩ p n).x).l), .val (.int .i64 ((Ks.std.k_push ⟨v_l, v_c, v_p, v_o, v_b, v_s, v_q, v_t, v_n, v_w⟩ p n).x).c), .val (.int .i64 ((Ks.std.k_push ⟨v_l, v_c, v_p, v_o, v_b, v_s, v_q, v_t, v_n, v_w⟩ p n).x).p), .val (.bool ((Ks.std.k_push ⟨v_l, v_c, v_p, v_o, v_b, v_s, v_q, v_t, v_n, v_w⟩ p n).x).o), .val (.int .i64 ((Ks.std.k_push ⟨v_l, v_c, v_p, v_o, v_b, v_s, v_q, v_t, v_n, v_w⟩ p n).x).b), .val (.int .i64 ((Ks.std.k_push ⟨v_l, v_c, v_p, v_o, v_b, v_s, v_q, v_t, v_n, v_w⟩ p n).x).s), .sl none (.recs (.ints .u8 .nil) ((Ks.std.k_push ⟨v_l, v_c, v_p, v_o, v_b, v_s, v_q, v_t, v_n, v_w⟩ p n).x).q), .val (.int .i64 ((Ks.std.k_push ⟨v_l, v_c, v_p, v_o, v_b, v_s, v_q, v_t, v_n, v_w⟩ p n).x).t), .val (.int .i64 ((Ks.std.k_push ⟨v_l, v_c, v_p, v_o, v_b, v_s, v_q, v_t, v_n, v_w⟩ p n).x).n), .val (.bool ((Ks.std.k_push ⟨v_l, v_c, v_p, v_o, v_b, v_s, v_q, v_t, v_n, v_w⟩ p n).x).w)], I (Ks.std.k_push ⟨v_l, v_c, v_p, v_o, v_b, v_s, v_q, v_t, v_n, v_w⟩ p n).e], [], [Any, Any, Any]⟩ := by
  intro b gv
  have hlb := lb_ok (show lbB ⟨v_l, v_c, v_p, v_o, v_b, v_s, v_q, v_t, v_n, v_w⟩ = true from hC)
  dsimp only at hlb
  have hfs := (FsOk.cons ok_lcheck (FsOk.cons ok_islimit (FsOk.cons ok_isopen (FsOk.cons ok_push FsOk.nil rfl) rfl) rfl) rfl)
  generalize hF : Ks.std = F at hC hfs ⊢
  generalize hG0 : Gs.std = G0 at hC hfs ⊢
  generalize hA : Ar.std = A
  generalize hL : Lp _ _ _ = L
  obtain ⟨Z, zq⟩ := z_all
  refine cd_open (lp_mono hL) zq rfl ?_
  repeat' (first
    | (refine z_open zq ?_; try dsimp only)
    | refine cd_seq zq ?_ (lp_mono hL)
    | refine cd_blk zq ?_
    | refine cd_ret ?_
    | refine cd_skip ?_
    | refine cd_exit ?_
    | refine cd_loop ?_
    | refine cd_cond rfl ?_
    | refine cd_condT rfl ?_
    | refine cd_condF rfl ?_
    | (refine Cd.mk ?_; cbv)
    | (refine Ends1.mk ?_; cbv)
    | (refine Fin1.mk ?_; cbv)
    | exact trivial
    | refine And.intro ?_ ?_
    | refine orf fun _ => ?_
    | refine ort fun _ => ?_)
  all_goals
    clear hL zq Z hfs
    subst hF hA hG0
    simp only [Ks.std, Gs.std, Ar.std] at *
    try (grind [stdCmp, b_add, wr, pushL, zL, sndL, chL])
theorem ok_lpush : ConOk Try.prog 33 (c_lpush Ks.std) := by
  refine con_of (FsOk.cons ok_lcheck (FsOk.cons ok_islimit (FsOk.cons ok_isopen (FsOk.cons ok_push FsOk.nil rfl) rfl) rfl) rfl) Try.func33 rfl rfl fun xs h p hp => ?_
  unfold c_lpush at hp
  split at hp
  · cases hp
    exact ⟨lee_le rfl, fun hC _ => x_lpush _ _ _ _ _ _ _ _ _ _ _ _ hC⟩
  · cases hp

def c_ackd (F : Ks) : Con := fun xs h => match xs, h with
  | [.agg [.val (.int .i64 v_l), .val (.int .i64 v_c), .val (.int .i64 v_p), .val (.bool v_o), .val (.int .i64 v_b), .val (.int .i64 v_s), .sl none (.recs (.ints .u8 .nil) v_q), .val (.int .i64 v_t), .val (.int .i64 v_n), .val (.bool v_w)], .one (.val (.int .i64 k))], [] => some ⟨F.k_lq v_q = true, .sa (.agg [.val (.int .i64 (F.k_ackd ⟨v_l, v_c, v_p, v_o, v_b, v_s, v_q, v_t, v_n, v_w⟩ k).l), .val (.int .i64 (F.k_ackd ⟨v_l, v_c, v_p, v_o, v_b, v_s, v_q, v_t, v_n, v_w⟩ k).c), .val (.int .i64 (F.k_ackd ⟨v_l, v_c, v_p, v_o, v_b, v_s, v_q, v_t, v_n, v_w⟩ k).p), .val (.bool (F.k_ackd ⟨v_l, v_c, v_p, v_o, v_b, v_s, v_q, v_t, v_n, v_w⟩ k).o), .val (.int .i64 (F.k_ackd ⟨v_l, v_c, v_p, v_o, v_b, v_s, v_q, v_t, v_n, v_w⟩ k).b), .val (.int .i64 (F.k_ackd ⟨v_l, v_c, v_p, v_o, v_b, v_s, v_q, v_t, v_n, v_w⟩ k).s), .sl none (.recs (.ints .u8 .nil) (F.k_ackd ⟨v_l, v_c, v_p, v_o, v_b, v_s, v_q, v_t, v_n, v_w⟩ k).q), .val (.int .i64 (F.k_ackd ⟨v_l, v_c, v_p, v_o, v_b, v_s, v_q, v_t, v_n, v_w⟩ k).t), .val (.int .i64 (F.k_ackd ⟨v_l, v_c, v_p, v_o, v_b, v_s, v_q, v_t, v_n, v_w⟩ k).n), .val (.bool (F.k_ackd ⟨v_l, v_c, v_p, v_o, v_b, v_s, v_q, v_t, v_n, v_w⟩ k).w)]), [], [Any, Any]⟩
  | _, _ => none
set_option maxHeartbeats 2000000 in
set_option maxRecDepth 100000 in
theorem x_ackd (v_l : Int) (v_c : Int) (v_p : Int) (v_o : Bool) (v_b : Int) (v_s : Int) (v_q : List E) (v_t : Int) (v_n : Int) (v_w : Bool) (k : Int) (hC : Ks.std.k_lq v_q = true) : Does [(72, c_ack Gs.std)] Try.f51 [.agg [.val (.int .i64 v_l), .val (.int .i64 v_c), .val (.int .i64 v_p), .val (.bool v_o), .val (.int .i64 v_b), .val (.int .i64 v_s), .sl none (.recs (.ints .u8 .nil) v_q), .val (.int .i64 v_t), .val (.int .i64 v_n), .val (.bool v_w)], .one (.val (.int .i64 k))] [] ⟨Ks.std.k_lq v_q = true, .sa (.agg [.val (.int .i64 (Ks.std.k_ackd ⟨v_l, v_c, v_p, v_o, v_b, v_s, v_q, v_t, v_n, v_w⟩ k).l), .val (.int .i64 (Ks.std.k_ackd ⟨v_l, v_c, v_p, v_o, v_b, v_s, v_q, v_t, v_n, v_w⟩ k).c), .val (.int .i64 (Ks.std.k_ackd ⟨v_l, v_c, v_p, v_o, v_b, v_s, v_q, v_t, v_n, v_w⟩ k).p), .val (.bool (Ks.std.k_ackd ⟨v_l, v_c, v_p, v_o, v_b, v_s, v_q, v_t, v_n, v_w⟩ k).o), .val (.int .i64 (Ks.std.k_ackd ⟨v_l, v_c, v_p, v_o, v_b, v_s, v_q, v_t, v_n, v_w⟩ k).b), .val (.int .i64 (Ks.std.k_ackd ⟨v_l, v_c, v_p, v_o, v_b, v_s, v_q, v_t, v_n, v_w⟩ k).s), .sl none (.recs (.ints .u8 .nil) (Ks.std.k_ackd ⟨v_l, v_c, v_p, v_o, v_b, v_s, v_q, v_t, v_n, v_w⟩ k).q), .val (.int .i64 (Ks.std.k_ackd ⟨v_l, v_c, v_p, v_o, v_b, v_s, v_q, v_t, v_n, v_w⟩ k).t), .val (.int .i64 (Ks.std.k_ackd ⟨v_l, v_c, v_p, v_o, v_b, v_s, v_q, v_t, v_n, v_w⟩ k).n), .val (.bool (Ks.std.k_ackd ⟨v_l, v_c, v_p, v_o, v_b, v_s, v_q, v_t, v_n, v_w⟩ k).w)]), [], [Any, Any]⟩ := by
  intro b gv
  have hfs := (FsOk.cons ok_ack FsOk.nil rfl)
  generalize hF : Ks.std = F at hC hfs ⊢
  generalize hG0 : Gs.std = G0 at hC hfs ⊢
  generalize hA : Ar.std = A
  generalize hL : Lp _ _ _ = L
  obtain ⟨Z, zq⟩ := z_all
  refine cd_open (lp_mono hL) zq rfl ?_
  repeat' (first
    | (refine z_open zq ?_; try dsimp only)
    | refine cd_seq zq ?_ (lp_mono hL)
    | refine cd_blk zq ?_
    | refine cd_ret ?_
    | refine cd_skip ?_
    | refine cd_exit ?_
    | refine cd_loop ?_
    | refine cd_cond rfl ?_
    | refine cd_condT rfl ?_
    | refine cd_condF rfl ?_
    | (refine Cd.mk ?_; cbv)
    | (refine Ends1.mk ?_; cbv)
    | (refine Fin1.mk ?_; cbv)
    | exact trivial
    | refine And.intro ?_ ?_
    | refine orf fun _ => ?_
    | refine ort fun _ => ?_)
  all_goals
    clear hL zq Z hfs
    subst hF hA hG0
    simp only [Ks.std, Gs.std] at *
    try (grind [stdCmp, b_add, wr, ackdL, sndL])
theorem ok_ackd : ConOk Try.prog 51 (c_ackd Ks.std) := by
  refine con_of (FsOk.cons ok_ack FsOk.nil rfl) Try.func51 rfl rfl fun xs h p hp => ?_
  unfold c_ackd at hp
  split at hp
  · cases hp
    exact ⟨lee_le rfl, fun hC _ => x_ackd _ _ _ _ _ _ _ _ _ _ _ hC⟩
  · cases hp

def c_hello (F : Ks) : Con := fun xs h => match xs, h with
  | [.agg [.val (.int .i64 v_l), .val (.int .i64 v_c), .val (.int .i64 v_p), .val (.bool v_o), .val (.int .i64 v_b), .val (.int .i64 v_s), .sl none (.recs (.ints .u8 .nil) v_q), .val (.int .i64 v_t), .val (.int .i64 v_n), .val (.bool v_w)], .one (.val (.int .i64 p)), .one (.val (.int .i64 n))], [] => some ⟨True, .tup [.agg [.val (.int .i64 ((F.k_hlo ⟨v_l, v_c, v_p, v_o, v_b, v_s, v_q, v_t, v_n, v_w⟩ p n).x).l), .val (.int .i64 ((F.k_hlo ⟨v_l, v_c, v_p, v_o, v_b, v_s, v_q, v_t, v_n, v_w⟩ p n).x).c), .val (.int .i64 ((F.k_hlo ⟨v_l, v_c, v_p, v_o, v_b, v_s, v_q, v_t, v_n, v_w⟩ p n).x).p), .val (.bool ((F.k_hlo ⟨v_l, v_c, v_p, v_o, v_b, v_s, v_q, v_t, v_n, v_w⟩ p n).x).o), .val (.int .i64 ((F.k_hlo ⟨v_l, v_c, v_p, v_o, v_b, v_s, v_q, v_t, v_n, v_w⟩ p n).x).b), .val (.int .i64 ((F.k_hlo ⟨v_l, v_c, v_p, v_o, v_b, v_s, v_q, v_t, v_n, v_w⟩ p n).x).s), .sl none (.recs (.ints .u8 .nil) ((F.k_hlo ⟨v_l, v_c, v_p, v_o, v_b, v_s, v_q, v_t, v_n, v_w⟩ p n).x).q), .val (.int .i64 ((F.k_hlo ⟨v_l, v_c, v_p, v_o, v_b, v_s, v_q, v_t, v_n, v_w⟩ p n).x).t), .val (.int .i64 ((F.k_hlo ⟨v_l, v_c, v_p, v_o, v_b, v_s, v_q, v_t, v_n, v_w⟩ p n).x).n), .val (.bool ((F.k_hlo ⟨v_l, v_c, v_p, v_o, v_b, v_s, v_q, v_t, v_n, v_w⟩ p n).x).w)], .agg [.sl none (.recs (.int .i64 (.int .i64 (.int .i64 (.int .i64 (.ints .u8 .nil))))) ((F.k_hlo ⟨v_l, v_c, v_p, v_o, v_b, v_s, v_q, v_t, v_n, v_w⟩ p n).y).f), .sl none (.recs (.ints .u8 .nil) ((F.k_hlo ⟨v_l, v_c, v_p, v_o, v_b, v_s, v_q, v_t, v_n, v_w⟩ p n).y).g), .val (.bool ((F.k_hlo ⟨v_l, v_c, v_p, v_o, v_b, v_s, v_q, v_t, v_n, v_w⟩ p n).y).d), .val (.int .i64 ((F.k_hlo ⟨v_l, v_c, v_p, v_o, v_b, v_s, v_q, v_t, v_n, v_w⟩ p n).y).s)]], [], [Any, Any, Any]⟩
  | _, _ => none
set_option maxHeartbeats 2000000 in
set_option maxRecDepth 100000 in
theorem x_hello (v_l : Int) (v_c : Int) (v_p : Int) (v_o : Bool) (v_b : Int) (v_s : Int) (v_q : List E) (v_t : Int) (v_n : Int) (v_w : Bool) (p : Int) (n : Int) : Does [(67, c_hel HaR.Fs.std), (54, c_begun Ks.std)] Try.f47 [.agg [.val (.int .i64 v_l), .val (.int .i64 v_c), .val (.int .i64 v_p), .val (.bool v_o), .val (.int .i64 v_b), .val (.int .i64 v_s), .sl none (.recs (.ints .u8 .nil) v_q), .val (.int .i64 v_t), .val (.int .i64 v_n), .val (.bool v_w)], .one (.val (.int .i64 p)), .one (.val (.int .i64 n))] [] ⟨True, .tup [.agg [.val (.int .i64 ((Ks.std.k_hlo ⟨v_l, v_c, v_p, v_o, v_b, v_s, v_q, v_t, v_n, v_w⟩ p n).x).l), .val (.int .i64 ((Ks.std.k_hlo ⟨v_l, v_c, v_p, v_o, v_b, v_s, v_q, v_t, v_n, v_w⟩ p n).x).c), .val (.int .i64 ((Ks.std.k_hlo ⟨v_l, v_c, v_p, v_o, v_b, v_s, v_q, v_t, v_n, v_w⟩ p n).x).p), .val (.bool ((Ks.std.k_hlo ⟨v_l, v_c, v_p, v_o, v_b, v_s, v_q, v_t, v_n, v_w⟩ p n).x).o), .val (.int .i64 ((Ks.std.k_hlo ⟨v_l, v_c, v_p, v_o, v_b, v_s, v_q, v_t, v_n, v_w⟩ p n).x).b), .val (.int .i64 ((Ks.std.k_hlo ⟨v_l, v_c, v_p, v_o, v_b, v_s, v_q, v_t, v_n, v_w⟩ p n).x).s), .sl none (.recs (.ints .u8 .nil) ((Ks.std.k_hlo ⟨v_l, v_c, v_p, v_o, v_b, v_s, v_q, v_t, v_n, v_w⟩ p n).x).q), .val (.int .i64 ((Ks.std.k_hlo ⟨v_l, v_c, v_p, v_o, v_b, v_s, v_q, v_t, v_n, v_w⟩ p n).x).t), .val (.int .i64 ((Ks.std.k_hlo ⟨v_l, v_c, v_p, v_o, v_b, v_s, v_q, v_t, v_n, v_w⟩ p n).x).n), .val (.bool ((Ks.std.k_hlo ⟨v_l, v_c, v_p, v_o, v_b, v_s, v_q, v_t, v_n, v_w⟩ p n).x).w)], .agg [.sl none (.recs (.int .i64 (.int .i64 (.int .i64 (.int .i64 (.ints .u8 .nil))))) ((Ks.std.k_hlo ⟨v_l, v_c, v_p, v_o, v_b, v_s, v_q, v_t, v_n, v_w⟩ p n).y).f), .sl none (.recs (.ints .u8 .nil) ((Ks.std.k_hlo ⟨v_l, v_c, v_p, v_o, v_b, v_s, v_q, v_t, v_n, v_w⟩ p n).y).g), .val (.bool ((Ks.std.k_hlo ⟨v_l, v_c, v_p, v_o, v_b, v_s, v_q, v_t, v_n, v_w⟩ p n).y).d), .val (.int .i64 ((Ks.std.k_hlo ⟨v_l, v_c, v_p, v_o, v_b, v_s, v_q, v_t, v_n, v_w⟩ p n).y).s)]], [], [Any, Any, Any]⟩ := by
  intro b gv
  have hfs := (FsOk.cons ok_hel (FsOk.cons ok_begun FsOk.nil rfl) rfl)
  generalize hF : Ks.std = F at hfs ⊢
  generalize hG0 : HaR.Fs.std = G0 at hfs ⊢
  generalize hA : Ar.std = A
  generalize hL : Lp _ _ _ = L
  obtain ⟨Z, zq⟩ := z_all
  refine cd_open (lp_mono hL) zq rfl ?_
  repeat' (first
    | (refine z_open zq ?_; try dsimp only)
    | refine cd_seq zq ?_ (lp_mono hL)
    | refine cd_blk zq ?_
    | refine cd_ret ?_
    | refine cd_skip ?_
    | refine cd_exit ?_
    | refine cd_loop ?_
    | refine cd_cond rfl ?_
    | refine cd_condT rfl ?_
    | refine cd_condF rfl ?_
    | (refine Cd.mk ?_; cbv)
    | (refine Ends1.mk ?_; cbv)
    | (refine Fin1.mk ?_; cbv)
    | exact trivial
    | refine And.intro ?_ ?_
    | refine orf fun _ => ?_
    | refine ort fun _ => ?_)
  all_goals
    clear hL zq Z hfs
    subst hF hA hG0
    simp only [Ks.std, HaR.Fs.std] at *
    try (grind [stdCmp, b_add, wr, hloL, hndL, bgL])
theorem ok_hello : ConOk Try.prog 47 (c_hello Ks.std) := by
  refine con_of (FsOk.cons ok_hel (FsOk.cons ok_begun FsOk.nil rfl) rfl) Try.func47 rfl rfl fun xs h p hp => ?_
  unfold c_hello at hp
  split at hp
  · cases hp
    exact ⟨lee_le rfl, fun _ _ => x_hello _ _ _ _ _ _ _ _ _ _ _ _⟩
  · cases hp

def c_welcome (F : Ks) : Con := fun xs h => match xs, h with
  | [.agg [.val (.int .i64 v_l), .val (.int .i64 v_c), .val (.int .i64 v_p), .val (.bool v_o), .val (.int .i64 v_b), .val (.int .i64 v_s), .sl none (.recs (.ints .u8 .nil) v_q), .val (.int .i64 v_t), .val (.int .i64 v_n), .val (.bool v_w)], .one (.val (.int .i64 p))], [] => some ⟨True, .tup [.agg [.val (.int .i64 ((F.k_wlc ⟨v_l, v_c, v_p, v_o, v_b, v_s, v_q, v_t, v_n, v_w⟩ p).x).l), .val (.int .i64 ((F.k_wlc ⟨v_l, v_c, v_p, v_o, v_b, v_s, v_q, v_t, v_n, v_w⟩ p).x).c), .val (.int .i64 ((F.k_wlc ⟨v_l, v_c, v_p, v_o, v_b, v_s, v_q, v_t, v_n, v_w⟩ p).x).p), .val (.bool ((F.k_wlc ⟨v_l, v_c, v_p, v_o, v_b, v_s, v_q, v_t, v_n, v_w⟩ p).x).o), .val (.int .i64 ((F.k_wlc ⟨v_l, v_c, v_p, v_o, v_b, v_s, v_q, v_t, v_n, v_w⟩ p).x).b), .val (.int .i64 ((F.k_wlc ⟨v_l, v_c, v_p, v_o, v_b, v_s, v_q, v_t, v_n, v_w⟩ p).x).s), .sl none (.recs (.ints .u8 .nil) ((F.k_wlc ⟨v_l, v_c, v_p, v_o, v_b, v_s, v_q, v_t, v_n, v_w⟩ p).x).q), .val (.int .i64 ((F.k_wlc ⟨v_l, v_c, v_p, v_o, v_b, v_s, v_q, v_t, v_n, v_w⟩ p).x).t), .val (.int .i64 ((F.k_wlc ⟨v_l, v_c, v_p, v_o, v_b, v_s, v_q, v_t, v_n, v_w⟩ p).x).n), .val (.bool ((F.k_wlc ⟨v_l, v_c, v_p, v_o, v_b, v_s, v_q, v_t, v_n, v_w⟩ p).x).w)], .agg [.sl none (.recs (.int .i64 (.int .i64 (.int .i64 (.int .i64 (.ints .u8 .nil))))) ((F.k_wlc ⟨v_l, v_c, v_p, v_o, v_b, v_s, v_q, v_t, v_n, v_w⟩ p).y).f), .sl none (.recs (.ints .u8 .nil) ((F.k_wlc ⟨v_l, v_c, v_p, v_o, v_b, v_s, v_q, v_t, v_n, v_w⟩ p).y).g), .val (.bool ((F.k_wlc ⟨v_l, v_c, v_p, v_o, v_b, v_s, v_q, v_t, v_n, v_w⟩ p).y).d), .val (.int .i64 ((F.k_wlc ⟨v_l, v_c, v_p, v_o, v_b, v_s, v_q, v_t, v_n, v_w⟩ p).y).s)]], [], [Any, Any]⟩
  | _, _ => none
set_option maxHeartbeats 2000000 in
set_option maxRecDepth 100000 in
theorem x_welcome (v_l : Int) (v_c : Int) (v_p : Int) (v_o : Bool) (v_b : Int) (v_s : Int) (v_q : List E) (v_t : Int) (v_n : Int) (v_w : Bool) (p : Int) : Does [(69, c_wel HaR.Fs.std)] Try.f49 [.agg [.val (.int .i64 v_l), .val (.int .i64 v_c), .val (.int .i64 v_p), .val (.bool v_o), .val (.int .i64 v_b), .val (.int .i64 v_s), .sl none (.recs (.ints .u8 .nil) v_q), .val (.int .i64 v_t), .val (.int .i64 v_n), .val (.bool v_w)], .one (.val (.int .i64 p))] [] ⟨True, .tup [.agg [.val (.int .i64 ((Ks.std.k_wlc ⟨v_l, v_c, v_p, v_o, v_b, v_s, v_q, v_t, v_n, v_w⟩ p).x).l), .val (.int .i64 ((Ks.std.k_wlc ⟨v_l, v_c, v_p, v_o, v_b, v_s, v_q, v_t, v_n, v_w⟩ p).x).c), .val (.int .i64 ((Ks.std.k_wlc ⟨v_l, v_c, v_p, v_o, v_b, v_s, v_q, v_t, v_n, v_w⟩ p).x).p), .val (.bool ((Ks.std.k_wlc ⟨v_l, v_c, v_p, v_o, v_b, v_s, v_q, v_t, v_n, v_w⟩ p).x).o), .val (.int .i64 ((Ks.std.k_wlc ⟨v_l, v_c, v_p, v_o, v_b, v_s, v_q, v_t, v_n, v_w⟩ p).x).b), .val (.int .i64 ((Ks.std.k_wlc ⟨v_l, v_c, v_p, v_o, v_b, v_s, v_q, v_t, v_n, v_w⟩ p).x).s), .sl none (.recs (.ints .u8 .nil) ((Ks.std.k_wlc ⟨v_l, v_c, v_p, v_o, v_b, v_s, v_q, v_t, v_n, v_w⟩ p).x).q), .val (.int .i64 ((Ks.std.k_wlc ⟨v_l, v_c, v_p, v_o, v_b, v_s, v_q, v_t, v_n, v_w⟩ p).x).t), .val (.int .i64 ((Ks.std.k_wlc ⟨v_l, v_c, v_p, v_o, v_b, v_s, v_q, v_t, v_n, v_w⟩ p).x).n), .val (.bool ((Ks.std.k_wlc ⟨v_l, v_c, v_p, v_o, v_b, v_s, v_q, v_t, v_n, v_w⟩ p).x).w)], .agg [.sl none (.recs (.int .i64 (.int .i64 (.int .i64 (.int .i64 (.ints .u8 .nil))))) ((Ks.std.k_wlc ⟨v_l, v_c, v_p, v_o, v_b, v_s, v_q, v_t, v_n, v_w⟩ p).y).f), .sl none (.recs (.ints .u8 .nil) ((Ks.std.k_wlc ⟨v_l, v_c, v_p, v_o, v_b, v_s, v_q, v_t, v_n, v_w⟩ p).y).g), .val (.bool ((Ks.std.k_wlc ⟨v_l, v_c, v_p, v_o, v_b, v_s, v_q, v_t, v_n, v_w⟩ p).y).d), .val (.int .i64 ((Ks.std.k_wlc ⟨v_l, v_c, v_p, v_o, v_b, v_s, v_q, v_t, v_n, v_w⟩ p).y).s)]], [], [Any, Any]⟩ := by
  intro b gv
  have hfs := (FsOk.cons ok_wel FsOk.nil rfl)
  generalize hF : Ks.std = F at hfs ⊢
  generalize hG0 : HaR.Fs.std = G0 at hfs ⊢
  generalize hA : Ar.std = A
  generalize hL : Lp _ _ _ = L
  obtain ⟨Z, zq⟩ := z_all
  refine cd_open (lp_mono hL) zq rfl ?_
  repeat' (first
    | (refine z_open zq ?_; try dsimp only)
    | refine cd_seq zq ?_ (lp_mono hL)
    | refine cd_blk zq ?_
    | refine cd_ret ?_
    | refine cd_skip ?_
    | refine cd_exit ?_
    | refine cd_loop ?_
    | refine cd_cond rfl ?_
    | refine cd_condT rfl ?_
    | refine cd_condF rfl ?_
    | (refine Cd.mk ?_; cbv)
    | (refine Ends1.mk ?_; cbv)
    | (refine Fin1.mk ?_; cbv)
    | exact trivial
    | refine And.intro ?_ ?_
    | refine orf fun _ => ?_
    | refine ort fun _ => ?_)
  all_goals
    clear hL zq Z hfs
    subst hF hA hG0
    simp only [Ks.std, HaR.Fs.std, Ar.std] at *
    try (grind [stdCmp, b_add, wr, wlcL, zN])
theorem ok_welcome : ConOk Try.prog 49 (c_welcome Ks.std) := by
  refine con_of (FsOk.cons ok_wel FsOk.nil rfl) Try.func49 rfl rfl fun xs h p hp => ?_
  unfold c_welcome at hp
  split at hp
  · cases hp
    exact ⟨lee_le rfl, fun _ _ => x_welcome _ _ _ _ _ _ _ _ _ _ _⟩
  · cases hp

def c_data (F : Ks) : Con := fun xs h => match xs, h with
  | [.agg [.val (.int .i64 v_l), .val (.int .i64 v_c), .val (.int .i64 v_p), .val (.bool v_o), .val (.int .i64 v_b), .val (.int .i64 v_s), .sl none (.recs (.ints .u8 .nil) v_q), .val (.int .i64 v_t), .val (.int .i64 v_n), .val (.bool v_w)], .agg [.val (.int .i64 _), .val (.int .i64 _), .val (.int .i64 f_q), .val (.int .i64 f_a), .sl none (.ints .u8 f_p)]], [] => some ⟨F.k_dc ⟨v_l, v_c, v_p, v_o, v_b, v_s, v_q, v_t, v_n, v_w⟩ f_p = true, .tup [.agg [.val (.int .i64 ((F.k_dat ⟨v_l, v_c, v_p, v_o, v_b, v_s, v_q, v_t, v_n, v_w⟩ f_q f_a f_p).x).l), .val (.int .i64 ((F.k_dat ⟨v_l, v_c, v_p, v_o, v_b, v_s, v_q, v_t, v_n, v_w⟩ f_q f_a f_p).x).c), .val (.int .i64 ((F.k_dat ⟨v_l, v_c, v_p, v_o, v_b, v_s, v_q, v_t, v_n, v_w⟩ f_q f_a f_p).x).p), .val (.bool ((F.k_dat ⟨v_l, v_c, v_p, v_o, v_b, v_s, v_q, v_t, v_n, v_w⟩ f_q f_a f_p).x).o), .val (.int .i64 ((F.k_dat ⟨v_l, v_c, v_p, v_o, v_b, v_s, v_q, v_t, v_n, v_w⟩ f_q f_a f_p).x).b), .val (.int .i64 ((F.k_dat ⟨v_l, v_c, v_p, v_o, v_b, v_s, v_q, v_t, v_n, v_w⟩ f_q f_a f_p).x).s), .sl none (.recs (.ints .u8 .nil) ((F.k_dat ⟨v_l, v_c, v_p, v_o, v_b, v_s, v_q, v_t, v_n, v_w⟩ f_q f_a f_p).x).q), .val (.int .i64 ((F.k_dat ⟨v_l, v_c, v_p, v_o, v_b, v_s, v_q, v_t, v_n, v_w⟩ f_q f_a f_p).x).t), .val (.int .i64 ((F.k_dat ⟨v_l, v_c, v_p, v_o, v_b, v_s, v_q, v_t, v_n, v_w⟩ f_q f_a f_p).x).n), .val (.bool ((F.k_dat ⟨v_l, v_c, v_p, v_o, v_b, v_s, v_q, v_t, v_n, v_w⟩ f_q f_a f_p).x).w)], .agg [.sl none (.recs (.int .i64 (.int .i64 (.int .i64 (.int .i64 (.ints .u8 .nil))))) ((F.k_dat ⟨v_l, v_c, v_p, v_o, v_b, v_s, v_q, v_t, v_n, v_w⟩ f_q f_a f_p).y).f), .sl none (.recs (.ints .u8 .nil) ((F.k_dat ⟨v_l, v_c, v_p, v_o, v_b, v_s, v_q, v_t, v_n, v_w⟩ f_q f_a f_p).y).g), .val (.bool ((F.k_dat ⟨v_l, v_c, v_p, v_o, v_b, v_s, v_q, v_t, v_n, v_w⟩ f_q f_a f_p).y).d), .val (.int .i64 ((F.k_dat ⟨v_l, v_c, v_p, v_o, v_b, v_s, v_q, v_t, v_n, v_w⟩ f_q f_a f_p).y).s)]], [], [Any, Any]⟩
  | _, _ => none
set_option maxHeartbeats 2000000 in
set_option maxRecDepth 100000 in
theorem x_data (v_l : Int) (v_c : Int) (v_p : Int) (v_o : Bool) (v_b : Int) (v_s : Int) (v_q : List E) (v_t : Int) (v_n : Int) (v_w : Bool) (f_k : Int) (f_s : Int) (f_q : Int) (f_a : Int) (f_p : List Int) (hC : Ks.std.k_dc ⟨v_l, v_c, v_p, v_o, v_b, v_s, v_q, v_t, v_n, v_w⟩ f_p = true) : Does [(70, c_get HaR.Fs.std), (71, c_flist SeR.Fs.std), (51, c_ackd Ks.std)] Try.f50 [.agg [.val (.int .i64 v_l), .val (.int .i64 v_c), .val (.int .i64 v_p), .val (.bool v_o), .val (.int .i64 v_b), .val (.int .i64 v_s), .sl none (.recs (.ints .u8 .nil) v_q), .val (.int .i64 v_t), .val (.int .i64 v_n), .val (.bool v_w)], .agg [.val (.int .i64 f_k), .val (.int .i64 f_s), .val (.int .i64 f_q), .val (.int .i64 f_a), .sl none (.ints .u8 f_p)]] [] ⟨Ks.std.k_dc ⟨v_l, v_c, v_p, v_o, v_b, v_s, v_q, v_t, v_n, v_w⟩ f_p = true, .tup [.agg [.val (.int .i64 ((Ks.std.k_dat ⟨v_l, v_c, v_p, v_o, v_b, v_s, v_q, v_t, v_n, v_w⟩ f_q f_a f_p).x).l), .val (.int .i64 ((Ks.std.k_dat ⟨v_l, v_c, v_p, v_o, v_b, v_s, v_q, v_t, v_n, v_w⟩ f_q f_a f_p).x).c), .val (.int .i64 ((Ks.std.k_dat ⟨v_l, v_c, v_p, v_o, v_b, v_s, v_q, v_t, v_n, v_w⟩ f_q f_a f_p).x).p), .val (.bool ((Ks.std.k_dat ⟨v_l, v_c, v_p, v_o, v_b, v_s, v_q, v_t, v_n, v_w⟩ f_q f_a f_p).x).o), .val (.int .i64 ((Ks.std.k_dat ⟨v_l, v_c, v_p, v_o, v_b, v_s, v_q, v_t, v_n, v_w⟩ f_q f_a f_p).x).b), .val (.int .i64 ((Ks.std.k_dat ⟨v_l, v_c, v_p, v_o, v_b, v_s, v_q, v_t, v_n, v_w⟩ f_q f_a f_p).x).s), .sl none (.recs (.ints .u8 .nil) ((Ks.std.k_dat ⟨v_l, v_c, v_p, v_o, v_b, v_s, v_q, v_t, v_n, v_w⟩ f_q f_a f_p).x).q), .val (.int .i64 ((Ks.std.k_dat ⟨v_l, v_c, v_p, v_o, v_b, v_s, v_q, v_t, v_n, v_w⟩ f_q f_a f_p).x).t), .val (.int .i64 ((Ks.std.k_dat ⟨v_l, v_c, v_p, v_o, v_b, v_s, v_q, v_t, v_n, v_w⟩ f_q f_a f_p).x).n), .val (.bool ((Ks.std.k_dat ⟨v_l, v_c, v_p, v_o, v_b, v_s, v_q, v_t, v_n, v_w⟩ f_q f_a f_p).x).w)], .agg [.sl none (.recs (.int .i64 (.int .i64 (.int .i64 (.int .i64 (.ints .u8 .nil))))) ((Ks.std.k_dat ⟨v_l, v_c, v_p, v_o, v_b, v_s, v_q, v_t, v_n, v_w⟩ f_q f_a f_p).y).f), .sl none (.recs (.ints .u8 .nil) ((Ks.std.k_dat ⟨v_l, v_c, v_p, v_o, v_b, v_s, v_q, v_t, v_n, v_w⟩ f_q f_a f_p).y).g), .val (.bool ((Ks.std.k_dat ⟨v_l, v_c, v_p, v_o, v_b, v_s, v_q, v_t, v_n, v_w⟩ f_q f_a f_p).y).d), .val (.int .i64 ((Ks.std.k_dat ⟨v_l, v_c, v_p, v_o, v_b, v_s, v_q, v_t, v_n, v_w⟩ f_q f_a f_p).y).s)]], [], [Any, Any]⟩ := by
  intro b gv
  have hdc : (decide (v_q.length ≤ 100000) && decide (f_p.length ≤ 1000000)) = true := hC
  simp only [Bool.and_eq_true, decide_eq_true_eq] at hdc
  have hfs := (FsOk.cons ok_get (FsOk.cons ok_flist (FsOk.cons ok_ackd FsOk.nil rfl) rfl) rfl)
  generalize hF : Ks.std = F at hC hfs ⊢
  generalize hG0 : HaR.Fs.std = G0 at hC hfs ⊢
  generalize hG1 : SeR.Fs.std = G1 at hC hfs ⊢
  generalize hA : Ar.std = A
  generalize hL : Lp _ _ _ = L
  obtain ⟨Z, zq⟩ := z_all
  refine cd_open (lp_mono hL) zq rfl ?_
  repeat' (first
    | (refine z_open zq ?_; try dsimp only)
    | refine cd_seq zq ?_ (lp_mono hL)
    | refine cd_blk zq ?_
    | refine cd_ret ?_
    | refine cd_skip ?_
    | refine cd_exit ?_
    | refine cd_loop ?_
    | refine cd_cond rfl ?_
    | refine cd_condT rfl ?_
    | refine cd_condF rfl ?_
    | (refine Cd.mk ?_; cbv)
    | (refine Ends1.mk ?_; cbv)
    | (refine Fin1.mk ?_; cbv)
    | exact trivial
    | refine And.intro ?_ ?_
    | refine orf fun _ => ?_
    | refine ort fun _ => ?_)
  all_goals
    clear hL zq Z hfs
    subst hF hA hG0 hG1
    simp only [Ks.std, HaR.Fs.std, SeR.Fs.std] at *
    try (grind [stdCmp, b_add, wr, datL])
theorem ok_data : ConOk Try.prog 50 (c_data Ks.std) := by
  refine con_of (FsOk.cons ok_get (FsOk.cons ok_flist (FsOk.cons ok_ackd FsOk.nil rfl) rfl) rfl) Try.func50 rfl rfl fun xs h p hp => ?_
  unfold c_data at hp
  split at hp
  · cases hp
    exact ⟨lee_le rfl, fun hC _ => x_data _ _ _ _ _ _ _ _ _ _ _ _ _ _ _ hC⟩
  · cases hp

def c_lhear (F : Ks) : Con := fun xs h => match xs, h with
  | [.agg [.val (.int .i64 v_l), .val (.int .i64 v_c), .val (.int .i64 v_p), .val (.bool v_o), .val (.int .i64 v_b), .val (.int .i64 v_s), .sl none (.recs (.ints .u8 .nil) v_q), .val (.int .i64 v_t), .val (.int .i64 v_n), .val (.bool v_w)], .agg [.val (.int .i64 f_k), .val (.int .i64 f_s), .val (.int .i64 f_q), .val (.int .i64 f_a), .sl none (.ints .u8 f_p)], .one (.val (.int .i64 n))], [] => some ⟨F.k_lb ⟨v_l, v_c, v_p, v_o, v_b, v_s, v_q, v_t, v_n, v_w⟩ = true, .tup [.agg [.val (.int .i64 ((F.k_hear ⟨v_l, v_c, v_p, v_o, v_b, v_s, v_q, v_t, v_n, v_w⟩ f_k f_s f_q f_a f_p n).x).l), .val (.int .i64 ((F.k_hear ⟨v_l, v_c, v_p, v_o, v_b, v_s, v_q, v_t, v_n, v_w⟩ f_k f_s f_q f_a f_p n).x).c), .val (.int .i64 ((F.k_hear ⟨v_l, v_c, v_p, v_o, v_b, v_s, v_q, v_t, v_n, v_w⟩ f_k f_s f_q f_a f_p n).x).p), .val (.bool ((F.k_hear ⟨v_l, v_c, v_p, v_o, v_b, v_s, v_q, v_t, v_n, v_w⟩ f_k f_s f_q f_a f_p n).x).o), .val (.int .i64 ((F.k_hear ⟨v_l, v_c, v_p, v_o, v_b, v_s, v_q, v_t, v_n, v_w⟩ f_k f_s f_q f_a f_p n).x).b), .val (.int .i64 ((F.k_hear ⟨v_l, v_c, v_p, v_o, v_b, v_s, v_q, v_t, v_n, v_w⟩ f_k f_s f_q f_a f_p n).x).s), .sl none (.recs (.ints .u8 .nil) ((F.k_hear ⟨v_l, v_c, v_p, v_o, v_b, v_s, v_q, v_t, v_n, v_w⟩ f_k f_s f_q f_a f_p n).x).q), .val (.int .i64 ((F.k_hear ⟨v_l, v_c, v_p, v_o, v_b, v_s, v_q, v_t, v_n, v_w⟩ f_k f_s f_q f_a f_p n).x).t), .val (.int .i64 ((F.k_hear ⟨v_l, v_c, v_p, v_o, v_b, v_s, v_q, v_t, v_n, v_w⟩ f_k f_s f_q f_a f_p n).x).n), .val (.bool ((F.k_hear ⟨v_l, v_c, v_p, v_o, v_b, v_s, v_q, v_t, v_n, v_w⟩ f_k f_s f_q f_a f_p n).x).w)], .agg [.sl none (.recs (.int .i64 (.int .i64 (.int .i64 (.int .i64 (.ints .u8 .nil))))) ((F.k_hear ⟨v_l, v_c, v_p, v_o, v_b, v_s, v_q, v_t, v_n, v_w⟩ f_k f_s f_q f_a f_p n).y).f), .sl none (.recs (.ints .u8 .nil) ((F.k_hear ⟨v_l, v_c, v_p, v_o, v_b, v_s, v_q, v_t, v_n, v_w⟩ f_k f_s f_q f_a f_p n).y).g), .val (.bool ((F.k_hear ⟨v_l, v_c, v_p, v_o, v_b, v_s, v_q, v_t, v_n, v_w⟩ f_k f_s f_q f_a f_p n).y).d), .val (.int .i64 ((F.k_hear ⟨v_l, v_c, v_p, v_o, v_b, v_s, v_q, v_t, v_n, v_w⟩ f_k f_s f_q f_a f_p n).y).s)], I (F.k_hear ⟨v_l, v_c, v_p, v_o, v_b, v_s, v_q, v_t, v_n, v_w⟩ f_k f_s f_q f_a f_p n).e], [], [Any, Any, Any]⟩
  | _, _ => none
set_option maxHeartbeats 2000000 in
set_option maxRecDepth 100000 in
theorem x_lhear (v_l : Int) (v_c : Int) (v_p : Int) (v_o : Bool) (v_b : Int) (v_s : Int) (v_q : List E) (v_t : Int) (v_n : Int) (v_w : Bool) (f_k : Int) (f_s : Int) (f_q : Int) (f_a : Int) (f_p : List Int) (n : Int) (hC : Ks.std.k_lb ⟨v_l, v_c, v_p, v_o, v_b, v_s, v_q, v_t, v_n, v_w⟩ = true) : Does [(43, c_lcheck Ks.std), (44, c_fcheck FrR.Rs.std), (45, c_islimit Ks.std), (46, c_isopen Ks.std), (48, c_copied Ks.std), (47, c_hello Ks.std), (49, c_welcome Ks.std), (50, c_data Ks.std), (51, c_ackd Ks.std)] Try.f28 [.agg [.val (.int .i64 v_l), .val (.int .i64 v_c), .val (.int .i64 v_p), .val (.bool v_o), .val (.int .i64 v_b), .val (.int .i64 v_s), .sl none (.recs (.ints .u8 .nil) v_q), .val (.int .i64 v_t), .val (.int .i64 v_n), .val (.bool v_w)], .agg [.val (.int .i64 f_k), .val (.int .i64 f_s), .val (.int .i64 f_q), .val (.int .i64 f_a), .sl none (.ints .u8 f_p)], .one (.val (.int .i64 n))] [] ⟨Ks.std.k_lb ⟨v_l, v_c, v_p, v_o, v_b, v_s, v_q, v_t, v_n, v_w⟩ = true, .tup [.agg [.val (.int .i64 ((Ks.std.k_hear ⟨v_l, v_c, v_p, v_o, v_b, v_s, v_q, v_t, v_n, v_w⟩ f_k f_s f_q f_a f_p n).x).l), .val (.int .i64 ((Ks.std.k_hear ⟨v_l, v_c, v_p, v_o, v_b, v_s, v_q, v_t, v_n, v_w⟩ f_k f_s f_q f_a f_p n).x).c), .val (.int .i64 ((Ks.std.k_hear ⟨v_l, v_c, v_p, v_o, v_b, v_s, v_q, v_t, v_n, v_w⟩ f_k f_s f_q f_a f_p n).x).p), .val (.bool ((Ks.std.k_hear ⟨v_l, v_c, v_p, v_o, v_b, v_s, v_q, v_t, v_n, v_w⟩ f_k f_s f_q f_a f_p n).x).o), .val (.int .i64 ((Ks.std.k_hear ⟨v_l, v_c, v_p, v_o, v_b, v_s, v_q, v_t, v_n, v_w⟩ f_k f_s f_q f_a f_p n).x).b), .val (.int .i64 ((Ks.std.k_hear ⟨v_l, v_c, v_p, v_o, v_b, v_s, v_q, v_t, v_n, v_w⟩ f_k f_s f_q f_a f_p n).x).s), .sl none (.recs (.ints .u8 .nil) ((Ks.std.k_hear ⟨v_l, v_c, v_p, v_o, v_b, v_s, v_q, v_t, v_n, v_w⟩ f_k f_s f_q f_a f_p n).x).q), .val (.int .i64 ((Ks.std.k_hear ⟨v_l, v_c, v_p, v_o, v_b, v_s, v_q, v_t, v_n, v_w⟩ f_k f_s f_q f_a f_p n).x).t), .val (.int .i64 ((Ks.std.k_hear ⟨v_l, v_c, v_p, v_o, v_b, v_s, v_q, v_t, v_n, v_w⟩ f_k f_s f_q f_a f_p n).x).n), .val (.bool ((Ks.std.k_hear ⟨v_l, v_c, v_p, v_o, v_b, v_s, v_q, v_t, v_n, v_w⟩ f_k f_s f_q f_a f_p n).x).w)], .agg [.sl none (.recs (.int .i64 (.int .i64 (.int .i64 (.int .i64 (.ints .u8 .nil))))) ((Ks.std.k_hear ⟨v_l, v_c, v_p, v_o, v_b, v_s, v_q, v_t, v_n, v_w⟩ f_k f_s f_q f_a f_p n).y).f), .sl none (.recs (.ints .u8 .nil) ((Ks.std.k_hear ⟨v_l, v_c, v_p, v_o, v_b, v_s, v_q, v_t, v_n, v_w⟩ f_k f_s f_q f_a f_p n).y).g), .val (.bool ((Ks.std.k_hear ⟨v_l, v_c, v_p, v_o, v_b, v_s, v_q, v_t, v_n, v_w⟩ f_k f_s f_q f_a f_p n).y).d), .val (.int .i64 ((Ks.std.k_hear ⟨v_l, v_c, v_p, v_o, v_b, v_s, v_q, v_t, v_n, v_w⟩ f_k f_s f_q f_a f_p n).y).s)], I (Ks.std.k_hear ⟨v_l, v_c, v_p, v_o, v_b, v_s, v_q, v_t, v_n, v_w⟩ f_k f_s f_q f_a f_p n).e], [], [Any, Any, Any]⟩ := by
  intro b gv
  have hlb := lb_ok (show lbB ⟨v_l, v_c, v_p, v_o, v_b, v_s, v_q, v_t, v_n, v_w⟩ = true from hC)
  dsimp only at hlb
  have hml := fun h => may_ok (may_L (x := ⟨v_l, v_c, v_p, v_o, v_b, v_s, v_q, v_t, v_n, v_w⟩) h).2.1
  dsimp only at hml
  have hmf := may_F (k := f_k) (s := f_s) (q := f_q) (a := f_a) (p := f_p)
  have he1 := hlo_e (cpL ⟨v_l, v_c, v_p, v_o, v_b, v_s, v_q, v_t, v_n, v_w⟩) f_s n
  have he2 := wlc_e (cpL ⟨v_l, v_c, v_p, v_o, v_b, v_s, v_q, v_t, v_n, v_w⟩) f_s
  have he3 := dat_e ⟨v_l, v_c, v_p, v_o, v_b, v_s, v_q, v_t, v_n, v_w⟩ f_q f_a f_p
  have hfs := (FsOk.cons ok_lcheck (FsOk.cons ok_fcheck (FsOk.cons ok_islimit (FsOk.cons ok_isopen (FsOk.cons ok_copied (FsOk.cons ok_hello (FsOk.cons ok_welcome (FsOk.cons ok_data (FsOk.cons ok_ackd FsOk.nil rfl) rfl) rfl) rfl) rfl) rfl) rfl) rfl) rfl)
  generalize hF : Ks.std = F at hC hfs ⊢
  generalize hG0 : FrR.Rs.std = G0 at hC hfs ⊢
  generalize hA : Ar.std = A
  generalize hL : Lp _ _ _ = L
  obtain ⟨Z, zq⟩ := z_all
  refine cd_open (lp_mono hL) zq rfl ?_
  repeat' (first
    | (refine z_open zq ?_; try dsimp only)
    | refine cd_seq zq ?_ (lp_mono hL)
    | refine cd_blk zq ?_
    | refine cd_ret ?_
    | refine cd_skip ?_
    | refine cd_exit ?_
    | refine cd_loop ?_
    | refine cd_cond rfl ?_
    | refine cd_condT rfl ?_
    | refine cd_condF rfl ?_
    | (refine Cd.mk ?_; cbv)
    | (refine Ends1.mk ?_; cbv)
    | (refine Fin1.mk ?_; cbv)
    | exact trivial
    | refine And.intro ?_ ?_
    | refine orf fun _ => ?_
    | refine ort fun _ => ?_)
  all_goals
    clear hL zq Z hfs
    subst hF hA hG0
    simp only [Ks.std, FrR.Rs.std, Ar.std, eta_LN] at *
    try (grind [stdCmp, b_add, wr, hearL, zL, zN, chL, chF, opL])
theorem ok_lhear : ConOk Try.prog 28 (c_lhear Ks.std) := by
  refine con_of (FsOk.cons ok_lcheck (FsOk.cons ok_fcheck (FsOk.cons ok_islimit (FsOk.cons ok_isopen (FsOk.cons ok_copied (FsOk.cons ok_hello (FsOk.cons ok_welcome (FsOk.cons ok_data (FsOk.cons ok_ackd FsOk.nil rfl) rfl) rfl) rfl) rfl) rfl) rfl) rfl) rfl) Try.func28 rfl rfl fun xs h p hp => ?_
  unfold c_lhear at hp
  split at hp
  · cases hp
    exact ⟨lee_le rfl, fun hC _ => x_lhear _ _ _ _ _ _ _ _ _ _ _ _ _ _ _ _ hC⟩
  · cases hp

def dfQ (c n : Int) (l : List E) (y : XD) : Prop := 0 ≤ y.i ∧ y.i ≤ l.length ∧ y.o = dfL c n (l.take y.i.toNat)
def dfM (l : List E) (y : XD) : Nat := l.length - y.i.toNat
noncomputable def dfI (A : Ar) (v : LN) (l : List E) (y : XD) : St := stOf Try.f53.ntmps [(2, .ptr 1 0), (5, .sl (some (2, 84)) (.recs (.int .i64 (.int .i64 (.int .i64 (.int .i64 (.ints .u8 .nil))))) y.o)), (8, .sl none (.recs (.int .i64 (.ints .u8 .nil)) l)), (9, .val (.int .i64 (A.lenE l))), (10, .val (.int .i64 y.i))] [(1, .cells 45 [.val (.int .i64 v.l), .val (.int .i64 v.c), .val (.int .i64 v.p), .val (.bool v.o), .val (.int .i64 v.b), .val (.int .i64 v.s), .sl none (.recs (.ints .u8 .nil) v.q), .val (.int .i64 v.t), .val (.int .i64 v.n), .val (.bool v.w)]), (2, .tok)] [Any, Any]
def dfR (st : St) : XD := ⟨slotI st 10, slotR st 5⟩
def rdfR (st : St) : XD := ⟨slotI st 6, slotR st 5⟩
theorem df_step (c n : Int) (l : List E) (i : Int) (o : List E) (hl : l.length ≤ 100000) (hq : dfQ c n l ⟨i, o⟩) (h : i < l.length) : o.length ≤ 100000 ∧ stdBin .add .i64 i 1 = i + 1 ∧ dfQ c n l ⟨i + 1, o ++ [[.int 3, .int c, .int (ri (l.getD i.toNat []) 0), .int n, .ints (rl (l.getD i.toNat []) 1)]]⟩ := by
  obtain ⟨h0, h1, h2⟩ := hq
  simp only at h0 h1 h2
  refine ⟨by rw [h2, df_len, List.length_take]; omega, by rw [b_add, wr _ (by omega) (by omega)], by simp only; omega, by simp only; omega, ?_⟩
  simp only
  rw [take_next l i h0 h, h2]
  simp [dfL]
theorem df_end (c n : Int) (l : List E) (i : Int) (o : List E) (hq : dfQ c n l ⟨i, o⟩) (h : ¬ i < l.length) : o = dfL c n l := by
  obtain ⟨h0, h1, h2⟩ := hq
  simp only at h0 h1 h2
  have e : i = l.length := by omega
  rw [e, Int.toNat_natCast, List.take_length] at h2
  exact h2

def c_df (F : Ks) : Con := fun xs h => match xs, h with
  | [.agg [.val (.int .i64 _), .val (.int .i64 v_c), .val (.int .i64 _), .val (.bool _), .val (.int .i64 _), .val (.int .i64 _), .sl none (.recs (.ints .u8 .nil) _), .val (.int .i64 _), .val (.int .i64 v_n), .val (.bool _)], .one (.sl none (.recs (.int .i64 (.ints .u8 .nil)) l))], [] => some ⟨F.k_lq l = true, .sa (.one (.sl (some (0, 84)) (.recs (.int .i64 (.int .i64 (.int .i64 (.int .i64 (.ints .u8 .nil))))) (F.k_df v_c v_n l)))), [(0, .tok)], [Any, Any]⟩
  | _, _ => none
set_option maxHeartbeats 2000000 in
set_option maxRecDepth 100000 in
theorem x_df (v_l : Int) (v_c : Int) (v_p : Int) (v_o : Bool) (v_b : Int) (v_s : Int) (v_q : List E) (v_t : Int) (v_n : Int) (v_w : Bool) (l : List E) (hC : Ks.std.k_lq l = true) : Does [] Try.f53 [.agg [.val (.int .i64 v_l), .val (.int .i64 v_c), .val (.int .i64 v_p), .val (.bool v_o), .val (.int .i64 v_b), .val (.int .i64 v_s), .sl none (.recs (.ints .u8 .nil) v_q), .val (.int .i64 v_t), .val (.int .i64 v_n), .val (.bool v_w)], .one (.sl none (.recs (.int .i64 (.ints .u8 .nil)) l))] [] ⟨Ks.std.k_lq l = true, .sa (.one (.sl (some (0, 84)) (.recs (.int .i64 (.int .i64 (.int .i64 (.int .i64 (.ints .u8 .nil))))) (Ks.std.k_df v_c v_n l)))), [(0, .tok)], [Any, Any]⟩ := by
  intro b gv
  have hl : l.length ≤ 100000 := of_decide_eq_true (show decide (l.length ≤ 100000) = true from hC)
  have hfs := FsOk.nil
  generalize hF : Ks.std = F at hC hfs ⊢
  generalize hA : Ar.std = A
  generalize hL : Lp _ _ _ = L
  obtain ⟨Z, zq⟩ := z_all
  refine cd_open (lp_mono hL) zq rfl ?_
  repeat' (first
    | (refine z_open zq ?_; try dsimp only)
    | refine cd_seq zq ?_ (lp_mono hL)
    | refine cd_blk zq ?_
    | refine cd_ret ?_
    | refine cd_skip ?_
    | refine cd_exit ?_
    | refine cd_loop ?_
    | refine cd_cond rfl ?_
    | refine cd_condT rfl ?_
    | refine cd_condF rfl ?_
    | (refine Cd.mk ?_; cbv)
    | (refine Ends1.mk ?_; cbv)
    | (refine Fin1.mk ?_; cbv)
    | exact trivial
    | refine And.intro ?_ ?_
    | refine orf fun _ => ?_
    | refine ort fun _ => ?_)
  subst hL
  refine loop_z (cx_ok hfs) (dfQ v_c v_n l) (dfI A ⟨v_l, v_c, v_p, v_o, v_b, v_s, v_q, v_t, v_n, v_w⟩ l) (dfM l) dfR ⟨0, []⟩ ?_ ?_ ?_
  · exact ⟨Int.le_refl 0, Int.natCast_nonneg _, rfl⟩
  · cbv
    repeat' (first | exact trivial | exact rfl | refine And.intro ?_ ?_)
  rintro ⟨i, o⟩ hq O hO
  have hst := df_step v_c v_n l i o hl hq
  have hen := df_end v_c v_n l i o hq
  have q0 := hq.1
  have q1 := hq.2.1
  dsimp only at q0 q1
  subst hA
  generalize hA : Ar.std = A
  generalize hL : Lp _ _ _ = L
  refine cd_close zq ?_
  repeat' (first
    | (refine z_open zq ?_; try dsimp only)
    | refine cd_seq zq ?_ (lp_mono hL)
    | refine cd_blk zq ?_
    | refine cd_ret ?_
    | refine cd_skip ?_
    | refine cd_exit ?_
    | refine cd_loop ?_
    | refine cd_cond rfl ?_
    | refine cd_condT rfl ?_
    | refine cd_condF rfl ?_
    | (refine Cd.mk ?_; cbv)
    | (refine Ends1.mk ?_; cbv)
    | (refine Fin1.mk ?_; cbv)
    | exact trivial
    | refine And.intro ?_ ?_
    | refine orf fun _ => ?_
    | refine ort fun _ => ?_)
  all_goals (clear hL hfs zq Z hq; subst hA hF hO; simp only [Ks.std, Ar.std] at * <;> grind [stdCmp, dfM])
theorem ok_df : ConOk Try.prog 53 (c_df Ks.std) := by
  refine con_of FsOk.nil Try.func53 rfl rfl fun xs h p hp => ?_
  unfold c_df at hp
  split at hp
  · cases hp
    exact ⟨lee_le rfl, fun hC _ => x_df _ _ _ _ _ _ _ _ _ _ _ hC⟩
  · cases hp

def c_ltick (F : Ks) : Con := fun xs h => match xs, h with
  | [.agg [.val (.int .i64 v_l), .val (.int .i64 v_c), .val (.int .i64 v_p), .val (.bool v_o), .val (.int .i64 v_b), .val (.int .i64 v_s), .sl none (.recs (.ints .u8 .nil) v_q), .val (.int .i64 v_t), .val (.int .i64 v_n), .val (.bool v_w)], .one (.val (.int .i64 n))], [] => some ⟨F.k_lb ⟨v_l, v_c, v_p, v_o, v_b, v_s, v_q, v_t, v_n, v_w⟩ = true, .tup [.agg [.val (.int .i64 ((F.k_tik ⟨v_l, v_c, v_p, v_o, v_b, v_s, v_q, v_t, v_n, v_w⟩ n).x).l), .val (.int .i64 ((F.k_tik ⟨v_l, v_c, v_p, v_o, v_b, v_s, v_q, v_t, v_n, v_w⟩ n).x).c), .val (.int .i64 ((F.k_tik ⟨v_l, v_c, v_p, v_o, v_b, v_s, v_q, v_t, v_n, v_w⟩ n).x).p), .val (.bool ((F.k_tik ⟨v_l, v_c, v_p, v_o, v_b, v_s, v_q, v_t, v_n, v_w⟩ n).x).o), .val (.int .i64 ((F.k_tik ⟨v_l, v_c, v_p, v_o, v_b, v_s, v_q, v_t, v_n, v_w⟩ n).x).b), .val (.int .i64 ((F.k_tik ⟨v_l, v_c, v_p, v_o, v_b, v_s, v_q, v_t, v_n, v_w⟩ n).x).s), .sl none (.recs (.ints .u8 .nil) ((F.k_tik ⟨v_l, v_c, v_p, v_o, v_b, v_s, v_q, v_t, v_n, v_w⟩ n).x).q), .val (.int .i64 ((F.k_tik ⟨v_l, v_c, v_p, v_o, v_b, v_s, v_q, v_t, v_n, v_w⟩ n).x).t), .val (.int .i64 ((F.k_tik ⟨v_l, v_c, v_p, v_o, v_b, v_s, v_q, v_t, v_n, v_w⟩ n).x).n), .val (.bool ((F.k_tik ⟨v_l, v_c, v_p, v_o, v_b, v_s, v_q, v_t, v_n, v_w⟩ n).x).w)], .agg [.sl none (.recs (.int .i64 (.int .i64 (.int .i64 (.int .i64 (.ints .u8 .nil))))) ((F.k_tik ⟨v_l, v_c, v_p, v_o, v_b, v_s, v_q, v_t, v_n, v_w⟩ n).y).f), .sl none (.recs (.ints .u8 .nil) ((F.k_tik ⟨v_l, v_c, v_p, v_o, v_b, v_s, v_q, v_t, v_n, v_w⟩ n).y).g), .val (.bool ((F.k_tik ⟨v_l, v_c, v_p, v_o, v_b, v_s, v_q, v_t, v_n, v_w⟩ n).y).d), .val (.int .i64 ((F.k_tik ⟨v_l, v_c, v_p, v_o, v_b, v_s, v_q, v_t, v_n, v_w⟩ n).y).s)], I (F.k_tik ⟨v_l, v_c, v_p, v_o, v_b, v_s, v_q, v_t, v_n, v_w⟩ n).e], [], [Any, Any]⟩
  | _, _ => none
set_option maxHeartbeats 2000000 in
set_option maxRecDepth 100000 in
theorem x_ltick (v_l : Int) (v_c : Int) (v_p : Int) (v_o : Bool) (v_b : Int) (v_s : Int) (v_q : List E) (v_t : Int) (v_n : Int) (v_w : Bool) (n : Int) (hC : Ks.std.k_lb ⟨v_l, v_c, v_p, v_o, v_b, v_s, v_q, v_t, v_n, v_w⟩ = true) : Does [(43, c_lcheck Ks.std), (45, c_islimit Ks.std), (46, c_isopen Ks.std), (52, c_tick Vs.std), (53, c_df Ks.std), (54, c_begun Ks.std)] Try.f29 [.agg [.val (.int .i64 v_l), .val (.int .i64 v_c), .val (.int .i64 v_p), .val (.bool v_o), .val (.int .i64 v_b), .val (.int .i64 v_s), .sl none (.recs (.ints .u8 .nil) v_q), .val (.int .i64 v_t), .val (.int .i64 v_n), .val (.bool v_w)], .one (.val (.int .i64 n))] [] ⟨Ks.std.k_lb ⟨v_l, v_c, v_p, v_o, v_b, v_s, v_q, v_t, v_n, v_w⟩ = true, .tup [.agg [.val (.int .i64 ((Ks.std.k_tik ⟨v_l, v_c, v_p, v_o, v_b, v_s, v_q, v_t, v_n, v_w⟩ n).x).l), .val (.int .i64 ((Ks.std.k_tik ⟨v_l, v_c, v_p, v_o, v_b, v_s, v_q, v_t, v_n, v_w⟩ n).x).c), .val (.int .i64 ((Ks.std.k_tik ⟨v_l, v_c, v_p, v_o, v_b, v_s, v_q, v_t, v_n, v_w⟩ n).x).p), .val (.bool ((Ks.std.k_tik ⟨v_l, v_c, v_p, v_o, v_b, v_s, v_q, v_t, v_n, v_w⟩ n).x).o), .val (.int .i64 ((Ks.std.k_tik ⟨v_l, v_c, v_p, v_o, v_b, v_s, v_q, v_t, v_n, v_w⟩ n).x).b), .val (.int .i64 ((Ks.std.k_tik ⟨v_l, v_c, v_p, v_o, v_b, v_s, v_q, v_t, v_n, v_w⟩ n).x).s), .sl none (.recs (.ints .u8 .nil) ((Ks.std.k_tik ⟨v_l, v_c, v_p, v_o, v_b, v_s, v_q, v_t, v_n, v_w⟩ n).x).q), .val (.int .i64 ((Ks.std.k_tik ⟨v_l, v_c, v_p, v_o, v_b, v_s, v_q, v_t, v_n, v_w⟩ n).x).t), .val (.int .i64 ((Ks.std.k_tik ⟨v_l, v_c, v_p, v_o, v_b, v_s, v_q, v_t, v_n, v_w⟩ n).x).n), .val (.bool ((Ks.std.k_tik ⟨v_l, v_c, v_p, v_o, v_b, v_s, v_q, v_t, v_n, v_w⟩ n).x).w)], .agg [.sl none (.recs (.int .i64 (.int .i64 (.int .i64 (.int .i64 (.ints .u8 .nil))))) ((Ks.std.k_tik ⟨v_l, v_c, v_p, v_o, v_b, v_s, v_q, v_t, v_n, v_w⟩ n).y).f), .sl none (.recs (.ints .u8 .nil) ((Ks.std.k_tik ⟨v_l, v_c, v_p, v_o, v_b, v_s, v_q, v_t, v_n, v_w⟩ n).y).g), .val (.bool ((Ks.std.k_tik ⟨v_l, v_c, v_p, v_o, v_b, v_s, v_q, v_t, v_n, v_w⟩ n).y).d), .val (.int .i64 ((Ks.std.k_tik ⟨v_l, v_c, v_p, v_o, v_b, v_s, v_q, v_t, v_n, v_w⟩ n).y).s)], I (Ks.std.k_tik ⟨v_l, v_c, v_p, v_o, v_b, v_s, v_q, v_t, v_n, v_w⟩ n).e], [], [Any, Any]⟩ := by
  intro b gv
  have hlb := lb_ok (show lbB ⟨v_l, v_c, v_p, v_o, v_b, v_s, v_q, v_t, v_n, v_w⟩ = true from hC)
  dsimp only at hlb
  have htl := tk_len v_b v_s v_q v_t
  have hfs := (FsOk.cons ok_lcheck (FsOk.cons ok_islimit (FsOk.cons ok_isopen (FsOk.cons ok_tick (FsOk.cons ok_df (FsOk.cons ok_begun FsOk.nil rfl) rfl) rfl) rfl) rfl) rfl)
  generalize hF : Ks.std = F at hC hfs ⊢
  generalize hG0 : Vs.std = G0 at hC hfs ⊢
  generalize hA : Ar.std = A
  generalize hL : Lp _ _ _ = L
  obtain ⟨Z, zq⟩ := z_all
  refine cd_open (lp_mono hL) zq rfl ?_
  repeat' (first
    | (refine z_open zq ?_; try dsimp only)
    | refine cd_seq zq ?_ (lp_mono hL)
    | refine cd_blk zq ?_
    | refine cd_ret ?_
    | refine cd_skip ?_
    | refine cd_exit ?_
    | refine cd_loop ?_
    | refine cd_cond rfl ?_
    | refine cd_condT rfl ?_
    | refine cd_condF rfl ?_
    | (refine Cd.mk ?_; cbv)
    | (refine Ends1.mk ?_; cbv)
    | (refine Fin1.mk ?_; cbv)
    | exact trivial
    | refine And.intro ?_ ?_
    | refine orf fun _ => ?_
    | refine ort fun _ => ?_)
  all_goals
    clear hL zq Z hfs
    subst hF hA hG0
    simp only [Ks.std, Vs.std, Ar.std] at *
    try (grind [stdCmp, b_add, wr, tikL, zL, zN, chL, bgL, sndL, opL])
theorem ok_ltick : ConOk Try.prog 29 (c_ltick Ks.std) := by
  refine con_of (FsOk.cons ok_lcheck (FsOk.cons ok_islimit (FsOk.cons ok_isopen (FsOk.cons ok_tick (FsOk.cons ok_df (FsOk.cons ok_begun FsOk.nil rfl) rfl) rfl) rfl) rfl) rfl) Try.func29 rfl rfl fun xs h p hp => ?_
  unfold c_ltick at hp
  split at hp
  · cases hp
    exact ⟨lee_le rfl, fun hC _ => x_ltick _ _ _ _ _ _ _ _ _ _ _ hC⟩
  · cases hp

def c_flush (F : Ks) : Con := fun xs h => match xs, h with
  | [.agg [.val (.int .i64 v_l), .val (.int .i64 v_c), .val (.int .i64 v_p), .val (.bool v_o), .val (.int .i64 v_b), .val (.int .i64 v_s), .sl none (.recs (.ints .u8 .nil) v_q), .val (.int .i64 v_t), .val (.int .i64 v_n), .val (.bool v_w)]], [] => some ⟨F.k_lb ⟨v_l, v_c, v_p, v_o, v_b, v_s, v_q, v_t, v_n, v_w⟩ = true, .tup [.agg [.val (.int .i64 ((F.k_flu ⟨v_l, v_c, v_p, v_o, v_b, v_s, v_q, v_t, v_n, v_w⟩).x).l), .val (.int .i64 ((F.k_flu ⟨v_l, v_c, v_p, v_o, v_b, v_s, v_q, v_t, v_n, v_w⟩).x).c), .val (.int .i64 ((F.k_flu ⟨v_l, v_c, v_p, v_o, v_b, v_s, v_q, v_t, v_n, v_w⟩).x).p), .val (.bool ((F.k_flu ⟨v_l, v_c, v_p, v_o, v_b, v_s, v_q, v_t, v_n, v_w⟩).x).o), .val (.int .i64 ((F.k_flu ⟨v_l, v_c, v_p, v_o, v_b, v_s, v_q, v_t, v_n, v_w⟩).x).b), .val (.int .i64 ((F.k_flu ⟨v_l, v_c, v_p, v_o, v_b, v_s, v_q, v_t, v_n, v_w⟩).x).s), .sl none (.recs (.ints .u8 .nil) ((F.k_flu ⟨v_l, v_c, v_p, v_o, v_b, v_s, v_q, v_t, v_n, v_w⟩).x).q), .val (.int .i64 ((F.k_flu ⟨v_l, v_c, v_p, v_o, v_b, v_s, v_q, v_t, v_n, v_w⟩).x).t), .val (.int .i64 ((F.k_flu ⟨v_l, v_c, v_p, v_o, v_b, v_s, v_q, v_t, v_n, v_w⟩).x).n), .val (.bool ((F.k_flu ⟨v_l, v_c, v_p, v_o, v_b, v_s, v_q, v_t, v_n, v_w⟩).x).w)], .agg [.sl none (.recs (.int .i64 (.int .i64 (.int .i64 (.int .i64 (.ints .u8 .nil))))) ((F.k_flu ⟨v_l, v_c, v_p, v_o, v_b, v_s, v_q, v_t, v_n, v_w⟩).y).f), .sl none (.recs (.ints .u8 .nil) ((F.k_flu ⟨v_l, v_c, v_p, v_o, v_b, v_s, v_q, v_t, v_n, v_w⟩).y).g), .val (.bool ((F.k_flu ⟨v_l, v_c, v_p, v_o, v_b, v_s, v_q, v_t, v_n, v_w⟩).y).d), .val (.int .i64 ((F.k_flu ⟨v_l, v_c, v_p, v_o, v_b, v_s, v_q, v_t, v_n, v_w⟩).y).s)], I (F.k_flu ⟨v_l, v_c, v_p, v_o, v_b, v_s, v_q, v_t, v_n, v_w⟩).e], [], [Any]⟩
  | _, _ => none
set_option maxHeartbeats 2000000 in
set_option maxRecDepth 100000 in
theorem x_flush (v_l : Int) (v_c : Int) (v_p : Int) (v_o : Bool) (v_b : Int) (v_s : Int) (v_q : List E) (v_t : Int) (v_n : Int) (v_w : Bool) (hC : Ks.std.k_lb ⟨v_l, v_c, v_p, v_o, v_b, v_s, v_q, v_t, v_n, v_w⟩ = true) : Does [(43, c_lcheck Ks.std), (46, c_isopen Ks.std), (55, c_ready Gs.std), (53, c_df Ks.std), (56, c_tack HaR.Fs.std), (54, c_begun Ks.std)] Try.f31 [.agg [.val (.int .i64 v_l), .val (.int .i64 v_c), .val (.int .i64 v_p), .val (.bool v_o), .val (.int .i64 v_b), .val (.int .i64 v_s), .sl none (.recs (.ints .u8 .nil) v_q), .val (.int .i64 v_t), .val (.int .i64 v_n), .val (.bool v_w)]] [] ⟨Ks.std.k_lb ⟨v_l, v_c, v_p, v_o, v_b, v_s, v_q, v_t, v_n, v_w⟩ = true, .tup [.agg [.val (.int .i64 ((Ks.std.k_flu ⟨v_l, v_c, v_p, v_o, v_b, v_s, v_q, v_t, v_n, v_w⟩).x).l), .val (.int .i64 ((Ks.std.k_flu ⟨v_l, v_c, v_p, v_o, v_b, v_s, v_q, v_t, v_n, v_w⟩).x).c), .val (.int .i64 ((Ks.std.k_flu ⟨v_l, v_c, v_p, v_o, v_b, v_s, v_q, v_t, v_n, v_w⟩).x).p), .val (.bool ((Ks.std.k_flu ⟨v_l, v_c, v_p, v_o, v_b, v_s, v_q, v_t, v_n, v_w⟩).x).o), .val (.int .i64 ((Ks.std.k_flu ⟨v_l, v_c, v_p, v_o, v_b, v_s, v_q, v_t, v_n, v_w⟩).x).b), .val (.int .i64 ((Ks.std.k_flu ⟨v_l, v_c, v_p, v_o, v_b, v_s, v_q, v_t, v_n, v_w⟩).x).s), .sl none (.recs (.ints .u8 .nil) ((Ks.std.k_flu ⟨v_l, v_c, v_p, v_o, v_b, v_s, v_q, v_t, v_n, v_w⟩).x).q), .val (.int .i64 ((Ks.std.k_flu ⟨v_l, v_c, v_p, v_o, v_b, v_s, v_q, v_t, v_n, v_w⟩).x).t), .val (.int .i64 ((Ks.std.k_flu ⟨v_l, v_c, v_p, v_o, v_b, v_s, v_q, v_t, v_n, v_w⟩).x).n), .val (.bool ((Ks.std.k_flu ⟨v_l, v_c, v_p, v_o, v_b, v_s, v_q, v_t, v_n, v_w⟩).x).w)], .agg [.sl none (.recs (.int .i64 (.int .i64 (.int .i64 (.int .i64 (.ints .u8 .nil))))) ((Ks.std.k_flu ⟨v_l, v_c, v_p, v_o, v_b, v_s, v_q, v_t, v_n, v_w⟩).y).f), .sl none (.recs (.ints .u8 .nil) ((Ks.std.k_flu ⟨v_l, v_c, v_p, v_o, v_b, v_s, v_q, v_t, v_n, v_w⟩).y).g), .val (.bool ((Ks.std.k_flu ⟨v_l, v_c, v_p, v_o, v_b, v_s, v_q, v_t, v_n, v_w⟩).y).d), .val (.int .i64 ((Ks.std.k_flu ⟨v_l, v_c, v_p, v_o, v_b, v_s, v_q, v_t, v_n, v_w⟩).y).s)], I (Ks.std.k_flu ⟨v_l, v_c, v_p, v_o, v_b, v_s, v_q, v_t, v_n, v_w⟩).e], [], [Any]⟩ := by
  intro b gv
  have hlb := lb_ok (show lbB ⟨v_l, v_c, v_p, v_o, v_b, v_s, v_q, v_t, v_n, v_w⟩ = true from hC)
  dsimp only at hlb
  have htl := rd_len v_b v_s v_q v_t
  have hdl := df_len v_c v_n (rdyN v_b v_s v_q v_t)
  have hml := fun h => (may_L (x := ⟨v_l, v_c, v_p, v_o, v_b, v_s, v_q, v_t, v_n, v_w⟩) h).2.2.1
  have hfs := (FsOk.cons ok_lcheck (FsOk.cons ok_isopen (FsOk.cons ok_ready (FsOk.cons ok_df (FsOk.cons ok_tack (FsOk.cons ok_begun FsOk.nil rfl) rfl) rfl) rfl) rfl) rfl)
  generalize hF : Ks.std = F at hC hfs ⊢
  generalize hG0 : HaR.Fs.std = G0 at hC hfs ⊢
  generalize hG1 : Gs.std = G1 at hC hfs ⊢
  generalize hA : Ar.std = A
  generalize hL : Lp _ _ _ = L
  obtain ⟨Z, zq⟩ := z_all
  refine cd_open (lp_mono hL) zq rfl ?_
  repeat' (first
    | (refine z_open zq ?_; try dsimp only)
    | refine cd_seq zq ?_ (lp_mono hL)
    | refine cd_blk zq ?_
    | refine cd_ret ?_
    | refine cd_skip ?_
    | refine cd_exit ?_
    | refine cd_loop ?_
    | refine cd_cond rfl ?_
    | refine cd_condT rfl ?_
    | refine cd_condF rfl ?_
    | (refine Cd.mk ?_; cbv)
    | (refine Ends1.mk ?_; cbv)
    | (refine Fin1.mk ?_; cbv)
    | exact trivial
    | refine And.intro ?_ ?_
    | refine orf fun _ => ?_
    | refine ort fun _ => ?_)
  all_goals
    clear hL zq Z hfs
    subst hF hA hG0 hG1
    simp only [Ks.std, HaR.Fs.std, Gs.std, Ar.std] at *
    try (grind [stdCmp, b_add, wr, fluL, zL, zN, chL, bgL, akF])
theorem ok_flush : ConOk Try.prog 31 (c_flush Ks.std) := by
  refine con_of (FsOk.cons ok_lcheck (FsOk.cons ok_isopen (FsOk.cons ok_ready (FsOk.cons ok_df (FsOk.cons ok_tack (FsOk.cons ok_begun FsOk.nil rfl) rfl) rfl) rfl) rfl) rfl) Try.func31 rfl rfl fun xs h p hp => ?_
  unfold c_flush at hp
  split at hp
  · cases hp
    exact ⟨lee_le rfl, fun hC _ => x_flush _ _ _ _ _ _ _ _ _ _ hC⟩
  · cases hp

def c_lclose (F : Ks) : Con := fun xs h => match xs, h with
  | [.agg [.val (.int .i64 v_l), .val (.int .i64 v_c), .val (.int .i64 v_p), .val (.bool v_o), .val (.int .i64 v_b), .val (.int .i64 v_s), .sl none (.recs (.ints .u8 .nil) v_q), .val (.int .i64 v_t), .val (.int .i64 v_n), .val (.bool v_w)], .one (.val (.int .i64 n))], [] => some ⟨F.k_lb ⟨v_l, v_c, v_p, v_o, v_b, v_s, v_q, v_t, v_n, v_w⟩ = true, .tup [.agg [.val (.int .i64 ((F.k_clo ⟨v_l, v_c, v_p, v_o, v_b, v_s, v_q, v_t, v_n, v_w⟩ n).x).l), .val (.int .i64 ((F.k_clo ⟨v_l, v_c, v_p, v_o, v_b, v_s, v_q, v_t, v_n, v_w⟩ n).x).c), .val (.int .i64 ((F.k_clo ⟨v_l, v_c, v_p, v_o, v_b, v_s, v_q, v_t, v_n, v_w⟩ n).x).p), .val (.bool ((F.k_clo ⟨v_l, v_c, v_p, v_o, v_b, v_s, v_q, v_t, v_n, v_w⟩ n).x).o), .val (.int .i64 ((F.k_clo ⟨v_l, v_c, v_p, v_o, v_b, v_s, v_q, v_t, v_n, v_w⟩ n).x).b), .val (.int .i64 ((F.k_clo ⟨v_l, v_c, v_p, v_o, v_b, v_s, v_q, v_t, v_n, v_w⟩ n).x).s), .sl none (.recs (.ints .u8 .nil) ((F.k_clo ⟨v_l, v_c, v_p, v_o, v_b, v_s, v_q, v_t, v_n, v_w⟩ n).x).q), .val (.int .i64 ((F.k_clo ⟨v_l, v_c, v_p, v_o, v_b, v_s, v_q, v_t, v_n, v_w⟩ n).x).t), .val (.int .i64 ((F.k_clo ⟨v_l, v_c, v_p, v_o, v_b, v_s, v_q, v_t, v_n, v_w⟩ n).x).n), .val (.bool ((F.k_clo ⟨v_l, v_c, v_p, v_o, v_b, v_s, v_q, v_t, v_n, v_w⟩ n).x).w)], .agg [.sl none (.recs (.int .i64 (.int .i64 (.int .i64 (.int .i64 (.ints .u8 .nil))))) ((F.k_clo ⟨v_l, v_c, v_p, v_o, v_b, v_s, v_q, v_t, v_n, v_w⟩ n).y).f), .sl none (.recs (.ints .u8 .nil) ((F.k_clo ⟨v_l, v_c, v_p, v_o, v_b, v_s, v_q, v_t, v_n, v_w⟩ n).y).g), .val (.bool ((F.k_clo ⟨v_l, v_c, v_p, v_o, v_b, v_s, v_q, v_t, v_n, v_w⟩ n).y).d), .val (.int .i64 ((F.k_clo ⟨v_l, v_c, v_p, v_o, v_b, v_s, v_q, v_t, v_n, v_w⟩ n).y).s)], I (F.k_clo ⟨v_l, v_c, v_p, v_o, v_b, v_s, v_q, v_t, v_n, v_w⟩ n).e], [], [Any, Any]⟩
  | _, _ => none
set_option maxHeartbeats 2000000 in
set_option maxRecDepth 100000 in
theorem x_lclose (v_l : Int) (v_c : Int) (v_p : Int) (v_o : Bool) (v_b : Int) (v_s : Int) (v_q : List E) (v_t : Int) (v_n : Int) (v_w : Bool) (n : Int) (hC : Ks.std.k_lb ⟨v_l, v_c, v_p, v_o, v_b, v_s, v_q, v_t, v_n, v_w⟩ = true) : Does [(43, c_lcheck Ks.std), (45, c_islimit Ks.std), (46, c_isopen Ks.std), (57, c_hclose HaR.Fs.std), (54, c_begun Ks.std)] Try.f32 [.agg [.val (.int .i64 v_l), .val (.int .i64 v_c), .val (.int .i64 v_p), .val (.bool v_o), .val (.int .i64 v_b), .val (.int .i64 v_s), .sl none (.recs (.ints .u8 .nil) v_q), .val (.int .i64 v_t), .val (.int .i64 v_n), .val (.bool v_w)], .one (.val (.int .i64 n))] [] ⟨Ks.std.k_lb ⟨v_l, v_c, v_p, v_o, v_b, v_s, v_q, v_t, v_n, v_w⟩ = true, .tup [.agg [.val (.int .i64 ((Ks.std.k_clo ⟨v_l, v_c, v_p, v_o, v_b, v_s, v_q, v_t, v_n, v_w⟩ n).x).l), .val (.int .i64 ((Ks.std.k_clo ⟨v_l, v_c, v_p, v_o, v_b, v_s, v_q, v_t, v_n, v_w⟩ n).x).c), .val (.int .i64 ((Ks.std.k_clo ⟨v_l, v_c, v_p, v_o, v_b, v_s, v_q, v_t, v_n, v_w⟩ n).x).p), .val (.bool ((Ks.std.k_clo ⟨v_l, v_c, v_p, v_o, v_b, v_s, v_q, v_t, v_n, v_w⟩ n).x).o), .val (.int .i64 ((Ks.std.k_clo ⟨v_l, v_c, v_p, v_o, v_b, v_s, v_q, v_t, v_n, v_w⟩ n).x).b), .val (.int .i64 ((Ks.std.k_clo ⟨v_l, v_c, v_p, v_o, v_b, v_s, v_q, v_t, v_n, v_w⟩ n).x).s), .sl none (.recs (.ints .u8 .nil) ((Ks.std.k_clo ⟨v_l, v_c, v_p, v_o, v_b, v_s, v_q, v_t, v_n, v_w⟩ n).x).q), .val (.int .i64 ((Ks.std.k_clo ⟨v_l, v_c, v_p, v_o, v_b, v_s, v_q, v_t, v_n, v_w⟩ n).x).t), .val (.int .i64 ((Ks.std.k_clo ⟨v_l, v_c, v_p, v_o, v_b, v_s, v_q, v_t, v_n, v_w⟩ n).x).n), .val (.bool ((Ks.std.k_clo ⟨v_l, v_c, v_p, v_o, v_b, v_s, v_q, v_t, v_n, v_w⟩ n).x).w)], .agg [.sl none (.recs (.int .i64 (.int .i64 (.int .i64 (.int .i64 (.ints .u8 .nil))))) ((Ks.std.k_clo ⟨v_l, v_c, v_p, v_o, v_b, v_s, v_q, v_t, v_n, v_w⟩ n).y).f), .sl none (.recs (.ints .u8 .nil) ((Ks.std.k_clo ⟨v_l, v_c, v_p, v_o, v_b, v_s, v_q, v_t, v_n, v_w⟩ n).y).g), .val (.bool ((Ks.std.k_clo ⟨v_l, v_c, v_p, v_o, v_b, v_s, v_q, v_t, v_n, v_w⟩ n).y).d), .val (.int .i64 ((Ks.std.k_clo ⟨v_l, v_c, v_p, v_o, v_b, v_s, v_q, v_t, v_n, v_w⟩ n).y).s)], I (Ks.std.k_clo ⟨v_l, v_c, v_p, v_o, v_b, v_s, v_q, v_t, v_n, v_w⟩ n).e], [], [Any, Any]⟩ := by
  intro b gv
  have hlb := lb_ok (show lbB ⟨v_l, v_c, v_p, v_o, v_b, v_s, v_q, v_t, v_n, v_w⟩ = true from hC)
  dsimp only at hlb
  have hfs := (FsOk.cons ok_lcheck (FsOk.cons ok_islimit (FsOk.cons ok_isopen (FsOk.cons ok_hclose (FsOk.cons ok_begun FsOk.nil rfl) rfl) rfl) rfl) rfl)
  generalize hF : Ks.std = F at hC hfs ⊢
  generalize hG0 : HaR.Fs.std = G0 at hC hfs ⊢
  generalize hA : Ar.std = A
  generalize hL : Lp _ _ _ = L
  obtain ⟨Z, zq⟩ := z_all
  refine cd_open (lp_mono hL) zq rfl ?_
  repeat' (first
    | (refine z_open zq ?_; try dsimp only)
    | refine cd_seq zq ?_ (lp_mono hL)
    | refine cd_blk zq ?_
    | refine cd_ret ?_
    | refine cd_skip ?_
    | refine cd_exit ?_
    | refine cd_loop ?_
    | refine cd_cond rfl ?_
    | refine cd_condT rfl ?_
    | refine cd_condF rfl ?_
    | (refine Cd.mk ?_; cbv)
    | (refine Ends1.mk ?_; cbv)
    | (refine Fin1.mk ?_; cbv)
    | exact trivial
    | refine And.intro ?_ ?_
    | refine orf fun _ => ?_
    | refine ort fun _ => ?_)
  all_goals
    clear hL zq Z hfs
    subst hF hA hG0
    simp only [Ks.std, HaR.Fs.std, Ar.std] at *
    try (grind [stdCmp, b_add, wr, cloL, zL, zN, chL, bgL, opL])
theorem ok_lclose : ConOk Try.prog 32 (c_lclose Ks.std) := by
  refine con_of (FsOk.cons ok_lcheck (FsOk.cons ok_islimit (FsOk.cons ok_isopen (FsOk.cons ok_hclose (FsOk.cons ok_begun FsOk.nil rfl) rfl) rfl) rfl) rfl) Try.func32 rfl rfl fun xs h p hp => ?_
  unfold c_lclose at hp
  split at hp
  · cases hp
    exact ⟨lee_le rfl, fun hC _ => x_lclose _ _ _ _ _ _ _ _ _ _ _ hC⟩
  · cases hp
end Go.Proofs.Ytakebkfhigadiaa.LiR
