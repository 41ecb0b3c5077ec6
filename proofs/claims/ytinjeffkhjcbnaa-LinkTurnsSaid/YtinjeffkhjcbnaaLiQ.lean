/-
  the answer's lines over the reckoner. No condition.
-/
import Derived.Test.YtinjeffkhjcbnaaLiR
import Derived.Test.YtinjeffkhjcbnaaFrQ
namespace Go.Proofs.Ytinjeffkhjcbnaa.LiQ
open Go Go.Proofs.Ytinjeffkhjcbnaa.Ry Go.Proofs.Ytinjeffkhjcbnaa.HaR Go.Proofs.Ytinjeffkhjcbnaa.SeR Go.Proofs.Ytinjeffkhjcbnaa.SeS Go.Proofs.Ytinjeffkhjcbnaa.SeT Go.Proofs.Ytinjeffkhjcbnaa.SeU Go.Proofs.Ytinjeffkhjcbnaa.SeL Go.Proofs.Ytinjeffkhjcbnaa.SeV Go.Proofs.Ytinjeffkhjcbnaa.LiR

open Go.Proofs.Ytinjeffkhjcbnaa.FrR (mayF chF isC smF)
open Go.Proofs.Ytinjeffkhjcbnaa.OctR (byB)
abbrev c_frsame := FrQ.c_rsame
theorem ok_frsame : ConOk Try.prog 85 (c_frsame FrQ.Qs.std) := FrQ.ok_rsame
def rnewL (limit : Int) : LN := let h := newH 0 limit; ⟨h.l, h.c, h.p, h.o, 0, 0, [], 0, 0, false⟩
def rpushL (x : LN) (p : List Int) (limit : Int) : LD :=
  if opL x = true then (if (rpushS x.b x.s x.q x.t p limit).e = 0 then ⟨sndL x (rpushS x.b x.s x.q x.t p limit), zN, 0⟩ else ⟨zL, zN, (rpushS x.b x.s x.q x.t p limit).e⟩)
  else ⟨zL, zN, 4⟩
def rackL (x : LN) (k : Int) : LN := sndL x (rackS x.b x.s x.q x.t k)
def rhloL (x : LN) (p limit : Int) : LD :=
  let r := helH x.l x.c x.p x.o p limit
  ⟨if r.b = true then bgL (hndL x r) else hndL x r, ⟨if r.a = true then [[.int 2, .int p, .int 0, .int 0, .ints []]] else [], [], r.b, 0⟩, 0⟩
def rwlcL (x : LN) (p : Int) : LD :=
  let r := welH x.l x.c x.p x.o p
  if r.a = true then ⟨⟨r.l, r.c, r.p, r.o, 0, 0, [], 0, 0, false⟩, ⟨[], [], false, p⟩, 0⟩ else ⟨x, zN, 0⟩
def rdatL (x : LN) (q a : Int) (p : List Int) : LD :=
  let g := getH x.n q
  ⟨rackL ⟨x.l, x.c, x.p, x.o, x.b, x.s, x.q, x.t, g.n, g.w⟩ a, ⟨[], if g.a = true then [[.ints p]] else [], false, 0⟩, 0⟩
def rhearL (x : LN) (k s q a : Int) (p : List Int) (limit : Int) : LD :=
  if k = 1 then rhloL x s limit
  else if k = 2 then rwlcL x s
  else if opL x = false ∨ x.c ≠ s then ⟨x, zN, 0⟩
  else if k = 3 then rdatL x q a p
  else ⟨rackL x a, zN, 0⟩
def rtikL (x : LN) : LD :=
  if 0 < x.p then ⟨x, ⟨[[.int 1, .int x.p, .int 0, .int 0, .ints []]], [], false, 0⟩, 0⟩
  else ⟨sndL x (rtkS x.b x.s x.q x.t), ⟨dfL x.c x.n (tkN x.b x.s x.q x.t), [], false, 0⟩, 0⟩
def rfluL (x : LN) : LD :=
  ⟨⟨x.l, x.c, x.p, x.o, (rrdS x.b x.s x.q x.t).b, (rrdS x.b x.s x.q x.t).s, (rrdS x.b x.s x.q x.t).q, (rrdS x.b x.s x.q x.t).c, x.n, false⟩,
   ⟨if x.w = true then dfL x.c x.n (nuS x.b x.q x.s (mbS x.q)) ++ [[.int 4, .int x.c, .int 0, .int x.n, .ints []]] else dfL x.c x.n (nuS x.b x.q x.s (mbS x.q)), [], false, 0⟩, 0⟩
def rcloL (x : LN) (limit : Int) : LD :=
  if x.c = 0 then ⟨x, zN, 0⟩ else (let h := closeH x.l x.c x.p x.o limit; ⟨⟨h.l, h.c, h.p, h.o, 0, 0, [], 0, 0, false⟩, ⟨[], [], true, 0⟩, 0⟩)
/-- Frames and payloads, as they are told apart. -/
def fr1 (y : E) : Int × Int × Int × Int × List Int := (ri y 0, ri y 1, ri y 2, ri y 3, rl y 4)
def prF (l : List E) : List (Int × Int × Int × Int × List Int) := l.map fr1
def byF (l : List E) : Bool := decide (l.length ≤ 100000 ∧ ∀ y ∈ l, ∀ x ∈ rl y 4, 0 ≤ x ∧ x ≤ 255)
def nwB (x : NW) : Bool := byF x.f && byS x.g
def nw2 (x y : NW) : Bool := nwB x && nwB y
def nwE (x y : NW) : Bool := decide (x.d = y.d ∧ x.s = y.s ∧ prF x.f = prF y.f ∧ pq x.g = pq y.g)
theorem nw_ok {x y : NW} (h : nw2 x y = true) : (x.f.length ≤ 100000 ∧ ∀ z ∈ x.f, ∀ n ∈ rl z 4, 0 ≤ n ∧ n ≤ 255) ∧ (y.f.length ≤ 100000 ∧ ∀ z ∈ y.f, ∀ n ∈ rl z 4, 0 ≤ n ∧ n ≤ 255) ∧ (byS x.g && byS y.g) = true := by
  simp only [nw2, nwB, Bool.and_eq_true] at h
  exact ⟨of_decide_eq_true h.1.1, of_decide_eq_true h.2.1, by rw [h.1.2, h.2.2]; rfl⟩
theorem may_c {x : LN} (h : mayL x = true) : 0 ≤ x.c := by
  have h := (may_L h).1
  simp only [mayH, openB, openingB, overB, Bool.and_eq_true, Bool.or_eq_true, decide_eq_true_eq, beq_iff_eq] at h
  omega

structure Js where
  j_lb : LN → Bool
  j_may : LN → Bool
  j_cnt : Int → Bool
  j_new : Int → LN
  j_push : LN → List Int → Int → LD
  j_hear : LN → Int → Int → Int → Int → List Int → Int → LD
  j_df : Int → Int → List E → List E
  j_tik : LN → LD
  j_flu : LN → LD
  j_clo : LN → Int → LD
  j_sm : LN → LN → Bool
  j_sb : LN → LN → Bool
  j_by : List E → List E → Bool
  j_eq : List E → List E → Bool
  j_nb : NW → NW → Bool
  j_ne : NW → NW → Bool
  j_lq : List E → Bool
def Js.std : Js := ⟨lbB, mayL, cntB, rnewL, rpushL, rhearL, dfL, rtikL, rfluL, rcloL, smL, fun x y => byS x.q && byS y.q, fun p q => byS p && byS q, fun p q => decide (pq p = pq q), nw2, nwE, fun l => decide (l.length ≤ 100000)⟩

def c_rlmay (F : Js) : Con := fun xs h => match xs, h with
  | [.agg [.val (.int .i64 v_l), .val (.int .i64 v_c), .val (.int .i64 v_p), .val (.bool v_o), .val (.int .i64 v_b), .val (.int .i64 v_s), .sl none (.recs (.ints .u8 .nil) v_q), .val (.int .i64 v_t), .val (.int .i64 v_n), .val (.bool v_w)]], [] => some ⟨F.j_lb ⟨v_l, v_c, v_p, v_o, v_b, v_s, v_q, v_t, v_n, v_w⟩ = true, .sa (B (F.j_may ⟨v_l, v_c, v_p, v_o, v_b, v_s, v_q, v_t, v_n, v_w⟩)), [], [Any]⟩
  | _, _ => none
set_option maxHeartbeats 2000000 in
set_option maxRecDepth 100000 in
theorem x_rlmay (v_l : Int) (v_c : Int) (v_p : Int) (v_o : Bool) (v_b : Int) (v_s : Int) (v_q : List E) (v_t : Int) (v_n : Int) (v_w : Bool) (hC : Js.std.j_lb ⟨v_l, v_c, v_p, v_o, v_b, v_s, v_q, v_t, v_n, v_w⟩ = true) : Does [(73, c_hmay HaR.Fs.std), (74, c_rmay SeR.Fs.std), (75, c_rtmay HaR.Fs.std), (76, denil [some (.recs (.ints .u8 .nil) []), some (.recs (.ints .u8 .nil) [])] (c_rsame Hs.std))] Try.f17 [.agg [.val (.int .i64 v_l), .val (.int .i64 v_c), .val (.int .i64 v_p), .val (.bool v_o), .val (.int .i64 v_b), .val (.int .i64 v_s), .sl none (.recs (.ints .u8 .nil) v_q), .val (.int .i64 v_t), .val (.int .i64 v_n), .val (.bool v_w)]] [] ⟨Js.std.j_lb ⟨v_l, v_c, v_p, v_o, v_b, v_s, v_q, v_t, v_n, v_w⟩ = true, .sa (B (Js.std.j_may ⟨v_l, v_c, v_p, v_o, v_b, v_s, v_q, v_t, v_n, v_w⟩)), [], [Any]⟩ := by
  intro b gv
  have hlb := lb_ok (show lbB ⟨v_l, v_c, v_p, v_o, v_b, v_s, v_q, v_t, v_n, v_w⟩ = true from hC)
  dsimp only at hlb
  have hfs := (FsOk.cons ok_hmay (FsOk.cons ok_rmay (FsOk.cons ok_rtmay (FsOk.cons (denil_ok [some (.recs (.ints .u8 .nil) []), some (.recs (.ints .u8 .nil) [])] ok_rsame) FsOk.nil rfl) rfl) rfl) rfl)
  generalize hF : Js.std = F at hC hfs ⊢
  generalize hG0 : HaR.Fs.std = G0 at hC hfs ⊢
  generalize hG1 : SeR.Fs.std = G1 at hC hfs ⊢
  generalize hG2 : Hs.std = G2 at hC hfs ⊢
  generalize hA : Ar.std = A
  generalize hL : Lp _ _ _ = L
  obtain ⟨Z, zq⟩ := z_all
  refine cd_open (lp_mono hL) zq rfl ?_
  repeat' (first
    | (refine z_open zq ?_; try dsimp only)
    | refine cd_seq zq ?_ (lp_mono hL)
    | refine cd_blk zq ?_
    | refine cd_ret ?_
    | refine cd_skip ?_
    | refine cd_exit ?_
    | refine cd_loop ?_
    | refine cd_cond rfl ?_
    | refine cd_condT rfl ?_
    | refine cd_condF rfl ?_
    | (refine Cd.mk ?_; cbv)
    | (refine Ends1.mk ?_; cbv)
    | (refine Fin1.mk ?_; cbv)
    | exact trivial
    | refine And.intro ?_ ?_
    | refine orf fun _ => ?_
    | refine ort fun _ => ?_)
  all_goals
    clear hL zq Z hfs
    subst hF hA hG0 hG1 hG2
    simp only [Js.std, HaR.Fs.std, SeR.Fs.std, Hs.std, Ar.std] at *
    try (grind [stdCmp, b_add, wr, mayL, smL, bgL, opL, cntB, mayH, openB, openingB, overB, smS])
theorem ok_rlmay : ConOk Try.prog 17 (c_rlmay Js.std) := by
  refine con_of (FsOk.cons ok_hmay (FsOk.cons ok_rmay (FsOk.cons ok_rtmay (FsOk.cons (denil_ok [some (.recs (.ints .u8 .nil) []), some (.recs (.ints .u8 .nil) [])] ok_rsame) FsOk.nil rfl) rfl) rfl) rfl) Try.func17 rfl rfl fun xs h p hp => ?_
  unfold c_rlmay at hp
  split at hp
  · cases hp
    exact ⟨lee_le rfl, fun hC _ => x_rlmay _ _ _ _ _ _ _ _ _ _ hC⟩
  · cases hp

def c_rlnew (F : Js) : Con := fun xs h => match xs, h with
  | [.one (.val (.int .i64 n))], [] => some ⟨True, .sa (.agg [.val (.int .i64 (F.j_new n).l), .val (.int .i64 (F.j_new n).c), .val (.int .i64 (F.j_new n).p), .val (.bool (F.j_new n).o), .val (.int .i64 (F.j_new n).b), .val (.int .i64 (F.j_new n).s), .sl none (.recs (.ints .u8 .nil) (F.j_new n).q), .val (.int .i64 (F.j_new n).t), .val (.int .i64 (F.j_new n).n), .val (.bool (F.j_new n).w)]), [], [Any]⟩
  | _, _ => none
set_option maxHeartbeats 2000000 in
set_option maxRecDepth 100000 in
theorem x_rlnew (n : Int) : Does [(96, c_hrnew HaR.Fs.std)] Try.f32 [.one (.val (.int .i64 n))] [] ⟨True, .sa (.agg [.val (.int .i64 (Js.std.j_new n).l), .val (.int .i64 (Js.std.j_new n).c), .val (.int .i64 (Js.std.j_new n).p), .val (.bool (Js.std.j_new n).o), .val (.int .i64 (Js.std.j_new n).b), .val (.int .i64 (Js.std.j_new n).s), .sl none (.recs (.ints .u8 .nil) (Js.std.j_new n).q), .val (.int .i64 (Js.std.j_new n).t), .val (.int .i64 (Js.std.j_new n).n), .val (.bool (Js.std.j_new n).w)]), [], [Any]⟩ := by
  intro b gv
  have hfs := (FsOk.cons ok_hrnew FsOk.nil rfl)
  generalize hF : Js.std = F at hfs ⊢
  generalize hG0 : HaR.Fs.std = G0 at hfs ⊢
  generalize hA : Ar.std = A
  generalize hL : Lp _ _ _ = L
  obtain ⟨Z, zq⟩ := z_all
  refine cd_open (lp_mono hL) zq rfl ?_
  repeat' (first
    | (refine z_open zq ?_; try dsimp only)
    | refine cd_seq zq ?_ (lp_mono hL)
    | refine cd_blk zq ?_
    | refine cd_ret ?_
    | refine cd_skip ?_
    | refine cd_exit ?_
    | refine cd_loop ?_
    | refine cd_cond rfl ?_
    | refine cd_condT rfl ?_
    | refine cd_condF rfl ?_
    | (refine Cd.mk ?_; cbv)
    | (refine Ends1.mk ?_; cbv)
    | (refine Fin1.mk ?_; cbv)
    | exact trivial
    | refine And.intro ?_ ?_
    | refine orf fun _ => ?_
    | refine ort fun _ => ?_)
  all_goals
    clear hL zq Z hfs
    subst hF hA hG0
    simp only [Js.std, HaR.Fs.std] at *
    try (grind [stdCmp, b_add, wr, rnewL, cntB])
theorem ok_rlnew : ConOk Try.prog 32 (c_rlnew Js.std) := by
  refine con_of (FsOk.cons ok_hrnew FsOk.nil rfl) Try.func32 rfl rfl fun xs h p hp => ?_
  unfold c_rlnew at hp
  split at hp
  · cases hp
    exact ⟨lee_le rfl, fun _ _ => x_rlnew _⟩
  · cases hp

def c_rlpush (F : Js) : Con := fun xs h => match xs, h with
  | [.agg [.val (.int .i64 v_l), .val (.int .i64 v_c), .val (.int .i64 v_p), .val (.bool v_o), .val (.int .i64 v_b), .val (.int .i64 v_s), .sl none (.recs (.ints .u8 .nil) v_q), .val (.int .i64 v_t), .val (.int .i64 v_n), .val (.bool v_w)], .one (.sl none (.ints .u8 p)), .one (.val (.int .i64 n))], [] => some ⟨F.j_lb ⟨v_l, v_c, v_p, v_o, v_b, v_s, v_q, v_t, v_n, v_w⟩ = true, .tup [.agg [.val (.int .i64 ((F.j_push ⟨v_l, v_c, v_p, v_o, v_b, v_s, v_q, v_t, v_n, v_w⟩ p n).x).l), .val (.int .i64 ((F.j_push ⟨v_l, v_c, v_p, v_o, v_b, v_s, v_q, v_t, v_n, v_w⟩ p n).x).c), .val (.int .i64 ((F.j_push ⟨v_l, v_c, v_p, v_o, v_b, v_s, v_q, v_t, v_n, v_w⟩ p n).x).p), .val (.bool ((F.j_push ⟨v_l, v_c, v_p, v_o, v_b, v_s, v_q, v_t, v_n, v_w⟩ p n).x).o), .val (.int .i64 ((F.j_push ⟨v_l, v_c, v_p, v_o, v_b, v_s, v_q, v_t, v_n, v_w⟩ p n).x).b), .val (.int .i64 ((F.j_push ⟨v_l, v_c, v_p, v_o, v_b, v_s, v_q, v_t, v_n, v_w⟩ p n).x).s), .sl none (.recs (.ints .u8 .nil) ((F.j_push ⟨v_l, v_c, v_p, v_o, v_b, v_s, v_q, v_t, v_n, v_w⟩ p n).x).q), .val (.int .i64 ((F.j_push ⟨v_l, v_c, v_p, v_o, v_b, v_s, v_q, v_t, v_n, v_w⟩ p n).x).t), .val (.int .i64 ((F.j_push ⟨v_l, v_c, v_p, v_o, v_b, v_s, v_q, v_t, v_n, v_w⟩ p n).x).n), .val (.bool ((F.j_push ⟨v_l, v_c, v_p, v_o, v_b, v_s, v_q, v_t, v_n, v_w⟩ p n).x).w)], I (F.j_push ⟨v_l, v_c, v_p, v_o, v_b, v_s, v_q, v_t, v_n, v_w⟩ p n).e], [], [Any, Any, Any]⟩
  | _, _ => none
set_option maxHeartbeats 2000000 in
set_option maxRecDepth 100000 in
theorem x_rlpush (v_l : Int) (v_c : Int) (v_p : Int) (v_o : Bool) (v_b : Int) (v_s : Int) (v_q : List E) (v_t : Int) (v_n : Int) (v_w : Bool) (p : List Int) (n : Int) (hC : Js.std.j_lb ⟨v_l, v_c, v_p, v_o, v_b, v_s, v_q, v_t, v_n, v_w⟩ = true) : Does [(98, c_rpush Gs.std)] Try.f34 [.agg [.val (.int .i64 v_l), .val (.int .i64 v_c), .val (.int .i64 v_p), .val (.bool v_o), .val (.int .i64 v_b), .val (.int .i64 v_s), .sl none (.recs (.ints .u8 .nil) v_q), .val (.int .i64 v_t), .val (.int .i64 v_n), .val (.bool v_w)], .one (.sl none (.ints .u8 p)), .one (.val (.int .i64 n))] [] ⟨Js.std.j_lb ⟨v_l, v_c, v_p, v_o, v_b, v_s, v_q, v_t, v_n, v_w⟩ = true, .tup [.agg [.val (.int .i64 ((Js.std.j_push ⟨v_l, v_c, v_p, v_o, v_b, v_s, v_q, v_t, v_n, v_w⟩ p n).x).l), .val (.int .i64 ((Js.std.j_push ⟨v_l, v_c, v_p, v_o, v_b, v_s, v_q, v_t, v_n, v_w⟩ p n).x).c), .val (.int .i64 ((Js.std.j_push ⟨v_l, v_c, v_p, v_o, v_b, v_s, v_q, v_t, v_n, v_w⟩ p n).x).p), .val (.bool ((Js.std.j_push ⟨v_l, v_c, v_p, v_o, v_b, v_s, v_q, v_t, v_n, v_w⟩ p n).x).o), .val (.int .i64 ((Js.std.j_push ⟨v_l, v_c, v_p, v_o, v_b, v_s, v_q, v_t, v_n, v_w⟩ p n).x).b), .val (.int .i64 ((Js.std.j_push ⟨v_l, v_c, v_p, v_o, v_b, v_s, v_q, v_t, v_n, v_w⟩ p n).x).s), .sl none (.recs (.ints .u8 .nil) ((Js.std.j_push ⟨v_l, v_c, v_p, v_o, v_b, v_s, v_q, v_t, v_n, v_w⟩ p n).x).q), .val (.int .i64 ((Js.std.j_push ⟨v_l, v_c, v_p, v_o, v_b, v_s, v_q, v_t, v_n, v_w⟩ p n).x).t), .val (.int .i64 ((Js.std.j_push ⟨v_l, v_c, v_p, v_o, v_b, v_s, v_q, v_t, v_n, v_w⟩ p n).x).n), .val (.bool ((Js.std.j_push ⟨v_l, v_c, v_p, v_o, v_b, v_s, v_q, v_t, v_n, v_w⟩ p n).x).w)], I (Js.std.j_push ⟨v_l, v_c, v_p, v_o, v_b, v_s, v_q, v_t, v_n, v_w⟩ p n).e], [], [Any, Any, Any]⟩ := by
  intro b gv
  have hlb := lb_ok (show lbB ⟨v_l, v_c, v_p, v_o, v_b, v_s, v_q, v_t, v_n, v_w⟩ = true from hC)
  dsimp only at hlb
  have hfs := (FsOk.cons ok_rpush FsOk.nil rfl)
  generalize hF : Js.std = F at hC hfs ⊢
  generalize hG0 : Gs.std = G0 at hC hfs ⊢
  generalize hA : Ar.std = A
  generalize hL : Lp _ _ _ = L
  obtain ⟨Z, zq⟩ := z_all
  refine cd_open (lp_mono hL) zq rfl ?_
  repeat' (first
    | (refine z_open zq ?_; try dsimp only)
    | refine cd_seq zq ?_ (lp_mono hL)
    | refine cd_blk zq ?_
    | refine cd_ret ?_
    | refine cd_skip ?_
    | refine cd_exit ?_
    | refine cd_loop ?_
    | refine cd_cond rfl ?_
    | refine cd_condT rfl ?_
    | refine cd_condF rfl ?_
    | (refine Cd.mk ?_; cbv)
    | (refine Ends1.mk ?_; cbv)
    | (refine Fin1.mk ?_; cbv)
    | exact trivial
    | refine And.intro ?_ ?_
    | refine orf fun _ => ?_
    | refine ort fun _ => ?_)
  all_goals
    clear hL zq Z hfs
    subst hF hA hG0
    simp only [Js.std, Gs.std, Ar.std] at *
    try (grind [stdCmp, b_add, wr, rpushL, zL, sndL, opL])
theorem ok_rlpush : ConOk Try.prog 34 (c_rlpush Js.std) := by
  refine con_of (FsOk.cons ok_rpush FsOk.nil rfl) Try.func34 rfl rfl fun xs h p hp => ?_
  unfold c_rlpush at hp
  split at hp
  · cases hp
    exact ⟨lee_le rfl, fun hC _ => x_rlpush _ _ _ _ _ _ _ _ _ _ _ _ hC⟩
  · cases hp

def c_rlhear (F : Js) : Con := fun xs h => match xs, h with
  | [.agg [.val (.int .i64 v_l), .val (.int .i64 v_c), .val (.int .i64 v_p), .val (.bool v_o), .val (.int .i64 v_b), .val (.int .i64 v_s), .sl none (.recs (.ints .u8 .nil) v_q), .val (.int .i64 v_t), .val (.int .i64 v_n), .val (.bool v_w)], .agg [.val (.int .i64 f_k), .val (.int .i64 f_s), .val (.int .i64 f_q), .val (.int .i64 f_a), .sl none (.ints .u8 f_p)], .one (.val (.int .i64 n))], [] => some ⟨F.j_may ⟨v_l, v_c, v_p, v_o, v_b, v_s, v_q, v_t, v_n, v_w⟩ = true, .tup [.agg [.val (.int .i64 ((F.j_hear ⟨v_l, v_c, v_p, v_o, v_b, v_s, v_q, v_t, v_n, v_w⟩ f_k f_s f_q f_a f_p n).x).l), .val (.int .i64 ((F.j_hear ⟨v_l, v_c, v_p, v_o, v_b, v_s, v_q, v_t, v_n, v_w⟩ f_k f_s f_q f_a f_p n).x).c), .val (.int .i64 ((F.j_hear ⟨v_l, v_c, v_p, v_o, v_b, v_s, v_q, v_t, v_n, v_w⟩ f_k f_s f_q f_a f_p n).x).p), .val (.bool ((F.j_hear ⟨v_l, v_c, v_p, v_o, v_b, v_s, v_q, v_t, v_n, v_w⟩ f_k f_s f_q f_a f_p n).x).o), .val (.int .i64 ((F.j_hear ⟨v_l, v_c, v_p, v_o, v_b, v_s, v_q, v_t, v_n, v_w⟩ f_k f_s f_q f_a f_p n).x).b), .val (.int .i64 ((F.j_hear ⟨v_l, v_c, v_p, v_o, v_b, v_s, v_q, v_t, v_n, v_w⟩ f_k f_s f_q f_a f_p n).x).s), .sl none (.recs (.ints .u8 .nil) ((F.j_hear ⟨v_l, v_c, v_p, v_o, v_b, v_s, v_q, v_t, v_n, v_w⟩ f_k f_s f_q f_a f_p n).x).q), .val (.int .i64 ((F.j_hear ⟨v_l, v_c, v_p, v_o, v_b, v_s, v_q, v_t, v_n, v_w⟩ f_k f_s f_q f_a f_p n).x).t), .val (.int .i64 ((F.j_hear ⟨v_l, v_c, v_p, v_o, v_b, v_s, v_q, v_t, v_n, v_w⟩ f_k f_s f_q f_a f_p n).x).n), .val (.bool ((F.j_hear ⟨v_l, v_c, v_p, v_o, v_b, v_s, v_q, v_t, v_n, v_w⟩ f_k f_s f_q f_a f_p n).x).w)], .agg [.sl none (.recs (.int .i64 (.int .i64 (.int .i64 (.int .i64 (.ints .u8 .nil))))) ((F.j_hear ⟨v_l, v_c, v_p, v_o, v_b, v_s, v_q, v_t, v_n, v_w⟩ f_k f_s f_q f_a f_p n).y).f), .sl none (.recs (.ints .u8 .nil) ((F.j_hear ⟨v_l, v_c, v_p, v_o, v_b, v_s, v_q, v_t, v_n, v_w⟩ f_k f_s f_q f_a f_p n).y).g), .val (.bool ((F.j_hear ⟨v_l, v_c, v_p, v_o, v_b, v_s, v_q, v_t, v_n, v_w⟩ f_k f_s f_q f_a f_p n).y).d), .val (.int .i64 ((F.j_hear ⟨v_l, v_c, v_p, v_o, v_b, v_s, v_q, v_t, v_n, v_w⟩ f_k f_s f_q f_a f_p n).y).s)]], [], [Any, Any, Any]⟩
  | _, _ => none
set_option maxHeartbeats 2000000 in
set_option maxRecDepth 100000 in
theorem x_rlhear (v_l : Int) (v_c : Int) (v_p : Int) (v_o : Bool) (v_b : Int) (v_s : Int) (v_q : List E) (v_t : Int) (v_n : Int) (v_w : Bool) (f_k : Int) (f_s : Int) (f_q : Int) (f_a : Int) (f_p : List Int) (n : Int) (hC : Js.std.j_may ⟨v_l, v_c, v_p, v_o, v_b, v_s, v_q, v_t, v_n, v_w⟩ = true) : Does [(81, c_rhel HaR.Fs.std), (82, c_rwel HaR.Fs.std), (83, c_rget HaR.Fs.std), (84, c_rack Us.std)] Try.f22 [.agg [.val (.int .i64 v_l), .val (.int .i64 v_c), .val (.int .i64 v_p), .val (.bool v_o), .val (.int .i64 v_b), .val (.int .i64 v_s), .sl none (.recs (.ints .u8 .nil) v_q), .val (.int .i64 v_t), .val (.int .i64 v_n), .val (.bool v_w)], .agg [.val (.int .i64 f_k), .val (.int .i64 f_s), .val (.int .i64 f_q), .val (.int .i64 f_a), .sl none (.ints .u8 f_p)], .one (.val (.int .i64 n))] [] ⟨Js.std.j_may ⟨v_l, v_c, v_p, v_o, v_b, v_s, v_q, v_t, v_n, v_w⟩ = true, .tup [.agg [.val (.int .i64 ((Js.std.j_hear ⟨v_l, v_c, v_p, v_o, v_b, v_s, v_q, v_t, v_n, v_w⟩ f_k f_s f_q f_a f_p n).x).l), .val (.int .i64 ((Js.std.j_hear ⟨v_l, v_c, v_p, v_o, v_b, v_s, v_q, v_t, v_n, v_w⟩ f_k f_s f_q f_a f_p n).x).c), .val (.int .i64 ((Js.std.j_hear ⟨v_l, v_c, v_p, v_o, v_b, v_s, v_q, v_t, v_n, v_w⟩ f_k f_s f_q f_a f_p n).x).p), .val (.bool ((Js.std.j_hear ⟨v_l, v_c, v_p, v_o, v_b, v_s, v_q, v_t, v_n, v_w⟩ f_k f_s f_q f_a f_p n).x).o), .val (.int .i64 ((Js.std.j_hear ⟨v_l, v_c, v_p, v_o, v_b, v_s, v_q, v_t, v_n, v_w⟩ f_k f_s f_q f_a f_p n).x).b), .val (.int .i64 ((Js.std.j_hear ⟨v_l, v_c, v_p, v_o, v_b, v_s, v_q, v_t, v_n, v_w⟩ f_k f_s f_q f_a f_p n).x).s), .sl none (.recs (.ints .u8 .nil) ((Js.std.j_hear ⟨v_l, v_c, v_p, v_o, v_b, v_s, v_q, v_t, v_n, v_w⟩ f_k f_s f_q f_a f_p n).x).q), .val (.int .i64 ((Js.std.j_hear ⟨v_l, v_c, v_p, v_o, v_b, v_s, v_q, v_t, v_n, v_w⟩ f_k f_s f_q f_a f_p n).x).t), .val (.int .i64 ((Js.std.j_hear ⟨v_l, v_c, v_p, v_o, v_b, v_s, v_q, v_t, v_n, v_w⟩ f_k f_s f_q f_a f_p n).x).n), .val (.bool ((Js.std.j_hear ⟨v_l, v_c, v_p, v_o, v_b, v_s, v_q, v_t, v_n, v_w⟩ f_k f_s f_q f_a f_p n).x).w)], .agg [.sl none (.recs (.int .i64 (.int .i64 (.int .i64 (.int .i64 (.ints .u8 .nil))))) ((Js.std.j_hear ⟨v_l, v_c, v_p, v_o, v_b, v_s, v_q, v_t, v_n, v_w⟩ f_k f_s f_q f_a f_p n).y).f), .sl none (.recs (.ints .u8 .nil) ((Js.std.j_hear ⟨v_l, v_c, v_p, v_o, v_b, v_s, v_q, v_t, v_n, v_w⟩ f_k f_s f_q f_a f_p n).y).g), .val (.bool ((Js.std.j_hear ⟨v_l, v_c, v_p, v_o, v_b, v_s, v_q, v_t, v_n, v_w⟩ f_k f_s f_q f_a f_p n).y).d), .val (.int .i64 ((Js.std.j_hear ⟨v_l, v_c, v_p, v_o, v_b, v_s, v_q, v_t, v_n, v_w⟩ f_k f_s f_q f_a f_p n).y).s)]], [], [Any, Any, Any]⟩ := by
  intro b gv
  have hm : mayL ⟨v_l, v_c, v_p, v_o, v_b, v_s, v_q, v_t, v_n, v_w⟩ = true := hC
  have hm1 := may_L hm
  have hm2 := may_ok hm1.2.1
  have hm3 := may_c hm
  dsimp only at hm1 hm2 hm3
  have hfs := (FsOk.cons ok_rhel (FsOk.cons ok_rwel (FsOk.cons ok_rget (FsOk.cons ok_rack FsOk.nil rfl) rfl) rfl) rfl)
  generalize hF : Js.std = F at hC hfs ⊢
  generalize hG0 : HaR.Fs.std = G0 at hC hfs ⊢
  generalize hG1 : Us.std = G1 at hC hfs ⊢
  generalize hA : Ar.std = A
  generalize hL : Lp _ _ _ = L
  obtain ⟨Z, zq⟩ := z_all
  refine cd_open (lp_mono hL) zq rfl ?_
  repeat' (first
    | (refine z_open zq ?_; try dsimp only)
    | refine cd_seq zq ?_ (lp_mono hL)
    | refine cd_blk zq ?_
    | refine cd_ret ?_
    | refine cd_skip ?_
    | refine cd_exit ?_
    | refine cd_loop ?_
    | refine cd_cond rfl ?_
    | refine cd_condT rfl ?_
    | refine cd_condF rfl ?_
    | (refine Cd.mk ?_; cbv)
    | (refine Ends1.mk ?_; cbv)
    | (refine Fin1.mk ?_; cbv)
    | exact trivial
    | refine And.intro ?_ ?_
    | refine orf fun _ => ?_
    | refine ort fun _ => ?_)
  all_goals
    clear hL zq Z hfs
    subst hF hA hG0 hG1
    simp only [Js.std, HaR.Fs.std, Us.std, Ar.std, List.nil_append] at *
    try (grind [stdCmp, b_add, wr, rhearL, rhloL, rwlcL, rdatL, rackL, sndL, hndL, bgL, zN, opL])
theorem ok_rlhear : ConOk Try.prog 22 (c_rlhear Js.std) := by
  refine con_of (FsOk.cons ok_rhel (FsOk.cons ok_rwel (FsOk.cons ok_rget (FsOk.cons ok_rack FsOk.nil rfl) rfl) rfl) rfl) Try.func22 rfl rfl fun xs h p hp => ?_
  unfold c_rlhear at hp
  split at hp
  · cases hp
    exact ⟨lee_le rfl, fun hC _ => x_rlhear _ _ _ _ _ _ _ _ _ _ _ _ _ _ _ _ hC⟩
  · cases hp

def c_rdata (F : Js) : Con := fun xs h => match xs, h with
  | [.agg [.val (.int .i64 _), .val (.int .i64 v_c), .val (.int .i64 _), .val (.bool _), .val (.int .i64 _), .val (.int .i64 _), .sl none (.recs (.ints .u8 .nil) _), .val (.int .i64 _), .val (.int .i64 v_n), .val (.bool _)], .one (.sl none (.recs (.int .i64 (.ints .u8 .nil)) l))], [] => some ⟨F.j_lq l = true, .sa (.one (.sl (some (0, 33)) (.recs (.int .i64 (.int .i64 (.int .i64 (.int .i64 (.ints .u8 .nil))))) (F.j_df v_c v_n l)))), [(0, .tok)], [Any, Any]⟩
  | _, _ => none
set_option maxHeartbeats 2000000 in
set_option maxRecDepth 100000 in
theorem x_rdata (v_l : Int) (v_c : Int) (v_p : Int) (v_o : Bool) (v_b : Int) (v_s : Int) (v_q : List E) (v_t : Int) (v_n : Int) (v_w : Bool) (l : List E) (hC : Js.std.j_lq l = true) : Does [] Try.f91 [.agg [.val (.int .i64 v_l), .val (.int .i64 v_c), .val (.int .i64 v_p), .val (.bool v_o), .val (.int .i64 v_b), .val (.int .i64 v_s), .sl none (.recs (.ints .u8 .nil) v_q), .val (.int .i64 v_t), .val (.int .i64 v_n), .val (.bool v_w)], .one (.sl none (.recs (.int .i64 (.ints .u8 .nil)) l))] [] ⟨Js.std.j_lq l = true, .sa (.one (.sl (some (0, 33)) (.recs (.int .i64 (.int .i64 (.int .i64 (.int .i64 (.ints .u8 .nil))))) (Js.std.j_df v_c v_n l)))), [(0, .tok)], [Any, Any]⟩ := by
  intro b gv
  have hl : l.length ≤ 100000 := of_decide_eq_true (show decide (l.length ≤ 100000) = true from hC)
  have hfs := FsOk.nil
  generalize hF : Js.std = F at hC hfs ⊢
  generalize hA : Ar.std = A
  generalize hL : Lp _ _ _ = L
  obtain ⟨Z, zq⟩ := z_all
  refine cd_open (lp_mono hL) zq rfl ?_
  repeat' (first
    | (refine z_open zq ?_; try dsimp only)
    | refine cd_seq zq ?_ (lp_mono hL)
    | refine cd_blk zq ?_
    | refine cd_ret ?_
    | refine cd_skip ?_
    | refine cd_exit ?_
    | refine cd_loop ?_
    | refine cd_cond rfl ?_
    | refine cd_condT rfl ?_
    | refine cd_condF rfl ?_
    | (refine Cd.mk ?_; cbv)
    | (refine Ends1.mk ?_; cbv)
    | (refine Fin1.mk ?_; cbv)
    | exact trivial
    | refine And.intro ?_ ?_
    | refine orf fun _ => ?_
    | refine ort fun _ => ?_)
  subst hL
  refine loop_z (cx_ok hfs) (dfQ v_c v_n l) (rdfI ⟨v_l, v_c, v_p, v_o, v_b, v_s, v_q, v_t, v_n, v_w⟩ l) (dfM l) rdfR ⟨0, []⟩ ?_ ?_ ?_
  · exact ⟨Int.le_refl 0, Int.natCast_nonneg _, rfl⟩
  · cbv
    repeat' (first | exact trivial | exact rfl | refine And.intro ?_ ?_)
  rintro ⟨i, o⟩ hq O hO
  have hst := df_step v_c v_n l i o hl hq
  have hen := df_end v_c v_n l i o hq
  have q0 := hq.1
  have q1 := hq.2.1
  dsimp only at q0 q1
  subst hA
  generalize hA : Ar.std = A
  generalize hL : Lp _ _ _ = L
  refine cd_close zq ?_
  repeat' (first
    | (refine z_open zq ?_; try dsimp only)
    | refine cd_seq zq ?_ (lp_mono hL)
    | refine cd_blk zq ?_
    | refine cd_ret ?_
    | refine cd_skip ?_
    | refine cd_exit ?_
    | refine cd_loop ?_
    | refine cd_cond rfl ?_
    | refine cd_condT rfl ?_
    | refine cd_condF rfl ?_
    | (refine Cd.mk ?_; cbv)
    | (refine Ends1.mk ?_; cbv)
    | (refine Fin1.mk ?_; cbv)
    | exact trivial
    | refine And.intro ?_ ?_
    | refine orf fun _ => ?_
    | refine ort fun _ => ?_)
  all_goals (clear hL hfs zq Z hq; subst hA hF hO; simp only [Js.std, Ar.std] at * <;> grind [stdCmp, dfM])
theorem ok_rdata : ConOk Try.prog 91 (c_rdata Js.std) := by
  refine con_of FsOk.nil Try.func91 rfl rfl fun xs h p hp => ?_
  unfold c_rdata at hp
  split at hp
  · cases hp
    exact ⟨lee_le rfl, fun hC _ => x_rdata _ _ _ _ _ _ _ _ _ _ _ hC⟩
  · cases hp

def c_rltick (F : Js) : Con := fun xs h => match xs, h with
  | [.agg [.val (.int .i64 v_l), .val (.int .i64 v_c), .val (.int .i64 v_p), .val (.bool v_o), .val (.int .i64 v_b), .val (.int .i64 v_s), .sl none (.recs (.ints .u8 .nil) v_q), .val (.int .i64 v_t), .val (.int .i64 v_n), .val (.bool v_w)]], [] => some ⟨F.j_may ⟨v_l, v_c, v_p, v_o, v_b, v_s, v_q, v_t, v_n, v_w⟩ = true, .tup [.agg [.val (.int .i64 ((F.j_tik ⟨v_l, v_c, v_p, v_o, v_b, v_s, v_q, v_t, v_n, v_w⟩).x).l), .val (.int .i64 ((F.j_tik ⟨v_l, v_c, v_p, v_o, v_b, v_s, v_q, v_t, v_n, v_w⟩).x).c), .val (.int .i64 ((F.j_tik ⟨v_l, v_c, v_p, v_o, v_b, v_s, v_q, v_t, v_n, v_w⟩).x).p), .val (.bool ((F.j_tik ⟨v_l, v_c, v_p, v_o, v_b, v_s, v_q, v_t, v_n, v_w⟩).x).o), .val (.int .i64 ((F.j_tik ⟨v_l, v_c, v_p, v_o, v_b, v_s, v_q, v_t, v_n, v_w⟩).x).b), .val (.int .i64 ((F.j_tik ⟨v_l, v_c, v_p, v_o, v_b, v_s, v_q, v_t, v_n, v_w⟩).x).s), .sl none (.recs (.ints .u8 .nil) ((F.j_tik ⟨v_l, v_c, v_p, v_o, v_b, v_s, v_q, v_t, v_n, v_w⟩).x).q), .val (.int .i64 ((F.j_tik ⟨v_l, v_c, v_p, v_o, v_b, v_s, v_q, v_t, v_n, v_w⟩).x).t), .val (.int .i64 ((F.j_tik ⟨v_l, v_c, v_p, v_o, v_b, v_s, v_q, v_t, v_n, v_w⟩).x).n), .val (.bool ((F.j_tik ⟨v_l, v_c, v_p, v_o, v_b, v_s, v_q, v_t, v_n, v_w⟩).x).w)], .agg [.sl none (.recs (.int .i64 (.int .i64 (.int .i64 (.int .i64 (.ints .u8 .nil))))) ((F.j_tik ⟨v_l, v_c, v_p, v_o, v_b, v_s, v_q, v_t, v_n, v_w⟩).y).f), .sl none (.recs (.ints .u8 .nil) ((F.j_tik ⟨v_l, v_c, v_p, v_o, v_b, v_s, v_q, v_t, v_n, v_w⟩).y).g), .val (.bool ((F.j_tik ⟨v_l, v_c, v_p, v_o, v_b, v_s, v_q, v_t, v_n, v_w⟩).y).d), .val (.int .i64 ((F.j_tik ⟨v_l, v_c, v_p, v_o, v_b, v_s, v_q, v_t, v_n, v_w⟩).y).s)]], [], [Any]⟩
  | _, _ => none
set_option maxHeartbeats 2000000 in
set_option maxRecDepth 100000 in
theorem x_rltick (v_l : Int) (v_c : Int) (v_p : Int) (v_o : Bool) (v_b : Int) (v_s : Int) (v_q : List E) (v_t : Int) (v_n : Int) (v_w : Bool) (hC : Js.std.j_may ⟨v_l, v_c, v_p, v_o, v_b, v_s, v_q, v_t, v_n, v_w⟩ = true) : Does [(92, c_rtick Vs.std), (91, c_rdata Js.std)] Try.f28 [.agg [.val (.int .i64 v_l), .val (.int .i64 v_c), .val (.int .i64 v_p), .val (.bool v_o), .val (.int .i64 v_b), .val (.int .i64 v_s), .sl none (.recs (.ints .u8 .nil) v_q), .val (.int .i64 v_t), .val (.int .i64 v_n), .val (.bool v_w)]] [] ⟨Js.std.j_may ⟨v_l, v_c, v_p, v_o, v_b, v_s, v_q, v_t, v_n, v_w⟩ = true, .tup [.agg [.val (.int .i64 ((Js.std.j_tik ⟨v_l, v_c, v_p, v_o, v_b, v_s, v_q, v_t, v_n, v_w⟩).x).l), .val (.int .i64 ((Js.std.j_tik ⟨v_l, v_c, v_p, v_o, v_b, v_s, v_q, v_t, v_n, v_w⟩).x).c), .val (.int .i64 ((Js.std.j_tik ⟨v_l, v_c, v_p, v_o, v_b, v_s, v_q, v_t, v_n, v_w⟩).x).p), .val (.bool ((Js.std.j_tik ⟨v_l, v_c, v_p, v_o, v_b, v_s, v_q, v_t, v_n, v_w⟩).x).o), .val (.int .i64 ((Js.std.j_tik ⟨v_l, v_c, v_p, v_o, v_b, v_s, v_q, v_t, v_n, v_w⟩).x).b), .val (.int .i64 ((Js.std.j_tik ⟨v_l, v_c, v_p, v_o, v_b, v_s, v_q, v_t, v_n, v_w⟩).x).s), .sl none (.recs (.ints .u8 .nil) ((Js.std.j_tik ⟨v_l, v_c, v_p, v_o, v_b, v_s, v_q, v_t, v_n, v_w⟩).x).q), .val (.int .i64 ((Js.std.j_tik ⟨v_l, v_c, v_p, v_o, v_b, v_s, v_q, v_t, v_n, v_w⟩).x).t), .val (.int .i64 ((Js.std.j_tik ⟨v_l, v_c, v_p, v_o, v_b, v_s, v_q, v_t, v_n, v_w⟩).x).n), .val (.bool ((Js.std.j_tik ⟨v_l, v_c, v_p, v_o, v_b, v_s, v_q, v_t, v_n, v_w⟩).x).w)], .agg [.sl none (.recs (.int .i64 (.int .i64 (.int .i64 (.int .i64 (.ints .u8 .nil))))) ((Js.std.j_tik ⟨v_l, v_c, v_p, v_o, v_b, v_s, v_q, v_t, v_n, v_w⟩).y).f), .sl none (.recs (.ints .u8 .nil) ((Js.std.j_tik ⟨v_l, v_c, v_p, v_o, v_b, v_s, v_q, v_t, v_n, v_w⟩).y).g), .val (.bool ((Js.std.j_tik ⟨v_l, v_c, v_p, v_o, v_b, v_s, v_q, v_t, v_n, v_w⟩).y).d), .val (.int .i64 ((Js.std.j_tik ⟨v_l, v_c, v_p, v_o, v_b, v_s, v_q, v_t, v_n, v_w⟩).y).s)]], [], [Any]⟩ := by
  intro b gv
  have hm : mayL ⟨v_l, v_c, v_p, v_o, v_b, v_s, v_q, v_t, v_n, v_w⟩ = true := hC
  have hm1 := may_L hm
  have hm2 := may_ok hm1.2.1
  have hm3 := may_c hm
  dsimp only at hm1 hm2 hm3
  have htl := tk_len v_b v_s v_q v_t
  have hfs := (FsOk.cons ok_rtick (FsOk.cons ok_rdata FsOk.nil rfl) rfl)
  generalize hF : Js.std = F at hC hfs ⊢
  generalize hG0 : Vs.std = G0 at hC hfs ⊢
  generalize hA : Ar.std = A
  generalize hL : Lp _ _ _ = L
  obtain ⟨Z, zq⟩ := z_all
  refine cd_open (lp_mono hL) zq rfl ?_
  repeat' (first
    | (refine z_open zq ?_; try dsimp only)
    | refine cd_seq zq ?_ (lp_mono hL)
    | refine cd_blk zq ?_
    | refine cd_ret ?_
    | refine cd_skip ?_
    | refine cd_exit ?_
    | refine cd_loop ?_
    | refine cd_cond rfl ?_
    | refine cd_condT rfl ?_
    | refine cd_condF rfl ?_
    | (refine Cd.mk ?_; cbv)
    | (refine Ends1.mk ?_; cbv)
    | (refine Fin1.mk ?_; cbv)
    | exact trivial
    | refine And.intro ?_ ?_
    | refine orf fun _ => ?_
    | refine ort fun _ => ?_)
  all_goals
    clear hL zq Z hfs
    subst hF hA hG0
    simp only [Js.std, Vs.std, Ar.std] at *
    try (grind [stdCmp, b_add, wr, rtikL, sndL])
theorem ok_rltick : ConOk Try.prog 28 (c_rltick Js.std) := by
  refine con_of (FsOk.cons ok_rtick (FsOk.cons ok_rdata FsOk.nil rfl) rfl) Try.func28 rfl rfl fun xs h p hp => ?_
  unfold c_rltick at hp
  split at hp
  · cases hp
    exact ⟨lee_le rfl, fun hC _ => x_rltick _ _ _ _ _ _ _ _ _ _ hC⟩
  · cases hp

def c_rlflush (F : Js) : Con := fun xs h => match xs, h with
  | [.agg [.val (.int .i64 v_l), .val (.int .i64 v_c), .val (.int .i64 v_p), .val (.bool v_o), .val (.int .i64 v_b), .val (.int .i64 v_s), .sl none (.recs (.ints .u8 .nil) v_q), .val (.int .i64 v_t), .val (.int .i64 v_n), .val (.bool v_w)]], [] => some ⟨F.j_may ⟨v_l, v_c, v_p, v_o, v_b, v_s, v_q, v_t, v_n, v_w⟩ = true, .tup [.agg [.val (.int .i64 ((F.j_flu ⟨v_l, v_c, v_p, v_o, v_b, v_s, v_q, v_t, v_n, v_w⟩).x).l), .val (.int .i64 ((F.j_flu ⟨v_l, v_c, v_p, v_o, v_b, v_s, v_q, v_t, v_n, v_w⟩).x).c), .val (.int .i64 ((F.j_flu ⟨v_l, v_c, v_p, v_o, v_b, v_s, v_q, v_t, v_n, v_w⟩).x).p), .val (.bool ((F.j_flu ⟨v_l, v_c, v_p, v_o, v_b, v_s, v_q, v_t, v_n, v_w⟩).x).o), .val (.int .i64 ((F.j_flu ⟨v_l, v_c, v_p, v_o, v_b, v_s, v_q, v_t, v_n, v_w⟩).x).b), .val (.int .i64 ((F.j_flu ⟨v_l, v_c, v_p, v_o, v_b, v_s, v_q, v_t, v_n, v_w⟩).x).s), .sl none (.recs (.ints .u8 .nil) ((F.j_flu ⟨v_l, v_c, v_p, v_o, v_b, v_s, v_q, v_t, v_n, v_w⟩).x).q), .val (.int .i64 ((F.j_flu ⟨v_l, v_c, v_p, v_o, v_b, v_s, v_q, v_t, v_n, v_w⟩).x).t), .val (.int .i64 ((F.j_flu ⟨v_l, v_c, v_p, v_o, v_b, v_s, v_q, v_t, v_n, v_w⟩).x).n), .val (.bool ((F.j_flu ⟨v_l, v_c, v_p, v_o, v_b, v_s, v_q, v_t, v_n, v_w⟩).x).w)], .agg [.sl none (.recs (.int .i64 (.int .i64 (.int .i64 (.int .i64 (.ints .u8 .nil))))) ((F.j_flu ⟨v_l, v_c, v_p, v_o, v_b, v_s, v_q, v_t, v_n, v_w⟩).y).f), .sl none (.recs (.ints .u8 .nil) ((F.j_flu ⟨v_l, v_c, v_p, v_o, v_b, v_s, v_q, v_t, v_n, v_w⟩).y).g), .val (.bool ((F.j_flu ⟨v_l, v_c, v_p, v_o, v_b, v_s, v_q, v_t, v_n, v_w⟩).y).d), .val (.int .i64 ((F.j_flu ⟨v_l, v_c, v_p, v_o, v_b, v_s, v_q, v_t, v_n, v_w⟩).y).s)]], [], [Any]⟩
  | _, _ => none
set_option maxHeartbeats 2000000 in
set_option maxRecDepth 100000 in
theorem x_rlflush (v_l : Int) (v_c : Int) (v_p : Int) (v_o : Bool) (v_b : Int) (v_s : Int) (v_q : List E) (v_t : Int) (v_n : Int) (v_w : Bool) (hC : Js.std.j_may ⟨v_l, v_c, v_p, v_o, v_b, v_s, v_q, v_t, v_n, v_w⟩ = true) : Does [(90, c_rready Vs.std), (91, c_rdata Js.std)] Try.f27 [.agg [.val (.int .i64 v_l), .val (.int .i64 v_c), .val (.int .i64 v_p), .val (.bool v_o), .val (.int .i64 v_b), .val (.int .i64 v_s), .sl none (.recs (.ints .u8 .nil) v_q), .val (.int .i64 v_t), .val (.int .i64 v_n), .val (.bool v_w)]] [] ⟨Js.std.j_may ⟨v_l, v_c, v_p, v_o, v_b, v_s, v_q, v_t, v_n, v_w⟩ = true, .tup [.agg [.val (.int .i64 ((Js.std.j_flu ⟨v_l, v_c, v_p, v_o, v_b, v_s, v_q, v_t, v_n, v_w⟩).x).l), .val (.int .i64 ((Js.std.j_flu ⟨v_l, v_c, v_p, v_o, v_b, v_s, v_q, v_t, v_n, v_w⟩).x).c), .val (.int .i64 ((Js.std.j_flu ⟨v_l, v_c, v_p, v_o, v_b, v_s, v_q, v_t, v_n, v_w⟩).x).p), .val (.bool ((Js.std.j_flu ⟨v_l, v_c, v_p, v_o, v_b, v_s, v_q, v_t, v_n, v_w⟩).x).o), .val (.int .i64 ((Js.std.j_flu ⟨v_l, v_c, v_p, v_o, v_b, v_s, v_q, v_t, v_n, v_w⟩).x).b), .val (.int .i64 ((Js.std.j_flu ⟨v_l, v_c, v_p, v_o, v_b, v_s, v_q, v_t, v_n, v_w⟩).x).s), .sl none (.recs (.ints .u8 .nil) ((Js.std.j_flu ⟨v_l, v_c, v_p, v_o, v_b, v_s, v_q, v_t, v_n, v_w⟩).x).q), .val (.int .i64 ((Js.std.j_flu ⟨v_l, v_c, v_p, v_o, v_b, v_s, v_q, v_t, v_n, v_w⟩).x).t), .val (.int .i64 ((Js.std.j_flu ⟨v_l, v_c, v_p, v_o, v_b, v_s, v_q, v_t, v_n, v_w⟩).x).n), .val (.bool ((Js.std.j_flu ⟨v_l, v_c, v_p, v_o, v_b, v_s, v_q, v_t, v_n, v_w⟩).x).w)], .agg [.sl none (.recs (.int .i64 (.int .i64 (.int .i64 (.int .i64 (.ints .u8 .nil))))) ((Js.std.j_flu ⟨v_l, v_c, v_p, v_o, v_b, v_s, v_q, v_t, v_n, v_w⟩).y).f), .sl none (.recs (.ints .u8 .nil) ((Js.std.j_flu ⟨v_l, v_c, v_p, v_o, v_b, v_s, v_q, v_t, v_n, v_w⟩).y).g), .val (.bool ((Js.std.j_flu ⟨v_l, v_c, v_p, v_o, v_b, v_s, v_q, v_t, v_n, v_w⟩).y).d), .val (.int .i64 ((Js.std.j_flu ⟨v_l, v_c, v_p, v_o, v_b, v_s, v_q, v_t, v_n, v_w⟩).y).s)]], [], [Any]⟩ := by
  intro b gv
  have hm : mayL ⟨v_l, v_c, v_p, v_o, v_b, v_s, v_q, v_t, v_n, v_w⟩ = true := hC
  have hm1 := may_L hm
  have hm2 := may_ok hm1.2.1
  have hm3 := may_c hm
  dsimp only at hm1 hm2 hm3
  have htl := nus_len v_b v_q v_s (mbS v_q)
  have hmb := mb_le v_q
  have hdl := df_len v_c v_n (nuS v_b v_q v_s (mbS v_q))
  have hfs := (FsOk.cons ok_rready (FsOk.cons ok_rdata FsOk.nil rfl) rfl)
  generalize hF : Js.std = F at hC hfs ⊢
  generalize hG0 : Vs.std = G0 at hC hfs ⊢
  generalize hA : Ar.std = A
  generalize hL : Lp _ _ _ = L
  obtain ⟨Z, zq⟩ := z_all
  refine cd_open (lp_mono hL) zq rfl ?_
  repeat' (first
    | (refine z_open zq ?_; try dsimp only)
    | refine cd_seq zq ?_ (lp_mono hL)
    | refine cd_blk zq ?_
    | refine cd_ret ?_
    | refine cd_skip ?_
    | refine cd_exit ?_
    | refine cd_loop ?_
    | refine cd_cond rfl ?_
    | refine cd_condT rfl ?_
    | refine cd_condF rfl ?_
    | (refine Cd.mk ?_; cbv)
    | (refine Ends1.mk ?_; cbv)
    | (refine Fin1.mk ?_; cbv)
    | exact trivial
    | refine And.intro ?_ ?_
    | refine orf fun _ => ?_
    | refine ort fun _ => ?_)
  all_goals
    clear hL zq Z hfs
    subst hF hA hG0
    simp only [Js.std, Vs.std, Ar.std] at *
    try (grind [stdCmp, b_add, wr, rfluL])
theorem ok_rlflush : ConOk Try.prog 27 (c_rlflush Js.std) := by
  refine con_of (FsOk.cons ok_rready (FsOk.cons ok_rdata FsOk.nil rfl) rfl) Try.func27 rfl rfl fun xs h p hp => ?_
  unfold c_rlflush at hp
  split at hp
  · cases hp
    exact ⟨lee_le rfl, fun hC _ => x_rlflush _ _ _ _ _ _ _ _ _ _ hC⟩
  · cases hp

def c_rlclose (F : Js) : Con := fun xs h => match xs, h with
  | [.agg [.val (.int .i64 v_l), .val (.int .i64 v_c), .val (.int .i64 v_p), .val (.bool v_o), .val (.int .i64 v_b), .val (.int .i64 v_s), .sl none (.recs (.ints .u8 .nil) v_q), .val (.int .i64 v_t), .val (.int .i64 v_n), .val (.bool v_w)], .one (.val (.int .i64 n))], [] => some ⟨F.j_may ⟨v_l, v_c, v_p, v_o, v_b, v_s, v_q, v_t, v_n, v_w⟩ = true, .tup [.agg [.val (.int .i64 ((F.j_clo ⟨v_l, v_c, v_p, v_o, v_b, v_s, v_q, v_t, v_n, v_w⟩ n).x).l), .val (.int .i64 ((F.j_clo ⟨v_l, v_c, v_p, v_o, v_b, v_s, v_q, v_t, v_n, v_w⟩ n).x).c), .val (.int .i64 ((F.j_clo ⟨v_l, v_c, v_p, v_o, v_b, v_s, v_q, v_t, v_n, v_w⟩ n).x).p), .val (.bool ((F.j_clo ⟨v_l, v_c, v_p, v_o, v_b, v_s, v_q, v_t, v_n, v_w⟩ n).x).o), .val (.int .i64 ((F.j_clo ⟨v_l, v_c, v_p, v_o, v_b, v_s, v_q, v_t, v_n, v_w⟩ n).x).b), .val (.int .i64 ((F.j_clo ⟨v_l, v_c, v_p, v_o, v_b, v_s, v_q, v_t, v_n, v_w⟩ n).x).s), .sl none (.recs (.ints .u8 .nil) ((F.j_clo ⟨v_l, v_c, v_p, v_o, v_b, v_s, v_q, v_t, v_n, v_w⟩ n).x).q), .val (.int .i64 ((F.j_clo ⟨v_l, v_c, v_p, v_o, v_b, v_s, v_q, v_t, v_n, v_w⟩ n).x).t), .val (.int .i64 ((F.j_clo ⟨v_l, v_c, v_p, v_o, v_b, v_s, v_q, v_t, v_n, v_w⟩ n).x).n), .val (.bool ((F.j_clo ⟨v_l, v_c, v_p, v_o, v_b, v_s, v_q, v_t, v_n, v_w⟩ n).x).w)], .agg [.sl none (.recs (.int .i64 (.int .i64 (.int .i64 (.int .i64 (.ints .u8 .nil))))) ((F.j_clo ⟨v_l, v_c, v_p, v_o, v_b, v_s, v_q, v_t, v_n, v_w⟩ n).y).f), .sl none (.recs (.ints .u8 .nil) ((F.j_clo ⟨v_l, v_c, v_p, v_o, v_b, v_s, v_q, v_t, v_n, v_w⟩ n).y).g), .val (.bool ((F.j_clo ⟨v_l, v_c, v_p, v_o, v_b, v_s, v_q, v_t, v_n, v_w⟩ n).y).d), .val (.int .i64 ((F.j_clo ⟨v_l, v_c, v_p, v_o, v_b, v_s, v_q, v_t, v_n, v_w⟩ n).y).s)]], [], [Any, Any]⟩
  | _, _ => none
set_option maxHeartbeats 2000000 in
set_option maxRecDepth 100000 in
theorem x_rlclose (v_l : Int) (v_c : Int) (v_p : Int) (v_o : Bool) (v_b : Int) (v_s : Int) (v_q : List E) (v_t : Int) (v_n : Int) (v_w : Bool) (n : Int) (hC : Js.std.j_may ⟨v_l, v_c, v_p, v_o, v_b, v_s, v_q, v_t, v_n, v_w⟩ = true) : Does [(99, c_hrclose HaR.Fs.std)] Try.f35 [.agg [.val (.int .i64 v_l), .val (.int .i64 v_c), .val (.int .i64 v_p), .val (.bool v_o), .val (.int .i64 v_b), .val (.int .i64 v_s), .sl none (.recs (.ints .u8 .nil) v_q), .val (.int .i64 v_t), .val (.int .i64 v_n), .val (.bool v_w)], .one (.val (.int .i64 n))] [] ⟨Js.std.j_may ⟨v_l, v_c, v_p, v_o, v_b, v_s, v_q, v_t, v_n, v_w⟩ = true, .tup [.agg [.val (.int .i64 ((Js.std.j_clo ⟨v_l, v_c, v_p, v_o, v_b, v_s, v_q, v_t, v_n, v_w⟩ n).x).l), .val (.int .i64 ((Js.std.j_clo ⟨v_l, v_c, v_p, v_o, v_b, v_s, v_q, v_t, v_n, v_w⟩ n).x).c), .val (.int .i64 ((Js.std.j_clo ⟨v_l, v_c, v_p, v_o, v_b, v_s, v_q, v_t, v_n, v_w⟩ n).x).p), .val (.bool ((Js.std.j_clo ⟨v_l, v_c, v_p, v_o, v_b, v_s, v_q, v_t, v_n, v_w⟩ n).x).o), .val (.int .i64 ((Js.std.j_clo ⟨v_l, v_c, v_p, v_o, v_b, v_s, v_q, v_t, v_n, v_w⟩ n).x).b), .val (.int .i64 ((Js.std.j_clo ⟨v_l, v_c, v_p, v_o, v_b, v_s, v_q, v_t, v_n, v_w⟩ n).x).s), .sl none (.recs (.ints .u8 .nil) ((Js.std.j_clo ⟨v_l, v_c, v_p, v_o, v_b, v_s, v_q, v_t, v_n, v_w⟩ n).x).q), .val (.int .i64 ((Js.std.j_clo ⟨v_l, v_c, v_p, v_o, v_b, v_s, v_q, v_t, v_n, v_w⟩ n).x).t), .val (.int .i64 ((Js.std.j_clo ⟨v_l, v_c, v_p, v_o, v_b, v_s, v_q, v_t, v_n, v_w⟩ n).x).n), .val (.bool ((Js.std.j_clo ⟨v_l, v_c, v_p, v_o, v_b, v_s, v_q, v_t, v_n, v_w⟩ n).x).w)], .agg [.sl none (.recs (.int .i64 (.int .i64 (.int .i64 (.int .i64 (.ints .u8 .nil))))) ((Js.std.j_clo ⟨v_l, v_c, v_p, v_o, v_b, v_s, v_q, v_t, v_n, v_w⟩ n).y).f), .sl none (.recs (.ints .u8 .nil) ((Js.std.j_clo ⟨v_l, v_c, v_p, v_o, v_b, v_s, v_q, v_t, v_n, v_w⟩ n).y).g), .val (.bool ((Js.std.j_clo ⟨v_l, v_c, v_p, v_o, v_b, v_s, v_q, v_t, v_n, v_w⟩ n).y).d), .val (.int .i64 ((Js.std.j_clo ⟨v_l, v_c, v_p, v_o, v_b, v_s, v_q, v_t, v_n, v_w⟩ n).y).s)]], [], [Any, Any]⟩ := by
  intro b gv
  have hm : mayL ⟨v_l, v_c, v_p, v_o, v_b, v_s, v_q, v_t, v_n, v_w⟩ = true := hC
  have hm1 := may_L hm
  have hm2 := may_ok hm1.2.1
  have hm3 := may_c hm
  dsimp only at hm1 hm2 hm3
  have hfs := (FsOk.cons ok_hrclose FsOk.nil rfl)
  generalize hF : Js.std = F at hC hfs ⊢
  generalize hG0 : HaR.Fs.std = G0 at hC hfs ⊢
  generalize hA : Ar.std = A
  generalize hL : Lp _ _ _ = L
  obtain ⟨Z, zq⟩ := z_all
  refine cd_open (lp_mono hL) zq rfl ?_
  repeat' (first
    | (refine z_open zq ?_; try dsimp only)
    | refine cd_seq zq ?_ (lp_mono hL)
    | refine cd_blk zq ?_
    | refine cd_ret ?_
    | refine cd_skip ?_
    | refine cd_exit ?_
    | refine cd_loop ?_
    | refine cd_cond rfl ?_
    | refine cd_condT rfl ?_
    | refine cd_condF rfl ?_
    | (refine Cd.mk ?_; cbv)
    | (refine Ends1.mk ?_; cbv)
    | (refine Fin1.mk ?_; cbv)
    | exact trivial
    | refine And.intro ?_ ?_
    | refine orf fun _ => ?_
    | refine ort fun _ => ?_)
  all_goals
    clear hL zq Z hfs
    subst hF hA hG0
    simp only [Js.std, HaR.Fs.std, Ar.std] at *
    try (grind [stdCmp, b_add, wr, rcloL, zN, mayH, cntB])
theorem ok_rlclose : ConOk Try.prog 35 (c_rlclose Js.std) := by
  refine con_of (FsOk.cons ok_hrclose FsOk.nil rfl) Try.func35 rfl rfl fun xs h p hp => ?_
  unfold c_rlclose at hp
  split at hp
  · cases hp
    exact ⟨lee_le rfl, fun hC _ => x_rlclose _ _ _ _ _ _ _ _ _ _ _ hC⟩
  · cases hp

def c_rlsame (F : Js) : Con := fun xs h => match xs, h with
  | [.agg [.val (.int .i64 v_l), .val (.int .i64 v_c), .val (.int .i64 v_p), .val (.bool v_o), .val (.int .i64 v_b), .val (.int .i64 v_s), .sl none (.recs (.ints .u8 .nil) v_q), .val (.int .i64 v_t), .val (.int .i64 v_n), .val (.bool v_w)], .agg [.val (.int .i64 y_l), .val (.int .i64 y_c), .val (.int .i64 y_p), .val (.bool y_o), .val (.int .i64 y_b), .val (.int .i64 y_s), .sl none (.recs (.ints .u8 .nil) y_q), .val (.int .i64 y_t), .val (.int .i64 y_n), .val (.bool y_w)]], [] => some ⟨F.j_sb ⟨v_l, v_c, v_p, v_o, v_b, v_s, v_q, v_t, v_n, v_w⟩ ⟨y_l, y_c, y_p, y_o, y_b, y_s, y_q, y_t, y_n, y_w⟩ = true, .sa (B (F.j_sm ⟨v_l, v_c, v_p, v_o, v_b, v_s, v_q, v_t, v_n, v_w⟩ ⟨y_l, y_c, y_p, y_o, y_b, y_s, y_q, y_t, y_n, y_w⟩)), [], [Any, Any]⟩
  | _, _ => none
set_option maxHeartbeats 2000000 in
set_option maxRecDepth 100000 in
theorem x_rlsame (v_l : Int) (v_c : Int) (v_p : Int) (v_o : Bool) (v_b : Int) (v_s : Int) (v_q : List E) (v_t : Int) (v_n : Int) (v_w : Bool) (y_l : Int) (y_c : Int) (y_p : Int) (y_o : Bool) (y_b : Int) (y_s : Int) (y_q : List E) (y_t : Int) (y_n : Int) (y_w : Bool) (hC : Js.std.j_sb ⟨v_l, v_c, v_p, v_o, v_b, v_s, v_q, v_t, v_n, v_w⟩ ⟨y_l, y_c, y_p, y_o, y_b, y_s, y_q, y_t, y_n, y_w⟩ = true) : Does [(76, c_rsame Hs.std)] Try.f23 [.agg [.val (.int .i64 v_l), .val (.int .i64 v_c), .val (.int .i64 v_p), .val (.bool v_o), .val (.int .i64 v_b), .val (.int .i64 v_s), .sl none (.recs (.ints .u8 .nil) v_q), .val (.int .i64 v_t), .val (.int .i64 v_n), .val (.bool v_w)], .agg [.val (.int .i64 y_l), .val (.int .i64 y_c), .val (.int .i64 y_p), .val (.bool y_o), .val (.int .i64 y_b), .val (.int .i64 y_s), .sl none (.recs (.ints .u8 .nil) y_q), .val (.int .i64 y_t), .val (.int .i64 y_n), .val (.bool y_w)]] [] ⟨Js.std.j_sb ⟨v_l, v_c, v_p, v_o, v_b, v_s, v_q, v_t, v_n, v_w⟩ ⟨y_l, y_c, y_p, y_o, y_b, y_s, y_q, y_t, y_n, y_w⟩ = true, .sa (B (Js.std.j_sm ⟨v_l, v_c, v_p, v_o, v_b, v_s, v_q, v_t, v_n, v_w⟩ ⟨y_l, y_c, y_p, y_o, y_b, y_s, y_q, y_t, y_n, y_w⟩)), [], [Any, Any]⟩ := by
  intro b gv
  have hfs := (FsOk.cons ok_rsame FsOk.nil rfl)
  generalize hF : Js.std = F at hC hfs ⊢
  generalize hG0 : Hs.std = G0 at hC hfs ⊢
  generalize hA : Ar.std = A
  generalize hL : Lp _ _ _ = L
  obtain ⟨Z, zq⟩ := z_all
  refine cd_open (lp_mono hL) zq rfl ?_
  repeat' (first
    | (refine z_open zq ?_; try dsimp only)
    | refine cd_seq zq ?_ (lp_mono hL)
    | refine cd_blk zq ?_
    | refine cd_ret ?_
    | refine cd_skip ?_
    | refine cd_exit ?_
    | refine cd_loop ?_
    | refine cd_cond rfl ?_
    | refine cd_condT rfl ?_
    | refine cd_condF rfl ?_
    | (refine Cd.mk ?_; cbv)
    | (refine Ends1.mk ?_; cbv)
    | (refine Fin1.mk ?_; cbv)
    | exact trivial
    | refine And.intro ?_ ?_
    | refine orf fun _ => ?_
    | refine ort fun _ => ?_)
  all_goals
    clear hL zq Z hfs
    subst hF hA hG0
    simp only [Js.std, Hs.std, Ar.std] at *
    try (grind [stdCmp, b_add, wr, smL])
theorem ok_rlsame : ConOk Try.prog 23 (c_rlsame Js.std) := by
  refine con_of (FsOk.cons ok_rsame FsOk.nil rfl) Try.func23 rfl rfl fun xs h p hp => ?_
  unfold c_rlsame at hp
  split at hp
  · cases hp
    exact ⟨lee_le rfl, fun hC _ => x_rlsame _ _ _ _ _ _ _ _ _ _ _ _ _ _ _ _ _ _ _ _ hC⟩
  · cases hp

noncomputable def byI (q q' : List E) (y : XE) : St := stOf Try.f45.ntmps [(0, .sl none (.recs (.ints .u8 .nil) q)), (1, .sl none (.recs (.ints .u8 .nil) q')), (5, .val (.int .i64 y.i))] [] [Any, Any]
def byR (st : St) : XE := ⟨slotI st 5⟩
noncomputable def nwI (a b : NW) (y : XE) : St := stOf Try.f24.ntmps [(2, .ptr 1 0), (3, .ptr 2 0), (5, .val (.int .i64 y.i))] [(1, .cells 38 [.sl none (.recs (.int .i64 (.int .i64 (.int .i64 (.int .i64 (.ints .u8 .nil))))) a.f), .sl none (.recs (.ints .u8 .nil) a.g), .val (.bool a.d), .val (.int .i64 a.s)]), (2, .cells 38 [.sl none (.recs (.int .i64 (.int .i64 (.int .i64 (.int .i64 (.ints .u8 .nil))))) b.f), .sl none (.recs (.ints .u8 .nil) b.g), .val (.bool b.d), .val (.int .i64 b.s)])] [Any, Any]
def nwR (st : St) : XE := ⟨slotI st 5⟩

def c_bytes (F : Js) : Con := fun xs h => match xs, h with
  | [.one (.sl none (.recs (.ints .u8 .nil) p)), .one (.sl none (.recs (.ints .u8 .nil) q))], [] => some ⟨F.j_by p q = true, .sa (B (F.j_eq p q)), [], [Any, Any]⟩
  | _, _ => none
set_option maxHeartbeats 1000000 in
set_option maxRecDepth 100000 in
theorem x_bytes (p : List E) (q : List E) (hC : Js.std.j_by p q = true) : Does [] Try.f45 [.one (.sl none (.recs (.ints .u8 .nil) p)), .one (.sl none (.recs (.ints .u8 .nil) q))] [] ⟨Js.std.j_by p q = true, .sa (B (Js.std.j_eq p q)), [], [Any, Any]⟩ := by
  intro b gv
  have hk : (p.length ≤ 100000 ∧ ∀ y ∈ p, ∀ x ∈ rl y 0, 0 ≤ x ∧ x ≤ 255) ∧ (q.length ≤ 100000 ∧ ∀ y ∈ q, ∀ x ∈ rl y 0, 0 ≤ x ∧ x ≤ 255) := by
    have h : (byS p && byS q) = true := hC
    simp only [Bool.and_eq_true] at h
    exact ⟨of_decide_eq_true h.1, of_decide_eq_true h.2⟩
  have hlq := hk.1.1
  have hne := len_ne (fun y => rl y 0) (p := p) (q := q)
  have hfs := FsOk.nil
  generalize hF : Js.std = F at hC hfs ⊢
  generalize hA : Ar.std = A
  generalize hL : Lp _ _ _ = L
  obtain ⟨Z, zq⟩ := z_all
  refine cd_open (lp_mono hL) zq rfl ?_
  repeat' (first
    | (refine z_open zq ?_; try dsimp only)
    | refine cd_seq zq ?_ (lp_mono hL)
    | refine cd_blk zq ?_
    | refine cd_ret ?_
    | refine cd_skip ?_
    | refine cd_exit ?_
    | refine cd_loop ?_
    | refine cd_cond rfl ?_
    | refine cd_condT rfl ?_
    | refine cd_condF rfl ?_
    | (refine Cd.mk ?_; cbv)
    | (refine Ends1.mk ?_; cbv)
    | (refine Fin1.mk ?_; cbv)
    | exact trivial
    | refine And.intro ?_ ?_
    | refine orf fun _ => ?_
    | refine ort fun _ => ?_)
  all_goals first | (show L _ _ _; skip) | (clear hfs hL zq Z; subst hA hF; simp only [Js.std, Ar.std] at * <;> grind [stdCmp, nwE, pq, prF]; done)
  rename_i hx
  have hl : p.length = q.length := by
    clear hfs hL zq Z hF
    subst hA
    simp only [Ar.std] at hx
    grind [stdCmp]
  clear hx
  subst hL
  refine loop_z (cx_ok hfs) (eqQ (fun y => rl y 0) p q) (byI p q) (eqM p) byR ⟨0⟩ ?_ ?_ ?_
  · exact eq_zero _ _ _
  · cbv
    repeat' (first | exact trivial | exact rfl | refine And.intro ?_ ?_)
  rintro ⟨i⟩ hq O hO
  have hst := eq_step (fun y => rl y 0) p q hl i hq
  have hen := eq_end (fun y => rl y 0) p q hl i hq
  have q0 := hq.1
  have q1 := hq.2.1
  dsimp only at q0 q1
  have m1 : i < p.length → byt (rl (p.getD i.toNat []) 0) = rl (p.getD i.toNat []) 0 := fun h => byt_id (hk.1.2 _ (pl_mem q0 h))
  have m2 : i < p.length → byt (rl (q.getD i.toNat []) 0) = rl (q.getD i.toNat []) 0 := fun h => byt_id (hk.2.2 _ (pl_mem q0 (by omega)))
  simp only [byt] at m1 m2
  subst hA
  generalize hA : Ar.std = A
  generalize hL : Lp _ _ _ = L
  refine cd_close zq ?_
  repeat' (first
    | (refine z_open zq ?_; try dsimp only)
    | refine cd_seq zq ?_ (lp_mono hL)
    | refine cd_blk zq ?_
    | refine cd_ret ?_
    | refine cd_skip ?_
    | refine cd_exit ?_
    | refine cd_loop ?_
    | refine cd_cond rfl ?_
    | refine cd_condT rfl ?_
    | refine cd_condF rfl ?_
    | (refine Cd.mk ?_; cbv)
    | (refine Ends1.mk ?_; cbv)
    | (refine Fin1.mk ?_; cbv)
    | exact trivial
    | refine And.intro ?_ ?_
    | refine orf fun _ => ?_
    | refine ort fun _ => ?_)
  all_goals (clear hL hfs zq Z hq; subst hA hF hO; simp only [Js.std, Ar.std] at * <;> grind [stdCmp, b_add, wr, eqM, pq])
theorem ok_bytes : ConOk Try.prog 45 (c_bytes Js.std) := by
  refine con_of FsOk.nil Try.func45 rfl rfl fun xs h p hp => ?_
  unfold c_bytes at hp
  split at hp
  · cases hp
    exact ⟨lee_le rfl, fun hC _ => x_bytes _ _ hC⟩
  · cases hp

def c_news (F : Js) : Con := fun xs h => match xs, h with
  | [.agg [.sl none (.recs (.int .i64 (.int .i64 (.int .i64 (.int .i64 (.ints .u8 .nil))))) a_f), .sl none (.recs (.ints .u8 .nil) a_g), .val (.bool a_d), .val (.int .i64 a_s)], .agg [.sl none (.recs (.int .i64 (.int .i64 (.int .i64 (.int .i64 (.ints .u8 .nil))))) b_f), .sl none (.recs (.ints .u8 .nil) b_g), .val (.bool b_d), .val (.int .i64 b_s)]], [] => some ⟨F.j_nb ⟨a_f, a_g, a_d, a_s⟩ ⟨b_f, b_g, b_d, b_s⟩ = true, .sa (B (F.j_ne ⟨a_f, a_g, a_d, a_s⟩ ⟨b_f, b_g, b_d, b_s⟩)), [], [Any, Any]⟩
  | _, _ => none
set_option maxHeartbeats 2000000 in
set_option maxRecDepth 100000 in
theorem x_news (a_f : List E) (a_g : List E) (a_d : Bool) (a_s : Int) (b_f : List E) (b_g : List E) (b_d : Bool) (b_s : Int) (hC : Js.std.j_nb ⟨a_f, a_g, a_d, a_s⟩ ⟨b_f, b_g, b_d, b_s⟩ = true) : Does [(45, c_bytes Js.std), (85, c_frsame FrQ.Qs.std)] Try.f24 [.agg [.sl none (.recs (.int .i64 (.int .i64 (.int .i64 (.int .i64 (.ints .u8 .nil))))) a_f), .sl none (.recs (.ints .u8 .nil) a_g), .val (.bool a_d), .val (.int .i64 a_s)], .agg [.sl none (.recs (.int .i64 (.int .i64 (.int .i64 (.int .i64 (.ints .u8 .nil))))) b_f), .sl none (.recs (.ints .u8 .nil) b_g), .val (.bool b_d), .val (.int .i64 b_s)]] [] ⟨Js.std.j_nb ⟨a_f, a_g, a_d, a_s⟩ ⟨b_f, b_g, b_d, b_s⟩ = true, .sa (B (Js.std.j_ne ⟨a_f, a_g, a_d, a_s⟩ ⟨b_f, b_g, b_d, b_s⟩)), [], [Any, Any]⟩ := by
  intro b gv
  have hk := nw_ok (show nw2 ⟨a_f, a_g, a_d, a_s⟩ ⟨b_f, b_g, b_d, b_s⟩ = true from hC)
  dsimp only at hk
  have hlq := hk.1.1
  have hne := len_ne fr1 (p := a_f) (q := b_f)
  have hfs := (FsOk.cons ok_bytes (FsOk.cons ok_frsame FsOk.nil rfl) rfl)
  generalize hF : Js.std = F at hC hfs ⊢
  generalize hG0 : FrQ.Qs.std = G0 at hC hfs ⊢
  generalize hA : Ar.std = A
  generalize hL : Lp _ _ _ = L
  obtain ⟨Z, zq⟩ := z_all
  refine cd_open (lp_mono hL) zq rfl ?_
  repeat' (first
    | (refine z_open zq ?_; try dsimp only)
    | refine cd_seq zq ?_ (lp_mono hL)
    | refine cd_blk zq ?_
    | refine cd_ret ?_
    | refine cd_skip ?_
    | refine cd_exit ?_
    | refine cd_loop ?_
    | refine cd_cond rfl ?_
    | refine cd_condT rfl ?_
    | refine cd_condF rfl ?_
    | (refine Cd.mk ?_; cbv)
    | (refine Ends1.mk ?_; cbv)
    | (refine Fin1.mk ?_; cbv)
    | exact trivial
    | refine And.intro ?_ ?_
    | refine orf fun _ => ?_
    | refine ort fun _ => ?_)
  all_goals first | (show L _ _ _; skip) | (clear hfs hL zq Z; subst hA hF hG0; simp only [Js.std, Ar.std] at * <;> grind [stdCmp, nwE, pq, prF]; done)
  rename_i hx
  have hl : a_f.length = b_f.length := by
    clear hfs hL zq Z hF hG0
    subst hA
    simp only [Ar.std] at hx
    grind [stdCmp]
  have hv : a_d = b_d ∧ a_s = b_s ∧ pq a_g = pq b_g := by
    clear hfs hL zq Z
    subst hA hF hG0
    simp only [Ar.std, Js.std] at hx
    grind [stdCmp]
  clear hx
  subst hL
  refine loop_z (cx_ok hfs) (eqQ (fr1) a_f b_f) (nwI ⟨a_f, a_g, a_d, a_s⟩ ⟨b_f, b_g, b_d, b_s⟩) (eqM a_f) nwR ⟨0⟩ ?_ ?_ ?_
  · exact eq_zero _ _ _
  · cbv
    repeat' (first | exact trivial | exact rfl | refine And.intro ?_ ?_)
  rintro ⟨i⟩ hq O hO
  have hst := eq_step (fr1) a_f b_f hl i hq
  have hen := eq_end (fr1) a_f b_f hl i hq
  have q0 := hq.1
  have q1 := hq.2.1
  dsimp only at q0 q1
  have m1 : i < a_f.length → byB (rl (a_f.getD i.toNat []) 4) = true := fun h => decide_eq_true (hk.1.2 _ (pl_mem q0 h))
  have m2 : i < a_f.length → byB (rl (b_f.getD i.toNat []) 4) = true := fun h => decide_eq_true (hk.2.1.2 _ (pl_mem q0 (by omega)))
  simp only [fr1, Prod.mk.injEq] at hst
  subst hA
  generalize hA : Ar.std = A
  generalize hL : Lp _ _ _ = L
  refine cd_close zq ?_
  repeat' (first
    | (refine z_open zq ?_; try dsimp only)
    | refine cd_seq zq ?_ (lp_mono hL)
    | refine cd_blk zq ?_
    | refine cd_ret ?_
    | refine cd_skip ?_
    | refine cd_exit ?_
    | refine cd_loop ?_
    | refine cd_cond rfl ?_
    | refine cd_condT rfl ?_
    | refine cd_condF rfl ?_
    | (refine Cd.mk ?_; cbv)
    | (refine Ends1.mk ?_; cbv)
    | (refine Fin1.mk ?_; cbv)
    | exact trivial
    | refine And.intro ?_ ?_
    | refine orf fun _ => ?_
    | refine ort fun _ => ?_)
  all_goals (clear hL hfs zq Z hq; subst hA hF hG0 hO; simp only [Js.std, FrQ.Qs.std, Ar.std] at * <;> grind [stdCmp, b_add, wr, eqM, nwE, prF, smF])
theorem ok_news : ConOk Try.prog 24 (c_news Js.std) := by
  refine con_of (FsOk.cons ok_bytes (FsOk.cons ok_frsame FsOk.nil rfl) rfl) Try.func24 rfl rfl fun xs h p hp => ?_
  unfold c_news at hp
  split at hp
  · cases hp
    exact ⟨lee_le rfl, fun hC _ => x_news _ _ _ _ _ _ _ _ hC⟩
  · cases hp
end Go.Proofs.Ytinjeffkhjcbnaa.LiQ
