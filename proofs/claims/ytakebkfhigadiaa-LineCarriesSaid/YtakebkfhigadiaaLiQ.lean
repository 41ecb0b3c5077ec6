
/-
  the answer's lines over the reckoner. No condition.
-/
import Derived.Test.YtakebkfhigadiaaLiR
import Derived.Test.YtakebkfhigadiaaFrQ
namespace Go.Proofs.Ytakebkfhigadiaa.LiQ
open Go Go.Proofs.Ytakebkfhigadiaa.Ry Go.Proofs.Ytakebkfhigadiaa.HaR Go.Proofs.Ytakebkfhigadiaa.SeR Go.Proofs.Ytakebkfhigadiaa.SeS Go.Proofs.Ytakebkfhigadiaa.SeT Go.Proofs.Ytakebkfhigadiaa.SeU Go.Proofs.Ytakebkfhigadiaa.SeL Go.Proofs.Ytakebkfhigadiaa.SeV Go.Proofs.Ytakebkfhigadiaa.LiR

open Go.Proofs.Ytakebkfhigadiaa.FrR (mayF chF isC smF)
open Go.Proofs.Ytakebkfhigadiaa.OctR (byB)
abbrev c_frsame := FrQ.c_rsame
def rnewL (limit : Int) : LN := let h := newH 0 limit; ⟨h.l, h.c, h.p, h.o, 0, 0, [], 0, 0, false⟩
def rpushL (x : LN) (p : List Int) (limit : Int) : LD :=
  if opL x = true then (if (rpushS x.b x.s x.q x.t p limit).e = 0 then ⟨sndL x (rpushS x.b x.s x.q x.t p limit), zN, 0⟩ else ⟨zL, zN, (rpushS x.b x.s x.q x.t p limit).e⟩)
  else ⟨zL, zN, 4⟩
def rackL (x : LN) (k : Int) : LN := sndL x (rackS x.b x.s x.q x.t k)
def rhloL (x : LN) (p limit : Int) : LD :=
  let r := helH x.l x.c x.p x.o p limit
  ⟨if r.b = true then bgL (hndL x r) else hndL x r, ⟨if r.a = true then [[.int 2, .int p, .int 0, .int 0, .ints []]] else [], [], r.b, 0⟩, 0⟩
def rwlcL (x : LN) (p : Int) : LD :=
  let r := welH x.l x.c x.p x.o p
  if r.a = true then ⟨⟨r.l, r.c, r.p, r.o, 0, 0, [], 0, 0, false⟩, ⟨[], [], false, p⟩, 0⟩ else ⟨x, zN, 0⟩
def rdatL (x : LN) (q a : Int) (p : List Int) : LD :=
  let g := getH x.n q
  ⟨rackL ⟨x.l, x.c, x.p, x.o, x.b, x.s, x.q, x.t, g.n, g.w⟩ a, ⟨[], if g.a = true then [[.ints p]] else [], false, 0⟩, 0⟩
def rhearL (x : LN) (k s q a : Int) (p : List Int) (limit : Int) : LD :=
  if k = 1 then rhloL x s limit
  else if k = 2 then rwlcL x s
  else if opL x = false ∨ x.c ≠ s then ⟨x, zN, 0⟩
  else if k = 3 then rdatL x q a p
  else ⟨rackL x a, zN, 0⟩
def rtikL (x : LN) : LD :=
  if 0 < x.p then ⟨x, ⟨[[.int 1, .int x.p, .int 0, .int 0, .ints []]], [], false, 0⟩, 0⟩
  else ⟨sndL x (rtkS x.b x.s x.q x.t), ⟨dfL x.c x.n (tkN x.b x.s x.q x.t), [], false, 0⟩, 0⟩
def rfluL (x : LN) : LD :=
  ⟨⟨x.l, x.c, x.p, x.o, (rrdS x.b x.s x.q x.t).b, (rrdS x.b x.s x.q x.t).s, (rrdS x.b x.s x.q x.t).q, (rrdS x.b x.s x.q x.t).c, x.n, false⟩,
   ⟨if x.w = true then dfL x.c x.n (nuS x.b x.q x.s (mbS x.q)) ++ [[.int 4, .int x.c, .int 0, .int x.n, .ints []]] else dfL x.c x.n (nuS x.b x.q x.s (mbS x.q)), [], false, 0⟩, 0⟩
def rcloL (x : LN) (limit : Int) : LD :=
  if x.c = 0 then ⟨x, zN, 0⟩ else (let h := closeH x.l x.c x.p x.o limit; ⟨⟨h.l, h.c, h.p, h.o, 0, 0, [], 0, 0, false⟩, ⟨[], [], true, 0⟩, 0⟩)
/-- Frames and payloads, as they are told apart. -/
def fr1 (y : E) : Int × Int × Int × Int × List Int := (ri y 0, ri y 1, ri y 2, ri y 3, rl y 4)
def prF (l : List E) : List (Int × Int × Int × Int × List Int) := l.map fr1
def byF (l : List E) : Bool := decide (l.length ≤ 100000 ∧ ∀ y ∈ l, ∀ x ∈ rl y 4, 0 ≤ x ∧ x ≤ 255)
def nwB (x : NW) : Bool := byF x.f && byS x.g
def nw2 (x y : NW) : Bool := nwB x && nwB y
def nwE (x y : NW) : Bool := decide (x.d = y.d ∧ x.s = y.s ∧ prF x.f = prF y.f ∧ pq x.g = pq y.g)
theorem nw_ok {x y : NW} (h : nw2 x y = true) : (x.f.length ≤ 100000 ∧ ∀ z ∈ x.f, ∀ n ∈ rl z 4, 0 ≤ n ∧ n ≤ 255) ∧ (y.f.length ≤ 100000 ∧ ∀ z ∈ y.f, ∀ n ∈ rl z 4, 0 ≤ n ∧ n ≤ 255) ∧ (byS x.g && byS y.g) = true := by
  simp only [nw2, nwB, Bool.and_eq_true] at h
  exact ⟨of_decide_eq_true h.1.1, of_decide_eq_true h.2.1, by rw [h.1.2, h.2.2]; rfl⟩
theorem may_c {x : LN} (h : mayL x = true) : 0 ≤ x.c := by
  have h := (may_L h).1
  simp only [mayH, openB, openingB, overB, Bool.and_eq_true, Bool.or_eq_true, decide_eq_true_eq, beq_iff_eq] at h
  omega

structure Js where
  j_lb : LN → Bool
  j_may : LN → Bool
  j_cnt : Int → Bool
  j_new : Int → LN
  j_push : LN → List Int → Int → LD
  j_hear : LN → Int → Int → Int → Int → List Int → Int → LD
  j_df : Int → Int → List E → List E
  j_tik : LN → LD
  j_flu : LN → LD
  j_clo : LN → Int → LD
  j_sm : LN → LN → Bool
  j_sb : LN → LN → Bool
  j_by : List E → List E → Bool
  j_eq : List E → List E → Bool
  j_nb : NW → NW → Bool
  j_ne : NW → NW → Bool
  j_lq : List E → Bool
def Js.std : Js := ⟨lbB, mayL, cntB, rnewL, rpushL, rhearL, dfL, rtikL, rfluL, rcloL, smL, fun x y => byS x.q && byS y.q, fun p q => byS p && byS q, fun p q => decide (pq p = pq q), nw2, nwE, fun l => decide (l.length ≤ 100000)⟩

def c_rlmay (F : Js) : Con := fun xs h => match xs, h with
  | [.agg [.val (.int .i64 v_l), .val (.int .i64 v_c), .val (.int .i64 v_p), .val (.bool v_o), .val (.int .i64 v_b), .val (.int .i64 v_s), .sl none (.recs (.ints .u8 .nil) v_q), .val (.int .i64 v_t), .val (.int .i64 v_n), .val (.bool v_w)]], [] => some ⟨F.j_lb ⟨v_l, v_c, v_p, v_o, v_b, v_s, v_q, v_t, v_n, v_w⟩ = true, .sa (B (F.j_may ⟨v_l, v_c, v_p, v_o, v_b, v_s, v_q, v_t, v_n, v_w⟩)), [], [Any]⟩
  | _, _ => none
def c_rlnew (F : Js) : Con := fun xs h => match xs, h with
  | [.one (.val (.int .i64 n))], [] => some ⟨True, .sa (.agg [.val (.int .i64 (F.j_new n).l), .val (.int .i64 (F.j_new n).c), .val (.int .i64 (F.j_new n).p), .val (.bool (F.j_new n).o), .val (.int .i64 (F.j_new n).b), .val (.int .i64 (F.j_new n).s), .sl none (.recs (.ints .u8 .nil) (F.j_new n).q), .val (.int .i64 (F.j_new n).t), .val (.int .i64 (F.j_new n).n), .val (.bool (F.j_new n).w)]), [], [Any]⟩
  | _, _ => none
def c_rlpush (F : Js) : Con := fun xs h => match xs, h with
  | [.agg [.val (.int .i64 v_l), .val (.int .i64 v_c), .val (.int .i64 v_p), .val (.bool v_o), .val (.int .i64 v_b), .val (.int .i64 v_s), .sl none (.recs (.ints .u8 .nil) v_q), .val (.int .i64 v_t), .val (.int .i64 v_n), .val (.bool v_w)], .one (.sl none (.ints .u8 p)), .one (.val (.int .i64 n))], [] => some ⟨F.j_lb ⟨v_l, v_c, v_p, v_o, v_b, v_s, v_q, v_t, v_n, v_w⟩ = true, .tup [.agg [.val (.int .i64 ((F.j_push ⟨v_l, v_c, v_p, v_o, v_b, v_s, v_q, v_t, v_n, v_w⟩ p n).x).l), .val (.int .i64 ((F.j_push ⟨v_l, v_c, v_p, v_o, v_b, v_s, v_q, v_t, v_n, v_w⟩ p n).x).c), .val (.int .i64 ((F.j_push ⟨v_l, v_c, v_p, v_o, v_b, v_s, v_q, v_t, v_n, v_w⟩ p n).x).p), .val (.bool ((F.j_push ⟨v_l, v_c, v_p, v_o, v_b, v_s, v_q, v_t, v_n, v_w⟩ p n).x).o), .val (.int .i64 ((F.j_push ⟨v_l, v_c, v_p, v_o, v_b, v_s, v_q, v_t, v_n, v_w⟩ p n).x).b), .val (.int .i64 ((F.j_push ⟨v_l, v_c, v_p, v_o, v_b, v_s, v_q, v_t, v_n, v_w⟩ p n).x).s), .sl none (.recs (.ints .u8 .nil) ((F.j_push ⟨v_l, v_c, v_p, v_o, v_b, v_s, v_q, v_t, v_n, v_w⟩ p n).x).q), .val (.int .i64 ((F.j_push ⟨v_l, v_c, v_p, v_o, v_b, v_s, v_q, v_t, v_n, v_w⟩ p n).x).t), .val (.int .i64 ((F.j_push ⟨v_l, v_c, v_p, v_o, v_b, v_s, v_q, v_t, v_n, v_w⟩ p n).x).n), .val (.bool ((F.j_push ⟨v_l, v_c, v_p, v_o, v_b, v_s, v_q, v_t, v_n, v_w⟩ p n).x).w)], I (F.j_push ⟨v_l, v_c, v_p, v_o, v_b, v_s, v_q, v_t, v_n, v_w⟩ p n).e], [], [Any, Any, Any]⟩
  | _, _ => none
def c_rlhear (F : Js) : Con := fun xs h => match xs, h with
  | [.agg [.val (.int .i64 v_l), .val (.int .i64 v_c), .val (.int .i64 v_p), .val (.bool v_o), .val (.int .i64 v_b), .val (.int .i64 v_s), .sl none (.recs (.ints .u8 .nil) v_q), .val (.int .i64 v_t), .val (.int .i64 v_n), .val (.bool v_w)], .agg [.val (.int .i64 f_k), .val (.int .i64 f_s), .val (.int .i64 f_q), .val (.int .i64 f_a), .sl none (.ints .u8 f_p)], .one (.val (.int .i64 n))], [] => some ⟨F.j_may ⟨v_l, v_c, v_p, v_o, v_b, v_s, v_q, v_t, v_n, v_w⟩ = true, .tup [.agg [.val (.int .i64 ((F.j_hear ⟨v_l, v_c, v_p, v_o, v_b, v_s, v_q, v_t, v_n, v_w⟩ f_k f_s f_q f_a f_p n).x).l), .val (.int .i64 ((F.j_hear ⟨v_l, v_c, v_p, v_o, v_b, v_s, v_q, v_t, v_n, v_w⟩ f_k f_s f_q f_a f_p n).x).c), .val (.int .i64 ((F.j_hear ⟨v_l, v_c, v_p, v_o, v_b, v_s, v_q, v_t, v_n, v_w⟩ f_k f_s f_q f_a f_p n).x).p), .val (.bool ((F.j_hear ⟨v_l, v_c, v_p, v_o, v_b, v_s, v_q, v_t, v_n, v_w⟩ f_k f_s f_q f_a f_p n).x).o), .val (.int .i64 ((F.j_hear ⟨v_l, v_c, v_p, v_o, v_b, v_s, v_q, v_t, v_n, v_w⟩ f_k f_s f_q f_a f_p n).x).b), .val (.int .i64 ((F.j_hear ⟨v_l, v_c, v_p, v_o, v_b, v_s, v_q, v_t, v_n, v_w⟩ f_k f_s f_q f_a f_p n).x).s), .sl none (.recs (.ints .u8 .nil) ((F.j_hear ⟨v_l, v_c, v_p, v_o, v_b, v_s, v_q, v_t, v_n, v_w⟩ f_k f_s f_q f_a f_p n).x).q), .val (.int .i64 ((F.j_hear ⟨v_l, v_c, v_p, v_o, v_b, v_s, v_q, v_t, v_n, v_w⟩ f_k f_s f_q f_a f_p n).x).t), .val (.int .i64 ((F.j_hear ⟨v_l, v_c, v_p, v_o, v_b, v_s, v_q, v_t, v_n, v_w⟩ f_k f_s f_q f_a f_p n).x).n), .val (.bool ((F.j_hear ⟨v_l, v_c, v_p, v_o, v_b, v_s, v_q, v_t, v_n, v_w⟩ f_k f_s f_q f_a f_p n).x).w)], .agg [.sl none (.recs (.int .i64 (.int .i64 (.int .i64 (.int .i64 (.ints .u8 .nil))))) ((F.j_hear ⟨v_l, v_c, v_p, v_o, v_b, v_s, v_q, v_t, v_n, v_w⟩ f_k f_s f_q f_a f_p n).y).f), .sl none (.recs (.ints .u8 .nil) ((F.j_hear ⟨v_l, v_c, v_p, v_o, v_b, v_s, v_q, v_t, v_n, v_w⟩ f_k f_s f_q f_a f_p n).y).g), .val (.bool ((F.j_hear ⟨v_l, v_c, v_p, v_o, v_b, v_s, v_q, v_t, v_n, v_w⟩ f_k f_s f_q f_a f_p n).y).d), .val (.int .i64 ((F.j_hear ⟨v_l, v_c, v_p, v_o, v_b, v_s, v_q, v_t, v_n, v_w⟩ f_k f_s f_q f_a f_p n).y).s)]], [], [Any, Any, Any]⟩
  | _, _ => none
def c_rdata (F : Js) : Con := fun xs h => match xs, h with
  | [.agg [.val (.int .i64 _), .val (.int .i64 v_c), .val (.int .i64 _), .val (.bool _), .val (.int .i64 _), .val (.int .i64 _), .sl none (.recs (.ints .u8 .nil) _), .val (.int .i64 _), .val (.int .i64 v_n), .val (.bool _)], .one (.sl none (.recs (.int .i64 (.ints .u8 .nil)) l))], [] => some ⟨F.j_lq l = true, .sa (.one (.sl (some (0, 84)) (.recs (.int .i64 (.int .i64 (.int .i64 (.int .i64 (.ints .u8 .nil))))) (F.j_df v_c v_n l)))), [(0, .tok)], [Any, Any]⟩
  | _, _ => none
def c_rltick (F : Js) : Con := fun xs h => match xs, h with
  | [.agg [.val (.int .i64 v_l), .val (.int .i64 v_c), .val (.int .i64 v_p), .val (.bool v_o), .val (.int .i64 v_b), .val (.int .i64 v_s), .sl none (.recs (.ints .u8 .nil) v_q), .val (.int .i64 v_t), .val (.int .i64 v_n), .val (.bool v_w)]], [] => some ⟨F.j_may ⟨v_l, v_c, v_p, v_o, v_b, v_s, v_q, v_t, v_n, v_w⟩ = true, .tup [.agg [.val (.int .i64 ((F.j_tik ⟨v_l, v_c, v_p, v_o, v_b, v_s, v_q, v_t, v_n, v_w⟩).x).l), .val (.int .i64 ((F.j_tik ⟨v_l, v_c, v_p, v_o, v_b, v_s, v_q, v_t, v_n, v_w⟩).x).c), .val (.int .i64 ((F.j_tik ⟨v_l, v_c, v_p, v_o, v_b, v_s, v_q, v_t, v_n, v_w⟩).x).p), .val (.bool ((F.j_tik ⟨v_l, v_c, v_p, v_o, v_b, v_s, v_q, v_t, v_n, v_w⟩).x).o), .val (.int .i64 ((F.j_tik ⟨v_l, v_c, v_p, v_o, v_b, v_s, v_q, v_t, v_n, v_w⟩).x).b), .val (.int .i64 ((F.j_tik ⟨v_l, v_c, v_p, v_o, v_b, v_s, v_q, v_t, v_n, v_w⟩).x).s), .sl none (.recs (.ints .u8 .nil) ((F.j_tik ⟨v_l, v_c, v_p, v_o, v_b, v_s, v_q, v_t, v_n, v_w⟩).x).q), .val (.int .i64 ((F.j_tik ⟨v_l, v_c, v_p, v_o, v_b, v_s, v_q, v_t, v_n, v_w⟩).x).t), .val (.int .i64 ((F.j_tik ⟨v_l, v_c, v_p, v_o, v_b, v_s, v_q, v_t, v_n, v_w⟩).x).n), .val (.bool ((F.j_tik ⟨v_l, v_c, v_p, v_o, v_b, v_s, v_q, v_t, v_n, v_w⟩).x).w)], .agg [.sl none (.recs (.int .i64 (.int .i64 (.int .i64 (.int .i64 (.ints .u8 .nil))))) ((F.j_tik ⟨v_l, v_c, v_p, v_o, v_b, v_s, v_q, v_t, v_n, v_w⟩).y).f), .sl none (.recs (.ints .u8 .nil) ((F.j_tik ⟨v_l, v_c, v_p, v_o, v_b, v_s, v_q, v_t, v_n, v_w⟩).y).g), .val (.bool ((F.j_tik ⟨v_l, v_c, v_p, v_o, v_b, v_s, v_q, v_t, v_n, v_w⟩).y).d), .val (.int .i64 ((F.j_tik ⟨v_l, v_c, v_p, v_o, v_b, v_s, v_q, v_t, v_n, v_w⟩).y).s)]], [], [Any]⟩
  | _, _ => none
def c_rlflush (F : Js) : Con := fun xs h => match xs, h with
  | [.agg [.val (.int .i64 v_l), .val (.int .i64 v_c), .val (.int .i64 v_p), .val (.bool v_o), .val (.int .i64 v_b), .val (.int .i64 v_s), .sl none (.recs (.ints .u8 .nil) v_q), .val (.int .i64 v_t), .val (.int .i64 v_n), .val (.bool v_w)]], [] => some ⟨F.j_may ⟨v_l, v_c, v_p, v_o, v_b, v_s, v_q, v_t, v_n, v_w⟩ = true, .tup [.agg [.val (.int .i64 ((F.j_flu ⟨v_l, v_c, v_p, v_o, v_b, v_s, v_q, v_t, v_n, v_w⟩).x).l), .val (.int .i64 ((F.j_flu ⟨v_l, v_c, v_p, v_o, v_b, v_s, v_q, v_t, v_n, v_w⟩).x).c), .val (.int .i64 ((F.j_flu ⟨v_l, v_c, v_p, v_o, v_b, v_s, v_q, v_t, v_n, v_w⟩).x).p), .val (.bool ((F.j_flu ⟨v_l, v_c, v_p, v_o, v_b, v_s, v_q, v_t, v_n, v_w⟩).x).o), .val (.int .i64 ((F.j_flu ⟨v_l, v_c, v_p, v_o, v_b, v_s, v_q, v_t, v_n, v_w⟩).x).b), .val (.int .i64 ((F.j_flu ⟨v_l, v_c, v_p, v_o, v_b, v_s, v_q, v_t, v_n, v_w⟩).x).s), .sl none (.recs (.ints .u8 .nil) ((F.j_flu ⟨v_l, v_c, v_p, v_o, v_b, v_s, v_q, v_t, v_n, v_w⟩).x).q), .val (.int .i64 ((F.j_flu ⟨v_l, v_c, v_p, v_o, v_b, v_s, v_q, v_t, v_n, v_w⟩).x).t), .val (.int .i64 ((F.j_flu ⟨v_l, v_c, v_p, v_o, v_b, v_s, v_q, v_t, v_n, v_w⟩).x).n), .val (.bool ((F.j_flu ⟨v_l, v_c, v_p, v_o, v_b, v_s, v_q, v_t, v_n, v_w⟩).x).w)], .agg [.sl none (.recs (.int .i64 (.int .i64 (.int .i64 (.int .i64 (.ints .u8 .nil))))) ((F.j_flu ⟨v_l, v_c, v_p, v_o, v_b, v_s, v_q, v_t, v_n, v_w⟩).y).f), .sl none (.recs (.ints .u8 .nil) ((F.j_flu ⟨v_l, v_c, v_p, v_o, v_b, v_s, v_q, v_t, v_n, v_w⟩).y).g), .val (.bool ((F.j_flu ⟨v_l, v_c, v_p, v_o, v_b, v_s, v_q, v_t, v_n, v_w⟩).y).d), .val (.int .i64 ((F.j_flu ⟨v_l, v_c, v_p, v_o, v_b, v_s, v_q, v_t, v_n, v_w⟩).y).s)]], [], [Any]⟩
  | _, _ => none
def c_rlclose (F : Js) : Con := fun xs h => match xs, h with
  | [.agg [.val (.int .i64 v_l), .val (.int .i64 v_c), .val (.int .i64 v_p), .val (.bool v_o), .val (.int .i64 v_b), .val (.int .i64 v_s), .sl none (.recs (.ints .u8 .nil) v_q), .val (.int .i64 v_t), .val (.int .i64 v_n), .val (.bool v_w)], .one (.val (.int .i64 n))], [] => some ⟨F.j_may ⟨v_l, v_c, v_p, v_o, v_b, v_s, v_q, v_t, v_n, v_w⟩ = true, .tup [.agg [.val (.int .i64 ((F.j_clo ⟨v_l, v_c, v_p, v_o, v_b, v_s, v_q, v_t, v_n, v_w⟩ n).x).l), .val (.int .i64 ((F.j_clo ⟨v_l, v_c, v_p, v_o, v_b, v_s, v_q, v_t, v_n, v_w⟩ n).x).c), .val (.int .i64 ((F.j_clo ⟨v_l, v_c, v_p, v_o, v_b, v_s, v_q, v_t, v_n, v_w⟩ n).x).p), .val (.bool ((F.j_clo ⟨v_l, v_c, v_p, v_o, v_b, v_s, v_q, v_t, v_n, v_w⟩ n).x).o), .val (.int .i64 ((F.j_clo ⟨v_l, v_c, v_p, v_o, v_b, v_s, v_q, v_t, v_n, v_w⟩ n).x).b), .val (.int .i64 ((F.j_clo ⟨v_l, v_c, v_p, v_o, v_b, v_s, v_q, v_t, v_n, v_w⟩ n).x).s), .sl none (.recs (.ints .u8 .nil) ((F.j_clo ⟨v_l, v_c, v_p, v_o, v_b, v_s, v_q, v_t, v_n, v_w⟩ n).x).q), .val (.int .i64 ((F.j_clo ⟨v_l, v_c, v_p, v_o, v_b, v_s, v_q, v_t, v_n, v_w⟩ n).x).t), .val (.int .i64 ((F.j_clo ⟨v_l, v_c, v_p, v_o, v_b, v_s, v_q, v_t, v_n, v_w⟩ n).x).n), .val (.bool ((F.j_clo ⟨v_l, v_c, v_p, v_o, v_b, v_s, v_q, v_t, v_n, v_w⟩ n).x).w)], .agg [.sl none (.recs (.int .i64 (.int .i64 (.int .i64 (.int .i64 (.ints .u8 .nil))))) ((F.j_clo ⟨v_l, v_c, v_p, v_o, v_b, v_s, v_q, v_t, v_n, v_w⟩ n).y).f), .sl none (.recs (.ints .u8 .nil) ((F.j_clo ⟨v_l, v_c, v_p, v_o, v_b, v_s, v_q, v_t, v_n, v_w⟩ n).y).g), .val (.bool ((F.j_clo ⟨v_l, v_c, v_p, v_o, v_b, v_s, v_q, v_t, v_n, v_w⟩ n).y).d), .val (.int .i64 ((F.j_clo ⟨v_l, v_c, v_p, v_o, v_b, v_s, v_q, v_t, v_n, v_w⟩ n).y).s)]], [], [Any, Any]⟩
  | _, _ => none
def c_rlsame (F : Js) : Con := fun xs h => match xs, h with
  | [.agg [.val (.int .i64 v_l), .val (.int .i64 v_c), .val (.int .i64 v_p), .val (.bool v_o), .val (.int .i64 v_b), .val (.int .i64 v_s), .sl none (.recs (.ints .u8 .nil) v_q), .val (.int .i64 v_t), .val (.int .i64 v_n), .val (.bool v_w)], .agg [.val (.int .i64 y_l), .val (.int .i64 y_c), .val (.int .i64 y_p), .val (.bool y_o), .val (.int .i64 y_b), .val (.int .i64 y_s), .sl none (.recs (.ints .u8 .nil) y_q), .val (.int .i64 y_t), .val (.int .i64 y_n), .val (.bool y_w)]], [] => some ⟨F.j_sb ⟨v_l, v_c, v_p, v_o, v_b, v_s, v_q, v_t, v_n, v_w⟩ ⟨y_l, y_c, y_p, y_o, y_b, y_s, y_q, y_t, y_n, y_w⟩ = true, .sa (B (F.j_sm ⟨v_l, v_c, v_p, v_o, v_b, v_s, v_q, v_t, v_n, v_w⟩ ⟨y_l, y_c, y_p, y_o, y_b, y_s, y_q, y_t, y_n, y_w⟩)), [], [Any, Any]⟩
  | _, _ => none
def byR (st : St) : XE := ⟨slotI st 5⟩
def nwR (st : St) : XE := ⟨slotI st 5⟩

def c_bytes (F : Js) : Con := fun xs h => match xs, h with
  | [.one (.sl none (.recs (.ints .u8 .nil) p)), .one (.sl none (.recs (.ints .u8 .nil) q))], [] => some ⟨F.j_by p q = true, .sa (B (F.j_eq p q)), [], [Any, Any]⟩
  | _, _ => none
def c_news (F : Js) : Con := fun xs h => match xs, h with
  | [.agg [.sl none (.recs (.int .i64 (.int .i64 (.int .i64 (.int .i64 (.ints .u8 .nil))))) a_f), .sl none (.recs (.ints .u8 .nil) a_g), .val (.bool a_d), .val (.int .i64 a_s)], .agg [.sl none (.recs (.int .i64 (.int .i64 (.int .i64 (.int .i64 (.ints .u8 .nil))))) b_f), .sl none (.recs (.ints .u8 .nil) b_g), .val (.bool b_d), .val (.int .i64 b_s)]], [] => some ⟨F.j_nb ⟨a_f, a_g, a_d, a_s⟩ ⟨b_f, b_g, b_d, b_s⟩ = true, .sa (B (F.j_ne ⟨a_f, a_g, a_d, a_s⟩ ⟨b_f, b_g, b_d, b_s⟩)), [], [Any, Any]⟩
  | _, _ => none
end Go.Proofs.Ytakebkfhigadiaa.LiQ
