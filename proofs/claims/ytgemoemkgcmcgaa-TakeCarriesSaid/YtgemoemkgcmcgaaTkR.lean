/-
  a sender and a taker, and what is on its way between, over the reckoner. No condition.
-/
import Derived.Test.YtgemoemkgcmcgaaSeV
import Derived.Test.YtgemoemkgcmcgaaHaR
import Derived.Test.YtgemoemkgcmcgaaBwN
import Derived.Test.YtgemoemkgcmcgaaBwI
namespace Go.Proofs.Ytgemoemkgcmcgaa.TkR
open Go Go.Proofs.Ytgemoemkgcmcgaa.Ry Go.Proofs.Ytgemoemkgcmcgaa.SeR Go.Proofs.Ytgemoemkgcmcgaa.SeS Go.Proofs.Ytgemoemkgcmcgaa.SeU Go.Proofs.Ytgemoemkgcmcgaa.SeL Go.Proofs.Ytgemoemkgcmcgaa.SeV

abbrev c_blowN := BwN.c_blow
theorem ok_blowN : ConOk Try.prog 133 (c_blowN BwN.Bw.std) := BwN.ok_blow
abbrev c_blowI := BwI.c_blow
theorem ok_blowI : ConOk Try.prog 135 (c_blowI BwI.Bw.std) := BwI.ok_blow
abbrev c_get := HaR.c_get
theorem ok_get : ConOk Try.prog 73 (c_get HaR.Fs.std) := HaR.ok_get
abbrev c_tack := HaR.c_tack
theorem ok_tack : ConOk Try.prog 74 (c_tack HaR.Fs.std) := HaR.ok_tack
/-- A sender, a taker, both ways, and what was taken. -/
structure CR where
  sb : Int
  s : Int
  q : List E
  c : Int
  n : Int
  w : Bool
  wy : List E
  bk : List Int
  ou : List E
def gtC (d : CR) (sq : Int) (p : List Int) : CR := { d with n := (HaR.getF d.n sq).n, w := (HaR.getF d.n sq).w, ou := if (HaR.getF d.n sq).a = true then d.ou ++ [[D.ints p]] else d.ou }
def s1C (d : CR) : SD := tkS d.sb d.s d.q d.c
def s2C (d : CR) : SD := rdyS (s1C d).b (s1C d).s (s1C d).q (s1C d).c
def tkC (d : CR) : CR := ⟨(s2C d).b, (s2C d).s, (s2C d).q, (s2C d).c, (HaR.akF d.n d.w).n, (HaR.akF d.n d.w).w, d.wy ++ tkN d.sb d.s d.q d.c ++ rdyN (s1C d).b (s1C d).s (s1C d).q (s1C d).c, if (HaR.akF d.n d.w).a = true then d.bk ++ [(HaR.akF d.n d.w).k] else d.bk, d.ou⟩
def akC (d : CR) (k : Int) : CR := { d with sb := (ackS d.sb d.s d.q d.c k).b, s := (ackS d.sb d.s d.q d.c k).s, q := (ackS d.sb d.s d.q d.c k).q, c := (ackS d.sb d.s d.q d.c k).c }
def doC (k a n : Int) (d : CR) : CR :=
  if k = 1 then tkC d
  else if a = 1 then (if BwN.bwB d.wy k = true then gtC { d with wy := BwN.bwL d.wy k n } (BwN.bwE d.wy k n).x0 (BwN.bwE d.wy k n).x1 else { d with wy := BwN.bwL d.wy k n })
  else if a = 2 then (if BwI.bwB d.bk k = true then akC { d with bk := BwI.bwL d.bk k n } (BwI.bwE d.bk k n).x0 else { d with bk := BwI.bwL d.bk k n })
  else d
def okC (d : CR) : Bool := decide (d.q.length ≤ 400 ∧ d.wy.length ≤ 50000 ∧ d.bk.length ≤ 50000 ∧ d.ou.length ≤ 50000)
def ok2C (d : CR) : Bool := decide (d.q.length ≤ 400 ∧ d.wy.length ≤ 40000 ∧ d.bk.length ≤ 40000 ∧ d.ou.length ≤ 40000)
theorem tkN_len (b s : Int) (q : List E) (c : Int) : (tkN b s q c).length ≤ 16 := by
  unfold tkN
  split
  · simp
  · rename_i h
    have hm := may_ok (b := b) (s := s) (q := q) (c := c) (by cases g : maySn b s q c <;> simp_all)
    split
    · simp
    · split
      · simp
      · rw [nus_len]
        omega
theorem rdyN_len (b s : Int) (q : List E) (c : Int) : (rdyN b s q c).length ≤ 16 := by
  unfold rdyN
  split
  · simp
  · rename_i h
    have hm := may_ok (b := b) (s := s) (q := q) (c := c) (by cases g : maySn b s q c <;> simp_all)
    have hb := mb_le q
    rw [nus_len]
    omega
theorem s1_q (d : CR) : (s1C d).q.length ≤ d.q.length := by
  unfold s1C tkS zS
  repeat' split
  all_goals simp [nq_len]

structure Tk where
  k_get : CR → Int → List Int → CR
  k_tk : CR → CR
  k_do : Int → Int → Int → CR → CR
  k_ok : CR → Bool
  k_ok2 : CR → Bool
def Tk.std : Tk := ⟨gtC, tkC, doC, okC, ok2C⟩

def c_cget (F : Tk) : Con := fun xs h => match xs, h with
  | [.one (.ptr 0 0), .agg [.val (.int .i64 x_s), .sl none (.ints .u8 x_p)]], [(0, .cells 147 [.val (.int .i64 sb), .val (.int .i64 s), .sl none (.recs (.ints .u8 .nil) q), .val (.int .i64 c), .val (.int .i64 n), .val (.bool w), .sl (some (1, 157)) (.recs (.int .i64 (.ints .u8 .nil)) wy), .sl (some (2, 3)) (.ints .i64 bk), .sl (some (3, 35)) (.recs (.ints .u8 .nil) ou)]), (1, .tok), (2, .tok), (3, .tok)] => some ⟨F.k_ok ⟨sb, s, q, c, n, w, wy, bk, ou⟩ = true, .tup [], [(0, .cells 147 [.val (.int .i64 (F.k_get ⟨sb, s, q, c, n, w, wy, bk, ou⟩ x_s x_p).sb), .val (.int .i64 (F.k_get ⟨sb, s, q, c, n, w, wy, bk, ou⟩ x_s x_p).s), .sl none (.recs (.ints .u8 .nil) (F.k_get ⟨sb, s, q, c, n, w, wy, bk, ou⟩ x_s x_p).q), .val (.int .i64 (F.k_get ⟨sb, s, q, c, n, w, wy, bk, ou⟩ x_s x_p).c), .val (.int .i64 (F.k_get ⟨sb, s, q, c, n, w, wy, bk, ou⟩ x_s x_p).n), .val (.bool (F.k_get ⟨sb, s, q, c, n, w, wy, bk, ou⟩ x_s x_p).w), .sl (some (1, 157)) (.recs (.int .i64 (.ints .u8 .nil)) (F.k_get ⟨sb, s, q, c, n, w, wy, bk, ou⟩ x_s x_p).wy), .sl (some (2, 3)) (.ints .i64 (F.k_get ⟨sb, s, q, c, n, w, wy, bk, ou⟩ x_s x_p).bk), .sl (some (3, 35)) (.recs (.ints .u8 .nil) (F.k_get ⟨sb, s, q, c, n, w, wy, bk, ou⟩ x_s x_p).ou)]), (1, .tok), (2, .tok), (3, .tok)], [.one (.ptr 0 0), Any]⟩
  | _, _ => none
set_option maxHeartbeats 4000000 in
set_option maxRecDepth 100000 in
theorem x_cget (x_s : Int) (x_p : List Int) (sb : Int) (s : Int) (q : List E) (c : Int) (n : Int) (w : Bool) (wy : List E) (bk : List Int) (ou : List E) (hC : Tk.std.k_ok ⟨sb, s, q, c, n, w, wy, bk, ou⟩ = true) : Does [(73, c_get HaR.Fs.std)] Try.f134 [.one (.ptr 0 0), .agg [.val (.int .i64 x_s), .sl none (.ints .u8 x_p)]] [(0, .cells 147 [.val (.int .i64 sb), .val (.int .i64 s), .sl none (.recs (.ints .u8 .nil) q), .val (.int .i64 c), .val (.int .i64 n), .val (.bool w), .sl (some (1, 157)) (.recs (.int .i64 (.ints .u8 .nil)) wy), .sl (some (2, 3)) (.ints .i64 bk), .sl (some (3, 35)) (.recs (.ints .u8 .nil) ou)]), (1, .tok), (2, .tok), (3, .tok)] ⟨Tk.std.k_ok ⟨sb, s, q, c, n, w, wy, bk, ou⟩ = true, .tup [], [(0, .cells 147 [.val (.int .i64 (Tk.std.k_get ⟨sb, s, q, c, n, w, wy, bk, ou⟩ x_s x_p).sb), .val (.int .i64 (Tk.std.k_get ⟨sb, s, q, c, n, w, wy, bk, ou⟩ x_s x_p).s), .sl none (.recs (.ints .u8 .nil) (Tk.std.k_get ⟨sb, s, q, c, n, w, wy, bk, ou⟩ x_s x_p).q), .val (.int .i64 (Tk.std.k_get ⟨sb, s, q, c, n, w, wy, bk, ou⟩ x_s x_p).c), .val (.int .i64 (Tk.std.k_get ⟨sb, s, q, c, n, w, wy, bk, ou⟩ x_s x_p).n), .val (.bool (Tk.std.k_get ⟨sb, s, q, c, n, w, wy, bk, ou⟩ x_s x_p).w), .sl (some (1, 157)) (.recs (.int .i64 (.ints .u8 .nil)) (Tk.std.k_get ⟨sb, s, q, c, n, w, wy, bk, ou⟩ x_s x_p).wy), .sl (some (2, 3)) (.ints .i64 (Tk.std.k_get ⟨sb, s, q, c, n, w, wy, bk, ou⟩ x_s x_p).bk), .sl (some (3, 35)) (.recs (.ints .u8 .nil) (Tk.std.k_get ⟨sb, s, q, c, n, w, wy, bk, ou⟩ x_s x_p).ou)]), (1, .tok), (2, .tok), (3, .tok)], [.one (.ptr 0 0), Any]⟩ := by
  intro b gv
  have hk : q.length ≤ 400 ∧ wy.length ≤ 50000 ∧ bk.length ≤ 50000 ∧ ou.length ≤ 50000 := of_decide_eq_true hC
  have hfs := (FsOk.cons ok_get FsOk.nil rfl)
  generalize hF : Tk.std = F at hC hfs ⊢
  generalize hG0 : HaR.Fs.std = G0 at hC hfs ⊢
  generalize hG1 : SeS.Gs.std = G1 at hC hfs ⊢
  generalize hG2 : SeV.Vs.std = G2 at hC hfs ⊢
  generalize hG3 : BwN.Bw.std = G3 at hC hfs ⊢
  generalize hG4 : BwI.Bw.std = G4 at hC hfs ⊢
  generalize hA : Ar.std = A
  generalize hL : Lp _ _ _ = L
  obtain ⟨Z, zq⟩ := z_all
  refine cd_open (lp_mono hL) zq rfl ?_
  repeat' (first
    | (refine z_open zq ?_; try dsimp only)
    | refine cd_seq zq ?_ (lp_mono hL)
    | refine cd_blk zq ?_
    | refine cd_ret ?_
    | refine cd_skip ?_
    | refine cd_exit ?_
    | refine cd_loop ?_
    | refine cd_cond rfl ?_
    | refine cd_condT rfl ?_
    | refine cd_condF rfl ?_
    | (refine Cd.mk ?_; cbv)
    | (refine Ends1.mk ?_; cbv)
    | (refine Fin1.mk ?_; cbv)
    | exact trivial
    | refine And.intro ?_ ?_
    | refine orf fun _ => ?_
    | refine ort fun _ => ?_)
  all_goals
    clear hL zq Z
    try clear hfs
    subst hA hF hG0 hG1 hG2 hG3 hG4
    simp only [Tk.std, HaR.Fs.std, Ar.std] at *
    try (grind [stdCmp, gtC])
theorem ok_cget : ConOk Try.prog 134 (c_cget Tk.std) := by
  refine con_of (FsOk.cons ok_get FsOk.nil rfl) Try.func134 rfl rfl fun xs h p hp => ?_
  unfold c_cget at hp
  split at hp
  · cases hp
    exact ⟨lee_le rfl, fun hC _ => x_cget _ _ _ _ _ _ _ _ _ _ _ hC⟩
  · cases hp

def c_ctick (F : Tk) : Con := fun xs h => match xs, h with
  | [.one (.ptr 0 0)], [(0, .cells 147 [.val (.int .i64 sb), .val (.int .i64 s), .sl none (.recs (.ints .u8 .nil) q), .val (.int .i64 c), .val (.int .i64 n), .val (.bool w), .sl (some (1, 157)) (.recs (.int .i64 (.ints .u8 .nil)) wy), .sl (some (2, 3)) (.ints .i64 bk), .sl (some (3, 35)) (.recs (.ints .u8 .nil) ou)]), (1, .tok), (2, .tok), (3, .tok)] => some ⟨F.k_ok ⟨sb, s, q, c, n, w, wy, bk, ou⟩ = true, .tup [], [(0, .cells 147 [.val (.int .i64 (F.k_tk ⟨sb, s, q, c, n, w, wy, bk, ou⟩).sb), .val (.int .i64 (F.k_tk ⟨sb, s, q, c, n, w, wy, bk, ou⟩).s), .sl none (.recs (.ints .u8 .nil) (F.k_tk ⟨sb, s, q, c, n, w, wy, bk, ou⟩).q), .val (.int .i64 (F.k_tk ⟨sb, s, q, c, n, w, wy, bk, ou⟩).c), .val (.int .i64 (F.k_tk ⟨sb, s, q, c, n, w, wy, bk, ou⟩).n), .val (.bool (F.k_tk ⟨sb, s, q, c, n, w, wy, bk, ou⟩).w), .sl (some (1, 157)) (.recs (.int .i64 (.ints .u8 .nil)) (F.k_tk ⟨sb, s, q, c, n, w, wy, bk, ou⟩).wy), .sl (some (2, 3)) (.ints .i64 (F.k_tk ⟨sb, s, q, c, n, w, wy, bk, ou⟩).bk), .sl (some (3, 35)) (.recs (.ints .u8 .nil) (F.k_tk ⟨sb, s, q, c, n, w, wy, bk, ou⟩).ou)]), (1, .tok), (2, .tok), (3, .tok)], [.one (.ptr 0 0)]⟩
  | _, _ => none
set_option maxHeartbeats 4000000 in
set_option maxRecDepth 100000 in
theorem x_ctick (sb : Int) (s : Int) (q : List E) (c : Int) (n : Int) (w : Bool) (wy : List E) (bk : List Int) (ou : List E) (hC : Tk.std.k_ok ⟨sb, s, q, c, n, w, wy, bk, ou⟩ = true) : Does [(118, c_tick SeV.Vs.std), (121, c_ready SeS.Gs.std), (74, c_tack HaR.Fs.std)] Try.f132 [.one (.ptr 0 0)] [(0, .cells 147 [.val (.int .i64 sb), .val (.int .i64 s), .sl none (.recs (.ints .u8 .nil) q), .val (.int .i64 c), .val (.int .i64 n), .val (.bool w), .sl (some (1, 157)) (.recs (.int .i64 (.ints .u8 .nil)) wy), .sl (some (2, 3)) (.ints .i64 bk), .sl (some (3, 35)) (.recs (.ints .u8 .nil) ou)]), (1, .tok), (2, .tok), (3, .tok)] ⟨Tk.std.k_ok ⟨sb, s, q, c, n, w, wy, bk, ou⟩ = true, .tup [], [(0, .cells 147 [.val (.int .i64 (Tk.std.k_tk ⟨sb, s, q, c, n, w, wy, bk, ou⟩).sb), .val (.int .i64 (Tk.std.k_tk ⟨sb, s, q, c, n, w, wy, bk, ou⟩).s), .sl none (.recs (.ints .u8 .nil) (Tk.std.k_tk ⟨sb, s, q, c, n, w, wy, bk, ou⟩).q), .val (.int .i64 (Tk.std.k_tk ⟨sb, s, q, c, n, w, wy, bk, ou⟩).c), .val (.int .i64 (Tk.std.k_tk ⟨sb, s, q, c, n, w, wy, bk, ou⟩).n), .val (.bool (Tk.std.k_tk ⟨sb, s, q, c, n, w, wy, bk, ou⟩).w), .sl (some (1, 157)) (.recs (.int .i64 (.ints .u8 .nil)) (Tk.std.k_tk ⟨sb, s, q, c, n, w, wy, bk, ou⟩).wy), .sl (some (2, 3)) (.ints .i64 (Tk.std.k_tk ⟨sb, s, q, c, n, w, wy, bk, ou⟩).bk), .sl (some (3, 35)) (.recs (.ints .u8 .nil) (Tk.std.k_tk ⟨sb, s, q, c, n, w, wy, bk, ou⟩).ou)]), (1, .tok), (2, .tok), (3, .tok)], [.one (.ptr 0 0)]⟩ := by
  intro b gv
  have hk : q.length ≤ 400 ∧ wy.length ≤ 50000 ∧ bk.length ≤ 50000 ∧ ou.length ≤ 50000 := of_decide_eq_true hC
  have h1 := tkN_len sb s q c
  have h2 := s1_q ⟨sb, s, q, c, n, w, wy, bk, ou⟩
  have h3 := rdyN_len (s1C ⟨sb, s, q, c, n, w, wy, bk, ou⟩).b (s1C ⟨sb, s, q, c, n, w, wy, bk, ou⟩).s (s1C ⟨sb, s, q, c, n, w, wy, bk, ou⟩).q (s1C ⟨sb, s, q, c, n, w, wy, bk, ou⟩).c
  have hfs := (FsOk.cons ok_tick (FsOk.cons ok_ready (FsOk.cons ok_tack FsOk.nil rfl) rfl) rfl)
  generalize hF : Tk.std = F at hC hfs ⊢
  generalize hG0 : HaR.Fs.std = G0 at hC hfs ⊢
  generalize hG1 : SeS.Gs.std = G1 at hC hfs ⊢
  generalize hG2 : SeV.Vs.std = G2 at hC hfs ⊢
  generalize hG3 : BwN.Bw.std = G3 at hC hfs ⊢
  generalize hG4 : BwI.Bw.std = G4 at hC hfs ⊢
  generalize hA : Ar.std = A
  generalize hL : Lp _ _ _ = L
  obtain ⟨Z, zq⟩ := z_all
  refine cd_open (lp_mono hL) zq rfl ?_
  repeat' (first
    | (refine z_open zq ?_; try dsimp only)
    | refine cd_seq zq ?_ (lp_mono hL)
    | refine cd_blk zq ?_
    | refine cd_ret ?_
    | refine cd_skip ?_
    | refine cd_exit ?_
    | refine cd_loop ?_
    | refine cd_cond rfl ?_
    | refine cd_condT rfl ?_
    | refine cd_condF rfl ?_
    | (refine Cd.mk ?_; cbv)
    | (refine Ends1.mk ?_; cbv)
    | (refine Fin1.mk ?_; cbv)
    | exact trivial
    | refine And.intro ?_ ?_
    | refine orf fun _ => ?_
    | refine ort fun _ => ?_)
  all_goals
    clear hL zq Z
    try clear hfs
    subst hA hF hG0 hG1 hG2 hG3 hG4
    simp only [Tk.std, HaR.Fs.std, SeS.Gs.std, SeV.Vs.std, Ar.std] at *
    try (grind [stdCmp, tkC, s1C, s2C])
theorem ok_ctick : ConOk Try.prog 132 (c_ctick Tk.std) := by
  refine con_of (FsOk.cons ok_tick (FsOk.cons ok_ready (FsOk.cons ok_tack FsOk.nil rfl) rfl) rfl) Try.func132 rfl rfl fun xs h p hp => ?_
  unfold c_ctick at hp
  split at hp
  · cases hp
    exact ⟨lee_le rfl, fun hC _ => x_ctick _ _ _ _ _ _ _ _ _ hC⟩
  · cases hp

def c_cdo (F : Tk) : Con := fun xs h => match xs, h with
  | [.one (.ptr 0 0), .agg [.val (.int .i64 k), .val (.int .i64 a), .val (.int .i64 _), .val (.int .i64 i), .val (.int .i64 _)]], [(0, .cells 147 [.val (.int .i64 sb), .val (.int .i64 s), .sl none (.recs (.ints .u8 .nil) q), .val (.int .i64 c), .val (.int .i64 n), .val (.bool w), .sl (some (1, 157)) (.recs (.int .i64 (.ints .u8 .nil)) wy), .sl (some (2, 3)) (.ints .i64 bk), .sl (some (3, 35)) (.recs (.ints .u8 .nil) ou)]), (1, .tok), (2, .tok), (3, .tok)] => some ⟨F.k_ok2 ⟨sb, s, q, c, n, w, wy, bk, ou⟩ = true, .tup [], [(0, .cells 147 [.val (.int .i64 (F.k_do k a i ⟨sb, s, q, c, n, w, wy, bk, ou⟩).sb), .val (.int .i64 (F.k_do k a i ⟨sb, s, q, c, n, w, wy, bk, ou⟩).s), .sl none (.recs (.ints .u8 .nil) (F.k_do k a i ⟨sb, s, q, c, n, w, wy, bk, ou⟩).q), .val (.int .i64 (F.k_do k a i ⟨sb, s, q, c, n, w, wy, bk, ou⟩).c), .val (.int .i64 (F.k_do k a i ⟨sb, s, q, c, n, w, wy, bk, ou⟩).n), .val (.bool (F.k_do k a i ⟨sb, s, q, c, n, w, wy, bk, ou⟩).w), .sl (some (1, 157)) (.recs (.int .i64 (.ints .u8 .nil)) (F.k_do k a i ⟨sb, s, q, c, n, w, wy, bk, ou⟩).wy), .sl (some (2, 3)) (.ints .i64 (F.k_do k a i ⟨sb, s, q, c, n, w, wy, bk, ou⟩).bk), .sl (some (3, 35)) (.recs (.ints .u8 .nil) (F.k_do k a i ⟨sb, s, q, c, n, w, wy, bk, ou⟩).ou)]), (1, .tok), (2, .tok), (3, .tok)], [.one (.ptr 0 0), Any]⟩
  | _, _ => none
set_option maxHeartbeats 4000000 in
set_option maxRecDepth 100000 in
theorem x_cdo (k : Int) (a : Int) (ob : Int) (i : Int) (ow : Int) (sb : Int) (s : Int) (q : List E) (c : Int) (n : Int) (w : Bool) (wy : List E) (bk : List Int) (ou : List E) (hC : Tk.std.k_ok2 ⟨sb, s, q, c, n, w, wy, bk, ou⟩ = true) : Does [(132, c_ctick Tk.std), (133, c_blowN BwN.Bw.std), (134, c_cget Tk.std), (135, c_blowI BwI.Bw.std), (136, c_ack SeS.Gs.std)] Try.f72 [.one (.ptr 0 0), .agg [.val (.int .i64 k), .val (.int .i64 a), .val (.int .i64 ob), .val (.int .i64 i), .val (.int .i64 ow)]] [(0, .cells 147 [.val (.int .i64 sb), .val (.int .i64 s), .sl none (.recs (.ints .u8 .nil) q), .val (.int .i64 c), .val (.int .i64 n), .val (.bool w), .sl (some (1, 157)) (.recs (.int .i64 (.ints .u8 .nil)) wy), .sl (some (2, 3)) (.ints .i64 bk), .sl (some (3, 35)) (.recs (.ints .u8 .nil) ou)]), (1, .tok), (2, .tok), (3, .tok)] ⟨Tk.std.k_ok2 ⟨sb, s, q, c, n, w, wy, bk, ou⟩ = true, .tup [], [(0, .cells 147 [.val (.int .i64 (Tk.std.k_do k a i ⟨sb, s, q, c, n, w, wy, bk, ou⟩).sb), .val (.int .i64 (Tk.std.k_do k a i ⟨sb, s, q, c, n, w, wy, bk, ou⟩).s), .sl none (.recs (.ints .u8 .nil) (Tk.std.k_do k a i ⟨sb, s, q, c, n, w, wy, bk, ou⟩).q), .val (.int .i64 (Tk.std.k_do k a i ⟨sb, s, q, c, n, w, wy, bk, ou⟩).c), .val (.int .i64 (Tk.std.k_do k a i ⟨sb, s, q, c, n, w, wy, bk, ou⟩).n), .val (.bool (Tk.std.k_do k a i ⟨sb, s, q, c, n, w, wy, bk, ou⟩).w), .sl (some (1, 157)) (.recs (.int .i64 (.ints .u8 .nil)) (Tk.std.k_do k a i ⟨sb, s, q, c, n, w, wy, bk, ou⟩).wy), .sl (some (2, 3)) (.ints .i64 (Tk.std.k_do k a i ⟨sb, s, q, c, n, w, wy, bk, ou⟩).bk), .sl (some (3, 35)) (.recs (.ints .u8 .nil) (Tk.std.k_do k a i ⟨sb, s, q, c, n, w, wy, bk, ou⟩).ou)]), (1, .tok), (2, .tok), (3, .tok)], [.one (.ptr 0 0), Any]⟩ := by
  intro b gv
  have hk : q.length ≤ 400 ∧ wy.length ≤ 40000 ∧ bk.length ≤ 40000 ∧ ou.length ≤ 40000 := of_decide_eq_true hC
  have h1 := BwN.bl_len wy k i
  have h2 := BwI.bl_len bk k i
  have hfs := (FsOk.cons ok_ctick (FsOk.cons ok_blowN (FsOk.cons ok_cget (FsOk.cons ok_blowI (FsOk.cons ok_ack FsOk.nil rfl) rfl) rfl) rfl) rfl)
  generalize hF : Tk.std = F at hC hfs ⊢
  generalize hG0 : HaR.Fs.std = G0 at hC hfs ⊢
  generalize hG1 : SeS.Gs.std = G1 at hC hfs ⊢
  generalize hG2 : SeV.Vs.std = G2 at hC hfs ⊢
  generalize hG3 : BwN.Bw.std = G3 at hC hfs ⊢
  generalize hG4 : BwI.Bw.std = G4 at hC hfs ⊢
  generalize hA : Ar.std = A
  generalize hL : Lp _ _ _ = L
  obtain ⟨Z, zq⟩ := z_all
  refine cd_open (lp_mono hL) zq rfl ?_
  repeat' (first
    | (refine z_open zq ?_; try dsimp only)
    | refine cd_seq zq ?_ (lp_mono hL)
    | refine cd_blk zq ?_
    | refine cd_ret ?_
    | refine cd_skip ?_
    | refine cd_exit ?_
    | refine cd_loop ?_
    | refine cd_cond rfl ?_
    | refine cd_condT rfl ?_
    | refine cd_condF rfl ?_
    | (refine Cd.mk ?_; cbv)
    | (refine Ends1.mk ?_; cbv)
    | (refine Fin1.mk ?_; cbv)
    | exact trivial
    | refine And.intro ?_ ?_
    | refine orf fun _ => ?_
    | refine ort fun _ => ?_)
  all_goals
    clear hL zq Z
    try clear hfs
    subst hA hF hG0 hG1 hG2 hG3 hG4
    simp only [Tk.std, SeS.Gs.std, BwN.Bw.std, BwI.Bw.std, Ar.std] at *
    try (grind [stdCmp, doC, akC, okC, ok2C])
theorem ok_cdo : ConOk Try.prog 72 (c_cdo Tk.std) := by
  refine con_of (FsOk.cons ok_ctick (FsOk.cons ok_blowN (FsOk.cons ok_cget (FsOk.cons ok_blowI (FsOk.cons ok_ack FsOk.nil rfl) rfl) rfl) rfl) rfl) Try.func72 rfl rfl fun xs h p hp => ?_
  unfold c_cdo at hp
  split at hp
  · cases hp
    exact ⟨lee_le rfl, fun hC _ => x_cdo _ _ _ _ _ _ _ _ _ _ _ _ _ _ hC⟩
  · cases hp
end Go.Proofs.Ytgemoemkgcmcgaa.TkR
