
/-
  lines: what the code makes is what the document says. No condition.
-/
import Derived.Test.YtakebkfhigadiaaLiQ
import Derived.Test.YtakebkfhigadiaaRyM
namespace Go.Proofs.Ytakebkfhigadiaa.LiS
open Go Go.Proofs.Ytakebkfhigadiaa.Ry Go.Proofs.Ytakebkfhigadiaa.HaR Go.Proofs.Ytakebkfhigadiaa.SeR Go.Proofs.Ytakebkfhigadiaa.SeS Go.Proofs.Ytakebkfhigadiaa.SeT Go.Proofs.Ytakebkfhigadiaa.SeU Go.Proofs.Ytakebkfhigadiaa.SeL Go.Proofs.Ytakebkfhigadiaa.SeV Go.Proofs.Ytakebkfhigadiaa.LiR Go.Proofs.Ytakebkfhigadiaa.LiQ

open Go.Proofs.Ytakebkfhigadiaa.FrR (mayF chF isC smF)
def badS (x : LN) (y : NW) (e : Int) : Bool := decide (e = 1) && smL x zL && nwE y zN
def badB (x : LN) (y : NW) : Bool := byS x.q && nwB y
theorem pq_nil {q : List E} (h : pq q = []) : q = [] := by
  cases q with
  | nil => rfl
  | cons a l => cases h
theorem shut {x : LN} (h : mayL x = true) (ho : opL x = false) : x = bgL x := by
  have h4 := (may_L h).2.2.2
  rcases h4 with h4 | h4
  · exact absurd h4 (by rw [ho]; decide)
  · obtain ⟨l, c, p, o, b, s, q, t, n, w⟩ := x
    unfold smL at h4
    rw [Bool.and_eq_true, Bool.and_eq_true] at h4
    obtain ⟨h5, h6⟩ := of_decide_eq_true h4.1.2
    obtain ⟨h7, h8, h9, h10⟩ := of_decide_eq_true h4.2
    simp only [bgL] at h5 h6 h7 h8 h9 h10
    have := pq_nil (q := q) h10
    simp only [bgL]
    subst h5 h6 h7 h8 h9 this
    rfl
theorem by_nil : byS [] = true := rfl
theorem nw_nil : nwB zN = true := rfl
theorem nw_self (y : NW) : nwE y y = true := decide_eq_true ⟨rfl, rfl, rfl, rfl⟩
/-- What two answers to one act have in common. -/
structure Al (a b : LD) : Prop where
  e : a.e = 0
  s : smL a.x b.x = true
  n : nwE a.y b.y = true
  b1 : byS a.x.q = true
  b2 : byS b.x.q = true
  n1 : nwB a.y = true
  n2 : nwB b.y = true
theorem sm_of {x y : LN} (h1 : x.l = y.l) (h2 : x.c = y.c) (h3 : x.p = y.p) (h4 : x.o = y.o) (h5 : x.n = y.n) (h6 : x.w = y.w) (h7 : smS x.b x.s x.q x.t y.b y.s y.q y.t = true) : smL x y = true := by
  unfold smL
  rw [h7, decide_eq_true ⟨h1, h2, h3, h4⟩, decide_eq_true ⟨h5, h6⟩]
  rfl
theorem sm_refl (x : LN) : smL x x = true := sm_of rfl rfl rfl rfl rfl rfl (decide_eq_true ⟨rfl, rfl, rfl, rfl⟩)
theorem by_df {c n : Int} {l : List E} (h : byN l = true) : byF (dfL c n l) = true := by
  have h := of_decide_eq_true h
  refine decide_eq_true ⟨by rw [df_len]; exact h.1, fun y hy x hx => ?_⟩
  obtain ⟨z, hz, rfl⟩ := List.mem_map.1 hy
  exact h.2 z hz x hx
theorem by_F1 {k s q a : Int} {p : List Int} (h : ∀ x ∈ p, 0 ≤ x ∧ x ≤ 255) : byF [[D.int k, D.int s, D.int q, D.int a, D.ints p]] = true := by
  refine decide_eq_true ⟨by simp, fun y hy x hx => ?_⟩
  rw [List.mem_singleton] at hy
  subst hy
  exact h x hx
theorem by_F {l m : List E} (h1 : byF l = true) (h2 : byF m = true) (hl : l.length + m.length ≤ 100000) : byF (l ++ m) = true := by
  have h1 := of_decide_eq_true h1
  have h2 := of_decide_eq_true h2
  refine decide_eq_true ⟨by rw [List.length_append]; exact hl, fun y hy x hx => ?_⟩
  rcases List.mem_append.1 hy with hy | hy
  · exact h1.2 y hy x hx
  · exact h2.2 y hy x hx
theorem by_one {p : List Int} (h : ∀ x ∈ p, 0 ≤ x ∧ x ≤ 255) : byS [[D.ints p]] = true := by
  refine decide_eq_true ⟨by simp, fun y hy x hx => ?_⟩
  rw [List.mem_singleton] at hy
  subst hy
  exact h x hx
theorem hear_bad {x : LN} {k s q a : Int} {p : List Int} {n : Int} (h : ¬ (mayL x = true ∧ mayF k s q a p = true ∧ limitB n = true)) : hearL x k s q a p n = ⟨zL, zN, 1⟩ := by
  unfold hearL
  rw [if_neg h]
theorem ackd_same {x : LN} {k : Int} (hb : byS x.q = true) (hm : maySn x.b x.s x.q x.t = true) : smL (ackdL x k) (rackL x k) = true ∧ byS (ackdL x k).q = true ∧ byS (rackL x k).q = true := by
  have h := (ack_same (b := x.b) (s := x.s) (q := x.q) (c := x.t) (k := k) hb).1 hm
  exact ⟨sm_of rfl rfl rfl rfl rfl rfl h.2.1, h.2.2.1, h.2.2.2⟩
theorem hear_same {x : LN} {k s q a : Int} {p : List Int} {n : Int} (hb : byS x.q = true) (hp : ∀ y ∈ p, 0 ≤ y ∧ y ≤ 255) (hm : mayL x = true) (hf : mayF k s q a p = true) (hl : limitB n = true) : Al (hearL x k s q a p n) (rhearL x k s q a p n) := by
  have h4 := may_L hm
  have hcp : smL (cpL x) x = true := sm_of rfl rfl rfl rfl rfl rfl (sm_same (pq_nq _))
  unfold hearL rhearL
  rw [if_pos ⟨hm, hf, hl⟩]
  split
  · unfold hloL rhloL
    have e : helF (cpL x).l (cpL x).c (cpL x).p (cpL x).o s n = helH x.l x.c x.p x.o s n := by
      unfold helF
      exact if_pos ⟨h4.1, hl⟩
    rw [e]
    generalize helH x.l x.c x.p x.o s n = r
    dsimp only
    have hbf : nwB ⟨if r.a = true then [[.int 2, .int s, .int 0, .int 0, .ints []]] else [], [], r.b, 0⟩ = true := by
      simp only [nwB, Bool.and_eq_true]
      refine ⟨?_, rfl⟩
      split
      · exact by_F1 (fun _ h => by cases h)
      · rfl
    by_cases g : r.b = true
    · simp only [if_pos g]
      exact ⟨rfl, sm_refl _, nw_self _, rfl, rfl, hbf, hbf⟩
    · simp only [if_neg g]
      exact ⟨rfl, sm_of rfl rfl rfl rfl rfl rfl (sm_same (pq_nq _)), nw_self _, by_nq hb, hb, hbf, hbf⟩
  split
  · unfold wlcL rwlcL
    have e : welF (cpL x).l (cpL x).c (cpL x).p (cpL x).o s = welH x.l x.c x.p x.o s := by
      unfold welF
      exact if_pos h4.1
    rw [e]
    generalize welH x.l x.c x.p x.o s = r
    dsimp only
    split
    · exact ⟨rfl, sm_refl _, nw_self _, rfl, rfl, rfl, rfl⟩
    · exact ⟨rfl, hcp, nw_self _, by_nq hb, hb, rfl, rfl⟩
  by_cases g : opL x = false ∨ s ≠ x.c
  · rw [if_pos g, if_pos (g.imp id fun w v => w v.symm)]
    exact ⟨rfl, hcp, nw_self _, by_nq hb, hb, rfl, rfl⟩
  · have g2 : ¬ (opL x = false ∨ x.c ≠ s) := fun w => g (w.imp id fun w v => w v.symm)
    rw [if_neg g, if_neg g2]
    split
    · unfold datL rdatL
      have e : getF x.n q = getH x.n q := by
        unfold getF
        exact if_pos h4.2.2.1
      rw [e]
      generalize getH x.n q = r
      dsimp only
      have ha := ackd_same (x := ⟨x.l, x.c, x.p, x.o, x.b, x.s, x.q, x.t, r.n, r.w⟩) (k := a) hb h4.2.1
      have hbg : nwB ⟨[], if r.a = true then [[.ints p]] else [], false, 0⟩ = true := by
        simp only [nwB, Bool.and_eq_true]
        refine ⟨rfl, ?_⟩
        split
        · exact by_one hp
        · rfl
      exact ⟨rfl, ha.1, nw_self _, ha.2.1, ha.2.2, hbg, hbg⟩
    · have ha := ackd_same (k := a) hb h4.2.1
      exact ⟨rfl, ha.1, nw_self _, ha.2.1, ha.2.2, rfl, rfl⟩
theorem tik_bad {x : LN} {n : Int} (h : ¬ (mayL x = true ∧ limitB n = true)) : tikL x n = ⟨zL, zN, 1⟩ := by
  unfold tikL
  rw [if_neg h]
theorem op_ne {x : LN} (h : opL x = true) : x.c ≠ 0 := by
  unfold opL at h
  simpa using h
theorem op_p {x : LN} (h : mayL x = true) (ho : opL x = true) : x.p = 0 := by
  have h1 := (may_L h).1
  have h2 := op_ne ho
  simp only [mayH, openB, openingB, overB, Bool.and_eq_true, Bool.or_eq_true, decide_eq_true_eq, beq_iff_eq] at h1
  omega
theorem shut_p {x : LN} (h : mayL x = true) (ho : opL x = false) : (x.o = true → ¬ 0 < x.p) ∧ (x.o = false → 0 < x.p) := by
  have h1 := (may_L h).1
  have h2 : x.c = 0 := by
    unfold opL at ho
    simpa using ho
  obtain ⟨l, c, p, o, b, s, q, t, n, w⟩ := x
  simp only at h1 h2 ⊢
  cases o <;> simp_all [mayH, openB, openingB, overB] <;> omega
theorem tik_same {x : LN} {n : Int} (hb : byS x.q = true) (hm : mayL x = true) (hl : limitB n = true) : Al (tikL x n) (rtikL x) := by
  have h4 := may_L hm
  have h2 := two_tick ⟨h4.2.1, h4.2.1, rfl, rfl, rfl, rfl, hb, hb⟩
  unfold tikL rtikL
  rw [if_pos ⟨hm, hl⟩]
  by_cases g : opL x = true
  · rw [if_pos g, if_neg (by rw [op_p hm g]; decide)]
    have hd : nwB ⟨dfL x.c x.n (tkN x.b x.s x.q x.t), [], false, 0⟩ = true := by
      simp only [nwB, Bool.and_eq_true]
      exact ⟨by_df h2.2.1, rfl⟩
    exact ⟨rfl, sm_of rfl rfl rfl rfl rfl rfl h2.2.2.2.2.1, nw_self _, h2.2.2.2.2.2.y, h2.2.2.2.2.2.y', hd, hd⟩
  · have g : opL x = false := by simpa using g
    rw [if_neg (by rw [g]; decide)]
    have hs := shut_p hm g
    have hx := shut hm g
    cases ho : x.o with
    | false =>
      rw [if_pos (hs.2 ho)]
      have hd : nwB ⟨[[.int 1, .int x.p, .int 0, .int 0, .ints []]], [], false, 0⟩ = true := by
        simp only [nwB, Bool.and_eq_true]
        exact ⟨by_F1 (fun _ h => by cases h), rfl⟩
      exact ⟨rfl, hx ▸ sm_refl _, nw_self _, rfl, hb, hd, hd⟩
    | true =>
      rw [if_neg (hs.1 ho), hx]
      exact ⟨rfl, sm_refl _, nw_self _, rfl, rfl, rfl, rfl⟩
theorem flu_bad {x : LN} (h : ¬ mayL x = true) : fluL x = ⟨zL, zN, 1⟩ := by
  unfold fluL
  rw [if_neg h]
theorem flu_same {x : LN} (hb : byS x.q = true) (hm : mayL x = true) : Al (fluL x) (rfluL x) := by
  have h4 := may_L hm
  have h2 := two_ready h4.2.1 hb
  have hN : rdyN x.b x.s x.q x.t = nuS x.b x.q x.s (mbS x.q) := by
    unfold rdyN
    rw [if_neg (by rw [h4.2.1]; decide)]
  unfold fluL rfluL
  rw [if_pos hm]
  by_cases g : opL x = true
  · rw [if_pos g, hN]
    have hl := rd_len x.b x.s x.q x.t
    rw [hN] at hl h2
    have hd : nwB ⟨if x.w = true then dfL x.c x.n (nuS x.b x.q x.s (mbS x.q)) ++ [[.int 4, .int x.c, .int 0, .int x.n, .ints []]] else dfL x.c x.n (nuS x.b x.q x.s (mbS x.q)), [], false, 0⟩ = true := by
      simp only [nwB, Bool.and_eq_true]
      refine ⟨?_, rfl⟩
      split
      · refine by_F (by_df h2.2.2.1) (by_F1 (fun _ h => by cases h)) ?_
        rw [df_len]
        simp only [List.length_singleton]
        omega
      · exact by_df h2.2.2.1
    exact ⟨rfl, sm_of rfl rfl rfl rfl rfl rfl h2.2.2.2.2.2.1, nw_self _, h2.2.2.2.2.2.2.y, h2.2.2.2.2.2.2.y', hd, hd⟩
  · have g : opL x = false := by simpa using g
    rw [if_neg (by rw [g]; decide), shut hm g]
    exact ⟨rfl, sm_refl _, nw_self _, rfl, rfl, rfl, rfl⟩
theorem clo_bad {x : LN} {n : Int} (h : ¬ (mayL x = true ∧ limitB n = true)) : cloL x n = ⟨zL, zN, 1⟩ := by
  unfold cloL
  rw [if_neg h]
theorem clo_same {x : LN} {n : Int} (hb : byS x.q = true) (hm : mayL x = true) (hl : limitB n = true) : Al (cloL x n) (rcloL x n) := by
  have h4 := may_L hm
  unfold cloL rcloL
  rw [if_pos ⟨hm, hl⟩]
  by_cases g : opL x = true
  · rw [if_pos g, if_neg (op_ne g)]
    have e : closeF x.l x.c x.p x.o n = closeH x.l x.c x.p x.o n := by
      unfold closeF
      exact if_pos ⟨h4.1, hl⟩
    rw [e]
    exact ⟨rfl, sm_refl _, nw_self _, rfl, rfl, rfl, rfl⟩
  · have g : opL x = false := by simpa using g
    have h0 : x.c = 0 := by
      unfold opL at g
      simpa using g
    rw [if_neg (by rw [g]; decide), if_pos h0]
    exact ⟨rfl, (shut hm g) ▸ sm_refl _, nw_self _, rfl, hb, rfl, rfl⟩
theorem push_bad {x : LN} {p : List Int} {n : Int} (h : ¬ (mayL x = true ∧ limitB n = true)) : pushL x p n = ⟨zL, zN, 1⟩ := by
  unfold pushL
  rw [if_neg h]
/-- A payload more: alike, and by the same error. -/
theorem push_alike {x : LN} {p : List Int} {n : Int} (hlq : x.q.length ≤ 300) (hb : byS x.q = true) (hp : ∀ y ∈ p, 0 ≤ y ∧ y ≤ 255) (hm : mayL x = true) (hl : limitB n = true) :
    (pushL x p n).e = (rpushL x p n).e ∧ smL (pushL x p n).x (rpushL x p n).x = true ∧ byS (pushL x p n).x.q = true ∧ byS (rpushL x p n).x.q = true := by
  have h := push_same (b := x.b) (s := x.s) (q := x.q) (c := x.t) (p := p) (n := n) hlq hb hp
  unfold pushL rpushL
  rw [if_pos ⟨hm, hl⟩]
  by_cases g : opL x = true
  · rw [if_pos g, if_pos g, h.1]
    split
    · exact ⟨rfl, sm_of rfl rfl rfl rfl rfl rfl h.2.1, h.2.2.1, h.2.2.2⟩
    · exact ⟨rfl, sm_refl _, rfl, rfl⟩
  · rw [if_neg g, if_neg g]
    exact ⟨rfl, sm_refl _, rfl, rfl⟩
theorem new_ok {n : Int} : (limitB n = true → (newL n).e = 0 ∧ (newL n).x = rnewL n ∧ byS (newL n).x.q = true ∧ byS (rnewL n).q = true) ∧ (limitB n = false → newL n = ⟨zL, zN, 1⟩) := by
  refine ⟨fun h => ?_, fun h => ?_⟩
  · have e : newF 0 n = newH 0 n := by
      unfold newF
      exact if_pos ⟨Int.le_refl 0, by decide, h⟩
    have e0 : (newH 0 n).e = 0 := by
      unfold newH
      split <;> rfl
    unfold newL rnewL
    rw [e]
    dsimp only
    rw [if_pos e0]
    exact ⟨rfl, rfl, rfl, rfl⟩
  · have e : newF 0 n = ⟨0, 0, 0, false, 1⟩ := by
      unfold newF
      exact if_neg fun w => by rw [h] at w; exact absurd w.2.2 (by decide)
    unfold newL
    rw [e]
    rfl
theorem bad_is : badS zL zN 1 = true := rfl
theorem ch_isL (x : LN) : (chL x == 0) = mayL x := by
  unfold chL
  cases mayL x <;> rfl
theorem aw1 : hearL ⟨3, 3, 0, false, 0, 0, [], 0, 0, false⟩ 3 3 0 0 [120] 9 = ⟨⟨3, 3, 0, false, 0, 0, [], 0, 1, true⟩, ⟨[], [[.ints [120]]], false, 0⟩, 0⟩ := by rfl
theorem aw2 : hearL ⟨3, 3, 0, false, 0, 0, [], 0, 0, false⟩ 3 2 0 0 [120] 9 = ⟨⟨3, 3, 0, false, 0, 0, [], 0, 0, false⟩, ⟨[], [], false, 0⟩, 0⟩ := by rfl

structure Is where
  i_bad : LN → NW → Int → Bool
  i_badB : LN → NW → Bool
  i_k : Ks
def Is.std : Is := ⟨badS, badB, Ks.std⟩

def c_bad (F : Is) : Con := fun xs h => match xs, h with
  | [.agg [.val (.int .i64 v_l), .val (.int .i64 v_c), .val (.int .i64 v_p), .val (.bool v_o), .val (.int .i64 v_b), .val (.int .i64 v_s), .sl none (.recs (.ints .u8 .nil) v_q), .val (.int .i64 v_t), .val (.int .i64 v_n), .val (.bool v_w)], .agg [.sl none (.recs (.int .i64 (.int .i64 (.int .i64 (.int .i64 (.ints .u8 .nil))))) a_f), .sl none (.recs (.ints .u8 .nil) a_g), .val (.bool a_d), .val (.int .i64 a_s)], .one (.val (.int .i64 e))], [] => some ⟨F.i_badB ⟨v_l, v_c, v_p, v_o, v_b, v_s, v_q, v_t, v_n, v_w⟩ ⟨a_f, a_g, a_d, a_s⟩ = true, .sa (B (F.i_bad ⟨v_l, v_c, v_p, v_o, v_b, v_s, v_q, v_t, v_n, v_w⟩ ⟨a_f, a_g, a_d, a_s⟩ e)), [], [Any, Any, Any]⟩
  | _, _ => none
def c_awake (_ : Is) : Con := fun xs h => match xs, h with
  | [], [] => some ⟨True, .sa (B true), [], []⟩
  | _, _ => none
set_option maxHeartbeats 1000000 in
set_option maxRecDepth 100000 in
theorem x_awake  : Does [(28, dnil [[none, none, none, none, none, none, some (.recs (.ints .u8 .nil) []), none, none, none], [none, none, none, none, some (.ints .u8 [])], [none]] (c_lhear Ks.std))] Try.f14 [] [] ⟨True, .sa (B true), [], []⟩ := by
  intro b gv
  have hfs := (FsOk.cons (dnil_ok [[none, none, none, none, none, none, some (.recs (.ints .u8 .nil) []), none, none, none], [none, none, none, none, some (.ints .u8 [])], [none]] ok_lhear) FsOk.nil rfl)
  generalize hF : Is.std = F at hfs ⊢
  generalize hG0 : Ks.std = G0 at hfs ⊢
  generalize hA : Ar.std = A
  generalize hL : Lp _ _ _ = L
  obtain ⟨Z, zq⟩ := z_all
  refine cd_open (lp_mono hL) zq rfl ?_
  repeat' (first
    | (refine z_open zq ?_; try dsimp only)
    | refine cd_seq zq ?_ (lp_mono hL)
    | refine cd_blk zq ?_
    | refine cd_ret ?_
    | refine cd_skip ?_
    | refine cd_exit ?_
    | refine cd_loop ?_
    | refine cd_cond rfl ?_
    | refine cd_condT rfl ?_
    | refine cd_condF rfl ?_
    | (refine Cd.mk ?_; cbv)
    | (refine Ends1.mk ?_; cbv)
    | (refine Fin1.mk ?_; cbv)
    | exact trivial
    | refine And.intro ?_ ?_
    | refine orf fun _ => ?_
    | refine ort fun _ => ?_)
  all_goals
    clear hL zq Z hfs
    subst hF hA hG0
    simp only [Ks.std, Ar.std, aw1, aw2] at *
    try (grind [stdCmp, rl, lbB, by_nil])
theorem ok_awake : ConOk Try.prog 14 (c_awake Is.std) := by
  refine con_of (FsOk.cons (dnil_ok [[none, none, none, none, none, none, some (.recs (.ints .u8 .nil) []), none, none, none], [none, none, none, none, some (.ints .u8 [])], [none]] ok_lhear) FsOk.nil rfl) Try.func14 rfl rfl fun xs h p hp => ?_
  unfold c_awake at hp
  split at hp
  · cases hp
    exact ⟨lee_le rfl, fun _ _ => x_awake ⟩
  · cases hp
end Go.Proofs.Ytakebkfhigadiaa.LiS
