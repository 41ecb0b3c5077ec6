
/-
  senders: ticks, and what is ready. No condition.
-/
import Derived.Test.YtakebkfhigadiaaSeL
namespace Go.Proofs.Ytakebkfhigadiaa.SeV
open Go Go.Proofs.Ytakebkfhigadiaa.Ry Go.Proofs.Ytakebkfhigadiaa.SeR Go.Proofs.Ytakebkfhigadiaa.SeS Go.Proofs.Ytakebkfhigadiaa.SeT Go.Proofs.Ytakebkfhigadiaa.SeU Go.Proofs.Ytakebkfhigadiaa.SeL

def tkS (b s : Int) (q : List E) (c : Int) : SD := if maySn b s q c = false then zS 1 else if s = 0 then ⟨b, s, nq q, c, 0⟩ else if 0 < c - 1 then ⟨b, s, nq q, c - 1, 0⟩ else ⟨b, s, nq q, 4, 0⟩
def rtkS (b s : Int) (q : List E) (c : Int) : SD := if s = 0 then ⟨b, s, q, c, 0⟩ else if 0 < c - 1 then ⟨b, s, q, c - 1, 0⟩ else ⟨b, s, q, 4, 0⟩
def tkN (b s : Int) (q : List E) (c : Int) : List E := if maySn b s q c = false then [] else if s = 0 then [] else if 0 < c - 1 then [] else nuS b q 0 s
def rrdS (b s : Int) (q : List E) (c : Int) : SD := if s < mbS q then ⟨b, mbS q, q, 4, 0⟩ else ⟨b, s, q, c, 0⟩
structure XR where
  s : Int
  c : Int
  o : List E
def rrQ (b s : Int) (q : List E) (c : Int) (y : XR) : Prop := s ≤ y.s ∧ y.s ≤ mbS q ∧ y.o = nuN b q s (y.s - s).toNat ∧ y.c = (if y.s = s then c else 4)
def rrM (y : XR) : Nat := (16 - y.s).toNat
def rrR (st : St) : XR := ⟨valI (cellC st 1 1), valI (cellC st 1 3), slotR st 4⟩
theorem rr_zero (b s : Int) (q : List E) (c : Int) (hm : maySn b s q c = true) : rrQ b s q c ⟨s, c, []⟩ := by
  have hm := may_ok hm
  refine ⟨Int.le_refl _, ?_, by simp [nuN], by simp⟩
  unfold mbS
  simp only
  split <;> omega
theorem rr_step (b s : Int) (q : List E) (c : Int) (hm : maySn b s q c = true) (x d : Int) (o : List E) (hq : rrQ b s q c ⟨x, d, o⟩) (h1 : x < 16) (h2 : x < q.length) : 0 ≤ x ∧ stdBin .add .i64 b x = b + x ∧ stdBin .add .i64 x 1 = x + 1 ∧ o.length ≤ 100000 ∧ rrQ b s q c ⟨x + 1, 4, o ++ [[D.int (b + x), D.ints (rl (q.getD x.toNat []) 0)]]⟩ := by
  obtain ⟨g1, g2, g3, g4⟩ := hq
  simp only at g1 g2 g3 g4
  have hm := may_ok hm
  have hb := mb_le q
  refine ⟨by omega, by rw [b_add, wr _ (by omega) (by omega)], by rw [b_add, wr _ (by omega) (by omega)], by rw [g3, nu_len]; omega, by simp only; omega, ?_, ?_, ?_⟩
  · simp only
    unfold mbS
    split <;> omega
  · simp only
    rw [g3, nu_next b q s x g1]
  · simp only
    rw [if_neg (by omega)]
theorem rr_end (b s : Int) (q : List E) (c : Int) (_ : maySn b s q c = true) (x d : Int) (o : List E) (hq : rrQ b s q c ⟨x, d, o⟩) (h : ¬ (x < 16 ∧ x < q.length)) : rrdS b s q c = ⟨b, x, q, d, 0⟩ ∧ o = nuS b q s (mbS q) := by
  obtain ⟨g1, g2, g3, g4⟩ := hq
  simp only at g1 g2 g3 g4
  have e : x = mbS q := by
    unfold mbS at g2 ⊢
    split at g2 <;> simp_all <;> omega
  unfold rrdS nuS
  rw [← e, g3, g4]
  refine ⟨?_, rfl⟩
  by_cases g : s < x
  · rw [if_pos g, if_neg (by omega)]
  · have : x = s := by omega
    rw [if_neg g, this, if_pos rfl]

structure Vs where
  v_tk : Int → Int → List E → Int → SD
  v_rtk : Int → Int → List E → Int → SD
  v_tkN : Int → Int → List E → Int → List E
  v_rrd : Int → Int → List E → Int → SD
  v_nu : Int → List E → Int → Int → List E
  v_mb : List E → Int
  v_may : Int → Int → List E → Int → Bool
  v_lq : List E → Bool
def Vs.std : Vs := ⟨tkS, rtkS, tkN, rrdS, nuS, mbS, maySn, fun q => decide (q.length ≤ 100000)⟩

def c_tick (F : Vs) : Con := fun xs h => match xs, h with
  | [.agg [.val (.int .i64 v_b), .val (.int .i64 v_s), .sl none (.recs (.ints .u8 .nil) v_q), .val (.int .i64 v_c)]], [] => some ⟨F.v_lq v_q = true, .tup [.agg [.val (.int .i64 (F.v_tk v_b v_s v_q v_c).b), .val (.int .i64 (F.v_tk v_b v_s v_q v_c).s), .sl none (.recs (.ints .u8 .nil) (F.v_tk v_b v_s v_q v_c).q), .val (.int .i64 (F.v_tk v_b v_s v_q v_c).c)], .one (.sl none (.recs (.int .i64 (.ints .u8 .nil)) (F.v_tkN v_b v_s v_q v_c))), I (F.v_tk v_b v_s v_q v_c).e], [], [Any]⟩
  | _, _ => none
theorem ok_nq {q : List E} (h : okQ q = true) : okQ (nq q) = true := by
  have h := of_decide_eq_true h
  refine decide_eq_true ⟨by rw [nq_len]; exact h.1, fun y hy => ?_⟩
  obtain ⟨z, hz, rfl⟩ := List.mem_map.1 hy
  exact h.2 z hz
set_option maxHeartbeats 2000000 in
set_option maxRecDepth 100000 in
theorem x_tick (v_b : Int) (v_s : Int) (v_q : List E) (v_c : Int) (hC : Vs.std.v_lq v_q = true) : Does [(63, c_check Fs.std), (73, c_copied Fs.std), (74, c_num Gs.std)] Try.f52 [.agg [.val (.int .i64 v_b), .val (.int .i64 v_s), .sl none (.recs (.ints .u8 .nil) v_q), .val (.int .i64 v_c)]] [] ⟨Vs.std.v_lq v_q = true, .tup [.agg [.val (.int .i64 (Vs.std.v_tk v_b v_s v_q v_c).b), .val (.int .i64 (Vs.std.v_tk v_b v_s v_q v_c).s), .sl none (.recs (.ints .u8 .nil) (Vs.std.v_tk v_b v_s v_q v_c).q), .val (.int .i64 (Vs.std.v_tk v_b v_s v_q v_c).c)], .one (.sl none (.recs (.int .i64 (.ints .u8 .nil)) (Vs.std.v_tkN v_b v_s v_q v_c))), I (Vs.std.v_tk v_b v_s v_q v_c).e], [], [Any]⟩ := by
  intro b gv
  have hlq : v_q.length ≤ 100000 := of_decide_eq_true (show decide (v_q.length ≤ 100000) = true from hC)
  have hm := may_ok (b := v_b) (s := v_s) (q := v_q) (c := v_c)
  have hn := nus_nq v_b v_q 0 v_s (Int.le_refl 0)
  have hl := nq_len v_q
  have hk := fun h => ok_nq (q := v_q) h
  have hfs := (FsOk.cons ok_check (FsOk.cons ok_copied (FsOk.cons ok_num FsOk.nil rfl) rfl) rfl)
  generalize hF : Vs.std = F at hC hfs ⊢
  generalize hG0 : Fs.std = G0 at hC hfs ⊢
  generalize hG1 : Gs.std = G1 at hC hfs ⊢
  generalize hA : Ar.std = A
  generalize hL : Lp _ _ _ = L
  obtain ⟨Z, zq⟩ := z_all
  refine cd_open (lp_mono hL) zq rfl ?_
  repeat' (first
    | (refine z_open zq ?_; try dsimp only)
    | refine cd_seq zq ?_ (lp_mono hL)
    | refine cd_blk zq ?_
    | refine cd_ret ?_
    | refine cd_skip ?_
    | refine cd_exit ?_
    | refine cd_loop ?_
    | refine cd_cond rfl ?_
    | refine cd_condT rfl ?_
    | refine cd_condF rfl ?_
    | (refine Cd.mk ?_; cbv)
    | (refine Ends1.mk ?_; cbv)
    | (refine Fin1.mk ?_; cbv)
    | exact trivial
    | refine And.intro ?_ ?_
    | refine orf fun _ => ?_
    | refine ort fun _ => ?_)
  all_goals
    clear hL zq Z hfs
    subst hF hA hG0 hG1
    simp only [Vs.std, Gs.std, Fs.std, Ar.std] at *
    try (grind [stdCmp, b_sub, wr, tkS, tkN, zS, chS, nuB])
theorem ok_tick : ConOk Try.prog 52 (c_tick Vs.std) := by
  refine con_of (FsOk.cons ok_check (FsOk.cons ok_copied (FsOk.cons ok_num FsOk.nil rfl) rfl) rfl) Try.func52 rfl rfl fun xs h p hp => ?_
  unfold c_tick at hp
  split at hp
  · cases hp
    exact ⟨lee_le rfl, fun hC _ => x_tick _ _ _ _ hC⟩
  · cases hp

def c_rtick (F : Vs) : Con := fun xs h => match xs, h with
  | [.agg [.val (.int .i64 v_b), .val (.int .i64 v_s), .sl none (.recs (.ints .u8 .nil) v_q), .val (.int .i64 v_c)]], [] => some ⟨F.v_may v_b v_s v_q v_c = true, .tup [.agg [.val (.int .i64 (F.v_rtk v_b v_s v_q v_c).b), .val (.int .i64 (F.v_rtk v_b v_s v_q v_c).s), .sl none (.recs (.ints .u8 .nil) (F.v_rtk v_b v_s v_q v_c).q), .val (.int .i64 (F.v_rtk v_b v_s v_q v_c).c)], .one (.sl none (.recs (.int .i64 (.ints .u8 .nil)) (F.v_tkN v_b v_s v_q v_c)))], [], [Any]⟩
  | _, _ => none
def c_rready (F : Vs) : Con := fun xs h => match xs, h with
  | [.agg [.val (.int .i64 v_b), .val (.int .i64 v_s), .sl none (.recs (.ints .u8 .nil) v_q), .val (.int .i64 v_c)]], [] => some ⟨F.v_may v_b v_s v_q v_c = true, .tup [.agg [.val (.int .i64 (F.v_rrd v_b v_s v_q v_c).b), .val (.int .i64 (F.v_rrd v_b v_s v_q v_c).s), .sl none (.recs (.ints .u8 .nil) (F.v_rrd v_b v_s v_q v_c).q), .val (.int .i64 (F.v_rrd v_b v_s v_q v_c).c)], .one (.sl none (.recs (.int .i64 (.ints .u8 .nil)) (F.v_nu v_b v_q v_s (F.v_mb v_q))))], [], [Any]⟩
  | _, _ => none
theorem pr_nu {b f t : Int} {q q' : List E} (h : pq q = pq q') : prN (nuS b q f t) = prN (nuS b q' f t) := by
  unfold prN nuS nuN
  rw [List.map_map, List.map_map]
  apply List.map_congr_left
  intro j _
  have e : rl (q.getD (f + (j : Int)).toNat []) 0 = rl (q'.getD (f + (j : Int)).toNat []) 0 := by
    have := congrArg (fun l => (l[(f + (j : Int)).toNat]?).getD []) h
    simp only [pq, List.getElem?_map] at this
    rw [List.getD_eq_getElem?_getD, List.getD_eq_getElem?_getD]
    cases h1 : q[(f + (j : Int)).toNat]? <;> cases h2 : q'[(f + (j : Int)).toNat]? <;> rw [h1, h2] at this <;> simp_all [rl]
  simp [Function.comp, ri, rl] at e ⊢
  exact e
theorem by_nu {b f t : Int} {q : List E} (h : byS q = true) (ht : t ≤ 100000) (hf : 0 ≤ f) : byN (nuS b q f t) = true := by
  have h := of_decide_eq_true h
  refine decide_eq_true ⟨by rw [nus_len]; omega, fun y hy x hx => ?_⟩
  obtain ⟨j, _, rfl⟩ := List.mem_map.1 hy
  have hx : x ∈ rl (q.getD (f + (j : Int)).toNat []) 0 := hx
  rcases Nat.lt_or_ge (f + (j : Int)).toNat q.length with g | g
  · rw [List.getD_eq_getElem?_getD, List.getElem?_eq_getElem g] at hx
    exact h.2 _ (List.getElem_mem g) x hx
  · rw [List.getD_eq_getElem?_getD, List.getElem?_eq_none g] at hx
    cases hx
theorem may_pq {b s : Int} {q q' : List E} {c : Int} (h : pq q = pq q') : maySn b s q c = maySn b s q' c := by
  have hl : q.length = q'.length := by have := congrArg List.length h; rwa [pq_len, pq_len] at this
  have hs : shQ q = shQ q' := by
    have e : ∀ p : List E, shQ p = decide (∀ l ∈ pq p, l.length ≤ 16384) := fun p => by
      unfold shQ
      apply decide_eq_decide.2
      simp [pq]
    rw [e, e, h]
  unfold maySn
  rw [hs, hl]
theorem nu_self {l m : List E} (h : prN l = prN m) : nuE l m = true := decide_eq_true h
theorem mb_pq {q q' : List E} (h : pq q = pq q') : mbS q = mbS q' := by
  have hl : q.length = q'.length := by have := congrArg List.length h; rwa [pq_len, pq_len] at this
  unfold mbS
  rw [hl]
/-- Two senders that are alike. -/
structure Two (b s : Int) (q : List E) (c : Int) (b' s' : Int) (q' : List E) (c' : Int) : Prop where
  may : maySn b s q c = true
  may' : maySn b' s' q' c' = true
  eb : b = b'
  es : s = s'
  ec : c = c'
  eq : pq q = pq q'
  y : byS q = true
  y' : byS q' = true
theorem two_tick {b s : Int} {q : List E} {c b' s' : Int} {q' : List E} {c' : Int} (h : Two b s q c b' s' q' c') :
    (tkS b s q c).e = 0 ∧ byN (tkN b s q c) = true ∧ byN (tkN b' s' q' c') = true ∧ nuE (tkN b s q c) (tkN b' s' q' c') = true ∧
    smS (tkS b s q c).b (tkS b s q c).s (tkS b s q c).q (tkS b s q c).c (rtkS b' s' q' c').b (rtkS b' s' q' c').s (rtkS b' s' q' c').q (rtkS b' s' q' c').c = true ∧
    Two (tkS b s q c).b (tkS b s q c).s (tkS b s q c).q (tkS b s q c).c (rtkS b' s' q' c').b (rtkS b' s' q' c').s (rtkS b' s' q' c').q (rtkS b' s' q' c').c := by
  obtain ⟨h1, h2, rfl, rfl, rfl, h6, h7, h8⟩ := h
  have hm := may_ok h1
  have hz : byN [] = true := rfl
  have hnf : ¬ maySn b s q c = false := by rw [h1]; decide
  have hnf' : ¬ maySn b s q' c = false := by rw [h2]; decide
  have hmn : ∀ d, maySn b s q d = maySn b s (nq q) d := fun d => may_pq (pq_nq q).symm
  have hmq : ∀ d, maySn b s q d = maySn b s q' d := fun d => may_pq h6
  have hpq : pq (nq q) = pq q' := (pq_nq q).trans h6
  unfold tkS tkN rtkS
  rw [if_neg hnf, if_neg hnf, if_neg hnf']
  by_cases g : s = 0
  · simp only [g, if_true]
    subst g
    exact ⟨trivial, hz, hz, rfl, sm_same hpq, ⟨by rw [← hmn]; exact h1, h2, rfl, rfl, rfl, hpq, by_nq h7, h8⟩⟩
  · have hc : ¬ c = 0 := fun w => g (hm.2.2.2.2.2.2.2.2.2.1 w)
    simp only [if_neg g]
    have hch : ∀ d, 0 < d → d ≤ 4 → maySn b s q d = true := fun d d0 d4 => by
      simp only [maySn, Bool.and_eq_true, decide_eq_true_eq] at h1 ⊢
      exact ⟨h1.1, h1.2.1, h1.2.2.1, h1.2.2.2.1, h1.2.2.2.2.1, h1.2.2.2.2.2.1, by omega, by omega, d4, by omega⟩
    by_cases g2 : 0 < c - 1
    · simp only [if_pos g2]
      have := hch (c - 1) g2 (by omega)
      exact ⟨trivial, hz, hz, rfl, sm_same hpq, ⟨by rw [← hmn]; exact this, by rw [← hmq]; exact this, rfl, rfl, rfl, hpq, by_nq h7, h8⟩⟩
    · simp only [if_neg g2]
      have := hch 4 (by decide) (by decide)
      exact ⟨trivial, by_nu h7 (by omega) (Int.le_refl 0), by_nu h8 (by omega) (Int.le_refl 0), nu_self (pr_nu h6), sm_same hpq, ⟨by rw [← hmn]; exact this, by rw [← hmq]; exact this, rfl, rfl, rfl, hpq, by_nq h7, h8⟩⟩
theorem two_ready {b s : Int} {q : List E} {c : Int} (h : maySn b s q c = true) (hy : byS q = true) :
    (rdyS b s q c).e = 0 ∧ (tkS b s q c).e = 0 ∧ byN (rdyN b s q c) = true ∧ byN (nuS b q s (mbS q)) = true ∧ nuE (rdyN b s q c) (nuS b q s (mbS q)) = true ∧
    smS (rdyS b s q c).b (rdyS b s q c).s (rdyS b s q c).q (rdyS b s q c).c (rrdS b s q c).b (rrdS b s q c).s (rrdS b s q c).q (rrdS b s q c).c = true ∧
    Two (rdyS b s q c).b (rdyS b s q c).s (rdyS b s q c).q (rdyS b s q c).c (rrdS b s q c).b (rrdS b s q c).s (rrdS b s q c).q (rrdS b s q c).c := by
  have hm := may_ok h
  have hb := mb_le q
  have hnf : ¬ maySn b s q c = false := by rw [h]; decide
  have hte : (tkS b s q c).e = 0 := by
    unfold tkS
    rw [if_neg hnf]
    repeat' split
    all_goals rfl
  have hmn : ∀ s d, maySn b s q d = maySn b s (nq q) d := fun s d => may_pq (pq_nq q).symm
  have hN : rdyN b s q c = nuS b q s (mbS q) := by
    unfold rdyN
    rw [if_neg hnf]
  have hbn : byN (nuS b q s (mbS q)) = true := by_nu hy (by omega) hm.2.2.2.2.1
  rw [hN]
  unfold rdyS rrdS
  rw [if_neg hnf]
  by_cases g : s < mbS q
  · simp only [if_pos g]
    have h4 : maySn b (mbS q) q 4 = true := by
      simp only [maySn, Bool.and_eq_true, decide_eq_true_eq] at h ⊢
      refine ⟨h.1, h.2.1, h.2.2.1, h.2.2.2.1, ?_⟩
      omega
    exact ⟨trivial, hte, hbn, hbn, nu_self rfl, sm_same (pq_nq q), ⟨by rw [← hmn]; exact h4, h4, rfl, rfl, rfl, pq_nq q, by_nq hy, hy⟩⟩
  · simp only [if_neg g]
    exact ⟨trivial, hte, hbn, hbn, nu_self rfl, sm_same (pq_nq q), ⟨by rw [← hmn]; exact h, h, rfl, rfl, rfl, pq_nq q, by_nq hy, hy⟩⟩
theorem no_ready {b s : Int} {q : List E} {c : Int} (h : maySn b s q c = false) : rdyS b s q c = zS 1 ∧ tkS b s q c = zS 1 ∧ rdyN b s q c = [] ∧ tkN b s q c = [] := by
  unfold rdyS tkS rdyN tkN
  rw [if_pos h, if_pos h, if_pos h, if_pos h]
  exact ⟨rfl, rfl, rfl, rfl⟩
theorem by_len {q : List E} (h : byS q = true) : q.length ≤ 100000 := (of_decide_eq_true h).1
end Go.Proofs.Ytakebkfhigadiaa.SeV
