/-
  a sender and a taker, and what is on its way between, as the document has them. No condition.
-/
import Derived.Test.YtgemoemkgcmcgaaTkR
import Derived.Test.YtgemoemkgcmcgaaRyOp
namespace Go.Proofs.Ytgemoemkgcmcgaa.TkQ
open Go Go.Proofs.Ytgemoemkgcmcgaa.Ry Go.Proofs.Ytgemoemkgcmcgaa.SeR Go.Proofs.Ytgemoemkgcmcgaa.SeS Go.Proofs.Ytgemoemkgcmcgaa.SeU Go.Proofs.Ytgemoemkgcmcgaa.SeL Go.Proofs.Ytgemoemkgcmcgaa.SeV Go.Proofs.Ytgemoemkgcmcgaa.TkR

abbrev c_rget := HaR.c_rget
theorem ok_rget : ConOk Try.prog 141 (c_rget HaR.Fs.std) := HaR.ok_rget
def modP (k : Int) : Bool := decide (1 ≤ k ∧ k ≤ 4611686018427387904)
def gtR (d : CR) (sq : Int) (p : List Int) : CR := { d with n := (HaR.getH d.n sq).n, w := (HaR.getH d.n sq).w, ou := if (HaR.getH d.n sq).a = true then d.ou ++ [[D.ints p]] else d.ou }
def s1R (d : CR) : SD := rtkS d.sb d.s d.q d.c
def s2R (d : CR) : SD := rrdS (s1R d).b (s1R d).s (s1R d).q (s1R d).c
def tkR (d : CR) : CR := ⟨(s2R d).b, (s2R d).s, (s2R d).q, (s2R d).c, d.n, false, d.wy ++ tkN d.sb d.s d.q d.c ++ nuS (s1R d).b (s1R d).q (s1R d).s (mbS (s1R d).q), if d.w = true then d.bk ++ [d.n] else d.bk, d.ou⟩
def akR (d : CR) (k : Int) : CR := { d with sb := (rackS d.sb d.s d.q d.c k).b, s := (rackS d.sb d.s d.q d.c k).s, q := (rackS d.sb d.s d.q d.c k).q, c := (rackS d.sb d.s d.q d.c k).c }
def atW (w : List E) (i : Int) : E := w.getD (BwN.modI i w.length).toNat []
def atB (w : List Int) (i : Int) : Int := w.getD (BwN.modI i w.length).toNat 0
def doR (k a i : Int) (d : CR) : CR :=
  if k = 1 then tkR d
  else if k < 2 ∨ 5 < k then d
  else if a = 1 then (if d.wy.length = 0 then d
    else if k = 2 then gtR { d with wy := BwN.res d.wy (BwN.modI i d.wy.length) } (ri (atW d.wy i) 0) (rl (atW d.wy i) 1)
    else if k = 3 then { d with wy := BwN.res d.wy (BwN.modI i d.wy.length) }
    else if k = 4 then { d with wy := d.wy ++ [BwN.eO (atW d.wy i)] }
    else { d with wy := BwN.res d.wy (BwN.modI i d.wy.length) ++ [BwN.eO (atW d.wy i)] })
  else if a = 2 then (if d.bk.length = 0 then d
    else if k = 2 then akR { d with bk := BwI.res d.bk (BwN.modI i d.bk.length) } (atB d.bk i)
    else if k = 3 then { d with bk := BwI.res d.bk (BwN.modI i d.bk.length) }
    else if k = 4 then { d with bk := d.bk ++ [atB d.bk i] }
    else { d with bk := BwI.res d.bk (BwN.modI i d.bk.length) ++ [atB d.bk i] })
  else d
def okR (d : CR) : Bool := maySn d.sb d.s d.q d.c && HaR.cntB d.n && decide (d.wy.length ≤ 50000 ∧ d.bk.length ≤ 50000 ∧ d.ou.length ≤ 50000)
theorem ok_is {d : CR} (h : okR d = true) : maySn d.sb d.s d.q d.c = true ∧ HaR.cntB d.n = true ∧ d.wy.length ≤ 50000 ∧ d.bk.length ≤ 50000 ∧ d.ou.length ≤ 50000 := by
  simp only [okR, Bool.and_eq_true, decide_eq_true_eq] at h
  exact ⟨h.1.1, h.1.2, h.2⟩
theorem rtk_may {b s : Int} {q : List E} {c : Int} (h : maySn b s q c = true) : maySn (rtkS b s q c).b (rtkS b s q c).s (rtkS b s q c).q (rtkS b s q c).c = true := by
  have hm := may_ok h
  simp only [maySn, Bool.and_eq_true, decide_eq_true_eq] at h ⊢
  unfold rtkS
  repeat' split
  all_goals
    simp only
    refine ⟨h.1, ?_⟩
    omega
theorem rrd_may {b s : Int} {q : List E} {c : Int} (h : maySn b s q c = true) : maySn (rrdS b s q c).b (rrdS b s q c).s (rrdS b s q c).q (rrdS b s q c).c = true := by
  have hm := may_ok h
  have hb := mb_le q
  simp only [maySn, Bool.and_eq_true, decide_eq_true_eq] at h ⊢
  unfold rrdS
  split
  all_goals
    simp only
    refine ⟨h.1, ?_⟩
    omega
theorem nu_le {b s : Int} {q : List E} {c : Int} (h : maySn b s q c = true) : (nuS b q s (mbS q)).length ≤ 16 := by
  have hm := may_ok h
  have hb := mb_le q
  rw [nus_len]
  omega
theorem resN_all (w : List E) (n : Int) : (w.length ≤ 50000 → 0 < w.length → modP w.length = true ∧ 0 ≤ BwN.modI n w.length ∧ BwN.modI n w.length < w.length ∧ stdBin .add .i64 (BwN.modI n w.length) 1 = BwN.modI n w.length + 1 ∧ List.drop (Int.toNat 0) (List.take (BwN.modI n w.length).toNat w) ++ List.drop (BwN.modI n w.length + 1).toNat (List.take (Int.toNat w.length) w) = BwN.res w (BwN.modI n w.length)) ∧ (BwN.res w (BwN.modI n w.length)).length ≤ w.length := by
  constructor
  · intro h h0
    obtain ⟨_, h2⟩ := BwN.bw_i (w := w) (by omega) n
    obtain ⟨a, b, c, d, _⟩ := h2 h0
    exact ⟨decide_eq_true (by omega), a, b, c, d⟩
  · unfold BwN.res
    rw [List.length_append, List.length_take, List.length_drop]
    omega
theorem resI_all (w : List Int) (n : Int) : (w.length ≤ 50000 → 0 < w.length → modP w.length = true ∧ 0 ≤ BwN.modI n w.length ∧ BwN.modI n w.length < w.length ∧ stdBin .add .i64 (BwN.modI n w.length) 1 = BwN.modI n w.length + 1 ∧ List.drop (Int.toNat 0) (List.take (BwN.modI n w.length).toNat w) ++ List.drop (BwN.modI n w.length + 1).toNat (List.take (Int.toNat w.length) w) = BwI.res w (BwN.modI n w.length)) ∧ (BwI.res w (BwN.modI n w.length)).length ≤ w.length := by
  constructor
  · intro h h0
    obtain ⟨_, h2⟩ := BwI.bw_i (w := w) (by omega) n
    obtain ⟨a, b, c, d, _⟩ := h2 h0
    exact ⟨decide_eq_true (by omega), a, b, c, d⟩
  · unfold BwI.res
    rw [List.length_append, List.length_take, List.length_drop]
    omega

structure Tq where
  q_at : Int → Int → Int
  q_atP : Int → Bool
  q_get : CR → Int → List Int → CR
  q_tk : CR → CR
  q_do : Int → Int → Int → CR → CR
  q_ok : CR → Bool
  q_len : CR → Bool
  q_eq : List E → List E → Bool
def Tq.std : Tq := ⟨BwN.modI, modP, gtR, tkR, doR, okR, fun d => HaR.cntB d.n && decide (d.ou.length ≤ 50000), fun p q => decide (pq p = pq q ∧ p.length ≤ 100000)⟩

def c_at (F : Tq) : Con := fun xs h => match xs, h with
  | [.one (.val (.int .i64 n)), .one (.val (.int .i64 k))], [] => some ⟨F.q_atP k = true, .sa (I (F.q_at n k)), [], [Any, Any]⟩
  | _, _ => none
set_option maxRecDepth 100000 in
theorem x_at (n : Int) (k : Int) (hC : Tq.std.q_atP k = true) : Does [] Try.f59 [.one (.val (.int .i64 n)), .one (.val (.int .i64 k))] [] ⟨Tq.std.q_atP k = true, .sa (I (Tq.std.q_at n k)), [], [Any, Any]⟩ := by
  intro b gv
  have hp : 1 ≤ k ∧ k ≤ 4611686018427387904 := of_decide_eq_true (show decide (1 ≤ k ∧ k ≤ 4611686018427387904) = true from hC)
  have hk := BwN.mod_is (n := n) (k := k) (decide_eq_true hp.2) (by omega)
  have hfs := FsOk.nil
  generalize hF : Tq.std = F at hC hfs ⊢
  generalize hG0 : HaR.Fs.std = G0 at hC hfs ⊢
  generalize hG1 : SeU.Us.std = G1 at hC hfs ⊢
  generalize hG2 : SeV.Vs.std = G2 at hC hfs ⊢
  generalize hA : Ar.std = A
  generalize hL : Lp _ _ _ = L
  obtain ⟨Z, zq⟩ := z_all
  refine cd_open (lp_mono hL) zq rfl ?_
  repeat' (first
    | (refine z_open zq ?_; try dsimp only)
    | refine cd_seq zq ?_ (lp_mono hL)
    | refine cd_blk zq ?_
    | refine cd_ret ?_
    | refine cd_skip ?_
    | refine cd_exit ?_
    | refine cd_loop ?_
    | refine cd_cond rfl ?_
    | refine cd_condT rfl ?_
    | refine cd_condF rfl ?_
    | (refine Cd.mk ?_; cbv)
    | (refine Ends1.mk ?_; cbv)
    | (refine Fin1.mk ?_; cbv)
    | exact trivial
    | refine And.intro ?_ ?_
    | refine orf fun _ => ?_
    | refine ort fun _ => ?_)
  all_goals
    clear hL zq Z
    try clear hfs
    subst hA hF hG0 hG1 hG2
    simp only [Tq.std, Ar.std] at *
    try (grind [stdCmp, modP])
theorem ok_at : ConOk Try.prog 59 (c_at Tq.std) := by
  refine con_of FsOk.nil Try.func59 rfl rfl fun xs h p hp => ?_
  unfold c_at at hp
  split at hp
  · cases hp
    exact ⟨lee_le rfl, fun hC _ => x_at _ _ hC⟩
  · cases hp

def c_come (F : Tq) : Con := fun xs h => match xs, h with
  | [.agg [.val (.int .i64 x_sb), .val (.int .i64 x_s), .sl none (.recs (.ints .u8 .nil) x_q), .val (.int .i64 x_c), .val (.int .i64 x_n), .val (.bool x_w), .sl none (.recs (.int .i64 (.ints .u8 .nil)) x_wy), .sl none (.ints .i64 x_bk), .sl none (.recs (.ints .u8 .nil) x_ou)], .agg [.val (.int .i64 p_s), .sl none (.ints .u8 p_p)]], [] => some ⟨F.q_len ⟨x_sb, x_s, x_q, x_c, x_n, x_w, x_wy, x_bk, x_ou⟩ = true, .sa (.agg [.val (.int .i64 (F.q_get ⟨x_sb, x_s, x_q, x_c, x_n, x_w, x_wy, x_bk, x_ou⟩ p_s p_p).sb), .val (.int .i64 (F.q_get ⟨x_sb, x_s, x_q, x_c, x_n, x_w, x_wy, x_bk, x_ou⟩ p_s p_p).s), .sl none (.recs (.ints .u8 .nil) (F.q_get ⟨x_sb, x_s, x_q, x_c, x_n, x_w, x_wy, x_bk, x_ou⟩ p_s p_p).q), .val (.int .i64 (F.q_get ⟨x_sb, x_s, x_q, x_c, x_n, x_w, x_wy, x_bk, x_ou⟩ p_s p_p).c), .val (.int .i64 (F.q_get ⟨x_sb, x_s, x_q, x_c, x_n, x_w, x_wy, x_bk, x_ou⟩ p_s p_p).n), .val (.bool (F.q_get ⟨x_sb, x_s, x_q, x_c, x_n, x_w, x_wy, x_bk, x_ou⟩ p_s p_p).w), .sl none (.recs (.int .i64 (.ints .u8 .nil)) (F.q_get ⟨x_sb, x_s, x_q, x_c, x_n, x_w, x_wy, x_bk, x_ou⟩ p_s p_p).wy), .sl none (.ints .i64 (F.q_get ⟨x_sb, x_s, x_q, x_c, x_n, x_w, x_wy, x_bk, x_ou⟩ p_s p_p).bk), .sl none (.recs (.ints .u8 .nil) (F.q_get ⟨x_sb, x_s, x_q, x_c, x_n, x_w, x_wy, x_bk, x_ou⟩ p_s p_p).ou)]), [], [Any, Any]⟩
  | _, _ => none
set_option maxHeartbeats 4000000 in
set_option maxRecDepth 100000 in
theorem x_come (x_sb : Int) (x_s : Int) (x_q : List E) (x_c : Int) (x_n : Int) (x_w : Bool) (x_wy : List E) (x_bk : List Int) (x_ou : List E) (p_s : Int) (p_p : List Int) (hC : Tq.std.q_len ⟨x_sb, x_s, x_q, x_c, x_n, x_w, x_wy, x_bk, x_ou⟩ = true) : Does [(141, c_rget HaR.Fs.std)] Try.f77 [.agg [.val (.int .i64 x_sb), .val (.int .i64 x_s), .sl none (.recs (.ints .u8 .nil) x_q), .val (.int .i64 x_c), .val (.int .i64 x_n), .val (.bool x_w), .sl none (.recs (.int .i64 (.ints .u8 .nil)) x_wy), .sl none (.ints .i64 x_bk), .sl none (.recs (.ints .u8 .nil) x_ou)], .agg [.val (.int .i64 p_s), .sl none (.ints .u8 p_p)]] [] ⟨Tq.std.q_len ⟨x_sb, x_s, x_q, x_c, x_n, x_w, x_wy, x_bk, x_ou⟩ = true, .sa (.agg [.val (.int .i64 (Tq.std.q_get ⟨x_sb, x_s, x_q, x_c, x_n, x_w, x_wy, x_bk, x_ou⟩ p_s p_p).sb), .val (.int .i64 (Tq.std.q_get ⟨x_sb, x_s, x_q, x_c, x_n, x_w, x_wy, x_bk, x_ou⟩ p_s p_p).s), .sl none (.recs (.ints .u8 .nil) (Tq.std.q_get ⟨x_sb, x_s, x_q, x_c, x_n, x_w, x_wy, x_bk, x_ou⟩ p_s p_p).q), .val (.int .i64 (Tq.std.q_get ⟨x_sb, x_s, x_q, x_c, x_n, x_w, x_wy, x_bk, x_ou⟩ p_s p_p).c), .val (.int .i64 (Tq.std.q_get ⟨x_sb, x_s, x_q, x_c, x_n, x_w, x_wy, x_bk, x_ou⟩ p_s p_p).n), .val (.bool (Tq.std.q_get ⟨x_sb, x_s, x_q, x_c, x_n, x_w, x_wy, x_bk, x_ou⟩ p_s p_p).w), .sl none (.recs (.int .i64 (.ints .u8 .nil)) (Tq.std.q_get ⟨x_sb, x_s, x_q, x_c, x_n, x_w, x_wy, x_bk, x_ou⟩ p_s p_p).wy), .sl none (.ints .i64 (Tq.std.q_get ⟨x_sb, x_s, x_q, x_c, x_n, x_w, x_wy, x_bk, x_ou⟩ p_s p_p).bk), .sl none (.recs (.ints .u8 .nil) (Tq.std.q_get ⟨x_sb, x_s, x_q, x_c, x_n, x_w, x_wy, x_bk, x_ou⟩ p_s p_p).ou)]), [], [Any, Any]⟩ := by
  intro b gv
  have hk : (HaR.cntB x_n && decide (x_ou.length ≤ 50000)) = true := hC
  simp only [Bool.and_eq_true, decide_eq_true_eq] at hk
  have hfs := (FsOk.cons ok_rget FsOk.nil rfl)
  generalize hF : Tq.std = F at hC hfs ⊢
  generalize hG0 : HaR.Fs.std = G0 at hC hfs ⊢
  generalize hG1 : SeU.Us.std = G1 at hC hfs ⊢
  generalize hG2 : SeV.Vs.std = G2 at hC hfs ⊢
  generalize hA : Ar.std = A
  generalize hL : Lp _ _ _ = L
  obtain ⟨Z, zq⟩ := z_all
  refine cd_open (lp_mono hL) zq rfl ?_
  repeat' (first
    | (refine z_open zq ?_; try dsimp only)
    | refine cd_seq zq ?_ (lp_mono hL)
    | refine cd_blk zq ?_
    | refine cd_ret ?_
    | refine cd_skip ?_
    | refine cd_exit ?_
    | refine cd_loop ?_
    | refine cd_cond rfl ?_
    | refine cd_condT rfl ?_
    | refine cd_condF rfl ?_
    | (refine Cd.mk ?_; cbv)
    | (refine Ends1.mk ?_; cbv)
    | (refine Fin1.mk ?_; cbv)
    | exact trivial
    | refine And.intro ?_ ?_
    | refine orf fun _ => ?_
    | refine ort fun _ => ?_)
  all_goals
    clear hL zq Z
    try clear hfs
    subst hA hF hG0 hG1 hG2
    simp only [Tq.std, HaR.Fs.std, Ar.std, List.nil_append] at *
    try (grind [stdCmp, gtR])
theorem ok_come : ConOk Try.prog 77 (c_come Tq.std) := by
  refine con_of (FsOk.cons ok_rget FsOk.nil rfl) Try.func77 rfl rfl fun xs h p hp => ?_
  unfold c_come at hp
  split at hp
  · cases hp
    exact ⟨lee_le rfl, fun hC _ => x_come _ _ _ _ _ _ _ _ _ _ _ hC⟩
  · cases hp

def c_rtk (F : Tq) : Con := fun xs h => match xs, h with
  | [.agg [.val (.int .i64 x_sb), .val (.int .i64 x_s), .sl none (.recs (.ints .u8 .nil) x_q), .val (.int .i64 x_c), .val (.int .i64 x_n), .val (.bool x_w), .sl none (.recs (.int .i64 (.ints .u8 .nil)) x_wy), .sl none (.ints .i64 x_bk), .sl none (.recs (.ints .u8 .nil) x_ou)]], [] => some ⟨F.q_ok ⟨x_sb, x_s, x_q, x_c, x_n, x_w, x_wy, x_bk, x_ou⟩ = true, .sa (.agg [.val (.int .i64 (F.q_tk ⟨x_sb, x_s, x_q, x_c, x_n, x_w, x_wy, x_bk, x_ou⟩).sb), .val (.int .i64 (F.q_tk ⟨x_sb, x_s, x_q, x_c, x_n, x_w, x_wy, x_bk, x_ou⟩).s), .sl none (.recs (.ints .u8 .nil) (F.q_tk ⟨x_sb, x_s, x_q, x_c, x_n, x_w, x_wy, x_bk, x_ou⟩).q), .val (.int .i64 (F.q_tk ⟨x_sb, x_s, x_q, x_c, x_n, x_w, x_wy, x_bk, x_ou⟩).c), .val (.int .i64 (F.q_tk ⟨x_sb, x_s, x_q, x_c, x_n, x_w, x_wy, x_bk, x_ou⟩).n), .val (.bool (F.q_tk ⟨x_sb, x_s, x_q, x_c, x_n, x_w, x_wy, x_bk, x_ou⟩).w), .sl none (.recs (.int .i64 (.ints .u8 .nil)) (F.q_tk ⟨x_sb, x_s, x_q, x_c, x_n, x_w, x_wy, x_bk, x_ou⟩).wy), .sl none (.ints .i64 (F.q_tk ⟨x_sb, x_s, x_q, x_c, x_n, x_w, x_wy, x_bk, x_ou⟩).bk), .sl none (.recs (.ints .u8 .nil) (F.q_tk ⟨x_sb, x_s, x_q, x_c, x_n, x_w, x_wy, x_bk, x_ou⟩).ou)]), [], [Any]⟩
  | _, _ => none
set_option maxHeartbeats 4000000 in
set_option maxRecDepth 100000 in
theorem x_rtk (x_sb : Int) (x_s : Int) (x_q : List E) (x_c : Int) (x_n : Int) (x_w : Bool) (x_wy : List E) (x_bk : List Int) (x_ou : List E) (hC : Tq.std.q_ok ⟨x_sb, x_s, x_q, x_c, x_n, x_w, x_wy, x_bk, x_ou⟩ = true) : Does [(139, c_rtick SeV.Vs.std), (140, c_rready SeV.Vs.std)] Try.f76 [.agg [.val (.int .i64 x_sb), .val (.int .i64 x_s), .sl none (.recs (.ints .u8 .nil) x_q), .val (.int .i64 x_c), .val (.int .i64 x_n), .val (.bool x_w), .sl none (.recs (.int .i64 (.ints .u8 .nil)) x_wy), .sl none (.ints .i64 x_bk), .sl none (.recs (.ints .u8 .nil) x_ou)]] [] ⟨Tq.std.q_ok ⟨x_sb, x_s, x_q, x_c, x_n, x_w, x_wy, x_bk, x_ou⟩ = true, .sa (.agg [.val (.int .i64 (Tq.std.q_tk ⟨x_sb, x_s, x_q, x_c, x_n, x_w, x_wy, x_bk, x_ou⟩).sb), .val (.int .i64 (Tq.std.q_tk ⟨x_sb, x_s, x_q, x_c, x_n, x_w, x_wy, x_bk, x_ou⟩).s), .sl none (.recs (.ints .u8 .nil) (Tq.std.q_tk ⟨x_sb, x_s, x_q, x_c, x_n, x_w, x_wy, x_bk, x_ou⟩).q), .val (.int .i64 (Tq.std.q_tk ⟨x_sb, x_s, x_q, x_c, x_n, x_w, x_wy, x_bk, x_ou⟩).c), .val (.int .i64 (Tq.std.q_tk ⟨x_sb, x_s, x_q, x_c, x_n, x_w, x_wy, x_bk, x_ou⟩).n), .val (.bool (Tq.std.q_tk ⟨x_sb, x_s, x_q, x_c, x_n, x_w, x_wy, x_bk, x_ou⟩).w), .sl none (.recs (.int .i64 (.ints .u8 .nil)) (Tq.std.q_tk ⟨x_sb, x_s, x_q, x_c, x_n, x_w, x_wy, x_bk, x_ou⟩).wy), .sl none (.ints .i64 (Tq.std.q_tk ⟨x_sb, x_s, x_q, x_c, x_n, x_w, x_wy, x_bk, x_ou⟩).bk), .sl none (.recs (.ints .u8 .nil) (Tq.std.q_tk ⟨x_sb, x_s, x_q, x_c, x_n, x_w, x_wy, x_bk, x_ou⟩).ou)]), [], [Any]⟩ := by
  intro b gv
  have hk := ok_is (show okR ⟨x_sb, x_s, x_q, x_c, x_n, x_w, x_wy, x_bk, x_ou⟩ = true from hC)
  have h1 := rtk_may hk.1
  have h2 := tkN_len x_sb x_s x_q x_c
  have h3 := nu_le h1
  dsimp only at hk h1 h2 h3
  have hfs := (FsOk.cons ok_rtick (FsOk.cons ok_rready FsOk.nil rfl) rfl)
  generalize hF : Tq.std = F at hC hfs ⊢
  generalize hG0 : HaR.Fs.std = G0 at hC hfs ⊢
  generalize hG1 : SeU.Us.std = G1 at hC hfs ⊢
  generalize hG2 : SeV.Vs.std = G2 at hC hfs ⊢
  generalize hA : Ar.std = A
  generalize hL : Lp _ _ _ = L
  obtain ⟨Z, zq⟩ := z_all
  refine cd_open (lp_mono hL) zq rfl ?_
  repeat' (first
    | (refine z_open zq ?_; try dsimp only)
    | refine cd_seq zq ?_ (lp_mono hL)
    | refine cd_blk zq ?_
    | refine cd_ret ?_
    | refine cd_skip ?_
    | refine cd_exit ?_
    | refine cd_loop ?_
    | refine cd_cond rfl ?_
    | refine cd_condT rfl ?_
    | refine cd_condF rfl ?_
    | (refine Cd.mk ?_; cbv)
    | (refine Ends1.mk ?_; cbv)
    | (refine Fin1.mk ?_; cbv)
    | exact trivial
    | refine And.intro ?_ ?_
    | refine orf fun _ => ?_
    | refine ort fun _ => ?_)
  all_goals
    clear hL zq Z
    try clear hfs
    subst hA hF hG0 hG1 hG2
    simp only [Tq.std, SeV.Vs.std, Ar.std, List.nil_append] at *
    try (grind [stdCmp, tkR, s1R, s2R])
theorem ok_rtk : ConOk Try.prog 76 (c_rtk Tq.std) := by
  refine con_of (FsOk.cons ok_rtick (FsOk.cons ok_rready FsOk.nil rfl) rfl) Try.func76 rfl rfl fun xs h p hp => ?_
  unfold c_rtk at hp
  split at hp
  · cases hp
    exact ⟨lee_le rfl, fun hC _ => x_rtk _ _ _ _ _ _ _ _ _ hC⟩
  · cases hp

def c_rdo (F : Tq) : Con := fun xs h => match xs, h with
  | [.agg [.val (.int .i64 x_sb), .val (.int .i64 x_s), .sl none (.recs (.ints .u8 .nil) x_q), .val (.int .i64 x_c), .val (.int .i64 x_n), .val (.bool x_w), .sl none (.recs (.int .i64 (.ints .u8 .nil)) x_wy), .sl none (.ints .i64 x_bk), .sl none (.recs (.ints .u8 .nil) x_ou)], .agg [.val (.int .i64 o_k), .val (.int .i64 o_a), .val (.int .i64 _), .val (.int .i64 o_n), .val (.int .i64 _)]], [] => some ⟨F.q_ok ⟨x_sb, x_s, x_q, x_c, x_n, x_w, x_wy, x_bk, x_ou⟩ = true, .sa (.agg [.val (.int .i64 (F.q_do o_k o_a o_n ⟨x_sb, x_s, x_q, x_c, x_n, x_w, x_wy, x_bk, x_ou⟩).sb), .val (.int .i64 (F.q_do o_k o_a o_n ⟨x_sb, x_s, x_q, x_c, x_n, x_w, x_wy, x_bk, x_ou⟩).s), .sl none (.recs (.ints .u8 .nil) (F.q_do o_k o_a o_n ⟨x_sb, x_s, x_q, x_c, x_n, x_w, x_wy, x_bk, x_ou⟩).q), .val (.int .i64 (F.q_do o_k o_a o_n ⟨x_sb, x_s, x_q, x_c, x_n, x_w, x_wy, x_bk, x_ou⟩).c), .val (.int .i64 (F.q_do o_k o_a o_n ⟨x_sb, x_s, x_q, x_c, x_n, x_w, x_wy, x_bk, x_ou⟩).n), .val (.bool (F.q_do o_k o_a o_n ⟨x_sb, x_s, x_q, x_c, x_n, x_w, x_wy, x_bk, x_ou⟩).w), .sl none (.recs (.int .i64 (.ints .u8 .nil)) (F.q_do o_k o_a o_n ⟨x_sb, x_s, x_q, x_c, x_n, x_w, x_wy, x_bk, x_ou⟩).wy), .sl none (.ints .i64 (F.q_do o_k o_a o_n ⟨x_sb, x_s, x_q, x_c, x_n, x_w, x_wy, x_bk, x_ou⟩).bk), .sl none (.recs (.ints .u8 .nil) (F.q_do o_k o_a o_n ⟨x_sb, x_s, x_q, x_c, x_n, x_w, x_wy, x_bk, x_ou⟩).ou)]), [], [Any, Any]⟩
  | _, _ => none
set_option cbv.maxSteps 4000000 in
set_option maxHeartbeats 4000000 in
set_option maxRecDepth 100000 in
theorem x_rdo (x_sb : Int) (x_s : Int) (x_q : List E) (x_c : Int) (x_n : Int) (x_w : Bool) (x_wy : List E) (x_bk : List Int) (x_ou : List E) (o_k : Int) (o_a : Int) (o_b : Int) (o_n : Int) (o_w : Int) (hC : Tq.std.q_ok ⟨x_sb, x_s, x_q, x_c, x_n, x_w, x_wy, x_bk, x_ou⟩ = true) : Does [(76, c_rtk Tq.std), (59, c_at Tq.std), (77, c_come Tq.std), (78, c_rack SeU.Us.std)] Try.f26 [.agg [.val (.int .i64 x_sb), .val (.int .i64 x_s), .sl none (.recs (.ints .u8 .nil) x_q), .val (.int .i64 x_c), .val (.int .i64 x_n), .val (.bool x_w), .sl none (.recs (.int .i64 (.ints .u8 .nil)) x_wy), .sl none (.ints .i64 x_bk), .sl none (.recs (.ints .u8 .nil) x_ou)], .agg [.val (.int .i64 o_k), .val (.int .i64 o_a), .val (.int .i64 o_b), .val (.int .i64 o_n), .val (.int .i64 o_w)]] [] ⟨Tq.std.q_ok ⟨x_sb, x_s, x_q, x_c, x_n, x_w, x_wy, x_bk, x_ou⟩ = true, .sa (.agg [.val (.int .i64 (Tq.std.q_do o_k o_a o_n ⟨x_sb, x_s, x_q, x_c, x_n, x_w, x_wy, x_bk, x_ou⟩).sb), .val (.int .i64 (Tq.std.q_do o_k o_a o_n ⟨x_sb, x_s, x_q, x_c, x_n, x_w, x_wy, x_bk, x_ou⟩).s), .sl none (.recs (.ints .u8 .nil) (Tq.std.q_do o_k o_a o_n ⟨x_sb, x_s, x_q, x_c, x_n, x_w, x_wy, x_bk, x_ou⟩).q), .val (.int .i64 (Tq.std.q_do o_k o_a o_n ⟨x_sb, x_s, x_q, x_c, x_n, x_w, x_wy, x_bk, x_ou⟩).c), .val (.int .i64 (Tq.std.q_do o_k o_a o_n ⟨x_sb, x_s, x_q, x_c, x_n, x_w, x_wy, x_bk, x_ou⟩).n), .val (.bool (Tq.std.q_do o_k o_a o_n ⟨x_sb, x_s, x_q, x_c, x_n, x_w, x_wy, x_bk, x_ou⟩).w), .sl none (.recs (.int .i64 (.ints .u8 .nil)) (Tq.std.q_do o_k o_a o_n ⟨x_sb, x_s, x_q, x_c, x_n, x_w, x_wy, x_bk, x_ou⟩).wy), .sl none (.ints .i64 (Tq.std.q_do o_k o_a o_n ⟨x_sb, x_s, x_q, x_c, x_n, x_w, x_wy, x_bk, x_ou⟩).bk), .sl none (.recs (.ints .u8 .nil) (Tq.std.q_do o_k o_a o_n ⟨x_sb, x_s, x_q, x_c, x_n, x_w, x_wy, x_bk, x_ou⟩).ou)]), [], [Any, Any]⟩ := by
  intro b gv
  have hk := ok_is (show okR ⟨x_sb, x_s, x_q, x_c, x_n, x_w, x_wy, x_bk, x_ou⟩ = true from hC)
  have hr0 := resN_all x_wy o_n
  have hr1 := resI_all x_bk o_n
  dsimp only at hk
  have hfs := (FsOk.cons ok_rtk (FsOk.cons ok_at (FsOk.cons ok_come (FsOk.cons ok_rack FsOk.nil rfl) rfl) rfl) rfl)
  generalize hF : Tq.std = F at hC hfs ⊢
  generalize hG0 : HaR.Fs.std = G0 at hC hfs ⊢
  generalize hG1 : SeU.Us.std = G1 at hC hfs ⊢
  generalize hG2 : SeV.Vs.std = G2 at hC hfs ⊢
  generalize hA : Ar.std = A
  generalize hL : Lp _ _ _ = L
  obtain ⟨Z, zq⟩ := z_all
  refine cd_open (lp_mono hL) zq rfl ?_
  repeat' (first
    | (refine z_open zq ?_; try dsimp only)
    | refine cd_seq zq ?_ (lp_mono hL)
    | refine cd_blk zq ?_
    | refine cd_ret ?_
    | refine cd_skip ?_
    | refine cd_exit ?_
    | refine cd_loop ?_
    | refine cd_cond rfl ?_
    | refine cd_condT rfl ?_
    | refine cd_condF rfl ?_
    | (refine Cd.mk ?_; cbv)
    | (refine Ends1.mk ?_; cbv)
    | (refine Fin1.mk ?_; cbv)
    | exact trivial
    | refine And.intro ?_ ?_
    | refine orf fun _ => ?_
    | refine ort fun _ => ?_)
  all_goals
    clear hL zq Z
    try clear hfs
    subst hA hF hG0 hG1 hG2
    simp only [Tq.std, SeU.Us.std, Ar.std, List.nil_append] at *
    try (grind [stdCmp, doR, akR, atW, atB, BwN.eO])
theorem ok_rdo : ConOk Try.prog 26 (c_rdo Tq.std) := by
  refine con_of (FsOk.cons ok_rtk (FsOk.cons ok_at (FsOk.cons ok_come (FsOk.cons ok_rack FsOk.nil rfl) rfl) rfl) rfl) Try.func26 rfl rfl fun xs h p hp => ?_
  unfold c_rdo at hp
  split at hp
  · cases hp
    exact ⟨lee_le rfl, fun hC _ => x_rdo _ _ _ _ _ _ _ _ _ _ _ _ _ _ hC⟩
  · cases hp
end Go.Proofs.Ytgemoemkgcmcgaa.TkQ
