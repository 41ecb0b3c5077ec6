
/-
  senders: what is pushed, sent and acked. No condition.
-/
import Derived.Test.YtakebkfhigadiaaSeR
namespace Go.Proofs.Ytakebkfhigadiaa.SeS
open Go Go.Proofs.Ytakebkfhigadiaa.Ry Go.Proofs.Ytakebkfhigadiaa.SeR

def pushS (b s : Int) (q : List E) (c : Int) (p : List Int) (n : Int) : SD := if maySn b s q c = false ∨ n < 1 ∨ 2147483647 < n then zS 1 else if 16384 < p.length then zS 3 else if 256 ≤ q.length then zS 2 else if n ≤ b + q.length then zS 10 else ⟨b, s, nq q ++ [[D.ints p]], c, 0⟩
def rpushS (b s : Int) (q : List E) (c : Int) (p : List Int) (n : Int) : SD := if maySn b s q c = false ∨ n < 1 ∨ 2147483647 < n then zS 1 else if 16384 < p.length then zS 3 else if 256 ≤ q.length then zS 2 else if n ≤ b + q.length then zS 10 else ⟨b, s, q ++ [[D.ints p]], c, 0⟩
def nuN (b : Int) (q : List E) (f : Int) (k : Nat) : List E := (List.range k).map fun j : Nat => [D.int (b + f + (j : Int)), D.ints (rl (q.getD (f + (j : Int)).toNat []) 0)]
def nuS (b : Int) (q : List E) (f t : Int) : List E := nuN b q f (t - f).toNat
def nuB (b : Int) (q : List E) (f t : Int) : Bool := okQ q && decide (0 ≤ b ∧ b ≤ 2147483647 ∧ 0 ≤ f ∧ f ≤ 100000 ∧ t ≤ q.length)
def rdyS (b s : Int) (q : List E) (c : Int) : SD := if maySn b s q c = false then zS 1 else if s < mbS q then ⟨b, mbS q, nq q, 4, 0⟩ else ⟨b, s, nq q, c, 0⟩
def rdyN (b s : Int) (q : List E) (c : Int) : List E := if maySn b s q c = false then [] else nuS b q s (mbS q)
def akdB (b s : Int) (q : List E) (k : Int) : Bool := decide (0 ≤ k ∧ k ≤ s ∧ k ≤ q.length ∧ s ≤ 16 ∧ 0 ≤ b ∧ b ≤ 2147483647)
def akdS (b s : Int) (q : List E) (k : Int) : SD := ⟨b + k, s - k, q.drop k.toNat, if s - k = 0 then 0 else 4, 0⟩
def ackS (b s : Int) (q : List E) (c k : Int) : SD := if maySn b s q c = false then zS 1 else if b < k ∧ k ≤ b + s then ⟨k, s - (k - b), nq (q.drop (k - b).toNat), if s - (k - b) = 0 then 0 else 4, 0⟩ else ⟨b, s, nq q, c, 0⟩
theorem may_ok {b s : Int} {q : List E} {c : Int} (h : maySn b s q c = true) : okQ q = true ∧ q.length ≤ 256 ∧ 0 ≤ b ∧ b ≤ 2147483647 ∧ 0 ≤ s ∧ s ≤ 16 ∧ s ≤ q.length ∧ 0 ≤ c ∧ c ≤ 4 ∧ (c = 0 ↔ s = 0) := by
  simp only [maySn, Bool.and_eq_true, decide_eq_true_eq] at h
  obtain ⟨h0, h1⟩ := h
  have h0 := of_decide_eq_true h0
  refine ⟨decide_eq_true ⟨by omega, fun y hy => ?_⟩, h1.2.2.1, h1.1, h1.2.1, h1.2.2.2.1, h1.2.2.2.2.1, h1.2.2.2.2.2.1, h1.2.2.2.2.2.2⟩
  have := h0 y hy
  omega
theorem ok_drop {q : List E} (h : okQ q = true) (k : Nat) : okQ (q.drop k) = true ∧ (q.drop k).length ≤ q.length := by
  have h := of_decide_eq_true h
  refine ⟨decide_eq_true ⟨by rw [List.length_drop]; omega, fun y hy => h.2 y (List.mem_of_mem_drop hy)⟩, by rw [List.length_drop]; omega⟩
theorem mb_le (q : List E) : mbS q ≤ 16 ∧ mbS q ≤ q.length ∧ 0 ≤ mbS q := by
  unfold mbS
  split <;> omega
theorem nu_len (b : Int) (q : List E) (f : Int) (k : Nat) : (nuN b q f k).length = k := by simp [nuN]
theorem nus_len (b : Int) (q : List E) (f t : Int) : (nuS b q f t).length = (t - f).toNat := nu_len _ _ _ _
theorem nu_next (b : Int) (q : List E) (f i : Int) (h : f ≤ i) : nuN b q f (i - f).toNat ++ [[D.int (b + i), D.ints (rl (q.getD i.toNat []) 0)]] = nuN b q f (i + 1 - f).toNat := by
  have e : (i + 1 - f).toNat = (i - f).toNat + 1 := by omega
  have e2 : f + (((i - f).toNat : Nat) : Int) = i := by omega
  have e3 : b + f + (((i - f).toNat : Nat) : Int) = b + i := by omega
  rw [e]
  unfold nuN
  rw [List.range_succ, List.map_append, List.map_cons, List.map_nil, e2, e3]
structure XN where
  i : Int
  o : List E
def nuQ (b : Int) (q : List E) (f t : Int) (y : XN) : Prop := f ≤ y.i ∧ (y.i ≤ t ∨ y.i = f) ∧ y.o = nuN b q f (y.i - f).toNat
def nuM (t : Int) (y : XN) : Nat := (t - y.i).toNat
noncomputable def nuI (b s : Int) (q : List E) (c t : Int) (y : XN) : St := stOf Try.f74.ntmps [(2, .val (.int .i64 t)), (3, .ptr 1 0), (7, .sl (some (2, 134)) (.recs (.int .i64 (.ints .u8 .nil)) y.o)), (8, .val (.int .i64 y.i))] [(1, .cells 41 [.val (.int .i64 b), .val (.int .i64 s), .sl none (.recs (.ints .u8 .nil) q), .val (.int .i64 c)]), (2, .tok)] [Any, Any, Any]
def nuR (st : St) : XN := ⟨slotI st 8, slotR st 7⟩
def rlR (st : St) : XN := ⟨slotI st 8, slotR st 7⟩
theorem nu_zero (b : Int) (q : List E) (f t : Int) : nuQ b q f t ⟨f, []⟩ := ⟨Int.le_refl _, .inr rfl, by simp [nuN]⟩
theorem nu_step (b : Int) (q : List E) (f t i : Int) (o : List E) (hk : nuB b q f t = true) (hq : nuQ b q f t ⟨i, o⟩) (h : i < t) : 0 ≤ i ∧ i < q.length ∧ stdBin .add .i64 b i = b + i ∧ (rl (q.getD i.toNat []) 0).length ≤ 1000000 ∧ o.length ≤ 100000 ∧ nuQ b q f t ⟨i + 1, o ++ [[D.int (b + i), D.ints (rl (q.getD i.toNat []) 0)]]⟩ := by
  obtain ⟨h0, h1, h2⟩ := hq
  simp only at h0 h1 h2
  simp only [nuB, Bool.and_eq_true, decide_eq_true_eq] at hk
  have ho := of_decide_eq_true hk.1
  have hk := hk.2
  refine ⟨by omega, by omega, by rw [b_add, wr _ (by omega) (by omega)], ho.2 _ (pl_mem (by omega) (by omega)), by rw [h2, nu_len]; omega, by simp only; omega, .inl (by simp only; omega), ?_⟩
  simp only
  rw [h2, nu_next b q f i h0]
theorem nu_end (b : Int) (q : List E) (f t i : Int) (o : List E) (hq : nuQ b q f t ⟨i, o⟩) (h : ¬ i < t) : o = nuS b q f t := by
  obtain ⟨h0, h1, h2⟩ := hq
  simp only at h0 h1 h2
  rw [h2]
  unfold nuS
  congr 1
  omega
theorem nq_drop (q : List E) (k : Nat) : (nq q).drop k = nq (q.drop k) := by simp [nq]
theorem nus_nq (b : Int) (q : List E) (f t : Int) (h0 : 0 ≤ f) (ht : t ≤ q.length) : nuS b (nq q) f t = nuS b q f t := by
  unfold nuS nuN
  apply List.map_congr_left
  intro j hj
  have hj := List.mem_range.1 hj
  have hi : (f + (j : Int)).toNat < q.length := by omega
  have e : rl ((nq q).getD (f + (j : Int)).toNat []) 0 = rl (q.getD (f + (j : Int)).toNat []) 0 := by
    rw [List.getD_eq_getElem?_getD, List.getD_eq_getElem?_getD, nq, List.getElem?_map, List.getElem?_eq_getElem hi]
    rfl
  rw [e]

structure Gs where
  g_lq : List E → Bool
  g_push : Int → Int → List E → Int → List Int → Int → SD
  g_rpush : Int → Int → List E → Int → List Int → Int → SD
  g_nu : Int → List E → Int → Int → List E
  g_nuB : Int → List E → Int → Int → Bool
  g_rdy : Int → Int → List E → Int → SD
  g_rdyN : Int → Int → List E → Int → List E
  g_akd : Int → Int → List E → Int → SD
  g_akdB : Int → Int → List E → Int → Bool
  g_ack : Int → Int → List E → Int → Int → SD
def Gs.std : Gs := ⟨fun q => decide (q.length ≤ 100000), pushS, rpushS, nuS, nuB, rdyS, rdyN, akdS, akdB, ackS⟩

def c_push (F : Gs) : Con := fun xs h => match xs, h with
  | [.agg [.val (.int .i64 v_b), .val (.int .i64 v_s), .sl none (.recs (.ints .u8 .nil) v_q), .val (.int .i64 v_c)], .one (.sl none (.ints .u8 p)), .one (.val (.int .i64 n))], [] => some ⟨F.g_lq v_q = true, .tup [.agg [.val (.int .i64 (F.g_push v_b v_s v_q v_c p n).b), .val (.int .i64 (F.g_push v_b v_s v_q v_c p n).s), .sl none (.recs (.ints .u8 .nil) (F.g_push v_b v_s v_q v_c p n).q), .val (.int .i64 (F.g_push v_b v_s v_q v_c p n).c)], I (F.g_push v_b v_s v_q v_c p n).e], [], [Any, Any, Any]⟩
  | _, _ => none
set_option maxHeartbeats 2000000 in
set_option maxRecDepth 100000 in
theorem x_push (v_b : Int) (v_s : Int) (v_q : List E) (v_c : Int) (p : List Int) (n : Int) (hC : Gs.std.g_lq v_q = true) : Does [(63, c_check Fs.std), (73, c_copied Fs.std), (71, c_flist Fs.std)] Try.f58 [.agg [.val (.int .i64 v_b), .val (.int .i64 v_s), .sl none (.recs (.ints .u8 .nil) v_q), .val (.int .i64 v_c)], .one (.sl none (.ints .u8 p)), .one (.val (.int .i64 n))] [] ⟨Gs.std.g_lq v_q = true, .tup [.agg [.val (.int .i64 (Gs.std.g_push v_b v_s v_q v_c p n).b), .val (.int .i64 (Gs.std.g_push v_b v_s v_q v_c p n).s), .sl none (.recs (.ints .u8 .nil) (Gs.std.g_push v_b v_s v_q v_c p n).q), .val (.int .i64 (Gs.std.g_push v_b v_s v_q v_c p n).c)], I (Gs.std.g_push v_b v_s v_q v_c p n).e], [], [Any, Any, Any]⟩ := by
  intro b gv
  have hlq : v_q.length ≤ 100000 := of_decide_eq_true (show decide (v_q.length ≤ 100000) = true from hC)
  have hm := may_ok (b := v_b) (s := v_s) (q := v_q) (c := v_c)
  have hn := nq_len v_q
  have hfs := (FsOk.cons ok_check (FsOk.cons ok_copied (FsOk.cons ok_flist FsOk.nil rfl) rfl) rfl)
  generalize hF : Gs.std = F at hC hfs ⊢
  generalize hG0 : Fs.std = G0 at hC hfs ⊢
  generalize hA : Ar.std = A
  generalize hL : Lp _ _ _ = L
  obtain ⟨Z, zq⟩ := z_all
  refine cd_open (lp_mono hL) zq rfl ?_
  repeat' (first
    | (refine z_open zq ?_; try dsimp only)
    | refine cd_seq zq ?_ (lp_mono hL)
    | refine cd_blk zq ?_
    | refine cd_ret ?_
    | refine cd_skip ?_
    | refine cd_exit ?_
    | refine cd_loop ?_
    | refine cd_cond rfl ?_
    | refine cd_condT rfl ?_
    | refine cd_condF rfl ?_
    | (refine Cd.mk ?_; cbv)
    | (refine Ends1.mk ?_; cbv)
    | (refine Fin1.mk ?_; cbv)
    | exact trivial
    | refine And.intro ?_ ?_
    | refine orf fun _ => ?_
    | refine ort fun _ => ?_)
  all_goals
    clear hL zq Z hfs
    subst hF hA hG0
    simp only [Gs.std, Fs.std, Ar.std] at *
    try (grind [stdCmp, b_add, wr, pushS, zS, chS])
theorem ok_push : ConOk Try.prog 58 (c_push Gs.std) := by
  refine con_of (FsOk.cons ok_check (FsOk.cons ok_copied (FsOk.cons ok_flist FsOk.nil rfl) rfl) rfl) Try.func58 rfl rfl fun xs h p hp => ?_
  unfold c_push at hp
  split at hp
  · cases hp
    exact ⟨lee_le rfl, fun hC _ => x_push _ _ _ _ _ _ hC⟩
  · cases hp

def c_rpush (F : Gs) : Con := fun xs h => match xs, h with
  | [.agg [.val (.int .i64 v_b), .val (.int .i64 v_s), .sl none (.recs (.ints .u8 .nil) v_q), .val (.int .i64 v_c)], .one (.sl none (.ints .u8 p)), .one (.val (.int .i64 n))], [] => some ⟨F.g_lq v_q = true, .tup [.agg [.val (.int .i64 (F.g_rpush v_b v_s v_q v_c p n).b), .val (.int .i64 (F.g_rpush v_b v_s v_q v_c p n).s), .sl none (.recs (.ints .u8 .nil) (F.g_rpush v_b v_s v_q v_c p n).q), .val (.int .i64 (F.g_rpush v_b v_s v_q v_c p n).c)], I (F.g_rpush v_b v_s v_q v_c p n).e], [], [Any, Any, Any]⟩
  | _, _ => none
def c_num (F : Gs) : Con := fun xs h => match xs, h with
  | [.agg [.val (.int .i64 v_b), .val (.int .i64 _), .sl none (.recs (.ints .u8 .nil) v_q), .val (.int .i64 _)], .one (.val (.int .i64 f)), .one (.val (.int .i64 t))], [] => some ⟨F.g_nuB v_b v_q f t = true, .sa (.one (.sl none (.recs (.int .i64 (.ints .u8 .nil)) (F.g_nu v_b v_q f t)))), [], [Any, Any, Any]⟩
  | _, _ => none
set_option maxHeartbeats 1000000 in
set_option maxRecDepth 100000 in
theorem x_num (v_b : Int) (v_s : Int) (v_q : List E) (v_c : Int) (f : Int) (t : Int) (hC : Gs.std.g_nuB v_b v_q f t = true) : Does [(71, c_flist Fs.std)] Try.f74 [.agg [.val (.int .i64 v_b), .val (.int .i64 v_s), .sl none (.recs (.ints .u8 .nil) v_q), .val (.int .i64 v_c)], .one (.val (.int .i64 f)), .one (.val (.int .i64 t))] [] ⟨Gs.std.g_nuB v_b v_q f t = true, .sa (.one (.sl none (.recs (.int .i64 (.ints .u8 .nil)) (Gs.std.g_nu v_b v_q f t)))), [], [Any, Any, Any]⟩ := by
  intro b gv
  have hk : nuB v_b v_q f t = true := hC
  have hlq : v_q.length ≤ 100000 := by
    have h := hk
    simp only [nuB, Bool.and_eq_true] at h
    exact (of_decide_eq_true h.1).1
  have hfs := (FsOk.cons ok_flist FsOk.nil rfl)
  generalize hF : Gs.std = F at hC hfs ⊢
  generalize hG0 : Fs.std = G0 at hC hfs ⊢
  generalize hA : Ar.std = A
  generalize hL : Lp _ _ _ = L
  obtain ⟨Z, zq⟩ := z_all
  refine cd_open (lp_mono hL) zq rfl ?_
  repeat' (first
    | (refine z_open zq ?_; try dsimp only)
    | refine cd_seq zq ?_ (lp_mono hL)
    | refine cd_blk zq ?_
    | refine cd_ret ?_
    | refine cd_skip ?_
    | refine cd_exit ?_
    | refine cd_loop ?_
    | refine cd_cond rfl ?_
    | refine cd_condT rfl ?_
    | refine cd_condF rfl ?_
    | (refine Cd.mk ?_; cbv)
    | (refine Ends1.mk ?_; cbv)
    | (refine Fin1.mk ?_; cbv)
    | exact trivial
    | refine And.intro ?_ ?_
    | refine orf fun _ => ?_
    | refine ort fun _ => ?_)
  subst hL
  refine loop_z (cx_ok hfs) (nuQ v_b v_q f t) (nuI v_b v_s v_q v_c t) (nuM t) nuR ⟨f, []⟩ ?_ ?_ ?_
  · exact nu_zero v_b v_q f t
  · cbv
    repeat' (first | exact trivial | exact rfl | refine And.intro ?_ ?_)
  rintro ⟨i, o⟩ hq O hO
  have hst := nu_step v_b v_q f t i o hk hq
  have hen := nu_end v_b v_q f t i o hq
  have q0 := hq.1
  dsimp only at q0
  have hb := of_decide_eq_true ((Bool.and_eq_true _ _ ▸ (show (okQ v_q && decide (0 ≤ v_b ∧ v_b ≤ 2147483647 ∧ 0 ≤ f ∧ f ≤ 100000 ∧ t ≤ v_q.length)) = true from hk)).2)
  subst hA
  generalize hA : Ar.std = A
  generalize hL : Lp _ _ _ = L
  refine cd_close zq ?_
  repeat' (first
    | (refine z_open zq ?_; try dsimp only)
    | refine cd_seq zq ?_ (lp_mono hL)
    | refine cd_blk zq ?_
    | refine cd_ret ?_
    | refine cd_skip ?_
    | refine cd_exit ?_
    | refine cd_loop ?_
    | refine cd_cond rfl ?_
    | refine cd_condT rfl ?_
    | refine cd_condF rfl ?_
    | (refine Cd.mk ?_; cbv)
    | (refine Ends1.mk ?_; cbv)
    | (refine Fin1.mk ?_; cbv)
    | exact trivial
    | refine And.intro ?_ ?_
    | refine orf fun _ => ?_
    | refine ort fun _ => ?_)
  all_goals (clear hL hfs zq Z hq; subst hA hF hG0 hO; simp only [Gs.std, Fs.std, Ar.std] at * <;> grind [stdCmp, b_add, wr, nuM])
theorem ok_num : ConOk Try.prog 74 (c_num Gs.std) := by
  refine con_of (FsOk.cons ok_flist FsOk.nil rfl) Try.func74 rfl rfl fun xs h p hp => ?_
  unfold c_num at hp
  split at hp
  · cases hp
    exact ⟨lee_le rfl, fun hC _ => x_num _ _ _ _ _ _ hC⟩
  · cases hp

def c_rlist (F : Gs) : Con := fun xs h => match xs, h with
  | [.agg [.val (.int .i64 v_b), .val (.int .i64 _), .sl none (.recs (.ints .u8 .nil) v_q), .val (.int .i64 _)], .one (.val (.int .i64 f)), .one (.val (.int .i64 t))], [] => some ⟨F.g_nuB v_b v_q f t = true, .sa (.one (.sl none (.recs (.int .i64 (.ints .u8 .nil)) (F.g_nu v_b v_q f t)))), [], [Any, Any, Any]⟩
  | _, _ => none
def c_ready (F : Gs) : Con := fun xs h => match xs, h with
  | [.agg [.val (.int .i64 v_b), .val (.int .i64 v_s), .sl none (.recs (.ints .u8 .nil) v_q), .val (.int .i64 v_c)]], [] => some ⟨F.g_lq v_q = true, .tup [.agg [.val (.int .i64 (F.g_rdy v_b v_s v_q v_c).b), .val (.int .i64 (F.g_rdy v_b v_s v_q v_c).s), .sl none (.recs (.ints .u8 .nil) (F.g_rdy v_b v_s v_q v_c).q), .val (.int .i64 (F.g_rdy v_b v_s v_q v_c).c)], .one (.sl none (.recs (.int .i64 (.ints .u8 .nil)) (F.g_rdyN v_b v_s v_q v_c))), I (F.g_rdy v_b v_s v_q v_c).e], [], [Any]⟩
  | _, _ => none
set_option maxHeartbeats 2000000 in
set_option maxRecDepth 100000 in
theorem x_ready (v_b : Int) (v_s : Int) (v_q : List E) (v_c : Int) (hC : Gs.std.g_lq v_q = true) : Does [(63, c_check Fs.std), (75, c_mb Fs.std), (74, c_num Gs.std), (73, c_copied Fs.std)] Try.f55 [.agg [.val (.int .i64 v_b), .val (.int .i64 v_s), .sl none (.recs (.ints .u8 .nil) v_q), .val (.int .i64 v_c)]] [] ⟨Gs.std.g_lq v_q = true, .tup [.agg [.val (.int .i64 (Gs.std.g_rdy v_b v_s v_q v_c).b), .val (.int .i64 (Gs.std.g_rdy v_b v_s v_q v_c).s), .sl none (.recs (.ints .u8 .nil) (Gs.std.g_rdy v_b v_s v_q v_c).q), .val (.int .i64 (Gs.std.g_rdy v_b v_s v_q v_c).c)], .one (.sl none (.recs (.int .i64 (.ints .u8 .nil)) (Gs.std.g_rdyN v_b v_s v_q v_c))), I (Gs.std.g_rdy v_b v_s v_q v_c).e], [], [Any]⟩ := by
  intro b gv
  have hlq : v_q.length ≤ 100000 := of_decide_eq_true (show decide (v_q.length ≤ 100000) = true from hC)
  have hm := may_ok (b := v_b) (s := v_s) (q := v_q) (c := v_c)
  have hb := mb_le v_q
  have hnl := nus_len v_b v_q v_s (mbS v_q)
  have hfs := (FsOk.cons ok_check (FsOk.cons ok_mb (FsOk.cons ok_num (FsOk.cons ok_copied FsOk.nil rfl) rfl) rfl) rfl)
  generalize hF : Gs.std = F at hC hfs ⊢
  generalize hG0 : Fs.std = G0 at hC hfs ⊢
  generalize hA : Ar.std = A
  generalize hL : Lp _ _ _ = L
  obtain ⟨Z, zq⟩ := z_all
  refine cd_open (lp_mono hL) zq rfl ?_
  repeat' (first
    | (refine z_open zq ?_; try dsimp only)
    | refine cd_seq zq ?_ (lp_mono hL)
    | refine cd_blk zq ?_
    | refine cd_ret ?_
    | refine cd_skip ?_
    | refine cd_exit ?_
    | refine cd_loop ?_
    | refine cd_cond rfl ?_
    | refine cd_condT rfl ?_
    | refine cd_condF rfl ?_
    | (refine Cd.mk ?_; cbv)
    | (refine Ends1.mk ?_; cbv)
    | (refine Fin1.mk ?_; cbv)
    | exact trivial
    | refine And.intro ?_ ?_
    | refine orf fun _ => ?_
    | refine ort fun _ => ?_)
  all_goals
    clear hL zq Z hfs
    subst hF hA hG0
    simp only [Gs.std, Fs.std, Ar.std] at *
    try (grind [stdCmp, b_add, wr, rdyS, rdyN, zS, chS, nuB])
theorem ok_ready : ConOk Try.prog 55 (c_ready Gs.std) := by
  refine con_of (FsOk.cons ok_check (FsOk.cons ok_mb (FsOk.cons ok_num (FsOk.cons ok_copied FsOk.nil rfl) rfl) rfl) rfl) Try.func55 rfl rfl fun xs h p hp => ?_
  unfold c_ready at hp
  split at hp
  · cases hp
    exact ⟨lee_le rfl, fun hC _ => x_ready _ _ _ _ hC⟩
  · cases hp

def c_acked (F : Gs) : Con := fun xs h => match xs, h with
  | [.agg [.val (.int .i64 v_b), .val (.int .i64 v_s), .sl none (.recs (.ints .u8 .nil) v_q), .val (.int .i64 _)], .one (.val (.int .i64 k))], [] => some ⟨F.g_akdB v_b v_s v_q k = true, .sa (.agg [.val (.int .i64 (F.g_akd v_b v_s v_q k).b), .val (.int .i64 (F.g_akd v_b v_s v_q k).s), .sl none (.recs (.ints .u8 .nil) (F.g_akd v_b v_s v_q k).q), .val (.int .i64 (F.g_akd v_b v_s v_q k).c)]), [], [Any, Any]⟩
  | _, _ => none
set_option maxHeartbeats 1000000 in
set_option maxRecDepth 100000 in
theorem x_acked (v_b : Int) (v_s : Int) (v_q : List E) (v_c : Int) (k : Int) (hC : Gs.std.g_akdB v_b v_s v_q k = true) : Does [] Try.f85 [.agg [.val (.int .i64 v_b), .val (.int .i64 v_s), .sl none (.recs (.ints .u8 .nil) v_q), .val (.int .i64 v_c)], .one (.val (.int .i64 k))] [] ⟨Gs.std.g_akdB v_b v_s v_q k = true, .sa (.agg [.val (.int .i64 (Gs.std.g_akd v_b v_s v_q k).b), .val (.int .i64 (Gs.std.g_akd v_b v_s v_q k).s), .sl none (.recs (.ints .u8 .nil) (Gs.std.g_akd v_b v_s v_q k).q), .val (.int .i64 (Gs.std.g_akd v_b v_s v_q k).c)]), [], [Any, Any]⟩ := by
  intro b gv
  have hk := of_decide_eq_true (show decide (0 ≤ k ∧ k ≤ v_s ∧ k ≤ v_q.length ∧ v_s ≤ 16 ∧ 0 ≤ v_b ∧ v_b ≤ 2147483647) = true from hC)
  generalize hF : Gs.std = F at hC ⊢
  generalize hA : Ar.std = A
  generalize hL : Lp _ _ _ = L
  obtain ⟨Z, zq⟩ := z_all
  refine cd_open (lp_mono hL) zq rfl ?_
  repeat' (first
    | (refine z_open zq ?_; try dsimp only)
    | refine cd_seq zq ?_ (lp_mono hL)
    | refine cd_blk zq ?_
    | refine cd_ret ?_
    | refine cd_skip ?_
    | refine cd_exit ?_
    | refine cd_loop ?_
    | refine cd_cond rfl ?_
    | refine cd_condT rfl ?_
    | refine cd_condF rfl ?_
    | (refine Cd.mk ?_; cbv)
    | (refine Ends1.mk ?_; cbv)
    | (refine Fin1.mk ?_; cbv)
    | exact trivial
    | refine And.intro ?_ ?_
    | refine orf fun _ => ?_
    | refine ort fun _ => ?_)
  all_goals
    clear hL zq Z
    subst hF hA
    simp only [Gs.std, Ar.std, Int.toNat_natCast, List.take_length] at *
    try (grind [stdCmp, b_add, b_sub, wr, akdS])
theorem ok_acked : ConOk Try.prog 85 (c_acked Gs.std) := by
  refine con_of FsOk.nil Try.func85 rfl rfl fun xs h p hp => ?_
  unfold c_acked at hp
  split at hp
  · cases hp
    exact ⟨lee_le rfl, fun hC _ => x_acked _ _ _ _ _ hC⟩
  · cases hp

def c_ack (F : Gs) : Con := fun xs h => match xs, h with
  | [.agg [.val (.int .i64 v_b), .val (.int .i64 v_s), .sl none (.recs (.ints .u8 .nil) v_q), .val (.int .i64 v_c)], .one (.val (.int .i64 k))], [] => some ⟨F.g_lq v_q = true, .tup [.agg [.val (.int .i64 (F.g_ack v_b v_s v_q v_c k).b), .val (.int .i64 (F.g_ack v_b v_s v_q v_c k).s), .sl none (.recs (.ints .u8 .nil) (F.g_ack v_b v_s v_q v_c k).q), .val (.int .i64 (F.g_ack v_b v_s v_q v_c k).c)], I (F.g_ack v_b v_s v_q v_c k).e], [], [Any, Any]⟩
  | _, _ => none
set_option maxHeartbeats 2000000 in
set_option maxRecDepth 100000 in
theorem x_ack (v_b : Int) (v_s : Int) (v_q : List E) (v_c : Int) (k : Int) (hC : Gs.std.g_lq v_q = true) : Does [(63, c_check Fs.std), (85, c_acked Gs.std), (73, c_copied Fs.std)] Try.f72 [.agg [.val (.int .i64 v_b), .val (.int .i64 v_s), .sl none (.recs (.ints .u8 .nil) v_q), .val (.int .i64 v_c)], .one (.val (.int .i64 k))] [] ⟨Gs.std.g_lq v_q = true, .tup [.agg [.val (.int .i64 (Gs.std.g_ack v_b v_s v_q v_c k).b), .val (.int .i64 (Gs.std.g_ack v_b v_s v_q v_c k).s), .sl none (.recs (.ints .u8 .nil) (Gs.std.g_ack v_b v_s v_q v_c k).q), .val (.int .i64 (Gs.std.g_ack v_b v_s v_q v_c k).c)], I (Gs.std.g_ack v_b v_s v_q v_c k).e], [], [Any, Any]⟩ := by
  intro b gv
  have hlq : v_q.length ≤ 100000 := of_decide_eq_true (show decide (v_q.length ≤ 100000) = true from hC)
  have hm := may_ok (b := v_b) (s := v_s) (q := v_q) (c := v_c)
  have hd := fun h => ok_drop (q := v_q) h (k - v_b).toNat
  have hfs := (FsOk.cons ok_check (FsOk.cons ok_acked (FsOk.cons ok_copied FsOk.nil rfl) rfl) rfl)
  generalize hF : Gs.std = F at hC hfs ⊢
  generalize hG0 : Fs.std = G0 at hC hfs ⊢
  generalize hA : Ar.std = A
  generalize hL : Lp _ _ _ = L
  obtain ⟨Z, zq⟩ := z_all
  refine cd_open (lp_mono hL) zq rfl ?_
  repeat' (first
    | (refine z_open zq ?_; try dsimp only)
    | refine cd_seq zq ?_ (lp_mono hL)
    | refine cd_blk zq ?_
    | refine cd_ret ?_
    | refine cd_skip ?_
    | refine cd_exit ?_
    | refine cd_loop ?_
    | refine cd_cond rfl ?_
    | refine cd_condT rfl ?_
    | refine cd_condF rfl ?_
    | (refine Cd.mk ?_; cbv)
    | (refine Ends1.mk ?_; cbv)
    | (refine Fin1.mk ?_; cbv)
    | exact trivial
    | refine And.intro ?_ ?_
    | refine orf fun _ => ?_
    | refine ort fun _ => ?_)
  all_goals
    clear hL zq Z hfs
    subst hF hA hG0
    simp only [Gs.std, Fs.std, Ar.std] at *
    try (grind [stdCmp, b_add, b_sub, wr, ackS, akdS, akdB, zS, chS])
theorem ok_ack : ConOk Try.prog 72 (c_ack Gs.std) := by
  refine con_of (FsOk.cons ok_check (FsOk.cons ok_acked (FsOk.cons ok_copied FsOk.nil rfl) rfl) rfl) Try.func72 rfl rfl fun xs h p hp => ?_
  unfold c_ack at hp
  split at hp
  · cases hp
    exact ⟨lee_le rfl, fun hC _ => x_ack _ _ _ _ _ hC⟩
  · cases hp

theorem aw1 : pushS 0 0 [] 0 [120] 9 = ⟨0, 0, [[D.ints [120]]], 0, 0⟩ := by rfl
theorem aw2 : rdyS 0 0 [[D.ints [120]]] 0 = ⟨0, 1, [[D.ints [120]]], 4, 0⟩ := by rfl
theorem aw3 : rdyN 0 0 [[D.ints [120]]] 0 = [[D.int 0, D.ints [120]]] := by rfl
theorem aw4 : ackS 0 1 [[D.ints [120]]] 4 1 = ⟨1, 0, [], 0, 0⟩ := by rfl

def c_awake (_ : Gs) : Con := fun xs h => match xs, h with
  | [], [] => some ⟨True, .sa (B true), [], []⟩
  | _, _ => none
end Go.Proofs.Ytakebkfhigadiaa.SeS
