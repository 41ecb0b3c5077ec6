/-
  what an act does in an air. No condition but size.
-/
import Derived.Test.YtphbfoafgfnmmaaSkM
import Derived.Test.YtphbfoafgfnmmaaSkP
namespace Go.Proofs.Ytphbfoafgfnmmaa.SkN
open Go Go.Proofs.Ytphbfoafgfnmmaa.Ry Go.Proofs.Ytphbfoafgfnmmaa.SkR Go.Proofs.Ytphbfoafgfnmmaa.SkT Go.Proofs.Ytphbfoafgfnmmaa.SkO Go.Proofs.Ytphbfoafgfnmmaa.SkC Go.Proofs.Ytphbfoafgfnmmaa.SkD Go.Proofs.Ytphbfoafgfnmmaa.SkP Go.Proofs.Ytphbfoafgfnmmaa.SkB Go.Proofs.Ytphbfoafgfnmmaa.SkL Go.Proofs.Ytphbfoafgfnmmaa.SkM

def adF (f u : List E) (k a b n w : Int) : List E := if chA f u = 0 then doQ (cpF f) u (tabF u) k a b n w else []
def adU (f u : List E) (k a b w : Int) : List E := if chA f u = 0 then d1U u k a b w else []
def adG (f u : List E) (k a b n : Int) : FF := if chA f u = 0 then doF (d1Q (cpF f) u (tabF u) k a b) k n else ⟨0, 0, [], false, false⟩
def adOk (f u : List E) : Bool := decide (f.length ≤ 1000000 ∧ u.length ≤ 1000000 ∧ totF f ≤ 100000)
theorem tot_mem {f : List E} {y : E} (h : y ∈ f) : (rl y 2).length ≤ totF f := by
  unfold totF
  induction f with
  | nil => cases h
  | cons z f ih =>
    rw [List.map_cons, List.sum_cons]
    rcases List.mem_cons.1 h with rfl | h
    · omega
    · have := ih h
      omega
theorem cp_mem {f : List E} {n : Nat} (h : totF f ≤ n) : ∀ y ∈ cpF f, (rl y 2).length ≤ n := by
  intro y hy
  obtain ⟨z, hz, rfl⟩ := List.mem_map.1 hy
  have := tot_mem hz
  show (rl z 2).length ≤ n
  omega

structure Sn where
  n_f : List E → List E → Int → Int → Int → Int → Int → List E
  n_u : List E → List E → Int → Int → Int → Int → List E
  n_g : List E → List E → Int → Int → Int → Int → FF
  n_e : List E → List E → Int
  n_k : List E → List E → Bool
def Sn.std : Sn := ⟨adF, adU, adG, chA, adOk⟩

def c_ado (F : Sn) : Con := fun xs h => match xs, h with
  | [.agg [.sl none (.recs (.int .i64 (.int .i64 (.ints .u8 (.bool .nil)))) a_f), .sl none (.recs (.int .i64 (.int .i64 (.int .i64 .nil))) a_u)], .agg [.val (.int .i64 o_k), .val (.int .i64 o_a), .val (.int .i64 o_b), .val (.int .i64 o_n), .val (.int .i64 o_w)]], [] => some ⟨F.n_k a_f a_u = true, .tup [.agg [.sl none (.recs (.int .i64 (.int .i64 (.ints .u8 (.bool .nil)))) (F.n_f a_f a_u o_k o_a o_b o_n o_w)), .sl none (.recs (.int .i64 (.int .i64 (.int .i64 .nil))) (F.n_u a_f a_u o_k o_a o_b o_w))], .agg [.val (.int .i64 (F.n_g a_f a_u o_k o_a o_b o_n).a), .val (.int .i64 (F.n_g a_f a_u o_k o_a o_b o_n).b), .sl none (.ints .u8 (F.n_g a_f a_u o_k o_a o_b o_n).l), .val (.bool (F.n_g a_f a_u o_k o_a o_b o_n).x)], B (F.n_g a_f a_u o_k o_a o_b o_n).c, I (F.n_e a_f a_u)], [], [Any, Any]⟩
  | _, _ => none
set_option maxHeartbeats 4000000 in
set_option maxRecDepth 100000 in
theorem x_ado (a_f : List E) (a_u : List E) (o_k : Int) (o_a : Int) (o_b : Int) (o_n : Int) (o_w : Int) (hC : Sn.std.n_k a_f a_u = true) : Does [(12, c_acheck SkD.Sd.std), (25, c_of SkO.So.std), (26, c_do SkM.Sm.std), (27, c_send SkO.So.std)] Try.f10 [.agg [.sl none (.recs (.int .i64 (.int .i64 (.ints .u8 (.bool .nil)))) a_f), .sl none (.recs (.int .i64 (.int .i64 (.int .i64 .nil))) a_u)], .agg [.val (.int .i64 o_k), .val (.int .i64 o_a), .val (.int .i64 o_b), .val (.int .i64 o_n), .val (.int .i64 o_w)]] [] ⟨Sn.std.n_k a_f a_u = true, .tup [.agg [.sl none (.recs (.int .i64 (.int .i64 (.ints .u8 (.bool .nil)))) (Sn.std.n_f a_f a_u o_k o_a o_b o_n o_w)), .sl none (.recs (.int .i64 (.int .i64 (.int .i64 .nil))) (Sn.std.n_u a_f a_u o_k o_a o_b o_w))], .agg [.val (.int .i64 (Sn.std.n_g a_f a_u o_k o_a o_b o_n).a), .val (.int .i64 (Sn.std.n_g a_f a_u o_k o_a o_b o_n).b), .sl none (.ints .u8 (Sn.std.n_g a_f a_u o_k o_a o_b o_n).l), .val (.bool (Sn.std.n_g a_f a_u o_k o_a o_b o_n).x)], B (Sn.std.n_g a_f a_u o_k o_a o_b o_n).c, I (Sn.std.n_e a_f a_u)], [], [Any, Any]⟩ := by
  intro b gv
  have hk : a_f.length ≤ 1000000 ∧ a_u.length ≤ 1000000 ∧ totF a_f ≤ 100000 := of_decide_eq_true (show decide _ = true from hC)
  have hf := ch_f ⟨hk.1, show totF a_f ≤ 1000000000 by omega⟩
  have ho := fun h => all_lOk hk.2.1 (ch_all (f := a_f) h).1
  have htl := tab_len a_u
  have hcl := cp_len a_f
  have h01 := ch_01 a_f a_u
  have hcm := cp_mem hk.2.2
  have hfs := (FsOk.cons ok_acheck (FsOk.cons ok_of (FsOk.cons ok_do (FsOk.cons ok_send FsOk.nil rfl) rfl) rfl) rfl)
  generalize hF : Sn.std = F at hC hfs ⊢
  generalize hG0 : SkO.So.std = G0 at hC hfs ⊢
  generalize hG1 : SkD.Sd.std = G1 at hC hfs ⊢
  generalize hG2 : SkM.Sm.std = G2 at hC hfs ⊢
  generalize hA : Ar.std = A
  generalize hL : Lp _ _ _ = L
  obtain ⟨Z, zq⟩ := z_all
  refine @cd_open _ _ _ _ _ _ _ (lp_mono hL) _ _ zq rfl ?_
  repeat' (first
    | (refine z_open zq ?_; try dsimp only)
    | refine cd_seq zq ?_ (lp_mono hL)
    | refine cd_blk zq ?_
    | refine cd_ret ?_
    | refine cd_skip ?_
    | refine cd_exit ?_
    | refine cd_loop ?_
    | refine cd_cond rfl ?_
    | refine cd_condT rfl ?_
    | refine cd_condF rfl ?_
    | (refine Cd.mk ?_; cbv)
    | (refine Ends1.mk ?_; cbv)
    | (refine Fin1.mk ?_; cbv)
    | exact trivial
    | refine And.intro ?_ ?_
    | refine orf fun _ => ?_
    | refine ort fun _ => ?_)
  skip -- hfs
  all_goals (clear hL hfs zq Z; subst hA hF hG0 hG1 hG2; simp only [Sn.std, SkO.So.std, SkD.Sd.std, SkM.Sm.std, Ar.std] at * <;> grind [stdCmp, adF, adU, adG]; done)
theorem ok_ado : ConOk Try.prog 10 (c_ado Sn.std) := by
  refine con_of (FsOk.cons ok_acheck (FsOk.cons ok_of (FsOk.cons ok_do (FsOk.cons ok_send FsOk.nil rfl) rfl) rfl) rfl) Try.func10 rfl rfl fun xs h p hp => ?_
  unfold c_ado at hp
  split at hp
  · cases hp
    exact ⟨lee_le rfl, fun hC _ => @x_ado _ _ _ _ _ _ _ hC⟩
  · cases hp
end Go.Proofs.Ytphbfoafgfnmmaa.SkN
