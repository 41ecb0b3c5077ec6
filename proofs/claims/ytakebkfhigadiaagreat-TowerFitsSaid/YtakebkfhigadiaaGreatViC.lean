
/-
  which views may be. No condition.
-/
import Derived.Test.YtakebkfhigadiaaGreatViR
namespace Go.Proofs.YtakebkfhigadiaaGreat.ViC
open Go Go.Proofs.YtakebkfhigadiaaGreat.Ry Go.Proofs.YtakebkfhigadiaaGreat.Cmp Go.Proofs.YtakebkfhigadiaaGreat.ViR

structure Vc where
  c_ch : List Int → List E → Int
  c_may : List Int → List E → Bool
  c_ok : List Int → List E → Bool
def Vc.std : Vc := ⟨chV, mayV, fun n l => decide (n.length ≤ 1000000 ∧ l.length ≤ 1000000)⟩

def c_vcheck (F : Vc) : Con := fun xs h => match xs, h with
  | [.agg [.sl none (.ints .i64 v_n), .sl none (.recs (.int .i64 (.int .i64 (.int .i64 (.int .i64 (.bool .nil))))) v_l)]], [] => some ⟨F.c_ok v_n v_l = true, .sa (I (F.c_ch v_n v_l)), [], [Any]⟩
  | _, _ => none
set_option cbv.maxSteps 4000000 in
set_option maxHeartbeats 8000000 in
set_option maxRecDepth 100000 in
theorem x_vcheck (v_n : List Int) (v_l : List E) (hC : Vc.std.c_ok v_n v_l = true) : Does [(108, c_enode ViR.Vs.std), (207, c_maybe ViR.Vs.std), (208, c_has ViR.Vs.std), (209, c_kcmp ViR.Vs.std)] Tryz.f182 [.agg [.sl none (.ints .i64 v_n), .sl none (.recs (.int .i64 (.int .i64 (.int .i64 (.int .i64 (.bool .nil))))) v_l)]] [] ⟨Vc.std.c_ok v_n v_l = true, .sa (I (Vc.std.c_ch v_n v_l)), [], [Any]⟩ := by
  intro b gv
  have hk : v_n.length ≤ 1000000 ∧ v_l.length ≤ 1000000 := of_decide_eq_true (show decide (v_n.length ≤ 1000000 ∧ v_l.length ≤ 1000000) = true from hC)
  have hfs := (FsOk.cons ok_enode (FsOk.cons ok_maybe (FsOk.cons ok_has (FsOk.cons ok_kcmp FsOk.nil rfl) rfl) rfl) rfl)
  generalize hF : Vc.std = F at hC hfs ⊢
  generalize hG0 : ViR.Vs.std = G0 at hC hfs ⊢
  generalize hA : Ar.std = A
  generalize hL : Lp _ _ _ = L
  obtain ⟨Z, zq⟩ := z_all
  refine cd_open (lp_mono hL) zq rfl ?_
  repeat' (first
    | (refine z_open zq ?_; try dsimp only)
    | refine cd_seq zq ?_ (lp_mono hL)
    | refine cd_blk zq ?_
    | refine cd_ret ?_
    | refine cd_skip ?_
    | refine cd_exit ?_
    | refine cd_loop ?_
    | refine cd_cond rfl ?_
    | refine cd_condT rfl ?_
    | refine cd_condF rfl ?_
    | (refine Cd.mk ?_; cbv)
    | (refine Ends1.mk ?_; cbv)
    | (refine Fin1.mk ?_; cbv)
    | exact trivial
    | refine And.intro ?_ ?_
    | refine orf fun _ => ?_
    | refine ort fun _ => ?_)
  subst hL
  refine loop_z (cx_ok hfs) (allQ v_n.length (okN v_n)) (vc1I A v_n v_l) (allM v_n.length) (iR 10) ⟨0⟩ ?_ ?_ ?_
  · exact all_zero _ _
  · cbv
    repeat' (first | exact trivial | exact rfl | refine And.intro ?_ ?_)
  rintro ⟨i⟩ hq O hO
  obtain ⟨e1, e2⟩ := all_num hk.1 hq
  have hst := fun h => all_step hk.1 hq h
  have hen := fun h => all_end hq h
  have hok := fun h => okN_i (n := v_n) hq.1 h
  have q0 := hq.1
  have q1 := hq.2.1
  dsimp only at q0 q1 hok
  subst hA
  generalize hA : Ar.std = A
  generalize hL : Lp _ _ _ = L
  refine cd_close zq ?_
  repeat' (first
    | (refine z_open zq ?_; try dsimp only)
    | refine cd_seq zq ?_ (lp_mono hL)
    | refine cd_blk zq ?_
    | refine cd_ret ?_
    | refine cd_skip ?_
    | refine cd_exit ?_
    | refine cd_loop ?_
    | refine cd_cond rfl ?_
    | refine cd_condT rfl ?_
    | refine cd_condF rfl ?_
    | (refine Cd.mk ?_; cbv)
    | (refine Ends1.mk ?_; cbv)
    | (refine Fin1.mk ?_; cbv)
    | exact trivial
    | refine And.intro ?_ ?_
    | refine orf fun _ => ?_
    | refine ort fun _ => ?_)
  all_goals first | (show L _ _ _; skip) | (clear hL hfs zq Z hq; subst hA hF hG0 hO; simp only [Vc.std, ViR.Vs.std, Ar.std] at *; first | assumption | (simp only [e1, e2] at *; try generalize (i - 1).toNat = m1 at *; try generalize i.toNat = k1 at *; grind [stdCmp, chV, mayV, riseN]); done)
  rename_i hx
  have hr : riseN v_n = true := by
    refine hen ?_
    clear hL hfs zq Z hq hst hok hen e1 e2
    subst hA hF hG0 hO
    simp only [Ar.std] at hx
    grind [stdCmp]
  clear hx hst hok hen e1 e2
  have hbs := fun t => bs_mem hr t
  subst hL
  refine loop_z (cx_ok hfs) (allQ v_l.length (okL v_n v_l)) (vc2I A v_n v_l) (allM v_l.length) (iR 36) ⟨0⟩ ?_ ?_ ?_
  · exact all_zero _ _
  · cbv
    repeat' (first | exact trivial | exact rfl | refine And.intro ?_ ?_)
  rintro ⟨k⟩ hq2 O2 hO2
  obtain ⟨e1, e2⟩ := all_num hk.2 hq2
  have hst := fun h => all_step hk.2 hq2 h
  have hen := fun h => all_end hq2 h
  have hok := fun h => okL_i (n := v_n) (l := v_l) hq2.1 h
  have k0 := hq2.1
  have k1 := hq2.2.1
  dsimp only at k0 k1 hok
  subst hA
  generalize hA : Ar.std = A
  generalize hL : Lp _ _ _ = L
  refine cd_close zq ?_
  repeat' (first
    | (refine z_open zq ?_; try dsimp only)
    | refine cd_seq zq ?_ (lp_mono hL)
    | refine cd_blk zq ?_
    | refine cd_ret ?_
    | refine cd_skip ?_
    | refine cd_exit ?_
    | refine cd_loop ?_
    | refine cd_cond rfl ?_
    | refine cd_condT rfl ?_
    | refine cd_condF rfl ?_
    | (refine Cd.mk ?_; cbv)
    | (refine Ends1.mk ?_; cbv)
    | (refine Fin1.mk ?_; cbv)
    | exact trivial
    | refine And.intro ?_ ?_
    | refine orf fun _ => ?_
    | refine ort fun _ => ?_)
  all_goals (clear hL hfs zq Z hq hq2; subst hA hF hG0 hO hO2; simp only [Vc.std, ViR.Vs.std, Ar.std] at *)
  all_goals (try assumption)
  all_goals (simp only [e1, e2] at *; try generalize (k - 1).toNat = m1 at *; try generalize k.toNat = k1 at *; grind [stdCmp, chV, mayV, mb1])
theorem ok_vcheck : ConOk Tryz.prog 182 (c_vcheck Vc.std) := by
  refine con_of (FsOk.cons ok_enode (FsOk.cons ok_maybe (FsOk.cons ok_has (FsOk.cons ok_kcmp FsOk.nil rfl) rfl) rfl) rfl) Tryz.func182 rfl rfl fun xs h p hp => ?_
  unfold c_vcheck at hp
  split at hp
  · cases hp
    exact ⟨lee_le rfl, fun hC _ => x_vcheck _ _ hC⟩
  · cases hp

def c_vmay (F : Vc) : Con := fun xs h => match xs, h with
  | [.agg [.sl none (.ints .i64 v_n), .sl none (.recs (.int .i64 (.int .i64 (.int .i64 (.int .i64 (.bool .nil))))) v_l)]], [] => some ⟨F.c_ok v_n v_l = true, .sa (B (F.c_may v_n v_l)), [], [Any]⟩
  | _, _ => none
end Go.Proofs.YtakebkfhigadiaaGreat.ViC
