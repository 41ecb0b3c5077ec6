/-
  the answer's way. No condition.
-/
import Derived.Test.YtfioaidmgcibaaaTrQ
namespace Go.Proofs.Ytfioaidmgcibaaa.TrW
open Go Go.Proofs.Ytfioaidmgcibaaa.Ry Go.Proofs.Ytfioaidmgcibaaa.So Go.Proofs.Ytfioaidmgcibaaa.JoS Go.Proofs.Ytfioaidmgcibaaa.EcX Go.Proofs.Ytfioaidmgcibaaa.EgR Go.Proofs.Ytfioaidmgcibaaa.EgL Go.Proofs.Ytfioaidmgcibaaa.SpR Go.Proofs.Ytfioaidmgcibaaa.SpQ Go.Proofs.Ytfioaidmgcibaaa.SpK Go.Proofs.Ytfioaidmgcibaaa.SpT Go.Proofs.Ytfioaidmgcibaaa.SpL Go.Proofs.Ytfioaidmgcibaaa.SpN Go.Proofs.Ytfioaidmgcibaaa.TrK Go.Proofs.Ytfioaidmgcibaaa.TrB Go.Proofs.Ytfioaidmgcibaaa.TrR Go.Proofs.Ytfioaidmgcibaaa.TrC Go.Proofs.Ytfioaidmgcibaaa.TrQ

structure Tw where
  w_wy : List E → Int → Int → List Int
  w_ok : List E → Int → Int → Bool
def Tw.std : Tw := ⟨wyB, fun l a b => decide (rtE l a b = 0 ∧ l.length ≤ 512)⟩

def c_rway (F : Tw) : Con := fun xs h => match xs, h with
  | [.one (.sl none (.recs (.int .i64 (.int .i64 (.int .i64 .nil))) l)), .one (.val (.int .i64 a)), .one (.val (.int .i64 d))], [] => some ⟨F.w_ok l a d = true, .sa (.one (.sl none (.ints .i64 (F.w_wy l a d)))), [], [Any, Any, Any]⟩
  | _, _ => none
set_option cbv.maxSteps 4000000 in
set_option maxHeartbeats 4000000 in
set_option maxRecDepth 100000 in
theorem x_rway (l : List E) (a : Int) (d : Int) (hC : Tw.std.w_ok l a d = true) : Does [(72, c_on TrQ.Tq.std)] Try.f82 [.one (.sl none (.recs (.int .i64 (.int .i64 (.int .i64 .nil))) l)), .one (.val (.int .i64 a)), .one (.val (.int .i64 d))] [] ⟨Tw.std.w_ok l a d = true, .sa (.one (.sl none (.ints .i64 (Tw.std.w_wy l a d)))), [], [Any, Any, Any]⟩ := by
  intro b gv
  have hk : rtE l a d = 0 ∧ l.length ≤ 512 := of_decide_eq_true (show decide (rtE l a d = 0 ∧ l.length ≤ 512) = true from hC)
  have hin : inR l = true := in_R (all_good (rt_0 hk.1).2.2.1) (by omega)
  have hol := on_len l a d
  have hfs := (FsOk.cons ok_on FsOk.nil rfl)
  generalize hF : Tw.std = F at hC hfs ⊢
  generalize hG0 : TrQ.Tq.std = G0 at hC hfs ⊢
  generalize hA : Ar.std = A
  generalize hL : Lp _ _ _ = L
  obtain ⟨Z, zq⟩ := z_all
  refine cd_open (lp_mono hL) zq rfl ?_
  repeat' (first
    | (refine z_open zq ?_; try dsimp only)
    | refine cd_seq zq ?_ (lp_mono hL)
    | refine cd_blk zq ?_
    | refine cd_ret ?_
    | refine cd_skip ?_
    | refine cd_exit ?_
    | refine cd_loop ?_
    | refine cd_cond rfl ?_
    | refine cd_condT rfl ?_
    | refine cd_condF rfl ?_
    | (refine Cd.mk ?_; cbv)
    | (refine Ends1.mk ?_; cbv)
    | (refine Fin1.mk ?_; cbv)
    | exact trivial
    | refine And.intro ?_ ?_
    | refine orf fun _ => ?_
    | refine ort fun _ => ?_)
  all_goals first | (show L _ _ _; skip) | (clear hL hfs zq Z; subst hA hF hG0; simp only [Tw.std, TrQ.Tq.std] at * <;> grind [stdCmp]; done)
  subst hL
  refine loop_z (cx_ok hfs) (pwQ (wyB l a d)) (pwI d (G0.q_on l a d)) (pwM (wyB l a d)) rdP ⟨0, [a]⟩ ?_ ?_ ?_
  · exact wy_0 hk.1
  · cbv
    repeat' (first | exact trivial | exact rfl | refine And.intro ?_ ?_)
  rintro ⟨n, o⟩ hq O hO
  have hst := pw_all hk.1 hq
  subst hA
  generalize hA : Ar.std = A
  generalize hL : Lp _ _ _ = L
  refine cd_close zq ?_
  repeat' (first
    | (refine z_open zq ?_; try dsimp only)
    | refine cd_seq zq ?_ (lp_mono hL)
    | refine cd_blk zq ?_
    | refine cd_ret ?_
    | refine cd_skip ?_
    | refine cd_exit ?_
    | refine cd_loop ?_
    | refine cd_cond rfl ?_
    | refine cd_condT rfl ?_
    | refine cd_condF rfl ?_
    | (refine Cd.mk ?_; cbv)
    | (refine Ends1.mk ?_; cbv)
    | (refine Fin1.mk ?_; cbv)
    | exact trivial
    | refine And.intro ?_ ?_
    | refine orf fun _ => ?_
    | refine ort fun _ => ?_)
  all_goals first | (show L _ _ _; skip) | (clear hL hfs zq Z hq; subst hA hF hG0 hO; simp only [Tw.std, Ar.std] at * <;> grind [stdCmp]; done)
  rename_i hx
  have hn : ¬ o.getD n.toNat 0 = d := by
    clear hL hfs zq Z hO
    subst hA hF hG0
    simp only [Tw.std, Ar.std] at *
    grind [stdCmp]
  clear hx
  obtain ⟨s1, s2, s3, s4, s5, s6, s7, s8, s9⟩ := hst
  obtain ⟨t1, t2, t3, t4, t5⟩ := s9 hn
  have t6 : n = 0 ∨ (1 ≤ n ∧ stdBin .sub .i64 o.length 2 = n - 1 ∧ o.getD (n - 1).toNat 0 = (wyB l a d).getD (n.toNat - 1) 0) := by
    rcases Int.lt_or_le 0 n with k | k
    · exact .inr ⟨k, t5 k⟩
    · exact .inl (by omega)
  clear t5
  clear s8
  subst hL
  refine loop_z (cx_ok hfs) (psQ (wyB l a d) n (onR l a d)) (psI d (G0.q_on l a d) n (A.atI o (A.bin .sub .i64 (A.lenI o) 1)) o) (psM (onR l a d)) psR ⟨0⟩ ?_ ?_ ?_
  · exact ⟨Int.le_refl 0, Int.natCast_nonneg _, fun j hj => by simp only at hj; omega⟩
  · cbv
    repeat' (first | exact trivial | exact rfl | refine And.intro ?_ ?_)
  rintro ⟨i⟩ hq2 O2 hO2
  have hs2 := ps_step hk.1 s2 t1 hq2 (by omega)
  have k0 := hq2.1
  have k1 := hq2.2.1
  dsimp only at k0 k1
  subst hA
  generalize hA : Ar.std = A
  generalize hL : Lp _ _ _ = L
  refine cd_close zq ?_
  repeat' (first
    | (refine z_open zq ?_; try dsimp only)
    | refine cd_seq zq ?_ (lp_mono hL)
    | refine cd_blk zq ?_
    | refine cd_ret ?_
    | refine cd_skip ?_
    | refine cd_exit ?_
    | refine cd_loop ?_
    | refine cd_cond rfl ?_
    | refine cd_condT rfl ?_
    | refine cd_condF rfl ?_
    | (refine Cd.mk ?_; cbv)
    | (refine Ends1.mk ?_; cbv)
    | (refine Fin1.mk ?_; cbv)
    | exact trivial
    | refine And.intro ?_ ?_
    | refine orf fun _ => ?_
    | refine ort fun _ => ?_)
  all_goals (clear hL hfs zq Z hq hq2 s9 t1; subst hA hF hG0 hO hO2; simp only [Tw.std, TrQ.Tq.std, Ar.std] at *)
  all_goals (simp only [s1, ← s7, oe] at *)
  all_goals (rcases t6 with k | ⟨k, e5, e6⟩)
  all_goals (try simp only [e5, ← e6] at *)
  all_goals (clear hC hk hin hol)
  all_goals (try generalize (wyB l a d).getD (n.toNat - 1) 0 = P0 at *)
  all_goals (try generalize o.getD (n - 1).toNat 0 = P0 at *)
  all_goals (try generalize (wyB l a d).getD (n.toNat + 1) 0 = P1 at *)
  all_goals (try generalize o.getD n.toNat 0 = La at *)
  all_goals (try generalize ri ((onR l a d).getD i.toNat []) 0 = y0 at *)
  all_goals (try generalize ri ((onR l a d).getD i.toNat []) 1 = y1 at *)
  all_goals first | assumption | grind [stdCmp]
theorem ok_rway : ConOk Try.prog 82 (c_rway Tw.std) := by
  refine con_of (FsOk.cons ok_on FsOk.nil rfl) Try.func82 rfl rfl fun xs h p hp => ?_
  unfold c_rway at hp
  split at hp
  · cases hp
    exact ⟨lee_le rfl, fun hC _ => x_rway _ _ _ hC⟩
  · cases hp
end Go.Proofs.Ytfioaidmgcibaaa.TrW
