/-
  the answer of words that are read. No condition.
-/
import Derived.Test.YtnfkphekkpigpaaWoQ
namespace Go.Proofs.Ytnfkphekkpigpaa.WoP
open Go Go.Proofs.Ytnfkphekkpigpaa.Ry Go.Proofs.Ytnfkphekkpigpaa.ViR Go.Proofs.Ytnfkphekkpigpaa.ViC Go.Proofs.Ytnfkphekkpigpaa.OctR Go.Proofs.Ytnfkphekkpigpaa.OctP Go.Proofs.Ytnfkphekkpigpaa.OctQ Go.Proofs.Ytnfkphekkpigpaa.WoR Go.Proofs.Ytnfkphekkpigpaa.WoD Go.Proofs.Ytnfkphekkpigpaa.WoQ

structure Wp where
  q_dec : List Int → RQ
  q_by : List Int → Bool
def Wp.std : Wp := ⟨rdecW, byL⟩

def c_rwdecode (F : Wp) : Con := fun xs h => match xs, h with
  | [.one (.sl none (.ints .u8 l))], [] => some ⟨F.q_by l = true, .tup [.agg [.val (.int .i64 ((F.q_dec l).w).k), .val (.int .i64 ((F.q_dec l).w).e), .val (.int .i64 ((F.q_dec l).w).r), .sl none (.ints .i64 ((F.q_dec l).w).n), .sl none (.recs (.int .i64 (.int .i64 (.int .i64 (.int .i64 (.bool .nil))))) ((F.q_dec l).w).l), .val (.int .i64 ((F.q_dec l).w).ck), .val (.int .i64 ((F.q_dec l).w).ca), .val (.int .i64 ((F.q_dec l).w).cb), .val (.int .i64 ((F.q_dec l).w).cs)], B (F.q_dec l).b], [], [Any]⟩
  | _, _ => none
set_option cbv.maxSteps 4000000 in
set_option maxHeartbeats 4000000 in
set_option maxRecDepth 100000 in
theorem x_rwdecode (l : List Int) (hC : Wp.std.q_by l = true) : Does [(84, c_rtake OctR.Gs.std), (36, c_rwmay WoR.Ws.std), (39, c_rwbytes WoQ.Wq.std)] Try.f41 [.one (.sl none (.ints .u8 l))] [] ⟨Wp.std.q_by l = true, .tup [.agg [.val (.int .i64 ((Wp.std.q_dec l).w).k), .val (.int .i64 ((Wp.std.q_dec l).w).e), .val (.int .i64 ((Wp.std.q_dec l).w).r), .sl none (.ints .i64 ((Wp.std.q_dec l).w).n), .sl none (.recs (.int .i64 (.int .i64 (.int .i64 (.int .i64 (.bool .nil))))) ((Wp.std.q_dec l).w).l), .val (.int .i64 ((Wp.std.q_dec l).w).ck), .val (.int .i64 ((Wp.std.q_dec l).w).ca), .val (.int .i64 ((Wp.std.q_dec l).w).cb), .val (.int .i64 ((Wp.std.q_dec l).w).cs)], B (Wp.std.q_dec l).b], [], [Any]⟩ := by
  intro b gv
  have hk : l.length ≤ 1000000 ∧ byB l = true := by
    have h : (decide (l.length ≤ 1000000) && byB l) = true := hC
    rw [Bool.and_eq_true, decide_eq_true_eq] at h
    exact h
  have hty : ∀ (r : List Int) (e w : Int), byB r = true → byB (tkR r e w) = true := fun r e w h => tkR_by h e w
  have hbl := byt_by hk.2
  have hfs := (FsOk.cons ok_rtake (FsOk.cons ok_rwmay (FsOk.cons ok_rwbytes FsOk.nil rfl) rfl) rfl)
  generalize hF : Wp.std = F at hC hfs ⊢
  generalize hG0 : WoR.Ws.std = G0 at hC hfs ⊢
  generalize hG1 : OctR.Gs.std = G1 at hC hfs ⊢
  generalize hG2 : WoQ.Wq.std = G2 at hC hfs ⊢
  generalize hA : Ar.std = A
  generalize hL : Lp _ _ _ = L
  obtain ⟨Z, zq⟩ := z_all
  refine cd_open (lp_mono hL) zq rfl ?_
  repeat' (first
    | (refine z_open zq ?_; try dsimp only)
    | refine cd_seq zq ?_ (lp_mono hL)
    | refine cd_blk zq ?_
    | refine cd_ret ?_
    | refine cd_skip ?_
    | refine cd_exit ?_
    | refine cd_loop ?_
    | refine cd_cond rfl ?_
    | refine cd_condT rfl ?_
    | refine cd_condF rfl ?_
    | (refine Cd.mk ?_; cbv)
    | (refine Ends1.mk ?_; cbv)
    | (refine Fin1.mk ?_; cbv)
    | exact trivial
    | refine And.intro ?_ ?_
    | refine orf fun _ => ?_
    | refine ort fun _ => ?_)
  all_goals first | (show L _ _ _; skip) | (clear hL hfs zq Z; subst hA hF hG0 hG1 hG2; simp only [Wp.std, OctR.Gs.std, OctR.Fs.std] at * <;> grind [stdCmp]; done)
  subst hL
  refine loop_z (cx_ok hfs) (r1Q l) (r1I l) (r1M) r1R ⟨⟨(G1.f.f_tkN l 0 1), (G1.f.f_tkN (G1.f.f_tkR l 0 1) (G1.f.f_tkE l 0 1) 4), (G1.f.f_tkN (G1.f.f_tkR (G1.f.f_tkR l 0 1) (G1.f.f_tkE l 0 1) 4) (G1.f.f_tkE (G1.f.f_tkR l 0 1) (G1.f.f_tkE l 0 1) 4) 1), [], [], (G1.f.f_tkN (G1.f.f_tkR (G1.f.f_tkR (G1.f.f_tkR l 0 1) (G1.f.f_tkE l 0 1) 4) (G1.f.f_tkE (G1.f.f_tkR l 0 1) (G1.f.f_tkE l 0 1) 4) 1) (G1.f.f_tkE (G1.f.f_tkR (G1.f.f_tkR l 0 1) (G1.f.f_tkE l 0 1) 4) (G1.f.f_tkE (G1.f.f_tkR l 0 1) (G1.f.f_tkE l 0 1) 4) 1) 1), (G1.f.f_tkN (G1.f.f_tkR (G1.f.f_tkR (G1.f.f_tkR (G1.f.f_tkR l 0 1) (G1.f.f_tkE l 0 1) 4) (G1.f.f_tkE (G1.f.f_tkR l 0 1) (G1.f.f_tkE l 0 1) 4) 1) (G1.f.f_tkE (G1.f.f_tkR (G1.f.f_tkR l 0 1) (G1.f.f_tkE l 0 1) 4) (G1.f.f_tkE (G1.f.f_tkR l 0 1) (G1.f.f_tkE l 0 1) 4) 1) 1) (G1.f.f_tkE (G1.f.f_tkR (G1.f.f_tkR (G1.f.f_tkR l 0 1) (G1.f.f_tkE l 0 1) 4) (G1.f.f_tkE (G1.f.f_tkR l 0 1) (G1.f.f_tkE l 0 1) 4) 1) (G1.f.f_tkE (G1.f.f_tkR (G1.f.f_tkR l 0 1) (G1.f.f_tkE l 0 1) 4) (G1.f.f_tkE (G1.f.f_tkR l 0 1) (G1.f.f_tkE l 0 1) 4) 1) 1) 1), (G1.f.f_tkN (G1.f.f_tkR (G1.f.f_tkR (G1.f.f_tkR (G1.f.f_tkR (G1.f.f_tkR l 0 1) (G1.f.f_tkE l 0 1) 4) (G1.f.f_tkE (G1.f.f_tkR l 0 1) (G1.f.f_tkE l 0 1) 4) 1) (G1.f.f_tkE (G1.f.f_tkR (G1.f.f_tkR l 0 1) (G1.f.f_tkE l 0 1) 4) (G1.f.f_tkE (G1.f.f_tkR l 0 1) (G1.f.f_tkE l 0 1) 4) 1) 1) (G1.f.f_tkE (G1.f.f_tkR (G1.f.f_tkR (G1.f.f_tkR l 0 1) (G1.f.f_tkE l 0 1) 4) (G1.f.f_tkE (G1.f.f_tkR l 0 1) (G1.f.f_tkE l 0 1) 4) 1) (G1.f.f_tkE (G1.f.f_tkR (G1.f.f_tkR l 0 1) (G1.f.f_tkE l 0 1) 4) (G1.f.f_tkE (G1.f.f_tkR l 0 1) (G1.f.f_tkE l 0 1) 4) 1) 1) 1) (G1.f.f_tkE (G1.f.f_tkR (G1.f.f_tkR (G1.f.f_tkR (G1.f.f_tkR l 0 1) (G1.f.f_tkE l 0 1) 4) (G1.f.f_tkE (G1.f.f_tkR l 0 1) (G1.f.f_tkE l 0 1) 4) 1) (G1.f.f_tkE (G1.f.f_tkR (G1.f.f_tkR l 0 1) (G1.f.f_tkE l 0 1) 4) (G1.f.f_tkE (G1.f.f_tkR l 0 1) (G1.f.f_tkE l 0 1) 4) 1) 1) (G1.f.f_tkE (G1.f.f_tkR (G1.f.f_tkR (G1.f.f_tkR l 0 1) (G1.f.f_tkE l 0 1) 4) (G1.f.f_tkE (G1.f.f_tkR l 0 1) (G1.f.f_tkE l 0 1) 4) 1) (G1.f.f_tkE (G1.f.f_tkR (G1.f.f_tkR l 0 1) (G1.f.f_tkE l 0 1) 4) (G1.f.f_tkE (G1.f.f_tkR l 0 1) (G1.f.f_tkE l 0 1) 4) 1) 1) 1) 1), (G1.f.f_tkN (G1.f.f_tkR (G1.f.f_tkR (G1.f.f_tkR (G1.f.f_tkR (G1.f.f_tkR (G1.f.f_tkR l 0 1) (G1.f.f_tkE l 0 1) 4) (G1.f.f_tkE (G1.f.f_tkR l 0 1) (G1.f.f_tkE l 0 1) 4) 1) (G1.f.f_tkE (G1.f.f_tkR (G1.f.f_tkR l 0 1) (G1.f.f_tkE l 0 1) 4) (G1.f.f_tkE (G1.f.f_tkR l 0 1) (G1.f.f_tkE l 0 1) 4) 1) 1) (G1.f.f_tkE (G1.f.f_tkR (G1.f.f_tkR (G1.f.f_tkR l 0 1) (G1.f.f_tkE l 0 1) 4) (G1.f.f_tkE (G1.f.f_tkR l 0 1) (G1.f.f_tkE l 0 1) 4) 1) (G1.f.f_tkE (G1.f.f_tkR (G1.f.f_tkR l 0 1) (G1.f.f_tkE l 0 1) 4) (G1.f.f_tkE (G1.f.f_tkR l 0 1) (G1.f.f_tkE l 0 1) 4) 1) 1) 1) (G1.f.f_tkE (G1.f.f_tkR (G1.f.f_tkR (G1.f.f_tkR (G1.f.f_tkR l 0 1) (G1.f.f_tkE l 0 1) 4) (G1.f.f_tkE (G1.f.f_tkR l 0 1) (G1.f.f_tkE l 0 1) 4) 1) (G1.f.f_tkE (G1.f.f_tkR (G1.f.f_tkR l 0 1) (G1.f.f_tkE l 0 1) 4) (G1.f.f_tkE (G1.f.f_tkR l 0 1) (G1.f.f_tkE l 0 1) 4) 1) 1) (G1.f.f_tkE (G1.f.f_tkR (G1.f.f_tkR (G1.f.f_tkR l 0 1) (G1.f.f_tkE l 0 1) 4) (G1.f.f_tkE (G1.f.f_tkR l 0 1) (G1.f.f_tkE l 0 1) 4) 1) (G1.f.f_tkE (G1.f.f_tkR (G1.f.f_tkR l 0 1) (G1.f.f_tkE l 0 1) 4) (G1.f.f_tkE (G1.f.f_tkR l 0 1) (G1.f.f_tkE l 0 1) 4) 1) 1) 1) 1) (G1.f.f_tkE (G1.f.f_tkR (G1.f.f_tkR (G1.f.f_tkR (G1.f.f_tkR (G1.f.f_tkR l 0 1) (G1.f.f_tkE l 0 1) 4) (G1.f.f_tkE (G1.f.f_tkR l 0 1) (G1.f.f_tkE l 0 1) 4) 1) (G1.f.f_tkE (G1.f.f_tkR (G1.f.f_tkR l 0 1) (G1.f.f_tkE l 0 1) 4) (G1.f.f_tkE (G1.f.f_tkR l 0 1) (G1.f.f_tkE l 0 1) 4) 1) 1) (G1.f.f_tkE (G1.f.f_tkR (G1.f.f_tkR (G1.f.f_tkR l 0 1) (G1.f.f_tkE l 0 1) 4) (G1.f.f_tkE (G1.f.f_tkR l 0 1) (G1.f.f_tkE l 0 1) 4) 1) (G1.f.f_tkE (G1.f.f_tkR (G1.f.f_tkR l 0 1) (G1.f.f_tkE l 0 1) 4) (G1.f.f_tkE (G1.f.f_tkR l 0 1) (G1.f.f_tkE l 0 1) 4) 1) 1) 1) (G1.f.f_tkE (G1.f.f_tkR (G1.f.f_tkR (G1.f.f_tkR (G1.f.f_tkR l 0 1) (G1.f.f_tkE l 0 1) 4) (G1.f.f_tkE (G1.f.f_tkR l 0 1) (G1.f.f_tkE l 0 1) 4) 1) (G1.f.f_tkE (G1.f.f_tkR (G1.f.f_tkR l 0 1) (G1.f.f_tkE l 0 1) 4) (G1.f.f_tkE (G1.f.f_tkR l 0 1) (G1.f.f_tkE l 0 1) 4) 1) 1) (G1.f.f_tkE (G1.f.f_tkR (G1.f.f_tkR (G1.f.f_tkR l 0 1) (G1.f.f_tkE l 0 1) 4) (G1.f.f_tkE (G1.f.f_tkR l 0 1) (G1.f.f_tkE l 0 1) 4) 1) (G1.f.f_tkE (G1.f.f_tkR (G1.f.f_tkR l 0 1) (G1.f.f_tkE l 0 1) 4) (G1.f.f_tkE (G1.f.f_tkR l 0 1) (G1.f.f_tkE l 0 1) 4) 1) 1) 1) 1) 4)⟩, (G1.f.f_tkN (G1.f.f_tkR (G1.f.f_tkR (G1.f.f_tkR (G1.f.f_tkR (G1.f.f_tkR (G1.f.f_tkR (G1.f.f_tkR l 0 1) (G1.f.f_tkE l 0 1) 4) (G1.f.f_tkE (G1.f.f_tkR l 0 1) (G1.f.f_tkE l 0 1) 4) 1) (G1.f.f_tkE (G1.f.f_tkR (G1.f.f_tkR l 0 1) (G1.f.f_tkE l 0 1) 4) (G1.f.f_tkE (G1.f.f_tkR l 0 1) (G1.f.f_tkE l 0 1) 4) 1) 1) (G1.f.f_tkE (G1.f.f_tkR (G1.f.f_tkR (G1.f.f_tkR l 0 1) (G1.f.f_tkE l 0 1) 4) (G1.f.f_tkE (G1.f.f_tkR l 0 1) (G1.f.f_tkE l 0 1) 4) 1) (G1.f.f_tkE (G1.f.f_tkR (G1.f.f_tkR l 0 1) (G1.f.f_tkE l 0 1) 4) (G1.f.f_tkE (G1.f.f_tkR l 0 1) (G1.f.f_tkE l 0 1) 4) 1) 1) 1) (G1.f.f_tkE (G1.f.f_tkR (G1.f.f_tkR (G1.f.f_tkR (G1.f.f_tkR l 0 1) (G1.f.f_tkE l 0 1) 4) (G1.f.f_tkE (G1.f.f_tkR l 0 1) (G1.f.f_tkE l 0 1) 4) 1) (G1.f.f_tkE (G1.f.f_tkR (G1.f.f_tkR l 0 1) (G1.f.f_tkE l 0 1) 4) (G1.f.f_tkE (G1.f.f_tkR l 0 1) (G1.f.f_tkE l 0 1) 4) 1) 1) (G1.f.f_tkE (G1.f.f_tkR (G1.f.f_tkR (G1.f.f_tkR l 0 1) (G1.f.f_tkE l 0 1) 4) (G1.f.f_tkE (G1.f.f_tkR l 0 1) (G1.f.f_tkE l 0 1) 4) 1) (G1.f.f_tkE (G1.f.f_tkR (G1.f.f_tkR l 0 1) (G1.f.f_tkE l 0 1) 4) (G1.f.f_tkE (G1.f.f_tkR l 0 1) (G1.f.f_tkE l 0 1) 4) 1) 1) 1) 1) (G1.f.f_tkE (G1.f.f_tkR (G1.f.f_tkR (G1.f.f_tkR (G1.f.f_tkR (G1.f.f_tkR l 0 1) (G1.f.f_tkE l 0 1) 4) (G1.f.f_tkE (G1.f.f_tkR l 0 1) (G1.f.f_tkE l 0 1) 4) 1) (G1.f.f_tkE (G1.f.f_tkR (G1.f.f_tkR l 0 1) (G1.f.f_tkE l 0 1) 4) (G1.f.f_tkE (G1.f.f_tkR l 0 1) (G1.f.f_tkE l 0 1) 4) 1) 1) (G1.f.f_tkE (G1.f.f_tkR (G1.f.f_tkR (G1.f.f_tkR l 0 1) (G1.f.f_tkE l 0 1) 4) (G1.f.f_tkE (G1.f.f_tkR l 0 1) (G1.f.f_tkE l 0 1) 4) 1) (G1.f.f_tkE (G1.f.f_tkR (G1.f.f_tkR l 0 1) (G1.f.f_tkE l 0 1) 4) (G1.f.f_tkE (G1.f.f_tkR l 0 1) (G1.f.f_tkE l 0 1) 4) 1) 1) 1) (G1.f.f_tkE (G1.f.f_tkR (G1.f.f_tkR (G1.f.f_tkR (G1.f.f_tkR l 0 1) (G1.f.f_tkE l 0 1) 4) (G1.f.f_tkE (G1.f.f_tkR l 0 1) (G1.f.f_tkE l 0 1) 4) 1) (G1.f.f_tkE (G1.f.f_tkR (G1.f.f_tkR l 0 1) (G1.f.f_tkE l 0 1) 4) (G1.f.f_tkE (G1.f.f_tkR l 0 1) (G1.f.f_tkE l 0 1) 4) 1) 1) (G1.f.f_tkE (G1.f.f_tkR (G1.f.f_tkR (G1.f.f_tkR l 0 1) (G1.f.f_tkE l 0 1) 4) (G1.f.f_tkE (G1.f.f_tkR l 0 1) (G1.f.f_tkE l 0 1) 4) 1) (G1.f.f_tkE (G1.f.f_tkR (G1.f.f_tkR l 0 1) (G1.f.f_tkE l 0 1) 4) (G1.f.f_tkE (G1.f.f_tkR l 0 1) (G1.f.f_tkE l 0 1) 4) 1) 1) 1) 1) 4) (G1.f.f_tkE (G1.f.f_tkR (G1.f.f_tkR (G1.f.f_tkR (G1.f.f_tkR (G1.f.f_tkR (G1.f.f_tkR l 0 1) (G1.f.f_tkE l 0 1) 4) (G1.f.f_tkE (G1.f.f_tkR l 0 1) (G1.f.f_tkE l 0 1) 4) 1) (G1.f.f_tkE (G1.f.f_tkR (G1.f.f_tkR l 0 1) (G1.f.f_tkE l 0 1) 4) (G1.f.f_tkE (G1.f.f_tkR l 0 1) (G1.f.f_tkE l 0 1) 4) 1) 1) (G1.f.f_tkE (G1.f.f_tkR (G1.f.f_tkR (G1.f.f_tkR l 0 1) (G1.f.f_tkE l 0 1) 4) (G1.f.f_tkE (G1.f.f_tkR l 0 1) (G1.f.f_tkE l 0 1) 4) 1) (G1.f.f_tkE (G1.f.f_tkR (G1.f.f_tkR l 0 1) (G1.f.f_tkE l 0 1) 4) (G1.f.f_tkE (G1.f.f_tkR l 0 1) (G1.f.f_tkE l 0 1) 4) 1) 1) 1) (G1.f.f_tkE (G1.f.f_tkR (G1.f.f_tkR (G1.f.f_tkR (G1.f.f_tkR l 0 1) (G1.f.f_tkE l 0 1) 4) (G1.f.f_tkE (G1.f.f_tkR l 0 1) (G1.f.f_tkE l 0 1) 4) 1) (G1.f.f_tkE (G1.f.f_tkR (G1.f.f_tkR l 0 1) (G1.f.f_tkE l 0 1) 4) (G1.f.f_tkE (G1.f.f_tkR l 0 1) (G1.f.f_tkE l 0 1) 4) 1) 1) (G1.f.f_tkE (G1.f.f_tkR (G1.f.f_tkR (G1.f.f_tkR l 0 1) (G1.f.f_tkE l 0 1) 4) (G1.f.f_tkE (G1.f.f_tkR l 0 1) (G1.f.f_tkE l 0 1) 4) 1) (G1.f.f_tkE (G1.f.f_tkR (G1.f.f_tkR l 0 1) (G1.f.f_tkE l 0 1) 4) (G1.f.f_tkE (G1.f.f_tkR l 0 1) (G1.f.f_tkE l 0 1) 4) 1) 1) 1) 1) (G1.f.f_tkE (G1.f.f_tkR (G1.f.f_tkR (G1.f.f_tkR (G1.f.f_tkR (G1.f.f_tkR l 0 1) (G1.f.f_tkE l 0 1) 4) (G1.f.f_tkE (G1.f.f_tkR l 0 1) (G1.f.f_tkE l 0 1) 4) 1) (G1.f.f_tkE (G1.f.f_tkR (G1.f.f_tkR l 0 1) (G1.f.f_tkE l 0 1) 4) (G1.f.f_tkE (G1.f.f_tkR l 0 1) (G1.f.f_tkE l 0 1) 4) 1) 1) (G1.f.f_tkE (G1.f.f_tkR (G1.f.f_tkR (G1.f.f_tkR l 0 1) (G1.f.f_tkE l 0 1) 4) (G1.f.f_tkE (G1.f.f_tkR l 0 1) (G1.f.f_tkE l 0 1) 4) 1) (G1.f.f_tkE (G1.f.f_tkR (G1.f.f_tkR l 0 1) (G1.f.f_tkE l 0 1) 4) (G1.f.f_tkE (G1.f.f_tkR l 0 1) (G1.f.f_tkE l 0 1) 4) 1) 1) 1) (G1.f.f_tkE (G1.f.f_tkR (G1.f.f_tkR (G1.f.f_tkR (G1.f.f_tkR l 0 1) (G1.f.f_tkE l 0 1) 4) (G1.f.f_tkE (G1.f.f_tkR l 0 1) (G1.f.f_tkE l 0 1) 4) 1) (G1.f.f_tkE (G1.f.f_tkR (G1.f.f_tkR l 0 1) (G1.f.f_tkE l 0 1) 4) (G1.f.f_tkE (G1.f.f_tkR l 0 1) (G1.f.f_tkE l 0 1) 4) 1) 1) (G1.f.f_tkE (G1.f.f_tkR (G1.f.f_tkR (G1.f.f_tkR l 0 1) (G1.f.f_tkE l 0 1) 4) (G1.f.f_tkE (G1.f.f_tkR l 0 1) (G1.f.f_tkE l 0 1) 4) 1) (G1.f.f_tkE (G1.f.f_tkR (G1.f.f_tkR l 0 1) (G1.f.f_tkE l 0 1) 4) (G1.f.f_tkE (G1.f.f_tkR l 0 1) (G1.f.f_tkE l 0 1) 4) 1) 1) 1) 1) 4) 1), 0, (G1.f.f_tkR (G1.f.f_tkR (G1.f.f_tkR (G1.f.f_tkR (G1.f.f_tkR (G1.f.f_tkR (G1.f.f_tkR (G1.f.f_tkR l 0 1) (G1.f.f_tkE l 0 1) 4) (G1.f.f_tkE (G1.f.f_tkR l 0 1) (G1.f.f_tkE l 0 1) 4) 1) (G1.f.f_tkE (G1.f.f_tkR (G1.f.f_tkR l 0 1) (G1.f.f_tkE l 0 1) 4) (G1.f.f_tkE (G1.f.f_tkR l 0 1) (G1.f.f_tkE l 0 1) 4) 1) 1) (G1.f.f_tkE (G1.f.f_tkR (G1.f.f_tkR (G1.f.f_tkR l 0 1) (G1.f.f_tkE l 0 1) 4) (G1.f.f_tkE (G1.f.f_tkR l 0 1) (G1.f.f_tkE l 0 1) 4) 1) (G1.f.f_tkE (G1.f.f_tkR (G1.f.f_tkR l 0 1) (G1.f.f_tkE l 0 1) 4) (G1.f.f_tkE (G1.f.f_tkR l 0 1) (G1.f.f_tkE l 0 1) 4) 1) 1) 1) (G1.f.f_tkE (G1.f.f_tkR (G1.f.f_tkR (G1.f.f_tkR (G1.f.f_tkR l 0 1) (G1.f.f_tkE l 0 1) 4) (G1.f.f_tkE (G1.f.f_tkR l 0 1) (G1.f.f_tkE l 0 1) 4) 1) (G1.f.f_tkE (G1.f.f_tkR (G1.f.f_tkR l 0 1) (G1.f.f_tkE l 0 1) 4) (G1.f.f_tkE (G1.f.f_tkR l 0 1) (G1.f.f_tkE l 0 1) 4) 1) 1) (G1.f.f_tkE (G1.f.f_tkR (G1.f.f_tkR (G1.f.f_tkR l 0 1) (G1.f.f_tkE l 0 1) 4) (G1.f.f_tkE (G1.f.f_tkR l 0 1) (G1.f.f_tkE l 0 1) 4) 1) (G1.f.f_tkE (G1.f.f_tkR (G1.f.f_tkR l 0 1) (G1.f.f_tkE l 0 1) 4) (G1.f.f_tkE (G1.f.f_tkR l 0 1) (G1.f.f_tkE l 0 1) 4) 1) 1) 1) 1) (G1.f.f_tkE (G1.f.f_tkR (G1.f.f_tkR (G1.f.f_tkR (G1.f.f_tkR (G1.f.f_tkR l 0 1) (G1.f.f_tkE l 0 1) 4) (G1.f.f_tkE (G1.f.f_tkR l 0 1) (G1.f.f_tkE l 0 1) 4) 1) (G1.f.f_tkE (G1.f.f_tkR (G1.f.f_tkR l 0 1) (G1.f.f_tkE l 0 1) 4) (G1.f.f_tkE (G1.f.f_tkR l 0 1) (G1.f.f_tkE l 0 1) 4) 1) 1) (G1.f.f_tkE (G1.f.f_tkR (G1.f.f_tkR (G1.f.f_tkR l 0 1) (G1.f.f_tkE l 0 1) 4) (G1.f.f_tkE (G1.f.f_tkR l 0 1) (G1.f.f_tkE l 0 1) 4) 1) (G1.f.f_tkE (G1.f.f_tkR (G1.f.f_tkR l 0 1) (G1.f.f_tkE l 0 1) 4) (G1.f.f_tkE (G1.f.f_tkR l 0 1) (G1.f.f_tkE l 0 1) 4) 1) 1) 1) (G1.f.f_tkE (G1.f.f_tkR (G1.f.f_tkR (G1.f.f_tkR (G1.f.f_tkR l 0 1) (G1.f.f_tkE l 0 1) 4) (G1.f.f_tkE (G1.f.f_tkR l 0 1) (G1.f.f_tkE l 0 1) 4) 1) (G1.f.f_tkE (G1.f.f_tkR (G1.f.f_tkR l 0 1) (G1.f.f_tkE l 0 1) 4) (G1.f.f_tkE (G1.f.f_tkR l 0 1) (G1.f.f_tkE l 0 1) 4) 1) 1) (G1.f.f_tkE (G1.f.f_tkR (G1.f.f_tkR (G1.f.f_tkR l 0 1) (G1.f.f_tkE l 0 1) 4) (G1.f.f_tkE (G1.f.f_tkR l 0 1) (G1.f.f_tkE l 0 1) 4) 1) (G1.f.f_tkE (G1.f.f_tkR (G1.f.f_tkR l 0 1) (G1.f.f_tkE l 0 1) 4) (G1.f.f_tkE (G1.f.f_tkR l 0 1) (G1.f.f_tkE l 0 1) 4) 1) 1) 1) 1) 4) (G1.f.f_tkE (G1.f.f_tkR (G1.f.f_tkR (G1.f.f_tkR (G1.f.f_tkR (G1.f.f_tkR (G1.f.f_tkR l 0 1) (G1.f.f_tkE l 0 1) 4) (G1.f.f_tkE (G1.f.f_tkR l 0 1) (G1.f.f_tkE l 0 1) 4) 1) (G1.f.f_tkE (G1.f.f_tkR (G1.f.f_tkR l 0 1) (G1.f.f_tkE l 0 1) 4) (G1.f.f_tkE (G1.f.f_tkR l 0 1) (G1.f.f_tkE l 0 1) 4) 1) 1) (G1.f.f_tkE (G1.f.f_tkR (G1.f.f_tkR (G1.f.f_tkR l 0 1) (G1.f.f_tkE l 0 1) 4) (G1.f.f_tkE (G1.f.f_tkR l 0 1) (G1.f.f_tkE l 0 1) 4) 1) (G1.f.f_tkE (G1.f.f_tkR (G1.f.f_tkR l 0 1) (G1.f.f_tkE l 0 1) 4) (G1.f.f_tkE (G1.f.f_tkR l 0 1) (G1.f.f_tkE l 0 1) 4) 1) 1) 1) (G1.f.f_tkE (G1.f.f_tkR (G1.f.f_tkR (G1.f.f_tkR (G1.f.f_tkR l 0 1) (G1.f.f_tkE l 0 1) 4) (G1.f.f_tkE (G1.f.f_tkR l 0 1) (G1.f.f_tkE l 0 1) 4) 1) (G1.f.f_tkE (G1.f.f_tkR (G1.f.f_tkR l 0 1) (G1.f.f_tkE l 0 1) 4) (G1.f.f_tkE (G1.f.f_tkR l 0 1) (G1.f.f_tkE l 0 1) 4) 1) 1) (G1.f.f_tkE (G1.f.f_tkR (G1.f.f_tkR (G1.f.f_tkR l 0 1) (G1.f.f_tkE l 0 1) 4) (G1.f.f_tkE (G1.f.f_tkR l 0 1) (G1.f.f_tkE l 0 1) 4) 1) (G1.f.f_tkE (G1.f.f_tkR (G1.f.f_tkR l 0 1) (G1.f.f_tkE l 0 1) 4) (G1.f.f_tkE (G1.f.f_tkR l 0 1) (G1.f.f_tkE l 0 1) 4) 1) 1) 1) 1) (G1.f.f_tkE (G1.f.f_tkR (G1.f.f_tkR (G1.f.f_tkR (G1.f.f_tkR (G1.f.f_tkR l 0 1) (G1.f.f_tkE l 0 1) 4) (G1.f.f_tkE (G1.f.f_tkR l 0 1) (G1.f.f_tkE l 0 1) 4) 1) (G1.f.f_tkE (G1.f.f_tkR (G1.f.f_tkR l 0 1) (G1.f.f_tkE l 0 1) 4) (G1.f.f_tkE (G1.f.f_tkR l 0 1) (G1.f.f_tkE l 0 1) 4) 1) 1) (G1.f.f_tkE (G1.f.f_tkR (G1.f.f_tkR (G1.f.f_tkR l 0 1) (G1.f.f_tkE l 0 1) 4) (G1.f.f_tkE (G1.f.f_tkR l 0 1) (G1.f.f_tkE l 0 1) 4) 1) (G1.f.f_tkE (G1.f.f_tkR (G1.f.f_tkR l 0 1) (G1.f.f_tkE l 0 1) 4) (G1.f.f_tkE (G1.f.f_tkR l 0 1) (G1.f.f_tkE l 0 1) 4) 1) 1) 1) (G1.f.f_tkE (G1.f.f_tkR (G1.f.f_tkR (G1.f.f_tkR (G1.f.f_tkR l 0 1) (G1.f.f_tkE l 0 1) 4) (G1.f.f_tkE (G1.f.f_tkR l 0 1) (G1.f.f_tkE l 0 1) 4) 1) (G1.f.f_tkE (G1.f.f_tkR (G1.f.f_tkR l 0 1) (G1.f.f_tkE l 0 1) 4) (G1.f.f_tkE (G1.f.f_tkR l 0 1) (G1.f.f_tkE l 0 1) 4) 1) 1) (G1.f.f_tkE (G1.f.f_tkR (G1.f.f_tkR (G1.f.f_tkR l 0 1) (G1.f.f_tkE l 0 1) 4) (G1.f.f_tkE (G1.f.f_tkR l 0 1) (G1.f.f_tkE l 0 1) 4) 1) (G1.f.f_tkE (G1.f.f_tkR (G1.f.f_tkR l 0 1) (G1.f.f_tkE l 0 1) 4) (G1.f.f_tkE (G1.f.f_tkR l 0 1) (G1.f.f_tkE l 0 1) 4) 1) 1) 1) 1) 4) 1), (G1.f.f_tkE (G1.f.f_tkR (G1.f.f_tkR (G1.f.f_tkR (G1.f.f_tkR (G1.f.f_tkR (G1.f.f_tkR (G1.f.f_tkR l 0 1) (G1.f.f_tkE l 0 1) 4) (G1.f.f_tkE (G1.f.f_tkR l 0 1) (G1.f.f_tkE l 0 1) 4) 1) (G1.f.f_tkE (G1.f.f_tkR (G1.f.f_tkR l 0 1) (G1.f.f_tkE l 0 1) 4) (G1.f.f_tkE (G1.f.f_tkR l 0 1) (G1.f.f_tkE l 0 1) 4) 1) 1) (G1.f.f_tkE (G1.f.f_tkR (G1.f.f_tkR (G1.f.f_tkR l 0 1) (G1.f.f_tkE l 0 1) 4) (G1.f.f_tkE (G1.f.f_tkR l 0 1) (G1.f.f_tkE l 0 1) 4) 1) (G1.f.f_tkE (G1.f.f_tkR (G1.f.f_tkR l 0 1) (G1.f.f_tkE l 0 1) 4) (G1.f.f_tkE (G1.f.f_tkR l 0 1) (G1.f.f_tkE l 0 1) 4) 1) 1) 1) (G1.f.f_tkE (G1.f.f_tkR (G1.f.f_tkR (G1.f.f_tkR (G1.f.f_tkR l 0 1) (G1.f.f_tkE l 0 1) 4) (G1.f.f_tkE (G1.f.f_tkR l 0 1) (G1.f.f_tkE l 0 1) 4) 1) (G1.f.f_tkE (G1.f.f_tkR (G1.f.f_tkR l 0 1) (G1.f.f_tkE l 0 1) 4) (G1.f.f_tkE (G1.f.f_tkR l 0 1) (G1.f.f_tkE l 0 1) 4) 1) 1) (G1.f.f_tkE (G1.f.f_tkR (G1.f.f_tkR (G1.f.f_tkR l 0 1) (G1.f.f_tkE l 0 1) 4) (G1.f.f_tkE (G1.f.f_tkR l 0 1) (G1.f.f_tkE l 0 1) 4) 1) (G1.f.f_tkE (G1.f.f_tkR (G1.f.f_tkR l 0 1) (G1.f.f_tkE l 0 1) 4) (G1.f.f_tkE (G1.f.f_tkR l 0 1) (G1.f.f_tkE l 0 1) 4) 1) 1) 1) 1) (G1.f.f_tkE (G1.f.f_tkR (G1.f.f_tkR (G1.f.f_tkR (G1.f.f_tkR (G1.f.f_tkR l 0 1) (G1.f.f_tkE l 0 1) 4) (G1.f.f_tkE (G1.f.f_tkR l 0 1) (G1.f.f_tkE l 0 1) 4) 1) (G1.f.f_tkE (G1.f.f_tkR (G1.f.f_tkR l 0 1) (G1.f.f_tkE l 0 1) 4) (G1.f.f_tkE (G1.f.f_tkR l 0 1) (G1.f.f_tkE l 0 1) 4) 1) 1) (G1.f.f_tkE (G1.f.f_tkR (G1.f.f_tkR (G1.f.f_tkR l 0 1) (G1.f.f_tkE l 0 1) 4) (G1.f.f_tkE (G1.f.f_tkR l 0 1) (G1.f.f_tkE l 0 1) 4) 1) (G1.f.f_tkE (G1.f.f_tkR (G1.f.f_tkR l 0 1) (G1.f.f_tkE l 0 1) 4) (G1.f.f_tkE (G1.f.f_tkR l 0 1) (G1.f.f_tkE l 0 1) 4) 1) 1) 1) (G1.f.f_tkE (G1.f.f_tkR (G1.f.f_tkR (G1.f.f_tkR (G1.f.f_tkR l 0 1) (G1.f.f_tkE l 0 1) 4) (G1.f.f_tkE (G1.f.f_tkR l 0 1) (G1.f.f_tkE l 0 1) 4) 1) (G1.f.f_tkE (G1.f.f_tkR (G1.f.f_tkR l 0 1) (G1.f.f_tkE l 0 1) 4) (G1.f.f_tkE (G1.f.f_tkR l 0 1) (G1.f.f_tkE l 0 1) 4) 1) 1) (G1.f.f_tkE (G1.f.f_tkR (G1.f.f_tkR (G1.f.f_tkR l 0 1) (G1.f.f_tkE l 0 1) 4) (G1.f.f_tkE (G1.f.f_tkR l 0 1) (G1.f.f_tkE l 0 1) 4) 1) (G1.f.f_tkE (G1.f.f_tkR (G1.f.f_tkR l 0 1) (G1.f.f_tkE l 0 1) 4) (G1.f.f_tkE (G1.f.f_tkR l 0 1) (G1.f.f_tkE l 0 1) 4) 1) 1) 1) 1) 4) (G1.f.f_tkE (G1.f.f_tkR (G1.f.f_tkR (G1.f.f_tkR (G1.f.f_tkR (G1.f.f_tkR (G1.f.f_tkR l 0 1) (G1.f.f_tkE l 0 1) 4) (G1.f.f_tkE (G1.f.f_tkR l 0 1) (G1.f.f_tkE l 0 1) 4) 1) (G1.f.f_tkE (G1.f.f_tkR (G1.f.f_tkR l 0 1) (G1.f.f_tkE l 0 1) 4) (G1.f.f_tkE (G1.f.f_tkR l 0 1) (G1.f.f_tkE l 0 1) 4) 1) 1) (G1.f.f_tkE (G1.f.f_tkR (G1.f.f_tkR (G1.f.f_tkR l 0 1) (G1.f.f_tkE l 0 1) 4) (G1.f.f_tkE (G1.f.f_tkR l 0 1) (G1.f.f_tkE l 0 1) 4) 1) (G1.f.f_tkE (G1.f.f_tkR (G1.f.f_tkR l 0 1) (G1.f.f_tkE l 0 1) 4) (G1.f.f_tkE (G1.f.f_tkR l 0 1) (G1.f.f_tkE l 0 1) 4) 1) 1) 1) (G1.f.f_tkE (G1.f.f_tkR (G1.f.f_tkR (G1.f.f_tkR (G1.f.f_tkR l 0 1) (G1.f.f_tkE l 0 1) 4) (G1.f.f_tkE (G1.f.f_tkR l 0 1) (G1.f.f_tkE l 0 1) 4) 1) (G1.f.f_tkE (G1.f.f_tkR (G1.f.f_tkR l 0 1) (G1.f.f_tkE l 0 1) 4) (G1.f.f_tkE (G1.f.f_tkR l 0 1) (G1.f.f_tkE l 0 1) 4) 1) 1) (G1.f.f_tkE (G1.f.f_tkR (G1.f.f_tkR (G1.f.f_tkR l 0 1) (G1.f.f_tkE l 0 1) 4) (G1.f.f_tkE (G1.f.f_tkR l 0 1) (G1.f.f_tkE l 0 1) 4) 1) (G1.f.f_tkE (G1.f.f_tkR (G1.f.f_tkR l 0 1) (G1.f.f_tkE l 0 1) 4) (G1.f.f_tkE (G1.f.f_tkR l 0 1) (G1.f.f_tkE l 0 1) 4) 1) 1) 1) 1) (G1.f.f_tkE (G1.f.f_tkR (G1.f.f_tkR (G1.f.f_tkR (G1.f.f_tkR (G1.f.f_tkR l 0 1) (G1.f.f_tkE l 0 1) 4) (G1.f.f_tkE (G1.f.f_tkR l 0 1) (G1.f.f_tkE l 0 1) 4) 1) (G1.f.f_tkE (G1.f.f_tkR (G1.f.f_tkR l 0 1) (G1.f.f_tkE l 0 1) 4) (G1.f.f_tkE (G1.f.f_tkR l 0 1) (G1.f.f_tkE l 0 1) 4) 1) 1) (G1.f.f_tkE (G1.f.f_tkR (G1.f.f_tkR (G1.f.f_tkR l 0 1) (G1.f.f_tkE l 0 1) 4) (G1.f.f_tkE (G1.f.f_tkR l 0 1) (G1.f.f_tkE l 0 1) 4) 1) (G1.f.f_tkE (G1.f.f_tkR (G1.f.f_tkR l 0 1) (G1.f.f_tkE l 0 1) 4) (G1.f.f_tkE (G1.f.f_tkR l 0 1) (G1.f.f_tkE l 0 1) 4) 1) 1) 1) (G1.f.f_tkE (G1.f.f_tkR (G1.f.f_tkR (G1.f.f_tkR (G1.f.f_tkR l 0 1) (G1.f.f_tkE l 0 1) 4) (G1.f.f_tkE (G1.f.f_tkR l 0 1) (G1.f.f_tkE l 0 1) 4) 1) (G1.f.f_tkE (G1.f.f_tkR (G1.f.f_tkR l 0 1) (G1.f.f_tkE l 0 1) 4) (G1.f.f_tkE (G1.f.f_tkR l 0 1) (G1.f.f_tkE l 0 1) 4) 1) 1) (G1.f.f_tkE (G1.f.f_tkR (G1.f.f_tkR (G1.f.f_tkR l 0 1) (G1.f.f_tkE l 0 1) 4) (G1.f.f_tkE (G1.f.f_tkR l 0 1) (G1.f.f_tkE l 0 1) 4) 1) (G1.f.f_tkE (G1.f.f_tkR (G1.f.f_tkR l 0 1) (G1.f.f_tkE l 0 1) 4) (G1.f.f_tkE (G1.f.f_tkR l 0 1) (G1.f.f_tkE l 0 1) 4) 1) 1) 1) 1) 4) 1)⟩ ?_ ?_ ?_
  · subst hG1; exact r1_zero _ _ _ _ _ _ _ _ _ _ _ _ rfl (tkR_by (tkR_by (tkR_by (tkR_by (tkR_by (tkR_by (tkR_by hk.2 _ _) _ _) _ _) _ _) _ _) _ _) _ _) rfl rfl
  · cbv
    repeat' (first | exact trivial | exact rfl | refine And.intro ?_ ?_)
  rintro ⟨⟨k1, e1, r1, n, ll, ck, ca, cb, cs⟩, c, i, r, e⟩ hq O hO
  have hst := fun h g => r1_step hq h g
  have hen := fun h => r1_end hq h
  have q0 := hq.1
  have q1 := hq.2.1
  have hb0 := hq.2.2.2.1
  dsimp only at q0 q1 hen hst hb0
  subst hA
  generalize hA : Ar.std = A
  generalize hL : Lp _ _ _ = L
  refine cd_close zq ?_
  repeat' (first
    | (refine z_open zq ?_; try dsimp only)
    | refine cd_seq zq ?_ (lp_mono hL)
    | refine cd_blk zq ?_
    | refine cd_ret ?_
    | refine cd_skip ?_
    | refine cd_exit ?_
    | refine cd_loop ?_
    | refine cd_cond rfl ?_
    | refine cd_condT rfl ?_
    | refine cd_condF rfl ?_
    | (refine Cd.mk ?_; cbv)
    | (refine Ends1.mk ?_; cbv)
    | (refine Fin1.mk ?_; cbv)
    | exact trivial
    | refine And.intro ?_ ?_
    | refine orf fun _ => ?_
    | refine ort fun _ => ?_)
  all_goals first | (show L _ _ _; skip) | (clear hL hfs zq Z hq hen hbl; subst hA hF hG0 hG1 hG2 hO; simp only [Wp.std, OctR.Gs.std, OctR.Fs.std, Ar.std] at * <;> grind [stdCmp]; done)
  all_goals
    rename_i hx
    have hi : ¬ (i < c ∧ e = 0) := by
      clear hL hfs zq Z hst hen
      subst hA hO
      simp only [Ar.std] at hx
      grind [stdCmp]
    obtain ⟨hd, hbr, hnl⟩ := hen hi
    clear hx hst hq hen
  subst hL
  refine loop_z (cx_ok hfs) (r2Q l) (r2I l) (r1M) r2R ⟨⟨k1, e1, r1, n, [], ck, ca, cb, cs⟩, G1.f.f_tkN r e 2, 0, G1.f.f_tkR r e 2, G1.f.f_tkE r e 2⟩ ?_ ?_ ?_
  · subst hG1; exact r2_zero hd hbr hnl
  · cbv
    repeat' (first | exact trivial | exact rfl | refine And.intro ?_ ?_)
  rintro ⟨⟨k2, e2, r2, n2, l2, ck2, ca2, cb2, cs2⟩, m, c2, p, f⟩ hq2 O2 hO2
  have hb1 := hq2.2.2.2.1
  dsimp only at hb1
  have hbe := fun h => byt_by (enc_by (w := ⟨k2, e2, r2, n2, l2, ck2, ca2, cb2, cs2⟩) h)
  clear hd hbr hnl hi hb0 q0 q1
  by_cases g : c2 < m ∧ f = 0
  · obtain ⟨e1, hln, hms, hQ⟩ := r2_step hq2 g.1 g.2
    have g1 : stdCmp .lss c2 m = true := decide_eq_true g.1
    have g2 : stdCmp .eql f 0 = true := by rw [g.2]; rfl
    dsimp only at hln
    clear hq2 hbe hbl
    subst hA
    generalize hA : Ar.std = A
    generalize hL : Lp _ _ _ = L
    refine cd_close zq ?_
    repeat' (first
      | (refine z_open zq ?_; try dsimp only)
      | refine cd_seq zq ?_ (lp_mono hL)
      | refine cd_blk zq ?_
      | refine cd_ret ?_
      | refine cd_skip ?_
      | refine cd_exit ?_
      | refine cd_loop ?_
      | refine cd_cond rfl ?_
      | refine cd_condT rfl ?_
      | refine cd_condF rfl ?_
      | (refine Cd.mk ?_; cbv)
      | (refine Ends1.mk ?_; cbv)
      | (refine Fin1.mk ?_; cbv)
      | exact trivial
      | refine And.intro ?_ ?_
      | refine orf fun _ => ?_
      | refine ort fun _ => ?_)

    all_goals (clear hL hfs zq Z; subst hA hF hG0 hG1 hG2 hO hO2; simp only [Wp.std, OctR.Gs.std, OctR.Fs.std, Ar.std, g1, g2, e1, if_true, Bool.true_eq_false] at *)
    all_goals first | assumption | exact trivial | exact hms _ _ _ | (exfalso; assumption) | exact hty _ _ _ hb1 | exact hty _ _ _ (hty _ _ _ hb1) | exact hty _ _ _ (hty _ _ _ (hty _ _ _ hb1)) | exact hty _ _ _ (hty _ _ _ (hty _ _ _ (hty _ _ _ hb1))) | (refine decide_eq_true ?_; rw [List.length_append]; simp only [List.length_cons, List.length_nil]; show ((l2.length + (0 + 1) : Nat) : Int) * 40 ≤ 140737488355328; omega)
  · obtain ⟨hd2, hn2, hl2⟩ := r2_end hq2 g
    have g1 : (if stdCmp .lss c2 m = true then stdCmp .eql f 0 else false) = false := by
      by_cases y : c2 < m
      · rw [if_pos (show stdCmp .lss c2 m = true from decide_eq_true y)]
        show (f == 0) = false
        rw [beq_eq_false_iff_ne]
        exact fun z => g ⟨y, z⟩
      · rw [if_neg (show ¬ stdCmp .lss c2 m = true from fun z => y (of_decide_eq_true z))]
    have hsz : okS ⟨k2, e2, r2, n2, l2, ck2, ca2, cb2, cs2⟩ = true := decide_eq_true ⟨Nat.le_trans hn2 (by decide), Nat.le_trans hl2 (by decide)⟩
    have cas : (f = 0 ∧ mayW ⟨k2, e2, r2, n2, l2, ck2, ca2, cb2, cs2⟩ = true ∧ encW ⟨k2, e2, r2, n2, l2, ck2, ca2, cb2, cs2⟩ = l ∧ rdecW l = ⟨⟨k2, e2, r2, n2, l2, ck2, ca2, cb2, cs2⟩, true⟩) ∨ (¬ (f = 0 ∧ mayW ⟨k2, e2, r2, n2, l2, ck2, ca2, cb2, cs2⟩ = true ∧ encW ⟨k2, e2, r2, n2, l2, ck2, ca2, cb2, cs2⟩ = l) ∧ rdecW l = ⟨zW, false⟩) := by
      unfold rfin at hd2
      dsimp only at hd2
      by_cases y : f = 0 ∧ mayW ⟨k2, e2, r2, n2, l2, ck2, ca2, cb2, cs2⟩ = true ∧ encW ⟨k2, e2, r2, n2, l2, ck2, ca2, cb2, cs2⟩ = l
      · rw [if_pos y] at hd2
        exact .inl ⟨y.1, y.2.1, y.2.2, hd2⟩
      · rw [if_neg y] at hd2
        exact .inr ⟨y, hd2⟩
    clear hq2 hd2 hn2 hl2
    subst hA
    generalize hA : Ar.std = A
    generalize hL : Lp _ _ _ = L
    refine cd_close zq ?_
    repeat' (first
      | (refine z_open zq ?_; try dsimp only)
      | refine cd_seq zq ?_ (lp_mono hL)
      | refine cd_blk zq ?_
      | refine cd_ret ?_
      | refine cd_skip ?_
      | refine cd_exit ?_
      | refine cd_loop ?_
      | refine cd_cond rfl ?_
      | refine cd_condT rfl ?_
      | refine cd_condF rfl ?_
      | (refine Cd.mk ?_; cbv)
      | (refine Ends1.mk ?_; cbv)
      | (refine Fin1.mk ?_; cbv)
      | exact trivial
      | refine And.intro ?_ ?_
      | refine orf fun _ => ?_
      | refine ort fun _ => ?_)

    all_goals (clear hL hfs zq Z hty hb1 g; subst hA hF hG0 hG1 hG2 hO hO2; simp only [Wp.std, WoQ.Wq.std, WoR.Ws.std, Ar.std, g1, hbl, Bool.false_eq_true] at *)
    all_goals first | assumption | exact trivial | (exfalso; assumption) | (rcases cas with ⟨c1, c2', c3, c4⟩ | ⟨c1, c4⟩ <;> (try simp only [c4, zW]) <;> first | rfl | assumption | (grind [stdCmp]))
theorem ok_rwdecode : ConOk Try.prog 41 (c_rwdecode Wp.std) := by
  refine con_of (FsOk.cons ok_rtake (FsOk.cons ok_rwmay (FsOk.cons ok_rwbytes FsOk.nil rfl) rfl) rfl) Try.func41 rfl rfl fun xs h p hp => ?_
  unfold c_rwdecode at hp
  split at hp
  · cases hp
    exact ⟨lee_le rfl, fun hC _ => x_rwdecode _ hC⟩
  · cases hp
end Go.Proofs.Ytnfkphekkpigpaa.WoP
