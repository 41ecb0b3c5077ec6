/-
  a flight is put on an air. No condition but size.
-/
import Derived.Test.YtphbfoafgfnmmaaSkD
namespace Go.Proofs.Ytphbfoafgfnmmaa.SkP
open Go Go.Proofs.Ytphbfoafgfnmmaa.Ry Go.Proofs.Ytphbfoafgfnmmaa.SkR Go.Proofs.Ytphbfoafgfnmmaa.SkT Go.Proofs.Ytphbfoafgfnmmaa.SkO Go.Proofs.Ytphbfoafgfnmmaa.SkC Go.Proofs.Ytphbfoafgfnmmaa.SkD

def puF (f u : List E) (a b : Int) (l : List Int) (x : Bool) : List E := if chA f u = 0 then putF (cpF f) (tabF u) a b l x else []
def puU (f u : List E) : List E := if chA f u = 0 then u else []
def puOk (f u : List E) (l : List Int) : Bool := decide (f.length ≤ 1000000 ∧ u.length ≤ 1000000 ∧ totF f ≤ 1000000000 ∧ l.length ≤ 1000000000)
theorem cp_len (f : List E) : (cpF f).length = f.length := List.length_map _
theorem ch_all {f u : List E} (h : chA f u = 0) : Go.Proofs.Ytphbfoafgfnmmaa.EgR.allE u = 0 ∧ f.length ≤ 16384 := by
  unfold chA at h
  split at h
  · rename_i g
    exact ⟨g.1, g.2.2.1⟩
  · cases h
theorem ch_01 (f u : List E) : chA f u = 0 ∨ chA f u = 1 := by
  unfold chA
  split
  · exact .inl rfl
  · exact .inr rfl
theorem ch_f {f : List E} (hf : f.length ≤ 1000000 ∧ totF f ≤ 1000000000) : fOk f = true := decide_eq_true hf

structure Sp where
  p_f : List E → List E → Int → Int → List Int → Bool → List E
  p_u : List E → List E → List E
  p_e : List E → List E → Int
  p_k : List E → List E → List Int → Bool
def Sp.std : Sp := ⟨puF, puU, chA, puOk⟩

def c_aput (F : Sp) : Con := fun xs h => match xs, h with
  | [.agg [.sl none (.recs (.int .i64 (.int .i64 (.ints .u8 (.bool .nil)))) a_f), .sl none (.recs (.int .i64 (.int .i64 (.int .i64 .nil))) a_u)], .agg [.val (.int .i64 f_a), .val (.int .i64 f_b), .sl none (.ints .u8 f_l), .val (.bool f_x)]], [] => some ⟨F.p_k a_f a_u f_l = true, .tup [.agg [.sl none (.recs (.int .i64 (.int .i64 (.ints .u8 (.bool .nil)))) (F.p_f a_f a_u f_a f_b f_l f_x)), .sl none (.recs (.int .i64 (.int .i64 (.int .i64 .nil))) (F.p_u a_f a_u))], I (F.p_e a_f a_u)], [], [Any, Any]⟩
  | _, _ => none
set_option maxHeartbeats 2000000 in
set_option maxRecDepth 100000 in
theorem x_aput (a_f : List E) (a_u : List E) (f_a : Int) (f_b : Int) (f_l : List Int) (f_x : Bool) (hC : Sp.std.p_k a_f a_u f_l = true) : Does [(12, c_acheck SkD.Sd.std), (25, c_of SkO.So.std), (38, c_sput SkO.So.std), (27, c_send SkO.So.std)] Try.f16 [.agg [.sl none (.recs (.int .i64 (.int .i64 (.ints .u8 (.bool .nil)))) a_f), .sl none (.recs (.int .i64 (.int .i64 (.int .i64 .nil))) a_u)], .agg [.val (.int .i64 f_a), .val (.int .i64 f_b), .sl none (.ints .u8 f_l), .val (.bool f_x)]] [] ⟨Sp.std.p_k a_f a_u f_l = true, .tup [.agg [.sl none (.recs (.int .i64 (.int .i64 (.ints .u8 (.bool .nil)))) (Sp.std.p_f a_f a_u f_a f_b f_l f_x)), .sl none (.recs (.int .i64 (.int .i64 (.int .i64 .nil))) (Sp.std.p_u a_f a_u))], I (Sp.std.p_e a_f a_u)], [], [Any, Any]⟩ := by
  intro b gv
  have hk : a_f.length ≤ 1000000 ∧ a_u.length ≤ 1000000 ∧ totF a_f ≤ 1000000000 ∧ f_l.length ≤ 1000000000 := of_decide_eq_true (show decide _ = true from hC)
  have hf := ch_f ⟨hk.1, hk.2.2.1⟩
  have ho := fun h => all_lOk hk.2.1 (ch_all (f := a_f) h).1
  have htl := tab_len a_u
  have hcl := cp_len a_f
  have h01 := ch_01 a_f a_u
  have hfs := (FsOk.cons ok_acheck (FsOk.cons ok_of (FsOk.cons ok_sput (FsOk.cons ok_send FsOk.nil rfl) rfl) rfl) rfl)
  generalize hF : Sp.std = F at hC hfs ⊢
  generalize hG0 : SkO.So.std = G0 at hC hfs ⊢
  generalize hG1 : SkD.Sd.std = G1 at hC hfs ⊢
  generalize hA : Ar.std = A
  generalize hL : Lp _ _ _ = L
  obtain ⟨Z, zq⟩ := z_all
  refine @cd_open _ _ _ _ _ _ _ (lp_mono hL) _ _ zq rfl ?_
  repeat' (first
    | (refine z_open zq ?_; try dsimp only)
    | refine cd_seq zq ?_ (lp_mono hL)
    | refine cd_blk zq ?_
    | refine cd_ret ?_
    | refine cd_skip ?_
    | refine cd_exit ?_
    | refine cd_loop ?_
    | refine cd_cond rfl ?_
    | refine cd_condT rfl ?_
    | refine cd_condF rfl ?_
    | (refine Cd.mk ?_; cbv)
    | (refine Ends1.mk ?_; cbv)
    | (refine Fin1.mk ?_; cbv)
    | exact trivial
    | refine And.intro ?_ ?_
    | refine orf fun _ => ?_
    | refine ort fun _ => ?_)
  skip -- hfs
  all_goals (clear hL hfs zq Z; subst hA hF hG0 hG1; simp only [Sp.std, SkO.So.std, SkD.Sd.std, Ar.std] at * <;> grind [stdCmp, puF, puU]; done)
theorem ok_aput : ConOk Try.prog 16 (c_aput Sp.std) := by
  refine con_of (FsOk.cons ok_acheck (FsOk.cons ok_of (FsOk.cons ok_sput (FsOk.cons ok_send FsOk.nil rfl) rfl) rfl) rfl) Try.func16 rfl rfl fun xs h p hp => ?_
  unfold c_aput at hp
  split at hp
  · cases hp
    exact ⟨lee_le rfl, fun hC _ => @x_aput _ _ _ _ _ _ hC⟩
  · cases hp
end Go.Proofs.Ytphbfoafgfnmmaa.SkP
