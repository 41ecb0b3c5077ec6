/-
  an air as an object. No condition but size.
-/
import Derived.Test.YtphbfoafgfnmmaaSkT
namespace Go.Proofs.Ytphbfoafgfnmmaa.SkO
open Go Go.Proofs.Ytphbfoafgfnmmaa.Ry Go.Proofs.Ytphbfoafgfnmmaa.SkR Go.Proofs.Ytphbfoafgfnmmaa.SkT

open Go.Proofs.Ytphbfoafgfnmmaa.EgR (nodB)
def putF (q T : List E) (a b : Int) (l : List Int) (x : Bool) : List E := if decide (q.length < 16384) && carF T a b then q ++ [[.int a, .int b, .ints l, .bool x]] else q

structure So where
  o_p : List E → List E → Int → Int → List Int → Bool → List E
  o_q : List E → List E → List Int → Bool
  o_k : List E → List E → Bool
  o_e : List E → Bool
  o_b : List Int → Bool
  o_a : List E → List E → Bool
  o_c : List E → List E
  o_t : List E → List E
def So.std : So := ⟨putF, fun q T l => decide (q.length ≤ 1000000 ∧ T.length = 4225 ∧ l.length ≤ 1000000000), fun q u => decide (q.length ≤ 1000000 ∧ u.length ≤ 1000000), fun l => decide (l.length ≤ 1000000), fun l => decide (l.length ≤ 1000000000), fun f u => fOk f && lOk u, cpF, tabF⟩

def c_elist (F : So) : Con := fun xs h => match xs, h with
  | [.one (.sl none (.recs (.int .i64 (.int .i64 (.int .i64 .nil))) l))], [] => some ⟨F.o_e l = true, .sa (.one (.own 0)), [(0, .row 48 (.recs (.int .i64 (.int .i64 (.int .i64 .nil))) l))], [Any]⟩
  | _, _ => none
set_option maxHeartbeats 2000000 in
set_option maxRecDepth 100000 in
theorem x_elist (l : List E) (hC : So.std.o_e l = true) : Does [(ownKey 2002, noCon)] Try.f47 [.one (.sl none (.recs (.int .i64 (.int .i64 (.int .i64 .nil))) l))] [] ⟨So.std.o_e l = true, .sa (.one (.own 0)), [(0, .row 48 (.recs (.int .i64 (.int .i64 (.int .i64 .nil))) l))], [Any]⟩ := by
  intro b gv
  have hk : l.length ≤ 1000000 := of_decide_eq_true (show decide (l.length ≤ 1000000) = true from hC)
  have hfs := (FsOk.own (u := 2002) FsOk.nil)
  generalize hF : So.std = F at hC hfs ⊢
  generalize hG0 : SkR.Sk.std = G0 at hC hfs ⊢
  generalize hG1 : SkT.Tb.std = G1 at hC hfs ⊢
  generalize hA : Ar.std = A
  generalize hL : Lp _ _ _ = L
  obtain ⟨Z, zq⟩ := z_all
  refine @cd_open _ _ _ _ _ _ _ (lp_mono hL) _ _ zq rfl ?_
  repeat' (first
    | (refine z_open zq ?_; try dsimp only)
    | refine cd_seq zq ?_ (lp_mono hL)
    | refine cd_blk zq ?_
    | refine cd_ret ?_
    | refine cd_skip ?_
    | refine cd_exit ?_
    | refine cd_loop ?_
    | refine cd_cond rfl ?_
    | refine cd_condT rfl ?_
    | refine cd_condF rfl ?_
    | (refine Cd.mk ?_; cbv)
    | (refine Ends1.mk ?_; cbv)
    | (refine Fin1.mk ?_; cbv)
    | exact trivial
    | refine And.intro ?_ ?_
    | refine orf fun _ => ?_
    | refine ort fun _ => ?_)
  skip -- hfs
  all_goals (clear hL hfs zq Z; subst hA hF hG0 hG1; simp only [So.std, Ar.std, List.nil_append] at * <;> grind [stdCmp]; done)
theorem ok_elist : ConOk Try.prog 47 (c_elist So.std) := by
  refine con_of (FsOk.own (u := 2002) FsOk.nil) Try.func47 rfl rfl fun xs h p hp => ?_
  unfold c_elist at hp
  split at hp
  · cases hp
    exact ⟨lee_le rfl, fun hC _ => @x_elist _ hC⟩
  · cases hp

def c_blist (F : So) : Con := fun xs h => match xs, h with
  | [.one (.sl none (.ints .u8 l))], [] => some ⟨F.o_b l = true, .sa (.one (.own 0)), [(0, .row 5 (.ints .u8 l))], [Any]⟩
  | _, _ => none
set_option maxHeartbeats 2000000 in
set_option maxRecDepth 100000 in
theorem x_blist (l : List Int) (hC : So.std.o_b l = true) : Does [(ownKey 2002, noCon)] Try.f60 [.one (.sl none (.ints .u8 l))] [] ⟨So.std.o_b l = true, .sa (.one (.own 0)), [(0, .row 5 (.ints .u8 l))], [Any]⟩ := by
  intro b gv
  have hk : l.length ≤ 1000000000 := of_decide_eq_true (show decide (l.length ≤ 1000000000) = true from hC)
  have hfs := (FsOk.own (u := 2002) FsOk.nil)
  generalize hF : So.std = F at hC hfs ⊢
  generalize hG0 : SkR.Sk.std = G0 at hC hfs ⊢
  generalize hG1 : SkT.Tb.std = G1 at hC hfs ⊢
  generalize hA : Ar.std = A
  generalize hL : Lp _ _ _ = L
  obtain ⟨Z, zq⟩ := z_all
  refine @cd_open _ _ _ _ _ _ _ (lp_mono hL) _ _ zq rfl ?_
  repeat' (first
    | (refine z_open zq ?_; try dsimp only)
    | refine cd_seq zq ?_ (lp_mono hL)
    | refine cd_blk zq ?_
    | refine cd_ret ?_
    | refine cd_skip ?_
    | refine cd_exit ?_
    | refine cd_loop ?_
    | refine cd_cond rfl ?_
    | refine cd_condT rfl ?_
    | refine cd_condF rfl ?_
    | (refine Cd.mk ?_; cbv)
    | (refine Ends1.mk ?_; cbv)
    | (refine Fin1.mk ?_; cbv)
    | exact trivial
    | refine And.intro ?_ ?_
    | refine orf fun _ => ?_
    | refine ort fun _ => ?_)
  skip -- hfs
  all_goals (clear hL hfs zq Z; subst hA hF hG0 hG1; simp only [So.std, Ar.std, List.nil_append] at * <;> grind [stdCmp]; done)
theorem ok_blist : ConOk Try.prog 60 (c_blist So.std) := by
  refine con_of (FsOk.own (u := 2002) FsOk.nil) Try.func60 rfl rfl fun xs h p hp => ?_
  unfold c_blist at hp
  split at hp
  · cases hp
    exact ⟨lee_le rfl, fun hC _ => @x_blist _ hC⟩
  · cases hp

def c_of (F : So) : Con := fun xs h => match xs, h with
  | [.agg [.sl none (.recs (.int .i64 (.int .i64 (.ints .u8 (.bool .nil)))) a_f), .sl none (.recs (.int .i64 (.int .i64 (.int .i64 .nil))) a_u)]], [] => some ⟨F.o_a a_f a_u = true, .sa (.one (.ptr 0 0)), [(0, .cells 94 [.own 1, .own 2, .ptr 3 0]), (1, .row 32 (.recs (.int .i64 (.int .i64 (.ints .u8 (.bool .nil)))) (F.o_c a_f))), (2, .row 48 (.recs (.int .i64 (.int .i64 (.int .i64 .nil))) a_u)), (3, .row 106 (.recs (.bool .nil) (F.o_t a_u)))], [Any]⟩
  | _, _ => none
set_option maxHeartbeats 2000000 in
set_option maxRecDepth 100000 in
theorem x_of (a_f : List E) (a_u : List E) (hC : So.std.o_a a_f a_u = true) : Does [(46, c_copied SkR.Sk.std), (47, c_elist So.std), (32, c_tabof SkT.Tb.std)] Try.f25 [.agg [.sl none (.recs (.int .i64 (.int .i64 (.ints .u8 (.bool .nil)))) a_f), .sl none (.recs (.int .i64 (.int .i64 (.int .i64 .nil))) a_u)]] [] ⟨So.std.o_a a_f a_u = true, .sa (.one (.ptr 0 0)), [(0, .cells 94 [.own 1, .own 2, .ptr 3 0]), (1, .row 32 (.recs (.int .i64 (.int .i64 (.ints .u8 (.bool .nil)))) (So.std.o_c a_f))), (2, .row 48 (.recs (.int .i64 (.int .i64 (.int .i64 .nil))) a_u)), (3, .row 106 (.recs (.bool .nil) (So.std.o_t a_u)))], [Any]⟩ := by
  intro b gv
  have hk : (fOk a_f && lOk a_u) = true := hC
  simp only [Bool.and_eq_true] at hk
  have hl : a_u.length ≤ 1000000 := (of_decide_eq_true (show decide _ = true from hk.2) : _ ∧ _).1
  have hfs := (FsOk.cons ok_copied (FsOk.cons ok_elist (FsOk.cons ok_tabof FsOk.nil rfl) rfl) rfl)
  generalize hF : So.std = F at hC hfs ⊢
  generalize hG0 : SkR.Sk.std = G0 at hC hfs ⊢
  generalize hG1 : SkT.Tb.std = G1 at hC hfs ⊢
  generalize hA : Ar.std = A
  generalize hL : Lp _ _ _ = L
  obtain ⟨Z, zq⟩ := z_all
  refine @cd_open _ _ _ _ _ _ _ (lp_mono hL) _ _ zq rfl ?_
  repeat' (first
    | (refine z_open zq ?_; try dsimp only)
    | refine cd_seq zq ?_ (lp_mono hL)
    | refine cd_blk zq ?_
    | refine cd_ret ?_
    | refine cd_skip ?_
    | refine cd_exit ?_
    | refine cd_loop ?_
    | refine cd_cond rfl ?_
    | refine cd_condT rfl ?_
    | refine cd_condF rfl ?_
    | (refine Cd.mk ?_; cbv)
    | (refine Ends1.mk ?_; cbv)
    | (refine Fin1.mk ?_; cbv)
    | exact trivial
    | refine And.intro ?_ ?_
    | refine orf fun _ => ?_
    | refine ort fun _ => ?_)
  skip -- hfs
  all_goals (clear hL hfs zq Z; subst hA hF hG0 hG1; simp only [So.std, SkR.Sk.std, SkT.Tb.std] at * <;> grind [stdCmp]; done)
theorem ok_of : ConOk Try.prog 25 (c_of So.std) := by
  refine con_of (FsOk.cons ok_copied (FsOk.cons ok_elist (FsOk.cons ok_tabof FsOk.nil rfl) rfl) rfl) Try.func25 rfl rfl fun xs h p hp => ?_
  unfold c_of at hp
  split at hp
  · cases hp
    exact ⟨lee_le rfl, fun hC _ => @x_of _ _ hC⟩
  · cases hp

def c_flist (F : So) : Con := fun xs h => match xs, h with
  | [.one (.sl none (.ints .u8 l))], [] => some ⟨F.o_b l = true, .sa (Bytes l), [], [Any]⟩
  | _, _ => none
set_option maxHeartbeats 2000000 in
set_option maxRecDepth 100000 in
theorem x_flist (l : List Int) (hC : So.std.o_b l = true) : Does [] Try.f60 [.one (.sl none (.ints .u8 l))] [] ⟨So.std.o_b l = true, .sa (Bytes l), [], [Any]⟩ := by
  intro b gv
  have hk : l.length ≤ 1000000000 := of_decide_eq_true (show decide (l.length ≤ 1000000000) = true from hC)
  have hfs := FsOk.nil
  generalize hF : So.std = F at hC hfs ⊢
  generalize hG0 : SkR.Sk.std = G0 at hC hfs ⊢
  generalize hG1 : SkT.Tb.std = G1 at hC hfs ⊢
  generalize hA : Ar.std = A
  generalize hL : Lp _ _ _ = L
  obtain ⟨Z, zq⟩ := z_all
  refine @cd_open _ _ _ _ _ _ _ (lp_mono hL) _ _ zq rfl ?_
  repeat' (first
    | (refine z_open zq ?_; try dsimp only)
    | refine cd_seq zq ?_ (lp_mono hL)
    | refine cd_blk zq ?_
    | refine cd_ret ?_
    | refine cd_skip ?_
    | refine cd_exit ?_
    | refine cd_loop ?_
    | refine cd_cond rfl ?_
    | refine cd_condT rfl ?_
    | refine cd_condF rfl ?_
    | (refine Cd.mk ?_; cbv)
    | (refine Ends1.mk ?_; cbv)
    | (refine Fin1.mk ?_; cbv)
    | exact trivial
    | refine And.intro ?_ ?_
    | refine orf fun _ => ?_
    | refine ort fun _ => ?_)
  skip -- hfs
  all_goals (clear hL hfs zq Z; subst hA hF hG0 hG1; simp only [So.std, Ar.std, List.nil_append] at * <;> grind [stdCmp]; done)
theorem ok_flist : ConOk Try.prog 60 (c_flist So.std) := by
  refine con_of FsOk.nil Try.func60 rfl rfl fun xs h p hp => ?_
  unfold c_flist at hp
  split at hp
  · cases hp
    exact ⟨lee_le rfl, fun hC _ => @x_flist _ hC⟩
  · cases hp

def c_sput (F : So) : Con := fun xs h => match xs, h with
  | [.one (.ptr 0 0), .agg [.val (.int .i64 f_a), .val (.int .i64 f_b), .sl none (.ints .u8 f_l), .val (.bool f_x)]], [(0, .cells 94 [.own 1, .own 2, .ptr 3 0]), (1, .row 32 (.recs (.int .i64 (.int .i64 (.ints .u8 (.bool .nil)))) q)), (2, .row 48 (.recs (.int .i64 (.int .i64 (.int .i64 .nil))) u)), (3, .row 106 (.recs (.bool .nil) T))] => some ⟨F.o_q q T f_l = true, .tup [], [(0, .cells 94 [.own 1, .own 2, .ptr 3 0]), (1, .row 32 (.recs (.int .i64 (.int .i64 (.ints .u8 (.bool .nil)))) (F.o_p q T f_a f_b f_l f_x))), (2, .row 48 (.recs (.int .i64 (.int .i64 (.int .i64 .nil))) u)), (3, .row 106 (.recs (.bool .nil) T))], [.one (.ptr 0 0), Any]⟩
  | _, _ => none
set_option maxHeartbeats 2000000 in
set_option maxRecDepth 100000 in
theorem x_sput (f_a : Int) (f_b : Int) (f_l : List Int) (f_x : Bool) (q : List E) (u : List E) (T : List E) (hC : So.std.o_q q T f_l = true) : Does [(33, c_carries SkT.Tb.std), (keepKey 33, noCon), (60, c_flist So.std)] Try.f38 [.one (.ptr 0 0), .agg [.val (.int .i64 f_a), .val (.int .i64 f_b), .sl none (.ints .u8 f_l), .val (.bool f_x)]] [(0, .cells 94 [.own 1, .own 2, .ptr 3 0]), (1, .row 32 (.recs (.int .i64 (.int .i64 (.ints .u8 (.bool .nil)))) q)), (2, .row 48 (.recs (.int .i64 (.int .i64 (.int .i64 .nil))) u)), (3, .row 106 (.recs (.bool .nil) T))] ⟨So.std.o_q q T f_l = true, .tup [], [(0, .cells 94 [.own 1, .own 2, .ptr 3 0]), (1, .row 32 (.recs (.int .i64 (.int .i64 (.ints .u8 (.bool .nil)))) (So.std.o_p q T f_a f_b f_l f_x))), (2, .row 48 (.recs (.int .i64 (.int .i64 (.int .i64 .nil))) u)), (3, .row 106 (.recs (.bool .nil) T))], [.one (.ptr 0 0), Any]⟩ := by
  intro b gv
  have hk : q.length ≤ 1000000 ∧ T.length = 4225 ∧ f_l.length ≤ 1000000000 := of_decide_eq_true (show decide _ = true from hC)
  have hfs := (FsOk.keeps ok_carries kp_carries (FsOk.cons ok_flist FsOk.nil rfl))
  generalize hF : So.std = F at hC hfs ⊢
  generalize hG0 : SkR.Sk.std = G0 at hC hfs ⊢
  generalize hG1 : SkT.Tb.std = G1 at hC hfs ⊢
  generalize hA : Ar.std = A
  generalize hL : Lp _ _ _ = L
  obtain ⟨Z, zq⟩ := z_all
  refine @cd_open _ _ _ _ _ _ _ (lp_mono hL) _ _ zq rfl ?_
  repeat' (first
    | (refine z_open zq ?_; try dsimp only)
    | refine cd_seq zq ?_ (lp_mono hL)
    | refine cd_blk zq ?_
    | refine cd_ret ?_
    | refine cd_skip ?_
    | refine cd_exit ?_
    | refine cd_loop ?_
    | refine cd_cond rfl ?_
    | refine cd_condT rfl ?_
    | refine cd_condF rfl ?_
    | (refine Cd.mk ?_; cbv)
    | (refine Ends1.mk ?_; cbv)
    | (refine Fin1.mk ?_; cbv)
    | exact trivial
    | refine And.intro ?_ ?_
    | refine orf fun _ => ?_
    | refine ort fun _ => ?_)
  skip -- hfs
  all_goals (clear hL hfs zq Z; subst hA hF hG0 hG1; simp only [So.std, SkT.Tb.std, Ar.std] at * <;> grind [stdCmp, putF]; done)
theorem ok_sput : ConOk Try.prog 38 (c_sput So.std) := by
  refine con_of (FsOk.keeps ok_carries kp_carries (FsOk.cons ok_flist FsOk.nil rfl)) Try.func38 rfl rfl fun xs h p hp => ?_
  unfold c_sput at hp
  split at hp
  · cases hp
    exact ⟨lee_le rfl, fun hC _ => @x_sput _ _ _ _ _ _ _ hC⟩
  · cases hp

def c_send (_ : So) : Con := fun xs h => match xs, h with
  | [.one (.ptr 0 0)], [(0, .cells 94 [.own 1, .own 2, .ptr 3 0]), (1, .row 32 (.recs (.int .i64 (.int .i64 (.ints .u8 (.bool .nil)))) q)), (2, .row 48 (.recs (.int .i64 (.int .i64 (.int .i64 .nil))) u)), (3, .row 106 (.recs (.bool .nil) _))] => some ⟨True, .sa (.agg [.sl none (.recs (.int .i64 (.int .i64 (.ints .u8 (.bool .nil)))) q), .sl none (.recs (.int .i64 (.int .i64 (.int .i64 .nil))) u)]), [], [Any]⟩
  | _, _ => none
set_option maxHeartbeats 2000000 in
set_option maxRecDepth 100000 in
theorem x_send (q : List E) (u : List E) (T : List E) : Does [] Try.f27 [.one (.ptr 0 0)] [(0, .cells 94 [.own 1, .own 2, .ptr 3 0]), (1, .row 32 (.recs (.int .i64 (.int .i64 (.ints .u8 (.bool .nil)))) q)), (2, .row 48 (.recs (.int .i64 (.int .i64 (.int .i64 .nil))) u)), (3, .row 106 (.recs (.bool .nil) T))] ⟨True, .sa (.agg [.sl none (.recs (.int .i64 (.int .i64 (.ints .u8 (.bool .nil)))) q), .sl none (.recs (.int .i64 (.int .i64 (.int .i64 .nil))) u)]), [], [Any]⟩ := by
  intro b gv
  have hfs := FsOk.nil
  generalize hF : So.std = F at hfs ⊢
  generalize hG0 : SkR.Sk.std = G0 at hfs ⊢
  generalize hG1 : SkT.Tb.std = G1 at hfs ⊢
  generalize hA : Ar.std = A
  generalize hL : Lp _ _ _ = L
  obtain ⟨Z, zq⟩ := z_all
  refine @cd_open _ _ _ _ _ _ _ (lp_mono hL) _ _ zq rfl ?_
  repeat' (first
    | (refine z_open zq ?_; try dsimp only)
    | refine cd_seq zq ?_ (lp_mono hL)
    | refine cd_blk zq ?_
    | refine cd_ret ?_
    | refine cd_skip ?_
    | refine cd_exit ?_
    | refine cd_loop ?_
    | refine cd_cond rfl ?_
    | refine cd_condT rfl ?_
    | refine cd_condF rfl ?_
    | (refine Cd.mk ?_; cbv)
    | (refine Ends1.mk ?_; cbv)
    | (refine Fin1.mk ?_; cbv)
    | exact trivial
    | refine And.intro ?_ ?_
    | refine orf fun _ => ?_
    | refine ort fun _ => ?_)
  skip -- hfs
  all_goals (clear hL hfs zq Z; subst hA hF hG0 hG1; simp only [So.std, SkR.Sk.std, SkT.Tb.std, Ar.std, List.nil_append] at * <;> grind [stdCmp]; done)
theorem ok_send : ConOk Try.prog 27 (c_send So.std) := by
  refine con_of FsOk.nil Try.func27 rfl rfl fun xs h p hp => ?_
  unfold c_send at hp
  split at hp
  · cases hp
    exact ⟨lee_le rfl, fun _ _ => @x_send _ _ _⟩
  · cases hp
end Go.Proofs.Ytphbfoafgfnmmaa.SkO
