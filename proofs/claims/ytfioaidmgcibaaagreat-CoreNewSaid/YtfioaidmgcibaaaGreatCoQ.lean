/-
  what a core without ties is, as the document has it. No condition.
-/
import Derived.Test.YtfioaidmgcibaaaGreatCoP
import Derived.Test.YtfioaidmgcibaaaGreatViM
import Derived.Test.YtfioaidmgcibaaaGreatSpQ
namespace Go.Proofs.YtfioaidmgcibaaaGreat.CoQ
open Go Go.Proofs.YtfioaidmgcibaaaGreat.Ry Go.Proofs.YtfioaidmgcibaaaGreat.Cmp Go.Proofs.YtfioaidmgcibaaaGreat.ViR Go.Proofs.YtfioaidmgcibaaaGreat.ViC Go.Proofs.YtfioaidmgcibaaaGreat.ViL Go.Proofs.YtfioaidmgcibaaaGreat.ViT Go.Proofs.YtfioaidmgcibaaaGreat.CoN

open Go.Proofs.YtfioaidmgcibaaaGreat.ViQ (c_rinner ok_rinner c_router ok_router c_rbound ok_rbound c_redge ok_redge)
open Go.Proofs.YtfioaidmgcibaaaGreat.ViM (c_rmerge ok_rmerge mgO mgP cmB)
open Go.Proofs.YtfioaidmgcibaaaGreat.SpQ (c_rforest ok_rforest rfB inR)
open Go.Proofs.YtfioaidmgcibaaaGreat.ViS (c_rints ok_rints c_rvsame ok_rvsame sameI sameV)
theorem y_in : rinF [] = [] := rfl
theorem y_bo : boF [] = [] := rfl
theorem y_ou (n : List Int) : ouF n [] = [] := rfl
theorem k_mn : all64 (fun k => decide (mgO [(k : Int)] [] = [(k : Int)])) = true := by decide +kernel
theorem k_cm : all64 (fun k => !cmB [(k : Int)] []) = true := by decide +kernel
theorem k_ml : all64 (fun k => (mgP [(k : Int)] [] [] []).isEmpty) = true := by decide +kernel
theorem y_mn {i : Int} (h : nodB i = true) : mgO [i] [] = [i] := by
  obtain ⟨k, h1, h2, rfl⟩ := node_k h
  exact of_decide_eq_true (of64 k_mn h1 h2)
theorem y_cm {i : Int} (h : nodB i = true) : cmB [i] [] = false := by
  obtain ⟨k, h1, h2, rfl⟩ := node_k h
  have := of64 k_cm h1 h2
  simpa using this
theorem y_ml {i : Int} (h : nodB i = true) : mgP [i] [] [] [] = [] := by
  obtain ⟨k, h1, h2, rfl⟩ := node_k h
  exact List.isEmpty_iff.1 (of64 k_ml h1 h2)
theorem y_fo : rfB [] = true := by decide +kernel
theorem y_ir : inR [] = true := by decide +kernel
def eqI (a b : List Int) : Bool := decide (a = b ∧ a.length ≤ 1000)
def emq (a b : List E) : Bool := a.isEmpty && b.isEmpty

structure Co where
  a_ne : Int → Int → Int → Int
  a_nn : Int → Int → Int → Int
  a_nr : Int → Int → Int → Int
  a_em : List E → Bool
  a_lt : Int → Int → Bool
  a_v : List Int → List E → Bool
  a_nd : Int → Bool
  a_nw : Int → Int → Bool
  a_eq : List Int → List Int → Bool
  a_eq2 : List E → List E → Bool
def Co.std : Co := ⟨afE, afN, afR, emp, fun a b => decide (a < b), fun n l => l.isEmpty && decide (n.length ≤ 70), nodB, nwB, eqI, emq⟩

def c_rafter (F : Co) : Con := fun xs h => match xs, h with
  | [.one (.val (.int .i64 t)), .one (.val (.int .i64 l)), .one (.val (.int .i64 i))], [] => some ⟨True, .tup [.agg [.val (.int .i64 (F.a_nn t l i)), .val (.int .i64 (F.a_nr t l i))], I (F.a_ne t l i)], [], [Any, Any, Any]⟩
  | _, _ => none
set_option cbv.maxSteps 4000000 in
set_option maxHeartbeats 4000000 in
set_option maxRecDepth 100000 in
theorem x_rafter (t : Int) (l : Int) (i : Int) : Does [(8, c_rnode ViR.Vs.std)] Tryz.f43 [.one (.val (.int .i64 t)), .one (.val (.int .i64 l)), .one (.val (.int .i64 i))] [] ⟨True, .tup [.agg [.val (.int .i64 (Co.std.a_nn t l i)), .val (.int .i64 (Co.std.a_nr t l i))], I (Co.std.a_ne t l i)], [], [Any, Any, Any]⟩ := by
  intro b gv
  have h0 := fun h => af_0 (t := t) (l := l) (i := i) h
  have hfs := (FsOk.cons ok_rnode FsOk.nil rfl)
  generalize hF : Co.std = F at hfs ⊢
  generalize hG0 : ViR.Vs.std = G0 at hfs ⊢
  generalize hG1 : ViC.Vc.std = G1 at hfs ⊢
  generalize hG2 : ViQ.Vm.std = G2 at hfs ⊢
  generalize hG3 : SpQ.Sq.std = G3 at hfs ⊢
  generalize hG4 : ViM.Vg.std = G4 at hfs ⊢
  generalize hG5 : ViS.Vq.std = G5 at hfs ⊢
  generalize hG6 : CoN.Cn.std = G6 at hfs ⊢
  generalize hA : Ar.std = A
  generalize hL : Lp _ _ _ = L
  obtain ⟨Z, zq⟩ := z_all
  refine @cd_open _ _ _ _ _ _ _ (lp_mono hL) _ _ zq rfl ?_
  repeat' (first
    | (refine z_open zq ?_; try dsimp only)
    | refine cd_seq zq ?_ (lp_mono hL)
    | refine cd_blk zq ?_
    | refine cd_ret ?_
    | refine cd_skip ?_
    | refine cd_exit ?_
    | refine cd_loop ?_
    | refine cd_cond rfl ?_
    | refine cd_condT rfl ?_
    | refine cd_condF rfl ?_
    | (refine Cd.mk ?_; cbv)
    | (refine Ends1.mk ?_; cbv)
    | (refine Fin1.mk ?_; cbv)
    | exact trivial
    | refine And.intro ?_ ?_
    | refine orf fun _ => ?_
    | refine ort fun _ => ?_)
  all_goals
    clear hL zq Z
    try clear hfs
    subst hA hF hG0 hG1 hG2 hG3 hG4 hG5 hG6
    simp only [Co.std, ViR.Vs.std, Ar.std] at *
    try (grind [stdCmp, afE, afN, afR])
theorem ok_rafter : ConOk Tryz.prog 43 (c_rafter Co.std) := by
  refine con_of (FsOk.cons ok_rnode FsOk.nil rfl) Tryz.func43 rfl rfl fun xs h p hp => ?_
  unfold c_rafter at hp
  split at hp
  · cases hp
    exact ⟨lee_le rfl, fun _ _ => @x_rafter _ _ _⟩
  · cases hp

def c_bd (F : Co) : Con := fun xs h => match xs, h with
  | [.agg [.val (.int .i64 _), .val (.int .i64 _), .val (.int .i64 _), .val (.int .i64 _), .val (.int .i64 _), .sl none (.recs (.int .i64 (.int .i64 (.int .i64 (.int .i64 (.bool (.bool (.int .i64 .nil))))))) c_ties), .sl none (.ints .i64 _), .sl none (.ints .i64 _), .sl none (.recs (.int .i64 (.int .i64 (.int .i64 (.int .i64 (.bool .nil))))) _), .val (.int .i64 _), .sl none (.ints .i64 _), .sl none (.recs (.int .i64 (.int .i64 (.int .i64 (.int .i64 (.bool .nil))))) _), .val (.int .i64 _), .val (.bool _)], .one (.val (.int .i64 _))], [] => some ⟨F.a_em c_ties = true, .sa (.one (.sl none (.ints .i64 []))), [], [Any, Any]⟩
  | _, _ => none
set_option cbv.maxSteps 4000000 in
set_option maxHeartbeats 4000000 in
set_option maxRecDepth 100000 in
theorem x_bd (c_i : Int) (c_ee : Int) (c_er : Int) (c_t : Int) (c_p : Int) (c_ties : List E) (c_w : List Int) (c_gn : List Int) (c_gl : List E) (c_ph : Int) (c_tn : List Int) (c_tl : List E) (c_l : Int) (c_o : Bool) (x : Int) (hC : Co.std.a_em c_ties = true) : Does [] Tryz.f77 [.agg [.val (.int .i64 c_i), .val (.int .i64 c_ee), .val (.int .i64 c_er), .val (.int .i64 c_t), .val (.int .i64 c_p), .sl none (.recs (.int .i64 (.int .i64 (.int .i64 (.int .i64 (.bool (.bool (.int .i64 .nil))))))) c_ties), .sl none (.ints .i64 c_w), .sl none (.ints .i64 c_gn), .sl none (.recs (.int .i64 (.int .i64 (.int .i64 (.int .i64 (.bool .nil))))) c_gl), .val (.int .i64 c_ph), .sl none (.ints .i64 c_tn), .sl none (.recs (.int .i64 (.int .i64 (.int .i64 (.int .i64 (.bool .nil))))) c_tl), .val (.int .i64 c_l), .val (.bool c_o)], .one (.val (.int .i64 x))] [] ⟨Co.std.a_em c_ties = true, .sa (.one (.sl none (.ints .i64 []))), [], [Any, Any]⟩ := by
  intro b gv
  have hz_c_ties : c_ties = [] := List.isEmpty_iff.1 (show c_ties.isEmpty = true from by first | exact hC | exact hC.1)
  subst hz_c_ties
  have hfs := FsOk.nil
  generalize hF : Co.std = F at hC hfs ⊢
  generalize hG0 : ViR.Vs.std = G0 at hC hfs ⊢
  generalize hG1 : ViC.Vc.std = G1 at hC hfs ⊢
  generalize hG2 : ViQ.Vm.std = G2 at hC hfs ⊢
  generalize hG3 : SpQ.Sq.std = G3 at hC hfs ⊢
  generalize hG4 : ViM.Vg.std = G4 at hC hfs ⊢
  generalize hG5 : ViS.Vq.std = G5 at hC hfs ⊢
  generalize hG6 : CoN.Cn.std = G6 at hC hfs ⊢
  generalize hA : Ar.std = A
  generalize hL : Lp _ _ _ = L
  obtain ⟨Z, zq⟩ := z_all
  refine @cd_open _ _ _ _ _ _ _ (lp_mono hL) _ _ zq rfl ?_
  repeat' (first
    | (refine z_open zq ?_; try dsimp only)
    | refine cd_seq zq ?_ (lp_mono hL)
    | refine cd_blk zq ?_
    | refine cd_ret ?_
    | refine cd_skip ?_
    | refine cd_exit ?_
    | refine cd_loop ?_
    | refine cd_cond rfl ?_
    | refine cd_condT rfl ?_
    | refine cd_condF rfl ?_
    | (refine Cd.mk ?_; cbv)
    | (refine Ends1.mk ?_; cbv)
    | (refine Fin1.mk ?_; cbv)
    | exact trivial
    | refine And.intro ?_ ?_
    | refine orf fun _ => ?_
    | refine ort fun _ => ?_)
  subst hL
  refine loop_z (cx_ok hfs) (zQ) (fun y => stOf Tryz.f77.ntmps [(1, .val (.int .i64 x)), (2, .ptr 1 0), (5, .sl (some (2, 3)) (.ints .i64 [])), (6, .val (.int .i64 y.i))] [(1, .cells 30 [.val (.int .i64 c_i), .val (.int .i64 c_ee), .val (.int .i64 c_er), .val (.int .i64 c_t), .val (.int .i64 c_p), .sl none (.recs (.int .i64 (.int .i64 (.int .i64 (.int .i64 (.bool (.bool (.int .i64 .nil))))))) []), .sl none (.ints .i64 c_w), .sl none (.ints .i64 c_gn), .sl none (.recs (.int .i64 (.int .i64 (.int .i64 (.int .i64 (.bool .nil))))) c_gl), .val (.int .i64 c_ph), .sl none (.ints .i64 c_tn), .sl none (.recs (.int .i64 (.int .i64 (.int .i64 (.int .i64 (.bool .nil))))) c_tl), .val (.int .i64 c_l), .val (.bool c_o)]), (2, .tok)] [Any, Any]) (zM) (zR 6) ⟨0⟩ ?_ ?_ ?_
  · exact rfl
  · cbv
    repeat' (first | exact trivial | exact rfl | refine And.intro ?_ ?_)
  rintro ⟨i⟩ hq O hO
  have hi0 : i = 0 := hq
  subst hA
  generalize hA : Ar.std = A
  generalize hL : Lp _ _ _ = L
  refine cd_close zq ?_
  repeat' (first
    | (refine z_open zq ?_; try dsimp only)
    | refine cd_seq zq ?_ (lp_mono hL)
    | refine cd_blk zq ?_
    | refine cd_ret ?_
    | refine cd_skip ?_
    | refine cd_exit ?_
    | refine cd_loop ?_
    | refine cd_cond rfl ?_
    | refine cd_condT rfl ?_
    | refine cd_condF rfl ?_
    | (refine Cd.mk ?_; cbv)
    | (refine Ends1.mk ?_; cbv)
    | (refine Fin1.mk ?_; cbv)
    | exact trivial
    | refine And.intro ?_ ?_
    | refine orf fun _ => ?_
    | refine ort fun _ => ?_)
  all_goals first | (show L _ _ _; skip) | (exfalso; clear hL zq Z hq; subst hA hF hG0 hG1 hG2 hG3 hG4 hG5 hG6 hO; simp only [Co.std, Ar.std] at * <;> grind [stdCmp]; done) | (clear hL zq Z hq; subst hA hF hG0 hG1 hG2 hG3 hG4 hG5 hG6 hO; simp only [Co.std, ViR.Vs.std, ViC.Vc.std, ViQ.Vm.std, SpQ.Sq.std, ViM.Vg.std, ViS.Vq.std, CoN.Cn.std, Ar.std, List.nil_append] at * <;> grind [stdCmp]; done)
theorem ok_bd : ConOk Tryz.prog 77 (c_bd Co.std) := by
  refine con_of FsOk.nil Tryz.func77 rfl rfl fun xs h p hp => ?_
  unfold c_bd at hp
  split at hp
  · cases hp
    exact ⟨lee_le rfl, fun hC _ => @x_bd _ _ _ _ _ _ _ _ _ _ _ _ _ _ _ hC⟩
  · cases hp

def c_ow (F : Co) : Con := fun xs h => match xs, h with
  | [.agg [.val (.int .i64 c_i), .val (.int .i64 _), .val (.int .i64 _), .val (.int .i64 _), .val (.int .i64 _), .sl none (.recs (.int .i64 (.int .i64 (.int .i64 (.int .i64 (.bool (.bool (.int .i64 .nil))))))) c_ties), .sl none (.ints .i64 _), .sl none (.ints .i64 _), .sl none (.recs (.int .i64 (.int .i64 (.int .i64 (.int .i64 (.bool .nil))))) _), .val (.int .i64 _), .sl none (.ints .i64 _), .sl none (.recs (.int .i64 (.int .i64 (.int .i64 (.int .i64 (.bool .nil))))) _), .val (.int .i64 _), .val (.bool _)]], [] => some ⟨F.a_em c_ties = true, .sa (.agg [.sl none (.ints .i64 [c_i]), .sl none (.recs (.int .i64 (.int .i64 (.int .i64 (.int .i64 (.bool .nil))))) [])]), [], [Any]⟩
  | _, _ => none
set_option cbv.maxSteps 4000000 in
set_option maxHeartbeats 4000000 in
set_option maxRecDepth 100000 in
theorem x_ow (c_i : Int) (c_ee : Int) (c_er : Int) (c_t : Int) (c_p : Int) (c_ties : List E) (c_w : List Int) (c_gn : List Int) (c_gl : List E) (c_ph : Int) (c_tn : List Int) (c_tl : List E) (c_l : Int) (c_o : Bool) (hC : Co.std.a_em c_ties = true) : Does [] Tryz.f14 [.agg [.val (.int .i64 c_i), .val (.int .i64 c_ee), .val (.int .i64 c_er), .val (.int .i64 c_t), .val (.int .i64 c_p), .sl none (.recs (.int .i64 (.int .i64 (.int .i64 (.int .i64 (.bool (.bool (.int .i64 .nil))))))) c_ties), .sl none (.ints .i64 c_w), .sl none (.ints .i64 c_gn), .sl none (.recs (.int .i64 (.int .i64 (.int .i64 (.int .i64 (.bool .nil))))) c_gl), .val (.int .i64 c_ph), .sl none (.ints .i64 c_tn), .sl none (.recs (.int .i64 (.int .i64 (.int .i64 (.int .i64 (.bool .nil))))) c_tl), .val (.int .i64 c_l), .val (.bool c_o)]] [] ⟨Co.std.a_em c_ties = true, .sa (.agg [.sl none (.ints .i64 [c_i]), .sl none (.recs (.int .i64 (.int .i64 (.int .i64 (.int .i64 (.bool .nil))))) [])]), [], [Any]⟩ := by
  intro b gv
  have hz_c_ties : c_ties = [] := List.isEmpty_iff.1 (show c_ties.isEmpty = true from by first | exact hC | exact hC.1)
  subst hz_c_ties
  have hfs := FsOk.nil
  generalize hF : Co.std = F at hC hfs ⊢
  generalize hG0 : ViR.Vs.std = G0 at hC hfs ⊢
  generalize hG1 : ViC.Vc.std = G1 at hC hfs ⊢
  generalize hG2 : ViQ.Vm.std = G2 at hC hfs ⊢
  generalize hG3 : SpQ.Sq.std = G3 at hC hfs ⊢
  generalize hG4 : ViM.Vg.std = G4 at hC hfs ⊢
  generalize hG5 : ViS.Vq.std = G5 at hC hfs ⊢
  generalize hG6 : CoN.Cn.std = G6 at hC hfs ⊢
  generalize hA : Ar.std = A
  generalize hL : Lp _ _ _ = L
  obtain ⟨Z, zq⟩ := z_all
  refine @cd_open _ _ _ _ _ _ _ (lp_mono hL) _ _ zq rfl ?_
  repeat' (first
    | (refine z_open zq ?_; try dsimp only)
    | refine cd_seq zq ?_ (lp_mono hL)
    | refine cd_blk zq ?_
    | refine cd_ret ?_
    | refine cd_skip ?_
    | refine cd_exit ?_
    | refine cd_loop ?_
    | refine cd_cond rfl ?_
    | refine cd_condT rfl ?_
    | refine cd_condF rfl ?_
    | (refine Cd.mk ?_; cbv)
    | (refine Ends1.mk ?_; cbv)
    | (refine Fin1.mk ?_; cbv)
    | exact trivial
    | refine And.intro ?_ ?_
    | refine orf fun _ => ?_
    | refine ort fun _ => ?_)
  subst hL
  refine loop_z (cx_ok hfs) (zQ) (fun y => stOf Tryz.f14.ntmps [(1, .ptr 1 0), (2, .ptr 2 0), (3, .ptr 3 0), (4, .val (.int .i64 y.i))] [(1, .cells 30 [.val (.int .i64 c_i), .val (.int .i64 c_ee), .val (.int .i64 c_er), .val (.int .i64 c_t), .val (.int .i64 c_p), .sl none (.recs (.int .i64 (.int .i64 (.int .i64 (.int .i64 (.bool (.bool (.int .i64 .nil))))))) []), .sl none (.ints .i64 c_w), .sl none (.ints .i64 c_gn), .sl none (.recs (.int .i64 (.int .i64 (.int .i64 (.int .i64 (.bool .nil))))) c_gl), .val (.int .i64 c_ph), .sl none (.ints .i64 c_tn), .sl none (.recs (.int .i64 (.int .i64 (.int .i64 (.int .i64 (.bool .nil))))) c_tl), .val (.int .i64 c_l), .val (.bool c_o)]), (2, .cells 28 [.val (.slice none 0 0), .val (.slice none 0 0)]), (3, .cells 28 [.sl (some (4, 3)) (.ints .i64 [c_i]), .val (.slice none 0 0)]), (4, .tok)] [Any]) (zM) (zR 4) ⟨0⟩ ?_ ?_ ?_
  · exact rfl
  · cbv
    repeat' (first | exact trivial | exact rfl | refine And.intro ?_ ?_)
  rintro ⟨i⟩ hq O hO
  have hi0 : i = 0 := hq
  subst hA
  generalize hA : Ar.std = A
  generalize hL : Lp _ _ _ = L
  refine cd_close zq ?_
  repeat' (first
    | (refine z_open zq ?_; try dsimp only)
    | refine cd_seq zq ?_ (lp_mono hL)
    | refine cd_blk zq ?_
    | refine cd_ret ?_
    | refine cd_skip ?_
    | refine cd_exit ?_
    | refine cd_loop ?_
    | refine cd_cond rfl ?_
    | refine cd_condT rfl ?_
    | refine cd_condF rfl ?_
    | (refine Cd.mk ?_; cbv)
    | (refine Ends1.mk ?_; cbv)
    | (refine Fin1.mk ?_; cbv)
    | exact trivial
    | refine And.intro ?_ ?_
    | refine orf fun _ => ?_
    | refine ort fun _ => ?_)
  all_goals first | (show L _ _ _; skip) | (exfalso; clear hL zq Z hq; subst hA hF hG0 hG1 hG2 hG3 hG4 hG5 hG6 hO; simp only [Co.std, Ar.std] at * <;> grind [stdCmp]; done) | (clear hL zq Z hq; subst hA hF hG0 hG1 hG2 hG3 hG4 hG5 hG6 hO; simp only [Co.std, ViR.Vs.std, ViC.Vc.std, ViQ.Vm.std, SpQ.Sq.std, ViM.Vg.std, ViS.Vq.std, CoN.Cn.std, Ar.std, List.nil_append] at * <;> grind [stdCmp]; done)
theorem ok_ow : ConOk Tryz.prog 14 (c_ow Co.std) := by
  refine con_of FsOk.nil Tryz.func14 rfl rfl fun xs h p hp => ?_
  unfold c_ow at hp
  split at hp
  · cases hp
    exact ⟨lee_le rfl, fun hC _ => @x_ow _ _ _ _ _ _ _ _ _ _ _ _ _ _ hC⟩
  · cases hp

def c_fi (F : Co) : Con := fun xs h => match xs, h with
  | [.one (.sl none (.recs (.int .i64 (.int .i64 (.int .i64 (.int .i64 (.bool .nil))))) l))], [] => some ⟨F.a_em l = true, .sa (.one (.val (.int .i64 (-1)))), [], [Any]⟩
  | _, _ => none
set_option cbv.maxSteps 4000000 in
set_option maxHeartbeats 4000000 in
set_option maxRecDepth 100000 in
theorem x_fi (l : List E) (hC : Co.std.a_em l = true) : Does [] Tryz.f126 [.one (.sl none (.recs (.int .i64 (.int .i64 (.int .i64 (.int .i64 (.bool .nil))))) l))] [] ⟨Co.std.a_em l = true, .sa (.one (.val (.int .i64 (-1)))), [], [Any]⟩ := by
  intro b gv
  have hz_l : l = [] := List.isEmpty_iff.1 (show l.isEmpty = true from by first | exact hC | exact hC.1)
  subst hz_l
  have hfs := FsOk.nil
  generalize hF : Co.std = F at hC hfs ⊢
  generalize hG0 : ViR.Vs.std = G0 at hC hfs ⊢
  generalize hG1 : ViC.Vc.std = G1 at hC hfs ⊢
  generalize hG2 : ViQ.Vm.std = G2 at hC hfs ⊢
  generalize hG3 : SpQ.Sq.std = G3 at hC hfs ⊢
  generalize hG4 : ViM.Vg.std = G4 at hC hfs ⊢
  generalize hG5 : ViS.Vq.std = G5 at hC hfs ⊢
  generalize hG6 : CoN.Cn.std = G6 at hC hfs ⊢
  generalize hA : Ar.std = A
  generalize hL : Lp _ _ _ = L
  obtain ⟨Z, zq⟩ := z_all
  refine @cd_open _ _ _ _ _ _ _ (lp_mono hL) _ _ zq rfl ?_
  repeat' (first
    | (refine z_open zq ?_; try dsimp only)
    | refine cd_seq zq ?_ (lp_mono hL)
    | refine cd_blk zq ?_
    | refine cd_ret ?_
    | refine cd_skip ?_
    | refine cd_exit ?_
    | refine cd_loop ?_
    | refine cd_cond rfl ?_
    | refine cd_condT rfl ?_
    | refine cd_condF rfl ?_
    | (refine Cd.mk ?_; cbv)
    | (refine Ends1.mk ?_; cbv)
    | (refine Fin1.mk ?_; cbv)
    | exact trivial
    | refine And.intro ?_ ?_
    | refine orf fun _ => ?_
    | refine ort fun _ => ?_)
  subst hL
  refine loop_z (cx_ok hfs) (zQ) (fun y => stOf Tryz.f126.ntmps [(0, .sl none (.recs (.int .i64 (.int .i64 (.int .i64 (.int .i64 (.bool .nil))))) [])), (3, .num .i64 (-1)), (4, .val (.int .i64 y.i))] [] [Any]) (zM) (zR 4) ⟨0⟩ ?_ ?_ ?_
  · exact rfl
  · cbv
    repeat' (first | exact trivial | exact rfl | refine And.intro ?_ ?_)
  rintro ⟨i⟩ hq O hO
  have hi0 : i = 0 := hq
  subst hA
  generalize hA : Ar.std = A
  generalize hL : Lp _ _ _ = L
  refine cd_close zq ?_
  repeat' (first
    | (refine z_open zq ?_; try dsimp only)
    | refine cd_seq zq ?_ (lp_mono hL)
    | refine cd_blk zq ?_
    | refine cd_ret ?_
    | refine cd_skip ?_
    | refine cd_exit ?_
    | refine cd_loop ?_
    | refine cd_cond rfl ?_
    | refine cd_condT rfl ?_
    | refine cd_condF rfl ?_
    | (refine Cd.mk ?_; cbv)
    | (refine Ends1.mk ?_; cbv)
    | (refine Fin1.mk ?_; cbv)
    | exact trivial
    | refine And.intro ?_ ?_
    | refine orf fun _ => ?_
    | refine ort fun _ => ?_)
  all_goals first | (show L _ _ _; skip) | (exfalso; clear hL zq Z hq; subst hA hF hG0 hG1 hG2 hG3 hG4 hG5 hG6 hO; simp only [Co.std, Ar.std] at * <;> grind [stdCmp]; done) | (clear hL zq Z hq; subst hA hF hG0 hG1 hG2 hG3 hG4 hG5 hG6 hO; simp only [Co.std, ViR.Vs.std, ViC.Vc.std, ViQ.Vm.std, SpQ.Sq.std, ViM.Vg.std, ViS.Vq.std, CoN.Cn.std, Ar.std, List.nil_append] at * <;> grind [stdCmp]; done)
theorem ok_fi : ConOk Tryz.prog 126 (c_fi Co.std) := by
  refine con_of FsOk.nil Tryz.func126 rfl rfl fun xs h p hp => ?_
  unfold c_fi at hp
  split at hp
  · cases hp
    exact ⟨lee_le rfl, fun hC _ => @x_fi _ hC⟩
  · cases hp

def c_ch10 (F : Co) : Con := fun xs h => match xs, h with
  | [.agg [.sl none (.ints .i64 v_n), .sl none (.recs (.int .i64 (.int .i64 (.int .i64 (.int .i64 (.bool .nil))))) v_l)]], [] => some ⟨F.a_v v_n v_l = true, .sa (.agg [.val (.int .i64 1), .val (.int .i64 0), .val (.int .i64 0), .val (.int .i64 0)]), [], [Any]⟩
  | _, _ => none
set_option cbv.maxSteps 4000000 in
set_option maxHeartbeats 4000000 in
set_option maxRecDepth 100000 in
theorem x_ch10 (v_n : List Int) (v_l : List E) (hC : Co.std.a_v v_n v_l = true) : Does [(121, c_rinner ViQ.Vm.std), (99, c_rbound ViQ.Vm.std), (122, c_redge ViQ.Vm.std), (126, c_fi Co.std), (127, c_router ViQ.Vm.std)] Tryz.f100 [.agg [.sl none (.ints .i64 v_n), .sl none (.recs (.int .i64 (.int .i64 (.int .i64 (.int .i64 (.bool .nil))))) v_l)]] [] ⟨Co.std.a_v v_n v_l = true, .sa (.agg [.val (.int .i64 1), .val (.int .i64 0), .val (.int .i64 0), .val (.int .i64 0)]), [], [Any]⟩ := by
  intro b gv
  have hc : (v_l.isEmpty && decide (v_n.length ≤ 70)) = true := hC
  rw [Bool.and_eq_true, List.isEmpty_iff, decide_eq_true_eq] at hc
  obtain ⟨hz, hk⟩ := hc
  subst hz
  have z1 := y_in
  have z2 := y_bo
  have z3 := y_ou v_n
  have z4 : emp [] = true := rfl
  have hfs := (FsOk.cons ok_rinner (FsOk.cons ok_rbound (FsOk.cons ok_redge (FsOk.cons ok_fi (FsOk.cons ok_router FsOk.nil rfl) rfl) rfl) rfl) rfl)
  generalize hF : Co.std = F at hC hfs ⊢
  generalize hG0 : ViR.Vs.std = G0 at hC hfs ⊢
  generalize hG1 : ViC.Vc.std = G1 at hC hfs ⊢
  generalize hG2 : ViQ.Vm.std = G2 at hC hfs ⊢
  generalize hG3 : SpQ.Sq.std = G3 at hC hfs ⊢
  generalize hG4 : ViM.Vg.std = G4 at hC hfs ⊢
  generalize hG5 : ViS.Vq.std = G5 at hC hfs ⊢
  generalize hG6 : CoN.Cn.std = G6 at hC hfs ⊢
  generalize hA : Ar.std = A
  generalize hL : Lp _ _ _ = L
  obtain ⟨Z, zq⟩ := z_all
  refine @cd_open _ _ _ _ _ _ _ (lp_mono hL) _ _ zq rfl ?_
  repeat' (first
    | (refine z_open zq ?_; try dsimp only)
    | refine cd_seq zq ?_ (lp_mono hL)
    | refine cd_blk zq ?_
    | refine cd_ret ?_
    | refine cd_skip ?_
    | refine cd_exit ?_
    | refine cd_loop ?_
    | refine cd_cond rfl ?_
    | refine cd_condT rfl ?_
    | refine cd_condF rfl ?_
    | (refine Cd.mk ?_; cbv)
    | (refine Ends1.mk ?_; cbv)
    | (refine Fin1.mk ?_; cbv)
    | exact trivial
    | refine And.intro ?_ ?_
    | refine orf fun _ => ?_
    | refine ort fun _ => ?_)
  all_goals first | (show L _ _ _; skip) | (exfalso; clear hL hfs zq Z; subst hA hF hG0 hG1 hG2 hG3 hG4 hG5 hG6; simp only [Co.std] at * <;> grind [stdCmp]; done) | (clear hL hfs zq Z; subst hA hF hG0 hG1 hG2 hG3 hG4 hG5 hG6; simp only [Co.std, ViQ.Vm.std] at * <;> grind [stdCmp]; done)
  subst hL
  refine loop_z (cx_ok hfs) (zQ) (fun y => stOf Tryz.f100.ntmps [(1, .ptr 1 0), (2, .ptr 2 0), (3, .sl none (.recs (.int .i64 (.int .i64 (.int .i64 (.int .i64 (.bool .nil))))) (G2.m_in []))), (4, .sl none (.recs (.int .i64 (.int .i64 (.int .i64 .nil))) (G2.m_bo []))), (5, .sl (some (3, 73)) (.recs (.int .i64 (.int .i64 (.int .i64 (.int .i64 (.bool .nil))))) [])), (6, .val (.int .i64 y.i))] [(1, .cells 28 [.sl none (.ints .i64 v_n), .sl none (.recs (.int .i64 (.int .i64 (.int .i64 (.int .i64 (.bool .nil))))) [])]), (2, .cells 44 [.num .i64 0, .num .i64 0, .num .i64 0, .num .i64 0]), (3, .tok)] [Any]) (zM) (zR 6) ⟨0⟩ ?_ ?_ ?_
  · exact rfl
  · cbv
    repeat' (first | exact trivial | exact rfl | refine And.intro ?_ ?_)
  rintro ⟨i⟩ hq O hO
  have hi0 : i = 0 := hq
  subst hA
  generalize hA : Ar.std = A
  generalize hL : Lp _ _ _ = L
  refine cd_close zq ?_
  repeat' (first
    | (refine z_open zq ?_; try dsimp only)
    | refine cd_seq zq ?_ (lp_mono hL)
    | refine cd_blk zq ?_
    | refine cd_ret ?_
    | refine cd_skip ?_
    | refine cd_exit ?_
    | refine cd_loop ?_
    | refine cd_cond rfl ?_
    | refine cd_condT rfl ?_
    | refine cd_condF rfl ?_
    | (refine Cd.mk ?_; cbv)
    | (refine Ends1.mk ?_; cbv)
    | (refine Fin1.mk ?_; cbv)
    | exact trivial
    | refine And.intro ?_ ?_
    | refine orf fun _ => ?_
    | refine ort fun _ => ?_)
  all_goals first | (show L _ _ _; skip) | (exfalso; clear hL hfs zq Z hq; subst hA hF hG0 hG1 hG2 hG3 hG4 hG5 hG6 hO; simp only [Co.std, ViQ.Vm.std, Ar.std] at * <;> grind [stdCmp]; done) | (clear hL hfs zq Z hq; subst hA hF hG0 hG1 hG2 hG3 hG4 hG5 hG6 hO; simp only [Co.std, ViQ.Vm.std, Ar.std] at * <;> grind [stdCmp]; done)
theorem ok_ch10 : ConOk Tryz.prog 100 (c_ch10 Co.std) := by
  refine con_of (FsOk.cons ok_rinner (FsOk.cons ok_rbound (FsOk.cons ok_redge (FsOk.cons ok_fi (FsOk.cons ok_router FsOk.nil rfl) rfl) rfl) rfl) rfl) Tryz.func100 rfl rfl fun xs h p hp => ?_
  unfold c_ch10 at hp
  split at hp
  · cases hp
    exact ⟨lee_le rfl, fun hC _ => @x_ch10 _ _ hC⟩
  · cases hp

def c_cho (F : Co) : Con := fun xs h => match xs, h with
  | [.agg [.val (.int .i64 s_i), .val (.int .i64 s_ee), .val (.int .i64 s_er), .val (.int .i64 s_t), .val (.int .i64 s_p), .sl none (.recs (.int .i64 (.int .i64 (.int .i64 (.int .i64 (.bool (.bool (.int .i64 .nil))))))) s_ties), .sl none (.ints .i64 s_w), .sl none (.ints .i64 s_gn), .sl none (.recs (.int .i64 (.int .i64 (.int .i64 (.int .i64 (.bool .nil))))) s_gl), .val (.int .i64 _), .sl none (.ints .i64 _), .sl none (.recs (.int .i64 (.int .i64 (.int .i64 (.int .i64 (.bool .nil))))) _), .val (.int .i64 s_l), .val (.bool s_o), .sl none (.recs (.int .i64 (.int .i64 (.int .i64 (.int .i64 (.ints .i64 (.recs (.int .i64 (.int .i64 (.int .i64 (.int .i64 (.bool .nil))))) (.int .i64 (.int .i64 (.int .i64 (.int .i64 .nil)))))))))) s_out)], .agg [.val (.int .i64 c_k), .val (.int .i64 _), .val (.int .i64 _), .val (.int .i64 _)], .agg [.sl none (.ints .i64 v_n), .sl none (.recs (.int .i64 (.int .i64 (.int .i64 (.int .i64 (.bool .nil))))) v_l)]], [] => some ⟨F.a_em s_ties = true ∧ c_k = 1, .sa (.agg [.val (.int .i64 s_i), .val (.int .i64 s_ee), .val (.int .i64 s_er), .val (.int .i64 s_t), .val (.int .i64 s_p), .sl none (.recs (.int .i64 (.int .i64 (.int .i64 (.int .i64 (.bool (.bool (.int .i64 .nil))))))) s_ties), .sl none (.ints .i64 s_w), .sl none (.ints .i64 s_gn), .sl none (.recs (.int .i64 (.int .i64 (.int .i64 (.int .i64 (.bool .nil))))) s_gl), .val (.int .i64 4), .sl none (.ints .i64 v_n), .sl none (.recs (.int .i64 (.int .i64 (.int .i64 (.int .i64 (.bool .nil))))) v_l), .val (.int .i64 s_l), .val (.bool s_o), .sl none (.recs (.int .i64 (.int .i64 (.int .i64 (.int .i64 (.ints .i64 (.recs (.int .i64 (.int .i64 (.int .i64 (.int .i64 (.bool .nil))))) (.int .i64 (.int .i64 (.int .i64 (.int .i64 .nil)))))))))) s_out)]), [], [Any, Any, Any]⟩
  | _, _ => none
set_option cbv.maxSteps 4000000 in
set_option maxHeartbeats 4000000 in
set_option maxRecDepth 100000 in
theorem x_cho (s_i : Int) (s_ee : Int) (s_er : Int) (s_t : Int) (s_p : Int) (s_ties : List E) (s_w : List Int) (s_gn : List Int) (s_gl : List E) (s_ph : Int) (s_tn : List Int) (s_tl : List E) (s_l : Int) (s_o : Bool) (s_out : List E) (c_k : Int) (c_a : Int) (c_b : Int) (c_s : Int) (v_n : List Int) (v_l : List E) (hC : Co.std.a_em s_ties = true ∧ c_k = 1) : Does [(77, c_bd Co.std)] Tryz.f66 [.agg [.val (.int .i64 s_i), .val (.int .i64 s_ee), .val (.int .i64 s_er), .val (.int .i64 s_t), .val (.int .i64 s_p), .sl none (.recs (.int .i64 (.int .i64 (.int .i64 (.int .i64 (.bool (.bool (.int .i64 .nil))))))) s_ties), .sl none (.ints .i64 s_w), .sl none (.ints .i64 s_gn), .sl none (.recs (.int .i64 (.int .i64 (.int .i64 (.int .i64 (.bool .nil))))) s_gl), .val (.int .i64 s_ph), .sl none (.ints .i64 s_tn), .sl none (.recs (.int .i64 (.int .i64 (.int .i64 (.int .i64 (.bool .nil))))) s_tl), .val (.int .i64 s_l), .val (.bool s_o), .sl none (.recs (.int .i64 (.int .i64 (.int .i64 (.int .i64 (.ints .i64 (.recs (.int .i64 (.int .i64 (.int .i64 (.int .i64 (.bool .nil))))) (.int .i64 (.int .i64 (.int .i64 (.int .i64 .nil)))))))))) s_out)], .agg [.val (.int .i64 c_k), .val (.int .i64 c_a), .val (.int .i64 c_b), .val (.int .i64 c_s)], .agg [.sl none (.ints .i64 v_n), .sl none (.recs (.int .i64 (.int .i64 (.int .i64 (.int .i64 (.bool .nil))))) v_l)]] [] ⟨Co.std.a_em s_ties = true ∧ c_k = 1, .sa (.agg [.val (.int .i64 s_i), .val (.int .i64 s_ee), .val (.int .i64 s_er), .val (.int .i64 s_t), .val (.int .i64 s_p), .sl none (.recs (.int .i64 (.int .i64 (.int .i64 (.int .i64 (.bool (.bool (.int .i64 .nil))))))) s_ties), .sl none (.ints .i64 s_w), .sl none (.ints .i64 s_gn), .sl none (.recs (.int .i64 (.int .i64 (.int .i64 (.int .i64 (.bool .nil))))) s_gl), .val (.int .i64 4), .sl none (.ints .i64 v_n), .sl none (.recs (.int .i64 (.int .i64 (.int .i64 (.int .i64 (.bool .nil))))) v_l), .val (.int .i64 s_l), .val (.bool s_o), .sl none (.recs (.int .i64 (.int .i64 (.int .i64 (.int .i64 (.ints .i64 (.recs (.int .i64 (.int .i64 (.int .i64 (.int .i64 (.bool .nil))))) (.int .i64 (.int .i64 (.int .i64 (.int .i64 .nil)))))))))) s_out)]), [], [Any, Any, Any]⟩ := by
  intro b gv
  have hz_s_ties : s_ties = [] := List.isEmpty_iff.1 (show s_ties.isEmpty = true from by first | exact hC | exact hC.1)
  subst hz_s_ties
  have hck : c_k = 1 := hC.2
  subst hck
  have z4 : emp [] = true := rfl
  have hfs := (FsOk.cons ok_bd FsOk.nil rfl)
  generalize hF : Co.std = F at hC hfs ⊢
  generalize hG0 : ViR.Vs.std = G0 at hC hfs ⊢
  generalize hG1 : ViC.Vc.std = G1 at hC hfs ⊢
  generalize hG2 : ViQ.Vm.std = G2 at hC hfs ⊢
  generalize hG3 : SpQ.Sq.std = G3 at hC hfs ⊢
  generalize hG4 : ViM.Vg.std = G4 at hC hfs ⊢
  generalize hG5 : ViS.Vq.std = G5 at hC hfs ⊢
  generalize hG6 : CoN.Cn.std = G6 at hC hfs ⊢
  generalize hA : Ar.std = A
  generalize hL : Lp _ _ _ = L
  obtain ⟨Z, zq⟩ := z_all
  refine @cd_open _ _ _ _ _ _ _ (lp_mono hL) _ _ zq rfl ?_
  repeat' (first
    | (refine z_open zq ?_; try dsimp only)
    | refine cd_seq zq ?_ (lp_mono hL)
    | refine cd_blk zq ?_
    | refine cd_ret ?_
    | refine cd_skip ?_
    | refine cd_exit ?_
    | refine cd_loop ?_
    | refine cd_cond rfl ?_
    | refine cd_condT rfl ?_
    | refine cd_condF rfl ?_
    | (refine Cd.mk ?_; cbv)
    | (refine Ends1.mk ?_; cbv)
    | (refine Fin1.mk ?_; cbv)
    | exact trivial
    | refine And.intro ?_ ?_
    | refine orf fun _ => ?_
    | refine ort fun _ => ?_)
  all_goals first | (exfalso; clear hL hfs zq Z; subst hA hF hG0 hG1 hG2 hG3 hG4 hG5 hG6; simp only [Co.std, Ar.std] at * <;> grind [stdCmp]; done) | (show L _ _ _; skip) | (clear hL hfs zq Z; subst hA hF hG0 hG1 hG2 hG3 hG4 hG5 hG6; simp only [Co.std, Ar.std] at * <;> grind [stdCmp]; done)
  subst hL
  refine loop_z (cx_ok hfs) (zQ) (fun y => stOf Tryz.f66.ntmps [(3, .ptr 1 0), (4, .ptr 2 0), (5, .ptr 3 0), (6, .ptr 4 0), (7, .ptr 5 0), (8, .sl none (.ints .i64 [])), (9, .val (.int .i64 y.i))] [(1, .cells 69 [.val (.int .i64 s_i), .val (.int .i64 s_ee), .val (.int .i64 s_er), .val (.int .i64 s_t), .val (.int .i64 s_p), .sl none (.recs (.int .i64 (.int .i64 (.int .i64 (.int .i64 (.bool (.bool (.int .i64 .nil))))))) []), .sl none (.ints .i64 s_w), .sl none (.ints .i64 s_gn), .sl none (.recs (.int .i64 (.int .i64 (.int .i64 (.int .i64 (.bool .nil))))) s_gl), .val (.int .i64 s_ph), .sl none (.ints .i64 s_tn), .sl none (.recs (.int .i64 (.int .i64 (.int .i64 (.int .i64 (.bool .nil))))) s_tl), .val (.int .i64 s_l), .val (.bool s_o), .sl none (.recs (.int .i64 (.int .i64 (.int .i64 (.int .i64 (.ints .i64 (.recs (.int .i64 (.int .i64 (.int .i64 (.int .i64 (.bool .nil))))) (.int .i64 (.int .i64 (.int .i64 (.int .i64 .nil)))))))))) s_out)]), (2, .cells 44 [.val (.int .i64 1), .val (.int .i64 c_a), .val (.int .i64 c_b), .val (.int .i64 c_s)]), (3, .cells 28 [.sl none (.ints .i64 v_n), .sl none (.recs (.int .i64 (.int .i64 (.int .i64 (.int .i64 (.bool .nil))))) v_l)]), (4, .cells 69 [.num .i64 0, .num .i64 0, .num .i64 0, .num .i64 0, .num .i64 0, .val (.slice none 0 0), .val (.slice none 0 0), .val (.slice none 0 0), .val (.slice none 0 0), .num .i64 0, .val (.slice none 0 0), .val (.slice none 0 0), .num .i64 0, .tf false, .val (.slice none 0 0)]), (5, .cells 46 [.num .i64 3, .val (.int .i64 s_ee), .val (.int .i64 s_er), .sl none (.ints .i64 v_n), .sl none (.recs (.int .i64 (.int .i64 (.int .i64 (.int .i64 (.bool .nil))))) v_l), .val (.int .i64 1), .val (.int .i64 c_a), .val (.int .i64 c_b), .val (.int .i64 c_s)])] [Any, Any, Any]) (zM) (zR 9) ⟨0⟩ ?_ ?_ ?_
  · exact rfl
  · cbv
    repeat' (first | exact trivial | exact rfl | refine And.intro ?_ ?_)
  rintro ⟨i⟩ hq O hO
  have hi0 : i = 0 := hq
  subst hA
  generalize hA : Ar.std = A
  generalize hL : Lp _ _ _ = L
  refine cd_close zq ?_
  repeat' (first
    | (refine z_open zq ?_; try dsimp only)
    | refine cd_seq zq ?_ (lp_mono hL)
    | refine cd_blk zq ?_
    | refine cd_ret ?_
    | refine cd_skip ?_
    | refine cd_exit ?_
    | refine cd_loop ?_
    | refine cd_cond rfl ?_
    | refine cd_condT rfl ?_
    | refine cd_condF rfl ?_
    | (refine Cd.mk ?_; cbv)
    | (refine Ends1.mk ?_; cbv)
    | (refine Fin1.mk ?_; cbv)
    | exact trivial
    | refine And.intro ?_ ?_
    | refine orf fun _ => ?_
    | refine ort fun _ => ?_)
  all_goals first | (show L _ _ _; skip) | (exfalso; clear hL hfs zq Z hq; subst hA hF hG0 hG1 hG2 hG3 hG4 hG5 hG6 hO; simp only [Co.std, Ar.std] at * <;> grind [stdCmp]; done) | (clear hL hfs zq Z hq; subst hA hF hG0 hG1 hG2 hG3 hG4 hG5 hG6 hO; simp only [Co.std, ViR.Vs.std, ViC.Vc.std, ViQ.Vm.std, SpQ.Sq.std, ViM.Vg.std, ViS.Vq.std, CoN.Cn.std, Ar.std, List.nil_append] at * <;> grind [stdCmp]; done)
theorem ok_cho : ConOk Tryz.prog 66 (c_cho Co.std) := by
  refine con_of (FsOk.cons ok_bd FsOk.nil rfl) Tryz.func66 rfl rfl fun xs h p hp => ?_
  unfold c_cho at hp
  split at hp
  · cases hp
    exact ⟨lee_le rfl, fun hC _ => @x_cho _ _ _ _ _ _ _ _ _ _ _ _ _ _ _ _ _ _ _ _ _ hC⟩
  · cases hp

def c_sett (F : Co) : Con := fun xs h => match xs, h with
  | [.agg [.val (.int .i64 s_i), .val (.int .i64 s_ee), .val (.int .i64 s_er), .val (.int .i64 s_t), .val (.int .i64 s_p), .sl none (.recs (.int .i64 (.int .i64 (.int .i64 (.int .i64 (.bool (.bool (.int .i64 .nil))))))) s_ties), .sl none (.ints .i64 s_w), .sl none (.ints .i64 s_gn), .sl none (.recs (.int .i64 (.int .i64 (.int .i64 (.int .i64 (.bool .nil))))) s_gl), .val (.int .i64 s_ph), .sl none (.ints .i64 _), .sl none (.recs (.int .i64 (.int .i64 (.int .i64 (.int .i64 (.bool .nil))))) _), .val (.int .i64 s_l), .val (.bool s_o), .sl none (.recs (.int .i64 (.int .i64 (.int .i64 (.int .i64 (.ints .i64 (.recs (.int .i64 (.int .i64 (.int .i64 (.int .i64 (.bool .nil))))) (.int .i64 (.int .i64 (.int .i64 (.int .i64 .nil)))))))))) s_out)]], [] => some ⟨F.a_em s_ties = true ∧ s_w = [] ∧ s_ph = 1 ∧ s_p = 0 ∧ s_gn = [] ∧ s_gl = [] ∧ F.a_nd s_i = true, .sa (.agg [.val (.int .i64 s_i), .val (.int .i64 s_ee), .val (.int .i64 s_er), .val (.int .i64 s_t), .val (.int .i64 0), .sl none (.recs (.int .i64 (.int .i64 (.int .i64 (.int .i64 (.bool (.bool (.int .i64 .nil))))))) []), .sl none (.ints .i64 []), .sl none (.ints .i64 []), .sl none (.recs (.int .i64 (.int .i64 (.int .i64 (.int .i64 (.bool .nil))))) []), .val (.int .i64 4), .sl none (.ints .i64 [s_i]), .sl none (.recs (.int .i64 (.int .i64 (.int .i64 (.int .i64 (.bool .nil))))) []), .val (.int .i64 s_l), .val (.bool s_o), .sl none (.recs (.int .i64 (.int .i64 (.int .i64 (.int .i64 (.ints .i64 (.recs (.int .i64 (.int .i64 (.int .i64 (.int .i64 (.bool .nil))))) (.int .i64 (.int .i64 (.int .i64 (.int .i64 .nil)))))))))) s_out)]), [], [Any]⟩
  | _, _ => none
set_option cbv.maxSteps 4000000 in
set_option maxHeartbeats 4000000 in
set_option maxRecDepth 100000 in
theorem x_sett (s_i : Int) (s_ee : Int) (s_er : Int) (s_t : Int) (s_p : Int) (s_ties : List E) (s_w : List Int) (s_gn : List Int) (s_gl : List E) (s_ph : Int) (s_tn : List Int) (s_tl : List E) (s_l : Int) (s_o : Bool) (s_out : List E) (hC : Co.std.a_em s_ties = true ∧ s_w = [] ∧ s_ph = 1 ∧ s_p = 0 ∧ s_gn = [] ∧ s_gl = [] ∧ Co.std.a_nd s_i = true) : Does [(14, c_ow Co.std), (64, c_rmerge ViM.Vg.std), (62, c_vmay ViC.Vc.std), (99, c_rbound ViQ.Vm.std), (98, c_rforest SpQ.Sq.std), (100, c_ch10 Co.std), (66, c_cho Co.std)] Tryz.f65 [.agg [.val (.int .i64 s_i), .val (.int .i64 s_ee), .val (.int .i64 s_er), .val (.int .i64 s_t), .val (.int .i64 s_p), .sl none (.recs (.int .i64 (.int .i64 (.int .i64 (.int .i64 (.bool (.bool (.int .i64 .nil))))))) s_ties), .sl none (.ints .i64 s_w), .sl none (.ints .i64 s_gn), .sl none (.recs (.int .i64 (.int .i64 (.int .i64 (.int .i64 (.bool .nil))))) s_gl), .val (.int .i64 s_ph), .sl none (.ints .i64 s_tn), .sl none (.recs (.int .i64 (.int .i64 (.int .i64 (.int .i64 (.bool .nil))))) s_tl), .val (.int .i64 s_l), .val (.bool s_o), .sl none (.recs (.int .i64 (.int .i64 (.int .i64 (.int .i64 (.ints .i64 (.recs (.int .i64 (.int .i64 (.int .i64 (.int .i64 (.bool .nil))))) (.int .i64 (.int .i64 (.int .i64 (.int .i64 .nil)))))))))) s_out)]] [] ⟨Co.std.a_em s_ties = true ∧ s_w = [] ∧ s_ph = 1 ∧ s_p = 0 ∧ s_gn = [] ∧ s_gl = [] ∧ Co.std.a_nd s_i = true, .sa (.agg [.val (.int .i64 s_i), .val (.int .i64 s_ee), .val (.int .i64 s_er), .val (.int .i64 s_t), .val (.int .i64 0), .sl none (.recs (.int .i64 (.int .i64 (.int .i64 (.int .i64 (.bool (.bool (.int .i64 .nil))))))) []), .sl none (.ints .i64 []), .sl none (.ints .i64 []), .sl none (.recs (.int .i64 (.int .i64 (.int .i64 (.int .i64 (.bool .nil))))) []), .val (.int .i64 4), .sl none (.ints .i64 [s_i]), .sl none (.recs (.int .i64 (.int .i64 (.int .i64 (.int .i64 (.bool .nil))))) []), .val (.int .i64 s_l), .val (.bool s_o), .sl none (.recs (.int .i64 (.int .i64 (.int .i64 (.int .i64 (.ints .i64 (.recs (.int .i64 (.int .i64 (.int .i64 (.int .i64 (.bool .nil))))) (.int .i64 (.int .i64 (.int .i64 (.int .i64 .nil)))))))))) s_out)]), [], [Any]⟩ := by
  intro b gv
  have hz_s_ties : s_ties = [] := List.isEmpty_iff.1 (show s_ties.isEmpty = true from by first | exact hC | exact hC.1)
  subst hz_s_ties
  obtain ⟨_, h2, h3, h4, h5, h6, hnd⟩ := hC
  subst h2 h3 h4 h5 h6
  have hnd : nodB s_i = true := hnd
  have hC : True := trivial
  have z1 := y_in
  have z2 := y_bo
  have z4 : emp [] = true := rfl
  have z5 := y_mn hnd
  have z6 := y_ml hnd
  have z7 := y_cm hnd
  have z8 := y_fo
  have z9 := y_ir
  have z10 : (([] : List E).isEmpty && decide (([s_i] : List Int).length ≤ 70)) = true := rfl
  have hfs := (FsOk.cons ok_ow (FsOk.cons ok_rmerge (FsOk.cons ok_vmay (FsOk.cons ok_rbound (FsOk.cons ok_rforest (FsOk.cons ok_ch10 (FsOk.cons ok_cho FsOk.nil rfl) rfl) rfl) rfl) rfl) rfl) rfl)
  generalize hF : Co.std = F at hC hfs ⊢
  generalize hG0 : ViR.Vs.std = G0 at hC hfs ⊢
  generalize hG1 : ViC.Vc.std = G1 at hC hfs ⊢
  generalize hG2 : ViQ.Vm.std = G2 at hC hfs ⊢
  generalize hG3 : SpQ.Sq.std = G3 at hC hfs ⊢
  generalize hG4 : ViM.Vg.std = G4 at hC hfs ⊢
  generalize hG5 : ViS.Vq.std = G5 at hC hfs ⊢
  generalize hG6 : CoN.Cn.std = G6 at hC hfs ⊢
  generalize hA : Ar.std = A
  generalize hL : Lp _ _ _ = L
  obtain ⟨Z, zq⟩ := z_all
  refine @cd_open _ _ _ _ _ _ _ (lp_mono hL) _ _ zq rfl ?_
  repeat' (first
    | (refine z_open zq ?_; try dsimp only)
    | refine cd_seq zq ?_ (lp_mono hL)
    | refine cd_blk zq ?_
    | refine cd_ret ?_
    | refine cd_skip ?_
    | refine cd_exit ?_
    | refine cd_loop ?_
    | refine cd_cond rfl ?_
    | refine cd_condT rfl ?_
    | refine cd_condF rfl ?_
    | (refine Cd.mk ?_; cbv)
    | (refine Ends1.mk ?_; cbv)
    | (refine Fin1.mk ?_; cbv)
    | exact trivial
    | refine And.intro ?_ ?_
    | refine orf fun _ => ?_
    | refine ort fun _ => ?_)
  all_goals first | (show L _ _ _; skip) | (exfalso; clear hL hfs zq Z; subst hA hF hG0 hG1 hG2 hG3 hG4 hG5 hG6; simp only [Co.std, Ar.std] at * <;> grind [stdCmp]; done) | (clear hL hfs zq Z; subst hA hF hG0 hG1 hG2 hG3 hG4 hG5 hG6; simp only [Co.std, Ar.std] at * <;> grind [stdCmp]; done)
  subst hL
  refine loop_z (cx_ok hfs) (zQ) (fun y => stOf Tryz.f65.ntmps [(1, .ptr 1 0), (2, .ptr 2 0), (3, .val (.int .i64 y.i))] [(1, .cells 69 [.val (.int .i64 s_i), .val (.int .i64 s_ee), .val (.int .i64 s_er), .val (.int .i64 s_t), .val (.int .i64 0), .sl none (.recs (.int .i64 (.int .i64 (.int .i64 (.int .i64 (.bool (.bool (.int .i64 .nil))))))) []), .sl none (.ints .i64 []), .sl none (.ints .i64 []), .sl none (.recs (.int .i64 (.int .i64 (.int .i64 (.int .i64 (.bool .nil))))) []), .val (.int .i64 1), .sl none (.ints .i64 s_tn), .sl none (.recs (.int .i64 (.int .i64 (.int .i64 (.int .i64 (.bool .nil))))) s_tl), .val (.int .i64 s_l), .val (.bool s_o), .sl none (.recs (.int .i64 (.int .i64 (.int .i64 (.int .i64 (.ints .i64 (.recs (.int .i64 (.int .i64 (.int .i64 (.int .i64 (.bool .nil))))) (.int .i64 (.int .i64 (.int .i64 (.int .i64 .nil)))))))))) s_out)]), (2, .cells 69 [.num .i64 0, .num .i64 0, .num .i64 0, .num .i64 0, .num .i64 0, .val (.slice none 0 0), .val (.slice none 0 0), .val (.slice none 0 0), .val (.slice none 0 0), .num .i64 0, .val (.slice none 0 0), .val (.slice none 0 0), .num .i64 0, .tf false, .val (.slice none 0 0)])] [Any]) (zM) (zR 3) ⟨0⟩ ?_ ?_ ?_
  · exact rfl
  · cbv
    repeat' (first | exact trivial | exact rfl | refine And.intro ?_ ?_)
  rintro ⟨i⟩ hq O hO
  have hi0 : i = 0 := hq
  subst hA
  generalize hA : Ar.std = A
  generalize hL : Lp _ _ _ = L
  refine cd_close zq ?_
  repeat' (first
    | (refine z_open zq ?_; try dsimp only)
    | refine cd_seq zq ?_ (lp_mono hL)
    | refine cd_blk zq ?_
    | refine cd_ret ?_
    | refine cd_skip ?_
    | refine cd_exit ?_
    | refine cd_loop ?_
    | refine cd_cond rfl ?_
    | refine cd_condT rfl ?_
    | refine cd_condF rfl ?_
    | (refine Cd.mk ?_; cbv)
    | (refine Ends1.mk ?_; cbv)
    | (refine Fin1.mk ?_; cbv)
    | exact trivial
    | refine And.intro ?_ ?_
    | refine orf fun _ => ?_
    | refine ort fun _ => ?_)
  all_goals first | (show L _ _ _; skip) | (exfalso; clear hL hfs zq Z hq; subst hA hF hG0 hG1 hG2 hG3 hG4 hG5 hG6 hO; simp only [Co.std, ViC.Vc.std, ViQ.Vm.std, SpQ.Sq.std, ViM.Vg.std, Ar.std] at * <;> grind [stdCmp]; done) | (clear hL hfs zq Z hq; subst hA hF hG0 hG1 hG2 hG3 hG4 hG5 hG6 hO; simp only [Co.std, ViC.Vc.std, ViQ.Vm.std, SpQ.Sq.std, ViM.Vg.std, Ar.std] at * <;> grind [stdCmp]; done)
theorem ok_sett : ConOk Tryz.prog 65 (c_sett Co.std) := by
  refine con_of (FsOk.cons ok_ow (FsOk.cons ok_rmerge (FsOk.cons ok_vmay (FsOk.cons ok_rbound (FsOk.cons ok_rforest (FsOk.cons ok_ch10 (FsOk.cons ok_cho FsOk.nil rfl) rfl) rfl) rfl) rfl) rfl) rfl) Tryz.func65 rfl rfl fun xs h p hp => ?_
  unfold c_sett at hp
  split at hp
  · cases hp
    exact ⟨lee_le rfl, fun hC _ => @x_sett _ _ _ _ _ _ _ _ _ _ _ _ _ _ _ hC⟩
  · cases hp

def c_adp (F : Co) : Con := fun xs h => match xs, h with
  | [.agg [.val (.int .i64 s_i), .val (.int .i64 _), .val (.int .i64 _), .val (.int .i64 s_t), .val (.int .i64 _), .sl none (.recs (.int .i64 (.int .i64 (.int .i64 (.int .i64 (.bool (.bool (.int .i64 .nil))))))) s_ties), .sl none (.ints .i64 _), .sl none (.ints .i64 _), .sl none (.recs (.int .i64 (.int .i64 (.int .i64 (.int .i64 (.bool .nil))))) _), .val (.int .i64 _), .sl none (.ints .i64 _), .sl none (.recs (.int .i64 (.int .i64 (.int .i64 (.int .i64 (.bool .nil))))) _), .val (.int .i64 s_l), .val (.bool s_o), .sl none (.recs (.int .i64 (.int .i64 (.int .i64 (.int .i64 (.ints .i64 (.recs (.int .i64 (.int .i64 (.int .i64 (.int .i64 (.bool .nil))))) (.int .i64 (.int .i64 (.int .i64 (.int .i64 .nil)))))))))) s_out)], .agg [.val (.int .i64 e_e), .val (.int .i64 e_r)], .one (.val (.int .i64 q))], [] => some ⟨F.a_em s_ties = true ∧ q = 0 ∧ F.a_lt s_t e_e = true ∧ F.a_nd s_i = true, .sa (.agg [.val (.int .i64 s_i), .val (.int .i64 e_e), .val (.int .i64 e_r), .val (.int .i64 e_e), .val (.int .i64 0), .sl none (.recs (.int .i64 (.int .i64 (.int .i64 (.int .i64 (.bool (.bool (.int .i64 .nil))))))) []), .sl none (.ints .i64 []), .sl none (.ints .i64 []), .sl none (.recs (.int .i64 (.int .i64 (.int .i64 (.int .i64 (.bool .nil))))) []), .val (.int .i64 4), .sl none (.ints .i64 [s_i]), .sl none (.recs (.int .i64 (.int .i64 (.int .i64 (.int .i64 (.bool .nil))))) []), .val (.int .i64 s_l), .val (.bool s_o), .sl none (.recs (.int .i64 (.int .i64 (.int .i64 (.int .i64 (.ints .i64 (.recs (.int .i64 (.int .i64 (.int .i64 (.int .i64 (.bool .nil))))) (.int .i64 (.int .i64 (.int .i64 (.int .i64 .nil)))))))))) s_out)]), [], [Any, Any, Any]⟩
  | _, _ => none
set_option cbv.maxSteps 4000000 in
set_option maxHeartbeats 4000000 in
set_option maxRecDepth 100000 in
theorem x_adp (s_i : Int) (s_ee : Int) (s_er : Int) (s_t : Int) (s_p : Int) (s_ties : List E) (s_w : List Int) (s_gn : List Int) (s_gl : List E) (s_ph : Int) (s_tn : List Int) (s_tl : List E) (s_l : Int) (s_o : Bool) (s_out : List E) (e_e : Int) (e_r : Int) (q : Int) (hC : Co.std.a_em s_ties = true ∧ q = 0 ∧ Co.std.a_lt s_t e_e = true ∧ Co.std.a_nd s_i = true) : Does [(77, dnil [[none, none, none, none, none, some (.recs (.int .i64 (.int .i64 (.int .i64 (.int .i64 (.bool (.bool (.int .i64 .nil))))))) []), some (.ints .i64 []), some (.ints .i64 []), some (.recs (.int .i64 (.int .i64 (.int .i64 (.int .i64 (.bool .nil))))) []), none, some (.ints .i64 []), some (.recs (.int .i64 (.int .i64 (.int .i64 (.int .i64 (.bool .nil))))) []), none, none], [none]] (c_bd Co.std)), (65, dnil [[none, none, none, none, none, some (.recs (.int .i64 (.int .i64 (.int .i64 (.int .i64 (.bool (.bool (.int .i64 .nil))))))) []), some (.ints .i64 []), some (.ints .i64 []), some (.recs (.int .i64 (.int .i64 (.int .i64 (.int .i64 (.bool .nil))))) []), none, some (.ints .i64 []), some (.recs (.int .i64 (.int .i64 (.int .i64 (.int .i64 (.bool .nil))))) []), none, none, some (.recs (.int .i64 (.int .i64 (.int .i64 (.int .i64 (.ints .i64 (.recs (.int .i64 (.int .i64 (.int .i64 (.int .i64 (.bool .nil))))) (.int .i64 (.int .i64 (.int .i64 (.int .i64 .nil)))))))))) [])]] (c_sett Co.std))] Tryz.f44 [.agg [.val (.int .i64 s_i), .val (.int .i64 s_ee), .val (.int .i64 s_er), .val (.int .i64 s_t), .val (.int .i64 s_p), .sl none (.recs (.int .i64 (.int .i64 (.int .i64 (.int .i64 (.bool (.bool (.int .i64 .nil))))))) s_ties), .sl none (.ints .i64 s_w), .sl none (.ints .i64 s_gn), .sl none (.recs (.int .i64 (.int .i64 (.int .i64 (.int .i64 (.bool .nil))))) s_gl), .val (.int .i64 s_ph), .sl none (.ints .i64 s_tn), .sl none (.recs (.int .i64 (.int .i64 (.int .i64 (.int .i64 (.bool .nil))))) s_tl), .val (.int .i64 s_l), .val (.bool s_o), .sl none (.recs (.int .i64 (.int .i64 (.int .i64 (.int .i64 (.ints .i64 (.recs (.int .i64 (.int .i64 (.int .i64 (.int .i64 (.bool .nil))))) (.int .i64 (.int .i64 (.int .i64 (.int .i64 .nil)))))))))) s_out)], .agg [.val (.int .i64 e_e), .val (.int .i64 e_r)], .one (.val (.int .i64 q))] [] ⟨Co.std.a_em s_ties = true ∧ q = 0 ∧ Co.std.a_lt s_t e_e = true ∧ Co.std.a_nd s_i = true, .sa (.agg [.val (.int .i64 s_i), .val (.int .i64 e_e), .val (.int .i64 e_r), .val (.int .i64 e_e), .val (.int .i64 0), .sl none (.recs (.int .i64 (.int .i64 (.int .i64 (.int .i64 (.bool (.bool (.int .i64 .nil))))))) []), .sl none (.ints .i64 []), .sl none (.ints .i64 []), .sl none (.recs (.int .i64 (.int .i64 (.int .i64 (.int .i64 (.bool .nil))))) []), .val (.int .i64 4), .sl none (.ints .i64 [s_i]), .sl none (.recs (.int .i64 (.int .i64 (.int .i64 (.int .i64 (.bool .nil))))) []), .val (.int .i64 s_l), .val (.bool s_o), .sl none (.recs (.int .i64 (.int .i64 (.int .i64 (.int .i64 (.ints .i64 (.recs (.int .i64 (.int .i64 (.int .i64 (.int .i64 (.bool .nil))))) (.int .i64 (.int .i64 (.int .i64 (.int .i64 .nil)))))))))) s_out)]), [], [Any, Any, Any]⟩ := by
  intro b gv
  have hz_s_ties : s_ties = [] := List.isEmpty_iff.1 (show s_ties.isEmpty = true from by first | exact hC | exact hC.1)
  subst hz_s_ties
  obtain ⟨_, h2, h3, hnd⟩ := hC
  subst h2
  have h3 : s_t < e_e := of_decide_eq_true h3
  have hnd : nodB s_i = true := hnd
  have hC : True := trivial
  have z4 : emp [] = true := rfl
  have hfs := (FsOk.cons (dnil_ok [[none, none, none, none, none, some (.recs (.int .i64 (.int .i64 (.int .i64 (.int .i64 (.bool (.bool (.int .i64 .nil))))))) []), some (.ints .i64 []), some (.ints .i64 []), some (.recs (.int .i64 (.int .i64 (.int .i64 (.int .i64 (.bool .nil))))) []), none, some (.ints .i64 []), some (.recs (.int .i64 (.int .i64 (.int .i64 (.int .i64 (.bool .nil))))) []), none, none], [none]] ok_bd) (FsOk.cons (dnil_ok [[none, none, none, none, none, some (.recs (.int .i64 (.int .i64 (.int .i64 (.int .i64 (.bool (.bool (.int .i64 .nil))))))) []), some (.ints .i64 []), some (.ints .i64 []), some (.recs (.int .i64 (.int .i64 (.int .i64 (.int .i64 (.bool .nil))))) []), none, some (.ints .i64 []), some (.recs (.int .i64 (.int .i64 (.int .i64 (.int .i64 (.bool .nil))))) []), none, none, some (.recs (.int .i64 (.int .i64 (.int .i64 (.int .i64 (.ints .i64 (.recs (.int .i64 (.int .i64 (.int .i64 (.int .i64 (.bool .nil))))) (.int .i64 (.int .i64 (.int .i64 (.int .i64 .nil)))))))))) [])]] ok_sett) FsOk.nil rfl) rfl)
  generalize hF : Co.std = F at hC hfs ⊢
  generalize hG0 : ViR.Vs.std = G0 at hC hfs ⊢
  generalize hG1 : ViC.Vc.std = G1 at hC hfs ⊢
  generalize hG2 : ViQ.Vm.std = G2 at hC hfs ⊢
  generalize hG3 : SpQ.Sq.std = G3 at hC hfs ⊢
  generalize hG4 : ViM.Vg.std = G4 at hC hfs ⊢
  generalize hG5 : ViS.Vq.std = G5 at hC hfs ⊢
  generalize hG6 : CoN.Cn.std = G6 at hC hfs ⊢
  generalize hA : Ar.std = A
  generalize hL : Lp _ _ _ = L
  obtain ⟨Z, zq⟩ := z_all
  refine @cd_open _ _ _ _ _ _ _ (lp_mono hL) _ _ zq rfl ?_
  repeat' (first
    | (refine z_open zq ?_; try dsimp only)
    | refine cd_seq zq ?_ (lp_mono hL)
    | refine cd_blk zq ?_
    | refine cd_ret ?_
    | refine cd_skip ?_
    | refine cd_exit ?_
    | refine cd_loop ?_
    | refine cd_cond rfl ?_
    | refine cd_condT rfl ?_
    | refine cd_condF rfl ?_
    | (refine Cd.mk ?_; cbv)
    | (refine Ends1.mk ?_; cbv)
    | (refine Fin1.mk ?_; cbv)
    | exact trivial
    | refine And.intro ?_ ?_
    | refine orf fun _ => ?_
    | refine ort fun _ => ?_)
  all_goals first | (exfalso; clear hL hfs zq Z; subst hA hF hG0 hG1 hG2 hG3 hG4 hG5 hG6; simp only [Co.std, Ar.std] at * <;> grind [stdCmp]; done) | (show L _ _ _; skip) | (clear hL hfs zq Z; subst hA hF hG0 hG1 hG2 hG3 hG4 hG5 hG6; simp only [Co.std, Ar.std] at * <;> grind [stdCmp]; done)
  subst hL
  refine loop_z (cx_ok hfs) (zQ) (fun y => stOf Tryz.f44.ntmps [(3, .ptr 1 0), (4, .ptr 2 0), (6, .ptr 3 0), (7, .val (.int .i64 y.i))] [(1, .cells 69 [.val (.int .i64 s_i), .val (.int .i64 e_e), .val (.int .i64 e_r), .val (.int .i64 e_e), .val (.int .i64 0), .sl none (.recs (.int .i64 (.int .i64 (.int .i64 (.int .i64 (.bool (.bool (.int .i64 .nil))))))) []), .sl none (.ints .i64 []), .val (.slice none 0 0), .val (.slice none 0 0), .num .i64 1, .val (.slice none 0 0), .val (.slice none 0 0), .val (.int .i64 s_l), .val (.bool s_o), .sl none (.recs (.int .i64 (.int .i64 (.int .i64 (.int .i64 (.ints .i64 (.recs (.int .i64 (.int .i64 (.int .i64 (.int .i64 (.bool .nil))))) (.int .i64 (.int .i64 (.int .i64 (.int .i64 .nil)))))))))) s_out)]), (2, .cells 23 [.val (.int .i64 e_e), .val (.int .i64 e_r)]), (3, .cells 69 [.num .i64 0, .num .i64 0, .num .i64 0, .num .i64 0, .num .i64 0, .val (.slice none 0 0), .val (.slice none 0 0), .val (.slice none 0 0), .val (.slice none 0 0), .num .i64 0, .val (.slice none 0 0), .val (.slice none 0 0), .num .i64 0, .tf false, .val (.slice none 0 0)])] [Any, Any, Any]) (zM) (zR 7) ⟨0⟩ ?_ ?_ ?_
  · exact rfl
  · cbv
    repeat' (first | exact trivial | exact rfl | refine And.intro ?_ ?_)
  rintro ⟨i⟩ hq O hO
  have hi0 : i = 0 := hq
  subst hA
  generalize hA : Ar.std = A
  generalize hL : Lp _ _ _ = L
  refine cd_close zq ?_
  repeat' (first
    | (refine z_open zq ?_; try dsimp only)
    | refine cd_seq zq ?_ (lp_mono hL)
    | refine cd_blk zq ?_
    | refine cd_ret ?_
    | refine cd_skip ?_
    | refine cd_exit ?_
    | refine cd_loop ?_
    | refine cd_cond rfl ?_
    | refine cd_condT rfl ?_
    | refine cd_condF rfl ?_
    | (refine Cd.mk ?_; cbv)
    | (refine Ends1.mk ?_; cbv)
    | (refine Fin1.mk ?_; cbv)
    | exact trivial
    | refine And.intro ?_ ?_
    | refine orf fun _ => ?_
    | refine ort fun _ => ?_)
  all_goals first | (show L _ _ _; skip) | (exfalso; clear hL hfs zq Z hq; subst hA hF hG0 hG1 hG2 hG3 hG4 hG5 hG6 hO; simp only [Co.std, Ar.std] at * <;> grind [stdCmp]; done) | (clear hL hfs zq Z hq; subst hA hF hG0 hG1 hG2 hG3 hG4 hG5 hG6 hO; simp only [Co.std, ViR.Vs.std, ViC.Vc.std, ViQ.Vm.std, SpQ.Sq.std, ViM.Vg.std, ViS.Vq.std, CoN.Cn.std, Ar.std, List.nil_append] at * <;> grind [stdCmp]; done)
  clear hO
  subst hL
  refine loop_z (cx_ok hfs) (zQ) (fun y => stOf Tryz.f44.ntmps [(3, .ptr 1 0), (4, .ptr 2 0), (6, .ptr 3 0), (8, .val (.int .i64 y.i))] [(1, .cells 69 [.val (.int .i64 s_i), .val (.int .i64 e_e), .val (.int .i64 e_r), .val (.int .i64 e_e), .val (.int .i64 0), .sl none (.recs (.int .i64 (.int .i64 (.int .i64 (.int .i64 (.bool (.bool (.int .i64 .nil))))))) []), .sl none (.ints .i64 []), .val (.slice none 0 0), .val (.slice none 0 0), .num .i64 1, .val (.slice none 0 0), .val (.slice none 0 0), .val (.int .i64 s_l), .val (.bool s_o), .sl none (.recs (.int .i64 (.int .i64 (.int .i64 (.int .i64 (.ints .i64 (.recs (.int .i64 (.int .i64 (.int .i64 (.int .i64 (.bool .nil))))) (.int .i64 (.int .i64 (.int .i64 (.int .i64 .nil)))))))))) s_out)]), (2, .cells 23 [.val (.int .i64 e_e), .val (.int .i64 e_r)]), (3, .cells 69 [.num .i64 0, .num .i64 0, .num .i64 0, .num .i64 0, .num .i64 0, .val (.slice none 0 0), .val (.slice none 0 0), .val (.slice none 0 0), .val (.slice none 0 0), .num .i64 0, .val (.slice none 0 0), .val (.slice none 0 0), .num .i64 0, .tf false, .val (.slice none 0 0)])] [Any, Any, Any]) (zM) (zR 8) ⟨0⟩ ?_ ?_ ?_
  · exact rfl
  · cbv
    repeat' (first | exact trivial | exact rfl | refine And.intro ?_ ?_)
  rintro ⟨j⟩ hq2 O2 hO2
  have hj0 : j = 0 := hq2
  subst hA
  generalize hA : Ar.std = A
  generalize hL : Lp _ _ _ = L
  refine cd_close zq ?_
  repeat' (first
    | (refine z_open zq ?_; try dsimp only)
    | refine cd_seq zq ?_ (lp_mono hL)
    | refine cd_blk zq ?_
    | refine cd_ret ?_
    | refine cd_skip ?_
    | refine cd_exit ?_
    | refine cd_loop ?_
    | refine cd_cond rfl ?_
    | refine cd_condT rfl ?_
    | refine cd_condF rfl ?_
    | (refine Cd.mk ?_; cbv)
    | (refine Ends1.mk ?_; cbv)
    | (refine Fin1.mk ?_; cbv)
    | exact trivial
    | refine And.intro ?_ ?_
    | refine orf fun _ => ?_
    | refine ort fun _ => ?_)
  all_goals first | (show L _ _ _; skip) | (exfalso; clear hL hfs zq Z hq hq2; subst hA hF hG0 hG1 hG2 hG3 hG4 hG5 hG6 hO2; simp only [Co.std, Ar.std] at * <;> grind [stdCmp]; done) | (clear hL hfs zq Z hq hq2; subst hA hF hG0 hG1 hG2 hG3 hG4 hG5 hG6 hO2; simp only [Co.std, Ar.std] at * <;> grind [stdCmp]; done)
theorem ok_adp : ConOk Tryz.prog 44 (c_adp Co.std) := by
  refine con_of (FsOk.cons (dnil_ok [[none, none, none, none, none, some (.recs (.int .i64 (.int .i64 (.int .i64 (.int .i64 (.bool (.bool (.int .i64 .nil))))))) []), some (.ints .i64 []), some (.ints .i64 []), some (.recs (.int .i64 (.int .i64 (.int .i64 (.int .i64 (.bool .nil))))) []), none, some (.ints .i64 []), some (.recs (.int .i64 (.int .i64 (.int .i64 (.int .i64 (.bool .nil))))) []), none, none], [none]] ok_bd) (FsOk.cons (dnil_ok [[none, none, none, none, none, some (.recs (.int .i64 (.int .i64 (.int .i64 (.int .i64 (.bool (.bool (.int .i64 .nil))))))) []), some (.ints .i64 []), some (.ints .i64 []), some (.recs (.int .i64 (.int .i64 (.int .i64 (.int .i64 (.bool .nil))))) []), none, some (.ints .i64 []), some (.recs (.int .i64 (.int .i64 (.int .i64 (.int .i64 (.bool .nil))))) []), none, none, some (.recs (.int .i64 (.int .i64 (.int .i64 (.int .i64 (.ints .i64 (.recs (.int .i64 (.int .i64 (.int .i64 (.int .i64 (.bool .nil))))) (.int .i64 (.int .i64 (.int .i64 (.int .i64 .nil)))))))))) [])]] ok_sett) FsOk.nil rfl) rfl) Tryz.func44 rfl rfl fun xs h p hp => ?_
  unfold c_adp at hp
  split at hp
  · cases hp
    exact ⟨lee_le rfl, fun hC _ => @x_adp _ _ _ _ _ _ _ _ _ _ _ _ _ _ _ _ _ _ hC⟩
  · cases hp

def c_beg (F : Co) : Con := fun xs h => match xs, h with
  | [.agg [.val (.int .i64 s_i), .val (.int .i64 s_ee), .val (.int .i64 _), .val (.int .i64 s_t), .val (.int .i64 _), .sl none (.recs (.int .i64 (.int .i64 (.int .i64 (.int .i64 (.bool (.bool (.int .i64 .nil))))))) s_ties), .sl none (.ints .i64 _), .sl none (.ints .i64 _), .sl none (.recs (.int .i64 (.int .i64 (.int .i64 (.int .i64 (.bool .nil))))) _), .val (.int .i64 _), .sl none (.ints .i64 _), .sl none (.recs (.int .i64 (.int .i64 (.int .i64 (.int .i64 (.bool .nil))))) _), .val (.int .i64 s_l), .val (.bool s_o), .sl none (.recs (.int .i64 (.int .i64 (.int .i64 (.int .i64 (.ints .i64 (.recs (.int .i64 (.int .i64 (.int .i64 (.int .i64 (.bool .nil))))) (.int .i64 (.int .i64 (.int .i64 (.int .i64 .nil)))))))))) s_out)]], [] => some ⟨F.a_em s_ties = true ∧ s_ee = 0 ∧ s_t = 0 ∧ s_o = false ∧ F.a_nw s_i s_l = true, .sa (.agg [.val (.int .i64 s_i), .val (.int .i64 1), .val (.int .i64 s_i), .val (.int .i64 1), .val (.int .i64 0), .sl none (.recs (.int .i64 (.int .i64 (.int .i64 (.int .i64 (.bool (.bool (.int .i64 .nil))))))) []), .sl none (.ints .i64 []), .sl none (.ints .i64 []), .sl none (.recs (.int .i64 (.int .i64 (.int .i64 (.int .i64 (.bool .nil))))) []), .val (.int .i64 4), .sl none (.ints .i64 [s_i]), .sl none (.recs (.int .i64 (.int .i64 (.int .i64 (.int .i64 (.bool .nil))))) []), .val (.int .i64 s_l), .val (.bool s_o), .sl none (.recs (.int .i64 (.int .i64 (.int .i64 (.int .i64 (.ints .i64 (.recs (.int .i64 (.int .i64 (.int .i64 (.int .i64 (.bool .nil))))) (.int .i64 (.int .i64 (.int .i64 (.int .i64 .nil)))))))))) s_out)]), [], [Any]⟩
  | _, _ => none
set_option cbv.maxSteps 4000000 in
set_option maxHeartbeats 4000000 in
set_option maxRecDepth 100000 in
theorem x_beg (s_i : Int) (s_ee : Int) (s_er : Int) (s_t : Int) (s_p : Int) (s_ties : List E) (s_w : List Int) (s_gn : List Int) (s_gl : List E) (s_ph : Int) (s_tn : List Int) (s_tl : List E) (s_l : Int) (s_o : Bool) (s_out : List E) (hC : Co.std.a_em s_ties = true ∧ s_ee = 0 ∧ s_t = 0 ∧ s_o = false ∧ Co.std.a_nw s_i s_l = true) : Does [(43, c_rafter Co.std), (44, c_adp Co.std)] Tryz.f25 [.agg [.val (.int .i64 s_i), .val (.int .i64 s_ee), .val (.int .i64 s_er), .val (.int .i64 s_t), .val (.int .i64 s_p), .sl none (.recs (.int .i64 (.int .i64 (.int .i64 (.int .i64 (.bool (.bool (.int .i64 .nil))))))) s_ties), .sl none (.ints .i64 s_w), .sl none (.ints .i64 s_gn), .sl none (.recs (.int .i64 (.int .i64 (.int .i64 (.int .i64 (.bool .nil))))) s_gl), .val (.int .i64 s_ph), .sl none (.ints .i64 s_tn), .sl none (.recs (.int .i64 (.int .i64 (.int .i64 (.int .i64 (.bool .nil))))) s_tl), .val (.int .i64 s_l), .val (.bool s_o), .sl none (.recs (.int .i64 (.int .i64 (.int .i64 (.int .i64 (.ints .i64 (.recs (.int .i64 (.int .i64 (.int .i64 (.int .i64 (.bool .nil))))) (.int .i64 (.int .i64 (.int .i64 (.int .i64 .nil)))))))))) s_out)]] [] ⟨Co.std.a_em s_ties = true ∧ s_ee = 0 ∧ s_t = 0 ∧ s_o = false ∧ Co.std.a_nw s_i s_l = true, .sa (.agg [.val (.int .i64 s_i), .val (.int .i64 1), .val (.int .i64 s_i), .val (.int .i64 1), .val (.int .i64 0), .sl none (.recs (.int .i64 (.int .i64 (.int .i64 (.int .i64 (.bool (.bool (.int .i64 .nil))))))) []), .sl none (.ints .i64 []), .sl none (.ints .i64 []), .sl none (.recs (.int .i64 (.int .i64 (.int .i64 (.int .i64 (.bool .nil))))) []), .val (.int .i64 4), .sl none (.ints .i64 [s_i]), .sl none (.recs (.int .i64 (.int .i64 (.int .i64 (.int .i64 (.bool .nil))))) []), .val (.int .i64 s_l), .val (.bool s_o), .sl none (.recs (.int .i64 (.int .i64 (.int .i64 (.int .i64 (.ints .i64 (.recs (.int .i64 (.int .i64 (.int .i64 (.int .i64 (.bool .nil))))) (.int .i64 (.int .i64 (.int .i64 (.int .i64 .nil)))))))))) s_out)]), [], [Any]⟩ := by
  intro b gv
  have hz_s_ties : s_ties = [] := List.isEmpty_iff.1 (show s_ties.isEmpty = true from by first | exact hC | exact hC.1)
  subst hz_s_ties
  obtain ⟨_, h2, h3, h5, hnw⟩ := hC
  subst h2 h3 h5
  have hnw : nwB s_i s_l = true := hnw
  have hC : True := trivial
  have z4 : emp [] = true := rfl
  have hn := nw_is hnw
  have hf := nw_af hnw
  have hfs := (FsOk.cons ok_rafter (FsOk.cons ok_adp FsOk.nil rfl) rfl)
  generalize hF : Co.std = F at hC hfs ⊢
  generalize hG0 : ViR.Vs.std = G0 at hC hfs ⊢
  generalize hG1 : ViC.Vc.std = G1 at hC hfs ⊢
  generalize hG2 : ViQ.Vm.std = G2 at hC hfs ⊢
  generalize hG3 : SpQ.Sq.std = G3 at hC hfs ⊢
  generalize hG4 : ViM.Vg.std = G4 at hC hfs ⊢
  generalize hG5 : ViS.Vq.std = G5 at hC hfs ⊢
  generalize hG6 : CoN.Cn.std = G6 at hC hfs ⊢
  generalize hA : Ar.std = A
  generalize hL : Lp _ _ _ = L
  obtain ⟨Z, zq⟩ := z_all
  refine @cd_open _ _ _ _ _ _ _ (lp_mono hL) _ _ zq rfl ?_
  repeat' (first
    | (refine z_open zq ?_; try dsimp only)
    | refine cd_seq zq ?_ (lp_mono hL)
    | refine cd_blk zq ?_
    | refine cd_ret ?_
    | refine cd_skip ?_
    | refine cd_exit ?_
    | refine cd_loop ?_
    | refine cd_cond rfl ?_
    | refine cd_condT rfl ?_
    | refine cd_condF rfl ?_
    | (refine Cd.mk ?_; cbv)
    | (refine Ends1.mk ?_; cbv)
    | (refine Fin1.mk ?_; cbv)
    | exact trivial
    | refine And.intro ?_ ?_
    | refine orf fun _ => ?_
    | refine ort fun _ => ?_)
  all_goals first | (show L _ _ _; skip) | (exfalso; clear hL hfs zq Z; subst hA hF hG0 hG1 hG2 hG3 hG4 hG5 hG6; simp only [Co.std, Ar.std] at * <;> grind [stdCmp]; done) | (clear hL hfs zq Z; subst hA hF hG0 hG1 hG2 hG3 hG4 hG5 hG6; simp only [Co.std, Ar.std] at * <;> grind [stdCmp]; done)
theorem ok_beg : ConOk Tryz.prog 25 (c_beg Co.std) := by
  refine con_of (FsOk.cons ok_rafter (FsOk.cons ok_adp FsOk.nil rfl) rfl) Tryz.func25 rfl rfl fun xs h p hp => ?_
  unfold c_beg at hp
  split at hp
  · cases hp
    exact ⟨lee_le rfl, fun hC _ => @x_beg _ _ _ _ _ _ _ _ _ _ _ _ _ _ _ hC⟩
  · cases hp

def c_new (F : Co) : Con := fun xs h => match xs, h with
  | [.one (.val (.int .i64 i)), .one (.val (.int .i64 l))], [] => some ⟨F.a_nw i l = true, .sa (.agg [.val (.int .i64 i), .val (.int .i64 1), .val (.int .i64 i), .val (.int .i64 1), .val (.int .i64 0), .sl none (.recs (.int .i64 (.int .i64 (.int .i64 (.int .i64 (.bool (.bool (.int .i64 .nil))))))) []), .sl none (.ints .i64 []), .sl none (.ints .i64 []), .sl none (.recs (.int .i64 (.int .i64 (.int .i64 (.int .i64 (.bool .nil))))) []), .val (.int .i64 4), .sl none (.ints .i64 [i]), .sl none (.recs (.int .i64 (.int .i64 (.int .i64 (.int .i64 (.bool .nil))))) []), .val (.int .i64 l), .val (.bool false)]), [], [Any, Any]⟩
  | _, _ => none
set_option cbv.maxSteps 4000000 in
set_option maxHeartbeats 4000000 in
set_option maxRecDepth 100000 in
theorem x_new (i : Int) (l : Int) (hC : Co.std.a_nw i l = true) : Does [(25, dnil [[none, none, none, none, none, some (.recs (.int .i64 (.int .i64 (.int .i64 (.int .i64 (.bool (.bool (.int .i64 .nil))))))) []), some (.ints .i64 []), some (.ints .i64 []), some (.recs (.int .i64 (.int .i64 (.int .i64 (.int .i64 (.bool .nil))))) []), none, some (.ints .i64 []), some (.recs (.int .i64 (.int .i64 (.int .i64 (.int .i64 (.bool .nil))))) []), none, none, some (.recs (.int .i64 (.int .i64 (.int .i64 (.int .i64 (.ints .i64 (.recs (.int .i64 (.int .i64 (.int .i64 (.int .i64 (.bool .nil))))) (.int .i64 (.int .i64 (.int .i64 (.int .i64 .nil)))))))))) [])]] (c_beg Co.std))] Tryz.f11 [.one (.val (.int .i64 i)), .one (.val (.int .i64 l))] [] ⟨Co.std.a_nw i l = true, .sa (.agg [.val (.int .i64 i), .val (.int .i64 1), .val (.int .i64 i), .val (.int .i64 1), .val (.int .i64 0), .sl none (.recs (.int .i64 (.int .i64 (.int .i64 (.int .i64 (.bool (.bool (.int .i64 .nil))))))) []), .sl none (.ints .i64 []), .sl none (.ints .i64 []), .sl none (.recs (.int .i64 (.int .i64 (.int .i64 (.int .i64 (.bool .nil))))) []), .val (.int .i64 4), .sl none (.ints .i64 [i]), .sl none (.recs (.int .i64 (.int .i64 (.int .i64 (.int .i64 (.bool .nil))))) []), .val (.int .i64 l), .val (.bool false)]), [], [Any, Any]⟩ := by
  intro b gv
  have hnw : nwB i l = true := hC
  have z4 : emp [] = true := rfl
  have hfs := (FsOk.cons (dnil_ok [[none, none, none, none, none, some (.recs (.int .i64 (.int .i64 (.int .i64 (.int .i64 (.bool (.bool (.int .i64 .nil))))))) []), some (.ints .i64 []), some (.ints .i64 []), some (.recs (.int .i64 (.int .i64 (.int .i64 (.int .i64 (.bool .nil))))) []), none, some (.ints .i64 []), some (.recs (.int .i64 (.int .i64 (.int .i64 (.int .i64 (.bool .nil))))) []), none, none, some (.recs (.int .i64 (.int .i64 (.int .i64 (.int .i64 (.ints .i64 (.recs (.int .i64 (.int .i64 (.int .i64 (.int .i64 (.bool .nil))))) (.int .i64 (.int .i64 (.int .i64 (.int .i64 .nil)))))))))) [])]] ok_beg) FsOk.nil rfl)
  generalize hF : Co.std = F at hC hfs ⊢
  generalize hG0 : ViR.Vs.std = G0 at hC hfs ⊢
  generalize hG1 : ViC.Vc.std = G1 at hC hfs ⊢
  generalize hG2 : ViQ.Vm.std = G2 at hC hfs ⊢
  generalize hG3 : SpQ.Sq.std = G3 at hC hfs ⊢
  generalize hG4 : ViM.Vg.std = G4 at hC hfs ⊢
  generalize hG5 : ViS.Vq.std = G5 at hC hfs ⊢
  generalize hG6 : CoN.Cn.std = G6 at hC hfs ⊢
  generalize hA : Ar.std = A
  generalize hL : Lp _ _ _ = L
  obtain ⟨Z, zq⟩ := z_all
  refine @cd_open _ _ _ _ _ _ _ (lp_mono hL) _ _ zq rfl ?_
  repeat' (first
    | (refine z_open zq ?_; try dsimp only)
    | refine cd_seq zq ?_ (lp_mono hL)
    | refine cd_blk zq ?_
    | refine cd_ret ?_
    | refine cd_skip ?_
    | refine cd_exit ?_
    | refine cd_loop ?_
    | refine cd_cond rfl ?_
    | refine cd_condT rfl ?_
    | refine cd_condF rfl ?_
    | (refine Cd.mk ?_; cbv)
    | (refine Ends1.mk ?_; cbv)
    | (refine Fin1.mk ?_; cbv)
    | exact trivial
    | refine And.intro ?_ ?_
    | refine orf fun _ => ?_
    | refine ort fun _ => ?_)
  all_goals first | (show L _ _ _; skip) | (exfalso; clear hL hfs zq Z; subst hA hF hG0 hG1 hG2 hG3 hG4 hG5 hG6; simp only [Co.std] at * <;> grind [stdCmp]; done) | (clear hL hfs zq Z; subst hA hF hG0 hG1 hG2 hG3 hG4 hG5 hG6; simp only [Co.std] at * <;> grind [stdCmp]; done)
theorem ok_new : ConOk Tryz.prog 11 (c_new Co.std) := by
  refine con_of (FsOk.cons (dnil_ok [[none, none, none, none, none, some (.recs (.int .i64 (.int .i64 (.int .i64 (.int .i64 (.bool (.bool (.int .i64 .nil))))))) []), some (.ints .i64 []), some (.ints .i64 []), some (.recs (.int .i64 (.int .i64 (.int .i64 (.int .i64 (.bool .nil))))) []), none, some (.ints .i64 []), some (.recs (.int .i64 (.int .i64 (.int .i64 (.int .i64 (.bool .nil))))) []), none, none, some (.recs (.int .i64 (.int .i64 (.int .i64 (.int .i64 (.ints .i64 (.recs (.int .i64 (.int .i64 (.int .i64 (.int .i64 (.bool .nil))))) (.int .i64 (.int .i64 (.int .i64 (.int .i64 .nil)))))))))) [])]] ok_beg) FsOk.nil rfl) Tryz.func11 rfl rfl fun xs h p hp => ?_
  unfold c_new at hp
  split at hp
  · cases hp
    exact ⟨lee_le rfl, fun hC _ => @x_new _ _ hC⟩
  · cases hp

theorem emq_is {a b : List E} (h : emq a b = true) : a = [] ∧ b = [] := by
  unfold emq at h
  rw [Bool.and_eq_true, List.isEmpty_iff, List.isEmpty_iff] at h
  exact h
theorem sameI_rfl (l : List Int) : sameI l l = true := by simp [sameI]
theorem sameV_rfl (n : List Int) (l : List E) : sameV n l n l = true := by simp [sameV, sameI, ViS.sameK]

set_option cbv.maxSteps 4000000 in
set_option maxHeartbeats 4000000 in
set_option maxRecDepth 100000 in
theorem x_csame (a_i : Int) (a_ee : Int) (a_er : Int) (a_t : Int) (a_p : Int) (a_ties : List E) (a_w : List Int) (a_gn : List Int) (a_gl : List E) (a_ph : Int) (a_tn : List Int) (a_tl : List E) (a_l : Int) (a_o : Bool) (b_i : Int) (b_ee : Int) (b_er : Int) (b_t : Int) (b_p : Int) (b_ties : List E) (b_w : List Int) (b_gn : List Int) (b_gl : List E) (b_ph : Int) (b_tn : List Int) (b_tl : List E) (b_l : Int) (b_o : Bool) (hC : a_i = b_i ∧ a_ee = b_ee ∧ a_er = b_er ∧ a_t = b_t ∧ a_p = b_p ∧ a_ph = b_ph ∧ a_l = b_l ∧ a_o = b_o ∧ Co.std.a_eq2 a_ties b_ties = true ∧ Co.std.a_eq a_w b_w = true ∧ Co.std.a_eq a_gn b_gn = true ∧ Co.std.a_eq2 a_gl b_gl = true ∧ Co.std.a_eq a_tn b_tn = true ∧ Co.std.a_eq2 a_tl b_tl = true) : Does [(24, c_rints ViS.Vq.std), (12, c_rvsame ViS.Vq.std)] Tryz.f9 [.agg [.val (.int .i64 a_i), .val (.int .i64 a_ee), .val (.int .i64 a_er), .val (.int .i64 a_t), .val (.int .i64 a_p), .sl none (.recs (.int .i64 (.int .i64 (.int .i64 (.int .i64 (.bool (.bool (.int .i64 .nil))))))) a_ties), .sl none (.ints .i64 a_w), .sl none (.ints .i64 a_gn), .sl none (.recs (.int .i64 (.int .i64 (.int .i64 (.int .i64 (.bool .nil))))) a_gl), .val (.int .i64 a_ph), .sl none (.ints .i64 a_tn), .sl none (.recs (.int .i64 (.int .i64 (.int .i64 (.int .i64 (.bool .nil))))) a_tl), .val (.int .i64 a_l), .val (.bool a_o)], .agg [.val (.int .i64 b_i), .val (.int .i64 b_ee), .val (.int .i64 b_er), .val (.int .i64 b_t), .val (.int .i64 b_p), .sl none (.recs (.int .i64 (.int .i64 (.int .i64 (.int .i64 (.bool (.bool (.int .i64 .nil))))))) b_ties), .sl none (.ints .i64 b_w), .sl none (.ints .i64 b_gn), .sl none (.recs (.int .i64 (.int .i64 (.int .i64 (.int .i64 (.bool .nil))))) b_gl), .val (.int .i64 b_ph), .sl none (.ints .i64 b_tn), .sl none (.recs (.int .i64 (.int .i64 (.int .i64 (.int .i64 (.bool .nil))))) b_tl), .val (.int .i64 b_l), .val (.bool b_o)]] [] ⟨a_i = b_i ∧ a_ee = b_ee ∧ a_er = b_er ∧ a_t = b_t ∧ a_p = b_p ∧ a_ph = b_ph ∧ a_l = b_l ∧ a_o = b_o ∧ Co.std.a_eq2 a_ties b_ties = true ∧ Co.std.a_eq a_w b_w = true ∧ Co.std.a_eq a_gn b_gn = true ∧ Co.std.a_eq2 a_gl b_gl = true ∧ Co.std.a_eq a_tn b_tn = true ∧ Co.std.a_eq2 a_tl b_tl = true, .sa (B true), [], [Any, Any]⟩ := by
  intro b gv
  obtain ⟨h0, h1, h2, h3, h4, h5, h6, h7, k1, k2, k3, k4, k5, k6⟩ := hC
  subst h0 h1 h2 h3 h4 h5 h6 h7
  have k1 : a_ties = [] ∧ b_ties = [] := emq_is k1
  have k4 : a_gl = [] ∧ b_gl = [] := emq_is k4
  have k6 : a_tl = [] ∧ b_tl = [] := emq_is k6
  have k2 : a_w = b_w ∧ a_w.length ≤ 1000 := of_decide_eq_true k2
  have k3 : a_gn = b_gn ∧ a_gn.length ≤ 1000 := of_decide_eq_true k3
  have k5 : a_tn = b_tn ∧ a_tn.length ≤ 1000 := of_decide_eq_true k5
  obtain ⟨k1a, k1b⟩ := k1
  obtain ⟨k4a, k4b⟩ := k4
  obtain ⟨k6a, k6b⟩ := k6
  obtain ⟨k2a, k2b⟩ := k2
  obtain ⟨k3a, k3b⟩ := k3
  obtain ⟨k5a, k5b⟩ := k5
  subst k1a k1b k4a k4b k6a k6b k2a k3a k5a
  have hC : True := trivial
  have s1 := sameI_rfl a_w
  have s2 := sameV_rfl a_gn []
  have s3 := sameV_rfl a_tn []
  have hfs := (FsOk.cons ok_rints (FsOk.cons ok_rvsame FsOk.nil rfl) rfl)
  generalize hF : Co.std = F at hC hfs ⊢
  generalize hG0 : ViR.Vs.std = G0 at hC hfs ⊢
  generalize hG1 : ViC.Vc.std = G1 at hC hfs ⊢
  generalize hG2 : ViQ.Vm.std = G2 at hC hfs ⊢
  generalize hG3 : SpQ.Sq.std = G3 at hC hfs ⊢
  generalize hG4 : ViM.Vg.std = G4 at hC hfs ⊢
  generalize hG5 : ViS.Vq.std = G5 at hC hfs ⊢
  generalize hG6 : CoN.Cn.std = G6 at hC hfs ⊢
  generalize hA : Ar.std = A
  generalize hL : Lp _ _ _ = L
  obtain ⟨Z, zq⟩ := z_all
  refine @cd_open _ _ _ _ _ _ _ (lp_mono hL) _ _ zq rfl ?_
  repeat' (first
    | (refine z_open zq ?_; try dsimp only)
    | refine cd_seq zq ?_ (lp_mono hL)
    | refine cd_blk zq ?_
    | refine cd_ret ?_
    | refine cd_skip ?_
    | refine cd_exit ?_
    | refine cd_loop ?_
    | refine cd_cond rfl ?_
    | refine cd_condT rfl ?_
    | refine cd_condF rfl ?_
    | (refine Cd.mk ?_; cbv)
    | (refine Ends1.mk ?_; cbv)
    | (refine Fin1.mk ?_; cbv)
    | exact trivial
    | refine And.intro ?_ ?_
    | refine orf fun _ => ?_
    | refine ort fun _ => ?_)
  all_goals first | (show L _ _ _; skip) | (exfalso; clear hL hfs zq Z; subst hA hF hG0 hG1 hG2 hG3 hG4 hG5 hG6; simp only [Co.std, Ar.std] at * <;> grind [stdCmp]; done) | (clear hL hfs zq Z; subst hA hF hG0 hG1 hG2 hG3 hG4 hG5 hG6; simp only [Co.std, Ar.std] at * <;> grind [stdCmp]; done)
  subst hL
  refine loop_z (cx_ok hfs) (zQ) (fun y => stOf Tryz.f9.ntmps [(2, .ptr 1 0), (3, .ptr 2 0), (5, .val (.int .i64 y.i))] [(1, .cells 30 [.val (.int .i64 a_i), .val (.int .i64 a_ee), .val (.int .i64 a_er), .val (.int .i64 a_t), .val (.int .i64 a_p), .sl none (.recs (.int .i64 (.int .i64 (.int .i64 (.int .i64 (.bool (.bool (.int .i64 .nil))))))) []), .sl none (.ints .i64 a_w), .sl none (.ints .i64 a_gn), .sl none (.recs (.int .i64 (.int .i64 (.int .i64 (.int .i64 (.bool .nil))))) []), .val (.int .i64 a_ph), .sl none (.ints .i64 a_tn), .sl none (.recs (.int .i64 (.int .i64 (.int .i64 (.int .i64 (.bool .nil))))) []), .val (.int .i64 a_l), .val (.bool a_o)]), (2, .cells 30 [.val (.int .i64 a_i), .val (.int .i64 a_ee), .val (.int .i64 a_er), .val (.int .i64 a_t), .val (.int .i64 a_p), .sl none (.recs (.int .i64 (.int .i64 (.int .i64 (.int .i64 (.bool (.bool (.int .i64 .nil))))))) []), .sl none (.ints .i64 a_w), .sl none (.ints .i64 a_gn), .sl none (.recs (.int .i64 (.int .i64 (.int .i64 (.int .i64 (.bool .nil))))) []), .val (.int .i64 a_ph), .sl none (.ints .i64 a_tn), .sl none (.recs (.int .i64 (.int .i64 (.int .i64 (.int .i64 (.bool .nil))))) []), .val (.int .i64 a_l), .val (.bool a_o)])] [Any, Any]) (zM) (zR 5) ⟨0⟩ ?_ ?_ ?_
  · exact rfl
  · cbv
    repeat' (first | exact trivial | exact rfl | refine And.intro ?_ ?_)
  rintro ⟨i⟩ hq O hO
  have hi0 : i = 0 := hq
  subst hA
  generalize hA : Ar.std = A
  generalize hL : Lp _ _ _ = L
  refine cd_close zq ?_
  repeat' (first
    | (refine z_open zq ?_; try dsimp only)
    | refine cd_seq zq ?_ (lp_mono hL)
    | refine cd_blk zq ?_
    | refine cd_ret ?_
    | refine cd_skip ?_
    | refine cd_exit ?_
    | refine cd_loop ?_
    | refine cd_cond rfl ?_
    | refine cd_condT rfl ?_
    | refine cd_condF rfl ?_
    | (refine Cd.mk ?_; cbv)
    | (refine Ends1.mk ?_; cbv)
    | (refine Fin1.mk ?_; cbv)
    | exact trivial
    | refine And.intro ?_ ?_
    | refine orf fun _ => ?_
    | refine ort fun _ => ?_)
  all_goals first | (show L _ _ _; skip) | (exfalso; clear hL hfs zq Z hq; subst hA hF hG0 hG1 hG2 hG3 hG4 hG5 hG6 hO; simp only [Co.std, ViS.Vq.std, Ar.std] at * <;> grind [stdCmp]; done) | (clear hL hfs zq Z hq; subst hA hF hG0 hG1 hG2 hG3 hG4 hG5 hG6 hO; simp only [Co.std, ViS.Vq.std, Ar.std] at * <;> grind [stdCmp]; done)

structure CT where
  i : Int
  ee : Int
  er : Int
  t : Int
  p : Int
  ties : List E
  w : List Int
  gn : List Int
  gl : List E
  ph : Int
  tn : List Int
  tl : List E
  l : Int
  o : Bool
def co14 : List SC → Option CT
  | [.val (.int .i64 i), .val (.int .i64 ee), .val (.int .i64 er), .val (.int .i64 t), .val (.int .i64 p), .sl none (.recs (.int .i64 (.int .i64 (.int .i64 (.int .i64 (.bool (.bool (.int .i64 .nil))))))) ties), .sl none (.ints .i64 w), .sl none (.ints .i64 gn), .sl none (.recs (.int .i64 (.int .i64 (.int .i64 (.int .i64 (.bool .nil))))) gl), .val (.int .i64 ph), .sl none (.ints .i64 tn), .sl none (.recs (.int .i64 (.int .i64 (.int .i64 (.int .i64 (.bool .nil))))) tl), .val (.int .i64 l), .val (.bool o)] => some ⟨i, ee, er, t, p, ties, w, gn, gl, ph, tn, tl, l, o⟩
  | _ => none
theorem co14_is {l : List SC} {x : CT} (h : co14 l = some x) : l = [.val (.int .i64 x.i), .val (.int .i64 x.ee), .val (.int .i64 x.er), .val (.int .i64 x.t), .val (.int .i64 x.p), .sl none (.recs (.int .i64 (.int .i64 (.int .i64 (.int .i64 (.bool (.bool (.int .i64 .nil))))))) x.ties), .sl none (.ints .i64 x.w), .sl none (.ints .i64 x.gn), .sl none (.recs (.int .i64 (.int .i64 (.int .i64 (.int .i64 (.bool .nil))))) x.gl), .val (.int .i64 x.ph), .sl none (.ints .i64 x.tn), .sl none (.recs (.int .i64 (.int .i64 (.int .i64 (.int .i64 (.bool .nil))))) x.tl), .val (.int .i64 x.l), .val (.bool x.o)] := by
  unfold co14 at h
  split at h
  · cases h
    rfl
  · cases h
def c_csame (F : Co) : Con := fun xs h => match xs, h with
  | [.agg a, .agg b], [] => (match co14 a, co14 b with
    | some x, some y => some ⟨x.i = y.i ∧ x.ee = y.ee ∧ x.er = y.er ∧ x.t = y.t ∧ x.p = y.p ∧ x.ph = y.ph ∧ x.l = y.l ∧ x.o = y.o ∧ F.a_eq2 x.ties y.ties = true ∧ F.a_eq x.w y.w = true ∧ F.a_eq x.gn y.gn = true ∧ F.a_eq2 x.gl y.gl = true ∧ F.a_eq x.tn y.tn = true ∧ F.a_eq2 x.tl y.tl = true, .sa (B true), [], [Any, Any]⟩
    | _, _ => none)
  | _, _ => none
theorem ok_csame : ConOk Tryz.prog 9 (c_csame Co.std) := by
  refine con_of (FsOk.cons ok_rints (FsOk.cons ok_rvsame FsOk.nil rfl) rfl) Tryz.func9 rfl rfl fun xs h p hp => ?_
  unfold c_csame at hp
  split at hp
  · split at hp
    · rename_i x y hx hy
      cases hp
      have ea := co14_is hx
      have eb := co14_is hy
      subst ea eb
      exact ⟨lee_le rfl, fun hC _ => @x_csame x.i x.ee x.er x.t x.p x.ties x.w x.gn x.gl x.ph x.tn x.tl x.l x.o y.i y.ee y.er y.t y.p y.ties y.w y.gn y.gl y.ph y.tn y.tl y.l y.o hC⟩
    · cases hp
  · cases hp

abbrev c_cnew := CoP.c_new
theorem ok_cnew : ConOk Tryz.prog 7 (c_cnew CoN.Cn.std) := CoP.ok_new
abbrev c_cown := CoN.c_own
theorem ok_cown : ConOk Tryz.prog 13 (c_cown CoN.Cn.std) := CoN.ok_own
theorem w39 : nwB 3 9 = true := by decide +kernel

def c_awk (_ : Co) : Con := fun xs h => match xs, h with
  | [], [] => some ⟨True, .sa (B true), [], []⟩
  | _, _ => none
set_option cbv.maxSteps 4000000 in
set_option maxHeartbeats 4000000 in
set_option maxRecDepth 100000 in
theorem x_awk  : Does [(7, c_cnew CoN.Cn.std)] Tryz.f10 [] [] ⟨True, .sa (B true), [], []⟩ := by
  intro b gv
  have hw := w39
  have hfs := (FsOk.cons ok_cnew FsOk.nil rfl)
  generalize hF : Co.std = F at hfs ⊢
  generalize hG0 : ViR.Vs.std = G0 at hfs ⊢
  generalize hG1 : ViC.Vc.std = G1 at hfs ⊢
  generalize hG2 : ViQ.Vm.std = G2 at hfs ⊢
  generalize hG3 : SpQ.Sq.std = G3 at hfs ⊢
  generalize hG4 : ViM.Vg.std = G4 at hfs ⊢
  generalize hG5 : ViS.Vq.std = G5 at hfs ⊢
  generalize hG6 : CoN.Cn.std = G6 at hfs ⊢
  generalize hA : Ar.std = A
  generalize hL : Lp _ _ _ = L
  obtain ⟨Z, zq⟩ := z_all
  refine @cd_open _ _ _ _ _ _ _ (lp_mono hL) _ _ zq rfl ?_
  repeat' (first
    | (refine z_open zq ?_; try dsimp only)
    | refine cd_seq zq ?_ (lp_mono hL)
    | refine cd_blk zq ?_
    | refine cd_ret ?_
    | refine cd_skip ?_
    | refine cd_exit ?_
    | refine cd_loop ?_
    | refine cd_cond rfl ?_
    | refine cd_condT rfl ?_
    | refine cd_condF rfl ?_
    | (refine Cd.mk ?_; cbv)
    | (refine Ends1.mk ?_; cbv)
    | (refine Fin1.mk ?_; cbv)
    | exact trivial
    | refine And.intro ?_ ?_
    | refine orf fun _ => ?_
    | refine ort fun _ => ?_)
  all_goals first | (show L _ _ _; skip) | (exfalso; clear hL hfs zq Z; subst hA hF hG0 hG1 hG2 hG3 hG4 hG5 hG6; simp only [CoN.Cn.std, Ar.std] at * <;> grind [stdCmp]; done) | (clear hL hfs zq Z; subst hA hF hG0 hG1 hG2 hG3 hG4 hG5 hG6; simp only [CoN.Cn.std, Ar.std] at * <;> grind [stdCmp]; done)
theorem ok_awk : ConOk Tryz.prog 10 (c_awk Co.std) := by
  refine con_of (FsOk.cons ok_cnew FsOk.nil rfl) Tryz.func10 rfl rfl fun xs h p hp => ?_
  unfold c_awk at hp
  split at hp
  · cases hp
    exact ⟨lee_le rfl, fun _ _ => @x_awk ⟩
  · cases hp
end Go.Proofs.YtfioaidmgcibaaaGreat.CoQ
