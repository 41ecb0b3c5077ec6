/-
  a new core, by the code. No condition.
-/
import Derived.Test.YtakebkfhigadiaaGreatCoN
namespace Go.Proofs.YtakebkfhigadiaaGreat.CoP
open Go Go.Proofs.YtakebkfhigadiaaGreat.Ry Go.Proofs.YtakebkfhigadiaaGreat.Cmp Go.Proofs.YtakebkfhigadiaaGreat.ViR Go.Proofs.YtakebkfhigadiaaGreat.ViC Go.Proofs.YtakebkfhigadiaaGreat.ViL Go.Proofs.YtakebkfhigadiaaGreat.CoN

open Go.Proofs.YtakebkfhigadiaaGreat.MgR (c_merge ok_merge meN meL meE okM comB)
theorem does_of {l : List (Nat × Con)} {fn : Func} {args : List SA} {h : H} {p : Post} (hd : ∀ (b : Bs) (gv : List Value) (Z : (Ex → St → Prop) → Ex → St → Prop) (_ : ∀ K, Z K = K) (A : Ar) (_ : Ar.std = A) (L : Code → St → (Ex → St → Prop) → Prop) (_ : Lp Tryz.prog b gv = L), Cd A (cxOf l) L (bodyOf fn) (Ry.start fn.ntmps args h) (Z fun e s' => Fin1 A (cxOf l) fn.results.toList p e s')) : Does l fn args h p := fun b gv => @cd_open _ _ _ _ _ _ _ (lp_mono rfl) _ _ (fun _ => rfl) rfl (hd b gv id (fun _ => rfl) _ rfl _ rfl)

def c_sett (F : CoN.Cn) : Con := fun xs h => match xs, h with
  | [.one (.ptr 0 0)], [(0, .cells 203 [.val (.int .i64 s_i), .val (.int .i64 s_ee), .val (.int .i64 s_er), .val (.int .i64 s_t), .val (.int .i64 s_p), .val (.slice none 0 0), .val (.slice none 0 0), .val (.slice none 0 0), .val (.slice none 0 0), .val (.int .i64 s_ph), .val (.slice none 0 0), .val (.slice none 0 0), .val (.int .i64 s_l), .val (.bool s_o), .val (.slice none 0 0)])] => some ⟨s_o = false ∧ s_ph = 1 ∧ s_p = 0 ∧ F.n_nd s_i = true, .tup [], [(0, .cells 203 [.val (.int .i64 s_i), .val (.int .i64 s_ee), .val (.int .i64 s_er), .val (.int .i64 s_t), .val (.int .i64 s_p), .val (.slice none 0 0), .val (.slice none 0 0), .val (.slice none 0 0), .val (.slice none 0 0), .val (.int .i64 4), .sl none (.ints .i64 [s_i]), .sl none (.recs (.int .i64 (.int .i64 (.int .i64 (.int .i64 (.bool .nil))))) []), .val (.int .i64 s_l), .val (.bool s_o), .val (.slice none 0 0)])], [.one (.ptr 0 0)]⟩
  | _, _ => none
set_option cbv.maxSteps 4000000 in
set_option maxHeartbeats 4000000 in
set_option maxRecDepth 100000 in
theorem x_sett (s_i : Int) (s_ee : Int) (s_er : Int) (s_t : Int) (s_p : Int) (s_ph : Int) (s_l : Int) (s_o : Bool) (hC : s_o = false ∧ s_ph = 1 ∧ s_p = 0 ∧ CoN.Cn.std.n_nd s_i = true) : Does [(212, c_hasv CoN.Cn.std), (keepKey 212, noCon), (213, dnil [[none, none, none, none, none, some (.recs (.int .i64 (.int .i64 (.int .i64 (.int .i64 (.bool (.bool (.int .i64 .nil))))))) []), some (.ints .i64 []), some (.ints .i64 []), some (.recs (.int .i64 (.int .i64 (.int .i64 (.int .i64 (.bool .nil))))) []), none, some (.ints .i64 []), some (.recs (.int .i64 (.int .i64 (.int .i64 (.int .i64 (.bool .nil))))) []), none, none]] (c_own CoN.Cn.std)), (200, dnil [[some (.ints .i64 []), some (.recs (.int .i64 (.int .i64 (.int .i64 (.int .i64 (.bool .nil))))) [])], [some (.ints .i64 []), some (.recs (.int .i64 (.int .i64 (.int .i64 (.int .i64 (.bool .nil))))) [])]] (c_merge MgR.Mg.std)), (214, c_choz CoN.Cn.std), (165, c_do CoN.Cn.std)] Tryz.f191 [.one (.ptr 0 0)] [(0, .cells 203 [.val (.int .i64 s_i), .val (.int .i64 s_ee), .val (.int .i64 s_er), .val (.int .i64 s_t), .val (.int .i64 s_p), .val (.slice none 0 0), .val (.slice none 0 0), .val (.slice none 0 0), .val (.slice none 0 0), .val (.int .i64 s_ph), .val (.slice none 0 0), .val (.slice none 0 0), .val (.int .i64 s_l), .val (.bool s_o), .val (.slice none 0 0)])] ⟨s_o = false ∧ s_ph = 1 ∧ s_p = 0 ∧ CoN.Cn.std.n_nd s_i = true, .tup [], [(0, .cells 203 [.val (.int .i64 s_i), .val (.int .i64 s_ee), .val (.int .i64 s_er), .val (.int .i64 s_t), .val (.int .i64 s_p), .val (.slice none 0 0), .val (.slice none 0 0), .val (.slice none 0 0), .val (.slice none 0 0), .val (.int .i64 4), .sl none (.ints .i64 [s_i]), .sl none (.recs (.int .i64 (.int .i64 (.int .i64 (.int .i64 (.bool .nil))))) []), .val (.int .i64 s_l), .val (.bool s_o), .val (.slice none 0 0)])], [.one (.ptr 0 0)]⟩ := by
  refine @does_of _ _ _ _ _ ?_
  intro b gv Z zq A hA L hL
  have hnd : nodB s_i = true := hC.2.2.2
  obtain ⟨h1, h2, h3, _⟩ := hC
  subst h1 h2 h3
  have hC : True := trivial
  have z5 : emp [] = true := rfl
  have z1 := z_mn hnd
  have z2 := z_ml hnd
  have z3 := z_me hnd
  have z4 : vzB [s_i] [] = true := by
    unfold vzB
    rw [z_may hnd]
    rfl
  have hfs := (FsOk.keeps ok_hasv kp_hasv (FsOk.cons (dnil_ok [[none, none, none, none, none, some (.recs (.int .i64 (.int .i64 (.int .i64 (.int .i64 (.bool (.bool (.int .i64 .nil))))))) []), some (.ints .i64 []), some (.ints .i64 []), some (.recs (.int .i64 (.int .i64 (.int .i64 (.int .i64 (.bool .nil))))) []), none, some (.ints .i64 []), some (.recs (.int .i64 (.int .i64 (.int .i64 (.int .i64 (.bool .nil))))) []), none, none]] ok_own) (FsOk.cons (dnil_ok [[some (.ints .i64 []), some (.recs (.int .i64 (.int .i64 (.int .i64 (.int .i64 (.bool .nil))))) [])], [some (.ints .i64 []), some (.recs (.int .i64 (.int .i64 (.int .i64 (.int .i64 (.bool .nil))))) [])]] ok_merge) (FsOk.cons ok_choz (FsOk.cons ok_do FsOk.nil rfl) rfl) rfl) rfl))
  generalize hF : CoN.Cn.std = F at hC hfs ⊢
  generalize hG0 : ViR.Vs.std = G0 at hC hfs ⊢
  generalize hG1 : MgR.Mg.std = G1 at hC hfs ⊢
  repeat' (first
    | (refine z_open zq ?_; try dsimp only)
    | refine cd_seq zq ?_ (lp_mono hL)
    | refine cd_blk zq ?_
    | refine cd_ret ?_
    | refine cd_skip ?_
    | refine cd_exit ?_
    | refine cd_loop ?_
    | refine cd_cond rfl ?_
    | refine cd_condT rfl ?_
    | refine cd_condF rfl ?_
    | (refine Cd.mk ?_; cbv)
    | (refine Ends1.mk ?_; cbv)
    | (refine Fin1.mk ?_; cbv)
    | exact trivial
    | refine And.intro ?_ ?_
    | refine orf fun _ => ?_
    | refine ort fun _ => ?_)
  all_goals first | (show L _ _ _; skip) | (exfalso; clear hL hfs zq Z; subst hA hF hG0 hG1; simp only [CoN.Cn.std, MgR.Mg.std, Ar.std] at * <;> grind [stdCmp]; done) | (clear hL hfs zq Z; subst hA hF hG0 hG1; simp only [CoN.Cn.std, MgR.Mg.std, Ar.std] at * <;> grind [stdCmp]; done)
theorem ok_sett : ConOk Tryz.prog 191 (c_sett CoN.Cn.std) := by
  refine con_of (FsOk.keeps ok_hasv kp_hasv (FsOk.cons (dnil_ok [[none, none, none, none, none, some (.recs (.int .i64 (.int .i64 (.int .i64 (.int .i64 (.bool (.bool (.int .i64 .nil))))))) []), some (.ints .i64 []), some (.ints .i64 []), some (.recs (.int .i64 (.int .i64 (.int .i64 (.int .i64 (.bool .nil))))) []), none, some (.ints .i64 []), some (.recs (.int .i64 (.int .i64 (.int .i64 (.int .i64 (.bool .nil))))) []), none, none]] ok_own) (FsOk.cons (dnil_ok [[some (.ints .i64 []), some (.recs (.int .i64 (.int .i64 (.int .i64 (.int .i64 (.bool .nil))))) [])], [some (.ints .i64 []), some (.recs (.int .i64 (.int .i64 (.int .i64 (.int .i64 (.bool .nil))))) [])]] ok_merge) (FsOk.cons ok_choz (FsOk.cons ok_do FsOk.nil rfl) rfl) rfl) rfl)) Tryz.func191 rfl rfl fun xs h p hp => ?_
  unfold c_sett at hp
  split at hp
  · cases hp
    exact ⟨lee_le rfl, fun hC _ => @x_sett _ _ _ _ _ _ _ _ hC⟩
  · cases hp

def c_adopt (F : CoN.Cn) : Con := fun xs h => match xs, h with
  | [.one (.ptr 0 0), .agg [.val (.int .i64 e_e), .val (.int .i64 e_r)], .one (.val (.int .i64 q))], [(0, .cells 203 [.val (.int .i64 s_i), .val (.int .i64 _), .val (.int .i64 _), .val (.int .i64 s_t), .val (.int .i64 _), .val (.slice none 0 0), .val (.slice none 0 0), .val (.slice none 0 0), .val (.slice none 0 0), .val (.int .i64 _), .val (.slice none 0 0), .val (.slice none 0 0), .val (.int .i64 s_l), .val (.bool s_o), .val (.slice none 0 0)])] => some ⟨q = 0 ∧ s_o = false ∧ F.n_lt s_t e_e = true ∧ F.n_nd s_i = true, .tup [], [(0, .cells 203 [.val (.int .i64 s_i), .val (.int .i64 e_e), .val (.int .i64 e_r), .val (.int .i64 e_e), .val (.int .i64 0), .val (.slice none 0 0), .val (.slice none 0 0), .val (.slice none 0 0), .val (.slice none 0 0), .val (.int .i64 4), .sl none (.ints .i64 [s_i]), .sl none (.recs (.int .i64 (.int .i64 (.int .i64 (.int .i64 (.bool .nil))))) []), .val (.int .i64 s_l), .val (.bool s_o), .val (.slice none 0 0)])], [.one (.ptr 0 0), Any, Any]⟩
  | _, _ => none
set_option cbv.maxSteps 4000000 in
set_option maxHeartbeats 4000000 in
set_option maxRecDepth 100000 in
theorem x_adopt (e_e : Int) (e_r : Int) (q : Int) (s_i : Int) (s_ee : Int) (s_er : Int) (s_t : Int) (s_p : Int) (s_ph : Int) (s_l : Int) (s_o : Bool) (hC : q = 0 ∧ s_o = false ∧ CoN.Cn.std.n_lt s_t e_e = true ∧ CoN.Cn.std.n_nd s_i = true) : Does [(189, c_kids CoN.Cn.std), (keepKey 189, noCon), (191, c_sett CoN.Cn.std)] Tryz.f155 [.one (.ptr 0 0), .agg [.val (.int .i64 e_e), .val (.int .i64 e_r)], .one (.val (.int .i64 q))] [(0, .cells 203 [.val (.int .i64 s_i), .val (.int .i64 s_ee), .val (.int .i64 s_er), .val (.int .i64 s_t), .val (.int .i64 s_p), .val (.slice none 0 0), .val (.slice none 0 0), .val (.slice none 0 0), .val (.slice none 0 0), .val (.int .i64 s_ph), .val (.slice none 0 0), .val (.slice none 0 0), .val (.int .i64 s_l), .val (.bool s_o), .val (.slice none 0 0)])] ⟨q = 0 ∧ s_o = false ∧ CoN.Cn.std.n_lt s_t e_e = true ∧ CoN.Cn.std.n_nd s_i = true, .tup [], [(0, .cells 203 [.val (.int .i64 s_i), .val (.int .i64 e_e), .val (.int .i64 e_r), .val (.int .i64 e_e), .val (.int .i64 0), .val (.slice none 0 0), .val (.slice none 0 0), .val (.slice none 0 0), .val (.slice none 0 0), .val (.int .i64 4), .sl none (.ints .i64 [s_i]), .sl none (.recs (.int .i64 (.int .i64 (.int .i64 (.int .i64 (.bool .nil))))) []), .val (.int .i64 s_l), .val (.bool s_o), .val (.slice none 0 0)])], [.one (.ptr 0 0), Any, Any]⟩ := by
  refine @does_of _ _ _ _ _ ?_
  intro b gv Z zq A hA L hL
  obtain ⟨h1, h2, h3, hnd⟩ := hC
  subst h1 h2
  have h3 : s_t < e_e := of_decide_eq_true h3
  have hnd : nodB s_i = true := hnd
  have hC : True := trivial
  have hfs := (FsOk.keeps ok_kids kp_kids (FsOk.cons ok_sett FsOk.nil rfl))
  generalize hF : CoN.Cn.std = F at hC hfs ⊢
  generalize hG0 : ViR.Vs.std = G0 at hC hfs ⊢
  generalize hG1 : MgR.Mg.std = G1 at hC hfs ⊢
  repeat' (first
    | (refine z_open zq ?_; try dsimp only)
    | refine cd_seq zq ?_ (lp_mono hL)
    | refine cd_blk zq ?_
    | refine cd_ret ?_
    | refine cd_skip ?_
    | refine cd_exit ?_
    | refine cd_loop ?_
    | refine cd_cond rfl ?_
    | refine cd_condT rfl ?_
    | refine cd_condF rfl ?_
    | (refine Cd.mk ?_; cbv)
    | (refine Ends1.mk ?_; cbv)
    | (refine Fin1.mk ?_; cbv)
    | exact trivial
    | refine And.intro ?_ ?_
    | refine orf fun _ => ?_
    | refine ort fun _ => ?_)
  all_goals first | (show L _ _ _; skip) | (exfalso; clear hL hfs zq Z; subst hA hF hG0 hG1; simp only [CoN.Cn.std, ViR.Vs.std, MgR.Mg.std, Ar.std, List.nil_append] at * <;> grind [stdCmp]; done) | (clear hL hfs zq Z; subst hA hF hG0 hG1; simp only [CoN.Cn.std, ViR.Vs.std, MgR.Mg.std, Ar.std, List.nil_append] at * <;> grind [stdCmp]; done)
  subst hL
  refine loop_z (cx_ok hfs) (zQ) (fun y => stOf Tryz.f155.ntmps [(0, .ptr 1 0), (50, .val (.slice none 0 0)), (51, .num .i64 0), (52, .val (.int .i64 y.i))] [(1, .cells 203 [.val (.int .i64 s_i), .val (.int .i64 e_e), .val (.int .i64 e_r), .val (.int .i64 (A.iteI (A.cmp .gtr e_e s_t) e_e s_t)), .val (.int .i64 0), .val (.slice none 0 0), .val (.slice none 0 0), .val (.slice none 0 0), .val (.slice none 0 0), .val (.int .i64 1), .val (.slice none 0 0), .val (.slice none 0 0), .val (.int .i64 s_l), .val (.bool false), .val (.slice none 0 0)])] [.one (.ptr 1 0), Any, Any]) (zM) (zR 52) ⟨0⟩ ?_ ?_ ?_
  · exact rfl
  · cbv
    repeat' (first | exact trivial | exact rfl | refine And.intro ?_ ?_)
  rintro ⟨i⟩ hq O hO
  have hi0 : i = 0 := hq
  subst hA
  generalize hA : Ar.std = A
  generalize hL : Lp _ _ _ = L
  refine cd_close zq ?_
  repeat' (first
    | (refine z_open zq ?_; try dsimp only)
    | refine cd_seq zq ?_ (lp_mono hL)
    | refine cd_blk zq ?_
    | refine cd_ret ?_
    | refine cd_skip ?_
    | refine cd_exit ?_
    | refine cd_loop ?_
    | refine cd_cond rfl ?_
    | refine cd_condT rfl ?_
    | refine cd_condF rfl ?_
    | (refine Cd.mk ?_; cbv)
    | (refine Ends1.mk ?_; cbv)
    | (refine Fin1.mk ?_; cbv)
    | exact trivial
    | refine And.intro ?_ ?_
    | refine orf fun _ => ?_
    | refine ort fun _ => ?_)
  all_goals first | (show L _ _ _; skip) | (exfalso; clear hL hfs zq Z hq; subst hA hF hG0 hG1 hO; simp only [CoN.Cn.std, Ar.std] at * <;> grind [stdCmp]; done) | (clear hL hfs zq Z hq; subst hA hF hG0 hG1 hO; simp only [CoN.Cn.std, ViR.Vs.std, MgR.Mg.std, Ar.std, List.nil_append] at * <;> grind [stdCmp]; done)
  clear hO
  subst hL
  refine loop_z (cx_ok hfs) (zQ) (fun y => stOf Tryz.f155.ntmps [(0, .ptr 1 0), (82, .val (.slice none 0 0)), (83, .num .i64 0), (84, .val (.int .i64 y.i))] [(1, .cells 203 [.val (.int .i64 s_i), .val (.int .i64 e_e), .val (.int .i64 e_r), .val (.int .i64 (A.iteI (A.cmp .gtr e_e s_t) e_e s_t)), .val (.int .i64 0), .val (.slice none 0 0), .val (.slice none 0 0), .val (.slice none 0 0), .val (.slice none 0 0), .val (.int .i64 1), .val (.slice none 0 0), .val (.slice none 0 0), .val (.int .i64 s_l), .val (.bool false), .val (.slice none 0 0)])] [.one (.ptr 1 0), Any, Any]) (zM) (zR 84) ⟨0⟩ ?_ ?_ ?_
  · exact rfl
  · cbv
    repeat' (first | exact trivial | exact rfl | refine And.intro ?_ ?_)
  rintro ⟨j⟩ hq2 O2 hO2
  have hj0 : j = 0 := hq2
  subst hA
  generalize hA : Ar.std = A
  generalize hL : Lp _ _ _ = L
  refine cd_close zq ?_
  repeat' (first
    | (refine z_open zq ?_; try dsimp only)
    | refine cd_seq zq ?_ (lp_mono hL)
    | refine cd_blk zq ?_
    | refine cd_ret ?_
    | refine cd_skip ?_
    | refine cd_exit ?_
    | refine cd_loop ?_
    | refine cd_cond rfl ?_
    | refine cd_condT rfl ?_
    | refine cd_condF rfl ?_
    | (refine Cd.mk ?_; cbv)
    | (refine Ends1.mk ?_; cbv)
    | (refine Fin1.mk ?_; cbv)
    | exact trivial
    | refine And.intro ?_ ?_
    | refine orf fun _ => ?_
    | refine ort fun _ => ?_)
  all_goals first | (show L _ _ _; skip) | (exfalso; clear hL hfs zq Z hq hq2; subst hA hF hG0 hG1 hO2; simp only [CoN.Cn.std, Ar.std] at * <;> grind [stdCmp]; done) | (clear hL hfs zq Z hq hq2; subst hA hF hG0 hG1 hO2; simp only [CoN.Cn.std, Ar.std] at * <;> grind [stdCmp]; done)
theorem ok_adopt : ConOk Tryz.prog 155 (c_adopt CoN.Cn.std) := by
  refine con_of (FsOk.keeps ok_kids kp_kids (FsOk.cons ok_sett FsOk.nil rfl)) Tryz.func155 rfl rfl fun xs h p hp => ?_
  unfold c_adopt at hp
  split at hp
  · cases hp
    exact ⟨lee_le rfl, fun hC _ => @x_adopt _ _ _ _ _ _ _ _ _ _ _ hC⟩
  · cases hp

def c_begin (F : CoN.Cn) : Con := fun xs h => match xs, h with
  | [.one (.ptr 0 0)], [(0, .cells 203 [.val (.int .i64 s_i), .val (.int .i64 s_ee), .val (.int .i64 _), .val (.int .i64 s_t), .val (.int .i64 _), .val (.slice none 0 0), .val (.slice none 0 0), .val (.slice none 0 0), .val (.slice none 0 0), .val (.int .i64 _), .val (.slice none 0 0), .val (.slice none 0 0), .val (.int .i64 s_l), .val (.bool s_o), .val (.slice none 0 0)])] => some ⟨s_o = false ∧ s_ee = 0 ∧ s_t = 0 ∧ F.n_nw s_i s_l = true, .tup [], [(0, .cells 203 [.val (.int .i64 s_i), .val (.int .i64 1), .val (.int .i64 s_i), .val (.int .i64 1), .val (.int .i64 0), .val (.slice none 0 0), .val (.slice none 0 0), .val (.slice none 0 0), .val (.slice none 0 0), .val (.int .i64 4), .sl none (.ints .i64 [s_i]), .sl none (.recs (.int .i64 (.int .i64 (.int .i64 (.int .i64 (.bool .nil))))) []), .val (.int .i64 s_l), .val (.bool s_o), .val (.slice none 0 0)])], [.one (.ptr 0 0)]⟩
  | _, _ => none
set_option cbv.maxSteps 4000000 in
set_option maxHeartbeats 4000000 in
set_option maxRecDepth 100000 in
theorem x_begin (s_i : Int) (s_ee : Int) (s_er : Int) (s_t : Int) (s_p : Int) (s_ph : Int) (s_l : Int) (s_o : Bool) (hC : s_o = false ∧ s_ee = 0 ∧ s_t = 0 ∧ CoN.Cn.std.n_nw s_i s_l = true) : Does [(154, c_after CoN.Cn.std), (155, c_adopt CoN.Cn.std)] Tryz.f109 [.one (.ptr 0 0)] [(0, .cells 203 [.val (.int .i64 s_i), .val (.int .i64 s_ee), .val (.int .i64 s_er), .val (.int .i64 s_t), .val (.int .i64 s_p), .val (.slice none 0 0), .val (.slice none 0 0), .val (.slice none 0 0), .val (.slice none 0 0), .val (.int .i64 s_ph), .val (.slice none 0 0), .val (.slice none 0 0), .val (.int .i64 s_l), .val (.bool s_o), .val (.slice none 0 0)])] ⟨s_o = false ∧ s_ee = 0 ∧ s_t = 0 ∧ CoN.Cn.std.n_nw s_i s_l = true, .tup [], [(0, .cells 203 [.val (.int .i64 s_i), .val (.int .i64 1), .val (.int .i64 s_i), .val (.int .i64 1), .val (.int .i64 0), .val (.slice none 0 0), .val (.slice none 0 0), .val (.slice none 0 0), .val (.slice none 0 0), .val (.int .i64 4), .sl none (.ints .i64 [s_i]), .sl none (.recs (.int .i64 (.int .i64 (.int .i64 (.int .i64 (.bool .nil))))) []), .val (.int .i64 s_l), .val (.bool s_o), .val (.slice none 0 0)])], [.one (.ptr 0 0)]⟩ := by
  refine @does_of _ _ _ _ _ ?_
  intro b gv Z zq A hA L hL
  obtain ⟨h1, h2, h3, hnw⟩ := hC
  subst h1 h2 h3
  have hnw : nwB s_i s_l = true := hnw
  have hC : True := trivial
  have hn := nw_is hnw
  have hf := nw_af hnw
  have hfs := (FsOk.cons ok_after (FsOk.cons ok_adopt FsOk.nil rfl) rfl)
  generalize hF : CoN.Cn.std = F at hC hfs ⊢
  generalize hG0 : ViR.Vs.std = G0 at hC hfs ⊢
  generalize hG1 : MgR.Mg.std = G1 at hC hfs ⊢
  repeat' (first
    | (refine z_open zq ?_; try dsimp only)
    | refine cd_seq zq ?_ (lp_mono hL)
    | refine cd_blk zq ?_
    | refine cd_ret ?_
    | refine cd_skip ?_
    | refine cd_exit ?_
    | refine cd_loop ?_
    | refine cd_cond rfl ?_
    | refine cd_condT rfl ?_
    | refine cd_condF rfl ?_
    | (refine Cd.mk ?_; cbv)
    | (refine Ends1.mk ?_; cbv)
    | (refine Fin1.mk ?_; cbv)
    | exact trivial
    | refine And.intro ?_ ?_
    | refine orf fun _ => ?_
    | refine ort fun _ => ?_)
  all_goals first | (show L _ _ _; skip) | (exfalso; clear hL hfs zq Z; subst hA hF hG0 hG1; simp only [CoN.Cn.std, Ar.std] at * <;> grind [stdCmp]; done) | (clear hL hfs zq Z; subst hA hF hG0 hG1; simp only [CoN.Cn.std, Ar.std] at * <;> grind [stdCmp]; done)
theorem ok_begin : ConOk Tryz.prog 109 (c_begin CoN.Cn.std) := by
  refine con_of (FsOk.cons ok_after (FsOk.cons ok_adopt FsOk.nil rfl) rfl) Tryz.func109 rfl rfl fun xs h p hp => ?_
  unfold c_begin at hp
  split at hp
  · cases hp
    exact ⟨lee_le rfl, fun hC _ => @x_begin _ _ _ _ _ _ _ _ hC⟩
  · cases hp

def c_new (F : CoN.Cn) : Con := fun xs h => match xs, h with
  | [.one (.val (.int .i64 i)), .one (.val (.int .i64 l))], [] => some ⟨True, .tup [.agg [.val (.int .i64 (F.n_z i l i)), .val (.int .i64 (F.n_z i l 1)), .val (.int .i64 (F.n_z i l i)), .val (.int .i64 (F.n_z i l 1)), .val (.int .i64 0), .sl none (.recs (.int .i64 (.int .i64 (.int .i64 (.int .i64 (.bool (.bool (.int .i64 .nil))))))) []), .sl none (.ints .i64 []), .sl none (.ints .i64 []), .sl none (.recs (.int .i64 (.int .i64 (.int .i64 (.int .i64 (.bool .nil))))) []), .val (.int .i64 (F.n_z i l 4)), .sl none (.ints .i64 (F.n_t i l)), .sl none (.recs (.int .i64 (.int .i64 (.int .i64 (.int .i64 (.bool .nil))))) []), .val (.int .i64 (F.n_z i l l)), .val (.bool false)], I (F.n_e i l)], [], [Any, Any]⟩
  | _, _ => none
set_option cbv.maxSteps 4000000 in
set_option maxHeartbeats 4000000 in
set_option maxRecDepth 100000 in
theorem x_new (i : Int) (l : Int) : Does [(108, c_enode ViR.Vs.std), (109, c_begin CoN.Cn.std)] Tryz.f67 [.one (.val (.int .i64 i)), .one (.val (.int .i64 l))] [] ⟨True, .tup [.agg [.val (.int .i64 (CoN.Cn.std.n_z i l i)), .val (.int .i64 (CoN.Cn.std.n_z i l 1)), .val (.int .i64 (CoN.Cn.std.n_z i l i)), .val (.int .i64 (CoN.Cn.std.n_z i l 1)), .val (.int .i64 0), .sl none (.recs (.int .i64 (.int .i64 (.int .i64 (.int .i64 (.bool (.bool (.int .i64 .nil))))))) []), .sl none (.ints .i64 []), .sl none (.ints .i64 []), .sl none (.recs (.int .i64 (.int .i64 (.int .i64 (.int .i64 (.bool .nil))))) []), .val (.int .i64 (CoN.Cn.std.n_z i l 4)), .sl none (.ints .i64 (CoN.Cn.std.n_t i l)), .sl none (.recs (.int .i64 (.int .i64 (.int .i64 (.int .i64 (.bool .nil))))) []), .val (.int .i64 (CoN.Cn.std.n_z i l l)), .val (.bool false)], I (CoN.Cn.std.n_e i l)], [], [Any, Any]⟩ := by
  refine @does_of _ _ _ _ _ ?_
  intro b gv Z zq A hA L hL
  have hw : nwB i l = (nodB i && decide (1 ≤ l ∧ l ≤ 2147483647)) := rfl
  have hfs := (FsOk.cons ok_enode (FsOk.cons ok_begin FsOk.nil rfl) rfl)
  generalize hF : CoN.Cn.std = F at hfs ⊢
  generalize hG0 : ViR.Vs.std = G0 at hfs ⊢
  generalize hG1 : MgR.Mg.std = G1 at hfs ⊢
  repeat' (first
    | (refine z_open zq ?_; try dsimp only)
    | refine cd_seq zq ?_ (lp_mono hL)
    | refine cd_blk zq ?_
    | refine cd_ret ?_
    | refine cd_skip ?_
    | refine cd_exit ?_
    | refine cd_loop ?_
    | refine cd_cond rfl ?_
    | refine cd_condT rfl ?_
    | refine cd_condF rfl ?_
    | (refine Cd.mk ?_; cbv)
    | (refine Ends1.mk ?_; cbv)
    | (refine Fin1.mk ?_; cbv)
    | exact trivial
    | refine And.intro ?_ ?_
    | refine orf fun _ => ?_
    | refine ort fun _ => ?_)
  all_goals first | (show L _ _ _; skip) | (exfalso; clear hL hfs zq Z; subst hA hF hG0 hG1; simp only [ViR.Vs.std, Ar.std] at * <;> grind [stdCmp]; done) | (clear hL hfs zq Z; subst hA hF hG0 hG1; simp only [CoN.Cn.std, ViR.Vs.std, Ar.std] at * <;> grind [stdCmp]; done)
theorem ok_new : ConOk Tryz.prog 67 (c_new CoN.Cn.std) := by
  refine con_of (FsOk.cons ok_enode (FsOk.cons ok_begin FsOk.nil rfl) rfl) Tryz.func67 rfl rfl fun xs h p hp => ?_
  unfold c_new at hp
  split at hp
  · cases hp
    exact ⟨lee_le rfl, fun _ _ => @x_new _ _⟩
  · cases hp
end Go.Proofs.YtakebkfhigadiaaGreat.CoP
