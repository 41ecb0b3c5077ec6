/-
  what a core without ties is, by the answer; what it tells. No condition.
-/
import Derived.Test.YtodglgdenjjjgaaRoR
import Derived.Test.YtodglgdenjjjgaaViM
namespace Go.Proofs.Ytodglgdenjjjgaa.AsR
open Go Go.Proofs.Ytodglgdenjjjgaa.Ry Go.Proofs.Ytodglgdenjjjgaa.Cmp Go.Proofs.Ytodglgdenjjjgaa.ViR Go.Proofs.Ytodglgdenjjjgaa.ViL Go.Proofs.Ytodglgdenjjjgaa.ViT

open Go.Proofs.Ytodglgdenjjjgaa.ViC (c_vmay ok_vmay)
open Go.Proofs.Ytodglgdenjjjgaa.ViQ (c_rinner ok_rinner c_router ok_router c_rbound ok_rbound)
open Go.Proofs.Ytodglgdenjjjgaa.ViM (c_rmerge ok_rmerge mgO mgP cmB)
open Go.Proofs.Ytodglgdenjjjgaa.SpQ (c_rforest ok_rforest rfB inR)
structure XZ where
  i : Int
def zQ (y : XZ) : Prop := y.i = 0
def zM (_ : XZ) : Nat := 0
def zR (k : Nat) (st : St) : XZ := ⟨slotI st k⟩
def emp (l : List E) : Bool := l.isEmpty
def emI (l : List Int) : Bool := l.isEmpty
/-- The name of the next epoch. -/
def afE (t l i : Int) : Int := if nodB i = true ∧ 0 ≤ t ∧ t ≤ 2147483647 ∧ 1 ≤ l ∧ l ≤ 2147483647 then (if t ≥ l then 10 else 0) else 1
def afN (t l i : Int) : Int := if afE t l i = 0 then t + 1 else 0
def afR (t l i : Int) : Int := if afE t l i = 0 then i else 0
theorem af_0 {t l i : Int} (h : afE t l i = 0) : stdBin .add .i64 t 1 = t + 1 ∧ nodB i = true ∧ 0 ≤ t ∧ t < l ∧ l ≤ 2147483647 := by
  unfold afE at h
  split at h
  · rename_i q
    split at h
    · cases h
    · exact ⟨by rw [b_add, wr _ (by omega) (by omega)], q.1, by omega, by omega, by omega⟩
  · cases h

structure As where
  a_ne : Int → Int → Int → Int
  a_nn : Int → Int → Int → Int
  a_nr : Int → Int → Int → Int
  a_em : List E → Bool
  a_lt : Int → Int → Bool
  a_v : List Int → List E → Bool
def As.std : As := ⟨afE, afN, afR, emp, fun a b => decide (a < b), fun n l => l.isEmpty && decide (n.length ≤ 70)⟩

def c_rafter (F : As) : Con := fun xs h => match xs, h with
  | [.one (.val (.int .i64 t)), .one (.val (.int .i64 l)), .one (.val (.int .i64 i))], [] => some ⟨True, .tup [.agg [.val (.int .i64 (F.a_nn t l i)), .val (.int .i64 (F.a_nr t l i))], I (F.a_ne t l i)], [], [Any, Any, Any]⟩
  | _, _ => none
set_option cbv.maxSteps 4000000 in
set_option maxHeartbeats 4000000 in
set_option maxRecDepth 100000 in
theorem x_rafter (t : Int) (l : Int) (i : Int) : Does [(30, c_rnode ViR.Vs.std)] Try.f61 [.one (.val (.int .i64 t)), .one (.val (.int .i64 l)), .one (.val (.int .i64 i))] [] ⟨True, .tup [.agg [.val (.int .i64 (As.std.a_nn t l i)), .val (.int .i64 (As.std.a_nr t l i))], I (As.std.a_ne t l i)], [], [Any, Any, Any]⟩ := by
  intro b gv
  have h0 := fun h => af_0 (t := t) (l := l) (i := i) h
  have hfs := (FsOk.cons ok_rnode FsOk.nil rfl)
  generalize hF : As.std = F at hfs ⊢
  generalize hG0 : ViR.Vs.std = G0 at hfs ⊢
  generalize hG1 : ViC.Vc.std = G1 at hfs ⊢
  generalize hG2 : ViQ.Vm.std = G2 at hfs ⊢
  generalize hG3 : SpQ.Sq.std = G3 at hfs ⊢
  generalize hA : Ar.std = A
  generalize hL : Lp _ _ _ = L
  obtain ⟨Z, zq⟩ := z_all
  refine cd_open (lp_mono hL) zq rfl ?_
  repeat' (first
    | (refine z_open zq ?_; try dsimp only)
    | refine cd_seq zq ?_ (lp_mono hL)
    | refine cd_blk zq ?_
    | refine cd_ret ?_
    | refine cd_skip ?_
    | refine cd_exit ?_
    | refine cd_loop ?_
    | refine cd_cond rfl ?_
    | refine cd_condT rfl ?_
    | refine cd_condF rfl ?_
    | (refine Cd.mk ?_; cbv)
    | (refine Ends1.mk ?_; cbv)
    | (refine Fin1.mk ?_; cbv)
    | exact trivial
    | refine And.intro ?_ ?_
    | refine orf fun _ => ?_
    | refine ort fun _ => ?_)
  all_goals
    clear hL zq Z
    try clear hfs
    subst hA hF hG0 hG1 hG2 hG3
    simp only [As.std, ViR.Vs.std, Ar.std] at *
    try (grind [stdCmp, afE, afN, afR])
theorem ok_rafter : ConOk Try.prog 61 (c_rafter As.std) := by
  refine con_of (FsOk.cons ok_rnode FsOk.nil rfl) Try.func61 rfl rfl fun xs h p hp => ?_
  unfold c_rafter at hp
  split at hp
  · cases hp
    exact ⟨lee_le rfl, fun _ _ => x_rafter _ _ _⟩
  · cases hp

def c_bd (F : As) : Con := fun xs h => match xs, h with
  | [.agg [.val (.int .i64 _), .val (.int .i64 _), .val (.int .i64 _), .val (.int .i64 _), .val (.int .i64 _), .sl none (.recs (.int .i64 (.int .i64 (.int .i64 (.int .i64 (.bool (.bool (.int .i64 .nil))))))) c_ties), .sl none (.ints .i64 _), .sl none (.ints .i64 _), .sl none (.recs (.int .i64 (.int .i64 (.int .i64 (.int .i64 (.bool .nil))))) _), .val (.int .i64 _), .sl none (.ints .i64 _), .sl none (.recs (.int .i64 (.int .i64 (.int .i64 (.int .i64 (.bool .nil))))) _), .val (.int .i64 _), .val (.bool _)], .one (.val (.int .i64 _))], [] => some ⟨F.a_em c_ties = true, .sa (.one (.sl none (.ints .i64 []))), [], [Any, Any]⟩
  | _, _ => none
set_option cbv.maxSteps 4000000 in
set_option maxHeartbeats 4000000 in
set_option maxRecDepth 100000 in
theorem x_bd (c_i : Int) (c_ee : Int) (c_er : Int) (c_t : Int) (c_p : Int) (c_ties : List E) (c_w : List Int) (c_gn : List Int) (c_gl : List E) (c_ph : Int) (c_tn : List Int) (c_tl : List E) (c_l : Int) (c_o : Bool) (x : Int) (hC : As.std.a_em c_ties = true) : Does [] Try.f71 [.agg [.val (.int .i64 c_i), .val (.int .i64 c_ee), .val (.int .i64 c_er), .val (.int .i64 c_t), .val (.int .i64 c_p), .sl none (.recs (.int .i64 (.int .i64 (.int .i64 (.int .i64 (.bool (.bool (.int .i64 .nil))))))) c_ties), .sl none (.ints .i64 c_w), .sl none (.ints .i64 c_gn), .sl none (.recs (.int .i64 (.int .i64 (.int .i64 (.int .i64 (.bool .nil))))) c_gl), .val (.int .i64 c_ph), .sl none (.ints .i64 c_tn), .sl none (.recs (.int .i64 (.int .i64 (.int .i64 (.int .i64 (.bool .nil))))) c_tl), .val (.int .i64 c_l), .val (.bool c_o)], .one (.val (.int .i64 x))] [] ⟨As.std.a_em c_ties = true, .sa (.one (.sl none (.ints .i64 []))), [], [Any, Any]⟩ := by
  intro b gv
  have hz_c_ties : c_ties = [] := List.isEmpty_iff.1 (show c_ties.isEmpty = true from by first | exact hC | exact hC.1)
  subst hz_c_ties
  have hfs := FsOk.nil
  generalize hF : As.std = F at hC hfs ⊢
  generalize hG0 : ViR.Vs.std = G0 at hC hfs ⊢
  generalize hG1 : ViC.Vc.std = G1 at hC hfs ⊢
  generalize hG2 : ViQ.Vm.std = G2 at hC hfs ⊢
  generalize hG3 : SpQ.Sq.std = G3 at hC hfs ⊢
  generalize hG4 : ViM.Vg.std = G4 at hC hfs ⊢
  generalize hA : Ar.std = A
  generalize hL : Lp _ _ _ = L
  obtain ⟨Z, zq⟩ := z_all
  refine cd_open (lp_mono hL) zq rfl ?_
  repeat' (first
    | (refine z_open zq ?_; try dsimp only)
    | refine cd_seq zq ?_ (lp_mono hL)
    | refine cd_blk zq ?_
    | refine cd_ret ?_
    | refine cd_skip ?_
    | refine cd_exit ?_
    | refine cd_loop ?_
    | refine cd_cond rfl ?_
    | refine cd_condT rfl ?_
    | refine cd_condF rfl ?_
    | (refine Cd.mk ?_; cbv)
    | (refine Ends1.mk ?_; cbv)
    | (refine Fin1.mk ?_; cbv)
    | exact trivial
    | refine And.intro ?_ ?_
    | refine orf fun _ => ?_
    | refine ort fun _ => ?_)
  subst hL
  refine loop_z (cx_ok hfs) (zQ) (fun y => stOf Try.f71.ntmps [(1, .val (.int .i64 x)), (2, .ptr 1 0), (5, .sl (some (2, 3)) (.ints .i64 [])), (6, .val (.int .i64 y.i))] [(1, .cells 46 [.val (.int .i64 c_i), .val (.int .i64 c_ee), .val (.int .i64 c_er), .val (.int .i64 c_t), .val (.int .i64 c_p), .sl none (.recs (.int .i64 (.int .i64 (.int .i64 (.int .i64 (.bool (.bool (.int .i64 .nil))))))) []), .sl none (.ints .i64 c_w), .sl none (.ints .i64 c_gn), .sl none (.recs (.int .i64 (.int .i64 (.int .i64 (.int .i64 (.bool .nil))))) c_gl), .val (.int .i64 c_ph), .sl none (.ints .i64 c_tn), .sl none (.recs (.int .i64 (.int .i64 (.int .i64 (.int .i64 (.bool .nil))))) c_tl), .val (.int .i64 c_l), .val (.bool c_o)]), (2, .tok)] [Any, Any]) (zM) (zR 6) ⟨0⟩ ?_ ?_ ?_
  · exact rfl
  · cbv
    repeat' (first | exact trivial | exact rfl | refine And.intro ?_ ?_)
  rintro ⟨i⟩ hq O hO
  have hi : i = 0 := hq
  subst hA
  generalize hA : Ar.std = A
  generalize hL : Lp _ _ _ = L
  refine cd_close zq ?_
  repeat' (first
    | (refine z_open zq ?_; try dsimp only)
    | refine cd_seq zq ?_ (lp_mono hL)
    | refine cd_blk zq ?_
    | refine cd_ret ?_
    | refine cd_skip ?_
    | refine cd_exit ?_
    | refine cd_loop ?_
    | refine cd_cond rfl ?_
    | refine cd_condT rfl ?_
    | refine cd_condF rfl ?_
    | (refine Cd.mk ?_; cbv)
    | (refine Ends1.mk ?_; cbv)
    | (refine Fin1.mk ?_; cbv)
    | exact trivial
    | refine And.intro ?_ ?_
    | refine orf fun _ => ?_
    | refine ort fun _ => ?_)
  all_goals (clear hL hfs zq Z hq; subst hA hF hG0 hG1 hG2 hG3 hG4 hO; simp only [As.std, Ar.std, List.nil_append] at * <;> grind [stdCmp]; done)
theorem ok_bd : ConOk Try.prog 71 (c_bd As.std) := by
  refine con_of FsOk.nil Try.func71 rfl rfl fun xs h p hp => ?_
  unfold c_bd at hp
  split at hp
  · cases hp
    exact ⟨lee_le rfl, fun hC _ => x_bd _ _ _ _ _ _ _ _ _ _ _ _ _ _ _ hC⟩
  · cases hp

def c_ow (F : As) : Con := fun xs h => match xs, h with
  | [.agg [.val (.int .i64 c_i), .val (.int .i64 _), .val (.int .i64 _), .val (.int .i64 _), .val (.int .i64 _), .sl none (.recs (.int .i64 (.int .i64 (.int .i64 (.int .i64 (.bool (.bool (.int .i64 .nil))))))) c_ties), .sl none (.ints .i64 _), .sl none (.ints .i64 _), .sl none (.recs (.int .i64 (.int .i64 (.int .i64 (.int .i64 (.bool .nil))))) _), .val (.int .i64 _), .sl none (.ints .i64 _), .sl none (.recs (.int .i64 (.int .i64 (.int .i64 (.int .i64 (.bool .nil))))) _), .val (.int .i64 _), .val (.bool _)]], [] => some ⟨F.a_em c_ties = true, .sa (.agg [.sl none (.ints .i64 [c_i]), .sl none (.recs (.int .i64 (.int .i64 (.int .i64 (.int .i64 (.bool .nil))))) [])]), [], [Any]⟩
  | _, _ => none
set_option cbv.maxSteps 4000000 in
set_option maxHeartbeats 4000000 in
set_option maxRecDepth 100000 in
theorem x_ow (c_i : Int) (c_ee : Int) (c_er : Int) (c_t : Int) (c_p : Int) (c_ties : List E) (c_w : List Int) (c_gn : List Int) (c_gl : List E) (c_ph : Int) (c_tn : List Int) (c_tl : List E) (c_l : Int) (c_o : Bool) (hC : As.std.a_em c_ties = true) : Does [] Try.f84 [.agg [.val (.int .i64 c_i), .val (.int .i64 c_ee), .val (.int .i64 c_er), .val (.int .i64 c_t), .val (.int .i64 c_p), .sl none (.recs (.int .i64 (.int .i64 (.int .i64 (.int .i64 (.bool (.bool (.int .i64 .nil))))))) c_ties), .sl none (.ints .i64 c_w), .sl none (.ints .i64 c_gn), .sl none (.recs (.int .i64 (.int .i64 (.int .i64 (.int .i64 (.bool .nil))))) c_gl), .val (.int .i64 c_ph), .sl none (.ints .i64 c_tn), .sl none (.recs (.int .i64 (.int .i64 (.int .i64 (.int .i64 (.bool .nil))))) c_tl), .val (.int .i64 c_l), .val (.bool c_o)]] [] ⟨As.std.a_em c_ties = true, .sa (.agg [.sl none (.ints .i64 [c_i]), .sl none (.recs (.int .i64 (.int .i64 (.int .i64 (.int .i64 (.bool .nil))))) [])]), [], [Any]⟩ := by
  intro b gv
  have hz_c_ties : c_ties = [] := List.isEmpty_iff.1 (show c_ties.isEmpty = true from by first | exact hC | exact hC.1)
  subst hz_c_ties
  have hfs := FsOk.nil
  generalize hF : As.std = F at hC hfs ⊢
  generalize hG0 : ViR.Vs.std = G0 at hC hfs ⊢
  generalize hG1 : ViC.Vc.std = G1 at hC hfs ⊢
  generalize hG2 : ViQ.Vm.std = G2 at hC hfs ⊢
  generalize hG3 : SpQ.Sq.std = G3 at hC hfs ⊢
  generalize hG4 : ViM.Vg.std = G4 at hC hfs ⊢
  generalize hA : Ar.std = A
  generalize hL : Lp _ _ _ = L
  obtain ⟨Z, zq⟩ := z_all
  refine cd_open (lp_mono hL) zq rfl ?_
  repeat' (first
    | (refine z_open zq ?_; try dsimp only)
    | refine cd_seq zq ?_ (lp_mono hL)
    | refine cd_blk zq ?_
    | refine cd_ret ?_
    | refine cd_skip ?_
    | refine cd_exit ?_
    | refine cd_loop ?_
    | refine cd_cond rfl ?_
    | refine cd_condT rfl ?_
    | refine cd_condF rfl ?_
    | (refine Cd.mk ?_; cbv)
    | (refine Ends1.mk ?_; cbv)
    | (refine Fin1.mk ?_; cbv)
    | exact trivial
    | refine And.intro ?_ ?_
    | refine orf fun _ => ?_
    | refine ort fun _ => ?_)
  subst hL
  refine loop_z (cx_ok hfs) (zQ) (fun y => stOf Try.f84.ntmps [(1, .ptr 1 0), (2, .ptr 2 0), (3, .ptr 3 0), (4, .val (.int .i64 y.i))] [(1, .cells 46 [.val (.int .i64 c_i), .val (.int .i64 c_ee), .val (.int .i64 c_er), .val (.int .i64 c_t), .val (.int .i64 c_p), .sl none (.recs (.int .i64 (.int .i64 (.int .i64 (.int .i64 (.bool (.bool (.int .i64 .nil))))))) []), .sl none (.ints .i64 c_w), .sl none (.ints .i64 c_gn), .sl none (.recs (.int .i64 (.int .i64 (.int .i64 (.int .i64 (.bool .nil))))) c_gl), .val (.int .i64 c_ph), .sl none (.ints .i64 c_tn), .sl none (.recs (.int .i64 (.int .i64 (.int .i64 (.int .i64 (.bool .nil))))) c_tl), .val (.int .i64 c_l), .val (.bool c_o)]), (2, .cells 25 [.val (.slice none 0 0), .val (.slice none 0 0)]), (3, .cells 25 [.sl (some (4, 3)) (.ints .i64 [c_i]), .val (.slice none 0 0)]), (4, .tok)] [Any]) (zM) (zR 4) ⟨0⟩ ?_ ?_ ?_
  · exact rfl
  · cbv
    repeat' (first | exact trivial | exact rfl | refine And.intro ?_ ?_)
  rintro ⟨i⟩ hq O hO
  have hi : i = 0 := hq
  subst hA
  generalize hA : Ar.std = A
  generalize hL : Lp _ _ _ = L
  refine cd_close zq ?_
  repeat' (first
    | (refine z_open zq ?_; try dsimp only)
    | refine cd_seq zq ?_ (lp_mono hL)
    | refine cd_blk zq ?_
    | refine cd_ret ?_
    | refine cd_skip ?_
    | refine cd_exit ?_
    | refine cd_loop ?_
    | refine cd_cond rfl ?_
    | refine cd_condT rfl ?_
    | refine cd_condF rfl ?_
    | (refine Cd.mk ?_; cbv)
    | (refine Ends1.mk ?_; cbv)
    | (refine Fin1.mk ?_; cbv)
    | exact trivial
    | refine And.intro ?_ ?_
    | refine orf fun _ => ?_
    | refine ort fun _ => ?_)
  all_goals (clear hL hfs zq Z hq; subst hA hF hG0 hG1 hG2 hG3 hG4 hO; simp only [As.std, Ar.std, List.nil_append] at * <;> grind [stdCmp]; done)
theorem ok_ow : ConOk Try.prog 84 (c_ow As.std) := by
  refine con_of FsOk.nil Try.func84 rfl rfl fun xs h p hp => ?_
  unfold c_ow at hp
  split at hp
  · cases hp
    exact ⟨lee_le rfl, fun hC _ => x_ow _ _ _ _ _ _ _ _ _ _ _ _ _ _ hC⟩
  · cases hp

def c_fi (F : As) : Con := fun xs h => match xs, h with
  | [.one (.sl none (.recs (.int .i64 (.int .i64 (.int .i64 (.int .i64 (.bool .nil))))) l))], [] => some ⟨F.a_em l = true, .sa (.one (.val (.int .i64 (-1)))), [], [Any]⟩
  | _, _ => none
set_option cbv.maxSteps 4000000 in
set_option maxHeartbeats 4000000 in
set_option maxRecDepth 100000 in
theorem x_fi (l : List E) (hC : As.std.a_em l = true) : Does [] Try.f96 [.one (.sl none (.recs (.int .i64 (.int .i64 (.int .i64 (.int .i64 (.bool .nil))))) l))] [] ⟨As.std.a_em l = true, .sa (.one (.val (.int .i64 (-1)))), [], [Any]⟩ := by
  intro b gv
  have hz_l : l = [] := List.isEmpty_iff.1 (show l.isEmpty = true from by first | exact hC | exact hC.1)
  subst hz_l
  have hfs := FsOk.nil
  generalize hF : As.std = F at hC hfs ⊢
  generalize hG0 : ViR.Vs.std = G0 at hC hfs ⊢
  generalize hG1 : ViC.Vc.std = G1 at hC hfs ⊢
  generalize hG2 : ViQ.Vm.std = G2 at hC hfs ⊢
  generalize hG3 : SpQ.Sq.std = G3 at hC hfs ⊢
  generalize hG4 : ViM.Vg.std = G4 at hC hfs ⊢
  generalize hA : Ar.std = A
  generalize hL : Lp _ _ _ = L
  obtain ⟨Z, zq⟩ := z_all
  refine cd_open (lp_mono hL) zq rfl ?_
  repeat' (first
    | (refine z_open zq ?_; try dsimp only)
    | refine cd_seq zq ?_ (lp_mono hL)
    | refine cd_blk zq ?_
    | refine cd_ret ?_
    | refine cd_skip ?_
    | refine cd_exit ?_
    | refine cd_loop ?_
    | refine cd_cond rfl ?_
    | refine cd_condT rfl ?_
    | refine cd_condF rfl ?_
    | (refine Cd.mk ?_; cbv)
    | (refine Ends1.mk ?_; cbv)
    | (refine Fin1.mk ?_; cbv)
    | exact trivial
    | refine And.intro ?_ ?_
    | refine orf fun _ => ?_
    | refine ort fun _ => ?_)
  subst hL
  refine loop_z (cx_ok hfs) (zQ) (fun y => stOf Try.f96.ntmps [(0, .sl none (.recs (.int .i64 (.int .i64 (.int .i64 (.int .i64 (.bool .nil))))) [])), (3, .num .i64 (-1)), (4, .val (.int .i64 y.i))] [] [Any]) (zM) (zR 4) ⟨0⟩ ?_ ?_ ?_
  · exact rfl
  · cbv
    repeat' (first | exact trivial | exact rfl | refine And.intro ?_ ?_)
  rintro ⟨i⟩ hq O hO
  have hi : i = 0 := hq
  subst hA
  generalize hA : Ar.std = A
  generalize hL : Lp _ _ _ = L
  refine cd_close zq ?_
  repeat' (first
    | (refine z_open zq ?_; try dsimp only)
    | refine cd_seq zq ?_ (lp_mono hL)
    | refine cd_blk zq ?_
    | refine cd_ret ?_
    | refine cd_skip ?_
    | refine cd_exit ?_
    | refine cd_loop ?_
    | refine cd_cond rfl ?_
    | refine cd_condT rfl ?_
    | refine cd_condF rfl ?_
    | (refine Cd.mk ?_; cbv)
    | (refine Ends1.mk ?_; cbv)
    | (refine Fin1.mk ?_; cbv)
    | exact trivial
    | refine And.intro ?_ ?_
    | refine orf fun _ => ?_
    | refine ort fun _ => ?_)
  all_goals (clear hL hfs zq Z hq; subst hA hF hG0 hG1 hG2 hG3 hG4 hO; simp only [As.std, Ar.std] at * <;> grind [stdCmp]; done)
theorem ok_fi : ConOk Try.prog 96 (c_fi As.std) := by
  refine con_of FsOk.nil Try.func96 rfl rfl fun xs h p hp => ?_
  unfold c_fi at hp
  split at hp
  · cases hp
    exact ⟨lee_le rfl, fun hC _ => x_fi _ hC⟩
  · cases hp

open Go.Proofs.Ytodglgdenjjjgaa.ViQ (c_redge ok_redge)
open Go.Proofs.Ytodglgdenjjjgaa.ViL (ouF boF)
theorem z_in : rinF [] = [] := rfl
theorem z_bo : boF [] = [] := rfl
theorem z_ou (n : List Int) : ouF n [] = [] := rfl

def c_ch10 (F : As) : Con := fun xs h => match xs, h with
  | [.agg [.sl none (.ints .i64 v_n), .sl none (.recs (.int .i64 (.int .i64 (.int .i64 (.int .i64 (.bool .nil))))) v_l)]], [] => some ⟨F.a_v v_n v_l = true, .sa (.agg [.val (.int .i64 1), .val (.int .i64 0), .val (.int .i64 0), .val (.int .i64 0)]), [], [Any]⟩
  | _, _ => none
set_option cbv.maxSteps 4000000 in
set_option maxHeartbeats 4000000 in
set_option maxRecDepth 100000 in
theorem x_ch10 (v_n : List Int) (v_l : List E) (hC : As.std.a_v v_n v_l = true) : Does [(36, c_rinner ViQ.Vm.std), (17, c_rbound ViQ.Vm.std), (37, c_redge ViQ.Vm.std), (96, c_fi As.std), (97, c_router ViQ.Vm.std)] Try.f87 [.agg [.sl none (.ints .i64 v_n), .sl none (.recs (.int .i64 (.int .i64 (.int .i64 (.int .i64 (.bool .nil))))) v_l)]] [] ⟨As.std.a_v v_n v_l = true, .sa (.agg [.val (.int .i64 1), .val (.int .i64 0), .val (.int .i64 0), .val (.int .i64 0)]), [], [Any]⟩ := by
  intro b gv
  have hc : (v_l.isEmpty && decide (v_n.length ≤ 70)) = true := hC
  rw [Bool.and_eq_true, List.isEmpty_iff, decide_eq_true_eq] at hc
  obtain ⟨hz, hk⟩ := hc
  subst hz
  have z1 := z_in
  have z2 := z_bo
  have z3 := z_ou v_n
  have z4 : emp [] = true := rfl
  have hfs := (FsOk.cons ok_rinner (FsOk.cons ok_rbound (FsOk.cons ok_redge (FsOk.cons ok_fi (FsOk.cons ok_router FsOk.nil rfl) rfl) rfl) rfl) rfl)
  generalize hF : As.std = F at hC hfs ⊢
  generalize hG0 : ViR.Vs.std = G0 at hC hfs ⊢
  generalize hG1 : ViC.Vc.std = G1 at hC hfs ⊢
  generalize hG2 : ViQ.Vm.std = G2 at hC hfs ⊢
  generalize hG3 : SpQ.Sq.std = G3 at hC hfs ⊢
  generalize hG4 : ViM.Vg.std = G4 at hC hfs ⊢
  generalize hA : Ar.std = A
  generalize hL : Lp _ _ _ = L
  obtain ⟨Z, zq⟩ := z_all
  refine cd_open (lp_mono hL) zq rfl ?_
  repeat' (first
    | (refine z_open zq ?_; try dsimp only)
    | refine cd_seq zq ?_ (lp_mono hL)
    | refine cd_blk zq ?_
    | refine cd_ret ?_
    | refine cd_skip ?_
    | refine cd_exit ?_
    | refine cd_loop ?_
    | refine cd_cond rfl ?_
    | refine cd_condT rfl ?_
    | refine cd_condF rfl ?_
    | (refine Cd.mk ?_; cbv)
    | (refine Ends1.mk ?_; cbv)
    | (refine Fin1.mk ?_; cbv)
    | exact trivial
    | refine And.intro ?_ ?_
    | refine orf fun _ => ?_
    | refine ort fun _ => ?_)
  all_goals first | (exfalso; clear hL hfs zq Z; subst hA hF hG0 hG1 hG2 hG3 hG4; simp only [As.std] at * <;> grind [stdCmp]; done) | (show L _ _ _; skip) | (clear hL hfs zq Z; subst hA hF hG0 hG1 hG2 hG3 hG4; simp only [As.std, ViQ.Vm.std] at * <;> grind [stdCmp]; done)
  subst hL
  refine loop_z (cx_ok hfs) (zQ) (fun y => stOf Try.f87.ntmps [(1, .ptr 1 0), (2, .ptr 2 0), (3, .sl none (.recs (.int .i64 (.int .i64 (.int .i64 (.int .i64 (.bool .nil))))) (G2.m_in []))), (4, .sl none (.recs (.int .i64 (.int .i64 (.int .i64 .nil))) (G2.m_bo []))), (5, .sl (some (3, 68)) (.recs (.int .i64 (.int .i64 (.int .i64 (.int .i64 (.bool .nil))))) [])), (6, .val (.int .i64 y.i))] [(1, .cells 25 [.sl none (.ints .i64 v_n), .sl none (.recs (.int .i64 (.int .i64 (.int .i64 (.int .i64 (.bool .nil))))) [])]), (2, .cells 112 [.num .i64 0, .num .i64 0, .num .i64 0, .num .i64 0]), (3, .tok)] [Any]) (zM) (zR 6) ⟨0⟩ ?_ ?_ ?_
  · exact rfl
  · cbv
    repeat' (first | exact trivial | exact rfl | refine And.intro ?_ ?_)
  rintro ⟨i⟩ hq O hO
  have hi : i = 0 := hq
  subst hA
  generalize hA : Ar.std = A
  generalize hL : Lp _ _ _ = L
  refine cd_close zq ?_
  repeat' (first
    | (refine z_open zq ?_; try dsimp only)
    | refine cd_seq zq ?_ (lp_mono hL)
    | refine cd_blk zq ?_
    | refine cd_ret ?_
    | refine cd_skip ?_
    | refine cd_exit ?_
    | refine cd_loop ?_
    | refine cd_cond rfl ?_
    | refine cd_condT rfl ?_
    | refine cd_condF rfl ?_
    | (refine Cd.mk ?_; cbv)
    | (refine Ends1.mk ?_; cbv)
    | (refine Fin1.mk ?_; cbv)
    | exact trivial
    | refine And.intro ?_ ?_
    | refine orf fun _ => ?_
    | refine ort fun _ => ?_)
  all_goals first | (exfalso; clear hL hfs zq Z hq; subst hA hF hG0 hG1 hG2 hG3 hG4 hO; simp only [As.std, ViQ.Vm.std, Ar.std] at * <;> grind [stdCmp]; done) | (clear hL hfs zq Z hq; subst hA hF hG0 hG1 hG2 hG3 hG4 hO; simp only [As.std, ViQ.Vm.std, Ar.std] at * <;> grind [stdCmp]; done)
theorem ok_ch10 : ConOk Try.prog 87 (c_ch10 As.std) := by
  refine con_of (FsOk.cons ok_rinner (FsOk.cons ok_rbound (FsOk.cons ok_redge (FsOk.cons ok_fi (FsOk.cons ok_router FsOk.nil rfl) rfl) rfl) rfl) rfl) Try.func87 rfl rfl fun xs h p hp => ?_
  unfold c_ch10 at hp
  split at hp
  · cases hp
    exact ⟨lee_le rfl, fun hC _ => x_ch10 _ _ hC⟩
  · cases hp

def c_cho (F : As) : Con := fun xs h => match xs, h with
  | [.agg [.val (.int .i64 s_i), .val (.int .i64 s_ee), .val (.int .i64 s_er), .val (.int .i64 s_t), .val (.int .i64 s_p), .sl none (.recs (.int .i64 (.int .i64 (.int .i64 (.int .i64 (.bool (.bool (.int .i64 .nil))))))) s_ties), .sl none (.ints .i64 s_w), .sl none (.ints .i64 s_gn), .sl none (.recs (.int .i64 (.int .i64 (.int .i64 (.int .i64 (.bool .nil))))) s_gl), .val (.int .i64 _), .sl none (.ints .i64 _), .sl none (.recs (.int .i64 (.int .i64 (.int .i64 (.int .i64 (.bool .nil))))) _), .val (.int .i64 s_l), .val (.bool s_o), .sl none (.recs (.int .i64 (.int .i64 (.int .i64 (.int .i64 (.ints .i64 (.recs (.int .i64 (.int .i64 (.int .i64 (.int .i64 (.bool .nil))))) (.int .i64 (.int .i64 (.int .i64 (.int .i64 .nil)))))))))) s_out)], .agg [.val (.int .i64 c_k), .val (.int .i64 _), .val (.int .i64 _), .val (.int .i64 _)], .agg [.sl none (.ints .i64 v_n), .sl none (.recs (.int .i64 (.int .i64 (.int .i64 (.int .i64 (.bool .nil))))) v_l)]], [] => some ⟨F.a_em s_ties = true ∧ c_k = 1, .sa (.agg [.val (.int .i64 s_i), .val (.int .i64 s_ee), .val (.int .i64 s_er), .val (.int .i64 s_t), .val (.int .i64 s_p), .sl none (.recs (.int .i64 (.int .i64 (.int .i64 (.int .i64 (.bool (.bool (.int .i64 .nil))))))) s_ties), .sl none (.ints .i64 s_w), .sl none (.ints .i64 s_gn), .sl none (.recs (.int .i64 (.int .i64 (.int .i64 (.int .i64 (.bool .nil))))) s_gl), .val (.int .i64 4), .sl none (.ints .i64 v_n), .sl none (.recs (.int .i64 (.int .i64 (.int .i64 (.int .i64 (.bool .nil))))) v_l), .val (.int .i64 s_l), .val (.bool s_o), .sl none (.recs (.int .i64 (.int .i64 (.int .i64 (.int .i64 (.ints .i64 (.recs (.int .i64 (.int .i64 (.int .i64 (.int .i64 (.bool .nil))))) (.int .i64 (.int .i64 (.int .i64 (.int .i64 .nil)))))))))) s_out)]), [], [Any, Any, Any]⟩
  | _, _ => none
set_option cbv.maxSteps 4000000 in
set_option maxHeartbeats 4000000 in
set_option maxRecDepth 100000 in
theorem x_cho (s_i : Int) (s_ee : Int) (s_er : Int) (s_t : Int) (s_p : Int) (s_ties : List E) (s_w : List Int) (s_gn : List Int) (s_gl : List E) (s_ph : Int) (s_tn : List Int) (s_tl : List E) (s_l : Int) (s_o : Bool) (s_out : List E) (c_k : Int) (c_a : Int) (c_b : Int) (c_s : Int) (v_n : List Int) (v_l : List E) (hC : As.std.a_em s_ties = true ∧ c_k = 1) : Does [(71, c_bd As.std)] Try.f86 [.agg [.val (.int .i64 s_i), .val (.int .i64 s_ee), .val (.int .i64 s_er), .val (.int .i64 s_t), .val (.int .i64 s_p), .sl none (.recs (.int .i64 (.int .i64 (.int .i64 (.int .i64 (.bool (.bool (.int .i64 .nil))))))) s_ties), .sl none (.ints .i64 s_w), .sl none (.ints .i64 s_gn), .sl none (.recs (.int .i64 (.int .i64 (.int .i64 (.int .i64 (.bool .nil))))) s_gl), .val (.int .i64 s_ph), .sl none (.ints .i64 s_tn), .sl none (.recs (.int .i64 (.int .i64 (.int .i64 (.int .i64 (.bool .nil))))) s_tl), .val (.int .i64 s_l), .val (.bool s_o), .sl none (.recs (.int .i64 (.int .i64 (.int .i64 (.int .i64 (.ints .i64 (.recs (.int .i64 (.int .i64 (.int .i64 (.int .i64 (.bool .nil))))) (.int .i64 (.int .i64 (.int .i64 (.int .i64 .nil)))))))))) s_out)], .agg [.val (.int .i64 c_k), .val (.int .i64 c_a), .val (.int .i64 c_b), .val (.int .i64 c_s)], .agg [.sl none (.ints .i64 v_n), .sl none (.recs (.int .i64 (.int .i64 (.int .i64 (.int .i64 (.bool .nil))))) v_l)]] [] ⟨As.std.a_em s_ties = true ∧ c_k = 1, .sa (.agg [.val (.int .i64 s_i), .val (.int .i64 s_ee), .val (.int .i64 s_er), .val (.int .i64 s_t), .val (.int .i64 s_p), .sl none (.recs (.int .i64 (.int .i64 (.int .i64 (.int .i64 (.bool (.bool (.int .i64 .nil))))))) s_ties), .sl none (.ints .i64 s_w), .sl none (.ints .i64 s_gn), .sl none (.recs (.int .i64 (.int .i64 (.int .i64 (.int .i64 (.bool .nil))))) s_gl), .val (.int .i64 4), .sl none (.ints .i64 v_n), .sl none (.recs (.int .i64 (.int .i64 (.int .i64 (.int .i64 (.bool .nil))))) v_l), .val (.int .i64 s_l), .val (.bool s_o), .sl none (.recs (.int .i64 (.int .i64 (.int .i64 (.int .i64 (.ints .i64 (.recs (.int .i64 (.int .i64 (.int .i64 (.int .i64 (.bool .nil))))) (.int .i64 (.int .i64 (.int .i64 (.int .i64 .nil)))))))))) s_out)]), [], [Any, Any, Any]⟩ := by
  intro b gv
  have hz_s_ties : s_ties = [] := List.isEmpty_iff.1 (show s_ties.isEmpty = true from by first | exact hC | exact hC.1)
  subst hz_s_ties
  have hck : c_k = 1 := hC.2
  subst hck
  have z4 : emp [] = true := rfl
  have hfs := (FsOk.cons ok_bd FsOk.nil rfl)
  generalize hF : As.std = F at hC hfs ⊢
  generalize hG0 : ViR.Vs.std = G0 at hC hfs ⊢
  generalize hG1 : ViC.Vc.std = G1 at hC hfs ⊢
  generalize hG2 : ViQ.Vm.std = G2 at hC hfs ⊢
  generalize hG3 : SpQ.Sq.std = G3 at hC hfs ⊢
  generalize hG4 : ViM.Vg.std = G4 at hC hfs ⊢
  generalize hA : Ar.std = A
  generalize hL : Lp _ _ _ = L
  obtain ⟨Z, zq⟩ := z_all
  refine cd_open (lp_mono hL) zq rfl ?_
  repeat' (first
    | (refine z_open zq ?_; try dsimp only)
    | refine cd_seq zq ?_ (lp_mono hL)
    | refine cd_blk zq ?_
    | refine cd_ret ?_
    | refine cd_skip ?_
    | refine cd_exit ?_
    | refine cd_loop ?_
    | refine cd_cond rfl ?_
    | refine cd_condT rfl ?_
    | refine cd_condF rfl ?_
    | (refine Cd.mk ?_; cbv)
    | (refine Ends1.mk ?_; cbv)
    | (refine Fin1.mk ?_; cbv)
    | exact trivial
    | refine And.intro ?_ ?_
    | refine orf fun _ => ?_
    | refine ort fun _ => ?_)
  all_goals first | (exfalso; clear hL hfs zq Z; subst hA hF hG0 hG1 hG2 hG3 hG4; simp only [As.std, Ar.std] at * <;> grind [stdCmp]; done) | (show L _ _ _; skip) | (clear hL hfs zq Z; subst hA hF hG0 hG1 hG2 hG3 hG4; simp only [As.std, Ar.std] at * <;> grind [stdCmp]; done)
  subst hL
  refine loop_z (cx_ok hfs) (zQ) (fun y => stOf Try.f86.ntmps [(3, .ptr 1 0), (4, .ptr 2 0), (5, .ptr 3 0), (6, .ptr 4 0), (7, .ptr 5 0), (8, .sl none (.ints .i64 [])), (9, .val (.int .i64 y.i))] [(1, .cells 86 [.val (.int .i64 s_i), .val (.int .i64 s_ee), .val (.int .i64 s_er), .val (.int .i64 s_t), .val (.int .i64 s_p), .sl none (.recs (.int .i64 (.int .i64 (.int .i64 (.int .i64 (.bool (.bool (.int .i64 .nil))))))) []), .sl none (.ints .i64 s_w), .sl none (.ints .i64 s_gn), .sl none (.recs (.int .i64 (.int .i64 (.int .i64 (.int .i64 (.bool .nil))))) s_gl), .val (.int .i64 s_ph), .sl none (.ints .i64 s_tn), .sl none (.recs (.int .i64 (.int .i64 (.int .i64 (.int .i64 (.bool .nil))))) s_tl), .val (.int .i64 s_l), .val (.bool s_o), .sl none (.recs (.int .i64 (.int .i64 (.int .i64 (.int .i64 (.ints .i64 (.recs (.int .i64 (.int .i64 (.int .i64 (.int .i64 (.bool .nil))))) (.int .i64 (.int .i64 (.int .i64 (.int .i64 .nil)))))))))) s_out)]), (2, .cells 112 [.val (.int .i64 1), .val (.int .i64 c_a), .val (.int .i64 c_b), .val (.int .i64 c_s)]), (3, .cells 25 [.sl none (.ints .i64 v_n), .sl none (.recs (.int .i64 (.int .i64 (.int .i64 (.int .i64 (.bool .nil))))) v_l)]), (4, .cells 86 [.num .i64 0, .num .i64 0, .num .i64 0, .num .i64 0, .num .i64 0, .val (.slice none 0 0), .val (.slice none 0 0), .val (.slice none 0 0), .val (.slice none 0 0), .num .i64 0, .val (.slice none 0 0), .val (.slice none 0 0), .num .i64 0, .tf false, .val (.slice none 0 0)]), (5, .cells 114 [.num .i64 3, .val (.int .i64 s_ee), .val (.int .i64 s_er), .sl none (.ints .i64 v_n), .sl none (.recs (.int .i64 (.int .i64 (.int .i64 (.int .i64 (.bool .nil))))) v_l), .val (.int .i64 1), .val (.int .i64 c_a), .val (.int .i64 c_b), .val (.int .i64 c_s)])] [Any, Any, Any]) (zM) (zR 9) ⟨0⟩ ?_ ?_ ?_
  · exact rfl
  · cbv
    repeat' (first | exact trivial | exact rfl | refine And.intro ?_ ?_)
  rintro ⟨i⟩ hq O hO
  have hi : i = 0 := hq
  subst hA
  generalize hA : Ar.std = A
  generalize hL : Lp _ _ _ = L
  refine cd_close zq ?_
  repeat' (first
    | (refine z_open zq ?_; try dsimp only)
    | refine cd_seq zq ?_ (lp_mono hL)
    | refine cd_blk zq ?_
    | refine cd_ret ?_
    | refine cd_skip ?_
    | refine cd_exit ?_
    | refine cd_loop ?_
    | refine cd_cond rfl ?_
    | refine cd_condT rfl ?_
    | refine cd_condF rfl ?_
    | (refine Cd.mk ?_; cbv)
    | (refine Ends1.mk ?_; cbv)
    | (refine Fin1.mk ?_; cbv)
    | exact trivial
    | refine And.intro ?_ ?_
    | refine orf fun _ => ?_
    | refine ort fun _ => ?_)
  all_goals first | (exfalso; clear hL hfs zq Z hq; subst hA hF hG0 hG1 hG2 hG3 hG4 hO; simp only [As.std, Ar.std] at * <;> grind [stdCmp]; done) | (clear hL hfs zq Z hq; subst hA hF hG0 hG1 hG2 hG3 hG4 hO; simp only [As.std, ViR.Vs.std, ViC.Vc.std, ViQ.Vm.std, SpQ.Sq.std, ViM.Vg.std, Ar.std, List.nil_append] at * <;> grind [stdCmp]; done)
theorem ok_cho : ConOk Try.prog 86 (c_cho As.std) := by
  refine con_of (FsOk.cons ok_bd FsOk.nil rfl) Try.func86 rfl rfl fun xs h p hp => ?_
  unfold c_cho at hp
  split at hp
  · cases hp
    exact ⟨lee_le rfl, fun hC _ => x_cho _ _ _ _ _ _ _ _ _ _ _ _ _ _ _ _ _ _ _ _ _ hC⟩
  · cases hp


theorem z_mn : mgO [3] [] = [3] := by decide +kernel
theorem z_ml : mgP [3] [] [] [] = [] := by decide +kernel
theorem z_cm : cmB [3] [] = false := by decide +kernel
theorem z_fo : rfB [] = true := by decide +kernel
theorem z_ir : inR [] = true := by decide +kernel
theorem z_v3 : (([] : List E).isEmpty && decide (([3] : List Int).length ≤ 70)) = true := by decide +kernel

def c_sett (F : As) : Con := fun xs h => match xs, h with
  | [.agg [.val (.int .i64 s_i), .val (.int .i64 s_ee), .val (.int .i64 s_er), .val (.int .i64 s_t), .val (.int .i64 s_p), .sl none (.recs (.int .i64 (.int .i64 (.int .i64 (.int .i64 (.bool (.bool (.int .i64 .nil))))))) s_ties), .sl none (.ints .i64 s_w), .sl none (.ints .i64 s_gn), .sl none (.recs (.int .i64 (.int .i64 (.int .i64 (.int .i64 (.bool .nil))))) s_gl), .val (.int .i64 s_ph), .sl none (.ints .i64 _), .sl none (.recs (.int .i64 (.int .i64 (.int .i64 (.int .i64 (.bool .nil))))) _), .val (.int .i64 s_l), .val (.bool s_o), .sl none (.recs (.int .i64 (.int .i64 (.int .i64 (.int .i64 (.ints .i64 (.recs (.int .i64 (.int .i64 (.int .i64 (.int .i64 (.bool .nil))))) (.int .i64 (.int .i64 (.int .i64 (.int .i64 .nil)))))))))) s_out)]], [] => some ⟨F.a_em s_ties = true ∧ s_i = 3 ∧ s_w = [] ∧ s_ph = 1 ∧ s_p = 0 ∧ s_gn = [] ∧ s_gl = [], .sa (.agg [.val (.int .i64 3), .val (.int .i64 s_ee), .val (.int .i64 s_er), .val (.int .i64 s_t), .val (.int .i64 0), .sl none (.recs (.int .i64 (.int .i64 (.int .i64 (.int .i64 (.bool (.bool (.int .i64 .nil))))))) []), .sl none (.ints .i64 []), .sl none (.ints .i64 []), .sl none (.recs (.int .i64 (.int .i64 (.int .i64 (.int .i64 (.bool .nil))))) []), .val (.int .i64 4), .sl none (.ints .i64 [3]), .sl none (.recs (.int .i64 (.int .i64 (.int .i64 (.int .i64 (.bool .nil))))) []), .val (.int .i64 s_l), .val (.bool s_o), .sl none (.recs (.int .i64 (.int .i64 (.int .i64 (.int .i64 (.ints .i64 (.recs (.int .i64 (.int .i64 (.int .i64 (.int .i64 (.bool .nil))))) (.int .i64 (.int .i64 (.int .i64 (.int .i64 .nil)))))))))) s_out)]), [], [Any]⟩
  | _, _ => none
set_option cbv.maxSteps 4000000 in
set_option maxHeartbeats 4000000 in
set_option maxRecDepth 100000 in
theorem x_sett (s_i : Int) (s_ee : Int) (s_er : Int) (s_t : Int) (s_p : Int) (s_ties : List E) (s_w : List Int) (s_gn : List Int) (s_gl : List E) (s_ph : Int) (s_tn : List Int) (s_tl : List E) (s_l : Int) (s_o : Bool) (s_out : List E) (hC : As.std.a_em s_ties = true ∧ s_i = 3 ∧ s_w = [] ∧ s_ph = 1 ∧ s_p = 0 ∧ s_gn = [] ∧ s_gl = []) : Does [(84, c_ow As.std), (85, c_rmerge ViM.Vg.std), (34, c_vmay ViC.Vc.std), (17, c_rbound ViQ.Vm.std), (35, c_rforest SpQ.Sq.std), (87, c_ch10 As.std), (86, c_cho As.std)] Try.f76 [.agg [.val (.int .i64 s_i), .val (.int .i64 s_ee), .val (.int .i64 s_er), .val (.int .i64 s_t), .val (.int .i64 s_p), .sl none (.recs (.int .i64 (.int .i64 (.int .i64 (.int .i64 (.bool (.bool (.int .i64 .nil))))))) s_ties), .sl none (.ints .i64 s_w), .sl none (.ints .i64 s_gn), .sl none (.recs (.int .i64 (.int .i64 (.int .i64 (.int .i64 (.bool .nil))))) s_gl), .val (.int .i64 s_ph), .sl none (.ints .i64 s_tn), .sl none (.recs (.int .i64 (.int .i64 (.int .i64 (.int .i64 (.bool .nil))))) s_tl), .val (.int .i64 s_l), .val (.bool s_o), .sl none (.recs (.int .i64 (.int .i64 (.int .i64 (.int .i64 (.ints .i64 (.recs (.int .i64 (.int .i64 (.int .i64 (.int .i64 (.bool .nil))))) (.int .i64 (.int .i64 (.int .i64 (.int .i64 .nil)))))))))) s_out)]] [] ⟨As.std.a_em s_ties = true ∧ s_i = 3 ∧ s_w = [] ∧ s_ph = 1 ∧ s_p = 0 ∧ s_gn = [] ∧ s_gl = [], .sa (.agg [.val (.int .i64 3), .val (.int .i64 s_ee), .val (.int .i64 s_er), .val (.int .i64 s_t), .val (.int .i64 0), .sl none (.recs (.int .i64 (.int .i64 (.int .i64 (.int .i64 (.bool (.bool (.int .i64 .nil))))))) []), .sl none (.ints .i64 []), .sl none (.ints .i64 []), .sl none (.recs (.int .i64 (.int .i64 (.int .i64 (.int .i64 (.bool .nil))))) []), .val (.int .i64 4), .sl none (.ints .i64 [3]), .sl none (.recs (.int .i64 (.int .i64 (.int .i64 (.int .i64 (.bool .nil))))) []), .val (.int .i64 s_l), .val (.bool s_o), .sl none (.recs (.int .i64 (.int .i64 (.int .i64 (.int .i64 (.ints .i64 (.recs (.int .i64 (.int .i64 (.int .i64 (.int .i64 (.bool .nil))))) (.int .i64 (.int .i64 (.int .i64 (.int .i64 .nil)))))))))) s_out)]), [], [Any]⟩ := by
  intro b gv
  have hz_s_ties : s_ties = [] := List.isEmpty_iff.1 (show s_ties.isEmpty = true from by first | exact hC | exact hC.1)
  subst hz_s_ties
  obtain ⟨_, h1, h2, h3, h4, h5, h6⟩ := hC
  subst h1 h2 h3 h4 h5 h6
  have hC : True := trivial
  have z1 := z_in
  have z2 := z_bo
  have z4 : emp [] = true := rfl
  have z5 := z_mn
  have z6 := z_ml
  have z7 := z_cm
  have z8 := z_fo
  have z9 := z_ir
  have z10 := z_v3
  have hfs := (FsOk.cons ok_ow (FsOk.cons ok_rmerge (FsOk.cons ok_vmay (FsOk.cons ok_rbound (FsOk.cons ok_rforest (FsOk.cons ok_ch10 (FsOk.cons ok_cho FsOk.nil rfl) rfl) rfl) rfl) rfl) rfl) rfl)
  generalize hF : As.std = F at hC hfs ⊢
  generalize hG0 : ViR.Vs.std = G0 at hC hfs ⊢
  generalize hG1 : ViC.Vc.std = G1 at hC hfs ⊢
  generalize hG2 : ViQ.Vm.std = G2 at hC hfs ⊢
  generalize hG3 : SpQ.Sq.std = G3 at hC hfs ⊢
  generalize hG4 : ViM.Vg.std = G4 at hC hfs ⊢
  generalize hA : Ar.std = A
  generalize hL : Lp _ _ _ = L
  obtain ⟨Z, zq⟩ := z_all
  refine cd_open (lp_mono hL) zq rfl ?_
  repeat' (first
    | (refine z_open zq ?_; try dsimp only)
    | refine cd_seq zq ?_ (lp_mono hL)
    | refine cd_blk zq ?_
    | refine cd_ret ?_
    | refine cd_skip ?_
    | refine cd_exit ?_
    | refine cd_loop ?_
    | refine cd_cond rfl ?_
    | refine cd_condT rfl ?_
    | refine cd_condF rfl ?_
    | (refine Cd.mk ?_; cbv)
    | (refine Ends1.mk ?_; cbv)
    | (refine Fin1.mk ?_; cbv)
    | exact trivial
    | refine And.intro ?_ ?_
    | refine orf fun _ => ?_
    | refine ort fun _ => ?_)
  all_goals first | (exfalso; clear hL hfs zq Z; subst hA hF hG0 hG1 hG2 hG3 hG4; simp only [As.std, Ar.std] at * <;> grind [stdCmp]; done) | (show L _ _ _; skip) | (clear hL hfs zq Z; subst hA hF hG0 hG1 hG2 hG3 hG4; simp only [As.std, Ar.std] at * <;> grind [stdCmp]; done)
  subst hL
  refine loop_z (cx_ok hfs) (zQ) (fun y => stOf Try.f76.ntmps [(1, .ptr 1 0), (2, .ptr 2 0), (3, .val (.int .i64 y.i))] [(1, .cells 86 [.val (.int .i64 3), .val (.int .i64 s_ee), .val (.int .i64 s_er), .val (.int .i64 s_t), .val (.int .i64 0), .sl none (.recs (.int .i64 (.int .i64 (.int .i64 (.int .i64 (.bool (.bool (.int .i64 .nil))))))) []), .sl none (.ints .i64 []), .sl none (.ints .i64 []), .sl none (.recs (.int .i64 (.int .i64 (.int .i64 (.int .i64 (.bool .nil))))) []), .val (.int .i64 1), .sl none (.ints .i64 s_tn), .sl none (.recs (.int .i64 (.int .i64 (.int .i64 (.int .i64 (.bool .nil))))) s_tl), .val (.int .i64 s_l), .val (.bool s_o), .sl none (.recs (.int .i64 (.int .i64 (.int .i64 (.int .i64 (.ints .i64 (.recs (.int .i64 (.int .i64 (.int .i64 (.int .i64 (.bool .nil))))) (.int .i64 (.int .i64 (.int .i64 (.int .i64 .nil)))))))))) s_out)]), (2, .cells 86 [.num .i64 0, .num .i64 0, .num .i64 0, .num .i64 0, .num .i64 0, .val (.slice none 0 0), .val (.slice none 0 0), .val (.slice none 0 0), .val (.slice none 0 0), .num .i64 0, .val (.slice none 0 0), .val (.slice none 0 0), .num .i64 0, .tf false, .val (.slice none 0 0)])] [Any]) (zM) (zR 3) ⟨0⟩ ?_ ?_ ?_
  · exact rfl
  · cbv
    repeat' (first | exact trivial | exact rfl | refine And.intro ?_ ?_)
  rintro ⟨i⟩ hq O hO
  have hi : i = 0 := hq
  subst hA
  generalize hA : Ar.std = A
  generalize hL : Lp _ _ _ = L
  refine cd_close zq ?_
  repeat' (first
    | (refine z_open zq ?_; try dsimp only)
    | refine cd_seq zq ?_ (lp_mono hL)
    | refine cd_blk zq ?_
    | refine cd_ret ?_
    | refine cd_skip ?_
    | refine cd_exit ?_
    | refine cd_loop ?_
    | refine cd_cond rfl ?_
    | refine cd_condT rfl ?_
    | refine cd_condF rfl ?_
    | (refine Cd.mk ?_; cbv)
    | (refine Ends1.mk ?_; cbv)
    | (refine Fin1.mk ?_; cbv)
    | exact trivial
    | refine And.intro ?_ ?_
    | refine orf fun _ => ?_
    | refine ort fun _ => ?_)
  all_goals first | (exfalso; clear hL hfs zq Z hq; subst hA hF hG0 hG1 hG2 hG3 hG4 hO; simp only [As.std, ViC.Vc.std, ViQ.Vm.std, SpQ.Sq.std, ViM.Vg.std, Ar.std] at * <;> grind [stdCmp]; done) | (clear hL hfs zq Z hq; subst hA hF hG0 hG1 hG2 hG3 hG4 hO; simp only [As.std, ViC.Vc.std, ViQ.Vm.std, SpQ.Sq.std, ViM.Vg.std, Ar.std] at * <;> grind [stdCmp]; done)
theorem ok_sett : ConOk Try.prog 76 (c_sett As.std) := by
  refine con_of (FsOk.cons ok_ow (FsOk.cons ok_rmerge (FsOk.cons ok_vmay (FsOk.cons ok_rbound (FsOk.cons ok_rforest (FsOk.cons ok_ch10 (FsOk.cons ok_cho FsOk.nil rfl) rfl) rfl) rfl) rfl) rfl) rfl) Try.func76 rfl rfl fun xs h p hp => ?_
  unfold c_sett at hp
  split at hp
  · cases hp
    exact ⟨lee_le rfl, fun hC _ => x_sett _ _ _ _ _ _ _ _ _ _ _ _ _ _ _ hC⟩
  · cases hp

def c_adp (F : As) : Con := fun xs h => match xs, h with
  | [.agg [.val (.int .i64 s_i), .val (.int .i64 _), .val (.int .i64 _), .val (.int .i64 s_t), .val (.int .i64 _), .sl none (.recs (.int .i64 (.int .i64 (.int .i64 (.int .i64 (.bool (.bool (.int .i64 .nil))))))) s_ties), .sl none (.ints .i64 _), .sl none (.ints .i64 _), .sl none (.recs (.int .i64 (.int .i64 (.int .i64 (.int .i64 (.bool .nil))))) _), .val (.int .i64 _), .sl none (.ints .i64 _), .sl none (.recs (.int .i64 (.int .i64 (.int .i64 (.int .i64 (.bool .nil))))) _), .val (.int .i64 s_l), .val (.bool s_o), .sl none (.recs (.int .i64 (.int .i64 (.int .i64 (.int .i64 (.ints .i64 (.recs (.int .i64 (.int .i64 (.int .i64 (.int .i64 (.bool .nil))))) (.int .i64 (.int .i64 (.int .i64 (.int .i64 .nil)))))))))) s_out)], .agg [.val (.int .i64 e_e), .val (.int .i64 e_r)], .one (.val (.int .i64 q))], [] => some ⟨F.a_em s_ties = true ∧ s_i = 3 ∧ q = 0 ∧ F.a_lt s_t e_e = true, .sa (.agg [.val (.int .i64 3), .val (.int .i64 e_e), .val (.int .i64 e_r), .val (.int .i64 e_e), .val (.int .i64 0), .sl none (.recs (.int .i64 (.int .i64 (.int .i64 (.int .i64 (.bool (.bool (.int .i64 .nil))))))) []), .sl none (.ints .i64 []), .sl none (.ints .i64 []), .sl none (.recs (.int .i64 (.int .i64 (.int .i64 (.int .i64 (.bool .nil))))) []), .val (.int .i64 4), .sl none (.ints .i64 [3]), .sl none (.recs (.int .i64 (.int .i64 (.int .i64 (.int .i64 (.bool .nil))))) []), .val (.int .i64 s_l), .val (.bool s_o), .sl none (.recs (.int .i64 (.int .i64 (.int .i64 (.int .i64 (.ints .i64 (.recs (.int .i64 (.int .i64 (.int .i64 (.int .i64 (.bool .nil))))) (.int .i64 (.int .i64 (.int .i64 (.int .i64 .nil)))))))))) s_out)]), [], [Any, Any, Any]⟩
  | _, _ => none
set_option cbv.maxSteps 4000000 in
set_option maxHeartbeats 4000000 in
set_option maxRecDepth 100000 in
theorem x_adp (s_i : Int) (s_ee : Int) (s_er : Int) (s_t : Int) (s_p : Int) (s_ties : List E) (s_w : List Int) (s_gn : List Int) (s_gl : List E) (s_ph : Int) (s_tn : List Int) (s_tl : List E) (s_l : Int) (s_o : Bool) (s_out : List E) (e_e : Int) (e_r : Int) (q : Int) (hC : As.std.a_em s_ties = true ∧ s_i = 3 ∧ q = 0 ∧ As.std.a_lt s_t e_e = true) : Does [(71, dnil [[none, none, none, none, none, some (.recs (.int .i64 (.int .i64 (.int .i64 (.int .i64 (.bool (.bool (.int .i64 .nil))))))) []), some (.ints .i64 []), some (.ints .i64 []), some (.recs (.int .i64 (.int .i64 (.int .i64 (.int .i64 (.bool .nil))))) []), none, some (.ints .i64 []), some (.recs (.int .i64 (.int .i64 (.int .i64 (.int .i64 (.bool .nil))))) []), none, none], [none]] (c_bd As.std)), (76, dnil [[none, none, none, none, none, some (.recs (.int .i64 (.int .i64 (.int .i64 (.int .i64 (.bool (.bool (.int .i64 .nil))))))) []), some (.ints .i64 []), some (.ints .i64 []), some (.recs (.int .i64 (.int .i64 (.int .i64 (.int .i64 (.bool .nil))))) []), none, some (.ints .i64 []), some (.recs (.int .i64 (.int .i64 (.int .i64 (.int .i64 (.bool .nil))))) []), none, none, some (.recs (.int .i64 (.int .i64 (.int .i64 (.int .i64 (.ints .i64 (.recs (.int .i64 (.int .i64 (.int .i64 (.int .i64 (.bool .nil))))) (.int .i64 (.int .i64 (.int .i64 (.int .i64 .nil)))))))))) [])]] (c_sett As.std))] Try.f62 [.agg [.val (.int .i64 s_i), .val (.int .i64 s_ee), .val (.int .i64 s_er), .val (.int .i64 s_t), .val (.int .i64 s_p), .sl none (.recs (.int .i64 (.int .i64 (.int .i64 (.int .i64 (.bool (.bool (.int .i64 .nil))))))) s_ties), .sl none (.ints .i64 s_w), .sl none (.ints .i64 s_gn), .sl none (.recs (.int .i64 (.int .i64 (.int .i64 (.int .i64 (.bool .nil))))) s_gl), .val (.int .i64 s_ph), .sl none (.ints .i64 s_tn), .sl none (.recs (.int .i64 (.int .i64 (.int .i64 (.int .i64 (.bool .nil))))) s_tl), .val (.int .i64 s_l), .val (.bool s_o), .sl none (.recs (.int .i64 (.int .i64 (.int .i64 (.int .i64 (.ints .i64 (.recs (.int .i64 (.int .i64 (.int .i64 (.int .i64 (.bool .nil))))) (.int .i64 (.int .i64 (.int .i64 (.int .i64 .nil)))))))))) s_out)], .agg [.val (.int .i64 e_e), .val (.int .i64 e_r)], .one (.val (.int .i64 q))] [] ⟨As.std.a_em s_ties = true ∧ s_i = 3 ∧ q = 0 ∧ As.std.a_lt s_t e_e = true, .sa (.agg [.val (.int .i64 3), .val (.int .i64 e_e), .val (.int .i64 e_r), .val (.int .i64 e_e), .val (.int .i64 0), .sl none (.recs (.int .i64 (.int .i64 (.int .i64 (.int .i64 (.bool (.bool (.int .i64 .nil))))))) []), .sl none (.ints .i64 []), .sl none (.ints .i64 []), .sl none (.recs (.int .i64 (.int .i64 (.int .i64 (.int .i64 (.bool .nil))))) []), .val (.int .i64 4), .sl none (.ints .i64 [3]), .sl none (.recs (.int .i64 (.int .i64 (.int .i64 (.int .i64 (.bool .nil))))) []), .val (.int .i64 s_l), .val (.bool s_o), .sl none (.recs (.int .i64 (.int .i64 (.int .i64 (.int .i64 (.ints .i64 (.recs (.int .i64 (.int .i64 (.int .i64 (.int .i64 (.bool .nil))))) (.int .i64 (.int .i64 (.int .i64 (.int .i64 .nil)))))))))) s_out)]), [], [Any, Any, Any]⟩ := by
  intro b gv
  have hz_s_ties : s_ties = [] := List.isEmpty_iff.1 (show s_ties.isEmpty = true from by first | exact hC | exact hC.1)
  subst hz_s_ties
  obtain ⟨_, h1, h2, h3⟩ := hC
  subst h1 h2
  have h3 : s_t < e_e := of_decide_eq_true h3
  have hC : True := trivial
  have z1 := z_in
  have z2 := z_bo
  have z4 : emp [] = true := rfl
  have z5 := z_mn
  have z6 := z_ml
  have z7 := z_cm
  have z8 := z_fo
  have z9 := z_ir
  have z10 := z_v3
  have hfs := (FsOk.cons (dnil_ok [[none, none, none, none, none, some (.recs (.int .i64 (.int .i64 (.int .i64 (.int .i64 (.bool (.bool (.int .i64 .nil))))))) []), some (.ints .i64 []), some (.ints .i64 []), some (.recs (.int .i64 (.int .i64 (.int .i64 (.int .i64 (.bool .nil))))) []), none, some (.ints .i64 []), some (.recs (.int .i64 (.int .i64 (.int .i64 (.int .i64 (.bool .nil))))) []), none, none], [none]] ok_bd) (FsOk.cons (dnil_ok [[none, none, none, none, none, some (.recs (.int .i64 (.int .i64 (.int .i64 (.int .i64 (.bool (.bool (.int .i64 .nil))))))) []), some (.ints .i64 []), some (.ints .i64 []), some (.recs (.int .i64 (.int .i64 (.int .i64 (.int .i64 (.bool .nil))))) []), none, some (.ints .i64 []), some (.recs (.int .i64 (.int .i64 (.int .i64 (.int .i64 (.bool .nil))))) []), none, none, some (.recs (.int .i64 (.int .i64 (.int .i64 (.int .i64 (.ints .i64 (.recs (.int .i64 (.int .i64 (.int .i64 (.int .i64 (.bool .nil))))) (.int .i64 (.int .i64 (.int .i64 (.int .i64 .nil)))))))))) [])]] ok_sett) FsOk.nil rfl) rfl)
  generalize hF : As.std = F at hC hfs ⊢
  generalize hG0 : ViR.Vs.std = G0 at hC hfs ⊢
  generalize hG1 : ViC.Vc.std = G1 at hC hfs ⊢
  generalize hG2 : ViQ.Vm.std = G2 at hC hfs ⊢
  generalize hG3 : SpQ.Sq.std = G3 at hC hfs ⊢
  generalize hG4 : ViM.Vg.std = G4 at hC hfs ⊢
  generalize hA : Ar.std = A
  generalize hL : Lp _ _ _ = L
  obtain ⟨Z, zq⟩ := z_all
  refine cd_open (lp_mono hL) zq rfl ?_
  repeat' (first
    | (refine z_open zq ?_; try dsimp only)
    | refine cd_seq zq ?_ (lp_mono hL)
    | refine cd_blk zq ?_
    | refine cd_ret ?_
    | refine cd_skip ?_
    | refine cd_exit ?_
    | refine cd_loop ?_
    | refine cd_cond rfl ?_
    | refine cd_condT rfl ?_
    | refine cd_condF rfl ?_
    | (refine Cd.mk ?_; cbv)
    | (refine Ends1.mk ?_; cbv)
    | (refine Fin1.mk ?_; cbv)
    | exact trivial
    | refine And.intro ?_ ?_
    | refine orf fun _ => ?_
    | refine ort fun _ => ?_)
  all_goals first | (exfalso; clear hL hfs zq Z; subst hA hF hG0 hG1 hG2 hG3 hG4; simp only [As.std, Ar.std] at * <;> grind [stdCmp]; done) | (show L _ _ _; skip) | (clear hL hfs zq Z; subst hA hF hG0 hG1 hG2 hG3 hG4; simp only [As.std, Ar.std] at * <;> grind [stdCmp]; done)
  subst hL
  refine loop_z (cx_ok hfs) (zQ) (fun y => stOf Try.f62.ntmps [(3, .ptr 1 0), (4, .ptr 2 0), (6, .ptr 3 0), (7, .val (.int .i64 y.i))] [(1, .cells 86 [.val (.int .i64 3), .val (.int .i64 e_e), .val (.int .i64 e_r), .val (.int .i64 e_e), .val (.int .i64 0), .sl none (.recs (.int .i64 (.int .i64 (.int .i64 (.int .i64 (.bool (.bool (.int .i64 .nil))))))) []), .sl none (.ints .i64 []), .val (.slice none 0 0), .val (.slice none 0 0), .num .i64 1, .val (.slice none 0 0), .val (.slice none 0 0), .val (.int .i64 s_l), .val (.bool s_o), .sl none (.recs (.int .i64 (.int .i64 (.int .i64 (.int .i64 (.ints .i64 (.recs (.int .i64 (.int .i64 (.int .i64 (.int .i64 (.bool .nil))))) (.int .i64 (.int .i64 (.int .i64 (.int .i64 .nil)))))))))) s_out)]), (2, .cells 43 [.val (.int .i64 e_e), .val (.int .i64 e_r)]), (3, .cells 86 [.num .i64 0, .num .i64 0, .num .i64 0, .num .i64 0, .num .i64 0, .val (.slice none 0 0), .val (.slice none 0 0), .val (.slice none 0 0), .val (.slice none 0 0), .num .i64 0, .val (.slice none 0 0), .val (.slice none 0 0), .num .i64 0, .tf false, .val (.slice none 0 0)])] [Any, Any, Any]) (zM) (zR 7) ⟨0⟩ ?_ ?_ ?_
  · exact rfl
  · cbv
    repeat' (first | exact trivial | exact rfl | refine And.intro ?_ ?_)
  rintro ⟨i⟩ hq O hO
  have hi : i = 0 := hq
  subst hA
  generalize hA : Ar.std = A
  generalize hL : Lp _ _ _ = L
  refine cd_close zq ?_
  repeat' (first
    | (refine z_open zq ?_; try dsimp only)
    | refine cd_seq zq ?_ (lp_mono hL)
    | refine cd_blk zq ?_
    | refine cd_ret ?_
    | refine cd_skip ?_
    | refine cd_exit ?_
    | refine cd_loop ?_
    | refine cd_cond rfl ?_
    | refine cd_condT rfl ?_
    | refine cd_condF rfl ?_
    | (refine Cd.mk ?_; cbv)
    | (refine Ends1.mk ?_; cbv)
    | (refine Fin1.mk ?_; cbv)
    | exact trivial
    | refine And.intro ?_ ?_
    | refine orf fun _ => ?_
    | refine ort fun _ => ?_)
  all_goals first | (exfalso; clear hL hfs zq Z hq; subst hA hF hG0 hG1 hG2 hG3 hG4 hO; simp only [As.std, Ar.std] at * <;> grind [stdCmp]; done) | (show L _ _ _; skip) | (clear hL hfs zq Z hq; subst hA hF hG0 hG1 hG2 hG3 hG4 hO; simp only [As.std, ViR.Vs.std, ViC.Vc.std, ViQ.Vm.std, SpQ.Sq.std, ViM.Vg.std, Ar.std, List.nil_append] at * <;> grind [stdCmp]; done)
  subst hL
  refine loop_z (cx_ok hfs) (zQ) (fun y => stOf Try.f62.ntmps [(3, .ptr 1 0), (4, .ptr 2 0), (6, .ptr 3 0), (8, .val (.int .i64 y.i))] [(1, .cells 86 [.val (.int .i64 3), .val (.int .i64 e_e), .val (.int .i64 e_r), .val (.int .i64 e_e), .val (.int .i64 0), .sl none (.recs (.int .i64 (.int .i64 (.int .i64 (.int .i64 (.bool (.bool (.int .i64 .nil))))))) []), .sl none (.ints .i64 []), .val (.slice none 0 0), .val (.slice none 0 0), .num .i64 1, .val (.slice none 0 0), .val (.slice none 0 0), .val (.int .i64 s_l), .val (.bool s_o), .sl none (.recs (.int .i64 (.int .i64 (.int .i64 (.int .i64 (.ints .i64 (.recs (.int .i64 (.int .i64 (.int .i64 (.int .i64 (.bool .nil))))) (.int .i64 (.int .i64 (.int .i64 (.int .i64 .nil)))))))))) s_out)]), (2, .cells 43 [.val (.int .i64 e_e), .val (.int .i64 e_r)]), (3, .cells 86 [.num .i64 0, .num .i64 0, .num .i64 0, .num .i64 0, .num .i64 0, .val (.slice none 0 0), .val (.slice none 0 0), .val (.slice none 0 0), .val (.slice none 0 0), .num .i64 0, .val (.slice none 0 0), .val (.slice none 0 0), .num .i64 0, .tf false, .val (.slice none 0 0)])] [Any, Any, Any]) (zM) (zR 8) ⟨0⟩ ?_ ?_ ?_
  · exact rfl
  · cbv
    repeat' (first | exact trivial | exact rfl | refine And.intro ?_ ?_)
  rintro ⟨j⟩ hq2 O2 hO2
  have hj : j = 0 := hq2
  subst hA
  generalize hA : Ar.std = A
  generalize hL : Lp _ _ _ = L
  refine cd_close zq ?_
  repeat' (first
    | (refine z_open zq ?_; try dsimp only)
    | refine cd_seq zq ?_ (lp_mono hL)
    | refine cd_blk zq ?_
    | refine cd_ret ?_
    | refine cd_skip ?_
    | refine cd_exit ?_
    | refine cd_loop ?_
    | refine cd_cond rfl ?_
    | refine cd_condT rfl ?_
    | refine cd_condF rfl ?_
    | (refine Cd.mk ?_; cbv)
    | (refine Ends1.mk ?_; cbv)
    | (refine Fin1.mk ?_; cbv)
    | exact trivial
    | refine And.intro ?_ ?_
    | refine orf fun _ => ?_
    | refine ort fun _ => ?_)
  all_goals first | (exfalso; clear hL hfs zq Z hq hq2; subst hA hF hG0 hG1 hG2 hG3 hG4 hO hO2; simp only [As.std, Ar.std] at * <;> grind [stdCmp]; done) | (clear hL hfs zq Z hq hq2; subst hA hF hG0 hG1 hG2 hG3 hG4 hO hO2; simp only [As.std, Ar.std] at * <;> grind [stdCmp]; done)
theorem ok_adp : ConOk Try.prog 62 (c_adp As.std) := by
  refine con_of (FsOk.cons (dnil_ok [[none, none, none, none, none, some (.recs (.int .i64 (.int .i64 (.int .i64 (.int .i64 (.bool (.bool (.int .i64 .nil))))))) []), some (.ints .i64 []), some (.ints .i64 []), some (.recs (.int .i64 (.int .i64 (.int .i64 (.int .i64 (.bool .nil))))) []), none, some (.ints .i64 []), some (.recs (.int .i64 (.int .i64 (.int .i64 (.int .i64 (.bool .nil))))) []), none, none], [none]] ok_bd) (FsOk.cons (dnil_ok [[none, none, none, none, none, some (.recs (.int .i64 (.int .i64 (.int .i64 (.int .i64 (.bool (.bool (.int .i64 .nil))))))) []), some (.ints .i64 []), some (.ints .i64 []), some (.recs (.int .i64 (.int .i64 (.int .i64 (.int .i64 (.bool .nil))))) []), none, some (.ints .i64 []), some (.recs (.int .i64 (.int .i64 (.int .i64 (.int .i64 (.bool .nil))))) []), none, none, some (.recs (.int .i64 (.int .i64 (.int .i64 (.int .i64 (.ints .i64 (.recs (.int .i64 (.int .i64 (.int .i64 (.int .i64 (.bool .nil))))) (.int .i64 (.int .i64 (.int .i64 (.int .i64 .nil)))))))))) [])]] ok_sett) FsOk.nil rfl) rfl) Try.func62 rfl rfl fun xs h p hp => ?_
  unfold c_adp at hp
  split at hp
  · cases hp
    exact ⟨lee_le rfl, fun hC _ => x_adp _ _ _ _ _ _ _ _ _ _ _ _ _ _ _ _ _ _ hC⟩
  · cases hp

def c_beg (F : As) : Con := fun xs h => match xs, h with
  | [.agg [.val (.int .i64 s_i), .val (.int .i64 s_ee), .val (.int .i64 _), .val (.int .i64 s_t), .val (.int .i64 _), .sl none (.recs (.int .i64 (.int .i64 (.int .i64 (.int .i64 (.bool (.bool (.int .i64 .nil))))))) s_ties), .sl none (.ints .i64 _), .sl none (.ints .i64 _), .sl none (.recs (.int .i64 (.int .i64 (.int .i64 (.int .i64 (.bool .nil))))) _), .val (.int .i64 _), .sl none (.ints .i64 _), .sl none (.recs (.int .i64 (.int .i64 (.int .i64 (.int .i64 (.bool .nil))))) _), .val (.int .i64 s_l), .val (.bool s_o), .sl none (.recs (.int .i64 (.int .i64 (.int .i64 (.int .i64 (.ints .i64 (.recs (.int .i64 (.int .i64 (.int .i64 (.int .i64 (.bool .nil))))) (.int .i64 (.int .i64 (.int .i64 (.int .i64 .nil)))))))))) s_out)]], [] => some ⟨F.a_em s_ties = true ∧ s_i = 3 ∧ s_ee = 0 ∧ s_t = 0 ∧ s_l = 9 ∧ s_o = false, .sa (.agg [.val (.int .i64 3), .val (.int .i64 1), .val (.int .i64 3), .val (.int .i64 1), .val (.int .i64 0), .sl none (.recs (.int .i64 (.int .i64 (.int .i64 (.int .i64 (.bool (.bool (.int .i64 .nil))))))) []), .sl none (.ints .i64 []), .sl none (.ints .i64 []), .sl none (.recs (.int .i64 (.int .i64 (.int .i64 (.int .i64 (.bool .nil))))) []), .val (.int .i64 4), .sl none (.ints .i64 [3]), .sl none (.recs (.int .i64 (.int .i64 (.int .i64 (.int .i64 (.bool .nil))))) []), .val (.int .i64 9), .val (.bool false), .sl none (.recs (.int .i64 (.int .i64 (.int .i64 (.int .i64 (.ints .i64 (.recs (.int .i64 (.int .i64 (.int .i64 (.int .i64 (.bool .nil))))) (.int .i64 (.int .i64 (.int .i64 (.int .i64 .nil)))))))))) s_out)]), [], [Any]⟩
  | _, _ => none
set_option cbv.maxSteps 4000000 in
set_option maxHeartbeats 4000000 in
set_option maxRecDepth 100000 in
theorem x_beg (s_i : Int) (s_ee : Int) (s_er : Int) (s_t : Int) (s_p : Int) (s_ties : List E) (s_w : List Int) (s_gn : List Int) (s_gl : List E) (s_ph : Int) (s_tn : List Int) (s_tl : List E) (s_l : Int) (s_o : Bool) (s_out : List E) (hC : As.std.a_em s_ties = true ∧ s_i = 3 ∧ s_ee = 0 ∧ s_t = 0 ∧ s_l = 9 ∧ s_o = false) : Does [(61, c_rafter As.std), (62, c_adp As.std)] Try.f52 [.agg [.val (.int .i64 s_i), .val (.int .i64 s_ee), .val (.int .i64 s_er), .val (.int .i64 s_t), .val (.int .i64 s_p), .sl none (.recs (.int .i64 (.int .i64 (.int .i64 (.int .i64 (.bool (.bool (.int .i64 .nil))))))) s_ties), .sl none (.ints .i64 s_w), .sl none (.ints .i64 s_gn), .sl none (.recs (.int .i64 (.int .i64 (.int .i64 (.int .i64 (.bool .nil))))) s_gl), .val (.int .i64 s_ph), .sl none (.ints .i64 s_tn), .sl none (.recs (.int .i64 (.int .i64 (.int .i64 (.int .i64 (.bool .nil))))) s_tl), .val (.int .i64 s_l), .val (.bool s_o), .sl none (.recs (.int .i64 (.int .i64 (.int .i64 (.int .i64 (.ints .i64 (.recs (.int .i64 (.int .i64 (.int .i64 (.int .i64 (.bool .nil))))) (.int .i64 (.int .i64 (.int .i64 (.int .i64 .nil)))))))))) s_out)]] [] ⟨As.std.a_em s_ties = true ∧ s_i = 3 ∧ s_ee = 0 ∧ s_t = 0 ∧ s_l = 9 ∧ s_o = false, .sa (.agg [.val (.int .i64 3), .val (.int .i64 1), .val (.int .i64 3), .val (.int .i64 1), .val (.int .i64 0), .sl none (.recs (.int .i64 (.int .i64 (.int .i64 (.int .i64 (.bool (.bool (.int .i64 .nil))))))) []), .sl none (.ints .i64 []), .sl none (.ints .i64 []), .sl none (.recs (.int .i64 (.int .i64 (.int .i64 (.int .i64 (.bool .nil))))) []), .val (.int .i64 4), .sl none (.ints .i64 [3]), .sl none (.recs (.int .i64 (.int .i64 (.int .i64 (.int .i64 (.bool .nil))))) []), .val (.int .i64 9), .val (.bool false), .sl none (.recs (.int .i64 (.int .i64 (.int .i64 (.int .i64 (.ints .i64 (.recs (.int .i64 (.int .i64 (.int .i64 (.int .i64 (.bool .nil))))) (.int .i64 (.int .i64 (.int .i64 (.int .i64 .nil)))))))))) s_out)]), [], [Any]⟩ := by
  intro b gv
  have hz_s_ties : s_ties = [] := List.isEmpty_iff.1 (show s_ties.isEmpty = true from by first | exact hC | exact hC.1)
  subst hz_s_ties
  obtain ⟨_, h1, h2, h3, h4, h5⟩ := hC
  subst h1 h2 h3 h4 h5
  have hC : True := trivial
  have z1 := z_in
  have z2 := z_bo
  have z4 : emp [] = true := rfl
  have z5 := z_mn
  have z6 := z_ml
  have z7 := z_cm
  have z8 := z_fo
  have z9 := z_ir
  have z10 := z_v3
  have y1 : afE 0 9 3 = 0 := by decide +kernel
  have y2 : afN 0 9 3 = 1 := by decide +kernel
  have y3 : afR 0 9 3 = 3 := by decide +kernel
  have hfs := (FsOk.cons ok_rafter (FsOk.cons ok_adp FsOk.nil rfl) rfl)
  generalize hF : As.std = F at hC hfs ⊢
  generalize hG0 : ViR.Vs.std = G0 at hC hfs ⊢
  generalize hG1 : ViC.Vc.std = G1 at hC hfs ⊢
  generalize hG2 : ViQ.Vm.std = G2 at hC hfs ⊢
  generalize hG3 : SpQ.Sq.std = G3 at hC hfs ⊢
  generalize hG4 : ViM.Vg.std = G4 at hC hfs ⊢
  generalize hA : Ar.std = A
  generalize hL : Lp _ _ _ = L
  obtain ⟨Z, zq⟩ := z_all
  refine cd_open (lp_mono hL) zq rfl ?_
  repeat' (first
    | (refine z_open zq ?_; try dsimp only)
    | refine cd_seq zq ?_ (lp_mono hL)
    | refine cd_blk zq ?_
    | refine cd_ret ?_
    | refine cd_skip ?_
    | refine cd_exit ?_
    | refine cd_loop ?_
    | refine cd_cond rfl ?_
    | refine cd_condT rfl ?_
    | refine cd_condF rfl ?_
    | (refine Cd.mk ?_; cbv)
    | (refine Ends1.mk ?_; cbv)
    | (refine Fin1.mk ?_; cbv)
    | exact trivial
    | refine And.intro ?_ ?_
    | refine orf fun _ => ?_
    | refine ort fun _ => ?_)
  all_goals first | (exfalso; clear hL hfs zq Z; subst hA hF hG0 hG1 hG2 hG3 hG4; simp only [As.std, Ar.std] at * <;> grind [stdCmp]; done) | (show L _ _ _; skip) | (clear hL hfs zq Z; subst hA hF hG0 hG1 hG2 hG3 hG4; simp only [As.std, Ar.std] at * <;> grind [stdCmp]; done)
theorem ok_beg : ConOk Try.prog 52 (c_beg As.std) := by
  refine con_of (FsOk.cons ok_rafter (FsOk.cons ok_adp FsOk.nil rfl) rfl) Try.func52 rfl rfl fun xs h p hp => ?_
  unfold c_beg at hp
  split at hp
  · cases hp
    exact ⟨lee_le rfl, fun hC _ => x_beg _ _ _ _ _ _ _ _ _ _ _ _ _ _ _ hC⟩
  · cases hp

def c_new (_ : As) : Con := fun xs h => match xs, h with
  | [.one (.val (.int .i64 i)), .one (.val (.int .i64 l))], [] => some ⟨i = 3 ∧ l = 9, .sa (.agg [.val (.int .i64 3), .val (.int .i64 1), .val (.int .i64 3), .val (.int .i64 1), .val (.int .i64 0), .sl none (.recs (.int .i64 (.int .i64 (.int .i64 (.int .i64 (.bool (.bool (.int .i64 .nil))))))) []), .sl none (.ints .i64 []), .sl none (.ints .i64 []), .sl none (.recs (.int .i64 (.int .i64 (.int .i64 (.int .i64 (.bool .nil))))) []), .val (.int .i64 4), .sl none (.ints .i64 [3]), .sl none (.recs (.int .i64 (.int .i64 (.int .i64 (.int .i64 (.bool .nil))))) []), .val (.int .i64 9), .val (.bool false)]), [], [Any, Any]⟩
  | _, _ => none
set_option cbv.maxSteps 4000000 in
set_option maxHeartbeats 4000000 in
set_option maxRecDepth 100000 in
theorem x_new (i : Int) (l : Int) (hC : i = 3 ∧ l = 9) : Does [(52, dnil [[none, none, none, none, none, some (.recs (.int .i64 (.int .i64 (.int .i64 (.int .i64 (.bool (.bool (.int .i64 .nil))))))) []), some (.ints .i64 []), some (.ints .i64 []), some (.recs (.int .i64 (.int .i64 (.int .i64 (.int .i64 (.bool .nil))))) []), none, some (.ints .i64 []), some (.recs (.int .i64 (.int .i64 (.int .i64 (.int .i64 (.bool .nil))))) []), none, none, some (.recs (.int .i64 (.int .i64 (.int .i64 (.int .i64 (.ints .i64 (.recs (.int .i64 (.int .i64 (.int .i64 (.int .i64 (.bool .nil))))) (.int .i64 (.int .i64 (.int .i64 (.int .i64 .nil)))))))))) [])]] (c_beg As.std))] Try.f39 [.one (.val (.int .i64 i)), .one (.val (.int .i64 l))] [] ⟨i = 3 ∧ l = 9, .sa (.agg [.val (.int .i64 3), .val (.int .i64 1), .val (.int .i64 3), .val (.int .i64 1), .val (.int .i64 0), .sl none (.recs (.int .i64 (.int .i64 (.int .i64 (.int .i64 (.bool (.bool (.int .i64 .nil))))))) []), .sl none (.ints .i64 []), .sl none (.ints .i64 []), .sl none (.recs (.int .i64 (.int .i64 (.int .i64 (.int .i64 (.bool .nil))))) []), .val (.int .i64 4), .sl none (.ints .i64 [3]), .sl none (.recs (.int .i64 (.int .i64 (.int .i64 (.int .i64 (.bool .nil))))) []), .val (.int .i64 9), .val (.bool false)]), [], [Any, Any]⟩ := by
  intro b gv
  obtain ⟨h1, h2⟩ := hC
  subst h1 h2
  have hC : True := trivial
  have z1 := z_in
  have z2 := z_bo
  have z4 : emp [] = true := rfl
  have z5 := z_mn
  have z6 := z_ml
  have z7 := z_cm
  have z8 := z_fo
  have z9 := z_ir
  have z10 := z_v3
  have hfs := (FsOk.cons (dnil_ok [[none, none, none, none, none, some (.recs (.int .i64 (.int .i64 (.int .i64 (.int .i64 (.bool (.bool (.int .i64 .nil))))))) []), some (.ints .i64 []), some (.ints .i64 []), some (.recs (.int .i64 (.int .i64 (.int .i64 (.int .i64 (.bool .nil))))) []), none, some (.ints .i64 []), some (.recs (.int .i64 (.int .i64 (.int .i64 (.int .i64 (.bool .nil))))) []), none, none, some (.recs (.int .i64 (.int .i64 (.int .i64 (.int .i64 (.ints .i64 (.recs (.int .i64 (.int .i64 (.int .i64 (.int .i64 (.bool .nil))))) (.int .i64 (.int .i64 (.int .i64 (.int .i64 .nil)))))))))) [])]] ok_beg) FsOk.nil rfl)
  generalize hF : As.std = F at hC hfs ⊢
  generalize hG0 : ViR.Vs.std = G0 at hC hfs ⊢
  generalize hG1 : ViC.Vc.std = G1 at hC hfs ⊢
  generalize hG2 : ViQ.Vm.std = G2 at hC hfs ⊢
  generalize hG3 : SpQ.Sq.std = G3 at hC hfs ⊢
  generalize hG4 : ViM.Vg.std = G4 at hC hfs ⊢
  generalize hA : Ar.std = A
  generalize hL : Lp _ _ _ = L
  obtain ⟨Z, zq⟩ := z_all
  refine cd_open (lp_mono hL) zq rfl ?_
  repeat' (first
    | (refine z_open zq ?_; try dsimp only)
    | refine cd_seq zq ?_ (lp_mono hL)
    | refine cd_blk zq ?_
    | refine cd_ret ?_
    | refine cd_skip ?_
    | refine cd_exit ?_
    | refine cd_loop ?_
    | refine cd_cond rfl ?_
    | refine cd_condT rfl ?_
    | refine cd_condF rfl ?_
    | (refine Cd.mk ?_; cbv)
    | (refine Ends1.mk ?_; cbv)
    | (refine Fin1.mk ?_; cbv)
    | exact trivial
    | refine And.intro ?_ ?_
    | refine orf fun _ => ?_
    | refine ort fun _ => ?_)
  all_goals first | (exfalso; clear hL hfs zq Z; subst hA hF hG0 hG1 hG2 hG3 hG4; simp only [As.std, ViR.Vs.std, ViC.Vc.std, ViQ.Vm.std, SpQ.Sq.std, ViM.Vg.std, Ar.std, List.nil_append] at * <;> grind [stdCmp]; done) | (show L _ _ _; skip) | (clear hL hfs zq Z; subst hA hF hG0 hG1 hG2 hG3 hG4; simp only [As.std] at * <;> grind [stdCmp]; done)
theorem ok_new : ConOk Try.prog 39 (c_new As.std) := by
  refine con_of (FsOk.cons (dnil_ok [[none, none, none, none, none, some (.recs (.int .i64 (.int .i64 (.int .i64 (.int .i64 (.bool (.bool (.int .i64 .nil))))))) []), some (.ints .i64 []), some (.ints .i64 []), some (.recs (.int .i64 (.int .i64 (.int .i64 (.int .i64 (.bool .nil))))) []), none, some (.ints .i64 []), some (.recs (.int .i64 (.int .i64 (.int .i64 (.int .i64 (.bool .nil))))) []), none, none, some (.recs (.int .i64 (.int .i64 (.int .i64 (.int .i64 (.ints .i64 (.recs (.int .i64 (.int .i64 (.int .i64 (.int .i64 (.bool .nil))))) (.int .i64 (.int .i64 (.int .i64 (.int .i64 .nil)))))))))) [])]] ok_beg) FsOk.nil rfl) Try.func39 rfl rfl fun xs h p hp => ?_
  unfold c_new at hp
  split at hp
  · cases hp
    exact ⟨lee_le rfl, fun hC _ => x_new _ _ hC⟩
  · cases hp
end Go.Proofs.Ytodglgdenjjjgaa.AsR
