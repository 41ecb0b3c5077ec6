/-
  ChooseEnds: for every input the call tells true, and nothing that was there turns. No condition.
-/
import Derived.Test.YtfioaidmgcibaaaRows
import Derived.Test.YtfioaidmgcibaaaLaw
import Derived.Test.YtfioaidmgcibaaaRyIn
import Derived.Test.YtfioaidmgcibaaaRyZ
import Derived.Test.YtfioaidmgcibaaaRyOp
import Derived.Test.YtfioaidmgcibaaaCeR
namespace Go.Proofs.Ytfioaidmgcibaaa.ChooseEnds
open Go Go.Proofs.Ytfioaidmgcibaaa.Ry Go.Proofs.Ytfioaidmgcibaaa.Law Go.Proofs.Ytfioaidmgcibaaa.CeR Go.Proofs.Ytfioaidmgcibaaa.EgR Go.Proofs.Ytfioaidmgcibaaa.EgL Go.Proofs.Ytfioaidmgcibaaa.SpK Go.Proofs.Ytfioaidmgcibaaa.SpT Go.Proofs.Ytfioaidmgcibaaa.SpL Go.Proofs.Ytfioaidmgcibaaa.SpN Go.Proofs.Ytfioaidmgcibaaa.RoV Go.Proofs.Ytfioaidmgcibaaa.CgT Go.Proofs.Ytfioaidmgcibaaa.CgR Go.Proofs.Ytfioaidmgcibaaa.CgL Go.Proofs.Ytfioaidmgcibaaa.CeT
open Go.ChangeShapes Go.WideShapes Go.ChangeAt Go.Joins Go.RowKit
open Go.Proofs.Ytfioaidmgcibaaa.SpQ (lkR inR rsB rfB c_rlinked ok_rlinked c_rforest ok_rforest)
open Go.Proofs.Ytfioaidmgcibaaa.SpO (rlB c_rleast ok_rleast c_rsort ok_rsort)
open Go.Proofs.Ytfioaidmgcibaaa.EgR (c_rcheck ok_rcheck c_esame ok_esame)
open Go.Proofs.Ytfioaidmgcibaaa.CgR (c_rnodes ok_rnodes)
open Go.Proofs.Ytfioaidmgcibaaa.ChA (c_cawake ok_cawake)
noncomputable def r1I (l q : List E) (nd : List Int) (y : XO2) : St := stOf Try.f7.ntmps [(0, .sl none (.recs (.int .i64 (.int .i64 (.int .i64 .nil))) l)), (1, .sl none (.recs (.bool .nil) q)), (5, .sl none (.ints .i64 nd)), (6, .sl (some (1, 55)) (.recs (.int .i64 (.int .i64 (.int .i64 .nil))) y.o)), (7, .val (.int .i64 y.i))] [(1, .tok)] [Any, Any]
def eQ (l : List E) (y : XO2) : Prop := 0 ≤ y.i ∧ y.i + meas l y.o ≤ 2 * l.length ∧ Oth l y.o
def eM (y : XO2) : Nat := 100 - y.i.toNat
noncomputable def r2I (l : List E) (nd : List Int) (y : XO2) : St := stOf Try.f7.ntmps [(0, .sl none (.recs (.int .i64 (.int .i64 (.int .i64 .nil))) l)), (5, .sl none (.ints .i64 nd)), (6, .sl none (.recs (.int .i64 (.int .i64 (.int .i64 .nil))) y.o)), (8, .val (.int .i64 y.i))] [] [Any, Any]
def eR (st : St) : XO2 := ⟨slotI st 8, ctR (match slotC st 6 with | .sl _ c => c | _ => .recs .nil [])⟩
theorem e_all {l : List E} (ha : allE l = 0) (hl : l.length ≤ 24) {i : Int} {d : List E} (hq : eQ l ⟨i, d⟩) : 0 ≤ i ∧ i ≤ 2 * l.length ∧ l.length ≤ 24 ∧ allE l = 0 ∧ Oth l d ∧ d.length ≤ 24 ∧ stdBin .add .i64 i 1 = i + 1 ∧ stdBin .mul .i64 3 l.length = 3 * l.length ∧ stdBin .add .i64 (3 * l.length) 1 = 3 * l.length + 1 ∧ (n2L l d).length ≤ 24 ∧ okB l d = true ∧ rfB (n2L l d) = true ∧ inR (n2L l d) = true ∧ (rlB l).length ≤ 24 ∧ (rsB (n2L l d)).length ≤ 24 ∧ goodL l = true ∧ (idB l d = true → sameE (rsB (n2L l d)) (rlB l) = true) ∧ (idB l d = false → eQ l ⟨i + 1, n2L l d⟩) ∧ ∀ o, eM ⟨i + 1, o⟩ < eM ⟨i, d⟩ := by
  obtain ⟨h0, h1, h2⟩ := hq
  simp only at h0 h1 h2
  have len := oth_len ha h2
  obtain ⟨a1, a2, a3, a4, a5, a6, a7⟩ := round_ok ha hl h2
  have r1 := rl_len l
  have r2 : (rsB (n2L l d)).length = (n2L l d).length := by
    have := (rs_ok (n2L l d)).1.length_eq
    rw [List.length_map, List.length_map] at this
    exact this
  refine ⟨h0, by omega, hl, ha, h2, by omega, by rw [b_add, wr _ (by omega) (by omega)], ?_, by rw [b_add, wr _ (by omega) (by omega)], a2, a3, a4, a5, by omega, by omega, all_good ha, a6, fun h => ⟨by simp only; omega, ?_, a1⟩, fun o => by simp only [eM]; omega⟩
  · show IntKind.i64.wrap (3 * l.length) = _
    rw [wr _ (by omega) (by omega)]
  · have := a7 h
    simp only
    omega
theorem e_zero {l : List E} (ha : allE l = 0) {d : List E} (o : Oth l d) : eQ l ⟨0, d⟩ := by
  have := meas_le l d (oth_len ha o)
  exact ⟨Int.le_refl 0, by simp only; omega, o⟩
theorem ok_iff (n : List Int) (l d : List E) : okR n l d ↔ n = ndS l ∧ allE l = 0 ∧ l.length ≤ 24 ∧ Oth l d ∧ d.length ≤ 24 := Iff.rfl
set_option maxHeartbeats 4000000 in
set_option cbv.maxSteps 4000000 in
set_option maxRecDepth 100000 in
theorem x_law (a0 : List E) (a1 : List E) (_ : sized [.one (.sl none (.recs (.int .i64 (.int .i64 (.int .i64 .nil))) a0)), .one (.sl none (.recs (.bool .nil) a1))]) : Does [(27, c_rcheck EgR.Fs.std), (28, c_rnodes CgR.Cg.std), (29, c_rlinked SpQ.Sq.std), (30, c_round Ce.std), (24, c_rforest SpQ.Sq.std), (32, c_rsort SpO.Sv.std), (33, c_rleast SpO.Sv.std), (31, c_esame EgR.Fs.std), (22, c_cawake ChA.Ca.std)] Try.f7 [.one (.sl none (.recs (.int .i64 (.int .i64 (.int .i64 .nil))) a0)), .one (.sl none (.recs (.bool .nil) a1))] [] ⟨True, .sa (B true), [], [Any, Any]⟩ := by
  intro b gv
  have hfs := (FsOk.cons ok_rcheck (FsOk.cons ok_rnodes (FsOk.cons ok_rlinked (FsOk.cons ok_round (FsOk.cons ok_rforest (FsOk.cons ok_rsort (FsOk.cons ok_rleast (FsOk.cons ok_esame (FsOk.cons ok_cawake FsOk.nil rfl) rfl) rfl) rfl) rfl) rfl) rfl) rfl) rfl)
  generalize hF : CeR.Ce.std = F at hfs ⊢
  generalize hG0 : CgR.Cg.std = G0 at hfs ⊢
  generalize hG1 : EgR.Fs.std = G1 at hfs ⊢
  generalize hG2 : SpQ.Sq.std = G2 at hfs ⊢
  generalize hG3 : SpO.Sv.std = G3 at hfs ⊢
  generalize hG4 : ChA.Ca.std = G4 at hfs ⊢
  generalize hA : Ar.std = A
  generalize hL : Lp _ _ _ = L
  obtain ⟨Z, zq⟩ := z_all
  refine cd_open (lp_mono hL) zq rfl ?_
  repeat' (first
    | (refine z_open zq ?_; try dsimp only)
    | refine cd_seq zq ?_ (lp_mono hL)
    | refine cd_blk zq ?_
    | refine cd_ret ?_
    | refine cd_skip ?_
    | refine cd_exit ?_
    | refine cd_loop ?_
    | refine cd_cond rfl ?_
    | refine cd_condT rfl ?_
    | refine cd_condF rfl ?_
    | (refine Cd.mk ?_; cbv)
    | (refine Ends1.mk ?_; cbv)
    | (refine Fin1.mk ?_; cbv)
    | exact trivial
    | refine And.intro ?_ ?_
    | refine orf fun _ => ?_
    | refine ort fun _ => ?_)
  all_goals first | (show L _ _ _; skip) | (clear hL hfs zq Z; subst hA hF hG0 hG1 hG2 hG3 hG4; simp only [CgR.Cg.std, EgR.Fs.std, Ar.std] at * <;> grind [stdCmp]; done)
  rename_i hx
  have hin : a0.length ≤ 24 ∧ allE a0 = 0 := by
    clear hL hfs zq Z
    subst hA hF hG0 hG1 hG2 hG3 hG4
    simp only [EgR.Fs.std, Ar.std] at *
    grind [stdCmp]
  clear hx
  obtain ⟨hl, ha⟩ := hin
  subst hL
  refine loop_z (cx_ok hfs) (pQ a0) (r1I a0 a1 (G0.g_nd a0)) (pM a0) (pR 7 6) ⟨0, []⟩ ?_ ?_ ?_
  · exact ⟨Int.le_refl 0, Int.natCast_nonneg _, oth_0 a0, Int.le_refl 0⟩
  · cbv
    repeat' (first | exact trivial | exact rfl | refine And.intro ?_ ?_)
  rintro ⟨i, d⟩ hq O hO
  have hst := p_all ha hl hq
  subst hA
  generalize hA : Ar.std = A
  generalize hL : Lp _ _ _ = L
  refine cd_close zq ?_
  repeat' (first
    | (refine z_open zq ?_; try dsimp only)
    | refine cd_seq zq ?_ (lp_mono hL)
    | refine cd_blk zq ?_
    | refine cd_ret ?_
    | refine cd_skip ?_
    | refine cd_exit ?_
    | refine cd_loop ?_
    | refine cd_cond rfl ?_
    | refine cd_condT rfl ?_
    | refine cd_condF rfl ?_
    | (refine Cd.mk ?_; cbv)
    | (refine Ends1.mk ?_; cbv)
    | (refine Fin1.mk ?_; cbv)
    | exact trivial
    | refine And.intro ?_ ?_
    | refine orf fun _ => ?_
    | refine ort fun _ => ?_)
  all_goals first | (show L _ _ _; skip) | (clear hL hfs zq Z hq; subst hA hF hG0 hG1 hG2 hG3 hG4 hO; simp only [SpQ.Sq.std, Ar.std] at * <;> grind [stdCmp]; done)
  clear hst hO
  have ho : Oth a0 d := hq.2.2.1
  clear hq
  subst hL
  refine loop_z (cx_ok hfs) (eQ a0) (r2I a0 (G0.g_nd a0)) (eM) eR ⟨0, d⟩ ?_ ?_ ?_
  · exact e_zero ha ho
  · cbv
    repeat' (first | exact trivial | exact rfl | refine And.intro ?_ ?_)
  rintro ⟨j, d⟩ hq U hU
  have hst := e_all ha hl hq
  have hok := ok_iff (ndS a0) a0 d
  subst hA
  generalize hA : Ar.std = A
  generalize hL : Lp _ _ _ = L
  refine cd_close zq ?_
  repeat' (first
    | (refine z_open zq ?_; try dsimp only)
    | refine cd_seq zq ?_ (lp_mono hL)
    | refine cd_blk zq ?_
    | refine cd_ret ?_
    | refine cd_skip ?_
    | refine cd_exit ?_
    | refine cd_loop ?_
    | refine cd_cond rfl ?_
    | refine cd_condT rfl ?_
    | refine cd_condF rfl ?_
    | (refine Cd.mk ?_; cbv)
    | (refine Ends1.mk ?_; cbv)
    | (refine Fin1.mk ?_; cbv)
    | exact trivial
    | refine And.intro ?_ ?_
    | refine orf fun _ => ?_
    | refine ort fun _ => ?_)
  all_goals (clear hL hfs zq Z hq; subst hA hF hG0 hG1 hG2 hG3 hG4 hU; simp only [CeR.Ce.std, CgR.Cg.std, EgR.Fs.std, SpQ.Sq.std, SpO.Sv.std, Ar.std] at * <;> grind [stdCmp]; done)
theorem walk (a0 : List E) (a1 : List E) (A0 : Option Addr) (n0 c0 : Nat) (A1 : Option Addr) (n1 c1 : Nat) (w : World) (r0 : (SC.sl none (.recs (.int .i64 (.int .i64 (.int .i64 .nil))) a0)).is (G0 w) (.slice A0 n0 c0)) (_ : ∀ y ∈ a0, wfS (.int .i64 (.int .i64 (.int .i64 .nil))) y 0) (_ : a0.length ≤ 140737488355328) (r1 : (SC.sl none (.recs (.bool .nil) a1)).is (G0 w) (.slice A1 n1 c1)) (_ : ∀ y ∈ a1, wfS (.bool .nil) y 0) (_ : a1.length ≤ 140737488355328) : Calls Try.prog 7 #[.slice A0 n0 c0, .slice A1 n1 c1] w (Law.Yes w) :=
  yes_of (FsOk.cons ok_rcheck (FsOk.cons ok_rnodes (FsOk.cons ok_rlinked (FsOk.cons ok_round (FsOk.cons ok_rforest (FsOk.cons ok_rsort (FsOk.cons ok_rleast (FsOk.cons ok_esame (FsOk.cons ok_cawake FsOk.nil rfl) rfl) rfl) rfl) rfl) rfl) rfl) rfl) rfl) Try.func7 rfl (vs := [.slice A0 n0 c0, .slice A1 n1 c1]) (by exact ⟨r0, r1, trivial⟩) (lee_le rfl) fun hZ => x_law a0 a1 hZ
theorem own : ownKnob Try.prog.godebug = none := by kernel_rfl
theorem laidOut : laidOutB Try.prog = true := by kernel_rfl
set_option maxRecDepth 100000 in
theorem lifted (os : Os) (started : os.Started) (H : Type) (enc : TypeId × Value → H) :
    ReturnsInHanded {} Try.checked os 7 .any (Rows.chooseEndsSpec.pre6 enc Try.prog Try.f7 Rows.chooseEndsRow.domain false) (Rows.chooseEndsSpec.post enc Try.prog Try.f7 false true false false) := by
  refine returnsInHanded_of_change_sized (C := Try.checked) own started (by kernel_rfl) Try.func7
    (ChangeSpec.witness6 (enc := enc) (C := Try.checked) false ⟨#[], #[.slice none 0 0, .slice none 0 0], []⟩ 8 (by kernel_rfl) (by kernel_rfl) (by kernel_rfl) (by kernel_rfl)) ?_
  intro W base args ds gs before hval0 hW _ hz _
  have hval : ∀ (j : Nat) t v, Try.f7.params[j]? = some t → args[j]? = some v → Value.okWide Try.prog W .any base t v := hval0
  have hW' := hW
  obtain ⟨p, q, hA0, hV, rfl, _, _⟩ := hW
  have hA : DataW.TrodAll enc Try.prog W 0 (fun _ => true) true Try.f7.params.toList args.toList ds p := hA0
  rw [Try.params7] at hA hval
  obtain ⟨v0, v1, d0, d1, p0, p1, rfl, rfl, rfl, h0, h1⟩ := trodAll_two hA
  obtain ⟨rfl, rfl⟩ := trodVars_none hV
  obtain ⟨A0, n0, c0, a0, rfl, l0, r0, w0⟩ := sl_any (s := .int .i64 (.int .i64 (.int .i64 .nil))) Try.underlying47 (by kernel_rfl) (by kernel_rfl) (hval 0 47 v0 rfl rfl) h0
  have s0 : a0.length ≤ 140737488355328 := by rw [l0]; exact short_of Try.underlying47 (by decide +kernel) hz (j := 0) rfl rfl h0
  obtain ⟨A1, n1, c1, a1, rfl, l1, r1, w1⟩ := sl_any (s := .bool .nil) Try.underlying50 (by kernel_rfl) (by kernel_rfl) (hval 1 50 v1 rfl rfl) h1
  have s1 : a1.length ≤ 140737488355328 := by rw [l1]; exact short_of Try.underlying50 (by decide +kernel) hz (j := 1) rfl rfl h1
  refine (walk a0 a1 A0 n0 c0 A1 n1 c1 W r0 w0 s0 r1 w1 s1).mono fun e W' ⟨he, hb⟩ => ?_
  subst he
  exact ⟨_, rfl, law_post laidOut (by kernel_rfl) (by kernel_rfl) Try.underlying4 rfl hW' rfl hb⟩
theorem proved : Rows.ChooseEndsSaid :=
  OpenClaim.holds_of_wide 7 Try.f7 rfl rfl rfl rfl rfl rfl rfl ⟨rfl, rfl, rfl, rfl, rfl⟩ rfl rfl rfl rfl rfl (by kernel_rfl) Try.func7 (by kernel_rfl)
    (of_decide_eq_true (by kernel_rfl)) (by unfold Func.isWrapper; first | (rw [if_pos (by decide +kernel)]; kernel_rfl) | (rw [if_neg (by decide +kernel)]; exact ⟨rfl, rfl⟩))
    (fun os started H enc _ => lifted os started H enc)
end Go.Proofs.Ytfioaidmgcibaaa.ChooseEnds
