/-
  TreeSwaps: for every input the call tells true, and nothing that was there turns. No condition.
-/
import Derived.Test.YtamkgdiknlpooaaRows
import Derived.Test.YtamkgdiknlpooaaLaw
import Derived.Test.YtamkgdiknlpooaaRyIn
import Derived.Test.YtamkgdiknlpooaaRyZ
import Derived.Test.YtamkgdiknlpooaaRyOp
import Derived.Test.YtamkgdiknlpooaaTrX
namespace Go.Proofs.Ytamkgdiknlpooaa.TreeSwaps
open Go Go.Proofs.Ytamkgdiknlpooaa.Ry Go.Proofs.Ytamkgdiknlpooaa.Law Go.Proofs.Ytamkgdiknlpooaa.TrX Go.Proofs.Ytamkgdiknlpooaa.So Go.Proofs.Ytamkgdiknlpooaa.JoS Go.Proofs.Ytamkgdiknlpooaa.EcX Go.Proofs.Ytamkgdiknlpooaa.EgR Go.Proofs.Ytamkgdiknlpooaa.EgL Go.Proofs.Ytamkgdiknlpooaa.SpR Go.Proofs.Ytamkgdiknlpooaa.SpQ Go.Proofs.Ytamkgdiknlpooaa.SpK Go.Proofs.Ytamkgdiknlpooaa.SpT Go.Proofs.Ytamkgdiknlpooaa.SpL Go.Proofs.Ytamkgdiknlpooaa.SpN Go.Proofs.Ytamkgdiknlpooaa.TrK Go.Proofs.Ytamkgdiknlpooaa.TrB Go.Proofs.Ytamkgdiknlpooaa.TrR Go.Proofs.Ytamkgdiknlpooaa.TrC Go.Proofs.Ytamkgdiknlpooaa.TrQ Go.Proofs.Ytamkgdiknlpooaa.TrW Go.Proofs.Ytamkgdiknlpooaa.TrX
open Go.ChangeShapes Go.WideShapes Go.ChangeAt Go.Joins Go.RowKit
structure XW where
  i : Int
  o : List E
def wQ (l : List E) (h : T) (e : E) (y : XW) : Prop := 0 ≤ y.i ∧ y.i ≤ l.length ∧ y.o = e3 e :: butF (l.take y.i.toNat) h
def wM (l : List E) (y : XW) : Nat := l.length - y.i.toNat
noncomputable def wI (l : List E) (e0 e1 e2 h0 h1 h2 : Int) (y : XW) : St := stOf Try.f13.ntmps [(0, .sl none (.recs (.int .i64 (.int .i64 (.int .i64 .nil))) l)), (3, .ptr 1 0), (5, .ptr 2 0), (7, .sl (some (3, 36)) (.recs (.int .i64 (.int .i64 (.int .i64 .nil))) y.o)), (8, .val (.int .i64 y.i))] [(1, .cells 36 [.val (.int .i64 e0), .val (.int .i64 e1), .val (.int .i64 e2)]), (2, .cells 36 [.val (.int .i64 h0), .val (.int .i64 h1), .val (.int .i64 h2)]), (3, .tok)] [Any, Any]
def wR (st : St) : XW := ⟨slotI st 8, ctR (match slotC st 7 with | .sl _ c => c | _ => .recs .nil [])⟩
theorem w_step {l : List E} {h : T} {e : E} (hl : l.length ≤ 60) {i : Int} {o : List E} (hq : wQ l h e ⟨i, o⟩) : 0 ≤ i ∧ i ≤ l.length ∧ o.length ≤ 1000000 ∧ (i < l.length → l.getD i.toNat [] ∈ l ∧ stdBin .add .i64 i 1 = i + 1 ∧ (∀ p, wM l ⟨i + 1, p⟩ < wM l ⟨i, o⟩) ∧
    (ri (l.getD i.toNat []) 0 = h.1 ∧ ri (l.getD i.toNat []) 1 = h.2.1 ∧ ri (l.getD i.toNat []) 2 = h.2.2 → wQ l h e ⟨i + 1, o⟩) ∧ (¬ (ri (l.getD i.toNat []) 0 = h.1 ∧ ri (l.getD i.toNat []) 1 = h.2.1 ∧ ri (l.getD i.toNat []) 2 = h.2.2) → wQ l h e ⟨i + 1, o ++ [[D.int (ri (l.getD i.toNat []) 0), D.int (ri (l.getD i.toNat []) 1), D.int (ri (l.getD i.toNat []) 2)]]⟩)) ∧ (¬ i < l.length → o = e3 e :: butF l h) := by
  obtain ⟨h0, h1, h2⟩ := hq
  simp only at h0 h1 h2
  have hle := but_len (l.take i.toNat) h
  rw [List.length_take] at hle
  refine ⟨h0, h1, by rw [h2, List.length_cons]; omega, fun k => ⟨pl_mem h0 k, by rw [b_add, wr _ (by omega) (by omega)], fun p => by simp only [wM]; omega, fun g => ⟨by simp only; omega, by simp only; omega, ?_⟩, fun g => ⟨by simp only; omega, by simp only; omega, ?_⟩⟩, fun k => ?_⟩
  · simp only
    rw [wo_next h0 k, if_pos ((tr_is _ _ _ _).2 g), List.append_nil]
    exact h2
  · simp only
    rw [wo_next h0 k, if_neg (fun w => g ((tr_is _ _ _ _).1 w)), h2]
    rfl
  · have e : i = l.length := by omega
    rw [e, Int.toNat_natCast, List.take_length] at h2
    exact h2
structure XV where
  i : Int
def vQ (y : XV) : Prop := 1 ≤ y.i ∧ y.i ≤ 12
def vM (y : XV) : Nat := 12 - y.i.toNat
noncomputable def vI (l : List E) (e0 e1 e2 h0 h1 h2 : Int) (o : List E) (y : XV) : St := stOf Try.f13.ntmps [(0, .sl none (.recs (.int .i64 (.int .i64 (.int .i64 .nil))) l)), (3, .ptr 1 0), (5, .ptr 2 0), (7, .sl (some (3, 36)) (.recs (.int .i64 (.int .i64 (.int .i64 .nil))) o)), (9, .val (.int .i64 y.i))] [(1, .cells 36 [.val (.int .i64 e0), .val (.int .i64 e1), .val (.int .i64 e2)]), (2, .cells 36 [.val (.int .i64 h0), .val (.int .i64 h1), .val (.int .i64 h2)]), (3, .tok)] [Any, Any]
def vR (st : St) : XV := ⟨slotI st 9⟩
theorem v_step {i : Int} (hq : vQ ⟨i⟩) : 1 ≤ i ∧ i ≤ 12 ∧ (i < 12 → stdBin .add .i64 i 1 = i + 1 ∧ vQ ⟨i + 1⟩ ∧ vM ⟨i + 1⟩ < vM ⟨i⟩) := by
  obtain ⟨h0, h1⟩ := hq
  simp only at h0 h1
  exact ⟨h0, h1, fun k => ⟨by rw [b_add, wr _ (by omega) (by omega)], ⟨by simp only; omega, by simp only; omega⟩, by simp only [vM]; omega⟩⟩
set_option maxHeartbeats 4000000 in
set_option cbv.maxSteps 4000000 in
set_option maxRecDepth 100000 in
theorem x_law (a0 : List E) (a1 : E) (_ : sized [.one (.sl none (.recs (.int .i64 (.int .i64 (.int .i64 .nil))) a0)), .agg (shCells Ar.std (.int .i64 (.int .i64 (.int .i64 .nil))) a1 0 3)]) : Does [(41, c_theavy TrQ.Tq.std), (42, c_rmay TrQ.Tq.std), (51, c_remay EgR.Fs.std), (34, c_rlinked SpQ.Sq.std), (30, c_rforest SpQ.Sq.std), (38, c_tawake Tx.std)] Try.f13 [.one (.sl none (.recs (.int .i64 (.int .i64 (.int .i64 .nil))) a0)), .agg (shCells Ar.std (.int .i64 (.int .i64 (.int .i64 .nil))) a1 0 3)] [] ⟨True, .sa (B true), [], [Any, Any]⟩ := by
  intro b gv
  have f1 := fun h k => (ways_all a0 (ri a1 0) (ri a1 1)).2.2.1 h k
  have f7 : mayR a0 (ri a1 0) (ri a1 1) = true → a0.length ≤ 1000000 → inR a0 = true := fun h k => in_R (all_good (for_fo (ck_0 (may_ck.1 h)).2.2).1) k
  have f8 : mayR a0 (ri a1 0) (ri a1 1) = true → ckF a0 (ri a1 0) (ri a1 1) = 0 := fun h => may_ck.1 h
  have f9 := fun h k g => sw_all (l := a0) (e := a1) h k g
  have hfs := (FsOk.cons ok_theavy (FsOk.cons ok_rmay (FsOk.cons ok_remay (FsOk.cons ok_rlinked (FsOk.cons ok_rforest (FsOk.cons ok_tawake FsOk.nil rfl) rfl) rfl) rfl) rfl) rfl)
  generalize hF : TrX.Tx.std = F at hfs ⊢
  generalize hG0 : TrR.Tr.std = G0 at hfs ⊢
  generalize hG1 : TrQ.Tq.std = G1 at hfs ⊢
  generalize hG2 : TrW.Tw.std = G2 at hfs ⊢
  generalize hG3 : SpQ.Sq.std = G3 at hfs ⊢
  generalize hG4 : EgR.Fs.std = G4 at hfs ⊢
  generalize hA : Ar.std = A
  generalize hL : Lp _ _ _ = L
  obtain ⟨Z, zq⟩ := z_all
  refine cd_open (lp_mono hL) zq rfl ?_
  repeat' (first
    | (refine z_open zq ?_; try dsimp only)
    | refine cd_seq zq ?_ (lp_mono hL)
    | refine cd_blk zq ?_
    | refine cd_ret ?_
    | refine cd_skip ?_
    | refine cd_exit ?_
    | refine cd_loop ?_
    | refine cd_cond rfl ?_
    | refine cd_condT rfl ?_
    | refine cd_condF rfl ?_
    | (refine Cd.mk ?_; cbv)
    | (refine Ends1.mk ?_; cbv)
    | (refine Fin1.mk ?_; cbv)
    | exact trivial
    | refine And.intro ?_ ?_
    | refine orf fun _ => ?_
    | refine ort fun _ => ?_)
  all_goals first | (show L _ _ _; skip) | (clear hL hfs zq Z; subst hA hF hG0 hG1 hG2 hG3 hG4; simp only [TrQ.Tq.std, SpQ.Sq.std, EgR.Fs.std, Ar.std] at * <;> grind [stdCmp, may1]; done)
  rename_i hx1 hx2
  have hr : a0.length ≤ 60 ∧ may1 a1 = true ∧ ckF a0 (ri a1 0) (ri a1 1) = 0 ∧ lkR a0 (ri a1 0) (ri a1 1) = true ∧ inR a0 = true := by
    clear hL hfs zq Z
    subst hA hF hG0 hG1 hG2 hG3 hG4
    simp only [TrQ.Tq.std, SpQ.Sq.std, EgR.Fs.std, Ar.std] at *
    grind [stdCmp, may1]
  clear hx1 hx2
  obtain ⟨s1, s2, s3, s4, s5⟩ := f9 hr.2.1 hr.2.2.1 hr.2.2.2.1
  have hin := hr.2.2.2.2
  clear f1 f7 f8 f9
  have hno : ∀ y ∈ a0, ri y 0 = ri a1 0 → ri y 1 = ri a1 1 → ri y 0 = (hvB a0 (ri a1 0) (ri a1 1)).1 ∧ ri y 1 = (hvB a0 (ri a1 0) (ri a1 1)).2.1 ∧ ri y 2 = (hvB a0 (ri a1 0) (ri a1 1)).2.2 := fun y hy g k => (tr_is _ _ _ _).1 (s2 y hy ⟨g, k⟩)
  subst hL
  refine loop_z (cx_ok hfs) (wQ a0 (hvB a0 (ri a1 0) (ri a1 1)) a1) (wI a0 (A.ri a1 0) (A.ri a1 1) (A.ri a1 2) (G1.q_hv a0 (A.ri a1 0) (A.ri a1 1)).1 (G1.q_hv a0 (A.ri a1 0) (A.ri a1 1)).2.1 (G1.q_hv a0 (A.ri a1 0) (A.ri a1 1)).2.2) (wM a0) wR ⟨0, [[D.int (A.ri a1 0), D.int (A.ri a1 1), D.int (A.ri a1 2)]]⟩ ?_ ?_ ?_
  · (subst hA; exact ⟨Int.le_refl 0, Int.natCast_nonneg _, rfl⟩)
  · cbv
    repeat' (first | exact trivial | exact rfl | refine And.intro ?_ ?_)
  rintro ⟨i, o⟩ hq O hO
  have hst := w_step hr.1 hq
  subst hA
  generalize hA : Ar.std = A
  generalize hL : Lp _ _ _ = L
  refine cd_close zq ?_
  repeat' (first
    | (refine z_open zq ?_; try dsimp only)
    | refine cd_seq zq ?_ (lp_mono hL)
    | refine cd_blk zq ?_
    | refine cd_ret ?_
    | refine cd_skip ?_
    | refine cd_exit ?_
    | refine cd_loop ?_
    | refine cd_cond rfl ?_
    | refine cd_condT rfl ?_
    | refine cd_condF rfl ?_
    | (refine Cd.mk ?_; cbv)
    | (refine Ends1.mk ?_; cbv)
    | (refine Fin1.mk ?_; cbv)
    | exact trivial
    | refine And.intro ?_ ?_
    | refine orf fun _ => ?_
    | refine ort fun _ => ?_)
  all_goals first | (show L _ _ _; skip) | (clear hL hfs zq Z hq; subst hA hF hG0 hG1 hG2 hG3 hG4 hO; simp only [TrQ.Tq.std, SpQ.Sq.std, Ar.std] at * <;> grind [stdCmp]; done)
  rename_i hx
  have ho : o = e3 a1 :: butF a0 (hvB a0 (ri a1 0) (ri a1 1)) := by
    clear hL hfs zq Z hO hq
    subst hA hF hG0 hG1 hG2 hG3 hG4
    simp only [SpQ.Sq.std, Ar.std] at *
    grind [stdCmp]
  clear hx hst
  rw [← ho] at s3 s4 s5
  subst hL
  refine loop_z (cx_ok hfs) (vQ) (vI a0 (A.ri a1 0) (A.ri a1 1) (A.ri a1 2) (G1.q_hv a0 (A.ri a1 0) (A.ri a1 1)).1 (G1.q_hv a0 (A.ri a1 0) (A.ri a1 1)).2.1 (G1.q_hv a0 (A.ri a1 0) (A.ri a1 1)).2.2 o) (vM) vR ⟨1⟩ ?_ ?_ ?_
  · exact ⟨Int.le_refl 1, by decide⟩
  · cbv
    repeat' (first | exact trivial | exact rfl | refine And.intro ?_ ?_)
  rintro ⟨j⟩ hq2 O2 hO2
  have hs2 := v_step hq2
  subst hA
  generalize hA : Ar.std = A
  generalize hL : Lp _ _ _ = L
  refine cd_close zq ?_
  repeat' (first
    | (refine z_open zq ?_; try dsimp only)
    | refine cd_seq zq ?_ (lp_mono hL)
    | refine cd_blk zq ?_
    | refine cd_ret ?_
    | refine cd_skip ?_
    | refine cd_exit ?_
    | refine cd_loop ?_
    | refine cd_cond rfl ?_
    | refine cd_condT rfl ?_
    | refine cd_condF rfl ?_
    | (refine Cd.mk ?_; cbv)
    | (refine Ends1.mk ?_; cbv)
    | (refine Fin1.mk ?_; cbv)
    | exact trivial
    | refine And.intro ?_ ?_
    | refine orf fun _ => ?_
    | refine ort fun _ => ?_)
  all_goals (clear hL hfs zq Z hq hq2 ho; subst hA hF hG0 hG1 hG2 hG3 hG4 hO hO2; simp only [SpQ.Sq.std, Ar.std] at * <;> grind [stdCmp])
theorem walk (a0 : List E) (a1 : E) (A0 : Option Addr) (n0 c0 : Nat) (v1 : Value) (w : World) (r0 : (SC.sl none (.recs (.int .i64 (.int .i64 (.int .i64 .nil))) a0)).is (G0 w) (.slice A0 n0 c0)) (_ : ∀ y ∈ a0, wfS (.int .i64 (.int .i64 (.int .i64 .nil))) y 0) (_ : a0.length ≤ 140737488355328) (r1 : (SA.agg (shCells Ar.std (.int .i64 (.int .i64 (.int .i64 .nil))) a1 0 3)).is (G0 w) v1) (_ : wfS (.int .i64 (.int .i64 (.int .i64 .nil))) a1 0) : Calls Try.prog 13 #[.slice A0 n0 c0, v1] w (Law.Yes w) :=
  yes_of (FsOk.cons ok_theavy (FsOk.cons ok_rmay (FsOk.cons ok_remay (FsOk.cons ok_rlinked (FsOk.cons ok_rforest (FsOk.cons ok_tawake FsOk.nil rfl) rfl) rfl) rfl) rfl) rfl) Try.func13 rfl (vs := [.slice A0 n0 c0, v1]) (by exact ⟨r0, r1, trivial⟩) (lee_le rfl) fun hZ => x_law a0 a1 hZ
theorem own : ownKnob Try.prog.godebug = none := by kernel_rfl
theorem laidOut : laidOutB Try.prog = true := by kernel_rfl
set_option maxRecDepth 100000 in
theorem lifted (os : Os) (started : os.Started) (H : Type) (enc : TypeId × Value → H) :
    ReturnsInHanded {} Try.checked os 13 .any (Rows.treeSwapsSpec.pre6 enc Try.prog Try.f13 Rows.treeSwapsRow.domain false) (Rows.treeSwapsSpec.post enc Try.prog Try.f13 false true false false) := by
  refine returnsInHanded_of_change_sized (C := Try.checked) own started (by kernel_rfl) Try.func13
    (ChangeSpec.witness6 (enc := enc) (C := Try.checked) false ⟨#[], #[.slice none 0 0, .agg #[.int .i64 0, .int .i64 0, .int .i64 0]], []⟩ 8 (by kernel_rfl) (by kernel_rfl) (by kernel_rfl) (by kernel_rfl)) ?_
  intro W base args ds gs before hval0 hW _ hz _
  have hval : ∀ (j : Nat) t v, Try.f13.params[j]? = some t → args[j]? = some v → Value.okWide Try.prog W .any base t v := hval0
  have hW' := hW
  obtain ⟨p, q, hA0, hV, rfl, _, _⟩ := hW
  have hA : DataW.TrodAll enc Try.prog W 0 (fun _ => true) true Try.f13.params.toList args.toList ds p := hA0
  rw [Try.params13] at hA hval
  obtain ⟨v0, v1, d0, d1, p0, p1, rfl, rfl, rfl, h0, h1⟩ := trodAll_two hA
  obtain ⟨rfl, rfl⟩ := trodVars_none hV
  obtain ⟨A0, n0, c0, a0, rfl, l0, r0, w0⟩ := sl_any (s := .int .i64 (.int .i64 (.int .i64 .nil))) Try.underlying22 (by kernel_rfl) (by kernel_rfl) (hval 0 22 v0 rfl rfl) h0
  have s0 : a0.length ≤ 140737488355328 := by rw [l0]; exact short_of Try.underlying22 (by decide +kernel) hz (j := 0) rfl rfl h0
  obtain ⟨a1, r1, w1⟩ := agg_any (s := .int .i64 (.int .i64 (.int .i64 .nil))) (by rw [Try.underlying36]) (by kernel_rfl) (by kernel_rfl) (hval 1 36 v1 rfl rfl) h1
  refine (walk a0 a1 A0 n0 c0 v1 W r0 w0 s0 r1 w1).mono fun e W' ⟨he, hb⟩ => ?_
  subst he
  exact ⟨_, rfl, law_post laidOut (by kernel_rfl) (by kernel_rfl) Try.underlying4 rfl hW' rfl hb⟩
theorem proved : Rows.TreeSwapsSaid :=
  OpenClaim.holds_of_wide 13 Try.f13 rfl rfl rfl rfl rfl rfl rfl ⟨rfl, rfl, rfl, rfl, rfl⟩ rfl rfl rfl rfl rfl (by kernel_rfl) Try.func13 (by kernel_rfl)
    (of_decide_eq_true (by kernel_rfl)) (by unfold Func.isWrapper; first | (rw [if_pos (by decide +kernel)]; kernel_rfl) | (rw [if_neg (by decide +kernel)]; exact ⟨rfl, rfl⟩))
    (fun os started H enc _ => lifted os started H enc)
end Go.Proofs.Ytamkgdiknlpooaa.TreeSwaps
