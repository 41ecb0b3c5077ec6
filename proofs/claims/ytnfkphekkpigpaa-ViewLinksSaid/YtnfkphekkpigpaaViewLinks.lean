/-
  ViewLinks: for every input the call tells true, and nothing that was there turns. No condition.
-/
import Derived.Test.YtnfkphekkpigpaaRows
import Derived.Test.YtnfkphekkpigpaaLaw
import Derived.Test.YtnfkphekkpigpaaRyIn
import Derived.Test.YtnfkphekkpigpaaRyZ
import Derived.Test.YtnfkphekkpigpaaRyOp
import Derived.Test.YtnfkphekkpigpaaViQ
namespace Go.Proofs.Ytnfkphekkpigpaa.ViewLinks
open Go Go.Proofs.Ytnfkphekkpigpaa.Ry Go.Proofs.Ytnfkphekkpigpaa.Law Go.Proofs.Ytnfkphekkpigpaa.ViQ Go.Proofs.Ytnfkphekkpigpaa.Cmp Go.Proofs.Ytnfkphekkpigpaa.ViR Go.Proofs.Ytnfkphekkpigpaa.ViC Go.Proofs.Ytnfkphekkpigpaa.ViS Go.Proofs.Ytnfkphekkpigpaa.ViL Go.Proofs.Ytnfkphekkpigpaa.ViT Go.Proofs.Ytnfkphekkpigpaa.ViQ
open Go.ChangeShapes Go.WideShapes Go.ChangeAt Go.Joins Go.RowKit
structure XG where
  i : Int
def gM (l : List E) (y : XG) : Nat := l.length - y.i.toNat
def gQ (l : List E) (y : XG) : Prop := 0 ≤ y.i ∧ y.i ≤ l.length
def gR (n : Nat) (st : St) : XG := ⟨slotI st n⟩
theorem g_step {l : List E} (hl : l.length ≤ 1000000) {i : Int} (hq : gQ l ⟨i⟩) (h : i < l.length) : stdBin .add .i64 i 1 = i + 1 ∧ gM l ⟨i + 1⟩ < gM l ⟨i⟩ ∧ gQ l ⟨i + 1⟩ := by
  obtain ⟨h0, h1⟩ := hq
  simp only at h0 h1
  exact ⟨by rw [b_add, wr _ (by omega) (by omega)], by simp only [gM]; omega, by simp only; omega, by simp only; omega⟩
noncomputable def lkI (n : List Int) (l a b : List E) (c : List E) (e : Int) (y : XG) : St := stOf Try.f4.ntmps [(1, .ptr 1 0), (3, .sl none (.recs (.int .i64 (.int .i64 (.int .i64 (.int .i64 (.bool .nil))))) a)), (4, .val (.int .i64 e)), (5, .sl none (.recs (.int .i64 (.int .i64 (.int .i64 (.int .i64 (.bool .nil))))) b)), (6, .val (.int .i64 e)), (7, .sl none (.recs (.int .i64 (.int .i64 (.int .i64 .nil))) c)), (8, .val (.int .i64 e)), (9, .val (.int .i64 y.i))] [(1, .cells 25 [.sl none (.ints .i64 n), .sl none (.recs (.int .i64 (.int .i64 (.int .i64 (.int .i64 (.bool .nil))))) l)])] [Any]
set_option maxHeartbeats 4000000 in
set_option cbv.maxSteps 4000000 in
set_option maxRecDepth 100000 in
theorem x_law (a0 : E) (_ : sized [.agg (shCells Ar.std (.ints .i64 (.recs (.int .i64 (.int .i64 (.int .i64 (.int .i64 (.bool .nil))))) .nil)) a0 0 2)]) : Does [(15, c_vlight Vm.std), (23, c_inner ViL.Vl.std), (24, c_outer ViL.Vl.std), (25, c_bound ViL.Vl.std), (19, c_vmay ViC.Vc.std), (26, c_vedge ViL.Vl.std), (27, c_redge Vm.std), (28, c_rlinks ViS.Vq.std), (29, c_rinner Vm.std), (30, c_router Vm.std), (32, c_rbound Vm.std), (31, c_resame Vm.std), (16, c_vawake Vm.std)] Try.f4 [.agg (shCells Ar.std (.ints .i64 (.recs (.int .i64 (.int .i64 (.int .i64 (.int .i64 (.bool .nil))))) .nil)) a0 0 2)] [] ⟨True, .sa (B true), [], [Any]⟩ := by
  intro b gv
  have f1 : mayV (rl a0 0) (rr a0 1) = true → inV (rl a0 0) (rr a0 1) = rinF (rr a0 1) ∧ boV (rl a0 0) (rr a0 1) = boF (rinF (rr a0 1)) ∧ ouV (rl a0 0) (rr a0 1) = ouF (rl a0 0) (rr a0 1) ∧ chV (rl a0 0) (rr a0 1) = 0 ∧ (rinF (rr a0 1)).length ≤ (rr a0 1).length ∧ (boF (rinF (rr a0 1))).length ≤ (rinF (rr a0 1)).length := fun h => ⟨by rw [in_eq h]; exact if_pos h, by rw [in_eq h]; exact if_pos h, if_pos h, if_pos h, by rw [in_eq h]; exact in_len _, bo_len _⟩
  have f2 : ¬ mayV (rl a0 0) (rr a0 1) = true → inV (rl a0 0) (rr a0 1) = [] ∧ boV (rl a0 0) (rr a0 1) = [] ∧ ouV (rl a0 0) (rr a0 1) = [] ∧ chV (rl a0 0) (rr a0 1) = 1 := fun h => ⟨if_neg h, if_neg h, if_neg h, if_neg h⟩
  have f3 : (ouF (rl a0 0) (rr a0 1)).length ≤ (rr a0 1).length := fm_len (ou1_len _) _
  have f4 : ∀ p, sameK p p = true := fun p => by unfold sameK; exact decide_eq_true rfl
  have f5 : ∀ p, sameE3 p p = true := fun p => decide_eq_true rfl
  have f6 : liV (rl a0 0) (rr a0 1) = true → (rl a0 0).length ≤ 70 ∧ (rr a0 1).length ≤ 200 := fun h => of_decide_eq_true h
  have hfs := (FsOk.cons ok_vlight (FsOk.cons ok_inner (FsOk.cons ok_outer (FsOk.cons ok_bound (FsOk.cons ok_vmay (FsOk.cons ok_vedge (FsOk.cons ok_redge (FsOk.cons ok_rlinks (FsOk.cons ok_rinner (FsOk.cons ok_router (FsOk.cons ok_rbound (FsOk.cons ok_resame (FsOk.cons ok_vawake FsOk.nil rfl) rfl) rfl) rfl) rfl) rfl) rfl) rfl) rfl) rfl) rfl) rfl) rfl)
  generalize hF : ViQ.Vm.std = F at hfs ⊢
  generalize hG0 : ViC.Vc.std = G0 at hfs ⊢
  generalize hG1 : ViS.Vq.std = G1 at hfs ⊢
  generalize hG2 : ViL.Vl.std = G2 at hfs ⊢
  generalize hA : Ar.std = A
  generalize hL : Lp _ _ _ = L
  obtain ⟨Z, zq⟩ := z_all
  refine cd_open (lp_mono hL) zq rfl ?_
  repeat' (first
    | (refine z_open zq ?_; try dsimp only)
    | refine cd_seq zq ?_ (lp_mono hL)
    | refine cd_blk zq ?_
    | refine cd_ret ?_
    | refine cd_skip ?_
    | refine cd_exit ?_
    | refine cd_loop ?_
    | refine cd_cond rfl ?_
    | refine cd_condT rfl ?_
    | refine cd_condF rfl ?_
    | (refine Cd.mk ?_; cbv)
    | (refine Ends1.mk ?_; cbv)
    | (refine Fin1.mk ?_; cbv)
    | exact trivial
    | refine And.intro ?_ ?_
    | refine orf fun _ => ?_
    | refine ort fun _ => ?_)
  all_goals first | (show L _ _ _; skip) | (clear hL hfs zq Z; subst hA hF hG0 hG1 hG2; simp only [ViQ.Vm.std, ViC.Vc.std, ViL.Vl.std, Ar.std] at * <;> grind [stdCmp]; done)
  rename_i hx1 hx2
  have hv : liV (rl a0 0) (rr a0 1) = true ∧ mayV (rl a0 0) (rr a0 1) = true := by
    clear hL hfs zq Z
    subst hA hF hG0 hG1 hG2
    simp only [ViQ.Vm.std, ViC.Vc.std, Ar.std] at *
    grind [stdCmp]
  clear hx1 hx2
  obtain ⟨f1a, f1b, f1c, f1d, f1e, f1f⟩ := f1 hv.2
  obtain ⟨f6a, f6b⟩ := f6 hv.1
  clear f1 f2 f6
  subst hL
  refine loop_z (cx_ok hfs) (gQ (rr a0 1)) (lkI (A.rl a0 0) (A.rr a0 1) (G2.l_in (A.rl a0 0) (A.rr a0 1)) (G2.l_ou (A.rl a0 0) (A.rr a0 1)) (G2.l_bo (A.rl a0 0) (A.rr a0 1)) (G2.l_ch (A.rl a0 0) (A.rr a0 1))) (gM (rr a0 1)) (gR 9) ⟨0⟩ ?_ ?_ ?_
  · exact ⟨Int.le_refl 0, Int.natCast_nonneg _⟩
  · cbv
    repeat' (first | exact trivial | exact rfl | refine And.intro ?_ ?_)
  rintro ⟨i⟩ hq O hO
  have hst := fun h => g_step (by omega) hq h
  have q0 := hq.1
  have q1 := hq.2
  dsimp only at q0 q1
  subst hA
  generalize hA : Ar.std = A
  generalize hL : Lp _ _ _ = L
  refine cd_close zq ?_
  repeat' (first
    | (refine z_open zq ?_; try dsimp only)
    | refine cd_seq zq ?_ (lp_mono hL)
    | refine cd_blk zq ?_
    | refine cd_ret ?_
    | refine cd_skip ?_
    | refine cd_exit ?_
    | refine cd_loop ?_
    | refine cd_cond rfl ?_
    | refine cd_condT rfl ?_
    | refine cd_condF rfl ?_
    | (refine Cd.mk ?_; cbv)
    | (refine Ends1.mk ?_; cbv)
    | (refine Fin1.mk ?_; cbv)
    | exact trivial
    | refine And.intro ?_ ?_
    | refine orf fun _ => ?_
    | refine ort fun _ => ?_)
  all_goals (clear hL hfs zq Z hq; subst hA hF hG0 hG1 hG2 hO; simp only [ViQ.Vm.std, ViS.Vq.std, ViL.Vl.std, Ar.std] at * <;> grind [stdCmp])
theorem walk (a0 : E) (v0 : Value) (w : World) (r0 : (SA.agg (shCells Ar.std (.ints .i64 (.recs (.int .i64 (.int .i64 (.int .i64 (.int .i64 (.bool .nil))))) .nil)) a0 0 2)).is (G0 w) v0) (_ : wfS (.ints .i64 (.recs (.int .i64 (.int .i64 (.int .i64 (.int .i64 (.bool .nil))))) .nil)) a0 0) : Calls Try.prog 4 #[v0] w (Law.Yes w) :=
  yes_of (FsOk.cons ok_vlight (FsOk.cons ok_inner (FsOk.cons ok_outer (FsOk.cons ok_bound (FsOk.cons ok_vmay (FsOk.cons ok_vedge (FsOk.cons ok_redge (FsOk.cons ok_rlinks (FsOk.cons ok_rinner (FsOk.cons ok_router (FsOk.cons ok_rbound (FsOk.cons ok_resame (FsOk.cons ok_vawake FsOk.nil rfl) rfl) rfl) rfl) rfl) rfl) rfl) rfl) rfl) rfl) rfl) rfl) rfl) Try.func4 rfl (vs := [v0]) (by exact ⟨r0, trivial⟩) (lee_le rfl) fun hZ => x_law a0 hZ
theorem own : ownKnob Try.prog.godebug = none := by kernel_rfl
theorem laidOut : laidOutB Try.prog = true := by kernel_rfl
set_option maxRecDepth 100000 in
theorem lifted (os : Os) (started : os.Started) (H : Type) (enc : TypeId × Value → H) :
    ReturnsInHanded {} Try.checked os 4 .any (Rows.viewLinksSpec.pre6 enc Try.prog Try.f4 Rows.viewLinksRow.domain false) (Rows.viewLinksSpec.post enc Try.prog Try.f4 false true false false) := by
  refine returnsInHanded_of_change_sized (C := Try.checked) own started (by kernel_rfl) Try.func4
    (ChangeSpec.witness6 (enc := enc) (C := Try.checked) false ⟨#[], #[.agg #[.slice none 0 0, .slice none 0 0]], []⟩ 8 (by kernel_rfl) (by kernel_rfl) (by kernel_rfl) (by kernel_rfl)) ?_
  intro W base args ds gs before hval0 hW _ hz _
  have hval : ∀ (j : Nat) t v, Try.f4.params[j]? = some t → args[j]? = some v → Value.okWide Try.prog W .any base t v := hval0
  have hW' := hW
  obtain ⟨p, q, hA0, hV, rfl, _, _⟩ := hW
  have hA : DataW.TrodAll enc Try.prog W 0 (fun _ => true) true Try.f4.params.toList args.toList ds p := hA0
  rw [Try.params4] at hA hval
  obtain ⟨v0, d0, rfl, rfl, h0⟩ := trodAll_one hA
  obtain ⟨rfl, rfl⟩ := trodVars_none hV
  obtain ⟨a0, r0, w0⟩ := agg_any (s := .ints .i64 (.recs (.int .i64 (.int .i64 (.int .i64 (.int .i64 (.bool .nil))))) .nil)) (by rw [Try.underlying25]) (by kernel_rfl) (by kernel_rfl) (hval 0 25 v0 rfl rfl) h0
  refine (walk a0 v0 W r0 w0).mono fun e W' ⟨he, hb⟩ => ?_
  subst he
  exact ⟨_, rfl, law_post laidOut (by kernel_rfl) (by kernel_rfl) Try.underlying4 rfl hW' rfl hb⟩
theorem proved : Rows.ViewLinksSaid :=
  OpenClaim.holds_of_wide 4 Try.f4 rfl rfl rfl rfl rfl rfl rfl ⟨rfl, rfl, rfl, rfl, rfl⟩ rfl rfl rfl rfl rfl (by kernel_rfl) Try.func4 (by kernel_rfl)
    (of_decide_eq_true (by kernel_rfl)) (by unfold Func.isWrapper; first | (rw [if_pos (by decide +kernel)]; kernel_rfl) | (rw [if_neg (by decide +kernel)]; exact ⟨rfl, rfl⟩))
    (fun os started H enc _ => lifted os started H enc)
end Go.Proofs.Ytnfkphekkpigpaa.ViewLinks
