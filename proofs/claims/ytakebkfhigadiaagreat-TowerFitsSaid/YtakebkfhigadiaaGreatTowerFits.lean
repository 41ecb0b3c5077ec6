/-
  TowerFits: for every input the call tells true, and nothing that was there turns. No condition.
-/
import Derived.Test.YtakebkfhigadiaaGreatRows
import Derived.Test.YtakebkfhigadiaaGreatLaw
import Derived.Test.YtakebkfhigadiaaGreatRyIn
import Derived.Test.YtakebkfhigadiaaGreatRyZ
import Derived.Test.YtakebkfhigadiaaGreatRyOy
import Derived.Test.YtakebkfhigadiaaGreatTwQ
namespace Go.Proofs.YtakebkfhigadiaaGreat.TowerFits
open Go Go.Proofs.YtakebkfhigadiaaGreat.Ry Go.Proofs.YtakebkfhigadiaaGreat.Law Go.Proofs.YtakebkfhigadiaaGreat.TwQ Go.Proofs.YtakebkfhigadiaaGreat.Cmp Go.Proofs.YtakebkfhigadiaaGreat.ViR Go.Proofs.YtakebkfhigadiaaGreat.TwV Go.Proofs.YtakebkfhigadiaaGreat.TwR
open Go.ChangeShapes Go.WideShapes Go.ChangeAt Go.Joins Go.RowKit
theorem lig_len {l : List E} (h : ligB l = true) : l.length ≤ 60 := by
  unfold ligB at h
  rw [Bool.and_eq_true, decide_eq_true_eq] at h
  exact h.1
theorem okR_of {l : List E} (w : ∀ y ∈ l, wfZ (.int .i64 (.int .i64 (.int .i64 (.ints .i64 (.recs (.int .i64 (.int .i64 (.int .i64 (.int .i64 (.bool .nil))))) (.int .i64 (.int .i64 (.int .i64 (.int .i64 .nil))))))))) y 0) : okR l = true := by
  unfold okR
  rw [List.all_eq_true]
  intro y hy
  obtain ⟨_, _, _, _, h1, _, h2, _⟩ := w y hy
  exact decide_eq_true ⟨Nat.le_trans h1 (by decide), Nat.le_trans h2 (by decide)⟩
theorem okY_of {l : List E} (h : ligB l = true) (w : ∀ y ∈ l, wfZ (.int .i64 (.int .i64 (.recs (.int .i64 (.int .i64 (.int .i64 (.ints .i64 (.recs (.int .i64 (.int .i64 (.int .i64 (.int .i64 (.bool .nil))))) (.int .i64 (.int .i64 (.int .i64 (.int .i64 .nil))))))))) (.recs (.int .i64 (.int .i64 (.int .i64 (.ints .i64 (.recs (.int .i64 (.int .i64 (.int .i64 (.int .i64 (.bool .nil))))) (.int .i64 (.int .i64 (.int .i64 (.int .i64 .nil))))))))) .nil)))) y 0) : okY l = true := by
  have hl := lig_len h
  unfold ligB at h
  rw [Bool.and_eq_true] at h
  have h2 := all_iff.1 h.2
  unfold okY
  rw [decide_eq_true hl, Bool.true_and, List.all_eq_true]
  intro y hy
  obtain ⟨i, hi, rfl⟩ := List.getElem_of_mem hy
  have h3 := of_decide_eq_true (h2 i (by omega))
  rw [at_get l hi] at h3
  obtain ⟨_, _, h4, _, h5, _⟩ := w _ hy
  rw [decide_eq_true h3, okR_of h4, okR_of h5]
  rfl
set_option maxHeartbeats 4000000 in
set_option cbv.maxSteps 4000000 in
set_option maxRecDepth 100000 in
theorem x_law (a0 : E) (a1 : List E) (a2 : List E) (w1 : ∀ y ∈ a1, wfZ (.int .i64 (.int .i64 (.recs (.int .i64 (.int .i64 (.int .i64 (.ints .i64 (.recs (.int .i64 (.int .i64 (.int .i64 (.int .i64 (.bool .nil))))) (.int .i64 (.int .i64 (.int .i64 (.int .i64 .nil))))))))) (.recs (.int .i64 (.int .i64 (.int .i64 (.ints .i64 (.recs (.int .i64 (.int .i64 (.int .i64 (.int .i64 (.bool .nil))))) (.int .i64 (.int .i64 (.int .i64 (.int .i64 .nil))))))))) .nil)))) y 0) (w2 : ∀ y ∈ a2, wfZ (.int .i64 (.int .i64 (.recs (.int .i64 (.int .i64 (.int .i64 (.ints .i64 (.recs (.int .i64 (.int .i64 (.int .i64 (.int .i64 (.bool .nil))))) (.int .i64 (.int .i64 (.int .i64 (.int .i64 .nil))))))))) (.recs (.int .i64 (.int .i64 (.int .i64 (.ints .i64 (.recs (.int .i64 (.int .i64 (.int .i64 (.int .i64 (.bool .nil))))) (.int .i64 (.int .i64 (.int .i64 (.int .i64 .nil))))))))) .nil)))) y 0) (_ : sized [.agg (shCells Ar.std (.int .u8 (.int .u8 .nil)) a0 0 2), .one (.sl none (.recs (.int .i64 (.int .i64 (.recs (.int .i64 (.int .i64 (.int .i64 (.ints .i64 (.recs (.int .i64 (.int .i64 (.int .i64 (.int .i64 (.bool .nil))))) (.int .i64 (.int .i64 (.int .i64 (.int .i64 .nil))))))))) (.recs (.int .i64 (.int .i64 (.int .i64 (.ints .i64 (.recs (.int .i64 (.int .i64 (.int .i64 (.int .i64 (.bool .nil))))) (.int .i64 (.int .i64 (.int .i64 (.int .i64 .nil))))))))) .nil)))) a1)), .one (.sl none (.recs (.int .i64 (.int .i64 (.recs (.int .i64 (.int .i64 (.int .i64 (.ints .i64 (.recs (.int .i64 (.int .i64 (.int .i64 (.int .i64 (.bool .nil))))) (.int .i64 (.int .i64 (.int .i64 (.int .i64 .nil))))))))) (.recs (.int .i64 (.int .i64 (.int .i64 (.ints .i64 (.recs (.int .i64 (.int .i64 (.int .i64 (.int .i64 (.bool .nil))))) (.int .i64 (.int .i64 (.int .i64 (.int .i64 .nil))))))))) .nil)))) a2))]) : Does [(12, c_tli Tq.std), (13, c_twa Tq.std), (15, c_rfits Tq.std), (17, c_rris Tq.std), (14, c_fits TwR.Tw.std), (16, c_ris TwR.Tw.std)] Tryz.f4 [.agg (shCells Ar.std (.int .u8 (.int .u8 .nil)) a0 0 2), .one (.sl none (.recs (.int .i64 (.int .i64 (.recs (.int .i64 (.int .i64 (.int .i64 (.ints .i64 (.recs (.int .i64 (.int .i64 (.int .i64 (.int .i64 (.bool .nil))))) (.int .i64 (.int .i64 (.int .i64 (.int .i64 .nil))))))))) (.recs (.int .i64 (.int .i64 (.int .i64 (.ints .i64 (.recs (.int .i64 (.int .i64 (.int .i64 (.int .i64 (.bool .nil))))) (.int .i64 (.int .i64 (.int .i64 (.int .i64 .nil))))))))) .nil)))) a1)), .one (.sl none (.recs (.int .i64 (.int .i64 (.recs (.int .i64 (.int .i64 (.int .i64 (.ints .i64 (.recs (.int .i64 (.int .i64 (.int .i64 (.int .i64 (.bool .nil))))) (.int .i64 (.int .i64 (.int .i64 (.int .i64 .nil))))))))) (.recs (.int .i64 (.int .i64 (.int .i64 (.ints .i64 (.recs (.int .i64 (.int .i64 (.int .i64 (.int .i64 (.bool .nil))))) (.int .i64 (.int .i64 (.int .i64 (.int .i64 .nil))))))))) .nil)))) a2))] [] ⟨True, .sa (B true), [], [Any, Any, Any]⟩ := by
  intro b gv
  have f1 := fun h => okY_of (l := a1) h w1
  have f2 := fun h => okY_of (l := a2) h w2
  have f3 := fun h => lig_len (l := a1) h
  have f4 : okF a1 a2 = (okY a1 && okY a2) := rfl
  have hfs := (FsOk.cons ok_tli (FsOk.cons ok_twa (FsOk.cons ok_rfits (FsOk.cons ok_rris (FsOk.cons ok_fits (FsOk.cons ok_ris FsOk.nil rfl) rfl) rfl) rfl) rfl) rfl)
  generalize hF : TwQ.Tq.std = F at hfs ⊢
  generalize hG0 : TwR.Tw.std = G0 at hfs ⊢
  generalize hA : Ar.std = A
  generalize hL : Lp _ _ _ = L
  obtain ⟨Z, zq⟩ := z_all
  refine @cd_open _ _ _ _ _ _ _ (lp_mono hL) _ _ zq rfl ?_
  repeat' (first
    | (refine z_open zq ?_; try dsimp only)
    | refine cd_seq zq ?_ (lp_mono hL)
    | refine cd_blk zq ?_
    | refine cd_ret ?_
    | refine cd_skip ?_
    | refine cd_exit ?_
    | refine cd_loop ?_
    | refine cd_cond rfl ?_
    | refine cd_condT rfl ?_
    | refine cd_condF rfl ?_
    | (refine Cd.mk ?_; cbv)
    | (refine Ends1.mk ?_; cbv)
    | (refine Fin1.mk ?_; cbv)
    | exact trivial
    | refine And.intro ?_ ?_
    | refine orf fun _ => ?_
    | refine ort fun _ => ?_)
  all_goals
    clear hL zq Z hfs
    subst hA hF hG0
    simp only [TwQ.Tq.std, TwR.Tw.std, Ar.std] at *
    try (grind [stdCmp])
theorem walk (a0 : E) (a1 : List E) (a2 : List E) (v0 : Value) (A1 : Option Addr) (n1 c1 : Nat) (A2 : Option Addr) (n2 c2 : Nat) (w : World) (r0 : (SA.agg (shCells Ar.std (.int .u8 (.int .u8 .nil)) a0 0 2)).is (G0 w) v0) (_ : wfS (.int .u8 (.int .u8 .nil)) a0 0) (r1 : (SC.sl none (.recs (.int .i64 (.int .i64 (.recs (.int .i64 (.int .i64 (.int .i64 (.ints .i64 (.recs (.int .i64 (.int .i64 (.int .i64 (.int .i64 (.bool .nil))))) (.int .i64 (.int .i64 (.int .i64 (.int .i64 .nil))))))))) (.recs (.int .i64 (.int .i64 (.int .i64 (.ints .i64 (.recs (.int .i64 (.int .i64 (.int .i64 (.int .i64 (.bool .nil))))) (.int .i64 (.int .i64 (.int .i64 (.int .i64 .nil))))))))) .nil)))) a1)).is (G0 w) (.slice A1 n1 c1)) (w1 : ∀ y ∈ a1, wfZ (.int .i64 (.int .i64 (.recs (.int .i64 (.int .i64 (.int .i64 (.ints .i64 (.recs (.int .i64 (.int .i64 (.int .i64 (.int .i64 (.bool .nil))))) (.int .i64 (.int .i64 (.int .i64 (.int .i64 .nil))))))))) (.recs (.int .i64 (.int .i64 (.int .i64 (.ints .i64 (.recs (.int .i64 (.int .i64 (.int .i64 (.int .i64 (.bool .nil))))) (.int .i64 (.int .i64 (.int .i64 (.int .i64 .nil))))))))) .nil)))) y 0) (_ : a1.length ≤ 140737488355328) (r2 : (SC.sl none (.recs (.int .i64 (.int .i64 (.recs (.int .i64 (.int .i64 (.int .i64 (.ints .i64 (.recs (.int .i64 (.int .i64 (.int .i64 (.int .i64 (.bool .nil))))) (.int .i64 (.int .i64 (.int .i64 (.int .i64 .nil))))))))) (.recs (.int .i64 (.int .i64 (.int .i64 (.ints .i64 (.recs (.int .i64 (.int .i64 (.int .i64 (.int .i64 (.bool .nil))))) (.int .i64 (.int .i64 (.int .i64 (.int .i64 .nil))))))))) .nil)))) a2)).is (G0 w) (.slice A2 n2 c2)) (w2 : ∀ y ∈ a2, wfZ (.int .i64 (.int .i64 (.recs (.int .i64 (.int .i64 (.int .i64 (.ints .i64 (.recs (.int .i64 (.int .i64 (.int .i64 (.int .i64 (.bool .nil))))) (.int .i64 (.int .i64 (.int .i64 (.int .i64 .nil))))))))) (.recs (.int .i64 (.int .i64 (.int .i64 (.ints .i64 (.recs (.int .i64 (.int .i64 (.int .i64 (.int .i64 (.bool .nil))))) (.int .i64 (.int .i64 (.int .i64 (.int .i64 .nil))))))))) .nil)))) y 0) (_ : a2.length ≤ 140737488355328) : Calls Tryz.prog 4 #[v0, .slice A1 n1 c1, .slice A2 n2 c2] w (Law.Yes w) :=
  yes_of (FsOk.cons ok_tli (FsOk.cons ok_twa (FsOk.cons ok_rfits (FsOk.cons ok_rris (FsOk.cons ok_fits (FsOk.cons ok_ris FsOk.nil rfl) rfl) rfl) rfl) rfl) rfl) Tryz.func4 rfl (vs := [v0, .slice A1 n1 c1, .slice A2 n2 c2]) (by exact ⟨r0, r1, r2, trivial⟩) (lee_le rfl) fun hZ => x_law a0 a1 a2 w1 w2 hZ
theorem own : ownKnob Tryz.prog.godebug = none := by kernel_rfl
theorem laidOut : laidOutB Tryz.prog = true := by kernel_rfl
set_option maxRecDepth 100000 in
theorem lifted (os : Os) (started : os.Started) (H : Type) (enc : TypeId × Value → H) :
    ReturnsInHanded {} Tryz.checked os 4 .any (Rows.towerFitsSpec.pre6 enc Tryz.prog Tryz.f4 Rows.towerFitsRow.domain false) (Rows.towerFitsSpec.post enc Tryz.prog Tryz.f4 false true false false) := by
  refine returnsInHanded_of_change_sized (C := Tryz.checked) own started (by kernel_rfl) Tryz.func4
    (ChangeSpec.witness6 (enc := enc) (C := Tryz.checked) false ⟨#[], #[.agg #[.int .u8 0, .int .u8 0], .slice none 0 0, .slice none 0 0], []⟩ 8 (by kernel_rfl) (by kernel_rfl) (by kernel_rfl) (by kernel_rfl)) ?_
  intro W base args ds gs before hval0 hW _ hz _
  have hval : ∀ (j : Nat) t v, Tryz.f4.params[j]? = some t → args[j]? = some v → Value.okWide Tryz.prog W .any base t v := hval0
  have hW' := hW
  obtain ⟨p, q, hA0, hV, rfl, _, _⟩ := hW
  have hA : DataW.TrodAll enc Tryz.prog W 0 (fun _ => true) true Tryz.f4.params.toList args.toList ds p := hA0
  rw [Tryz.params4] at hA hval
  obtain ⟨v0, v1, v2, d0, d1, d2, p0, p1, p2, rfl, rfl, rfl, h0, h1, h2⟩ := trodAll_three hA
  obtain ⟨rfl, rfl⟩ := trodVars_none hV
  obtain ⟨a0, r0, w0⟩ := agg_any (s := .int .u8 (.int .u8 .nil)) (by rw [Tryz.underlying68]) (by kernel_rfl) (by kernel_rfl) (hval 0 68 v0 rfl rfl) h0
  obtain ⟨A1, n1, c1, a1, rfl, _, r1, w1, s1⟩ := sl_anyz (s := .int .i64 (.int .i64 (.recs (.int .i64 (.int .i64 (.int .i64 (.ints .i64 (.recs (.int .i64 (.int .i64 (.int .i64 (.int .i64 (.bool .nil))))) (.int .i64 (.int .i64 (.int .i64 (.int .i64 .nil))))))))) (.recs (.int .i64 (.int .i64 (.int .i64 (.ints .i64 (.recs (.int .i64 (.int .i64 (.int .i64 (.int .i64 (.bool .nil))))) (.int .i64 (.int .i64 (.int .i64 (.int .i64 .nil))))))))) .nil)))) Tryz.underlying69 (by kernel_rfl) (hval 1 69 v1 rfl rfl) h1 (weights_of hz (j := 1) rfl rfl)
  obtain ⟨A2, n2, c2, a2, rfl, _, r2, w2, s2⟩ := sl_anyz (s := .int .i64 (.int .i64 (.recs (.int .i64 (.int .i64 (.int .i64 (.ints .i64 (.recs (.int .i64 (.int .i64 (.int .i64 (.int .i64 (.bool .nil))))) (.int .i64 (.int .i64 (.int .i64 (.int .i64 .nil))))))))) (.recs (.int .i64 (.int .i64 (.int .i64 (.ints .i64 (.recs (.int .i64 (.int .i64 (.int .i64 (.int .i64 (.bool .nil))))) (.int .i64 (.int .i64 (.int .i64 (.int .i64 .nil))))))))) .nil)))) Tryz.underlying69 (by kernel_rfl) (hval 2 69 v2 rfl rfl) h2 (weights_of hz (j := 2) rfl rfl)
  refine (walk a0 a1 a2 v0 A1 n1 c1 A2 n2 c2 W r0 w0 r1 w1 s1 r2 w2 s2).mono fun e W' ⟨he, hb⟩ => ?_
  subst he
  exact ⟨_, rfl, law_post laidOut (by kernel_rfl) (by kernel_rfl) Tryz.underlying4 rfl hW' rfl hb⟩
theorem proved : Rows.TowerFitsSaid :=
  OpenClaim.holds_of_wide 4 Tryz.f4 rfl rfl rfl rfl rfl rfl rfl ⟨rfl, rfl, rfl, rfl, rfl⟩ rfl rfl rfl rfl rfl (by kernel_rfl) Tryz.func4 (by kernel_rfl)
    (of_decide_eq_true (by kernel_rfl)) (by unfold Func.isWrapper; first | (rw [if_pos (by decide +kernel)]; kernel_rfl) | (rw [if_neg (by decide +kernel)]; exact ⟨rfl, rfl⟩))
    (fun os started H enc _ => lifted os started H enc)
end Go.Proofs.YtakebkfhigadiaaGreat.TowerFits
