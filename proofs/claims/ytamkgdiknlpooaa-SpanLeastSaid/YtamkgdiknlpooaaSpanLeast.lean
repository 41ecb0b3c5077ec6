/-
  SpanLeast: for every input the call tells true, and nothing that was there turns. No condition.
-/
import Derived.Test.YtamkgdiknlpooaaRows
import Derived.Test.YtamkgdiknlpooaaLaw
import Derived.Test.YtamkgdiknlpooaaRyIn
import Derived.Test.YtamkgdiknlpooaaRyZ
import Derived.Test.YtamkgdiknlpooaaSpM
namespace Go.Proofs.Ytamkgdiknlpooaa.SpanLeast
open Go Go.Proofs.Ytamkgdiknlpooaa.Ry Go.Proofs.Ytamkgdiknlpooaa.Law Go.Proofs.Ytamkgdiknlpooaa.SpM Go.Proofs.Ytamkgdiknlpooaa.So Go.Proofs.Ytamkgdiknlpooaa.JoS Go.Proofs.Ytamkgdiknlpooaa.EgR Go.Proofs.Ytamkgdiknlpooaa.EgL Go.Proofs.Ytamkgdiknlpooaa.SpR Go.Proofs.Ytamkgdiknlpooaa.SpQ Go.Proofs.Ytamkgdiknlpooaa.SpK Go.Proofs.Ytamkgdiknlpooaa.SpT Go.Proofs.Ytamkgdiknlpooaa.SpO Go.Proofs.Ytamkgdiknlpooaa.SpL
open Go.ChangeShapes Go.WideShapes Go.ChangeAt Go.Joins Go.RowKit
set_option maxHeartbeats 4000000 in
set_option maxRecDepth 100000 in
theorem x_law (a0 : List E) (_ : sized [.one (.sl none (.recs (.int .i64 (.int .i64 (.int .i64 .nil))) a0))]) : Does [(26, c_sleast SpR.Sp.std), (17, c_rcheck EgR.Fs.std), (22, c_esame EgR.Fs.std), (27, c_forest SpR.Sp.std), (30, c_rforest SpQ.Sq.std), (28, c_weight SpR.Sp.std), (31, c_rweight SpR.Sp.std), (29, c_rleast SpO.Sv.std), (25, c_sawake Sm.std)] Try.f5 [.one (.sl none (.recs (.int .i64 (.int .i64 (.int .i64 .nil))) a0))] [] ⟨True, .sa (B true), [], [Any]⟩ := by
  intro b gv
  have f1 := lst_len a0
  have f2 := rl_len a0
  have f3 := fun h => least_same (l := a0) h
  have f4 := fun h => for_same (l := a0) h
  have f5 : ¬ allE a0 = 0 → lstB a0 = [] ∧ forB a0 = false ∧ wtB a0 = 0 := fun h => ⟨if_neg h, by unfold forB; rw [decide_eq_false h]; rfl, if_neg h⟩
  have f6 : allE a0 = 0 → wtB a0 = wtL a0 := fun h => if_pos h
  have f7 : allE a0 = 0 → goodL a0 = true := all_good
  have f8 : allE a0 = 0 → a0.length ≤ 1000000 → inR a0 = true := fun h k => in_R (all_good h) k
  have hfs := (FsOk.cons ok_sleast (FsOk.cons ok_rcheck (FsOk.cons ok_esame (FsOk.cons ok_forest (FsOk.cons ok_rforest (FsOk.cons ok_weight (FsOk.cons ok_rweight (FsOk.cons ok_rleast (FsOk.cons ok_sawake FsOk.nil rfl) rfl) rfl) rfl) rfl) rfl) rfl) rfl) rfl)
  generalize hF : SpR.Sp.std = F at hfs ⊢
  generalize hG0 : EgR.Fs.std = G0 at hfs ⊢
  generalize hG1 : SpQ.Sq.std = G1 at hfs ⊢
  generalize hG2 : SpO.Sv.std = G2 at hfs ⊢
  generalize hG3 : SpM.Sm.std = G3 at hfs ⊢
  generalize hA : Ar.std = A
  generalize hL : Lp _ _ _ = L
  obtain ⟨Z, zq⟩ := z_all
  refine cd_open (lp_mono hL) zq rfl ?_
  repeat' (first
    | (refine z_open zq ?_; try dsimp only)
    | refine cd_seq zq ?_ (lp_mono hL)
    | refine cd_blk zq ?_
    | refine cd_ret ?_
    | refine cd_skip ?_
    | refine cd_exit ?_
    | refine cd_loop ?_
    | refine cd_cond rfl ?_
    | refine cd_condT rfl ?_
    | refine cd_condF rfl ?_
    | (refine Cd.mk ?_; cbv)
    | (refine Ends1.mk ?_; cbv)
    | (refine Fin1.mk ?_; cbv)
    | exact trivial
    | refine And.intro ?_ ?_
    | refine orf fun _ => ?_
    | refine ort fun _ => ?_)
  all_goals
    clear hL zq Z hfs
    subst hA hF hG0 hG1 hG2 hG3
    simp only [SpR.Sp.std, EgR.Fs.std, SpQ.Sq.std, SpO.Sv.std, Ar.std, List.nil_append] at *
    try (grind [stdCmp])
theorem walk (a0 : List E) (A0 : Option Addr) (n0 c0 : Nat) (w : World) (r0 : (SC.sl none (.recs (.int .i64 (.int .i64 (.int .i64 .nil))) a0)).is (G0 w) (.slice A0 n0 c0)) (_ : ∀ y ∈ a0, wfS (.int .i64 (.int .i64 (.int .i64 .nil))) y 0) (_ : a0.length ≤ 140737488355328) : Calls Try.prog 5 #[.slice A0 n0 c0] w (Law.Yes w) :=
  yes_of (FsOk.cons ok_sleast (FsOk.cons ok_rcheck (FsOk.cons ok_esame (FsOk.cons ok_forest (FsOk.cons ok_rforest (FsOk.cons ok_weight (FsOk.cons ok_rweight (FsOk.cons ok_rleast (FsOk.cons ok_sawake FsOk.nil rfl) rfl) rfl) rfl) rfl) rfl) rfl) rfl) rfl) Try.func5 rfl (vs := [.slice A0 n0 c0]) (by exact ⟨r0, trivial⟩) (lee_le rfl) fun hZ => x_law a0 hZ
theorem own : ownKnob Try.prog.godebug = none := by kernel_rfl
theorem laidOut : laidOutB Try.prog = true := by kernel_rfl
set_option maxRecDepth 100000 in
theorem lifted (os : Os) (started : os.Started) (H : Type) (enc : TypeId × Value → H) :
    ReturnsInHanded {} Try.checked os 5 .any (Rows.spanLeastSpec.pre6 enc Try.prog Try.f5 Rows.spanLeastRow.domain false) (Rows.spanLeastSpec.post enc Try.prog Try.f5 false true false false) := by
  refine returnsInHanded_of_change_sized (C := Try.checked) own started (by kernel_rfl) Try.func5
    (ChangeSpec.witness6 (enc := enc) (C := Try.checked) false ⟨#[], #[.slice none 0 0], []⟩ 8 (by kernel_rfl) (by kernel_rfl) (by kernel_rfl) (by kernel_rfl)) ?_
  intro W base args ds gs before hval0 hW _ hz _
  have hval : ∀ (j : Nat) t v, Try.f5.params[j]? = some t → args[j]? = some v → Value.okWide Try.prog W .any base t v := hval0
  have hW' := hW
  obtain ⟨p, q, hA0, hV, rfl, _, _⟩ := hW
  have hA : DataW.TrodAll enc Try.prog W 0 (fun _ => true) true Try.f5.params.toList args.toList ds p := hA0
  rw [Try.params5] at hA hval
  obtain ⟨v0, d0, rfl, rfl, h0⟩ := trodAll_one hA
  obtain ⟨rfl, rfl⟩ := trodVars_none hV
  obtain ⟨A0, n0, c0, a0, rfl, l0, r0, w0⟩ := sl_any (s := .int .i64 (.int .i64 (.int .i64 .nil))) Try.underlying22 (by kernel_rfl) (by kernel_rfl) (hval 0 22 v0 rfl rfl) h0
  have s0 : a0.length ≤ 140737488355328 := by rw [l0]; exact short_of Try.underlying22 (by decide +kernel) hz (j := 0) rfl rfl h0
  refine (walk a0 A0 n0 c0 W r0 w0 s0).mono fun e W' ⟨he, hb⟩ => ?_
  subst he
  exact ⟨_, rfl, law_post laidOut (by kernel_rfl) (by kernel_rfl) Try.underlying4 rfl hW' rfl hb⟩
theorem proved : Rows.SpanLeastSaid :=
  OpenClaim.holds_of_wide 5 Try.f5 rfl rfl rfl rfl rfl rfl rfl ⟨rfl, rfl, rfl, rfl, rfl⟩ rfl rfl rfl rfl rfl (by kernel_rfl) Try.func5 (by kernel_rfl)
    (of_decide_eq_true (by kernel_rfl)) (by unfold Func.isWrapper; first | (rw [if_pos (by decide +kernel)]; kernel_rfl) | (rw [if_neg (by decide +kernel)]; exact ⟨rfl, rfl⟩))
    (fun os started H enc _ => lifted os started H enc)
end Go.Proofs.Ytamkgdiknlpooaa.SpanLeast
