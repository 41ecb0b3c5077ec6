/-
  EdgeSorts: for every input the call tells true, and nothing that was there turns. No condition.
-/
import Derived.Test.YtmhhofnkipeffaaRows
import Derived.Test.YtmhhofnkipeffaaLaw
import Derived.Test.YtmhhofnkipeffaaRyIn
import Derived.Test.YtmhhofnkipeffaaRyZ
import Derived.Test.YtmhhofnkipeffaaEgL
import Derived.Test.YtmhhofnkipeffaaNdR
import Derived.Test.YtmhhofnkipeffaaSpO
namespace Go.Proofs.Ytmhhofnkipeffaa.EdgeSorts
open Go Go.Proofs.Ytmhhofnkipeffaa.Ry Go.Proofs.Ytmhhofnkipeffaa.Law Go.Proofs.Ytmhhofnkipeffaa.EgL Go.Proofs.Ytmhhofnkipeffaa.NdR Go.Proofs.Ytmhhofnkipeffaa.SpO Go.Proofs.Ytmhhofnkipeffaa.So Go.Proofs.Ytmhhofnkipeffaa.EcX Go.Proofs.Ytmhhofnkipeffaa.Cmp Go.Proofs.Ytmhhofnkipeffaa.EgR Go.Proofs.Ytmhhofnkipeffaa.EgL Go.Proofs.Ytmhhofnkipeffaa.SpQ Go.Proofs.Ytmhhofnkipeffaa.SpK Go.Proofs.Ytmhhofnkipeffaa.SpT
open Go.ChangeShapes Go.WideShapes Go.ChangeAt Go.Joins Go.RowKit
theorem sorts_same {l : List E} (h : allE l = 0) : sameE (srtX l) (rsB l) = true := by
  unfold sameE srtX
  rw [if_pos h]
  refine decide_eq_true ?_
  obtain ⟨a1, a2⟩ := srt_tr l
  obtain ⟨b1, b2⟩ := rs_ok l
  refine List.Perm.eq_of_pairwise (fun x y _ _ g1 g2 => ?_) a2 b2 (a1.trans b1.symm)
  obtain ⟨x1, x2, x3⟩ := x
  obtain ⟨y1, y2, y3⟩ := y
  simp only [ahT, lt] at g1 g2
  simp only [Prod.mk.injEq]
  omega
set_option maxHeartbeats 4000000 in
set_option maxRecDepth 100000 in
theorem x_law (a0 : List E) (_ : sized [.one (.sl none (.recs (.int .i64 (.int .i64 (.int .i64 .nil))) a0))]) : Does [(ownKey 3000, noCon), (10, c_enodes NdR.Nd.std), (11, c_rnodes NdR.Nd.std), (9, c_rints NdR.Nd.std), (13, c_rsort SpO.Sv.std), (6, c_esort EgR.Fs.std), (7, c_rcheck EgR.Fs.std), (8, c_echeckall EgR.Fs.std), (12, c_esame EgR.Fs.std), (5, c_eawake EgR.Fs.std)] Try.f3 [.one (.sl none (.recs (.int .i64 (.int .i64 (.int .i64 .nil))) a0))] [] ⟨True, .sa (B true), [], [Any]⟩ := by
  intro b gv
  have f1 := x_len a0
  have f2 := rs_len a0
  have f3 := nod_len a0 64
  have f4 := same_I (nodL a0)
  have f5 : allE a0 = 0 → sameE (srtX a0) (rsB a0) = true := fun h => sorts_same h
  have f6 : nodL a0 = nodF a0 64 := rfl
  have f7 : ¬ allE a0 = 0 → srtX a0 = [] := fun h => if_neg h
  have hfs := (FsOk.own (u := 3000) (FsOk.cons ok_enodes (FsOk.cons ok_rnodes (FsOk.cons ok_rints (FsOk.cons ok_rsort (FsOk.cons ok_esort (FsOk.cons ok_rcheck (FsOk.cons ok_echeckall (FsOk.cons ok_esame (FsOk.cons ok_eawake FsOk.nil rfl) rfl) rfl) rfl) rfl) rfl) rfl) rfl) rfl))
  generalize hF : EgR.Fs.std = F at hfs ⊢
  generalize hG0 : NdR.Nd.std = G0 at hfs ⊢
  generalize hG1 : SpO.Sv.std = G1 at hfs ⊢
  generalize hA : Ar.std = A
  generalize hL : Lp _ _ _ = L
  obtain ⟨Z, zq⟩ := z_all
  refine @cd_open _ _ _ _ _ _ _ (lp_mono hL) _ _ zq rfl ?_
  repeat' (first
    | (refine z_open zq ?_; try dsimp only)
    | refine cd_seq zq ?_ (lp_mono hL)
    | refine cd_blk zq ?_
    | refine cd_ret ?_
    | refine cd_skip ?_
    | refine cd_exit ?_
    | refine cd_loop ?_
    | refine cd_cond rfl ?_
    | refine cd_condT rfl ?_
    | refine cd_condF rfl ?_
    | (refine Cd.mk ?_; cbv)
    | (refine Ends1.mk ?_; cbv)
    | (refine Fin1.mk ?_; cbv)
    | exact trivial
    | refine And.intro ?_ ?_
    | refine orf fun _ => ?_
    | refine ort fun _ => ?_)
  all_goals (clear hL hfs zq Z; subst hA hF hG0 hG1; simp only [EgR.Fs.std, NdR.Nd.std, SpO.Sv.std, Ar.std, List.nil_append] at * <;> grind [stdCmp])
theorem walk (a0 : List E) (A0 : Option Addr) (n0 c0 : Nat) (w : World) (r0 : (SC.sl none (.recs (.int .i64 (.int .i64 (.int .i64 .nil))) a0)).is (G0 w) (.slice A0 n0 c0)) (_ : ∀ y ∈ a0, wfS (.int .i64 (.int .i64 (.int .i64 .nil))) y 0) (_ : a0.length ≤ 140737488355328) : Calls Try.prog 3 #[.slice A0 n0 c0] w (Law.Yes w) :=
  yes_of (FsOk.own (u := 3000) (FsOk.cons ok_enodes (FsOk.cons ok_rnodes (FsOk.cons ok_rints (FsOk.cons ok_rsort (FsOk.cons ok_esort (FsOk.cons ok_rcheck (FsOk.cons ok_echeckall (FsOk.cons ok_esame (FsOk.cons ok_eawake FsOk.nil rfl) rfl) rfl) rfl) rfl) rfl) rfl) rfl) rfl)) Try.func3 rfl (vs := [.slice A0 n0 c0]) (by exact ⟨r0, trivial⟩) (lee_le rfl) fun hZ => x_law a0 hZ
theorem own : ownKnob Try.prog.godebug = none := by kernel_rfl
theorem laidOut : laidOutB Try.prog = true := by kernel_rfl
set_option maxRecDepth 100000 in
theorem lifted (os : Os) (started : os.Started) (H : Type) (enc : TypeId × Value → H) :
    ReturnsInHanded {} Try.checked os 3 .any (Rows.edgeSortsSpec.pre6 enc Try.prog Try.f3 Rows.edgeSortsRow.domain false) (Rows.edgeSortsSpec.post enc Try.prog Try.f3 false true false false) := by
  refine returnsInHanded_of_change_sized (C := Try.checked) own started (by kernel_rfl) Try.func3
    (ChangeSpec.witness6 (enc := enc) (C := Try.checked) false ⟨#[], #[.slice none 0 0], []⟩ 8 (by kernel_rfl) (by kernel_rfl) (by kernel_rfl) (by kernel_rfl)) ?_
  intro W base args ds gs before hval0 hW _ hz _
  have hval : ∀ (j : Nat) t v, Try.f3.params[j]? = some t → args[j]? = some v → Value.okWide Try.prog W .any base t v := hval0
  have hW' := hW
  obtain ⟨p, q, hA0, hV, rfl, _, _⟩ := hW
  have hA : DataW.TrodAll enc Try.prog W 0 (fun _ => true) true Try.f3.params.toList args.toList ds p := hA0
  rw [Try.params3] at hA hval
  obtain ⟨v0, d0, rfl, rfl, h0⟩ := trodAll_one hA
  obtain ⟨rfl, rfl⟩ := trodVars_none hV
  obtain ⟨A0, n0, c0, a0, rfl, l0, r0, w0⟩ := sl_any (s := .int .i64 (.int .i64 (.int .i64 .nil))) Try.underlying22 (by kernel_rfl) (by kernel_rfl) (hval 0 22 v0 rfl rfl) h0
  have s0 : a0.length ≤ 140737488355328 := by rw [l0]; exact short_of Try.underlying22 (by decide +kernel) hz (j := 0) rfl rfl h0
  refine (walk a0 A0 n0 c0 W r0 w0 s0).mono fun e W' ⟨he, hb⟩ => ?_
  subst he
  exact ⟨_, rfl, law_post laidOut (by kernel_rfl) (by kernel_rfl) Try.underlying4 rfl hW' rfl hb⟩
theorem proved : Rows.EdgeSortsSaid :=
  OpenClaim.holds_of_wide 3 Try.f3 rfl rfl rfl rfl rfl rfl rfl ⟨rfl, rfl, rfl, rfl, rfl⟩ rfl rfl rfl rfl rfl (by kernel_rfl) Try.func3 (by kernel_rfl)
    (of_decide_eq_true (by kernel_rfl)) (by unfold Func.isWrapper; first | (rw [if_pos (by decide +kernel)]; kernel_rfl) | (rw [if_neg (by decide +kernel)]; exact ⟨rfl, rfl⟩))
    (fun os started H enc _ => lifted os started H enc)
end Go.Proofs.Ytmhhofnkipeffaa.EdgeSorts
