/-
  SendAcks: for every input the call tells true, and nothing that was there turns. No condition.
-/
import Derived.Test.YtgfficaonampbaaRows
import Derived.Test.YtgfficaonampbaaLaw
import Derived.Test.YtgfficaonampbaaRyIn
import Derived.Test.YtgfficaonampbaaRyZ
import Derived.Test.YtgfficaonampbaaSeL
namespace Go.Proofs.Ytgfficaonampbaa.SendAcks
open Go Go.Proofs.Ytgfficaonampbaa.Ry Go.Proofs.Ytgfficaonampbaa.Law Go.Proofs.Ytgfficaonampbaa.SeL Go.Proofs.Ytgfficaonampbaa.SeR Go.Proofs.Ytgfficaonampbaa.SeS Go.Proofs.Ytgfficaonampbaa.SeT Go.Proofs.Ytgfficaonampbaa.SeU
open Go.ChangeShapes Go.WideShapes Go.ChangeAt Go.Joins Go.RowKit
theorem rows {x : E} (w : wfS (.int .i64 (.int .i64 (.recs (.ints .u8 .nil) (.int .i64 .nil)))) x 0) : ∀ y ∈ rr x 2, ∀ n ∈ rl y 0, 0 ≤ n ∧ n ≤ 255 := fun y hy n hn => wf8 ((w.2.2.1 y hy).1 n hn)
set_option maxHeartbeats 4000000 in
set_option maxRecDepth 100000 in
theorem x_law (a0 : E) (a1 : Int) (w0 : ∀ y ∈ rr a0 2, ∀ n ∈ rl y 0, 0 ≤ n ∧ n ≤ 255) (_ : sized [.agg (shCells Ar.std (.int .i64 (.int .i64 (.recs (.ints .u8 .nil) (.int .i64 .nil)))) a0 0 4), .one (.val (.int .i64 a1))]) : Does [(41, c_light Us.std), (54, c_ack Gs.std), (55, c_rack Us.std), (46, c_rmay Fs.std), (47, denil [some (.recs (.ints .u8 .nil) []), some (.recs (.ints .u8 .nil) [])] (c_rsame Hs.std)), (42, c_awake Gs.std)] Try.f13 [.agg (shCells Ar.std (.int .i64 (.int .i64 (.recs (.ints .u8 .nil) (.int .i64 .nil)))) a0 0 4), .one (.val (.int .i64 a1))] [] ⟨True, .sa (B true), [], [Any, Any]⟩ := by
  intro b gv
  have hfs := (FsOk.cons ok_light (FsOk.cons ok_ack (FsOk.cons ok_rack (FsOk.cons ok_rmay (FsOk.cons (denil_ok [some (.recs (.ints .u8 .nil) []), some (.recs (.ints .u8 .nil) [])] ok_rsame) (FsOk.cons ok_awake FsOk.nil rfl) rfl) rfl) rfl) rfl) rfl)
  generalize hF : Ls.std = F at hfs ⊢
  generalize hG0 : Fs.std = G0 at hfs ⊢
  generalize hG1 : Gs.std = G1 at hfs ⊢
  generalize hG2 : Hs.std = G2 at hfs ⊢
  generalize hG3 : Us.std = G3 at hfs ⊢
  generalize hA : Ar.std = A
  generalize hL : Lp _ _ _ = L
  obtain ⟨Z, zq⟩ := z_all
  refine cd_open (lp_mono hL) zq rfl ?_
  repeat' (first
    | (refine z_open zq ?_; try dsimp only)
    | refine cd_seq zq ?_ (lp_mono hL)
    | refine cd_blk zq ?_
    | refine cd_ret ?_
    | refine cd_skip ?_
    | refine cd_exit ?_
    | refine cd_loop ?_
    | refine cd_cond rfl ?_
    | refine cd_condT rfl ?_
    | refine cd_condF rfl ?_
    | (refine Cd.mk ?_; cbv)
    | (refine Ends1.mk ?_; cbv)
    | (refine Fin1.mk ?_; cbv)
    | exact trivial
    | refine And.intro ?_ ?_
    | refine orf fun _ => ?_
    | refine ort fun _ => ?_)
  all_goals
    clear hL zq Z hfs
    subst hF hA hG0 hG1 hG2 hG3
    have hl : liW (rr a0 2) = true → (rr a0 2).length ≤ 300 := li_len
    have hq : (rr a0 2).length ≤ 300 → byS (rr a0 2) = true := fun h => decide_eq_true ⟨by omega, w0⟩
    have h1 := fun h => ack_same (b := ri a0 0) (s := ri a0 1) (q := rr a0 2) (c := ri a0 3) (k := a1) (hq h)
    have hz : byS [] = true := rfl
    have hz2 : (zS 1).e = 1 := rfl
    have hz3 : smS (zS 1).b (zS 1).s (zS 1).q (zS 1).c 0 0 [] 0 = true := rfl
    have hz4 : (zS 1).q = [] := rfl
    simp only [Gs.std, Hs.std, Us.std, Fs.std, Ar.std] at *
    try (grind [stdCmp])
theorem walk (a0 : E) (a1 : Int) (v0 : Value) (w : World) (r0 : (SA.agg (shCells Ar.std (.int .i64 (.int .i64 (.recs (.ints .u8 .nil) (.int .i64 .nil)))) a0 0 4)).is (G0 w) v0) (w0 : wfS (.int .i64 (.int .i64 (.recs (.ints .u8 .nil) (.int .i64 .nil)))) a0 0) (_ : (Lit.int .i64 a1).wf = true) : Calls Try.prog 13 #[v0, .int .i64 a1] w (Law.Yes w) :=
  yes_of (FsOk.cons ok_light (FsOk.cons ok_ack (FsOk.cons ok_rack (FsOk.cons ok_rmay (FsOk.cons (denil_ok [some (.recs (.ints .u8 .nil) []), some (.recs (.ints .u8 .nil) [])] ok_rsame) (FsOk.cons ok_awake FsOk.nil rfl) rfl) rfl) rfl) rfl) rfl) Try.func13 rfl (vs := [v0, .int .i64 a1]) (by exact ⟨r0, rfl, trivial⟩) (lee_le rfl) fun hZ => x_law a0 a1 (rows w0) hZ
theorem own : ownKnob Try.prog.godebug = none := by kernel_rfl
theorem laidOut : laidOutB Try.prog = true := by kernel_rfl
set_option maxRecDepth 100000 in
theorem lifted (os : Os) (started : os.Started) (H : Type) (enc : TypeId × Value → H) :
    ReturnsInHanded {} Try.checked os 13 .any (Rows.sendAcksSpec.pre6 enc Try.prog Try.f13 Rows.sendAcksRow.domain false) (Rows.sendAcksSpec.post enc Try.prog Try.f13 false true false false) := by
  refine returnsInHanded_of_change_sized (C := Try.checked) own started (by kernel_rfl) Try.func13
    (ChangeSpec.witness6 (enc := enc) (C := Try.checked) false ⟨#[], #[.agg #[.int .i64 0, .int .i64 0, .slice none 0 0, .int .i64 0], .int .i64 0], []⟩ 8 (by kernel_rfl) (by kernel_rfl) (by kernel_rfl) (by kernel_rfl)) ?_
  intro W base args ds gs before hval0 hW _ hz _
  have hval : ∀ (j : Nat) t v, Try.f13.params[j]? = some t → args[j]? = some v → Value.okWide Try.prog W .any base t v := hval0
  have hW' := hW
  obtain ⟨p, q, hA0, hV, rfl, _, _⟩ := hW
  have hA : DataW.TrodAll enc Try.prog W 0 (fun _ => true) true Try.f13.params.toList args.toList ds p := hA0
  rw [Try.params13] at hA hval
  obtain ⟨v0, v1, d0, d1, p0, p1, rfl, rfl, rfl, h0, h1⟩ := trodAll_two hA
  obtain ⟨rfl, rfl⟩ := trodVars_none hV
  obtain ⟨a0, r0, w0⟩ := agg_any (s := .int .i64 (.int .i64 (.recs (.ints .u8 .nil) (.int .i64 .nil)))) (by rw [Try.underlying73]) (by kernel_rfl) (by kernel_rfl) (hval 0 73 v0 rfl rfl) h0
  obtain ⟨a1, rfl, rfl, rfl, w1⟩ := open_int Try.underlying3 (hval 1 3 v1 rfl rfl) h1
  refine (walk a0 a1 v0 W r0 w0 w1).mono fun e W' ⟨he, hb⟩ => ?_
  subst he
  exact ⟨_, rfl, law_post laidOut (by kernel_rfl) (by kernel_rfl) Try.underlying4 rfl hW' rfl hb⟩
theorem proved : Rows.SendAcksSaid :=
  OpenClaim.holds_of_wide 13 Try.f13 rfl rfl rfl rfl rfl rfl rfl ⟨rfl, rfl, rfl, rfl, rfl⟩ rfl rfl rfl rfl rfl (by kernel_rfl) Try.func13 (by kernel_rfl)
    (of_decide_eq_true (by kernel_rfl)) (by unfold Func.isWrapper; first | (rw [if_pos (by decide +kernel)]; kernel_rfl) | (rw [if_neg (by decide +kernel)]; exact ⟨rfl, rfl⟩))
    (fun os started H enc _ => lifted os started H enc)
end Go.Proofs.Ytgfficaonampbaa.SendAcks
