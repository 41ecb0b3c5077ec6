/-
  FrameCodes: for every input the call tells true, and nothing that was there turns. No condition.
-/
import Derived.Test.YtdfknpjlapaadaaRows
import Derived.Test.YtdfknpjlapaadaaLaw
import Derived.Test.YtdfknpjlapaadaaRyIn
import Derived.Test.YtdfknpjlapaadaaRyZ
import Derived.Test.YtdfknpjlapaadaaFrA
namespace Go.Proofs.Ytdfknpjlapaadaa.FrameCodes
open Go Go.Proofs.Ytdfknpjlapaadaa.Ry Go.Proofs.Ytdfknpjlapaadaa.Law Go.Proofs.Ytdfknpjlapaadaa.FrA Go.Proofs.Ytdfknpjlapaadaa.OctR Go.Proofs.Ytdfknpjlapaadaa.OctP Go.Proofs.Ytdfknpjlapaadaa.OctQ Go.Proofs.Ytdfknpjlapaadaa.FrR Go.Proofs.Ytdfknpjlapaadaa.FrQ Go.Proofs.Ytdfknpjlapaadaa.FrS
open Go.ChangeShapes Go.WideShapes Go.ChangeAt Go.Joins Go.RowKit
theorem pay {x : E} (w : wfS (.int .i64 (.int .i64 (.int .i64 (.int .i64 (.ints .u8 .nil))))) x 0) : ∀ n ∈ rl x 4, 0 ≤ n ∧ n ≤ 255 := fun n hn => wf8 (w.2.2.2.2.1 n hn)
set_option maxHeartbeats 4000000 in
set_option maxRecDepth 100000 in
theorem x_law (a0 : E) (w0 : ∀ n ∈ rl a0 4, 0 ≤ n ∧ n ≤ 255) (_ : sized [.agg (shCells Ar.std (.int .i64 (.int .i64 (.int .i64 (.int .i64 (.ints .u8 .nil))))) a0 0 5)]) : Does [(15, c_encode Rs.std), (18, c_decode Rs.std), (17, c_check Rs.std), (16, c_rmay Qs.std), (19, c_rbytes Qs.std), (20, c_rsame Qs.std), (14, c_awake As.std)] Try.f3 [.agg (shCells Ar.std (.int .i64 (.int .i64 (.int .i64 (.int .i64 (.ints .u8 .nil))))) a0 0 5)] [] ⟨True, .sa (B true), [], [Any]⟩ := by
  intro b gv
  have hfs := (FsOk.cons ok_encode (FsOk.cons ok_decode (FsOk.cons ok_check (FsOk.cons ok_rmay (FsOk.cons ok_rbytes (FsOk.cons ok_rsame (FsOk.cons ok_awake FsOk.nil rfl) rfl) rfl) rfl) rfl) rfl) rfl)
  generalize hF : As.std = F at hfs ⊢
  generalize hG0 : Rs.std = G0 at hfs ⊢
  generalize hG1 : Qs.std = G1 at hfs ⊢
  generalize hA : Ar.std = A
  generalize hL : Lp _ _ _ = L
  obtain ⟨Z, zq⟩ := z_all
  refine cd_open (lp_mono hL) zq rfl ?_
  repeat' (first
    | (refine z_open zq ?_; try dsimp only)
    | refine cd_seq zq ?_ (lp_mono hL)
    | refine cd_blk zq ?_
    | refine cd_ret ?_
    | refine cd_skip ?_
    | refine cd_exit ?_
    | refine cd_loop ?_
    | refine cd_cond rfl ?_
    | refine cd_condT rfl ?_
    | refine cd_condF rfl ?_
    | (refine Cd.mk ?_; cbv)
    | (refine Ends1.mk ?_; cbv)
    | (refine Fin1.mk ?_; cbv)
    | exact trivial
    | refine And.intro ?_ ?_
    | refine orf fun _ => ?_
    | refine ort fun _ => ?_)
  all_goals
    clear hL zq Z hfs
    subst hF hA hG0 hG1
    have h1 := ch_may (k := ri a0 0) (s := ri a0 1) (q := ri a0 2) (a := ri a0 3) (p := rl a0 4)
    have h2 := fun h => dec_enc (k := ri a0 0) (s := ri a0 1) (q := ri a0 2) (a := ri a0 3) (p := rl a0 4) h w0
    have h3 := fun h => (enc_len (k := ri a0 0) (s := ri a0 1) (q := ri a0 2) (a := ri a0 3) (p := rl a0 4) h).1
    have h4 : byB (rl a0 4) = true := decide_eq_true w0
    simp only [Qs.std, Rs.std, Ar.std] at *
    try (grind [stdCmp, smF])
theorem walk (a0 : E) (v0 : Value) (w : World) (r0 : (SA.agg (shCells Ar.std (.int .i64 (.int .i64 (.int .i64 (.int .i64 (.ints .u8 .nil))))) a0 0 5)).is (G0 w) v0) (w0 : wfS (.int .i64 (.int .i64 (.int .i64 (.int .i64 (.ints .u8 .nil))))) a0 0) : Calls Try.prog 3 #[v0] w (Law.Yes w) :=
  yes_of (FsOk.cons ok_encode (FsOk.cons ok_decode (FsOk.cons ok_check (FsOk.cons ok_rmay (FsOk.cons ok_rbytes (FsOk.cons ok_rsame (FsOk.cons ok_awake FsOk.nil rfl) rfl) rfl) rfl) rfl) rfl) rfl) Try.func3 rfl (vs := [v0]) (by exact ⟨r0, trivial⟩) (lee_le rfl) fun hZ => x_law a0 (pay w0) hZ
theorem own : ownKnob Try.prog.godebug = none := by kernel_rfl
theorem laidOut : laidOutB Try.prog = true := by kernel_rfl
set_option maxRecDepth 100000 in
theorem lifted (os : Os) (started : os.Started) (H : Type) (enc : TypeId × Value → H) :
    ReturnsInHanded {} Try.checked os 3 .any (Rows.frameCodesSpec.pre6 enc Try.prog Try.f3 Rows.frameCodesRow.domain false) (Rows.frameCodesSpec.post enc Try.prog Try.f3 false true false false) := by
  refine returnsInHanded_of_change_sized (C := Try.checked) own started (by kernel_rfl) Try.func3
    (ChangeSpec.witness6 (enc := enc) (C := Try.checked) false ⟨#[], #[.agg #[.int .i64 0, .int .i64 0, .int .i64 0, .int .i64 0, .slice none 0 0]], []⟩ 8 (by kernel_rfl) (by kernel_rfl) (by kernel_rfl) (by kernel_rfl)) ?_
  intro W base args ds gs before hval0 hW _ hz _
  have hval : ∀ (j : Nat) t v, Try.f3.params[j]? = some t → args[j]? = some v → Value.okWide Try.prog W .any base t v := hval0
  have hW' := hW
  obtain ⟨p, q, hA0, hV, rfl, _, _⟩ := hW
  have hA : DataW.TrodAll enc Try.prog W 0 (fun _ => true) true Try.f3.params.toList args.toList ds p := hA0
  rw [Try.params3] at hA hval
  obtain ⟨v0, d0, rfl, rfl, h0⟩ := trodAll_one hA
  obtain ⟨rfl, rfl⟩ := trodVars_none hV
  obtain ⟨a0, r0, w0⟩ := agg_any (s := .int .i64 (.int .i64 (.int .i64 (.int .i64 (.ints .u8 .nil))))) (by rw [Try.underlying24]) (by kernel_rfl) (by kernel_rfl) (hval 0 24 v0 rfl rfl) h0
  refine (walk a0 v0 W r0 w0).mono fun e W' ⟨he, hb⟩ => ?_
  subst he
  exact ⟨_, rfl, law_post laidOut (by kernel_rfl) (by kernel_rfl) Try.underlying4 rfl hW' rfl hb⟩
theorem proved : Rows.FrameCodesSaid :=
  OpenClaim.holds_of_wide 3 Try.f3 rfl rfl rfl rfl rfl rfl rfl ⟨rfl, rfl, rfl, rfl, rfl⟩ rfl rfl rfl rfl rfl (by kernel_rfl) Try.func3 (by kernel_rfl)
    (of_decide_eq_true (by kernel_rfl)) (by unfold Func.isWrapper; first | (rw [if_pos (by decide +kernel)]; kernel_rfl) | (rw [if_neg (by decide +kernel)]; exact ⟨rfl, rfl⟩))
    (fun os started H enc _ => lifted os started H enc)
end Go.Proofs.Ytdfknpjlapaadaa.FrameCodes
