/-
  FrameSizes: for every input the call tells true, and nothing that was there turns. No condition.
-/
import Derived.Test.YtdfknpjlapaadaaRows
import Derived.Test.YtdfknpjlapaadaaLaw
import Derived.Test.YtdfknpjlapaadaaRyIn
import Derived.Test.YtdfknpjlapaadaaRyZ
import Derived.Test.YtdfknpjlapaadaaFrA
namespace Go.Proofs.Ytdfknpjlapaadaa.FrameSizes
open Go Go.Proofs.Ytdfknpjlapaadaa.Ry Go.Proofs.Ytdfknpjlapaadaa.Law Go.Proofs.Ytdfknpjlapaadaa.FrA Go.Proofs.Ytdfknpjlapaadaa.OctR Go.Proofs.Ytdfknpjlapaadaa.OctP Go.Proofs.Ytdfknpjlapaadaa.OctQ Go.Proofs.Ytdfknpjlapaadaa.FrR Go.Proofs.Ytdfknpjlapaadaa.FrQ Go.Proofs.Ytdfknpjlapaadaa.FrS
open Go.ChangeShapes Go.WideShapes Go.ChangeAt Go.Joins Go.RowKit
theorem wf16 {a : Int} (h : (Lit.int .u16 a).wf = true) : 0 ≤ a ∧ a ≤ 65535 := by
  simpa [Lit.wf, IntKind.min, IntKind.max, IntKind.signed, IntKind.bits] using h
set_option maxHeartbeats 4000000 in
set_option maxRecDepth 100000 in
theorem x_law (a0 : Int) (a1 : Int) (w1 : 0 ≤ a1 ∧ a1 ≤ 65535) (_ : sized [.one (.val (.int .i64 a0)), .one (.val (.int .u16 a1))]) : Does [(15, c_encode Rs.std), (16, c_rmay Qs.std), (14, c_awake As.std)] Try.f7 [.one (.val (.int .i64 a0)), .one (.val (.int .u16 a1))] [] ⟨True, .sa (B true), [], [Any, Any]⟩ := by
  intro b gv
  have hfs := (FsOk.cons ok_encode (FsOk.cons ok_rmay (FsOk.cons ok_awake FsOk.nil rfl) rfl) rfl)
  generalize hF : As.std = F at hfs ⊢
  generalize hG0 : Rs.std = G0 at hfs ⊢
  generalize hG1 : Qs.std = G1 at hfs ⊢
  generalize hA : Ar.std = A
  generalize hL : Lp _ _ _ = L
  obtain ⟨Z, zq⟩ := z_all
  refine cd_open (lp_mono hL) zq rfl ?_
  repeat' (first
    | (refine z_open zq ?_; try dsimp only)
    | refine cd_seq zq ?_ (lp_mono hL)
    | refine cd_blk zq ?_
    | refine cd_ret ?_
    | refine cd_skip ?_
    | refine cd_exit ?_
    | refine cd_loop ?_
    | refine cd_cond rfl ?_
    | refine cd_condT rfl ?_
    | refine cd_condF rfl ?_
    | (refine Cd.mk ?_; cbv)
    | (refine Ends1.mk ?_; cbv)
    | (refine Fin1.mk ?_; cbv)
    | exact trivial
    | refine And.intro ?_ ?_
    | refine orf fun _ => ?_
    | refine ort fun _ => ?_)
  all_goals
    clear hL zq Z hfs
    subst hF hA hG0 hG1
    have h1 := ch_may (k := a0) (s := 0) (q := 0) (a := 0) (p := List.replicate (IntKind.i64.wrap a1).toNat 0)
    have h2 := fun h => (enc_len (k := a0) (s := 0) (q := 0) (a := 0) (p := List.replicate (IntKind.i64.wrap a1).toNat 0) h).2
    have h3 := wr a1 (by omega) (by omega)
    simp only [Qs.std, Rs.std, Ar.std] at *
    try (grind [stdCmp, b_add, wr])
theorem walk (a0 : Int) (a1 : Int) (w : World) (_ : (Lit.int .i64 a0).wf = true) (w1 : (Lit.int .u16 a1).wf = true) : Calls Try.prog 7 #[.int .i64 a0, .int .u16 a1] w (Law.Yes w) :=
  yes_of (FsOk.cons ok_encode (FsOk.cons ok_rmay (FsOk.cons ok_awake FsOk.nil rfl) rfl) rfl) Try.func7 rfl (vs := [.int .i64 a0, .int .u16 a1]) (by exact ⟨rfl, rfl, trivial⟩) (lee_le rfl) fun hZ => x_law a0 a1 (wf16 w1) hZ
theorem own : ownKnob Try.prog.godebug = none := by kernel_rfl
theorem laidOut : laidOutB Try.prog = true := by kernel_rfl
set_option maxRecDepth 100000 in
theorem lifted (os : Os) (started : os.Started) (H : Type) (enc : TypeId × Value → H) :
    ReturnsInHanded {} Try.checked os 7 .any (Rows.frameSizesSpec.pre6 enc Try.prog Try.f7 Rows.frameSizesRow.domain false) (Rows.frameSizesSpec.post enc Try.prog Try.f7 false true false false) := by
  refine returnsInHanded_of_change_sized (C := Try.checked) own started (by kernel_rfl) Try.func7
    (ChangeSpec.witness6 (enc := enc) (C := Try.checked) false ⟨#[], #[.int .i64 0, .int .u16 0], []⟩ 8 (by kernel_rfl) (by kernel_rfl) (by kernel_rfl) (by kernel_rfl)) ?_
  intro W base args ds gs before hval0 hW _ hz _
  have hval : ∀ (j : Nat) t v, Try.f7.params[j]? = some t → args[j]? = some v → Value.okWide Try.prog W .any base t v := hval0
  have hW' := hW
  obtain ⟨p, q, hA0, hV, rfl, _, _⟩ := hW
  have hA : DataW.TrodAll enc Try.prog W 0 (fun _ => true) true Try.f7.params.toList args.toList ds p := hA0
  rw [Try.params7] at hA hval
  obtain ⟨v0, v1, d0, d1, p0, p1, rfl, rfl, rfl, h0, h1⟩ := trodAll_two hA
  obtain ⟨rfl, rfl⟩ := trodVars_none hV
  obtain ⟨a0, rfl, rfl, rfl, w0⟩ := open_int Try.underlying3 (hval 0 3 v0 rfl rfl) h0
  obtain ⟨a1, rfl, rfl, rfl, w1⟩ := open_int Try.underlying36 (hval 1 36 v1 rfl rfl) h1
  refine (walk a0 a1 W w0 w1).mono fun e W' ⟨he, hb⟩ => ?_
  subst he
  exact ⟨_, rfl, law_post laidOut (by kernel_rfl) (by kernel_rfl) Try.underlying4 rfl hW' rfl hb⟩
theorem proved : Rows.FrameSizesSaid :=
  OpenClaim.holds_of_wide 7 Try.f7 rfl rfl rfl rfl rfl rfl rfl ⟨rfl, rfl, rfl, rfl, rfl⟩ rfl rfl rfl rfl rfl (by kernel_rfl) Try.func7 (by kernel_rfl)
    (of_decide_eq_true (by kernel_rfl)) (by unfold Func.isWrapper; first | (rw [if_pos (by decide +kernel)]; kernel_rfl) | (rw [if_neg (by decide +kernel)]; exact ⟨rfl, rfl⟩))
    (fun os started H enc _ => lifted os started H enc)
end Go.Proofs.Ytdfknpjlapaadaa.FrameSizes
