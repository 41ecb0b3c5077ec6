/-
  FrameDecodes: for every input the call tells true, and nothing that was there turns. No condition.
-/
import Derived.Test.YtdfknpjlapaadaaRows
import Derived.Test.YtdfknpjlapaadaaLaw
import Derived.Test.YtdfknpjlapaadaaRyIn
import Derived.Test.YtdfknpjlapaadaaRyZ
import Derived.Test.YtdfknpjlapaadaaFrA
namespace Go.Proofs.Ytdfknpjlapaadaa.FrameDecodes
open Go Go.Proofs.Ytdfknpjlapaadaa.Ry Go.Proofs.Ytdfknpjlapaadaa.Law Go.Proofs.Ytdfknpjlapaadaa.FrA Go.Proofs.Ytdfknpjlapaadaa.OctR Go.Proofs.Ytdfknpjlapaadaa.OctP Go.Proofs.Ytdfknpjlapaadaa.OctQ Go.Proofs.Ytdfknpjlapaadaa.FrR Go.Proofs.Ytdfknpjlapaadaa.FrQ Go.Proofs.Ytdfknpjlapaadaa.FrS
open Go.ChangeShapes Go.WideShapes Go.ChangeAt Go.Joins Go.RowKit
set_option maxHeartbeats 4000000 in
set_option maxRecDepth 100000 in
theorem x_law (a0 : List Int) (w0 : ∀ x ∈ a0, 0 ≤ x ∧ x ≤ 255) (s0 : a0.length ≤ 140737488355328) (_ : sized [.one (.sl none (.ints .u8 a0))]) : Does [(18, c_decode Rs.std), (21, c_rdecode Qs.std), (20, c_rsame Qs.std), (14, c_awake As.std)] Try.f4 [.one (.sl none (.ints .u8 a0))] [] ⟨True, .sa (B true), [], [Any]⟩ := by
  intro b gv
  have hfs := (FsOk.cons ok_decode (FsOk.cons ok_rdecode (FsOk.cons ok_rsame (FsOk.cons ok_awake FsOk.nil rfl) rfl) rfl) rfl)
  generalize hF : As.std = F at hfs ⊢
  generalize hG0 : Rs.std = G0 at hfs ⊢
  generalize hG1 : Qs.std = G1 at hfs ⊢
  generalize hA : Ar.std = A
  generalize hL : Lp _ _ _ = L
  obtain ⟨Z, zq⟩ := z_all
  refine cd_open (lp_mono hL) zq rfl ?_
  repeat' (first
    | (refine z_open zq ?_; try dsimp only)
    | refine cd_seq zq ?_ (lp_mono hL)
    | refine cd_blk zq ?_
    | refine cd_ret ?_
    | refine cd_skip ?_
    | refine cd_exit ?_
    | refine cd_loop ?_
    | refine cd_cond rfl ?_
    | refine cd_condT rfl ?_
    | refine cd_condF rfl ?_
    | (refine Cd.mk ?_; cbv)
    | (refine Ends1.mk ?_; cbv)
    | (refine Fin1.mk ?_; cbv)
    | exact trivial
    | refine And.intro ?_ ?_
    | refine orf fun _ => ?_
    | refine ort fun _ => ?_)
  all_goals
    clear hL zq Z hfs
    subst hF hA hG0 hG1
    have h1 := dec_is w0
    have h2 := dec_by w0
    have h3 : byB a0 = true := decide_eq_true w0
    have h4 : Int.ofNat 1 = 1 := rfl
    simp only [Qs.std, Rs.std, Ar.std] at *
    try (grind [stdCmp, smF])
theorem walk (a0 : List Int) (A0 : Option Addr) (n0 c0 : Nat) (w : World) (r0 : Law.Reads w w.heap.size 1 A0 n0 (a0.map (Value.int .u8))) (b0 : n0 ≤ c0 ∧ c0 ≤ maxLen) (w0 : Law.Wf .u8 a0) (s0 : n0 ≤ 140737488355328) : Calls Try.prog 4 #[.slice A0 n0 c0] w (Law.Yes w) :=
  yes_of (FsOk.cons ok_decode (FsOk.cons ok_rdecode (FsOk.cons ok_rsame (FsOk.cons ok_awake FsOk.nil rfl) rfl) rfl) rfl) Try.func4 rfl (vs := [.slice A0 n0 c0]) (by exact ⟨(ints_of r0 b0).2, trivial⟩) (lee_le rfl) fun hZ => x_law a0 (fun x hx => wf8 (w0 x hx)) ((ints_of r0 b0).1 ▸ s0) hZ
theorem own : ownKnob Try.prog.godebug = none := by kernel_rfl
theorem laidOut : laidOutB Try.prog = true := by kernel_rfl
set_option maxRecDepth 100000 in
theorem lifted (os : Os) (started : os.Started) (H : Type) (enc : TypeId × Value → H) :
    ReturnsInHanded {} Try.checked os 4 .any (Rows.frameDecodesSpec.pre6 enc Try.prog Try.f4 Rows.frameDecodesRow.domain false) (Rows.frameDecodesSpec.post enc Try.prog Try.f4 false true false false) := by
  refine returnsInHanded_of_change_sized (C := Try.checked) own started (by kernel_rfl) Try.func4
    (ChangeSpec.witness6 (enc := enc) (C := Try.checked) false ⟨#[], #[.slice none 0 0], []⟩ 8 (by kernel_rfl) (by kernel_rfl) (by kernel_rfl) (by kernel_rfl)) ?_
  intro W base args ds gs before hval0 hW _ hz _
  have hval : ∀ (j : Nat) t v, Try.f4.params[j]? = some t → args[j]? = some v → Value.okWide Try.prog W .any base t v := hval0
  have hW' := hW
  obtain ⟨p, q, hA0, hV, rfl, _, _⟩ := hW
  have hA : DataW.TrodAll enc Try.prog W 0 (fun _ => true) true Try.f4.params.toList args.toList ds p := hA0
  rw [Try.params4] at hA hval
  obtain ⟨v0, d0, rfl, rfl, h0⟩ := trodAll_one hA
  obtain ⟨rfl, rfl⟩ := trodVars_none hV
  obtain ⟨A0, n0, c0, a0, rfl, b0, r0, w0⟩ := SliceIn.ints Try.underlying22 Try.underlying5 (by kernel_rfl) (hval 0 22 v0 rfl rfl) h0
  have s0 := short_of Try.underlying22 (by decide +kernel) hz (j := 0) rfl rfl h0
  refine (walk a0 A0 n0 c0 W r0 b0 w0 s0).mono fun e W' ⟨he, hb⟩ => ?_
  subst he
  exact ⟨_, rfl, law_post laidOut (by kernel_rfl) (by kernel_rfl) Try.underlying4 rfl hW' rfl hb⟩
theorem proved : Rows.FrameDecodesSaid :=
  OpenClaim.holds_of_wide 4 Try.f4 rfl rfl rfl rfl rfl rfl rfl ⟨rfl, rfl, rfl, rfl, rfl⟩ rfl rfl rfl rfl rfl (by kernel_rfl) Try.func4 (by kernel_rfl)
    (of_decide_eq_true (by kernel_rfl)) (by unfold Func.isWrapper; first | (rw [if_pos (by decide +kernel)]; kernel_rfl) | (rw [if_neg (by decide +kernel)]; exact ⟨rfl, rfl⟩))
    (fun os started H enc _ => lifted os started H enc)
end Go.Proofs.Ytdfknpjlapaadaa.FrameDecodes
