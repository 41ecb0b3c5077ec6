/-
  BendUnlike: for every input the call tells true, and nothing that was there turns. No condition.
-/
import Derived.Test.YtdfknpjlapaadaaRows
import Derived.Test.YtdfknpjlapaadaaLaw
import Derived.Test.YtdfknpjlapaadaaRyIn
import Derived.Test.YtdfknpjlapaadaaRyZ
import Derived.Test.YtdfknpjlapaadaaBeA
import Derived.Test.YtdfknpjlapaadaaBeU
import Derived.Test.YtdfknpjlapaadaaBeW
namespace Go.Proofs.Ytdfknpjlapaadaa.BendUnlike
open Go Go.Proofs.Ytdfknpjlapaadaa.Ry Go.Proofs.Ytdfknpjlapaadaa.Law Go.Proofs.Ytdfknpjlapaadaa.BeA Go.Proofs.Ytdfknpjlapaadaa.BeU Go.Proofs.Ytdfknpjlapaadaa.BeW Go.Proofs.Ytdfknpjlapaadaa.OctR Go.Proofs.Ytdfknpjlapaadaa.FrR Go.Proofs.Ytdfknpjlapaadaa.FrQ Go.Proofs.Ytdfknpjlapaadaa.FrS Go.Proofs.Ytdfknpjlapaadaa.BeR
open Go.ChangeShapes Go.WideShapes Go.ChangeAt Go.Joins Go.RowKit
set_option maxHeartbeats 4000000 in
set_option maxRecDepth 100000 in
theorem x_law (a0 : List Int) (a1 : List Int) (w0 : ∀ x ∈ a0, 0 ≤ x ∧ x ≤ 255) (w1 : ∀ x ∈ a1, 0 ≤ x ∧ x ≤ 255) (_ : sized [.one (.sl none (.ints .u8 a0)), .one (.sl none (.ints .u8 a1))]) : Does [(29, c_unlike Bd.std), (31, c_reads Bd.std), (32, c_rreads Bd.std), (23, c_awake Ba.std), (30, c_runlike Bw.std)] Try.f9 [.one (.sl none (.ints .u8 a0)), .one (.sl none (.ints .u8 a1))] [] ⟨True, .sa (B true), [], [Any, Any]⟩ := by
  intro b gv
  have hfs := (FsOk.cons ok_unlike (FsOk.cons ok_reads (FsOk.cons ok_rreads (FsOk.cons ok_awake (FsOk.cons ok_runlike FsOk.nil rfl) rfl) rfl) rfl) rfl)
  generalize hF : Ba.std = F at hfs ⊢
  generalize hG0 : Bd.std = G0 at hfs ⊢
  generalize hG1 : Bw.std = G1 at hfs ⊢
  generalize hA : Ar.std = A
  generalize hL : Lp _ _ _ = L
  obtain ⟨Z, zq⟩ := z_all
  refine cd_open (lp_mono hL) zq rfl ?_
  repeat' (first
    | (refine z_open zq ?_; try dsimp only)
    | refine cd_seq zq ?_ (lp_mono hL)
    | refine cd_blk zq ?_
    | refine cd_ret ?_
    | refine cd_skip ?_
    | refine cd_exit ?_
    | refine cd_loop ?_
    | refine cd_cond rfl ?_
    | refine cd_condT rfl ?_
    | refine cd_condF rfl ?_
    | (refine Cd.mk ?_; cbv)
    | (refine Ends1.mk ?_; cbv)
    | (refine Fin1.mk ?_; cbv)
    | exact trivial
    | refine And.intro ?_ ?_
    | refine orf fun _ => ?_
    | refine ort fun _ => ?_)
  all_goals
    clear hL zq Z hfs
    subst hF hA hG0 hG1
    have h0 : byB a0 = true := decide_eq_true w0
    have h1 : byB a1 = true := decide_eq_true w1
    simp only [Bd.std, Bw.std, Ar.std] at *
    try (grind [stdCmp, unB, BeU.shB])
theorem walk (a0 : List Int) (a1 : List Int) (A0 : Option Addr) (n0 c0 : Nat) (A1 : Option Addr) (n1 c1 : Nat) (w : World) (r0 : Law.Reads w w.heap.size 1 A0 n0 (a0.map (Value.int .u8))) (b0 : n0 ≤ c0 ∧ c0 ≤ maxLen) (w0 : Law.Wf .u8 a0) (_ : n0 ≤ 140737488355328) (r1 : Law.Reads w w.heap.size 1 A1 n1 (a1.map (Value.int .u8))) (b1 : n1 ≤ c1 ∧ c1 ≤ maxLen) (w1 : Law.Wf .u8 a1) (_ : n1 ≤ 140737488355328) : Calls Try.prog 9 #[.slice A0 n0 c0, .slice A1 n1 c1] w (Law.Yes w) :=
  yes_of (FsOk.cons ok_unlike (FsOk.cons ok_reads (FsOk.cons ok_rreads (FsOk.cons ok_awake (FsOk.cons ok_runlike FsOk.nil rfl) rfl) rfl) rfl) rfl) Try.func9 rfl (vs := [.slice A0 n0 c0, .slice A1 n1 c1]) (by exact ⟨(ints_of r0 b0).2, (ints_of r1 b1).2, trivial⟩) (lee_le rfl) fun hZ => x_law a0 a1 (fun x hx => wf8 (w0 x hx)) (fun x hx => wf8 (w1 x hx)) hZ
theorem own : ownKnob Try.prog.godebug = none := by kernel_rfl
theorem laidOut : laidOutB Try.prog = true := by kernel_rfl
set_option maxRecDepth 100000 in
theorem lifted (os : Os) (started : os.Started) (H : Type) (enc : TypeId × Value → H) :
    ReturnsInHanded {} Try.checked os 9 .any (Rows.bendUnlikeSpec.pre6 enc Try.prog Try.f9 Rows.bendUnlikeRow.domain false) (Rows.bendUnlikeSpec.post enc Try.prog Try.f9 false true false false) := by
  refine returnsInHanded_of_change_sized (C := Try.checked) own started (by kernel_rfl) Try.func9
    (ChangeSpec.witness6 (enc := enc) (C := Try.checked) false ⟨#[], #[.slice none 0 0, .slice none 0 0], []⟩ 8 (by kernel_rfl) (by kernel_rfl) (by kernel_rfl) (by kernel_rfl)) ?_
  intro W base args ds gs before hval0 hW _ hz _
  have hval : ∀ (j : Nat) t v, Try.f9.params[j]? = some t → args[j]? = some v → Value.okWide Try.prog W .any base t v := hval0
  have hW' := hW
  obtain ⟨p, q, hA0, hV, rfl, _, _⟩ := hW
  have hA : DataW.TrodAll enc Try.prog W 0 (fun _ => true) true Try.f9.params.toList args.toList ds p := hA0
  rw [Try.params9] at hA hval
  obtain ⟨v0, v1, d0, d1, p0, p1, rfl, rfl, rfl, h0, h1⟩ := trodAll_two hA
  obtain ⟨rfl, rfl⟩ := trodVars_none hV
  obtain ⟨A0, n0, c0, a0, rfl, b0, r0, w0⟩ := SliceIn.ints Try.underlying22 Try.underlying5 (by kernel_rfl) (hval 0 22 v0 rfl rfl) h0
  have s0 := short_of Try.underlying22 (by decide +kernel) hz (j := 0) rfl rfl h0
  obtain ⟨A1, n1, c1, a1, rfl, b1, r1, w1⟩ := SliceIn.ints Try.underlying22 Try.underlying5 (by kernel_rfl) (hval 1 22 v1 rfl rfl) h1
  have s1 := short_of Try.underlying22 (by decide +kernel) hz (j := 1) rfl rfl h1
  refine (walk a0 a1 A0 n0 c0 A1 n1 c1 W r0 b0 w0 s0 r1 b1 w1 s1).mono fun e W' ⟨he, hb⟩ => ?_
  subst he
  exact ⟨_, rfl, law_post laidOut (by kernel_rfl) (by kernel_rfl) Try.underlying4 rfl hW' rfl hb⟩
theorem proved : Rows.BendUnlikeSaid :=
  OpenClaim.holds_of_wide 9 Try.f9 rfl rfl rfl rfl rfl rfl rfl ⟨rfl, rfl, rfl, rfl, rfl⟩ rfl rfl rfl rfl rfl (by kernel_rfl) Try.func9 (by kernel_rfl)
    (of_decide_eq_true (by kernel_rfl)) (by unfold Func.isWrapper; first | (rw [if_pos (by decide +kernel)]; kernel_rfl) | (rw [if_neg (by decide +kernel)]; exact ⟨rfl, rfl⟩))
    (fun os started H enc _ => lifted os started H enc)
end Go.Proofs.Ytdfknpjlapaadaa.BendUnlike
