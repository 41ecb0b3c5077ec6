/-
  CrcBursts: for every input the call tells true, and nothing that was there turns. No condition.
-/
import Derived.Test.YtnifnfegnfaabaaRows
import Derived.Test.YtnifnfegnfaabaaLaw
import Derived.Test.YtnifnfegnfaabaaRyIn
import Derived.Test.YtnifnfegnfaabaaRyZ
import Derived.Test.YtnifnfegnfaabaaCrcR
import Derived.Test.YtnifnfegnfaabaaCrcB
import Derived.Test.YtnifnfegnfaabaaCrcW
namespace Go.Proofs.Ytnifnfegnfaabaa.CrcBursts
open Go Go.Proofs.Ytnifnfegnfaabaa.Ry Go.Proofs.Ytnifnfegnfaabaa.Law Go.Proofs.Ytnifnfegnfaabaa.CrcR Go.Proofs.Ytnifnfegnfaabaa.CrcB Go.Proofs.Ytnifnfegnfaabaa.CrcW Go.Proofs.Ytnifnfegnfaabaa.CrcS Go.Proofs.Ytnifnfegnfaabaa.CrcT
open Go.ChangeShapes Go.WideShapes Go.ChangeAt Go.Joins Go.RowKit
theorem wf16 {a : Int} (h : (Lit.int .u16 a).wf = true) : 0 ≤ a ∧ a ≤ 65535 := by
  simpa [Lit.wf, IntKind.min, IntKind.max, IntKind.signed, IntKind.bits] using h
set_option maxHeartbeats 2000000 in
set_option cbv.maxSteps 1000000 in
set_option maxRecDepth 100000 in
theorem x_law (a0 : List Int) (a1 : Int) (a2 : Int) (w0 : ∀ x ∈ a0, 0 ≤ x ∧ x ≤ 255) (w1 : 0 ≤ a1 ∧ a1 ≤ 65535) (_ : sized [.one (.sl none (.ints .u8 a0)), .one (.val (.int .u16 a1)), .one (.val (.int .u32 a2))]) : Does [(17, c_seal Fs.std), (21, c_burst Bs1.std), (18, c_open Fs.std), (13, c_awake Fs.std)] Try.f7 [.one (.sl none (.ints .u8 a0)), .one (.val (.int .u16 a1)), .one (.val (.int .u32 a2))] [] ⟨True, .sa (B true), [], [Any, Any, Any]⟩ := by
  intro b gv
  have hfs := (FsOk.cons ok_seal (FsOk.cons ok_burst (FsOk.cons ok_open (FsOk.cons ok_awake FsOk.nil rfl) rfl) rfl) rfl)
  generalize hF : Bs1.std = F at hfs ⊢
  generalize hG0 : Fs.std = G0 at hfs ⊢
  generalize hA : Ar.std = A
  generalize hL : Lp _ _ _ = L
  obtain ⟨Z, zq⟩ := z_all
  refine cd_open (lp_mono hL) zq rfl ?_
  repeat' (first
    | (refine z_open zq ?_; try dsimp only)
    | refine cd_seq zq ?_ (lp_mono hL)
    | refine cd_blk zq ?_
    | refine cd_ret ?_
    | refine cd_skip ?_
    | refine cd_exit ?_
    | refine cd_loop ?_
    | refine cd_cond rfl ?_
    | refine cd_condT rfl ?_
    | refine cd_condF rfl ?_
    | (refine Cd.mk ?_; cbv)
    | (refine Ends1.mk ?_; cbv)
    | (refine Fin1.mk ?_; cbv)
    | exact trivial
    | refine And.intro ?_ ?_
    | refine orf fun _ => ?_
    | refine ort fun _ => ?_)
  all_goals
    clear hfs hL zq Z
    subst hF hA hG0
    simp only [Bs1.std, Fs.std, Ar.std] at *
    have hsl := seal_len a0
    have hbl := bu_len (sealI a0) (stdBin .rem .i64 (IntKind.i64.wrap a1) (stdBin .mul .i64 8 (sealI a0).length)) a2 32
    have hb := bursts a0 (stdBin .rem .i64 (IntKind.i64.wrap a1) (stdBin .mul .i64 8 (sealI a0).length)) a2
    have hbe : buL (sealI a0) (stdBin .rem .i64 (IntKind.i64.wrap a1) (stdBin .mul .i64 8 (sealI a0).length)) a2 = buN (sealI a0) (stdBin .rem .i64 (IntKind.i64.wrap a1) (stdBin .mul .i64 8 (sealI a0).length)) a2 32 := rfl
    have hr : (a0.length : Int) ≤ 4000 → stdBin .mul .i64 8 (sealI a0).length = 8 * (sealI a0).length ∧ 0 ≤ stdBin .rem .i64 (IntKind.i64.wrap a1) (stdBin .mul .i64 8 (sealI a0).length) ∧ stdBin .rem .i64 (IntKind.i64.wrap a1) (stdBin .mul .i64 8 (sealI a0).length) ≤ 65535 := fun h => by
      have e1 : stdBin .mul .i64 8 (sealI a0).length = 8 * (sealI a0).length := by rw [b_mul, wr _ (by omega) (by omega)]
      rw [e1, wr a1 (by omega) (by omega), b_rem, Int.tmod_eq_emod_of_nonneg w1.1]
      have h1 := Int.emod_nonneg a1 (show 8 * ((sealI a0).length : Int) ≠ 0 by omega)
      have h2 : a1 % (8 * ((sealI a0).length : Int)) ≤ a1 := by
        have := Int.emod_add_mul_ediv a1 (8 * ((sealI a0).length : Int))
        have h3 : 0 ≤ 8 * ((sealI a0).length : Int) * (a1 / (8 * ((sealI a0).length : Int))) := Int.mul_nonneg (by omega) (Int.ediv_nonneg w1.1 (by omega))
        omega
      exact ⟨rfl, h1, by omega⟩
    generalize stdBin .rem .i64 (IntKind.i64.wrap a1) (stdBin .mul .i64 8 (sealI a0).length) = at0 at *
    try (grind [stdCmp, b_add, wr, shortB, okU])
theorem walk (a0 : List Int) (a1 : Int) (a2 : Int) (A0 : Option Addr) (n0 c0 : Nat) (w : World) (r0 : Law.Reads w w.heap.size 1 A0 n0 (a0.map (Value.int .u8))) (b0 : n0 ≤ c0 ∧ c0 ≤ maxLen) (w0 : Law.Wf .u8 a0) (_ : n0 ≤ 140737488355328) (w1 : (Lit.int .u16 a1).wf = true) (_ : (Lit.int .u32 a2).wf = true) : Calls Try.prog 7 #[.slice A0 n0 c0, .int .u16 a1, .int .u32 a2] w (Law.Yes w) :=
  yes_of (FsOk.cons ok_seal (FsOk.cons ok_burst (FsOk.cons ok_open (FsOk.cons ok_awake FsOk.nil rfl) rfl) rfl) rfl) Try.func7 rfl (vs := [.slice A0 n0 c0, .int .u16 a1, .int .u32 a2]) (by exact ⟨(ints_of r0 b0).2, rfl, rfl, trivial⟩) (lee_le rfl) fun hZ => x_law a0 a1 a2 (fun x hx => wf8 (w0 x hx)) (wf16 w1) hZ
theorem own : ownKnob Try.prog.godebug = none := by kernel_rfl
theorem laidOut : laidOutB Try.prog = true := by kernel_rfl
set_option maxRecDepth 100000 in
theorem lifted (os : Os) (started : os.Started) (H : Type) (enc : TypeId × Value → H) :
    ReturnsInHanded {} Try.checked os 7 .any (Rows.crcBurstsSpec.pre6 enc Try.prog Try.f7 Rows.crcBurstsRow.domain false) (Rows.crcBurstsSpec.post enc Try.prog Try.f7 false true false false) := by
  refine returnsInHanded_of_change_sized (C := Try.checked) own started (by kernel_rfl) Try.func7
    (ChangeSpec.witness6 (enc := enc) (C := Try.checked) false ⟨#[], #[.slice none 0 0, .int .u16 0, .int .u32 0], []⟩ 8 (by kernel_rfl) (by kernel_rfl) (by kernel_rfl) (by kernel_rfl)) ?_
  intro W base args ds gs before hval0 hW _ hz _
  have hval : ∀ (j : Nat) t v, Try.f7.params[j]? = some t → args[j]? = some v → Value.okWide Try.prog W .any base t v := hval0
  have hW' := hW
  obtain ⟨p, q, hA0, hV, rfl, _, _⟩ := hW
  have hA : DataW.TrodAll enc Try.prog W 0 (fun _ => true) true Try.f7.params.toList args.toList ds p := hA0
  rw [Try.params7] at hA hval
  obtain ⟨v0, v1, v2, d0, d1, d2, p0, p1, p2, rfl, rfl, rfl, h0, h1, h2⟩ := trodAll_three hA
  obtain ⟨rfl, rfl⟩ := trodVars_none hV
  obtain ⟨A0, n0, c0, a0, rfl, b0, r0, w0⟩ := SliceIn.ints Try.underlying22 Try.underlying5 (by kernel_rfl) (hval 0 22 v0 rfl rfl) h0
  have s0 := short_of Try.underlying22 (by decide +kernel) hz (j := 0) rfl rfl h0
  obtain ⟨a1, rfl, rfl, rfl, w1⟩ := open_int Try.underlying35 (hval 1 35 v1 rfl rfl) h1
  obtain ⟨a2, rfl, rfl, rfl, w2⟩ := open_int Try.underlying24 (hval 2 24 v2 rfl rfl) h2
  refine (walk a0 a1 a2 A0 n0 c0 W r0 b0 w0 s0 w1 w2).mono fun e W' ⟨he, hb⟩ => ?_
  subst he
  exact ⟨_, rfl, law_post laidOut (by kernel_rfl) (by kernel_rfl) Try.underlying4 rfl hW' rfl hb⟩
theorem proved : Rows.CrcBurstsSaid :=
  OpenClaim.holds_of_wide 7 Try.f7 rfl rfl rfl rfl rfl rfl rfl ⟨rfl, rfl, rfl, rfl, rfl⟩ rfl rfl rfl rfl rfl (by kernel_rfl) Try.func7 (by kernel_rfl)
    (of_decide_eq_true (by kernel_rfl)) (by unfold Func.isWrapper; first | (rw [if_pos (by decide +kernel)]; kernel_rfl) | (rw [if_neg (by decide +kernel)]; exact ⟨rfl, rfl⟩))
    (fun os started H enc _ => lifted os started H enc)
end Go.Proofs.Ytnifnfegnfaabaa.CrcBursts
