/-
  CrcOpens: for every input the call tells true, and nothing that was there turns. No condition.
-/
import Derived.Test.YtnifnfegnfaabaaRows
import Derived.Test.YtnifnfegnfaabaaLaw
import Derived.Test.YtnifnfegnfaabaaRyIn
import Derived.Test.YtnifnfegnfaabaaCrcR
import Derived.Test.YtnifnfegnfaabaaCrcT
namespace Go.Proofs.Ytnifnfegnfaabaa.CrcOpens
open Go Go.Proofs.Ytnifnfegnfaabaa.Ry Go.Proofs.Ytnifnfegnfaabaa.Law Go.Proofs.Ytnifnfegnfaabaa.CrcR Go.Proofs.Ytnifnfegnfaabaa.CrcT Go.Proofs.Ytnifnfegnfaabaa.CrcS
open Go.ChangeShapes Go.WideShapes Go.ChangeAt Go.Joins Go.RowKit
theorem okl {l : List Int} (h : l.length ≤ 1000000) (hw : ∀ x ∈ l, 0 ≤ x ∧ x ≤ 255) : okB l = true := decide_eq_true ⟨h, fun x hx => (hw x hx).1⟩
set_option maxRecDepth 100000 in
theorem x_law (a0 : List Int) (w0 : ∀ x ∈ a0, 0 ≤ x ∧ x ≤ 255) (_ : sized [.one (.sl none (.ints .u8 a0))]) : Does [(18, c_open Fs.std), (20, c_ropen Fs.std), (13, c_awake Fs.std)] Try.f6 [.one (.sl none (.ints .u8 a0))] [] ⟨True, .sa (B true), [], [Any]⟩ := by
  intro b gv
  have hfs := (FsOk.cons ok_open (FsOk.cons ok_ropen (FsOk.cons ok_awake FsOk.nil)))
  generalize hF : Fs.std = F at hfs ⊢
  generalize hA : Ar.std = A
  generalize hL : Lp _ _ _ = L
  cbv
  have ho := fun h => okl (l := a0) h w0
  have hg := fun h => good_iff a0 h w0
  subst hF hA
  simp only [Fs.std, Ar.std, List.nil_append]
  clear hfs hL w0
  grind [stdCmp, shortB, openI, errI, ropenI]
theorem walk (a0 : List Int) (A0 : Option Addr) (n0 c0 : Nat) (w : World) (r0 : Law.Reads w w.heap.size 1 A0 n0 (a0.map (Value.int .u8))) (b0 : n0 ≤ c0 ∧ c0 ≤ maxLen) (w0 : Law.Wf .u8 a0) (_ : n0 ≤ 140737488355328) : Calls Try.prog 6 #[.slice A0 n0 c0] w (Law.Yes w) :=
  yes_of (FsOk.cons ok_open (FsOk.cons ok_ropen (FsOk.cons ok_awake FsOk.nil))) Try.func6 rfl (vs := [.slice A0 n0 c0]) (by exact ⟨(ints_of r0 b0).2, trivial⟩) (lee_le rfl) fun hZ => x_law a0 (fun x hx => wf8 (w0 x hx)) hZ
theorem own : ownKnob Try.prog.godebug = none := by kernel_rfl
theorem laidOut : laidOutB Try.prog = true := by kernel_rfl
set_option maxRecDepth 100000 in
theorem lifted (os : Os) (started : os.Started) (H : Type) (enc : TypeId × Value → H) :
    ReturnsInHanded {} Try.checked os 6 .any (Rows.crcOpensSpec.pre6 enc Try.prog Try.f6 Rows.crcOpensRow.domain false) (Rows.crcOpensSpec.post enc Try.prog Try.f6 false true false false) := by
  refine returnsInHanded_of_change_sized (C := Try.checked) own started (by kernel_rfl) Try.func6
    (ChangeSpec.witness6 (enc := enc) (C := Try.checked) false ⟨#[], #[.slice none 0 0], []⟩ 8 (by kernel_rfl) (by kernel_rfl) (by kernel_rfl) (by kernel_rfl)) ?_
  intro W base args ds gs before hval0 hW _ hz _
  have hval : ∀ (j : Nat) t v, Try.f6.params[j]? = some t → args[j]? = some v → Value.okWide Try.prog W .any base t v := hval0
  have hW' := hW
  obtain ⟨p, q, hA0, hV, rfl, _, _⟩ := hW
  have hA : DataW.TrodAll enc Try.prog W 0 (fun _ => true) true Try.f6.params.toList args.toList ds p := hA0
  rw [Try.params6] at hA hval
  obtain ⟨v0, d0, rfl, rfl, h0⟩ := trodAll_one hA
  obtain ⟨rfl, rfl⟩ := trodVars_none hV
  obtain ⟨A0, n0, c0, a0, rfl, b0, r0, w0⟩ := SliceIn.ints Try.underlying22 Try.underlying5 (by kernel_rfl) (hval 0 22 v0 rfl rfl) h0
  have s0 := short_of Try.underlying22 (by decide +kernel) hz (j := 0) rfl rfl h0
  refine (walk a0 A0 n0 c0 W r0 b0 w0 s0).mono fun e W' ⟨he, hb⟩ => ?_
  subst he
  exact ⟨_, rfl, law_post laidOut (by kernel_rfl) (by kernel_rfl) Try.underlying4 rfl hW' rfl hb⟩
theorem proved : Rows.CrcOpensSaid :=
  OpenClaim.holds_of_wide 6 Try.f6 rfl rfl rfl rfl rfl rfl rfl ⟨rfl, rfl, rfl, rfl, rfl⟩ rfl rfl rfl rfl rfl (by kernel_rfl) Try.func6 (by kernel_rfl)
    (of_decide_eq_true (by kernel_rfl)) (by unfold Func.isWrapper; first | (rw [if_pos (by decide +kernel)]; kernel_rfl) | (rw [if_neg (by decide +kernel)]; exact ⟨rfl, rfl⟩))
    (fun os started H enc _ => lifted os started H enc)
end Go.Proofs.Ytnifnfegnfaabaa.CrcOpens
