/-
  CrcMore: for every input the call tells true, and nothing that was there turns. No condition.
-/
import Derived.Test.YtnifnfegnfaabaaRows
import Derived.Test.YtnifnfegnfaabaaLaw
import Derived.Test.YtnifnfegnfaabaaRyIn
import Derived.Test.YtnifnfegnfaabaaCrcR
namespace Go.Proofs.Ytnifnfegnfaabaa.CrcMore
open Go Go.Proofs.Ytnifnfegnfaabaa.Ry Go.Proofs.Ytnifnfegnfaabaa.Law Go.Proofs.Ytnifnfegnfaabaa.CrcR Go.Proofs.Ytnifnfegnfaabaa.CrcS
open Go.ChangeShapes Go.WideShapes Go.ChangeAt Go.Joins Go.RowKit
theorem okl {l : List Int} (h : l.length ≤ 1000000) (hw : ∀ x ∈ l, 0 ≤ x ∧ x ≤ 255) : okB l = true := decide_eq_true ⟨h, fun x hx => (hw x hx).1⟩
theorem more_of (a b : List Int) : moreI (ofI a) b = ofI (a ++ b) := by
  unfold moreI ofI moreV
  rw [ofB_nv]
  simp [sl]
set_option maxRecDepth 100000 in
theorem x_law (a0 : List Int) (a1 : List Int) (w0 : ∀ x ∈ a0, 0 ≤ x ∧ x ≤ 255) (w1 : ∀ x ∈ a1, 0 ≤ x ∧ x ≤ 255) (s0 : a0.length ≤ 140737488355328) (s1 : a1.length ≤ 140737488355328) (_ : sized [.one (.sl none (.ints .u8 a0)), .one (.sl none (.ints .u8 a1))]) : Does [(14, c_of Fs.std), (16, c_more Fs.std), (15, c_rof Fs.std), (13, c_awake Fs.std)] Try.f4 [.one (.sl none (.ints .u8 a0)), .one (.sl none (.ints .u8 a1))] [] ⟨True, .sa (B true), [], [Any, Any]⟩ := by
  intro b gv
  have hfs := (FsOk.cons ok_of (FsOk.cons ok_more (FsOk.cons ok_rof (FsOk.cons ok_awake FsOk.nil))))
  generalize hF : Fs.std = F at hfs ⊢
  generalize hA : Ar.std = A
  generalize hL : Lp _ _ _ = L
  cbv
  have ho := fun h => okl (l := a0 ++ a1) h (by intro x hx; rcases List.mem_append.1 hx with h | h; exact w0 x h; exact w1 x h)
  have hm := more_of a0 a1
  subst hF hA
  simp only [Fs.std, Ar.std, List.nil_append]
  clear hfs hL w0 w1
  grind [stdCmp, b_add, wr]
theorem walk (a0 : List Int) (a1 : List Int) (A0 : Option Addr) (n0 c0 : Nat) (A1 : Option Addr) (n1 c1 : Nat) (w : World) (r0 : Law.Reads w w.heap.size 1 A0 n0 (a0.map (Value.int .u8))) (b0 : n0 ≤ c0 ∧ c0 ≤ maxLen) (w0 : Law.Wf .u8 a0) (s0 : n0 ≤ 140737488355328) (r1 : Law.Reads w w.heap.size 1 A1 n1 (a1.map (Value.int .u8))) (b1 : n1 ≤ c1 ∧ c1 ≤ maxLen) (w1 : Law.Wf .u8 a1) (s1 : n1 ≤ 140737488355328) : Calls Try.prog 4 #[.slice A0 n0 c0, .slice A1 n1 c1] w (Law.Yes w) :=
  yes_of (FsOk.cons ok_of (FsOk.cons ok_more (FsOk.cons ok_rof (FsOk.cons ok_awake FsOk.nil)))) Try.func4 rfl (vs := [.slice A0 n0 c0, .slice A1 n1 c1]) (by exact ⟨(ints_of r0 b0).2, (ints_of r1 b1).2, trivial⟩) (lee_le rfl) fun hZ => x_law a0 a1 (fun x hx => wf8 (w0 x hx)) (fun x hx => wf8 (w1 x hx)) (Nat.le_trans (Nat.le_of_eq (ints_of r0 b0).1) s0) (Nat.le_trans (Nat.le_of_eq (ints_of r1 b1).1) s1) hZ
theorem own : ownKnob Try.prog.godebug = none := by kernel_rfl
theorem laidOut : laidOutB Try.prog = true := by kernel_rfl
set_option maxRecDepth 100000 in
theorem lifted (os : Os) (started : os.Started) (H : Type) (enc : TypeId × Value → H) :
    ReturnsInHanded {} Try.checked os 4 .any (Rows.crcMoreSpec.pre6 enc Try.prog Try.f4 Rows.crcMoreRow.domain false) (Rows.crcMoreSpec.post enc Try.prog Try.f4 false true false false) := by
  refine returnsInHanded_of_change_sized (C := Try.checked) own started (by kernel_rfl) Try.func4
    (ChangeSpec.witness6 (enc := enc) (C := Try.checked) false ⟨#[], #[.slice none 0 0, .slice none 0 0], []⟩ 8 (by kernel_rfl) (by kernel_rfl) (by kernel_rfl) (by kernel_rfl)) ?_
  intro W base args ds gs before hval0 hW _ hz _
  have hval : ∀ (j : Nat) t v, Try.f4.params[j]? = some t → args[j]? = some v → Value.okWide Try.prog W .any base t v := hval0
  have hW' := hW
  obtain ⟨p, q, hA0, hV, rfl, _, _⟩ := hW
  have hA : DataW.TrodAll enc Try.prog W 0 (fun _ => true) true Try.f4.params.toList args.toList ds p := hA0
  rw [Try.params4] at hA hval
  obtain ⟨v0, v1, d0, d1, p0, p1, rfl, rfl, rfl, h0, h1⟩ := trodAll_two hA
  obtain ⟨rfl, rfl⟩ := trodVars_none hV
  obtain ⟨A0, n0, c0, a0, rfl, b0, r0, w0⟩ := SliceIn.ints Try.underlying22 Try.underlying5 (by kernel_rfl) (hval 0 22 v0 rfl rfl) h0
  have s0 := short_of Try.underlying22 (by decide +kernel) hz (j := 0) rfl rfl h0
  obtain ⟨A1, n1, c1, a1, rfl, b1, r1, w1⟩ := SliceIn.ints Try.underlying22 Try.underlying5 (by kernel_rfl) (hval 1 22 v1 rfl rfl) h1
  have s1 := short_of Try.underlying22 (by decide +kernel) hz (j := 1) rfl rfl h1
  refine (walk a0 a1 A0 n0 c0 A1 n1 c1 W r0 b0 w0 s0 r1 b1 w1 s1).mono fun e W' ⟨he, hb⟩ => ?_
  subst he
  exact ⟨_, rfl, law_post laidOut (by kernel_rfl) (by kernel_rfl) Try.underlying4 rfl hW' rfl hb⟩
theorem proved : Rows.CrcMoreSaid :=
  OpenClaim.holds_of_wide 4 Try.f4 rfl rfl rfl rfl rfl rfl rfl ⟨rfl, rfl, rfl, rfl, rfl⟩ rfl rfl rfl rfl rfl (by kernel_rfl) Try.func4 (by kernel_rfl)
    (of_decide_eq_true (by kernel_rfl)) (by unfold Func.isWrapper; first | (rw [if_pos (by decide +kernel)]; kernel_rfl) | (rw [if_neg (by decide +kernel)]; exact ⟨rfl, rfl⟩))
    (fun os started H enc _ => lifted os started H enc)
end Go.Proofs.Ytnifnfegnfaabaa.CrcMore
