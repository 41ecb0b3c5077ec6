/-
  CrcTurns: for every input the call tells true, and nothing that was there turns. No condition.
-/
import Derived.Test.YtnifnfegnfaabaaRows
import Derived.Test.YtnifnfegnfaabaaLaw
import Derived.Test.YtnifnfegnfaabaaRyIn
import Derived.Test.YtnifnfegnfaabaaCrcR
import Derived.Test.YtnifnfegnfaabaaCrcV
namespace Go.Proofs.Ytnifnfegnfaabaa.CrcTurns
open Go Go.Proofs.Ytnifnfegnfaabaa.Ry Go.Proofs.Ytnifnfegnfaabaa.Law Go.Proofs.Ytnifnfegnfaabaa.CrcR Go.Proofs.Ytnifnfegnfaabaa.CrcV Go.Proofs.Ytnifnfegnfaabaa.CrcS
open Go.ChangeShapes Go.WideShapes Go.ChangeAt Go.Joins Go.RowKit
structure XI where
  i : Int
  c : List Int
def tQ (a b : List Int) (y : XI) : Prop := 0 ≤ y.i ∧ y.i ≤ a.length ∧ y.c = (mixL a b).take y.i.toNat
noncomputable def tI (a b : List Int) (y : XI) : St := stOf Try.f8.ntmps [(0, .sl none (.ints .u8 a)), (1, .sl none (.ints .u8 b)), (5, .sl (some (1, 5)) (.ints .u8 y.c)), (6, .val (.int .i64 y.i))] [(1, .tok)] [Any, Any]
def tM (a : List Int) (y : XI) : Nat := a.length - y.i.toNat
def tR (st : St) : XI := ⟨slotI st 6, slotL st 5⟩
set_option maxRecDepth 100000 in
theorem x_law (a0 : List Int) (a1 : List Int) (_ : sized [.one (.sl none (.ints .u8 a0)), .one (.sl none (.ints .u8 a1))]) : Does [(14, c_of Fs.std), (13, c_awake Fs.std)] Try.f8 [.one (.sl none (.ints .u8 a0)), .one (.sl none (.ints .u8 a1))] [] ⟨True, .sa (B true), [], [Any, Any]⟩ := by
  intro b gv
  have hfs := (FsOk.cons ok_of (FsOk.cons ok_awake FsOk.nil))
  generalize hF : Fs.std = F at hfs ⊢
  generalize hA : Ar.std = A
  generalize hL : Lp _ _ _ = L
  cbv
  repeat' (first | exact trivial | refine And.intro ?_ ?_ | refine orf fun _ => ?_ | refine ort fun _ => ?_)
  all_goals first | (show L _ _ _; skip) | (clear hfs hL; subst hA hF; simp only [Fs.std, Ar.std] at *; grind [stdCmp]; done)
  rename_i hx
  have hlen : a0.length = a1.length ∧ a0.length ≤ 2000 := by
    clear hfs hL
    subst hA
    simp only [Ar.std] at hx
    grind [stdCmp]
  obtain ⟨hl1, hl2⟩ := hlen
  have htn := turns a0 a1 hl1
  have hml := mix_len a0 a1 hl1
  clear hx
  subst hL
  refine loop_rd (cx_ok hfs) (tQ a0 a1) (tI a0 a1) (tM a0) tR ⟨0, []⟩ ?_ ?_ ?_
  · exact ⟨Int.le_refl 0, Int.natCast_nonneg _, rfl⟩
  · cbv
    repeat' (first | exact trivial | exact rfl | refine And.intro ?_ ?_)
  rintro ⟨i, c⟩ ⟨q0, q1, q2⟩ O hO
  dsimp only at q0 q1 q2
  have hst := fun h => mix_take a0 a1 hl1 i q0 h
  have hen : i = a0.length → c = mixL a0 a1 := fun h => by rw [q2, h]; simp [← hml]
  subst hA
  generalize hA : Ar.std = A
  generalize hL : Lp _ _ _ = L
  cbv
  repeat' (first | exact trivial | refine And.intro ?_ ?_ | refine orf fun _ => ?_ | refine ort fun _ => ?_)
  all_goals (clear hL hfs; subst hA hF hO; simp only [Fs.std, Ar.std] at *; grind [stdCmp, b_add, wr, tQ, tM])
theorem walk (a0 : List Int) (a1 : List Int) (A0 : Option Addr) (n0 c0 : Nat) (A1 : Option Addr) (n1 c1 : Nat) (w : World) (r0 : Law.Reads w w.heap.size 1 A0 n0 (a0.map (Value.int .u8))) (b0 : n0 ≤ c0 ∧ c0 ≤ maxLen) (_ : Law.Wf .u8 a0) (_ : n0 ≤ 140737488355328) (r1 : Law.Reads w w.heap.size 1 A1 n1 (a1.map (Value.int .u8))) (b1 : n1 ≤ c1 ∧ c1 ≤ maxLen) (_ : Law.Wf .u8 a1) (_ : n1 ≤ 140737488355328) : Calls Try.prog 8 #[.slice A0 n0 c0, .slice A1 n1 c1] w (Law.Yes w) :=
  yes_of (FsOk.cons ok_of (FsOk.cons ok_awake FsOk.nil)) Try.func8 rfl (vs := [.slice A0 n0 c0, .slice A1 n1 c1]) (by exact ⟨(ints_of r0 b0).2, (ints_of r1 b1).2, trivial⟩) (lee_le rfl) fun hZ => x_law a0 a1 hZ
theorem own : ownKnob Try.prog.godebug = none := by kernel_rfl
theorem laidOut : laidOutB Try.prog = true := by kernel_rfl
set_option maxRecDepth 100000 in
theorem lifted (os : Os) (started : os.Started) (H : Type) (enc : TypeId × Value → H) :
    ReturnsInHanded {} Try.checked os 8 .any (Rows.crcTurnsSpec.pre6 enc Try.prog Try.f8 Rows.crcTurnsRow.domain false) (Rows.crcTurnsSpec.post enc Try.prog Try.f8 false true false false) := by
  refine returnsInHanded_of_change_sized (C := Try.checked) own started (by kernel_rfl) Try.func8
    (ChangeSpec.witness6 (enc := enc) (C := Try.checked) false ⟨#[], #[.slice none 0 0, .slice none 0 0], []⟩ 8 (by kernel_rfl) (by kernel_rfl) (by kernel_rfl) (by kernel_rfl)) ?_
  intro W base args ds gs before hval0 hW _ hz _
  have hval : ∀ (j : Nat) t v, Try.f8.params[j]? = some t → args[j]? = some v → Value.okWide Try.prog W .any base t v := hval0
  have hW' := hW
  obtain ⟨p, q, hA0, hV, rfl, _, _⟩ := hW
  have hA : DataW.TrodAll enc Try.prog W 0 (fun _ => true) true Try.f8.params.toList args.toList ds p := hA0
  rw [Try.params8] at hA hval
  obtain ⟨v0, v1, d0, d1, p0, p1, rfl, rfl, rfl, h0, h1⟩ := trodAll_two hA
  obtain ⟨rfl, rfl⟩ := trodVars_none hV
  obtain ⟨A0, n0, c0, a0, rfl, b0, r0, w0⟩ := SliceIn.ints Try.underlying22 Try.underlying5 (by kernel_rfl) (hval 0 22 v0 rfl rfl) h0
  have s0 := short_of Try.underlying22 (by decide +kernel) hz (j := 0) rfl rfl h0
  obtain ⟨A1, n1, c1, a1, rfl, b1, r1, w1⟩ := SliceIn.ints Try.underlying22 Try.underlying5 (by kernel_rfl) (hval 1 22 v1 rfl rfl) h1
  have s1 := short_of Try.underlying22 (by decide +kernel) hz (j := 1) rfl rfl h1
  refine (walk a0 a1 A0 n0 c0 A1 n1 c1 W r0 b0 w0 s0 r1 b1 w1 s1).mono fun e W' ⟨he, hb⟩ => ?_
  subst he
  exact ⟨_, rfl, law_post laidOut (by kernel_rfl) (by kernel_rfl) Try.underlying4 rfl hW' rfl hb⟩
theorem proved : Rows.CrcTurnsSaid :=
  OpenClaim.holds_of_wide 8 Try.f8 rfl rfl rfl rfl rfl rfl rfl ⟨rfl, rfl, rfl, rfl, rfl⟩ rfl rfl rfl rfl rfl (by kernel_rfl) Try.func8 (by kernel_rfl)
    (of_decide_eq_true (by kernel_rfl)) (by unfold Func.isWrapper; first | (rw [if_pos (by decide +kernel)]; kernel_rfl) | (rw [if_neg (by decide +kernel)]; exact ⟨rfl, rfl⟩))
    (fun os started H enc _ => lifted os started H enc)
end Go.Proofs.Ytnifnfegnfaabaa.CrcTurns
