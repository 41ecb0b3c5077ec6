/-
  BendBursts: for every input the call tells true, and nothing that was there turns. No condition.
-/
import Derived.Test.YtdfknpjlapaadaaRows
import Derived.Test.YtdfknpjlapaadaaLaw
import Derived.Test.YtdfknpjlapaadaaRyIn
import Derived.Test.YtdfknpjlapaadaaRyZ
import Derived.Test.YtdfknpjlapaadaaBeA
namespace Go.Proofs.Ytdfknpjlapaadaa.BendBursts
open Go Go.Proofs.Ytdfknpjlapaadaa.Ry Go.Proofs.Ytdfknpjlapaadaa.Law Go.Proofs.Ytdfknpjlapaadaa.BeA Go.Proofs.Ytdfknpjlapaadaa.OctR Go.Proofs.Ytdfknpjlapaadaa.FrR Go.Proofs.Ytdfknpjlapaadaa.FrQ Go.Proofs.Ytdfknpjlapaadaa.FrS Go.Proofs.Ytdfknpjlapaadaa.BeR
open Go.ChangeShapes Go.WideShapes Go.ChangeAt Go.Joins Go.RowKit
theorem wf32 {a : Int} (h : (Lit.int .u32 a).wf = true) : 0 ≤ a := by
  have h : 0 ≤ a ∧ a ≤ 4294967295 := by simpa [Lit.wf, IntKind.min, IntKind.max, IntKind.signed, IntKind.bits] using h
  exact h.1
theorem br_at (n : Int) (k : Int) (h : 0 < k) : 0 ≤ modI n k ∧ modI n k < k := by
  unfold modI
  rw [if_neg (by omega)]
  exact ⟨Int.emod_nonneg n (by omega), Int.emod_lt_of_pos n h⟩
set_option maxHeartbeats 4000000 in
set_option maxRecDepth 100000 in
theorem x_law (a0 : List Int) (a1 : Int) (a2 : Int) (w0 : ∀ x ∈ a0, 0 ≤ x ∧ x ≤ 255) (w2 : 0 ≤ a2) (s0 : a0.length ≤ 140737488355328) (_ : sized [.one (.sl none (.ints .u8 a0)), .one (.val (.int .i64 a1)), .one (.val (.int .u32 a2))]) : Does [(24, c_burst2 Bd.std), (25, c_cut Bd.std), (26, c_flip Bd.std), (27, c_rburst Bd.std), (28, c_at Bd.std), (23, c_awake Ba.std)] Try.f8 [.one (.sl none (.ints .u8 a0)), .one (.val (.int .i64 a1)), .one (.val (.int .u32 a2))] [] ⟨True, .sa (B true), [], [Any, Any, Any]⟩ := by
  intro b gv
  have hfs := (FsOk.cons ok_burst2 (FsOk.cons ok_cut (FsOk.cons ok_flip (FsOk.cons ok_rburst (FsOk.cons ok_at (FsOk.cons ok_awake FsOk.nil rfl) rfl) rfl) rfl) rfl) rfl)
  generalize hF : Ba.std = F at hfs ⊢
  generalize hG0 : Bd.std = G0 at hfs ⊢
  generalize hG1 : Qs.std = G1 at hfs ⊢
  generalize hA : Ar.std = A
  generalize hL : Lp _ _ _ = L
  obtain ⟨Z, zq⟩ := z_all
  refine cd_open (lp_mono hL) zq rfl ?_
  repeat' (first
    | (refine z_open zq ?_; try dsimp only)
    | refine cd_seq zq ?_ (lp_mono hL)
    | refine cd_blk zq ?_
    | refine cd_ret ?_
    | refine cd_skip ?_
    | refine cd_exit ?_
    | refine cd_loop ?_
    | refine cd_cond rfl ?_
    | refine cd_condT rfl ?_
    | refine cd_condF rfl ?_
    | (refine Cd.mk ?_; cbv)
    | (refine Ends1.mk ?_; cbv)
    | (refine Fin1.mk ?_; cbv)
    | exact trivial
    | refine And.intro ?_ ?_
    | refine orf fun _ => ?_
    | refine ort fun _ => ?_)
  all_goals
    clear hL zq Z hfs
    subst hF hA hG0 hG1
    have h1 := br_twice a0 a1 a2 w0
    have h2 := br_len a0 a1 a2
    have h3 := byt_of _ w0
    have h4 := byt_of _ (br_by _ a1 a2 w0)
    have h5 := byt_of _ (br_by _ a1 2147483648 w0)
    have h6 := byt_of _ (cut_by _ a1 w0)
    have h7 : a0.length ≤ 4000 → stdBin .add .i64 (a0.length : Int) 1 = a0.length + 1 ∧ 0 ≤ modI a1 (a0.length + 1) ∧ modI a1 (a0.length + 1) < a0.length + 1 := fun q => ⟨by rw [b_add, wr _ (by omega) (by omega)], br_at a1 _ (by omega)⟩
    have z0 : Int.toNat 0 = 0 := rfl
    have e1 : Int.ofNat 1 = 1 := rfl
    simp only [Bd.std, Ar.std, List.nil_append, z0, List.drop_zero, e1, h1, h3, h4, h5] at *
    try (grind [stdCmp, brB, cutI, modP])
theorem walk (a0 : List Int) (a1 : Int) (a2 : Int) (A0 : Option Addr) (n0 c0 : Nat) (w : World) (r0 : Law.Reads w w.heap.size 1 A0 n0 (a0.map (Value.int .u8))) (b0 : n0 ≤ c0 ∧ c0 ≤ maxLen) (w0 : Law.Wf .u8 a0) (s0 : n0 ≤ 140737488355328) (_ : (Lit.int .i64 a1).wf = true) (w2 : (Lit.int .u32 a2).wf = true) : Calls Try.prog 8 #[.slice A0 n0 c0, .int .i64 a1, .int .u32 a2] w (Law.Yes w) :=
  yes_of (FsOk.cons ok_burst2 (FsOk.cons ok_cut (FsOk.cons ok_flip (FsOk.cons ok_rburst (FsOk.cons ok_at (FsOk.cons ok_awake FsOk.nil rfl) rfl) rfl) rfl) rfl) rfl) Try.func8 rfl (vs := [.slice A0 n0 c0, .int .i64 a1, .int .u32 a2]) (by exact ⟨(ints_of r0 b0).2, rfl, rfl, trivial⟩) (lee_le rfl) fun hZ => x_law a0 a1 a2 (fun x hx => wf8 (w0 x hx)) (wf32 w2) ((ints_of r0 b0).1 ▸ s0) hZ
theorem own : ownKnob Try.prog.godebug = none := by kernel_rfl
theorem laidOut : laidOutB Try.prog = true := by kernel_rfl
set_option maxRecDepth 100000 in
theorem lifted (os : Os) (started : os.Started) (H : Type) (enc : TypeId × Value → H) :
    ReturnsInHanded {} Try.checked os 8 .any (Rows.bendBurstsSpec.pre6 enc Try.prog Try.f8 Rows.bendBurstsRow.domain false) (Rows.bendBurstsSpec.post enc Try.prog Try.f8 false true false false) := by
  refine returnsInHanded_of_change_sized (C := Try.checked) own started (by kernel_rfl) Try.func8
    (ChangeSpec.witness6 (enc := enc) (C := Try.checked) false ⟨#[], #[.slice none 0 0, .int .i64 0, .int .u32 0], []⟩ 8 (by kernel_rfl) (by kernel_rfl) (by kernel_rfl) (by kernel_rfl)) ?_
  intro W base args ds gs before hval0 hW _ hz _
  have hval : ∀ (j : Nat) t v, Try.f8.params[j]? = some t → args[j]? = some v → Value.okWide Try.prog W .any base t v := hval0
  have hW' := hW
  obtain ⟨p, q, hA0, hV, rfl, _, _⟩ := hW
  have hA : DataW.TrodAll enc Try.prog W 0 (fun _ => true) true Try.f8.params.toList args.toList ds p := hA0
  rw [Try.params8] at hA hval
  obtain ⟨v0, v1, v2, d0, d1, d2, p0, p1, p2, rfl, rfl, rfl, h0, h1, h2⟩ := trodAll_three hA
  obtain ⟨rfl, rfl⟩ := trodVars_none hV
  obtain ⟨A0, n0, c0, a0, rfl, b0, r0, w0⟩ := SliceIn.ints Try.underlying22 Try.underlying5 (by kernel_rfl) (hval 0 22 v0 rfl rfl) h0
  have s0 := short_of Try.underlying22 (by decide +kernel) hz (j := 0) rfl rfl h0
  obtain ⟨a1, rfl, rfl, rfl, w1⟩ := open_int Try.underlying3 (hval 1 3 v1 rfl rfl) h1
  obtain ⟨a2, rfl, rfl, rfl, w2⟩ := open_int Try.underlying39 (hval 2 39 v2 rfl rfl) h2
  refine (walk a0 a1 a2 A0 n0 c0 W r0 b0 w0 s0 w1 w2).mono fun e W' ⟨he, hb⟩ => ?_
  subst he
  exact ⟨_, rfl, law_post laidOut (by kernel_rfl) (by kernel_rfl) Try.underlying4 rfl hW' rfl hb⟩
theorem proved : Rows.BendBurstsSaid :=
  OpenClaim.holds_of_wide 8 Try.f8 rfl rfl rfl rfl rfl rfl rfl ⟨rfl, rfl, rfl, rfl, rfl⟩ rfl rfl rfl rfl rfl (by kernel_rfl) Try.func8 (by kernel_rfl)
    (of_decide_eq_true (by kernel_rfl)) (by unfold Func.isWrapper; first | (rw [if_pos (by decide +kernel)]; kernel_rfl) | (rw [if_neg (by decide +kernel)]; exact ⟨rfl, rfl⟩))
    (fun os started H enc _ => lifted os started H enc)
end Go.Proofs.Ytdfknpjlapaadaa.BendBursts
