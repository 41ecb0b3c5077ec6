/-
  BendApart: for every input the call tells true, and nothing that was there turns. No condition.
-/
import Derived.Test.YtdfknpjlapaadaaRows
import Derived.Test.YtdfknpjlapaadaaLaw
import Derived.Test.YtdfknpjlapaadaaRyIn
import Derived.Test.YtdfknpjlapaadaaRyZ
import Derived.Test.YtdfknpjlapaadaaBeA
import Derived.Test.YtdfknpjlapaadaaBeT
namespace Go.Proofs.Ytdfknpjlapaadaa.BendApart
open Go Go.Proofs.Ytdfknpjlapaadaa.Ry Go.Proofs.Ytdfknpjlapaadaa.Law Go.Proofs.Ytdfknpjlapaadaa.BeA Go.Proofs.Ytdfknpjlapaadaa.BeT Go.Proofs.Ytdfknpjlapaadaa.OctR Go.Proofs.Ytdfknpjlapaadaa.FrR Go.Proofs.Ytdfknpjlapaadaa.FrQ Go.Proofs.Ytdfknpjlapaadaa.FrS Go.Proofs.Ytdfknpjlapaadaa.BeR
open Go.ChangeShapes Go.WideShapes Go.ChangeAt Go.Joins Go.RowKit
theorem pay {x : E} (w : wfS (.int .i64 (.int .i64 (.int .i64 (.int .i64 (.ints .u8 .nil))))) x 0) : ∀ n ∈ rl x 4, 0 ≤ n ∧ n ≤ 255 := fun n hn => wf8 (w.2.2.2.2.1 n hn)
set_option maxHeartbeats 4000000 in
set_option maxRecDepth 100000 in
theorem x_law (a0 : E) (a1 : E) (w0 : ∀ n ∈ rl a0 4, 0 ≤ n ∧ n ≤ 255) (w1 : ∀ n ∈ rl a1 4, 0 ≤ n ∧ n ≤ 255) (_ : sized [.agg (shCells Ar.std (.int .i64 (.int .i64 (.int .i64 (.int .i64 (.ints .u8 .nil))))) a0 0 5), .agg (shCells Ar.std (.int .i64 (.int .i64 (.int .i64 (.int .i64 (.ints .u8 .nil))))) a1 0 5)]) : Does [(16, c_rmay Qs.std), (19, c_rbytes Qs.std), (29, c_unlike Bd.std), (20, c_rsame Qs.std), (23, c_awake Ba.std)] Try.f11 [.agg (shCells Ar.std (.int .i64 (.int .i64 (.int .i64 (.int .i64 (.ints .u8 .nil))))) a0 0 5), .agg (shCells Ar.std (.int .i64 (.int .i64 (.int .i64 (.int .i64 (.ints .u8 .nil))))) a1 0 5)] [] ⟨True, .sa (B true), [], [Any, Any]⟩ := by
  intro b gv
  have hfs := (FsOk.cons ok_rmay (FsOk.cons ok_rbytes (FsOk.cons ok_unlike (FsOk.cons ok_rsame (FsOk.cons ok_awake FsOk.nil rfl) rfl) rfl) rfl) rfl)
  generalize hF : Ba.std = F at hfs ⊢
  generalize hG0 : Bd.std = G0 at hfs ⊢
  generalize hG1 : Qs.std = G1 at hfs ⊢
  generalize hA : Ar.std = A
  generalize hL : Lp _ _ _ = L
  obtain ⟨Z, zq⟩ := z_all
  refine cd_open (lp_mono hL) zq rfl ?_
  repeat' (first
    | (refine z_open zq ?_; try dsimp only)
    | refine cd_seq zq ?_ (lp_mono hL)
    | refine cd_blk zq ?_
    | refine cd_ret ?_
    | refine cd_skip ?_
    | refine cd_exit ?_
    | refine cd_loop ?_
    | refine cd_cond rfl ?_
    | refine cd_condT rfl ?_
    | refine cd_condF rfl ?_
    | (refine Cd.mk ?_; cbv)
    | (refine Ends1.mk ?_; cbv)
    | (refine Fin1.mk ?_; cbv)
    | exact trivial
    | refine And.intro ?_ ?_
    | refine orf fun _ => ?_
    | refine ort fun _ => ?_)
  all_goals
    clear hL zq Z hfs
    subst hF hA hG0 hG1
    have h0 : byB (rl a0 4) = true := decide_eq_true w0
    have h1 : byB (rl a1 4) = true := decide_eq_true w1
    have h2 := fun h => spoil (k := ri a0 0) (s := ri a0 1) (q := ri a0 2) (a := ri a0 3) (p := rl a0 4) h w0 0 0
    have h3 := fun h h' => apart (k := ri a0 0) (s := ri a0 1) (q := ri a0 2) (a := ri a0 3) (p := rl a0 4) (k' := ri a1 0) (s' := ri a1 1) (q' := ri a1 2) (a' := ri a1 3) (p' := rl a1 4) h h' w0 w1
    simp only [Bd.std, Qs.std, Ar.std] at *
    simp only [eF] at h2 h3
    try (grind [stdCmp, unB])
theorem walk (a0 : E) (a1 : E) (v0 : Value) (v1 : Value) (w : World) (r0 : (SA.agg (shCells Ar.std (.int .i64 (.int .i64 (.int .i64 (.int .i64 (.ints .u8 .nil))))) a0 0 5)).is (G0 w) v0) (w0 : wfS (.int .i64 (.int .i64 (.int .i64 (.int .i64 (.ints .u8 .nil))))) a0 0) (r1 : (SA.agg (shCells Ar.std (.int .i64 (.int .i64 (.int .i64 (.int .i64 (.ints .u8 .nil))))) a1 0 5)).is (G0 w) v1) (w1 : wfS (.int .i64 (.int .i64 (.int .i64 (.int .i64 (.ints .u8 .nil))))) a1 0) : Calls Try.prog 11 #[v0, v1] w (Law.Yes w) :=
  yes_of (FsOk.cons ok_rmay (FsOk.cons ok_rbytes (FsOk.cons ok_unlike (FsOk.cons ok_rsame (FsOk.cons ok_awake FsOk.nil rfl) rfl) rfl) rfl) rfl) Try.func11 rfl (vs := [v0, v1]) (by exact ⟨r0, r1, trivial⟩) (lee_le rfl) fun hZ => x_law a0 a1 (pay w0) (pay w1) hZ
theorem own : ownKnob Try.prog.godebug = none := by kernel_rfl
theorem laidOut : laidOutB Try.prog = true := by kernel_rfl
set_option maxRecDepth 100000 in
theorem lifted (os : Os) (started : os.Started) (H : Type) (enc : TypeId × Value → H) :
    ReturnsInHanded {} Try.checked os 11 .any (Rows.bendApartSpec.pre6 enc Try.prog Try.f11 Rows.bendApartRow.domain false) (Rows.bendApartSpec.post enc Try.prog Try.f11 false true false false) := by
  refine returnsInHanded_of_change_sized (C := Try.checked) own started (by kernel_rfl) Try.func11
    (ChangeSpec.witness6 (enc := enc) (C := Try.checked) false ⟨#[], #[.agg #[.int .i64 0, .int .i64 0, .int .i64 0, .int .i64 0, .slice none 0 0], .agg #[.int .i64 0, .int .i64 0, .int .i64 0, .int .i64 0, .slice none 0 0]], []⟩ 8 (by kernel_rfl) (by kernel_rfl) (by kernel_rfl) (by kernel_rfl)) ?_
  intro W base args ds gs before hval0 hW _ hz _
  have hval : ∀ (j : Nat) t v, Try.f11.params[j]? = some t → args[j]? = some v → Value.okWide Try.prog W .any base t v := hval0
  have hW' := hW
  obtain ⟨p, q, hA0, hV, rfl, _, _⟩ := hW
  have hA : DataW.TrodAll enc Try.prog W 0 (fun _ => true) true Try.f11.params.toList args.toList ds p := hA0
  rw [Try.params11] at hA hval
  obtain ⟨v0, v1, d0, d1, p0, p1, rfl, rfl, rfl, h0, h1⟩ := trodAll_two hA
  obtain ⟨rfl, rfl⟩ := trodVars_none hV
  obtain ⟨a0, r0, w0⟩ := agg_any (s := .int .i64 (.int .i64 (.int .i64 (.int .i64 (.ints .u8 .nil))))) (by rw [Try.underlying24]) (by kernel_rfl) (by kernel_rfl) (hval 0 24 v0 rfl rfl) h0
  obtain ⟨a1, r1, w1⟩ := agg_any (s := .int .i64 (.int .i64 (.int .i64 (.int .i64 (.ints .u8 .nil))))) (by rw [Try.underlying24]) (by kernel_rfl) (by kernel_rfl) (hval 1 24 v1 rfl rfl) h1
  refine (walk a0 a1 v0 v1 W r0 w0 r1 w1).mono fun e W' ⟨he, hb⟩ => ?_
  subst he
  exact ⟨_, rfl, law_post laidOut (by kernel_rfl) (by kernel_rfl) Try.underlying4 rfl hW' rfl hb⟩
theorem proved : Rows.BendApartSaid :=
  OpenClaim.holds_of_wide 11 Try.f11 rfl rfl rfl rfl rfl rfl rfl ⟨rfl, rfl, rfl, rfl, rfl⟩ rfl rfl rfl rfl rfl (by kernel_rfl) Try.func11 (by kernel_rfl)
    (of_decide_eq_true (by kernel_rfl)) (by unfold Func.isWrapper; first | (rw [if_pos (by decide +kernel)]; kernel_rfl) | (rw [if_neg (by decide +kernel)]; exact ⟨rfl, rfl⟩))
    (fun os started H enc _ => lifted os started H enc)
end Go.Proofs.Ytdfknpjlapaadaa.BendApart
