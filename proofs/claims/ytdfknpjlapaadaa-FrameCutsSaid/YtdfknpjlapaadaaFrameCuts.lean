/-
  FrameCuts: for every input the call tells true, and nothing that was there turns. No condition.
-/
import Derived.Test.YtdfknpjlapaadaaRows
import Derived.Test.YtdfknpjlapaadaaLaw
import Derived.Test.YtdfknpjlapaadaaRyIn
import Derived.Test.YtdfknpjlapaadaaRyZ
import Derived.Test.YtdfknpjlapaadaaFrA
namespace Go.Proofs.Ytdfknpjlapaadaa.FrameCuts
open Go Go.Proofs.Ytdfknpjlapaadaa.Ry Go.Proofs.Ytdfknpjlapaadaa.Law Go.Proofs.Ytdfknpjlapaadaa.FrA Go.Proofs.Ytdfknpjlapaadaa.OctR Go.Proofs.Ytdfknpjlapaadaa.OctP Go.Proofs.Ytdfknpjlapaadaa.OctQ Go.Proofs.Ytdfknpjlapaadaa.FrR Go.Proofs.Ytdfknpjlapaadaa.FrQ Go.Proofs.Ytdfknpjlapaadaa.FrS
open Go.ChangeShapes Go.WideShapes Go.ChangeAt Go.Joins Go.RowKit
theorem pay {x : E} (w : wfS (.int .i64 (.int .i64 (.int .i64 (.int .i64 (.ints .u8 .nil))))) x 0) : ∀ n ∈ rl x 4, 0 ≤ n ∧ n ≤ 255 := fun n hn => wf8 (w.2.2.2.2.1 n hn)
theorem wf16 {a : Int} (h : (Lit.int .u16 a).wf = true) : 0 ≤ a ∧ a ≤ 65535 := by
  simpa [Lit.wf, IntKind.min, IntKind.max, IntKind.signed, IntKind.bits] using h
theorem cuts {k s q a : Int} {p : List Int} (h : mayF k s q a p = true) (hp : ∀ x ∈ p, 0 ≤ x ∧ x ≤ 255) (n : Int) (hn : 0 ≤ n) :
    0 ≤ stdBin .rem .i64 n ((encF k s q a p).length : Int) ∧ stdBin .rem .i64 n ((encF k s q a p).length : Int) < (encF k s q a p).length ∧
    (decF ((encF k s q a p).take (stdBin .rem .i64 n ((encF k s q a p).length : Int)).toNat) = zF 5 ∨ decF ((encF k s q a p).take (stdBin .rem .i64 n ((encF k s q a p).length : Int)).toNat) = zF 6) := by
  have hl := (enc_len h).2.1
  rw [b_rem, Int.tmod_eq_emod_of_nonneg hn]
  have h1 := Int.emod_nonneg n (show ((encF k s q a p).length : Int) ≠ 0 by omega)
  have h2 := Int.emod_lt_of_pos n (show 0 < ((encF k s q a p).length : Int) by omega)
  exact ⟨h1, h2, cut h hp _ (by omega)⟩
set_option maxHeartbeats 4000000 in
set_option maxRecDepth 100000 in
theorem x_law (a0 : E) (a1 : Int) (w0 : ∀ n ∈ rl a0 4, 0 ≤ n ∧ n ≤ 255) (w1 : 0 ≤ a1 ∧ a1 ≤ 65535) (_ : sized [.agg (shCells Ar.std (.int .i64 (.int .i64 (.int .i64 (.int .i64 (.ints .u8 .nil))))) a0 0 5), .one (.val (.int .u16 a1))]) : Does [(15, c_encode Rs.std), (18, c_decode Rs.std), (16, c_rmay Qs.std), (20, denil [some (.ints .u8 []), some (.ints .u8 [])] (c_rsame Qs.std)), (14, c_awake As.std)] Try.f5 [.agg (shCells Ar.std (.int .i64 (.int .i64 (.int .i64 (.int .i64 (.ints .u8 .nil))))) a0 0 5), .one (.val (.int .u16 a1))] [] ⟨True, .sa (B true), [], [Any, Any]⟩ := by
  intro b gv
  have hfs := (FsOk.cons ok_encode (FsOk.cons ok_decode (FsOk.cons ok_rmay (FsOk.cons (denil_ok [some (.ints .u8 []), some (.ints .u8 [])] ok_rsame) (FsOk.cons ok_awake FsOk.nil rfl) rfl) rfl) rfl) rfl)
  generalize hF : As.std = F at hfs ⊢
  generalize hG0 : Rs.std = G0 at hfs ⊢
  generalize hG1 : Qs.std = G1 at hfs ⊢
  generalize hA : Ar.std = A
  generalize hL : Lp _ _ _ = L
  obtain ⟨Z, zq⟩ := z_all
  refine cd_open (lp_mono hL) zq rfl ?_
  repeat' (first
    | (refine z_open zq ?_; try dsimp only)
    | refine cd_seq zq ?_ (lp_mono hL)
    | refine cd_blk zq ?_
    | refine cd_ret ?_
    | refine cd_skip ?_
    | refine cd_exit ?_
    | refine cd_loop ?_
    | refine cd_cond rfl ?_
    | refine cd_condT rfl ?_
    | refine cd_condF rfl ?_
    | (refine Cd.mk ?_; cbv)
    | (refine Ends1.mk ?_; cbv)
    | (refine Fin1.mk ?_; cbv)
    | exact trivial
    | refine And.intro ?_ ?_
    | refine orf fun _ => ?_
    | refine ort fun _ => ?_)
  all_goals
    clear hL zq Z hfs
    subst hF hA hG0 hG1
    have h1 := ch_may (k := ri a0 0) (s := ri a0 1) (q := ri a0 2) (a := ri a0 3) (p := rl a0 4)
    have h2 := fun h => (enc_len (k := ri a0 0) (s := ri a0 1) (q := ri a0 2) (a := ri a0 3) (p := rl a0 4) h).2
    have h3 := wr a1 (by omega) (by omega)
    have h4 := fun h => cuts (k := ri a0 0) (s := ri a0 1) (q := ri a0 2) (a := ri a0 3) (p := rl a0 4) h w0 a1 w1.1
    have z0 : Int.toNat 0 = 0 := rfl
    have y0 : byB [] = true := rfl
    have y5 : byB (zF 5).p = true := rfl
    have y6 : byB (zF 6).p = true := rfl
    simp only [Qs.std, Rs.std, Ar.std] at *
    simp only [h3, z0, List.drop_zero] at *
    try (grind [stdCmp, smF, zF])
theorem walk (a0 : E) (a1 : Int) (v0 : Value) (w : World) (r0 : (SA.agg (shCells Ar.std (.int .i64 (.int .i64 (.int .i64 (.int .i64 (.ints .u8 .nil))))) a0 0 5)).is (G0 w) v0) (w0 : wfS (.int .i64 (.int .i64 (.int .i64 (.int .i64 (.ints .u8 .nil))))) a0 0) (w1 : (Lit.int .u16 a1).wf = true) : Calls Try.prog 5 #[v0, .int .u16 a1] w (Law.Yes w) :=
  yes_of (FsOk.cons ok_encode (FsOk.cons ok_decode (FsOk.cons ok_rmay (FsOk.cons (denil_ok [some (.ints .u8 []), some (.ints .u8 [])] ok_rsame) (FsOk.cons ok_awake FsOk.nil rfl) rfl) rfl) rfl) rfl) Try.func5 rfl (vs := [v0, .int .u16 a1]) (by exact ⟨r0, rfl, trivial⟩) (lee_le rfl) fun hZ => x_law a0 a1 (pay w0) (wf16 w1) hZ
theorem own : ownKnob Try.prog.godebug = none := by kernel_rfl
theorem laidOut : laidOutB Try.prog = true := by kernel_rfl
set_option maxRecDepth 100000 in
theorem lifted (os : Os) (started : os.Started) (H : Type) (enc : TypeId × Value → H) :
    ReturnsInHanded {} Try.checked os 5 .any (Rows.frameCutsSpec.pre6 enc Try.prog Try.f5 Rows.frameCutsRow.domain false) (Rows.frameCutsSpec.post enc Try.prog Try.f5 false true false false) := by
  refine returnsInHanded_of_change_sized (C := Try.checked) own started (by kernel_rfl) Try.func5
    (ChangeSpec.witness6 (enc := enc) (C := Try.checked) false ⟨#[], #[.agg #[.int .i64 0, .int .i64 0, .int .i64 0, .int .i64 0, .slice none 0 0], .int .u16 0], []⟩ 8 (by kernel_rfl) (by kernel_rfl) (by kernel_rfl) (by kernel_rfl)) ?_
  intro W base args ds gs before hval0 hW _ hz _
  have hval : ∀ (j : Nat) t v, Try.f5.params[j]? = some t → args[j]? = some v → Value.okWide Try.prog W .any base t v := hval0
  have hW' := hW
  obtain ⟨p, q, hA0, hV, rfl, _, _⟩ := hW
  have hA : DataW.TrodAll enc Try.prog W 0 (fun _ => true) true Try.f5.params.toList args.toList ds p := hA0
  rw [Try.params5] at hA hval
  obtain ⟨v0, v1, d0, d1, p0, p1, rfl, rfl, rfl, h0, h1⟩ := trodAll_two hA
  obtain ⟨rfl, rfl⟩ := trodVars_none hV
  obtain ⟨a0, r0, w0⟩ := agg_any (s := .int .i64 (.int .i64 (.int .i64 (.int .i64 (.ints .u8 .nil))))) (by rw [Try.underlying24]) (by kernel_rfl) (by kernel_rfl) (hval 0 24 v0 rfl rfl) h0
  obtain ⟨a1, rfl, rfl, rfl, w1⟩ := open_int Try.underlying36 (hval 1 36 v1 rfl rfl) h1
  refine (walk a0 a1 v0 W r0 w0 w1).mono fun e W' ⟨he, hb⟩ => ?_
  subst he
  exact ⟨_, rfl, law_post laidOut (by kernel_rfl) (by kernel_rfl) Try.underlying4 rfl hW' rfl hb⟩
theorem proved : Rows.FrameCutsSaid :=
  OpenClaim.holds_of_wide 5 Try.f5 rfl rfl rfl rfl rfl rfl rfl ⟨rfl, rfl, rfl, rfl, rfl⟩ rfl rfl rfl rfl rfl (by kernel_rfl) Try.func5 (by kernel_rfl)
    (of_decide_eq_true (by kernel_rfl)) (by unfold Func.isWrapper; first | (rw [if_pos (by decide +kernel)]; kernel_rfl) | (rw [if_neg (by decide +kernel)]; exact ⟨rfl, rfl⟩))
    (fun os started H enc _ => lifted os started H enc)
end Go.Proofs.Ytdfknpjlapaadaa.FrameCuts
