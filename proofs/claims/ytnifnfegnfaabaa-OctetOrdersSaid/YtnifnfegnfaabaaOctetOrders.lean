/-
  OctetOrders: for every input the call tells true, and nothing that was there turns. No condition.
-/
import Derived.Test.YtnifnfegnfaabaaRows
import Derived.Test.YtnifnfegnfaabaaLaw
import Derived.Test.YtnifnfegnfaabaaRyIn
import Derived.Test.YtnifnfegnfaabaaRyZ
import Derived.Test.YtnifnfegnfaabaaOctR
import Derived.Test.YtnifnfegnfaabaaOctP
import Derived.Test.YtnifnfegnfaabaaOctQ
namespace Go.Proofs.Ytnifnfegnfaabaa.OctetOrders
open Go Go.Proofs.Ytnifnfegnfaabaa.Ry Go.Proofs.Ytnifnfegnfaabaa.Law Go.Proofs.Ytnifnfegnfaabaa.OctR Go.Proofs.Ytnifnfegnfaabaa.OctP Go.Proofs.Ytnifnfegnfaabaa.OctQ
open Go.ChangeShapes Go.WideShapes Go.ChangeAt Go.Joins Go.RowKit
set_option maxHeartbeats 2000000 in
set_option cbv.maxSteps 2000000 in
set_option maxRecDepth 100000 in
theorem x_law (a0 : Int) (a1 : Int) (a2 : Int) (w0 : 0 ≤ a0 ∧ a0 < 4294967296) (w1 : 0 ≤ a1 ∧ a1 < 4294967296) (w2 : 0 ≤ a2 ∧ a2 ≤ 255) (_ : sized [.one (.val (.int .u32 a0)), .one (.val (.int .u32 a1)), .one (.val (.int .u8 a2))]) : Does [(24, c_limit Gs.std), (23, denil [some (.ints .u8 []), none, none] (c_put Fs.std)), (28, c_new Fs.std), (31, c_take Fs.std), (35, c_end Fs.std), (keepKey 35, noCon), (22, c_awake Fs.std)] Try.f11 [.one (.val (.int .u32 a0)), .one (.val (.int .u32 a1)), .one (.val (.int .u8 a2))] [] ⟨True, .sa (B true), [], [Any, Any, Any]⟩ := by
  intro b gv
  have d1 := drawn a0 a2 w0 w2
  have d2 := drawn a1 a2 w1 w2
  have hfs := (FsOk.cons ok_limit (FsOk.cons (denil_ok [some (.ints .u8 []), none, none] ok_put) (FsOk.cons ok_new (FsOk.cons ok_take (FsOk.keeps ok_end kp_end (FsOk.cons ok_awake FsOk.nil rfl)) rfl) rfl) rfl) rfl)
  generalize hF : Hs.std = F at hfs ⊢
  generalize hG0 : Fs.std = G0 at hfs ⊢
  generalize hG1 : Gs.std = G1 at hfs ⊢
  generalize hA : Ar.std = A
  generalize hL : Lp _ _ _ = L
  obtain ⟨Z, zq⟩ := z_all
  refine cd_open (lp_mono hL) zq rfl ?_
  repeat' (first
    | (refine z_open zq ?_; try dsimp only)
    | refine cd_seq zq ?_ (lp_mono hL)
    | refine cd_blk zq ?_
    | refine cd_ret ?_
    | refine cd_skip ?_
    | refine cd_exit ?_
    | refine cd_loop ?_
    | refine cd_cond rfl ?_
    | refine cd_condT rfl ?_
    | refine cd_condF rfl ?_
    | (refine Cd.mk ?_; cbv)
    | (refine Ends1.mk ?_; cbv)
    | (refine Fin1.mk ?_; cbv)
    | exact trivial
    | refine And.intro ?_ ?_
    | refine orf fun _ => ?_
    | refine ort fun _ => ?_)
  all_goals
    clear hfs hL zq Z
    subst hA hF hG0 hG1
    simp only [Hs.std, Gs.std, Fs.std, Ar.std, List.nil_append] at *
    generalize stdBin .add .i64 1 (IntKind.i64.wrap (stdBin .rem .u8 a2 4)) = w at *
    generalize stdBin .rem .i64 (IntKind.i64.wrap a0) (stdBin .add .i64 (grI w) 1) = m at *
    generalize stdBin .rem .i64 (IntKind.i64.wrap a1) (stdBin .add .i64 (grI w) 1) = n at *
    have p1 := put_num d1.2.1
    have p2 := put_num d2.2.1
    have t1 := take_num d1.2.1 (numL n w)
    have t2 := take_num d2.2.1 []
    have l1 := num_lt d1.2.1 d2.2.1
    have l2 := num_inj d1.2.1 d2.2.1
    have b1 := byt_num d1.2.1
    have b2 := byt_num d2.2.1
    have n1 := num_len m w
    have n2 := num_len n w
    have hw := of_decide_eq_true d1.1
    rw [List.append_nil] at t2
    simp only [p1.1, p1.2, p2.1, p2.2, t1.1, t1.2.1, t1.2.2, t2.1, t2.2.1, t2.2.2, l1, l2, b1, b2] at *
    try (grind [stdCmp, shB, endI])
theorem walk (a0 : Int) (a1 : Int) (a2 : Int) (w : World) (w0 : (Lit.int .u32 a0).wf = true) (w1 : (Lit.int .u32 a1).wf = true) (w2 : (Lit.int .u8 a2).wf = true) : Calls Try.prog 11 #[.int .u32 a0, .int .u32 a1, .int .u8 a2] w (Law.Yes w) :=
  yes_of (FsOk.cons ok_limit (FsOk.cons (denil_ok [some (.ints .u8 []), none, none] ok_put) (FsOk.cons ok_new (FsOk.cons ok_take (FsOk.keeps ok_end kp_end (FsOk.cons ok_awake FsOk.nil rfl)) rfl) rfl) rfl) rfl) Try.func11 rfl (vs := [.int .u32 a0, .int .u32 a1, .int .u8 a2]) (by exact ⟨rfl, rfl, rfl, trivial⟩) (lee_le rfl) fun hZ => x_law a0 a1 a2 (wf32 w0) (wf32 w1) (wf8 w2) hZ
theorem own : ownKnob Try.prog.godebug = none := by kernel_rfl
theorem laidOut : laidOutB Try.prog = true := by kernel_rfl
set_option maxRecDepth 100000 in
theorem lifted (os : Os) (started : os.Started) (H : Type) (enc : TypeId × Value → H) :
    ReturnsInHanded {} Try.checked os 11 .any (Rows.octetOrdersSpec.pre6 enc Try.prog Try.f11 Rows.octetOrdersRow.domain false) (Rows.octetOrdersSpec.post enc Try.prog Try.f11 false true false false) := by
  refine returnsInHanded_of_change_sized (C := Try.checked) own started (by kernel_rfl) Try.func11
    (ChangeSpec.witness6 (enc := enc) (C := Try.checked) false ⟨#[], #[.int .u32 0, .int .u32 0, .int .u8 0], []⟩ 8 (by kernel_rfl) (by kernel_rfl) (by kernel_rfl) (by kernel_rfl)) ?_
  intro W base args ds gs before hval0 hW _ hz _
  have hval : ∀ (j : Nat) t v, Try.f11.params[j]? = some t → args[j]? = some v → Value.okWide Try.prog W .any base t v := hval0
  have hW' := hW
  obtain ⟨p, q, hA0, hV, rfl, _, _⟩ := hW
  have hA : DataW.TrodAll enc Try.prog W 0 (fun _ => true) true Try.f11.params.toList args.toList ds p := hA0
  rw [Try.params11] at hA hval
  obtain ⟨v0, v1, v2, d0, d1, d2, p0, p1, p2, rfl, rfl, rfl, h0, h1, h2⟩ := trodAll_three hA
  obtain ⟨rfl, rfl⟩ := trodVars_none hV
  obtain ⟨a0, rfl, rfl, rfl, w0⟩ := open_int Try.underlying24 (hval 0 24 v0 rfl rfl) h0
  obtain ⟨a1, rfl, rfl, rfl, w1⟩ := open_int Try.underlying24 (hval 1 24 v1 rfl rfl) h1
  obtain ⟨a2, rfl, rfl, rfl, w2⟩ := open_int Try.underlying5 (hval 2 5 v2 rfl rfl) h2
  refine (walk a0 a1 a2 W w0 w1 w2).mono fun e W' ⟨he, hb⟩ => ?_
  subst he
  exact ⟨_, rfl, law_post laidOut (by kernel_rfl) (by kernel_rfl) Try.underlying4 rfl hW' rfl hb⟩
theorem proved : Rows.OctetOrdersSaid :=
  OpenClaim.holds_of_wide 11 Try.f11 rfl rfl rfl rfl rfl rfl rfl ⟨rfl, rfl, rfl, rfl, rfl⟩ rfl rfl rfl rfl rfl (by kernel_rfl) Try.func11 (by kernel_rfl)
    (of_decide_eq_true (by kernel_rfl)) (by unfold Func.isWrapper; first | (rw [if_pos (by decide +kernel)]; kernel_rfl) | (rw [if_neg (by decide +kernel)]; exact ⟨rfl, rfl⟩))
    (fun os started H enc _ => lifted os started H enc)
end Go.Proofs.Ytnifnfegnfaabaa.OctetOrders
