/-
  WordDecodes: for every input the call tells true, and nothing that was there turns. No condition.
-/
import Derived.Test.YtnfkphekkpigpaaRows
import Derived.Test.YtnfkphekkpigpaaLaw
import Derived.Test.YtnfkphekkpigpaaRyIn
import Derived.Test.YtnfkphekkpigpaaRyZ
import Derived.Test.YtnfkphekkpigpaaWoS
namespace Go.Proofs.Ytnfkphekkpigpaa.WordDecodes
open Go Go.Proofs.Ytnfkphekkpigpaa.Ry Go.Proofs.Ytnfkphekkpigpaa.Law Go.Proofs.Ytnfkphekkpigpaa.WoS Go.Proofs.Ytnfkphekkpigpaa.ViR Go.Proofs.Ytnfkphekkpigpaa.ViS Go.Proofs.Ytnfkphekkpigpaa.OctR Go.Proofs.Ytnfkphekkpigpaa.OctP Go.Proofs.Ytnfkphekkpigpaa.OctQ Go.Proofs.Ytnfkphekkpigpaa.WoR Go.Proofs.Ytnfkphekkpigpaa.WoD Go.Proofs.Ytnfkphekkpigpaa.WoQ Go.Proofs.Ytnfkphekkpigpaa.WoP Go.Proofs.Ytnfkphekkpigpaa.WoT
open Go.ChangeShapes Go.WideShapes Go.ChangeAt Go.Joins Go.RowKit
set_option maxHeartbeats 4000000 in
set_option cbv.maxSteps 4000000 in
set_option maxRecDepth 100000 in
theorem x_law (a0 : List Int) (w0 : ∀ x ∈ a0, 0 ≤ x ∧ x ≤ 255) (_ : sized [.one (.sl none (.ints .u8 a0))]) : Does [(38, c_wdecode WoD.Wd.std), (41, c_rwdecode WoP.Wp.std), (40, dnil [[none, none, none, some (.ints .i64 []), some (.recs (.int .i64 (.int .i64 (.int .i64 (.int .i64 (.bool .nil))))) []), none, none, none, none], [none, none, none, some (.ints .i64 []), some (.recs (.int .i64 (.int .i64 (.int .i64 (.int .i64 (.bool .nil))))) []), none, none, none, none]] (c_rwsame Wz.std)), (34, c_wawake Wz.std)] Try.f8 [.one (.sl none (.ints .u8 a0))] [] ⟨True, .sa (B true), [], [Any]⟩ := by
  intro b gv
  have hb : byB a0 = true := decide_eq_true w0
  obtain ⟨h1, h2, h3, h4⟩ := dec_facts hb
  have h5 : okS ⟨0, 0, 0, [], [], 0, 0, 0, 0⟩ = true := by rfl
  have hfs := (FsOk.cons ok_wdecode (FsOk.cons ok_rwdecode (FsOk.cons (dnil_ok [[none, none, none, some (.ints .i64 []), some (.recs (.int .i64 (.int .i64 (.int .i64 (.int .i64 (.bool .nil))))) []), none, none, none, none], [none, none, none, some (.ints .i64 []), some (.recs (.int .i64 (.int .i64 (.int .i64 (.int .i64 (.bool .nil))))) []), none, none, none, none]] ok_rwsame) (FsOk.cons ok_wawake FsOk.nil rfl) rfl) rfl) rfl)
  generalize hF : WoS.Wz.std = F at hfs ⊢
  generalize hG0 : WoR.Ws.std = G0 at hfs ⊢
  generalize hG1 : WoD.Wd.std = G1 at hfs ⊢
  generalize hG2 : WoQ.Wq.std = G2 at hfs ⊢
  generalize hG3 : WoP.Wp.std = G3 at hfs ⊢
  generalize hA : Ar.std = A
  generalize hL : Lp _ _ _ = L
  obtain ⟨Z, zq⟩ := z_all
  refine cd_open (lp_mono hL) zq rfl ?_
  repeat' (first
    | (refine z_open zq ?_; try dsimp only)
    | refine cd_seq zq ?_ (lp_mono hL)
    | refine cd_blk zq ?_
    | refine cd_ret ?_
    | refine cd_skip ?_
    | refine cd_exit ?_
    | refine cd_loop ?_
    | refine cd_cond rfl ?_
    | refine cd_condT rfl ?_
    | refine cd_condF rfl ?_
    | (refine Cd.mk ?_; cbv)
    | (refine Ends1.mk ?_; cbv)
    | (refine Fin1.mk ?_; cbv)
    | exact trivial
    | refine And.intro ?_ ?_
    | refine orf fun _ => ?_
    | refine ort fun _ => ?_)
  all_goals
    clear hL zq Z hfs
    subst hA hF hG0 hG1 hG2 hG3
    simp only [WoS.Wz.std, WoD.Wd.std, WoP.Wp.std, Ar.std, List.nil_append, eta_WD] at *
    try (grind [stdCmp, byL])
theorem walk (a0 : List Int) (A0 : Option Addr) (n0 c0 : Nat) (w : World) (r0 : Law.Reads w w.heap.size 1 A0 n0 (a0.map (Value.int .u8))) (b0 : n0 ≤ c0 ∧ c0 ≤ maxLen) (w0 : Law.Wf .u8 a0) (_ : n0 ≤ 140737488355328) : Calls Try.prog 8 #[.slice A0 n0 c0] w (Law.Yes w) :=
  yes_of (FsOk.cons ok_wdecode (FsOk.cons ok_rwdecode (FsOk.cons (dnil_ok [[none, none, none, some (.ints .i64 []), some (.recs (.int .i64 (.int .i64 (.int .i64 (.int .i64 (.bool .nil))))) []), none, none, none, none], [none, none, none, some (.ints .i64 []), some (.recs (.int .i64 (.int .i64 (.int .i64 (.int .i64 (.bool .nil))))) []), none, none, none, none]] ok_rwsame) (FsOk.cons ok_wawake FsOk.nil rfl) rfl) rfl) rfl) Try.func8 rfl (vs := [.slice A0 n0 c0]) (by exact ⟨(ints_of r0 b0).2, trivial⟩) (lee_le rfl) fun hZ => x_law a0 (fun x hx => wf8 (w0 x hx)) hZ
theorem own : ownKnob Try.prog.godebug = none := by kernel_rfl
theorem laidOut : laidOutB Try.prog = true := by kernel_rfl
set_option maxRecDepth 100000 in
theorem lifted (os : Os) (started : os.Started) (H : Type) (enc : TypeId × Value → H) :
    ReturnsInHanded {} Try.checked os 8 .any (Rows.wordDecodesSpec.pre6 enc Try.prog Try.f8 Rows.wordDecodesRow.domain false) (Rows.wordDecodesSpec.post enc Try.prog Try.f8 false true false false) := by
  refine returnsInHanded_of_change_sized (C := Try.checked) own started (by kernel_rfl) Try.func8
    (ChangeSpec.witness6 (enc := enc) (C := Try.checked) false ⟨#[], #[.slice none 0 0], []⟩ 8 (by kernel_rfl) (by kernel_rfl) (by kernel_rfl) (by kernel_rfl)) ?_
  intro W base args ds gs before hval0 hW _ hz _
  have hval : ∀ (j : Nat) t v, Try.f8.params[j]? = some t → args[j]? = some v → Value.okWide Try.prog W .any base t v := hval0
  have hW' := hW
  obtain ⟨p, q, hA0, hV, rfl, _, _⟩ := hW
  have hA : DataW.TrodAll enc Try.prog W 0 (fun _ => true) true Try.f8.params.toList args.toList ds p := hA0
  rw [Try.params8] at hA hval
  obtain ⟨v0, d0, rfl, rfl, h0⟩ := trodAll_one hA
  obtain ⟨rfl, rfl⟩ := trodVars_none hV
  obtain ⟨A0, n0, c0, a0, rfl, b0, r0, w0⟩ := SliceIn.ints Try.underlying57 Try.underlying5 (by kernel_rfl) (hval 0 57 v0 rfl rfl) h0
  have s0 := short_of Try.underlying57 (by decide +kernel) hz (j := 0) rfl rfl h0
  refine (walk a0 A0 n0 c0 W r0 b0 w0 s0).mono fun e W' ⟨he, hb⟩ => ?_
  subst he
  exact ⟨_, rfl, law_post laidOut (by kernel_rfl) (by kernel_rfl) Try.underlying4 rfl hW' rfl hb⟩
theorem proved : Rows.WordDecodesSaid :=
  OpenClaim.holds_of_wide 8 Try.f8 rfl rfl rfl rfl rfl rfl rfl ⟨rfl, rfl, rfl, rfl, rfl⟩ rfl rfl rfl rfl rfl (by kernel_rfl) Try.func8 (by kernel_rfl)
    (of_decide_eq_true (by kernel_rfl)) (by unfold Func.isWrapper; first | (rw [if_pos (by decide +kernel)]; kernel_rfl) | (rw [if_neg (by decide +kernel)]; exact ⟨rfl, rfl⟩))
    (fun os started H enc _ => lifted os started H enc)
end Go.Proofs.Ytnfkphekkpigpaa.WordDecodes
