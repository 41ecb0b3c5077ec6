/-
  EdgeLists: for every input the call tells true, and nothing that was there turns. No condition.
-/
import Derived.Test.YtamkgdiknlpooaaRows
import Derived.Test.YtamkgdiknlpooaaLaw
import Derived.Test.YtamkgdiknlpooaaRyIn
import Derived.Test.YtamkgdiknlpooaaRyZ
import Derived.Test.YtamkgdiknlpooaaEgL
namespace Go.Proofs.Ytamkgdiknlpooaa.EdgeLists
open Go Go.Proofs.Ytamkgdiknlpooaa.Ry Go.Proofs.Ytamkgdiknlpooaa.Law Go.Proofs.Ytamkgdiknlpooaa.EgL Go.Proofs.Ytamkgdiknlpooaa.So Go.Proofs.Ytamkgdiknlpooaa.EcX Go.Proofs.Ytamkgdiknlpooaa.Cmp Go.Proofs.Ytamkgdiknlpooaa.EgR
open Go.ChangeShapes Go.WideShapes Go.ChangeAt Go.Joins Go.RowKit
noncomputable def swI (l : List E) (mx : List Int) (y : XS) : St := stOf Try.f4.ntmps [(0, .sl none (.recs (.int .i64 (.int .i64 (.int .i64 .nil))) l)), (1, .sl none (.ints .u8 mx)), (5, .own 1), (6, .val (.int .i64 y.i))] [(1, .row 36 (.recs (.int .i64 (.int .i64 (.int .i64 .nil))) y.c))] [Any, Any]
def swR (st : St) : XS := ⟨slotI st 6, slotR st 5⟩
noncomputable def stpI (s : List E) (y : XP) : St := stOf Try.f4.ntmps [(9, .sl none (.recs (.int .i64 (.int .i64 (.int .i64 .nil))) s)), (13, .val (.int .i64 y.i))] [] [Any, Any]
def stpR (st : St) : XP := ⟨slotI st 13⟩
set_option maxHeartbeats 4000000 in
set_option maxRecDepth 100000 in
theorem x_law (a0 : List E) (a1 : List Int) (w1 : ∀ x ∈ a1, 0 ≤ x ∧ x ≤ 255) (_ : sized [.one (.sl none (.recs (.int .i64 (.int .i64 (.int .i64 .nil))) a0)), .one (.sl none (.ints .u8 a1))]) : Does [(ownKey 3000, noCon), (17, c_rcheck Fs.std), (16, c_esort Fs.std), (22, c_esame Fs.std), (24, c_ecmp Fs.std), (15, c_eawake Fs.std)] Try.f4 [.one (.sl none (.recs (.int .i64 (.int .i64 (.int .i64 .nil))) a0)), .one (.sl none (.ints .u8 a1))] [] ⟨True, .sa (B true), [], [Any, Any]⟩ := by
  intro b gv
  have hfs := (FsOk.own (u := 3000) (FsOk.cons ok_rcheck (FsOk.cons ok_esort (FsOk.cons ok_esame (FsOk.cons ok_ecmp (FsOk.cons ok_eawake FsOk.nil rfl) rfl) rfl) rfl) rfl))
  generalize hF : Fs.std = F at hfs ⊢
  generalize hA : Ar.std = A
  generalize hL : Lp _ _ _ = L
  obtain ⟨Z, zq⟩ := z_all
  refine cd_open (lp_mono hL) zq rfl ?_
  repeat' (first
    | (refine z_open zq ?_; try dsimp only)
    | refine cd_seq zq ?_ (lp_mono hL)
    | refine cd_blk zq ?_
    | refine cd_ret ?_
    | refine cd_skip ?_
    | refine cd_exit ?_
    | refine cd_loop ?_
    | refine cd_cond rfl ?_
    | refine cd_condT rfl ?_
    | refine cd_condF rfl ?_
    | (refine Cd.mk ?_; cbv)
    | (refine Ends1.mk ?_; cbv)
    | (refine Fin1.mk ?_; cbv)
    | exact trivial
    | refine And.intro ?_ ?_
    | refine orf fun _ => ?_
    | refine ort fun _ => ?_)
  all_goals first | (show L _ _ _; skip) | (clear hL zq Z hfs; subst hF hA; simp only [Fs.std, Ar.std] at *; grind [stdCmp]; done)
  rename_i hx
  have hin : a0.length ≤ 100 ∧ allE a0 = 0 := by
    clear hL zq Z hfs
    subst hF hA
    simp only [Fs.std, Ar.std] at hx
    grind [stdCmp]
  clear hx
  subst hL
  refine loop_z (cx_ok hfs) (swQ a0) (swI a0 a1) swM swR ⟨0, A.appE [] a0⟩ ?_ ?_ ?_
  · subst hA
    exact sw_zero a0
  · cbv
    repeat' (first | exact trivial | exact rfl | refine And.intro ?_ ?_)
  rintro ⟨i, c⟩ hq O hO
  have hlc := sw_len hq
  have hst := fun h h2 => sw_step hq a1 w1 h h2 (by omega)
  have hsm := x_same hq.2.2
  have hal := all_perm hq.2.2
  have hxl := x_len a0
  have hxc := x_len c
  have q0 := hq.1
  have q1 := hq.2.1
  dsimp only at q0 q1 hsm hal
  subst hA
  generalize hA : Ar.std = A
  generalize hL : Lp _ _ _ = L
  refine cd_close zq ?_
  repeat' (first
    | (refine z_open zq ?_; try dsimp only)
    | refine cd_seq zq ?_ (lp_mono hL)
    | refine cd_blk zq ?_
    | refine cd_ret ?_
    | refine cd_skip ?_
    | refine cd_exit ?_
    | refine cd_loop ?_
    | refine cd_cond rfl ?_
    | refine cd_condT rfl ?_
    | refine cd_condF rfl ?_
    | (refine Cd.mk ?_; cbv)
    | (refine Ends1.mk ?_; cbv)
    | (refine Fin1.mk ?_; cbv)
    | exact trivial
    | refine And.intro ?_ ?_
    | refine orf fun _ => ?_
    | refine ort fun _ => ?_)
  all_goals first | (show L _ _ _; skip) | (clear hL hfs zq Z hq; subst hA hF hO; simp only [Fs.std, Ar.std, List.length_set] at * <;> grind [stdCmp]; done)
  clear hst hO
  subst hL
  refine loop_z (cx_ok hfs) (stpQ (srtX a0)) (stpI (F.e_srt a0)) (stpM (srtX a0)) stpR ⟨1⟩ ?_ ?_ ?_
  · exact ⟨Int.le_refl 1, .inr rfl⟩
  · cbv
    repeat' (first | exact trivial | exact rfl | refine And.intro ?_ ?_)
  rintro ⟨k⟩ hq2 U hU
  have hst := fun h => stp_step hin.2 hq2 h (by omega)
  have k0 := hq2.1
  dsimp only at k0
  subst hA
  generalize hA : Ar.std = A
  generalize hL : Lp _ _ _ = L
  refine cd_close zq ?_
  repeat' (first
    | (refine z_open zq ?_; try dsimp only)
    | refine cd_seq zq ?_ (lp_mono hL)
    | refine cd_blk zq ?_
    | refine cd_ret ?_
    | refine cd_skip ?_
    | refine cd_exit ?_
    | refine cd_loop ?_
    | refine cd_cond rfl ?_
    | refine cd_condT rfl ?_
    | refine cd_condF rfl ?_
    | (refine Cd.mk ?_; cbv)
    | (refine Ends1.mk ?_; cbv)
    | (refine Fin1.mk ?_; cbv)
    | exact trivial
    | refine And.intro ?_ ?_
    | refine orf fun _ => ?_
    | refine ort fun _ => ?_)
  all_goals (clear hL hfs zq Z hq hq2; subst hA hF hU; simp only [Fs.std, Ar.std] at * <;> grind [stdCmp])
theorem walk (a0 : List E) (a1 : List Int) (A0 : Option Addr) (n0 c0 : Nat) (A1 : Option Addr) (n1 c1 : Nat) (w : World) (r0 : (SC.sl none (.recs (.int .i64 (.int .i64 (.int .i64 .nil))) a0)).is (G0 w) (.slice A0 n0 c0)) (_ : ∀ y ∈ a0, wfS (.int .i64 (.int .i64 (.int .i64 .nil))) y 0) (_ : a0.length ≤ 140737488355328) (r1 : Law.Reads w w.heap.size 1 A1 n1 (a1.map (Value.int .u8))) (b1 : n1 ≤ c1 ∧ c1 ≤ maxLen) (w1 : Law.Wf .u8 a1) (_ : n1 ≤ 140737488355328) : Calls Try.prog 4 #[.slice A0 n0 c0, .slice A1 n1 c1] w (Law.Yes w) :=
  yes_of (FsOk.own (u := 3000) (FsOk.cons ok_rcheck (FsOk.cons ok_esort (FsOk.cons ok_esame (FsOk.cons ok_ecmp (FsOk.cons ok_eawake FsOk.nil rfl) rfl) rfl) rfl) rfl)) Try.func4 rfl (vs := [.slice A0 n0 c0, .slice A1 n1 c1]) (by exact ⟨r0, (ints_of r1 b1).2, trivial⟩) (lee_le rfl) fun hZ => x_law a0 a1 (fun x hx => wf8 (w1 x hx)) hZ
theorem own : ownKnob Try.prog.godebug = none := by kernel_rfl
theorem laidOut : laidOutB Try.prog = true := by kernel_rfl
set_option maxRecDepth 100000 in
theorem lifted (os : Os) (started : os.Started) (H : Type) (enc : TypeId × Value → H) :
    ReturnsInHanded {} Try.checked os 4 .any (Rows.edgeListsSpec.pre6 enc Try.prog Try.f4 Rows.edgeListsRow.domain false) (Rows.edgeListsSpec.post enc Try.prog Try.f4 false true false false) := by
  refine returnsInHanded_of_change_sized (C := Try.checked) own started (by kernel_rfl) Try.func4
    (ChangeSpec.witness6 (enc := enc) (C := Try.checked) false ⟨#[], #[.slice none 0 0, .slice none 0 0], []⟩ 8 (by kernel_rfl) (by kernel_rfl) (by kernel_rfl) (by kernel_rfl)) ?_
  intro W base args ds gs before hval0 hW _ hz _
  have hval : ∀ (j : Nat) t v, Try.f4.params[j]? = some t → args[j]? = some v → Value.okWide Try.prog W .any base t v := hval0
  have hW' := hW
  obtain ⟨p, q, hA0, hV, rfl, _, _⟩ := hW
  have hA : DataW.TrodAll enc Try.prog W 0 (fun _ => true) true Try.f4.params.toList args.toList ds p := hA0
  rw [Try.params4] at hA hval
  obtain ⟨v0, v1, d0, d1, p0, p1, rfl, rfl, rfl, h0, h1⟩ := trodAll_two hA
  obtain ⟨rfl, rfl⟩ := trodVars_none hV
  obtain ⟨A0, n0, c0, a0, rfl, l0, r0, w0⟩ := sl_any (s := .int .i64 (.int .i64 (.int .i64 .nil))) Try.underlying22 (by kernel_rfl) (by kernel_rfl) (hval 0 22 v0 rfl rfl) h0
  have s0 : a0.length ≤ 140737488355328 := by rw [l0]; exact short_of Try.underlying22 (by decide +kernel) hz (j := 0) rfl rfl h0
  obtain ⟨A1, n1, c1, a1, rfl, b1, r1, w1⟩ := SliceIn.ints Try.underlying34 Try.underlying5 (by kernel_rfl) (hval 1 34 v1 rfl rfl) h1
  have s1 := short_of Try.underlying34 (by decide +kernel) hz (j := 1) rfl rfl h1
  refine (walk a0 a1 A0 n0 c0 A1 n1 c1 W r0 w0 s0 r1 b1 w1 s1).mono fun e W' ⟨he, hb⟩ => ?_
  subst he
  exact ⟨_, rfl, law_post laidOut (by kernel_rfl) (by kernel_rfl) Try.underlying4 rfl hW' rfl hb⟩
theorem proved : Rows.EdgeListsSaid :=
  OpenClaim.holds_of_wide 4 Try.f4 rfl rfl rfl rfl rfl rfl rfl ⟨rfl, rfl, rfl, rfl, rfl⟩ rfl rfl rfl rfl rfl (by kernel_rfl) Try.func4 (by kernel_rfl)
    (of_decide_eq_true (by kernel_rfl)) (by unfold Func.isWrapper; first | (rw [if_pos (by decide +kernel)]; kernel_rfl) | (rw [if_neg (by decide +kernel)]; exact ⟨rfl, rfl⟩))
    (fun os started H enc _ => lifted os started H enc)
end Go.Proofs.Ytamkgdiknlpooaa.EdgeLists
