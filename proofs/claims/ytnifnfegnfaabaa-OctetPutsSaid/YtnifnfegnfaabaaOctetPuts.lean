/-
  OctetPuts: for every input the call tells true, and nothing that was there turns. No condition.
-/
import Derived.Test.YtnifnfegnfaabaaRows
import Derived.Test.YtnifnfegnfaabaaLaw
import Derived.Test.YtnifnfegnfaabaaRyIn
import Derived.Test.YtnifnfegnfaabaaRyZ
import Derived.Test.YtnifnfegnfaabaaOctR
import Derived.Test.YtnifnfegnfaabaaOctP
namespace Go.Proofs.Ytnifnfegnfaabaa.OctetPuts
open Go Go.Proofs.Ytnifnfegnfaabaa.Ry Go.Proofs.Ytnifnfegnfaabaa.Law Go.Proofs.Ytnifnfegnfaabaa.OctR Go.Proofs.Ytnifnfegnfaabaa.OctP
open Go.ChangeShapes Go.WideShapes Go.ChangeAt Go.Joins Go.RowKit
structure XP where
  i : Int
def puQ (y : XP) : Prop := -1 ≤ y.i ∧ y.i ≤ 7
noncomputable def puI (b : List Int) (n : Int) (l : List Int) (y : XP) : St := stOf Try.f9.ntmps [(0, .sl none (.ints .u8 b)), (1, .val (.int .i64 n)), (2, .sl none (.ints .u8 l)), (7, .val (.int .i64 y.i))] [] [Any, Any, Any]
def puM (y : XP) : Nat := (7 - y.i).toNat
def puR (st : St) : XP := ⟨slotI st 7⟩
set_option maxHeartbeats 2000000 in
set_option cbv.maxSteps 2000000 in
set_option maxRecDepth 100000 in
theorem x_law (a0 : List Int) (a1 : Int) (a2 : List Int) (_ : sized [.one (.sl none (.ints .u8 a0)), .one (.val (.int .i64 a1)), .one (.sl none (.ints .u8 a2))]) : Does [(23, c_put Fs.std), (26, c_plist Hs.std), (24, c_limit Gs.std), (25, c_rnumc Hs.std), (27, c_lsc Hs.std), (22, c_awake Fs.std)] Try.f9 [.one (.sl none (.ints .u8 a0)), .one (.val (.int .i64 a1)), .one (.sl none (.ints .u8 a2))] [] ⟨True, .sa (B true), [], [Any, Any, Any]⟩ := by
  intro b gv
  have hfs := (FsOk.cons ok_put (FsOk.cons ok_plist (FsOk.cons ok_limit (FsOk.cons ok_rnumc (FsOk.cons ok_lsc (FsOk.cons ok_awake FsOk.nil rfl) rfl) rfl) rfl) rfl) rfl)
  generalize hF : Hs.std = F at hfs ⊢
  generalize hG0 : Fs.std = G0 at hfs ⊢
  generalize hG1 : Gs.std = G1 at hfs ⊢
  generalize hA : Ar.std = A
  generalize hL : Lp _ _ _ = L
  obtain ⟨Z, zq⟩ := z_all
  refine cd_open (lp_mono hL) zq rfl ?_
  repeat' (first
    | (refine z_open zq ?_; try dsimp only)
    | refine cd_seq zq ?_ (lp_mono hL)
    | refine cd_blk zq ?_
    | refine cd_ret ?_
    | refine cd_skip ?_
    | refine cd_exit ?_
    | refine cd_loop ?_
    | refine cd_cond rfl ?_
    | refine cd_condT rfl ?_
    | refine cd_condF rfl ?_
    | (refine Cd.mk ?_; cbv)
    | (refine Ends1.mk ?_; cbv)
    | (refine Fin1.mk ?_; cbv)
    | exact trivial
    | refine And.intro ?_ ?_
    | refine orf fun _ => ?_
    | refine ort fun _ => ?_)
  all_goals first | (show L _ _ _; skip) | (clear hfs hL zq Z; subst hA hF hG0 hG1; simp only [Ar.std] at * <;> grind [stdCmp, shB, sh2]; done)
  rename_i hx
  have hok : a0.length ≤ 2000 ∧ a2.length ≤ 66000 := by
    clear hfs hL zq Z
    subst hA
    simp only [Ar.std] at hx
    grind [stdCmp]
  clear hx
  subst hL
  refine loop_z (cx_ok hfs) puQ (puI a0 a1 a2) puM puR ⟨-1⟩ ?_ ?_ ?_
  · exact ⟨by simp only; omega, by simp only; omega⟩
  · cbv
    repeat' (first | exact trivial | exact rfl | refine And.intro ?_ ?_)
  rintro ⟨i⟩ ⟨q0, q1⟩ O hO
  dsimp only at q0 q1
  have hgr : grI i ≤ 2147483647 := by
    unfold grI
    repeat' split
    all_goals decide
  have hnl := num_len a1 i
  have hn2 := num_len a2.length 2
  have h22 : (2 : Int).toNat = 2 := rfl
  have e1 : Int.ofNat 1 = 1 := rfl
  subst hA
  generalize hA : Ar.std = A
  generalize hL : Lp _ _ _ = L
  refine cd_close zq ?_
  repeat' (first
    | (refine z_open zq ?_; try dsimp only)
    | refine cd_seq zq ?_ (lp_mono hL)
    | refine cd_blk zq ?_
    | refine cd_ret ?_
    | refine cd_skip ?_
    | refine cd_exit ?_
    | refine cd_loop ?_
    | refine cd_cond rfl ?_
    | refine cd_condT rfl ?_
    | refine cd_condF rfl ?_
    | (refine Cd.mk ?_; cbv)
    | (refine Ends1.mk ?_; cbv)
    | (refine Fin1.mk ?_; cbv)
    | exact trivial
    | refine And.intro ?_ ?_
    | refine orf fun _ => ?_
    | refine ort fun _ => ?_)
  all_goals (clear hL hfs zq Z; subst hA hF hG0 hG1 hO; simp only [Hs.std, Gs.std, Fs.std, Ar.std, List.nil_append] at * <;> grind [stdCmp, b_add, wr, puQ, puM, putE, putL, isW, okN, shB, sh2, behI, plL, plE, lsL])
theorem walk (a0 : List Int) (a1 : Int) (a2 : List Int) (A0 : Option Addr) (n0 c0 : Nat) (A2 : Option Addr) (n2 c2 : Nat) (w : World) (r0 : Law.Reads w w.heap.size 1 A0 n0 (a0.map (Value.int .u8))) (b0 : n0 ≤ c0 ∧ c0 ≤ maxLen) (_ : Law.Wf .u8 a0) (_ : n0 ≤ 140737488355328) (_ : (Lit.int .i64 a1).wf = true) (r2 : Law.Reads w w.heap.size 1 A2 n2 (a2.map (Value.int .u8))) (b2 : n2 ≤ c2 ∧ c2 ≤ maxLen) (_ : Law.Wf .u8 a2) (_ : n2 ≤ 140737488355328) : Calls Try.prog 9 #[.slice A0 n0 c0, .int .i64 a1, .slice A2 n2 c2] w (Law.Yes w) :=
  yes_of (FsOk.cons ok_put (FsOk.cons ok_plist (FsOk.cons ok_limit (FsOk.cons ok_rnumc (FsOk.cons ok_lsc (FsOk.cons ok_awake FsOk.nil rfl) rfl) rfl) rfl) rfl) rfl) Try.func9 rfl (vs := [.slice A0 n0 c0, .int .i64 a1, .slice A2 n2 c2]) (by exact ⟨(ints_of r0 b0).2, rfl, (ints_of r2 b2).2, trivial⟩) (lee_le rfl) fun hZ => x_law a0 a1 a2 hZ
theorem own : ownKnob Try.prog.godebug = none := by kernel_rfl
theorem laidOut : laidOutB Try.prog = true := by kernel_rfl
set_option maxRecDepth 100000 in
theorem lifted (os : Os) (started : os.Started) (H : Type) (enc : TypeId × Value → H) :
    ReturnsInHanded {} Try.checked os 9 .any (Rows.octetPutsSpec.pre6 enc Try.prog Try.f9 Rows.octetPutsRow.domain false) (Rows.octetPutsSpec.post enc Try.prog Try.f9 false true false false) := by
  refine returnsInHanded_of_change_sized (C := Try.checked) own started (by kernel_rfl) Try.func9
    (ChangeSpec.witness6 (enc := enc) (C := Try.checked) false ⟨#[], #[.slice none 0 0, .int .i64 0, .slice none 0 0], []⟩ 8 (by kernel_rfl) (by kernel_rfl) (by kernel_rfl) (by kernel_rfl)) ?_
  intro W base args ds gs before hval0 hW _ hz _
  have hval : ∀ (j : Nat) t v, Try.f9.params[j]? = some t → args[j]? = some v → Value.okWide Try.prog W .any base t v := hval0
  have hW' := hW
  obtain ⟨p, q, hA0, hV, rfl, _, _⟩ := hW
  have hA : DataW.TrodAll enc Try.prog W 0 (fun _ => true) true Try.f9.params.toList args.toList ds p := hA0
  rw [Try.params9] at hA hval
  obtain ⟨v0, v1, v2, d0, d1, d2, p0, p1, p2, rfl, rfl, rfl, h0, h1, h2⟩ := trodAll_three hA
  obtain ⟨rfl, rfl⟩ := trodVars_none hV
  obtain ⟨A0, n0, c0, a0, rfl, b0, r0, w0⟩ := SliceIn.ints Try.underlying22 Try.underlying5 (by kernel_rfl) (hval 0 22 v0 rfl rfl) h0
  have s0 := short_of Try.underlying22 (by decide +kernel) hz (j := 0) rfl rfl h0
  obtain ⟨a1, rfl, rfl, rfl, w1⟩ := open_int Try.underlying3 (hval 1 3 v1 rfl rfl) h1
  obtain ⟨A2, n2, c2, a2, rfl, b2, r2, w2⟩ := SliceIn.ints Try.underlying22 Try.underlying5 (by kernel_rfl) (hval 2 22 v2 rfl rfl) h2
  have s2 := short_of Try.underlying22 (by decide +kernel) hz (j := 2) rfl rfl h2
  refine (walk a0 a1 a2 A0 n0 c0 A2 n2 c2 W r0 b0 w0 s0 w1 r2 b2 w2 s2).mono fun e W' ⟨he, hb⟩ => ?_
  subst he
  exact ⟨_, rfl, law_post laidOut (by kernel_rfl) (by kernel_rfl) Try.underlying4 rfl hW' rfl hb⟩
theorem proved : Rows.OctetPutsSaid :=
  OpenClaim.holds_of_wide 9 Try.f9 rfl rfl rfl rfl rfl rfl rfl ⟨rfl, rfl, rfl, rfl, rfl⟩ rfl rfl rfl rfl rfl (by kernel_rfl) Try.func9 (by kernel_rfl)
    (of_decide_eq_true (by kernel_rfl)) (by unfold Func.isWrapper; first | (rw [if_pos (by decide +kernel)]; kernel_rfl) | (rw [if_neg (by decide +kernel)]; exact ⟨rfl, rfl⟩))
    (fun os started H enc _ => lifted os started H enc)
end Go.Proofs.Ytnifnfegnfaabaa.OctetPuts
