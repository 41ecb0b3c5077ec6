/-
  OctetScans: for every input the call tells true, and nothing that was there turns. No condition.
-/
import Derived.Test.YtnifnfegnfaabaaRows
import Derived.Test.YtnifnfegnfaabaaLaw
import Derived.Test.YtnifnfegnfaabaaRyIn
import Derived.Test.YtnifnfegnfaabaaRyZ
import Derived.Test.YtnifnfegnfaabaaOctR
namespace Go.Proofs.Ytnifnfegnfaabaa.OctetScans
open Go Go.Proofs.Ytnifnfegnfaabaa.Ry Go.Proofs.Ytnifnfegnfaabaa.Law Go.Proofs.Ytnifnfegnfaabaa.OctR
open Go.ChangeShapes Go.WideShapes Go.ChangeAt Go.Joins Go.RowKit
structure XC where
  i : Int
  r : List Int
  e : Int
def scQ (l : List Int) (y : XC) : Prop := 0 ≤ y.i ∧ y.i ≤ l.length ∧ okR y.r = true
noncomputable def scI (l : List Int) (y : XC) : St := stOf Try.f10.ntmps [(1, .sl none (.ints .i64 l)), (5, .ptr 1 0), (6, .ptr 2 0), (7, .val (.int .i64 y.i))]
  [(1, .cells 66 [.sl none (.ints .u8 y.r), .val (.int .i64 y.e)]), (2, .cells 48 [.sl none (.ints .u8 y.r), .val (.int .i64 y.e)])] [Any, Any]
def scM (l : List Int) (y : XC) : Nat := l.length - y.i.toNat
def scR (st : St) : XC := ⟨slotI st 7, valL st.heap (cellC st 5 0), valI (cellC st 5 1)⟩
theorem okR_drop {r : List Int} (h : okR r = true) (k : Nat) : okR (r.drop k) = true := by
  simp only [okR, byB, shB, Bool.and_eq_true, decide_eq_true_eq, List.length_drop] at *
  exact ⟨fun x hx => h.1 x (List.mem_of_mem_drop hx), by omega⟩
theorem okR_take (r : List Int) (e : Int) (h : okR r = true) (w : Int) : okR (tkR r e w) = true := by
  unfold tkR
  split
  · exact okR_drop h _
  · exact h
theorem okR_li (r : List Int) (e : Int) (h : okR r = true) : okR (liR r e) = true := by
  unfold liR
  split
  · exact okR_drop h _
  · exact h
set_option maxHeartbeats 8000000 in
set_option cbv.maxSteps 2000000 in
set_option maxRecDepth 100000 in
theorem x_law (a0 : List Int) (a1 : List Int) (w0 : ∀ x ∈ a0, 0 ≤ x ∧ x ≤ 255) (hZ : sized [.one (.sl none (.ints .u8 a0)), .one (.sl none (.ints .i64 a1))]) : Does [(28, c_new Fs.std), (31, c_take Fs.std), (29, c_list Gs.std), (33, c_left Fs.std), (keepKey 33, noCon), (34, c_err Fs.std), (keepKey 34, noCon), (35, c_end Fs.std), (keepKey 35, noCon), (32, c_rtake Gs.std), (30, c_rlist Gs.std), (36, c_rend Gs.std), (keepKey 36, noCon), (22, c_awake Fs.std)] Try.f10 [.one (.sl none (.ints .u8 a0)), .one (.sl none (.ints .i64 a1))] [] ⟨True, .sa (B true), [], [Any, Any]⟩ := by
  intro b gv
  have hlt : ∀ n : Int, a0.length ≤ n → n ≤ 4000 → okR a0 = true := fun n h1 h2 => by
    unfold okR byB shB
    rw [decide_eq_true w0, decide_eq_true (by omega)]
    rfl
  have hz1 := hZ.2.1
  have hfs := (FsOk.cons ok_new (FsOk.cons ok_take (FsOk.cons ok_list (FsOk.keeps ok_left kp_left (FsOk.keeps ok_err kp_err (FsOk.keeps ok_end kp_end (FsOk.cons ok_rtake (FsOk.cons ok_rlist (FsOk.keeps ok_rend kp_rend (FsOk.cons ok_awake FsOk.nil rfl)) rfl) rfl)))) rfl) rfl) rfl)
  generalize hF : Gs.std = F at hfs ⊢
  generalize hG : Fs.std = F2 at hfs ⊢
  generalize hA : Ar.std = A
  generalize hL : Lp _ _ _ = L
  obtain ⟨Z, zq⟩ := z_all
  refine cd_open (lp_mono hL) zq rfl ?_
  repeat' (first
    | (refine z_open zq ?_; try dsimp only)
    | refine cd_seq zq ?_ (lp_mono hL)
    | refine cd_blk zq ?_
    | refine cd_ret ?_
    | refine cd_skip ?_
    | refine cd_exit ?_
    | refine cd_loop ?_
    | refine cd_cond rfl ?_
    | refine cd_condT rfl ?_
    | refine cd_condF rfl ?_
    | (refine Cd.mk ?_; cbv)
    | (refine Ends1.mk ?_; cbv)
    | (refine Fin1.mk ?_; cbv)
    | exact trivial
    | refine And.intro ?_ ?_
    | refine orf fun _ => ?_
    | refine ort fun _ => ?_)
  all_goals first | (show L _ _ _; skip) | (clear hfs hL; subst hA hF hG; simp only [Gs.std, Fs.std, Ar.std, List.nil_append] at *; grind [stdCmp, shB]; done)
  rename_i hx
  have hok : okR a0 = true := by
    clear hfs hL zq Z
    subst hA
    simp only [Ar.std] at hx
    refine hlt a0.length (Int.le_refl _) ?_
    grind [stdCmp]
  clear hx hlt
  subst hL
  refine loop_z (cx_ok hfs) (scQ a1) (scI a1) (scM a1) scR ⟨0, a0, 0⟩ ?_ ?_ ?_
  · exact ⟨Int.le_refl 0, Int.natCast_nonneg _, hok⟩
  · cbv
    subst hA
    repeat' (first | exact trivial | exact rfl | refine And.intro ?_ ?_)
  rintro ⟨i, r, e⟩ ⟨q0, q1, q2⟩ O hO
  dsimp only at q0 q1 q2
  have ht := okR_take r e q2
  have hl := okR_li r e q2
  have hb : byB r = true := by
    simp only [okR, Bool.and_eq_true] at q2
    exact q2.1
  subst hA
  generalize hA : Ar.std = A
  generalize hL : Lp _ _ _ = L
  refine cd_close zq ?_
  repeat' (first
    | (refine z_open zq ?_; try dsimp only)
    | refine cd_seq zq ?_ (lp_mono hL)
    | refine cd_blk zq ?_
    | refine cd_ret ?_
    | refine cd_skip ?_
    | refine cd_exit ?_
    | refine cd_loop ?_
    | refine cd_cond rfl ?_
    | refine cd_condT rfl ?_
    | refine cd_condF rfl ?_
    | (refine Cd.mk ?_; cbv)
    | (refine Ends1.mk ?_; cbv)
    | (refine Fin1.mk ?_; cbv)
    | exact trivial
    | refine And.intro ?_ ?_
    | refine orf fun _ => ?_
    | refine ort fun _ => ?_)
  all_goals (clear hL hfs zq Z; subst hA hF hG hO; simp only [Gs.std, Fs.std, Ar.std] at * <;> grind [stdCmp, b_add, wr, scQ, scM, lenL])
theorem walk (a0 : List Int) (a1 : List Int) (A0 : Option Addr) (n0 c0 : Nat) (A1 : Option Addr) (n1 c1 : Nat) (w : World) (r0 : Law.Reads w w.heap.size 1 A0 n0 (a0.map (Value.int .u8))) (b0 : n0 ≤ c0 ∧ c0 ≤ maxLen) (w0 : Law.Wf .u8 a0) (_ : n0 ≤ 140737488355328) (r1 : Law.Reads w w.heap.size 1 A1 n1 (a1.map (Value.int .i64))) (b1 : n1 ≤ c1 ∧ c1 ≤ maxLen) (_ : Law.Wf .i64 a1) (_ : n1 ≤ 140737488355328) : Calls Try.prog 10 #[.slice A0 n0 c0, .slice A1 n1 c1] w (Law.Yes w) :=
  yes_of (FsOk.cons ok_new (FsOk.cons ok_take (FsOk.cons ok_list (FsOk.keeps ok_left kp_left (FsOk.keeps ok_err kp_err (FsOk.keeps ok_end kp_end (FsOk.cons ok_rtake (FsOk.cons ok_rlist (FsOk.keeps ok_rend kp_rend (FsOk.cons ok_awake FsOk.nil rfl)) rfl) rfl)))) rfl) rfl) rfl) Try.func10 rfl (vs := [.slice A0 n0 c0, .slice A1 n1 c1]) (by exact ⟨(ints_of r0 b0).2, (ints_of r1 b1).2, trivial⟩) (lee_le rfl) fun hZ => x_law a0 a1 (fun x hx => wf8 (w0 x hx)) hZ
theorem own : ownKnob Try.prog.godebug = none := by kernel_rfl
theorem laidOut : laidOutB Try.prog = true := by kernel_rfl
set_option maxRecDepth 100000 in
theorem lifted (os : Os) (started : os.Started) (H : Type) (enc : TypeId × Value → H) :
    ReturnsInHanded {} Try.checked os 10 .any (Rows.octetScansSpec.pre6 enc Try.prog Try.f10 Rows.octetScansRow.domain false) (Rows.octetScansSpec.post enc Try.prog Try.f10 false true false false) := by
  refine returnsInHanded_of_change_sized (C := Try.checked) own started (by kernel_rfl) Try.func10
    (ChangeSpec.witness6 (enc := enc) (C := Try.checked) false ⟨#[], #[.slice none 0 0, .slice none 0 0], []⟩ 8 (by kernel_rfl) (by kernel_rfl) (by kernel_rfl) (by kernel_rfl)) ?_
  intro W base args ds gs before hval0 hW _ hz _
  have hval : ∀ (j : Nat) t v, Try.f10.params[j]? = some t → args[j]? = some v → Value.okWide Try.prog W .any base t v := hval0
  have hW' := hW
  obtain ⟨p, q, hA0, hV, rfl, _, _⟩ := hW
  have hA : DataW.TrodAll enc Try.prog W 0 (fun _ => true) true Try.f10.params.toList args.toList ds p := hA0
  rw [Try.params10] at hA hval
  obtain ⟨v0, v1, d0, d1, p0, p1, rfl, rfl, rfl, h0, h1⟩ := trodAll_two hA
  obtain ⟨rfl, rfl⟩ := trodVars_none hV
  obtain ⟨A0, n0, c0, a0, rfl, b0, r0, w0⟩ := SliceIn.ints Try.underlying22 Try.underlying5 (by kernel_rfl) (hval 0 22 v0 rfl rfl) h0
  have s0 := short_of Try.underlying22 (by decide +kernel) hz (j := 0) rfl rfl h0
  obtain ⟨A1, n1, c1, a1, rfl, b1, r1, w1⟩ := SliceIn.ints Try.underlying43 Try.underlying3 (by kernel_rfl) (hval 1 43 v1 rfl rfl) h1
  have s1 := short_of Try.underlying43 (by decide +kernel) hz (j := 1) rfl rfl h1
  refine (walk a0 a1 A0 n0 c0 A1 n1 c1 W r0 b0 w0 s0 r1 b1 w1 s1).mono fun e W' ⟨he, hb⟩ => ?_
  subst he
  exact ⟨_, rfl, law_post laidOut (by kernel_rfl) (by kernel_rfl) Try.underlying4 rfl hW' rfl hb⟩
theorem proved : Rows.OctetScansSaid :=
  OpenClaim.holds_of_wide 10 Try.f10 rfl rfl rfl rfl rfl rfl rfl ⟨rfl, rfl, rfl, rfl, rfl⟩ rfl rfl rfl rfl rfl (by kernel_rfl) Try.func10 (by kernel_rfl)
    (of_decide_eq_true (by kernel_rfl)) (by unfold Func.isWrapper; first | (rw [if_pos (by decide +kernel)]; kernel_rfl) | (rw [if_neg (by decide +kernel)]; exact ⟨rfl, rfl⟩))
    (fun os started H enc _ => lifted os started H enc)
end Go.Proofs.Ytnifnfegnfaabaa.OctetScans
