/-
  SpanParts: for every input the call tells true, and nothing that was there turns. No condition.
-/
import Derived.Test.YtakebkfhigadiaaRows
import Derived.Test.YtakebkfhigadiaaLaw
import Derived.Test.YtakebkfhigadiaaRyIn
import Derived.Test.YtakebkfhigadiaaRyZ
import Derived.Test.YtakebkfhigadiaaRyOp
import Derived.Test.YtakebkfhigadiaaPaT
namespace Go.Proofs.Ytakebkfhigadiaa.SpanParts
open Go Go.Proofs.Ytakebkfhigadiaa.Ry Go.Proofs.Ytakebkfhigadiaa.Law Go.Proofs.Ytakebkfhigadiaa.PaT Go.Proofs.Ytakebkfhigadiaa.PaR Go.Proofs.Ytakebkfhigadiaa.CgR Go.Proofs.Ytakebkfhigadiaa.SpR Go.Proofs.Ytakebkfhigadiaa.SpQ Go.Proofs.Ytakebkfhigadiaa.EgR Go.Proofs.Ytakebkfhigadiaa.EgL Go.Proofs.Ytakebkfhigadiaa.SpK Go.Proofs.Ytakebkfhigadiaa.SpT Go.Proofs.Ytakebkfhigadiaa.SpL Go.Proofs.Ytakebkfhigadiaa.SpM Go.Proofs.Ytakebkfhigadiaa.JoS Go.Proofs.Ytakebkfhigadiaa.JoR Go.Proofs.Ytakebkfhigadiaa.JoW
open Go.ChangeShapes Go.WideShapes Go.ChangeAt Go.Joins Go.RowKit
structure XY where
  i : Int
def yQ (n : Nat) (y : XY) : Prop := 0 ≤ y.i ∧ y.i ≤ n
def yM (n : Nat) (y : XY) : Nat := n - y.i.toNat
def yR (st : St) : XY := ⟨slotI st 11⟩
noncomputable def yI (p q : List E) (y : XY) : St := stOf Try.f3.ntmps [(7, .sl none (.recs (.ints .i64 .nil) p)), (10, .sl none (.recs (.ints .i64 .nil) q)), (11, .val (.int .i64 y.i))] [] [Any, Any, Any]
theorem y_all {n : Nat} (hn : n ≤ 64) {i : Int} (h : yQ n ⟨i⟩) : 0 ≤ i ∧ i ≤ n ∧ (i < n → stdBin .add .i64 i 1 = i + 1 ∧ yM n ⟨i + 1⟩ < yM n ⟨i⟩ ∧ yQ n ⟨i + 1⟩) := by
  obtain ⟨h0, h1⟩ := h
  simp only at h0 h1
  refine ⟨h0, h1, fun g => ⟨by rw [b_add, wr _ (by omega) (by omega)], by simp only [yM]; omega, by simp only; omega, by simp only; omega⟩⟩
theorem pe_len (n : List Int) (l : List E) (i : Nat) : (rl ((paO n l).getD i []) 0).length ≤ 1000000 := by
  have key : ∀ k, ∀ e ∈ (paS n l k).1, ∃ q, e = [D.ints q] ∧ q.length ≤ 64 := fun k => by
    induction k with
    | zero => intro e he; cases he
    | succ k ih =>
      intro e he
      unfold paS at he
      split at he
      · rcases List.mem_append.1 he with he | he
        · exact ih e he
        · refine ⟨_, List.mem_singleton.1 he, ?_⟩
          have : (paP n l ((k : Int) + 1)).length ≤ (upN 64).length := List.length_filter_le ..
          rw [up_len] at this
          exact this
      · exact ih e he
  by_cases h : i < (paO n l).length
  · obtain ⟨q, e, hq⟩ := key 64 _ (List.getElem_mem h)
    rw [List.getD_eq_getElem?_getD, List.getElem?_eq_getElem h, Option.getD_some]
    have e : (paO n l)[i] = [D.ints q] := e
    rw [e]
    show q.length ≤ _
    omega
  · rw [List.getD_eq_getElem?_getD, List.getElem?_eq_none (by omega)]
    exact Nat.zero_le _
theorem same_rl (l : List E) (k : Nat) : sameI (rl (l.getD k []) 0) (rl (l.getD k []) 0) = true := decide_eq_true rfl
theorem po_len (n : List Int) (l : List E) : (paO n l).length ≤ 64 := (paS_len n l 64).2
theorem in_ok {n : List Int} (h : okS n zer = true) (hl : n.length ≤ 1000000) : inI n = true := decide_eq_true ⟨hl, fun x hx => by
  have := okS_nod n _ h x hx
  omega⟩
set_option maxHeartbeats 4000000 in
set_option cbv.maxSteps 4000000 in
set_option maxRecDepth 100000 in
theorem x_law (a0 : List Int) (a1 : List E) (a2 : E) (_ : sized [.one (.sl none (.ints .i64 a0)), .one (.sl none (.recs (.int .i64 (.int .i64 (.int .i64 .nil))) a1)), .agg (shCells Ar.std (.int .i64 (.int .i64 .nil)) a2 0 2)]) : Does [(6, c_sparts PaR.Pa.std), (7, c_rcheck EgR.Fs.std), (8, c_linked SpR.Sp.std), (9, c_rlinked SpQ.Sq.std), (10, c_rnodes7 PaR.Pa.std), (11, c_rparts CgR.Cg.std), (12, c_rints PaR.Pa.std), (5, c_sawake SpM.Sm.std)] Try.f3 [.one (.sl none (.ints .i64 a0)), .one (.sl none (.recs (.int .i64 (.int .i64 (.int .i64 .nil))) a1)), .agg (shCells Ar.std (.int .i64 (.int .i64 .nil)) a2 0 2)] [] ⟨True, .sa (B true), [], [Any, Any, Any]⟩ := by
  intro b gv
  have f1 := fun h k => parts_eq (n := a0) (l := a1) h k
  have f2 := fun h => lk_same (l := a1) h (ri a2 0) (ri a2 1)
  have f3 : ¬ allE a1 = 0 → lkB a1 (ri a2 0) (ri a2 1) = false := fun h => by unfold lkB; rw [decide_eq_false h]; rfl
  have f4 : allE a1 = 0 → a1.length ≤ 1000000 → inR a1 = true := fun h k => in_R (all_good h) k
  have f5 := fun h k => in_ok (n := a0) h k
  have f6 : okS a0 zer = false → rO a0 a1 = [] ∧ rE a0 a1 = 1 := fun h => ⟨if_neg (by rw [h]; exact fun q => by cases q.1), if_neg (by rw [h]; decide)⟩
  have f7 : ¬ allE a1 = 0 → rO a0 a1 = [] := fun h => if_neg fun q => h q.2
  have f8 : okS a0 zer = true → rE a0 a1 = allE a1 := fun h => if_pos h
  have f9 := po_len a0 a1
  have hfs := (FsOk.cons ok_sparts (FsOk.cons ok_rcheck (FsOk.cons ok_linked (FsOk.cons ok_rlinked (FsOk.cons ok_rnodes7 (FsOk.cons ok_rparts (FsOk.cons ok_rints (FsOk.cons ok_sawake FsOk.nil rfl) rfl) rfl) rfl) rfl) rfl) rfl) rfl)
  generalize hF : PaR.Pa.std = F at hfs ⊢
  generalize hG0 : CgR.Cg.std = G0 at hfs ⊢
  generalize hG1 : SpR.Sp.std = G1 at hfs ⊢
  generalize hG2 : SpQ.Sq.std = G2 at hfs ⊢
  generalize hG3 : EgR.Fs.std = G3 at hfs ⊢
  generalize hG4 : SpM.Sm.std = G4 at hfs ⊢
  generalize hA : Ar.std = A
  generalize hL : Lp _ _ _ = L
  obtain ⟨Z, zq⟩ := z_all
  refine @cd_open _ _ _ _ _ _ _ (lp_mono hL) _ _ zq rfl ?_
  repeat' (first
    | (refine z_open zq ?_; try dsimp only)
    | refine cd_seq zq ?_ (lp_mono hL)
    | refine cd_blk zq ?_
    | refine cd_ret ?_
    | refine cd_skip ?_
    | refine cd_exit ?_
    | refine cd_loop ?_
    | refine cd_cond rfl ?_
    | refine cd_condT rfl ?_
    | refine cd_condF rfl ?_
    | (refine Cd.mk ?_; cbv)
    | (refine Ends1.mk ?_; cbv)
    | (refine Fin1.mk ?_; cbv)
    | exact trivial
    | refine And.intro ?_ ?_
    | refine orf fun _ => ?_
    | refine ort fun _ => ?_)
  all_goals first | (show L _ _ _; skip) | (clear hL zq Z hfs; subst hA hF hG0 hG1 hG2 hG3 hG4; simp only [PaR.Pa.std, CgR.Cg.std, SpR.Sp.std, SpQ.Sq.std, EgR.Fs.std, Ar.std, List.nil_append] at * <;> grind [stdCmp, okN, okR]; done)
  subst hL
  refine loop_z (cx_ok hfs) (yQ (G0.g_pa a0 a1).length) (yI (F.p_r (A.appI [] a0) a1) (G0.g_pa a0 a1)) (yM (G0.g_pa a0 a1).length) yR ⟨0⟩ ?_ ?_ ?_
  · exact ⟨Int.le_refl 0, Int.natCast_nonneg _⟩
  · cbv
    repeat' (first | exact trivial | exact rfl | refine And.intro ?_ ?_)
  rintro ⟨i⟩ hq O hO
  have hst := fun h => y_all (n := (G0.g_pa a0 a1).length) h hq
  have hpe := fun j => pe_len a0 a1 j
  have hsm := fun j => same_rl (paO a0 a1) j
  subst hA
  generalize hA : Ar.std = A
  generalize hL : Lp _ _ _ = L
  refine cd_close zq ?_
  repeat' (first
    | (refine z_open zq ?_; try dsimp only)
    | refine cd_seq zq ?_ (lp_mono hL)
    | refine cd_blk zq ?_
    | refine cd_ret ?_
    | refine cd_skip ?_
    | refine cd_exit ?_
    | refine cd_loop ?_
    | refine cd_cond rfl ?_
    | refine cd_condT rfl ?_
    | refine cd_condF rfl ?_
    | (refine Cd.mk ?_; cbv)
    | (refine Ends1.mk ?_; cbv)
    | (refine Fin1.mk ?_; cbv)
    | exact trivial
    | refine And.intro ?_ ?_
    | refine orf fun _ => ?_
    | refine ort fun _ => ?_)
  all_goals (clear hL zq Z hfs hq; subst hA hF hG0 hG1 hG2 hG3 hG4 hO; simp only [PaR.Pa.std, CgR.Cg.std, SpR.Sp.std, SpQ.Sq.std, EgR.Fs.std, Ar.std, List.nil_append] at * <;> grind [stdCmp, okN, okR]; done)
theorem walk (a0 : List Int) (a1 : List E) (a2 : E) (A0 : Option Addr) (n0 c0 : Nat) (A1 : Option Addr) (n1 c1 : Nat) (v2 : Value) (w : World) (r0 : Law.Reads w w.heap.size 1 A0 n0 (a0.map (Value.int .i64))) (b0 : n0 ≤ c0 ∧ c0 ≤ maxLen) (_ : Law.Wf .i64 a0) (_ : n0 ≤ 140737488355328) (r1 : (SC.sl none (.recs (.int .i64 (.int .i64 (.int .i64 .nil))) a1)).is (G0 w) (.slice A1 n1 c1)) (_ : ∀ y ∈ a1, wfS (.int .i64 (.int .i64 (.int .i64 .nil))) y 0) (_ : a1.length ≤ 140737488355328) (r2 : (SA.agg (shCells Ar.std (.int .i64 (.int .i64 .nil)) a2 0 2)).is (G0 w) v2) (_ : wfS (.int .i64 (.int .i64 .nil)) a2 0) : Calls Try.prog 3 #[.slice A0 n0 c0, .slice A1 n1 c1, v2] w (Law.Yes w) :=
  yes_of (FsOk.cons ok_sparts (FsOk.cons ok_rcheck (FsOk.cons ok_linked (FsOk.cons ok_rlinked (FsOk.cons ok_rnodes7 (FsOk.cons ok_rparts (FsOk.cons ok_rints (FsOk.cons ok_sawake FsOk.nil rfl) rfl) rfl) rfl) rfl) rfl) rfl) rfl) Try.func3 rfl (vs := [.slice A0 n0 c0, .slice A1 n1 c1, v2]) (by exact ⟨(ints_of r0 b0).2, r1, r2, trivial⟩) (lee_le rfl) fun hZ => x_law a0 a1 a2 hZ
theorem own : ownKnob Try.prog.godebug = none := by kernel_rfl
theorem laidOut : laidOutB Try.prog = true := by kernel_rfl
set_option maxRecDepth 100000 in
theorem lifted (os : Os) (started : os.Started) (H : Type) (enc : TypeId × Value → H) :
    ReturnsInHanded {} Try.checked os 3 .any (Rows.spanPartsSpec.pre6 enc Try.prog Try.f3 Rows.spanPartsRow.domain false) (Rows.spanPartsSpec.post enc Try.prog Try.f3 false true false false) := by
  refine returnsInHanded_of_change_sized (C := Try.checked) own started (by kernel_rfl) Try.func3
    (ChangeSpec.witness6 (enc := enc) (C := Try.checked) false ⟨#[], #[.slice none 0 0, .slice none 0 0, .agg #[.int .i64 0, .int .i64 0]], []⟩ 8 (by kernel_rfl) (by kernel_rfl) (by kernel_rfl) (by kernel_rfl)) ?_
  intro W base args ds gs before hval0 hW _ hz _
  have hval : ∀ (j : Nat) t v, Try.f3.params[j]? = some t → args[j]? = some v → Value.okWide Try.prog W .any base t v := hval0
  have hW' := hW
  obtain ⟨p, q, hA0, hV, rfl, _, _⟩ := hW
  have hA : DataW.TrodAll enc Try.prog W 0 (fun _ => true) true Try.f3.params.toList args.toList ds p := hA0
  rw [Try.params3] at hA hval
  obtain ⟨v0, v1, v2, d0, d1, d2, p0, p1, p2, rfl, rfl, rfl, h0, h1, h2⟩ := trodAll_three hA
  obtain ⟨rfl, rfl⟩ := trodVars_none hV
  obtain ⟨A0, n0, c0, a0, rfl, b0, r0, w0⟩ := SliceIn.ints Try.underlying22 Try.underlying3 (by kernel_rfl) (hval 0 22 v0 rfl rfl) h0
  have s0 := short_of Try.underlying22 (by decide +kernel) hz (j := 0) rfl rfl h0
  obtain ⟨A1, n1, c1, a1, rfl, l1, r1, w1⟩ := sl_any (s := .int .i64 (.int .i64 (.int .i64 .nil))) Try.underlying23 (by kernel_rfl) (by kernel_rfl) (hval 1 23 v1 rfl rfl) h1
  have s1 : a1.length ≤ 140737488355328 := by rw [l1]; exact short_of Try.underlying23 (by decide +kernel) hz (j := 1) rfl rfl h1
  obtain ⟨a2, r2, w2⟩ := agg_any (s := .int .i64 (.int .i64 .nil)) (by rw [Try.underlying24]) (by kernel_rfl) (by kernel_rfl) (hval 2 24 v2 rfl rfl) h2
  refine (walk a0 a1 a2 A0 n0 c0 A1 n1 c1 v2 W r0 b0 w0 s0 r1 w1 s1 r2 w2).mono fun e W' ⟨he, hb⟩ => ?_
  subst he
  exact ⟨_, rfl, law_post laidOut (by kernel_rfl) (by kernel_rfl) Try.underlying4 rfl hW' rfl hb⟩
theorem proved : Rows.SpanPartsSaid :=
  OpenClaim.holds_of_wide 3 Try.f3 rfl rfl rfl rfl rfl rfl rfl ⟨rfl, rfl, rfl, rfl, rfl⟩ rfl rfl rfl rfl rfl (by kernel_rfl) Try.func3 (by kernel_rfl)
    (of_decide_eq_true (by kernel_rfl)) (by unfold Func.isWrapper; first | (rw [if_pos (by decide +kernel)]; kernel_rfl) | (rw [if_neg (by decide +kernel)]; exact ⟨rfl, rfl⟩))
    (fun os started H enc _ => lifted os started H enc)
end Go.Proofs.Ytakebkfhigadiaa.SpanParts
