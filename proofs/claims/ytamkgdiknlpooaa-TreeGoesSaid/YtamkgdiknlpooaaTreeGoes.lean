/-
  TreeGoes: for every input the call tells true, and nothing that was there turns. No condition.
-/
import Derived.Test.YtamkgdiknlpooaaRows
import Derived.Test.YtamkgdiknlpooaaLaw
import Derived.Test.YtamkgdiknlpooaaRyIn
import Derived.Test.YtamkgdiknlpooaaRyZ
import Derived.Test.YtamkgdiknlpooaaRyOp
import Derived.Test.YtamkgdiknlpooaaTrX
namespace Go.Proofs.Ytamkgdiknlpooaa.TreeGoes
open Go Go.Proofs.Ytamkgdiknlpooaa.Ry Go.Proofs.Ytamkgdiknlpooaa.Law Go.Proofs.Ytamkgdiknlpooaa.TrX Go.Proofs.Ytamkgdiknlpooaa.So Go.Proofs.Ytamkgdiknlpooaa.JoS Go.Proofs.Ytamkgdiknlpooaa.EcX Go.Proofs.Ytamkgdiknlpooaa.EgR Go.Proofs.Ytamkgdiknlpooaa.EgL Go.Proofs.Ytamkgdiknlpooaa.SpR Go.Proofs.Ytamkgdiknlpooaa.SpQ Go.Proofs.Ytamkgdiknlpooaa.SpK Go.Proofs.Ytamkgdiknlpooaa.SpT Go.Proofs.Ytamkgdiknlpooaa.SpL Go.Proofs.Ytamkgdiknlpooaa.SpN Go.Proofs.Ytamkgdiknlpooaa.TrK Go.Proofs.Ytamkgdiknlpooaa.TrB Go.Proofs.Ytamkgdiknlpooaa.TrR Go.Proofs.Ytamkgdiknlpooaa.TrC Go.Proofs.Ytamkgdiknlpooaa.TrQ Go.Proofs.Ytamkgdiknlpooaa.TrX
open Go.ChangeShapes Go.WideShapes Go.ChangeAt Go.Joins Go.RowKit
structure XG where
  i : Int
  t : Int
def gQ (p : List Int) (b : Int) (y : XG) : Prop := goQ p b (y.i, y.t)
def gM (p : List Int) (y : XG) : Nat := p.length - y.i.toNat
noncomputable def gI (l : List E) (b : Int) (w v : List Int) (y : XG) : St := stOf Try.f12.ntmps [(0, .sl none (.recs (.int .i64 (.int .i64 (.int .i64 .nil))) l)), (2, .val (.int .i64 b)), (7, .sl none (.ints .i64 w)), (9, .sl none (.ints .i64 v)), (11, .val (.int .i64 y.t)), (12, .val (.int .i64 y.i))] [] [Any, Any, Any]
def gR (st : St) : XG := ⟨slotI st 12, slotI st 11⟩
theorem g_step {l : List E} {a b : Int} (h : rtE l a b = 0) {i t : Int} (hq : gQ (wyB l a b) b ⟨i, t⟩) : 0 ≤ i ∧ i ≤ (wyB l a b).length ∧ (i < (wyB l a b).length → stdBin .add .i64 i 1 = i + 1 ∧ stdBin .sub .i64 (stdBin .sub .i64 (wyB l b a).length 1) i = (wyB l b a).length - 1 - i ∧ (wyB l b a).length = (wyB l a b).length ∧ 0 ≤ ((wyB l b a).length : Int) - 1 - i ∧ ((wyB l b a).length : Int) - 1 - i < (wyB l b a).length ∧ (wyB l a b).getD i.toNat 0 = (wyB l b a).getD ((wyB l b a).length - 1 - i : Int).toNat 0 ∧ (wyB l a b).getD i.toNat 0 = t ∧ rtE l t b = 0 ∧ gQ (wyB l a b) b ⟨i + 1, nxB l t b⟩ ∧ (∀ x, gM (wyB l a b) ⟨i + 1, x⟩ < gM (wyB l a b) ⟨i, t⟩)) ∧ (¬ i < (wyB l a b).length → t = b) := by
  obtain ⟨g1, g2⟩ := go_step h hq
  have q0 := hq.1
  have q1 := hq.2.1
  simp only at q0 q1
  refine ⟨q0, q1, fun k => ?_, g2⟩
  obtain ⟨s1, s2, s3, s4, s5, s6, s7, s8, s9⟩ := g1 k
  exact ⟨s1, s2, s3, s4, s5, s6, s7, s8, s9, fun x => by simp only [gM]; omega⟩
set_option maxHeartbeats 4000000 in
set_option cbv.maxSteps 4000000 in
set_option maxRecDepth 100000 in
theorem x_law (a0 : List E) (a1 : Int) (a2 : Int) (_ : sized [.one (.sl none (.recs (.int .i64 (.int .i64 (.int .i64 .nil))) a0)), .one (.val (.int .i64 a1)), .one (.val (.int .i64 a2))]) : Does [(39, c_tway TrR.Tr.std), (40, c_tnext TrR.Tr.std), (42, c_rmay TrQ.Tq.std), (34, c_rlinked SpQ.Sq.std), (38, c_tawake Tx.std)] Try.f12 [.one (.sl none (.recs (.int .i64 (.int .i64 (.int .i64 .nil))) a0)), .one (.val (.int .i64 a1)), .one (.val (.int .i64 a2))] [] ⟨True, .sa (B true), [], [Any, Any, Any]⟩ := by
  intro b gv
  have f1 := fun h k => (ways_all a0 a1 a2).2.2.1 h k
  have f7 : mayR a0 a1 a2 = true → a0.length ≤ 1000000 → inR a0 = true := fun h k => in_R (all_good (for_fo (ck_0 (may_ck.1 h)).2.2).1) k
  have f8 := fun h => rt_back (l := a0) (a := a1) (b := a2) h
  have f9 := fun h => ((ways_all a0 a1 a2).2.2.2.2 h).1
  have f10 : (wyB a0 a1 a2).reverse.length = (wyB a0 a1 a2).length := List.length_reverse
  have hfs := (FsOk.cons ok_tway (FsOk.cons ok_tnext (FsOk.cons ok_rmay (FsOk.cons ok_rlinked (FsOk.cons ok_tawake FsOk.nil rfl) rfl) rfl) rfl) rfl)
  generalize hF : TrX.Tx.std = F at hfs ⊢
  generalize hG0 : TrR.Tr.std = G0 at hfs ⊢
  generalize hG1 : TrQ.Tq.std = G1 at hfs ⊢
  generalize hG2 : TrW.Tw.std = G2 at hfs ⊢
  generalize hG3 : SpQ.Sq.std = G3 at hfs ⊢
  generalize hG4 : EgR.Fs.std = G4 at hfs ⊢
  generalize hA : Ar.std = A
  generalize hL : Lp _ _ _ = L
  obtain ⟨Z, zq⟩ := z_all
  refine cd_open (lp_mono hL) zq rfl ?_
  repeat' (first
    | (refine z_open zq ?_; try dsimp only)
    | refine cd_seq zq ?_ (lp_mono hL)
    | refine cd_blk zq ?_
    | refine cd_ret ?_
    | refine cd_skip ?_
    | refine cd_exit ?_
    | refine cd_loop ?_
    | refine cd_cond rfl ?_
    | refine cd_condT rfl ?_
    | refine cd_condF rfl ?_
    | (refine Cd.mk ?_; cbv)
    | (refine Ends1.mk ?_; cbv)
    | (refine Fin1.mk ?_; cbv)
    | exact trivial
    | refine And.intro ?_ ?_
    | refine orf fun _ => ?_
    | refine ort fun _ => ?_)
  all_goals first | (show L _ _ _; skip) | (clear hL hfs zq Z; subst hA hF hG0 hG1 hG2 hG3 hG4; simp only [TrR.Tr.std, TrQ.Tq.std, SpQ.Sq.std, Ar.std] at * <;> grind [stdCmp]; done)
  rename_i hx1 hx2
  have hr : a0.length ≤ 60 ∧ rtE a0 a1 a2 = 0 := by
    clear hL hfs zq Z
    subst hA hF hG0 hG1 hG2 hG3 hG4
    simp only [TrR.Tr.std, TrQ.Tq.std, SpQ.Sq.std, Ar.std] at *
    grind [stdCmp]
  clear hx1 hx2
  have hr1 := hr.1
  have hr2 := hr.2
  have k1 : wyB a0 a1 a2 ≠ [] := by
    obtain ⟨_, _, _, _, _, w, _, _, _, _⟩ := rt_0 hr.2
    obtain ⟨q, eq⟩ := way_hd w
    rw [show wyB a0 a1 a2 = wF 65 (twH a0 a2) a1 from if_pos hr.2, eq]
    exact List.cons_ne_nil _ _
  have hz : gQ (wyB a0 a1 a2) a2 ⟨0, a1⟩ := by
    obtain ⟨_, _, _, _, _, w, _, _, _, _⟩ := rt_0 hr.2
    obtain ⟨q, eq⟩ := way_hd w
    have e : wyB a0 a1 a2 = wF 65 (twH a0 a2) a1 := if_pos hr.2
    rw [e, eq]
    exact ⟨Int.le_refl 0, Int.natCast_nonneg _, by simp⟩
  clear f1 f7 f8 f9 f10
  subst hL
  refine loop_z (cx_ok hfs) (gQ (wyB a0 a1 a2) a2) (gI a0 a2 (G0.t_wy a0 a1 a2) (G0.t_wy a0 a2 a1)) (gM (wyB a0 a1 a2)) gR ⟨0, a1⟩ ?_ ?_ ?_
  · exact hz
  · cbv
    repeat' (first | exact trivial | exact rfl | refine And.intro ?_ ?_)
  rintro ⟨i, t⟩ hq O hO
  have hst := g_step hr.2 hq
  subst hA
  generalize hA : Ar.std = A
  generalize hL : Lp _ _ _ = L
  refine cd_close zq ?_
  repeat' (first
    | (refine z_open zq ?_; try dsimp only)
    | refine cd_seq zq ?_ (lp_mono hL)
    | refine cd_blk zq ?_
    | refine cd_ret ?_
    | refine cd_skip ?_
    | refine cd_exit ?_
    | refine cd_loop ?_
    | refine cd_cond rfl ?_
    | refine cd_condT rfl ?_
    | refine cd_condF rfl ?_
    | (refine Cd.mk ?_; cbv)
    | (refine Ends1.mk ?_; cbv)
    | (refine Fin1.mk ?_; cbv)
    | exact trivial
    | refine And.intro ?_ ?_
    | refine orf fun _ => ?_
    | refine ort fun _ => ?_)
  all_goals (clear hL hfs zq Z hq hz k1 hr; subst hA hF hG0 hG1 hG2 hG3 hG4 hO; simp only [TrR.Tr.std, Ar.std] at * <;> grind [stdCmp])
theorem walk (a0 : List E) (a1 : Int) (a2 : Int) (A0 : Option Addr) (n0 c0 : Nat) (w : World) (r0 : (SC.sl none (.recs (.int .i64 (.int .i64 (.int .i64 .nil))) a0)).is (G0 w) (.slice A0 n0 c0)) (_ : ∀ y ∈ a0, wfS (.int .i64 (.int .i64 (.int .i64 .nil))) y 0) (_ : a0.length ≤ 140737488355328) (_ : (Lit.int .i64 a1).wf = true) (_ : (Lit.int .i64 a2).wf = true) : Calls Try.prog 12 #[.slice A0 n0 c0, .int .i64 a1, .int .i64 a2] w (Law.Yes w) :=
  yes_of (FsOk.cons ok_tway (FsOk.cons ok_tnext (FsOk.cons ok_rmay (FsOk.cons ok_rlinked (FsOk.cons ok_tawake FsOk.nil rfl) rfl) rfl) rfl) rfl) Try.func12 rfl (vs := [.slice A0 n0 c0, .int .i64 a1, .int .i64 a2]) (by exact ⟨r0, rfl, rfl, trivial⟩) (lee_le rfl) fun hZ => x_law a0 a1 a2 hZ
theorem own : ownKnob Try.prog.godebug = none := by kernel_rfl
theorem laidOut : laidOutB Try.prog = true := by kernel_rfl
set_option maxRecDepth 100000 in
theorem lifted (os : Os) (started : os.Started) (H : Type) (enc : TypeId × Value → H) :
    ReturnsInHanded {} Try.checked os 12 .any (Rows.treeGoesSpec.pre6 enc Try.prog Try.f12 Rows.treeGoesRow.domain false) (Rows.treeGoesSpec.post enc Try.prog Try.f12 false true false false) := by
  refine returnsInHanded_of_change_sized (C := Try.checked) own started (by kernel_rfl) Try.func12
    (ChangeSpec.witness6 (enc := enc) (C := Try.checked) false ⟨#[], #[.slice none 0 0, .int .i64 0, .int .i64 0], []⟩ 8 (by kernel_rfl) (by kernel_rfl) (by kernel_rfl) (by kernel_rfl)) ?_
  intro W base args ds gs before hval0 hW _ hz _
  have hval : ∀ (j : Nat) t v, Try.f12.params[j]? = some t → args[j]? = some v → Value.okWide Try.prog W .any base t v := hval0
  have hW' := hW
  obtain ⟨p, q, hA0, hV, rfl, _, _⟩ := hW
  have hA : DataW.TrodAll enc Try.prog W 0 (fun _ => true) true Try.f12.params.toList args.toList ds p := hA0
  rw [Try.params12] at hA hval
  obtain ⟨v0, v1, v2, d0, d1, d2, p0, p1, p2, rfl, rfl, rfl, h0, h1, h2⟩ := trodAll_three hA
  obtain ⟨rfl, rfl⟩ := trodVars_none hV
  obtain ⟨A0, n0, c0, a0, rfl, l0, r0, w0⟩ := sl_any (s := .int .i64 (.int .i64 (.int .i64 .nil))) Try.underlying22 (by kernel_rfl) (by kernel_rfl) (hval 0 22 v0 rfl rfl) h0
  have s0 : a0.length ≤ 140737488355328 := by rw [l0]; exact short_of Try.underlying22 (by decide +kernel) hz (j := 0) rfl rfl h0
  obtain ⟨a1, rfl, rfl, rfl, w1⟩ := open_int Try.underlying3 (hval 1 3 v1 rfl rfl) h1
  obtain ⟨a2, rfl, rfl, rfl, w2⟩ := open_int Try.underlying3 (hval 2 3 v2 rfl rfl) h2
  refine (walk a0 a1 a2 A0 n0 c0 W r0 w0 s0 w1 w2).mono fun e W' ⟨he, hb⟩ => ?_
  subst he
  exact ⟨_, rfl, law_post laidOut (by kernel_rfl) (by kernel_rfl) Try.underlying4 rfl hW' rfl hb⟩
theorem proved : Rows.TreeGoesSaid :=
  OpenClaim.holds_of_wide 12 Try.f12 rfl rfl rfl rfl rfl rfl rfl ⟨rfl, rfl, rfl, rfl, rfl⟩ rfl rfl rfl rfl rfl (by kernel_rfl) Try.func12 (by kernel_rfl)
    (of_decide_eq_true (by kernel_rfl)) (by unfold Func.isWrapper; first | (rw [if_pos (by decide +kernel)]; kernel_rfl) | (rw [if_neg (by decide +kernel)]; exact ⟨rfl, rfl⟩))
    (fun os started H enc _ => lifted os started H enc)
end Go.Proofs.Ytamkgdiknlpooaa.TreeGoes
