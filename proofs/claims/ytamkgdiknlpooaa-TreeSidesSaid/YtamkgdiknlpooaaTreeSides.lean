/-
  TreeSides: for every input the call tells true, and nothing that was there turns. No condition.
-/
import Derived.Test.YtamkgdiknlpooaaRows
import Derived.Test.YtamkgdiknlpooaaLaw
import Derived.Test.YtamkgdiknlpooaaRyIn
import Derived.Test.YtamkgdiknlpooaaRyZ
import Derived.Test.YtamkgdiknlpooaaRyOp
import Derived.Test.YtamkgdiknlpooaaTrE
namespace Go.Proofs.Ytamkgdiknlpooaa.TreeSides
open Go Go.Proofs.Ytamkgdiknlpooaa.Ry Go.Proofs.Ytamkgdiknlpooaa.Law Go.Proofs.Ytamkgdiknlpooaa.TrE Go.Proofs.Ytamkgdiknlpooaa.So Go.Proofs.Ytamkgdiknlpooaa.JoS Go.Proofs.Ytamkgdiknlpooaa.EcX Go.Proofs.Ytamkgdiknlpooaa.EgR Go.Proofs.Ytamkgdiknlpooaa.EgL Go.Proofs.Ytamkgdiknlpooaa.SpR Go.Proofs.Ytamkgdiknlpooaa.SpQ Go.Proofs.Ytamkgdiknlpooaa.SpK Go.Proofs.Ytamkgdiknlpooaa.SpT Go.Proofs.Ytamkgdiknlpooaa.SpL Go.Proofs.Ytamkgdiknlpooaa.SpN Go.Proofs.Ytamkgdiknlpooaa.TrK Go.Proofs.Ytamkgdiknlpooaa.TrB Go.Proofs.Ytamkgdiknlpooaa.TrR Go.Proofs.Ytamkgdiknlpooaa.TrC Go.Proofs.Ytamkgdiknlpooaa.TrQ Go.Proofs.Ytamkgdiknlpooaa.TrX Go.Proofs.Ytamkgdiknlpooaa.TrD Go.Proofs.Ytamkgdiknlpooaa.TrE
open Go.ChangeShapes Go.WideShapes Go.ChangeAt Go.Joins Go.RowKit
structure XB2 where
  k : Int
  b : Bool
def sQ (f : List E) (x : T) (y : XB2) : Prop := 0 ≤ y.k ∧ y.k ≤ f.length ∧ (y.b = true ↔ x ∈ (f.take y.k.toNat).map trE)
def sM (f : List E) (y : XB2) : Nat := f.length - y.k.toNat
def sR (st : St) : XB2 := ⟨slotI st 14, slotB st 13⟩
theorem s_step {f : List E} {a b w : Int} (hl : f.length ≤ 60) {k : Int} {c : Bool} (hq : sQ f (a, b, w) ⟨k, c⟩) : 0 ≤ k ∧ k ≤ f.length ∧ (k < f.length → stdBin .add .i64 k 1 = k + 1 ∧ (∀ d, sM f ⟨k + 1, d⟩ < sM f ⟨k, c⟩) ∧ (c = true → sQ f (a, b, w) ⟨k + 1, true⟩) ∧ (c = false → ∀ d : Bool, (d = true ↔ ri (f.getD k.toNat []) 0 = a ∧ ri (f.getD k.toNat []) 1 = b ∧ ri (f.getD k.toNat []) 2 = w) → sQ f (a, b, w) ⟨k + 1, d⟩)) ∧ (¬ k < f.length → (c = true ↔ (a, b, w) ∈ f.map trE)) := by
  obtain ⟨h0, h1, h2⟩ := hq
  simp only at h0 h1 h2
  have nx : ∀ g : k < f.length, (a, b, w) ∈ (f.take (k + 1).toNat).map trE ↔ (a, b, w) ∈ (f.take k.toNat).map trE ∨ (ri (f.getD k.toNat []) 0 = a ∧ ri (f.getD k.toNat []) 1 = b ∧ ri (f.getD k.toNat []) 2 = w) := fun g => by
    rw [take_next f k h0 g, List.map_append, List.mem_append, List.map_cons, List.map_nil, List.mem_singleton, ← tr_is, eq_comm (a := (a, b, w))]
  refine ⟨h0, h1, fun g => ⟨by rw [b_add, wr _ (by omega) (by omega)], fun d => by simp only [sM]; omega, fun e => ⟨by simp only; omega, by simp only; omega, ?_⟩, fun e d hd => ⟨by simp only; omega, by simp only; omega, ?_⟩⟩, fun g => ?_⟩
  · simp only
    rw [nx g]
    exact ⟨fun _ => .inl (h2.1 e), fun _ => trivial⟩
  · simp only
    rw [nx g, hd]
    constructor
    · exact .inr
    · rintro (q | q)
      · rw [h2.2 q] at e
        cases e
      · exact q
  · have e : k = f.length := by omega
    rw [e, Int.toNat_natCast, List.take_length] at h2
    exact h2
noncomputable def sI (l : List E) (c0 c1 c2 r0 r1 : Int) (s d : List Int) (e f : Int) (y : XB2) : St := stOf Try.f11.ntmps [(0, .sl none (.recs (.int .i64 (.int .i64 (.int .i64 .nil))) l)), (4, .ptr 1 0), (7, .val (.int .i64 r0)), (8, .val (.int .i64 r1)), (9, .sl none (.ints .i64 s)), (10, .val (.int .i64 e)), (11, .sl none (.ints .i64 d)), (12, .val (.int .i64 f)), (13, .val (.bool y.b)), (14, .val (.int .i64 y.k))] [(1, .cells 36 [.val (.int .i64 c0), .val (.int .i64 c1), .val (.int .i64 c2)])] [Any, Any, Any]
set_option maxHeartbeats 4000000 in
set_option cbv.maxSteps 4000000 in
set_option maxRecDepth 100000 in
theorem x_law (a0 : List E) (a1 : E) (a2 : E) (_ : sized [.one (.sl none (.recs (.int .i64 (.int .i64 (.int .i64 .nil))) a0)), .agg (shCells Ar.std (.int .i64 (.int .i64 (.int .i64 .nil))) a1 0 3), .agg (shCells Ar.std (.int .i64 (.int .i64 .nil)) a2 0 2)]) : Does [(46, c_side TrE.Te.std), (47, c_below TrD.Td.std), (42, c_rmay TrQ.Tq.std), (48, c_rside TrE.Te.std), (19, c_rints Tx.std), (49, c_rnode EgR.Fs.std), (34, c_rlinked SpQ.Sq.std), (50, c_rbelow TrE.Te.std), (38, c_tawake Tx.std)] Try.f11 [.one (.sl none (.recs (.int .i64 (.int .i64 (.int .i64 .nil))) a0)), .agg (shCells Ar.std (.int .i64 (.int .i64 (.int .i64 .nil))) a1 0 3), .agg (shCells Ar.std (.int .i64 (.int .i64 .nil)) a2 0 2)] [] ⟨True, .sa (B true), [], [Any, Any, Any]⟩ := by
  intro b gv
  have f0 : ckF a0 (ri a2 1) (ri a2 1) = 0 → inR a0 = true ∧ nodB (ri a2 1) = true ∧ forB a0 = true := fun h => ⟨in_R (all_good (for_fo (ck_0 h).2.2).1) (by have := (for_fo (ck_0 h).2.2).2.2; omega), (ck_0 h).1, (ck_0 h).2.2⟩
  have f1 : mayR a0 (ri a2 1) (ri a2 1) = true ↔ ckF a0 (ri a2 1) (ri a2 1) = 0 := may_ck
  have f2 : ¬ ckF a0 (ri a2 1) (ri a2 1) = 0 → sdE a0 (ri a1 0, ri a1 1, ri a1 2) (ri a2 1) = 1 ∧ sdF a0 (ri a1 0, ri a1 1, ri a1 2) (ri a2 1) = [] ∧ rtE a0 (ri a2 1) (ri a2 0) = 1 := fun h => by
    have e : sdE a0 (ri a1 0, ri a1 1, ri a1 2) (ri a2 1) = 1 := if_neg h
    refine ⟨e, if_neg (by rw [e]; decide), rt_1.2 fun k => h ?_⟩
    obtain ⟨c1, _, c3⟩ := ck_0 k
    unfold ckF
    rw [if_pos ⟨c1, c1, c3⟩]
  have f3 : ckF a0 (ri a2 1) (ri a2 1) = 0 → (ri a1 0, ri a1 1, ri a1 2) ∉ a0.map trE → sdE a0 (ri a1 0, ri a1 1, ri a1 2) (ri a2 1) = 4 ∧ sdF a0 (ri a1 0, ri a1 1, ri a1 2) (ri a2 1) = [] := fun h k => by
    have e : sdE a0 (ri a1 0, ri a1 1, ri a1 2) (ri a2 1) = 4 := by
      unfold sdE
      rw [if_pos h, if_pos (ix_in.2 k)]
    exact ⟨e, if_neg (by rw [e]; decide)⟩
  have f4 : ckF a0 (ri a2 1) (ri a2 1) = 0 → (ri a1 0, ri a1 1, ri a1 2) ∈ a0.map trE → sdE a0 (ri a1 0, ri a1 1, ri a1 2) (ri a2 1) = 0 ∧ sdF a0 (ri a1 0, ri a1 1, ri a1 2) (ri a2 1) = lnR (butF a0 (ri a1 0, ri a1 1, ri a1 2)) (ri a2 1) := fun h k => by
    have e : sdE a0 (ri a1 0, ri a1 1, ri a1 2) (ri a2 1) = 0 := by
      unfold sdE
      rw [if_pos h, if_neg fun q => ix_in.1 q k]
    exact ⟨e, (sd_ln e).1⟩
  have f5 : ckF a0 (ri a2 1) (ri a2 1) = 0 → ¬ nodB (ri a2 0) = true → rtE a0 (ri a2 1) (ri a2 0) = 1 := fun h k => rt_1.2 fun q => k (ck_0 q).2.1
  have f6 : ckF a0 (ri a2 1) (ri a2 1) = 0 → nodB (ri a2 0) = true → ckF a0 (ri a2 0) (ri a2 1) = 0 ∧ (lkR a0 (ri a2 0) (ri a2 1) = false → rtE a0 (ri a2 1) (ri a2 0) = 9) ∧ (lkR a0 (ri a2 0) (ri a2 1) = true → rtE a0 (ri a2 1) (ri a2 0) = 0 ∧ rbB a0 (ri a2 0) (ri a2 1) = blF a0 (ri a2 0) (ri a2 1)) := fun h k => by
    obtain ⟨c1, _, c3⟩ := ck_0 h
    have c : ckF a0 (ri a2 0) (ri a2 1) = 0 := by
      unfold ckF
      rw [if_pos ⟨k, c1, c3⟩]
    have c' : ckF a0 (ri a2 1) (ri a2 0) = 0 := by
      unfold ckF
      rw [if_pos ⟨c1, k, c3⟩]
    have fo := (for_fo c3).2.1
    have sy : lkR a0 (ri a2 0) (ri a2 1) = true ↔ lkR a0 (ri a2 1) (ri a2 0) = true := by
      rw [lk_iff (fun y hy => fo.ok _ (List.mem_map_of_mem hy)), lk_iff (fun y hy => fo.ok _ (List.mem_map_of_mem hy))]
      exact ⟨fun q => ⟨q.2.1, q.1, cn_symm q.2.2⟩, fun q => ⟨q.2.1, q.1, cn_symm q.2.2⟩⟩
    refine ⟨c, fun q => ?_, fun q => ?_⟩
    · have n0 : ¬ rtE a0 (ri a2 1) (ri a2 0) = 0 := fun w => by
        rw [sy.2 ((rt_mk c').1 w)] at q
        cases q
      rcases @rt_or a0 (ri a2 1) (ri a2 0) with w | w | w
      · exact absurd w n0
      · exact absurd c' (rt_1.1 w)
      · exact w
    · have w := (rt_mk c').2 (sy.1 q)
      exact ⟨w, rb_bl w⟩
  have f7 : ¬ rtE a0 (ri a2 1) (ri a2 0) = 0 → blF a0 (ri a2 0) (ri a2 1) = [] := fun h => if_neg h
  have f8 : (blF a0 (ri a2 0) (ri a2 1)).length ≤ 65 := by
    unfold blF
    split
    · exact Nat.le_trans (List.length_filter_le _ _) (lk_len _ _)
    · exact Nat.zero_le _
  have f9 : (sdF a0 (ri a1 0, ri a1 1, ri a1 2) (ri a2 1)).length ≤ 65 := by
    unfold sdF
    split
    · exact lk_len _ _
    · exact Nat.zero_le _
  have g1 := fun p => same_I p
  have hfs := (FsOk.cons ok_side (FsOk.cons ok_below (FsOk.cons ok_rmay (FsOk.cons ok_rside (FsOk.cons ok_rints (FsOk.cons ok_rnode (FsOk.cons ok_rlinked (FsOk.cons ok_rbelow (FsOk.cons ok_tawake FsOk.nil rfl) rfl) rfl) rfl) rfl) rfl) rfl) rfl) rfl)
  generalize hF : TrX.Tx.std = F at hfs ⊢
  generalize hG0 : TrQ.Tq.std = G0 at hfs ⊢
  generalize hG1 : TrD.Td.std = G1 at hfs ⊢
  generalize hG2 : TrE.Te.std = G2 at hfs ⊢
  generalize hG3 : SpQ.Sq.std = G3 at hfs ⊢
  generalize hG4 : EgR.Fs.std = G4 at hfs ⊢
  generalize hA : Ar.std = A
  generalize hL : Lp _ _ _ = L
  obtain ⟨Z, zq⟩ := z_all
  refine cd_open (lp_mono hL) zq rfl ?_
  repeat' (first
    | (refine z_open zq ?_; try dsimp only)
    | refine cd_seq zq ?_ (lp_mono hL)
    | refine cd_blk zq ?_
    | refine cd_ret ?_
    | refine cd_skip ?_
    | refine cd_exit ?_
    | refine cd_loop ?_
    | refine cd_cond rfl ?_
    | refine cd_condT rfl ?_
    | refine cd_condF rfl ?_
    | (refine Cd.mk ?_; cbv)
    | (refine Ends1.mk ?_; cbv)
    | (refine Fin1.mk ?_; cbv)
    | exact trivial
    | refine And.intro ?_ ?_
    | refine orf fun _ => ?_
    | refine ort fun _ => ?_)
  all_goals first | (show L _ _ _; skip) | (clear hL hfs zq Z; subst hA hF hG0 hG1 hG2 hG3 hG4; simp only [TrD.Td.std, TrE.Te.std, Ar.std] at * <;> grind [stdCmp]; done)
  rename_i hx
  have hl : a0.length ≤ 60 := by
    clear hL hfs zq Z f0 f1 f2 f3 f4 f5 f6 f7 f8 f9 g1
    subst hA hF hG0 hG1 hG2 hG3 hG4
    simp only [Ar.std] at *
    grind [stdCmp]
  clear hx
  subst hL
  refine loop_z (cx_ok hfs) (sQ a0 (ri a1 0, ri a1 1, ri a1 2)) (sI a0 (A.ri a1 0) (A.ri a1 1) (A.ri a1 2) (A.ri a2 0) (A.ri a2 1) (G2.e_sd a0 (A.ri a1 0) (A.ri a1 1) (A.ri a1 2) (A.ri a2 1)) (G1.d_bl a0 (A.ri a2 0) (A.ri a2 1)) (G2.e_sde a0 (A.ri a1 0) (A.ri a1 1) (A.ri a1 2) (A.ri a2 1)) (G1.d_rt a0 (A.ri a2 1) (A.ri a2 0))) (sM a0) sR ⟨0, false⟩ ?_ ?_ ?_
  · exact ⟨Int.le_refl 0, Int.natCast_nonneg _, by simp⟩
  · cbv
    repeat' (first | exact trivial | exact rfl | refine And.intro ?_ ?_)
  rintro ⟨k, c⟩ hq O hO
  have hst := s_step hl hq
  subst hA
  generalize hA : Ar.std = A
  generalize hL : Lp _ _ _ = L
  refine cd_close zq ?_
  repeat' (first
    | (refine z_open zq ?_; try dsimp only)
    | refine cd_seq zq ?_ (lp_mono hL)
    | refine cd_blk zq ?_
    | refine cd_ret ?_
    | refine cd_skip ?_
    | refine cd_exit ?_
    | refine cd_loop ?_
    | refine cd_cond rfl ?_
    | refine cd_condT rfl ?_
    | refine cd_condF rfl ?_
    | (refine Cd.mk ?_; cbv)
    | (refine Ends1.mk ?_; cbv)
    | (refine Fin1.mk ?_; cbv)
    | exact trivial
    | refine And.intro ?_ ?_
    | refine orf fun _ => ?_
    | refine ort fun _ => ?_)
  all_goals (clear hL hfs zq Z hq; subst hA hF hG0 hG1 hG2 hG3 hG4 hO; simp only [TrX.Tx.std, TrQ.Tq.std, TrD.Td.std, TrE.Te.std, SpQ.Sq.std, EgR.Fs.std, Ar.std] at * <;> grind [stdCmp])
theorem walk (a0 : List E) (a1 : E) (a2 : E) (A0 : Option Addr) (n0 c0 : Nat) (v1 : Value) (v2 : Value) (w : World) (r0 : (SC.sl none (.recs (.int .i64 (.int .i64 (.int .i64 .nil))) a0)).is (G0 w) (.slice A0 n0 c0)) (_ : ∀ y ∈ a0, wfS (.int .i64 (.int .i64 (.int .i64 .nil))) y 0) (_ : a0.length ≤ 140737488355328) (r1 : (SA.agg (shCells Ar.std (.int .i64 (.int .i64 (.int .i64 .nil))) a1 0 3)).is (G0 w) v1) (_ : wfS (.int .i64 (.int .i64 (.int .i64 .nil))) a1 0) (r2 : (SA.agg (shCells Ar.std (.int .i64 (.int .i64 .nil)) a2 0 2)).is (G0 w) v2) (_ : wfS (.int .i64 (.int .i64 .nil)) a2 0) : Calls Try.prog 11 #[.slice A0 n0 c0, v1, v2] w (Law.Yes w) :=
  yes_of (FsOk.cons ok_side (FsOk.cons ok_below (FsOk.cons ok_rmay (FsOk.cons ok_rside (FsOk.cons ok_rints (FsOk.cons ok_rnode (FsOk.cons ok_rlinked (FsOk.cons ok_rbelow (FsOk.cons ok_tawake FsOk.nil rfl) rfl) rfl) rfl) rfl) rfl) rfl) rfl) rfl) Try.func11 rfl (vs := [.slice A0 n0 c0, v1, v2]) (by exact ⟨r0, r1, r2, trivial⟩) (lee_le rfl) fun hZ => x_law a0 a1 a2 hZ
theorem own : ownKnob Try.prog.godebug = none := by kernel_rfl
theorem laidOut : laidOutB Try.prog = true := by kernel_rfl
set_option maxRecDepth 100000 in
theorem lifted (os : Os) (started : os.Started) (H : Type) (enc : TypeId × Value → H) :
    ReturnsInHanded {} Try.checked os 11 .any (Rows.treeSidesSpec.pre6 enc Try.prog Try.f11 Rows.treeSidesRow.domain false) (Rows.treeSidesSpec.post enc Try.prog Try.f11 false true false false) := by
  refine returnsInHanded_of_change_sized (C := Try.checked) own started (by kernel_rfl) Try.func11
    (ChangeSpec.witness6 (enc := enc) (C := Try.checked) false ⟨#[], #[.slice none 0 0, .agg #[.int .i64 0, .int .i64 0, .int .i64 0], .agg #[.int .i64 0, .int .i64 0]], []⟩ 8 (by kernel_rfl) (by kernel_rfl) (by kernel_rfl) (by kernel_rfl)) ?_
  intro W base args ds gs before hval0 hW _ hz _
  have hval : ∀ (j : Nat) t v, Try.f11.params[j]? = some t → args[j]? = some v → Value.okWide Try.prog W .any base t v := hval0
  have hW' := hW
  obtain ⟨p, q, hA0, hV, rfl, _, _⟩ := hW
  have hA : DataW.TrodAll enc Try.prog W 0 (fun _ => true) true Try.f11.params.toList args.toList ds p := hA0
  rw [Try.params11] at hA hval
  obtain ⟨v0, v1, v2, d0, d1, d2, p0, p1, p2, rfl, rfl, rfl, h0, h1, h2⟩ := trodAll_three hA
  obtain ⟨rfl, rfl⟩ := trodVars_none hV
  obtain ⟨A0, n0, c0, a0, rfl, l0, r0, w0⟩ := sl_any (s := .int .i64 (.int .i64 (.int .i64 .nil))) Try.underlying22 (by kernel_rfl) (by kernel_rfl) (hval 0 22 v0 rfl rfl) h0
  have s0 : a0.length ≤ 140737488355328 := by rw [l0]; exact short_of Try.underlying22 (by decide +kernel) hz (j := 0) rfl rfl h0
  obtain ⟨a1, r1, w1⟩ := agg_any (s := .int .i64 (.int .i64 (.int .i64 .nil))) (by rw [Try.underlying36]) (by kernel_rfl) (by kernel_rfl) (hval 1 36 v1 rfl rfl) h1
  obtain ⟨a2, r2, w2⟩ := agg_any (s := .int .i64 (.int .i64 .nil)) (by rw [Try.underlying40]) (by kernel_rfl) (by kernel_rfl) (hval 2 40 v2 rfl rfl) h2
  refine (walk a0 a1 a2 A0 n0 c0 v1 v2 W r0 w0 s0 r1 w1 r2 w2).mono fun e W' ⟨he, hb⟩ => ?_
  subst he
  exact ⟨_, rfl, law_post laidOut (by kernel_rfl) (by kernel_rfl) Try.underlying4 rfl hW' rfl hb⟩
theorem proved : Rows.TreeSidesSaid :=
  OpenClaim.holds_of_wide 11 Try.f11 rfl rfl rfl rfl rfl rfl rfl ⟨rfl, rfl, rfl, rfl, rfl⟩ rfl rfl rfl rfl rfl (by kernel_rfl) Try.func11 (by kernel_rfl)
    (of_decide_eq_true (by kernel_rfl)) (by unfold Func.isWrapper; first | (rw [if_pos (by decide +kernel)]; kernel_rfl) | (rw [if_neg (by decide +kernel)]; exact ⟨rfl, rfl⟩))
    (fun os started H enc _ => lifted os started H enc)
end Go.Proofs.Ytamkgdiknlpooaa.TreeSides
