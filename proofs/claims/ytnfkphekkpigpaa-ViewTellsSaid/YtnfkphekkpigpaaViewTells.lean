/-
  ViewTells: for every input the call tells true, and nothing that was there turns. No condition.
-/
import Derived.Test.YtnfkphekkpigpaaRows
import Derived.Test.YtnfkphekkpigpaaLaw
import Derived.Test.YtnfkphekkpigpaaRyIn
import Derived.Test.YtnfkphekkpigpaaRyZ
import Derived.Test.YtnfkphekkpigpaaRyOp
import Derived.Test.YtnfkphekkpigpaaViQ
namespace Go.Proofs.Ytnfkphekkpigpaa.ViewTells
open Go Go.Proofs.Ytnfkphekkpigpaa.Ry Go.Proofs.Ytnfkphekkpigpaa.Law Go.Proofs.Ytnfkphekkpigpaa.ViQ Go.Proofs.Ytnfkphekkpigpaa.Cmp Go.Proofs.Ytnfkphekkpigpaa.ViR Go.Proofs.Ytnfkphekkpigpaa.ViC Go.Proofs.Ytnfkphekkpigpaa.ViS Go.Proofs.Ytnfkphekkpigpaa.ViL Go.Proofs.Ytnfkphekkpigpaa.ViT Go.Proofs.Ytnfkphekkpigpaa.ViQ
open Go.ChangeShapes Go.WideShapes Go.ChangeAt Go.Joins Go.RowKit
structure XG where
  i : Int
def gM (l : List E) (y : XG) : Nat := l.length - y.i.toNat
def gQ (l : List E) (y : XG) : Prop := 0 ≤ y.i ∧ y.i ≤ l.length
def gR (n : Nat) (st : St) : XG := ⟨slotI st n⟩
theorem g_step {l : List E} (hl : l.length ≤ 1000000) {i : Int} (hq : gQ l ⟨i⟩) (h : i < l.length) : stdBin .add .i64 i 1 = i + 1 ∧ gM l ⟨i + 1⟩ < gM l ⟨i⟩ ∧ gQ l ⟨i + 1⟩ := by
  obtain ⟨h0, h1⟩ := hq
  simp only at h0 h1
  exact ⟨by rw [b_add, wr _ (by omega) (by omega)], by simp only [gM]; omega, by simp only; omega, by simp only; omega⟩
structure XT where
  k : Int
  n : Int
def tQ (l : List E) (a : E) (y : XT) : Prop := 0 ≤ y.k ∧ y.k ≤ l.length ∧ y.n = (l.take y.k.toNat).countP (onE a)
def tM (l : List E) (y : XT) : Nat := l.length - y.k.toNat
def tR (st : St) : XT := ⟨slotI st 11, slotI st 10⟩
theorem t_zero (l : List E) (a : E) : tQ l a ⟨0, 0⟩ := ⟨Int.le_refl 0, Int.natCast_nonneg _, rfl⟩
theorem t_step {l : List E} {a : E} (hl : l.length ≤ 1000000) {k n : Int} (hq : tQ l a ⟨k, n⟩) (h : k < l.length) : stdBin .add .i64 k 1 = k + 1 ∧ stdBin .add .i64 n 1 = n + 1 ∧ (∀ m, tM l ⟨k + 1, m⟩ < tM l ⟨k, n⟩) ∧
    ((edA (ri (l.getD k.toNat []) 0) (ri (l.getD k.toNat []) 1) = edA (ri a 0) (ri a 1) ∧ edB (ri (l.getD k.toNat []) 0) (ri (l.getD k.toNat []) 1) = edB (ri a 0) (ri a 1) ∧ ri (l.getD k.toNat []) 2 = ri a 2 ∧ ri (l.getD k.toNat []) 3 = ri a 3) → tQ l a ⟨k + 1, n + 1⟩) ∧
    (¬ (edA (ri (l.getD k.toNat []) 0) (ri (l.getD k.toNat []) 1) = edA (ri a 0) (ri a 1) ∧ edB (ri (l.getD k.toNat []) 0) (ri (l.getD k.toNat []) 1) = edB (ri a 0) (ri a 1) ∧ ri (l.getD k.toNat []) 2 = ri a 2 ∧ ri (l.getD k.toNat []) 3 = ri a 3) → tQ l a ⟨k + 1, n⟩) := by
  obtain ⟨h0, h1, h2⟩ := hq
  simp only at h0 h1 h2
  have ht := take_next l k h0 h
  have hc := List.countP_le_length (p := onE a) (l := l.take k.toNat)
  rw [List.length_take] at hc
  refine ⟨by rw [b_add, wr _ (by omega) (by omega)], by rw [b_add, wr _ (by omega) (by omega)], fun m => by simp only [tM]; omega, fun g => ⟨by simp only; omega, by simp only; omega, ?_⟩, fun g => ⟨by simp only; omega, by simp only; omega, ?_⟩⟩
  · simp only
    rw [ht, List.countP_append, h2, List.countP_singleton, if_pos (by unfold onE; exact decide_eq_true g)]
    rfl
  · simp only
    rw [ht, List.countP_append, h2, List.countP_singleton, if_neg (by unfold onE; rw [decide_eq_true_eq]; exact g)]
    rfl
theorem t_end {m : List Int} {l : List E} {a : E} (hm : mayV m l = true) (ha : a ∈ inF l) {k n : Int} (hq : tQ l a ⟨k, n⟩) (h : ¬ k < l.length) : n = 2 ∧ ri a 0 < ri a 1 := by
  obtain ⟨h0, h1, h2⟩ := hq
  simp only at h0 h1 h2
  have e : k = l.length := by omega
  rw [e, Int.toNat_natCast, List.take_length] at h2
  obtain ⟨t1, t2⟩ := in_two hm ha
  rw [t1] at h2
  exact ⟨h2, t2⟩
theorem tl_num {a c l : Nat} (h : 2 * a + c ≤ l) (hl : l ≤ 1000000) : stdBin .add .i64 (stdBin .mul .i64 2 a) c = 2 * a + c := by
  rw [b_mul, wr _ (by omega) (by omega), b_add, wr _ (by omega) (by omega)]
noncomputable def toI (n : List Int) (l a : List E) (y : XG) : St := stOf Try.f6.ntmps [(1, .ptr 1 0), (3, .sl none (.recs (.int .i64 (.int .i64 (.int .i64 (.int .i64 (.bool .nil))))) a)), (9, .val (.int .i64 y.i))] [(1, .cells 25 [.sl none (.ints .i64 n), .sl none (.recs (.int .i64 (.int .i64 (.int .i64 (.int .i64 (.bool .nil))))) l)])] [Any]
noncomputable def tiI (n : List Int) (l a : List E) (i : Int) (y : XT) : St := stOf Try.f6.ntmps [(1, .ptr 1 0), (3, .sl none (.recs (.int .i64 (.int .i64 (.int .i64 (.int .i64 (.bool .nil))))) a)), (9, .val (.int .i64 i)), (10, .val (.int .i64 y.n)), (11, .val (.int .i64 y.k))] [(1, .cells 25 [.sl none (.ints .i64 n), .sl none (.recs (.int .i64 (.int .i64 (.int .i64 (.int .i64 (.bool .nil))))) l)])] [Any]
set_option maxHeartbeats 4000000 in
set_option cbv.maxSteps 4000000 in
set_option maxRecDepth 100000 in
theorem x_law (a0 : E) (_ : sized [.agg (shCells Ar.std (.ints .i64 (.recs (.int .i64 (.int .i64 (.int .i64 (.int .i64 (.bool .nil))))) .nil)) a0 0 2)]) : Does [(15, c_vlight Vm.std), (23, c_inner ViL.Vl.std), (24, c_outer ViL.Vl.std), (25, c_bound ViL.Vl.std), (19, c_vmay ViC.Vc.std), (27, c_redge Vm.std), (16, c_vawake Vm.std)] Try.f6 [.agg (shCells Ar.std (.ints .i64 (.recs (.int .i64 (.int .i64 (.int .i64 (.int .i64 (.bool .nil))))) .nil)) a0 0 2)] [] ⟨True, .sa (B true), [], [Any]⟩ := by
  intro b gv
  have f1 : mayV (rl a0 0) (rr a0 1) = true → inV (rl a0 0) (rr a0 1) = inF (rr a0 1) ∧ boV (rl a0 0) (rr a0 1) = boF (inF (rr a0 1)) ∧ ouV (rl a0 0) (rr a0 1) = ouF (rl a0 0) (rr a0 1) ∧ chV (rl a0 0) (rr a0 1) = 0 ∧ (inF (rr a0 1)).length ≤ (rr a0 1).length ∧ (boF (inF (rr a0 1))).length ≤ (inF (rr a0 1)).length ∧ 2 * (inF (rr a0 1)).length + (ouF (rl a0 0) (rr a0 1)).length ≤ (rr a0 1).length := fun h => ⟨if_pos h, if_pos h, if_pos h, if_pos h, in_len _, bo_len _, tells_len h⟩
  have f6 : liV (rl a0 0) (rr a0 1) = true → (rl a0 0).length ≤ 70 ∧ (rr a0 1).length ≤ 200 := fun h => of_decide_eq_true h
  have f7 := fun h k => tl_num (a := (inF (rr a0 1)).length) (c := (ouF (rl a0 0) (rr a0 1)).length) (l := (rr a0 1).length) h k
  have hfs := (FsOk.cons ok_vlight (FsOk.cons ok_inner (FsOk.cons ok_outer (FsOk.cons ok_bound (FsOk.cons ok_vmay (FsOk.cons ok_redge (FsOk.cons ok_vawake FsOk.nil rfl) rfl) rfl) rfl) rfl) rfl) rfl)
  generalize hF : ViQ.Vm.std = F at hfs ⊢
  generalize hG0 : ViC.Vc.std = G0 at hfs ⊢
  generalize hG1 : ViS.Vq.std = G1 at hfs ⊢
  generalize hG2 : ViL.Vl.std = G2 at hfs ⊢
  generalize hA : Ar.std = A
  generalize hL : Lp _ _ _ = L
  obtain ⟨Z, zq⟩ := z_all
  refine cd_open (lp_mono hL) zq rfl ?_
  repeat' (first
    | (refine z_open zq ?_; try dsimp only)
    | refine cd_seq zq ?_ (lp_mono hL)
    | refine cd_blk zq ?_
    | refine cd_ret ?_
    | refine cd_skip ?_
    | refine cd_exit ?_
    | refine cd_loop ?_
    | refine cd_cond rfl ?_
    | refine cd_condT rfl ?_
    | refine cd_condF rfl ?_
    | (refine Cd.mk ?_; cbv)
    | (refine Ends1.mk ?_; cbv)
    | (refine Fin1.mk ?_; cbv)
    | exact trivial
    | refine And.intro ?_ ?_
    | refine orf fun _ => ?_
    | refine ort fun _ => ?_)
  all_goals first | (show L _ _ _; skip) | (clear hL hfs zq Z; subst hA hF hG0 hG1 hG2; simp only [ViQ.Vm.std, ViC.Vc.std, ViL.Vl.std, Ar.std] at * <;> grind [stdCmp]; done)
  rename_i hx1 hx2
  have hv : liV (rl a0 0) (rr a0 1) = true ∧ mayV (rl a0 0) (rr a0 1) = true := by
    clear hL hfs zq Z
    subst hA hF hG0 hG1 hG2
    simp only [ViQ.Vm.std, ViC.Vc.std, ViL.Vl.std, Ar.std] at *
    grind [stdCmp]
  clear hx1 hx2
  obtain ⟨f1a, f1b, f1c, f1d, f1e, f1f, f1g⟩ := f1 hv.2
  obtain ⟨f6a, f6b⟩ := f6 hv.1
  have f8 := f7 f1g (by omega)
  clear f1 f6 f7
  have hin : inV (rl a0 0) (rr a0 1) = inF (rr a0 1) := f1a
  subst hL
  refine loop_z (cx_ok hfs) (gQ (inV (rl a0 0) (rr a0 1))) (toI (A.rl a0 0) (A.rr a0 1) (G2.l_in (A.rl a0 0) (A.rr a0 1))) (gM (inV (rl a0 0) (rr a0 1))) (gR 9) ⟨0⟩ ?_ ?_ ?_
  · exact ⟨Int.le_refl 0, Int.natCast_nonneg _⟩
  · cbv
    repeat' (first | exact trivial | exact rfl | refine And.intro ?_ ?_)
  rintro ⟨i⟩ hq O hO
  have hst := fun h => g_step (by rw [f1a]; omega) hq h
  have q0 := hq.1
  have q1 := hq.2
  dsimp only at q0 q1
  subst hA
  generalize hA : Ar.std = A
  generalize hL : Lp _ _ _ = L
  refine cd_close zq ?_
  repeat' (first
    | (refine z_open zq ?_; try dsimp only)
    | refine cd_seq zq ?_ (lp_mono hL)
    | refine cd_blk zq ?_
    | refine cd_ret ?_
    | refine cd_skip ?_
    | refine cd_exit ?_
    | refine cd_loop ?_
    | refine cd_cond rfl ?_
    | refine cd_condT rfl ?_
    | refine cd_condF rfl ?_
    | (refine Cd.mk ?_; cbv)
    | (refine Ends1.mk ?_; cbv)
    | (refine Fin1.mk ?_; cbv)
    | exact trivial
    | refine And.intro ?_ ?_
    | refine orf fun _ => ?_
    | refine ort fun _ => ?_)
  all_goals first | (show L _ _ _; skip) | (clear hL hfs zq Z hq; subst hA hF hG0 hG1 hG2 hO; simp only [ViQ.Vm.std, ViC.Vc.std, ViS.Vq.std, ViL.Vl.std, Ar.std, List.nil_append] at * <;> grind [stdCmp]; done)
  rename_i hx
  have hi : i < (inV (rl a0 0) (rr a0 1)).length := by
    clear hL hfs zq Z hO hst
    subst hA hF hG0 hG1 hG2
    simp only [ViL.Vl.std, Ar.std] at *
    grind [stdCmp]
  clear hx
  have hst := hst hi
  have hmem := pl_mem q0 hi
  rw [f1a] at hmem
  have hme2 : (inV (rl a0 0) (rr a0 1)).getD i.toNat [] = (inF (rr a0 1)).getD i.toNat [] := by rw [f1a]
  subst hL
  refine loop_z (cx_ok hfs) (tQ (rr a0 1) ((inF (rr a0 1)).getD i.toNat [])) (tiI (A.rl a0 0) (A.rr a0 1) (G2.l_in (A.rl a0 0) (A.rr a0 1)) i) (tM (rr a0 1)) tR ⟨0, 0⟩ ?_ ?_ ?_
  · exact t_zero _ _
  · cbv
    repeat' (first | exact trivial | exact rfl | refine And.intro ?_ ?_)
  rintro ⟨k, n⟩ hq2 O2 hO2
  have hs2 := fun h => t_step (by omega) hq2 h
  have he2 := fun h => t_end hv.2 hmem hq2 h
  have k0 := hq2.1
  have k1 := hq2.2.1
  dsimp only at k0 k1
  subst hA
  generalize hA : Ar.std = A
  generalize hL : Lp _ _ _ = L
  refine cd_close zq ?_
  repeat' (first
    | (refine z_open zq ?_; try dsimp only)
    | refine cd_seq zq ?_ (lp_mono hL)
    | refine cd_blk zq ?_
    | refine cd_ret ?_
    | refine cd_skip ?_
    | refine cd_exit ?_
    | refine cd_loop ?_
    | refine cd_cond rfl ?_
    | refine cd_condT rfl ?_
    | refine cd_condF rfl ?_
    | (refine Cd.mk ?_; cbv)
    | (refine Ends1.mk ?_; cbv)
    | (refine Fin1.mk ?_; cbv)
    | exact trivial
    | refine And.intro ?_ ?_
    | refine orf fun _ => ?_
    | refine ort fun _ => ?_)
  all_goals (clear hL hfs zq Z hq hq2 hmem; subst hA hF hG0 hG1 hG2 hO hO2; simp only [ViQ.Vm.std, ViL.Vl.std, Ar.std] at * <;> grind [stdCmp])
theorem walk (a0 : E) (v0 : Value) (w : World) (r0 : (SA.agg (shCells Ar.std (.ints .i64 (.recs (.int .i64 (.int .i64 (.int .i64 (.int .i64 (.bool .nil))))) .nil)) a0 0 2)).is (G0 w) v0) (_ : wfS (.ints .i64 (.recs (.int .i64 (.int .i64 (.int .i64 (.int .i64 (.bool .nil))))) .nil)) a0 0) : Calls Try.prog 6 #[v0] w (Law.Yes w) :=
  yes_of (FsOk.cons ok_vlight (FsOk.cons ok_inner (FsOk.cons ok_outer (FsOk.cons ok_bound (FsOk.cons ok_vmay (FsOk.cons ok_redge (FsOk.cons ok_vawake FsOk.nil rfl) rfl) rfl) rfl) rfl) rfl) rfl) Try.func6 rfl (vs := [v0]) (by exact ⟨r0, trivial⟩) (lee_le rfl) fun hZ => x_law a0 hZ
theorem own : ownKnob Try.prog.godebug = none := by kernel_rfl
theorem laidOut : laidOutB Try.prog = true := by kernel_rfl
set_option maxRecDepth 100000 in
theorem lifted (os : Os) (started : os.Started) (H : Type) (enc : TypeId × Value → H) :
    ReturnsInHanded {} Try.checked os 6 .any (Rows.viewTellsSpec.pre6 enc Try.prog Try.f6 Rows.viewTellsRow.domain false) (Rows.viewTellsSpec.post enc Try.prog Try.f6 false true false false) := by
  refine returnsInHanded_of_change_sized (C := Try.checked) own started (by kernel_rfl) Try.func6
    (ChangeSpec.witness6 (enc := enc) (C := Try.checked) false ⟨#[], #[.agg #[.slice none 0 0, .slice none 0 0]], []⟩ 8 (by kernel_rfl) (by kernel_rfl) (by kernel_rfl) (by kernel_rfl)) ?_
  intro W base args ds gs before hval0 hW _ hz _
  have hval : ∀ (j : Nat) t v, Try.f6.params[j]? = some t → args[j]? = some v → Value.okWide Try.prog W .any base t v := hval0
  have hW' := hW
  obtain ⟨p, q, hA0, hV, rfl, _, _⟩ := hW
  have hA : DataW.TrodAll enc Try.prog W 0 (fun _ => true) true Try.f6.params.toList args.toList ds p := hA0
  rw [Try.params6] at hA hval
  obtain ⟨v0, d0, rfl, rfl, h0⟩ := trodAll_one hA
  obtain ⟨rfl, rfl⟩ := trodVars_none hV
  obtain ⟨a0, r0, w0⟩ := agg_any (s := .ints .i64 (.recs (.int .i64 (.int .i64 (.int .i64 (.int .i64 (.bool .nil))))) .nil)) (by rw [Try.underlying25]) (by kernel_rfl) (by kernel_rfl) (hval 0 25 v0 rfl rfl) h0
  refine (walk a0 v0 W r0 w0).mono fun e W' ⟨he, hb⟩ => ?_
  subst he
  exact ⟨_, rfl, law_post laidOut (by kernel_rfl) (by kernel_rfl) Try.underlying4 rfl hW' rfl hb⟩
theorem proved : Rows.ViewTellsSaid :=
  OpenClaim.holds_of_wide 6 Try.f6 rfl rfl rfl rfl rfl rfl rfl ⟨rfl, rfl, rfl, rfl, rfl⟩ rfl rfl rfl rfl rfl (by kernel_rfl) Try.func6 (by kernel_rfl)
    (of_decide_eq_true (by kernel_rfl)) (by unfold Func.isWrapper; first | (rw [if_pos (by decide +kernel)]; kernel_rfl) | (rw [if_neg (by decide +kernel)]; exact ⟨rfl, rfl⟩))
    (fun os started H enc _ => lifted os started H enc)
end Go.Proofs.Ytnfkphekkpigpaa.ViewTells
