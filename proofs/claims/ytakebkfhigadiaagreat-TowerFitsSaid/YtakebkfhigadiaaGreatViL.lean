/-
  inner and outer links over the reckoner. No condition.
-/
import Derived.Test.YtakebkfhigadiaaGreatViC
namespace Go.Proofs.YtakebkfhigadiaaGreat.ViL
open Go Go.Proofs.YtakebkfhigadiaaGreat.Ry Go.Proofs.YtakebkfhigadiaaGreat.Cmp Go.Proofs.YtakebkfhigadiaaGreat.ViR Go.Proofs.YtakebkfhigadiaaGreat.ViC

theorem bsN_bd (f : Int → Bool) : ∀ (k : Nat) (i j : Int), i ≤ j → i ≤ bsN f k i j ∧ bsN f k i j ≤ j
  | 0, i, j, h => ⟨Int.le_refl i, h⟩
  | k + 1, i, j, h => by
    unfold bsN
    by_cases c : i < j
    · rw [if_pos c]
      have hb : i ≤ hf i j ∧ hf i j < j := by unfold hf; omega
      split
      · have := bsN_bd f k (hf i j + 1) j (by omega)
        omega
      · have := bsN_bd f k i (hf i j) (by omega)
        omega
    · rw [if_neg c]
      omega
theorem bk_bd (l : List E) (n p : Int) : 0 ≤ bkL l n p ∧ bkL l n p ≤ l.length := bsN_bd _ _ 0 _ (Int.natCast_nonneg _)
noncomputable def bfS (A : Ar) (l : List E) (n p w s : Int) (mk : Bool) (y : XJ) : St := stOf Tryz.f267.ntmps [(0, .sl none (.recs (.int .i64 (.int .i64 (.int .i64 (.int .i64 (.bool .nil))))) l)), (2, .val (.func (.func 209) ⟨[]⟩ ⟨[]⟩)), (4, .ptr 1 0), (8, .val (.int .i64 (A.lenE l))), (9, .val (.int .i64 y.i)), (10, .val (.int .i64 y.j))] [(1, .cells 176 [.val (.int .i64 n), .val (.int .i64 p), .val (.int .i64 w), .val (.int .i64 s), .val (.bool mk)])] [Any, Any, Any]
def bfR (st : St) : XJ := ⟨slotI st 9, slotI st 10⟩
structure KK where
  n : Int
  p : Int
  w : Int
  s : Int
  m : Bool
def knW (l : List E) (n p : Int) : KK := if bkB l n p = true then ⟨ri (l.getD (bkL l n p).toNat []) 0, ri (l.getD (bkL l n p).toNat []) 1, ri (l.getD (bkL l n p).toNat []) 2, ri (l.getD (bkL l n p).toNat []) 3, rb (l.getD (bkL l n p).toNat []) 4⟩ else ⟨0, 0, 0, 0, false⟩
def in1 (l : List E) (y : E) : List E := if ri y 0 < ri y 1 ∧ bkB l (ri y 1) (ri y 0) = true ∧ (knW l (ri y 1) (ri y 0)).w = ri y 2 ∧ (knW l (ri y 1) (ri y 0)).s = ri y 3 then [[D.int (ri y 0), D.int (ri y 1), D.int (ri y 2), D.int (ri y 3), D.bool (rb y 4 && (knW l (ri y 1) (ri y 0)).m)]] else []
def ou1 (n : List Int) (y : E) : List E := if n.contains (ri y 1) = true then [] else [[D.int (ri y 0), D.int (ri y 1), D.int (ri y 2), D.int (ri y 3), D.bool (rb y 4)]]
def edA (n p : Int) : Int := if p < n then p else n
def edB (n p : Int) : Int := if p < n then n else p
def bo1 (y : E) : List E := if rb y 4 = true then [[D.int (edA (ri y 0) (ri y 1)), D.int (edB (ri y 0) (ri y 1)), D.int (ri y 2)]] else []
def inF (l : List E) : List E := l.flatMap (in1 l)
def ouF (n : List Int) (l : List E) : List E := l.flatMap (ou1 n)
def boF (l : List E) : List E := l.flatMap bo1
def inV (n : List Int) (l : List E) : List E := if mayV n l = true then inF l else []
def ouV (n : List Int) (l : List E) : List E := if mayV n l = true then ouF n l else []
def boV (n : List Int) (l : List E) : List E := if mayV n l = true then boF (inF l) else []
structure XC where
  i : Int
  o : List E
def coQ (l : List E) (f : E → List E) (y : XC) : Prop := 0 ≤ y.i ∧ y.i ≤ l.length ∧ y.o = (l.take y.i.toNat).flatMap f
def coM (l : List E) (y : XC) : Nat := l.length - y.i.toNat
theorem co_zero (l : List E) (f : E → List E) : coQ l f ⟨0, []⟩ := ⟨Int.le_refl 0, Int.natCast_nonneg _, rfl⟩
theorem fm_len {f : E → List E} (hf : ∀ y, (f y).length ≤ 1) : ∀ l : List E, (l.flatMap f).length ≤ l.length
  | [] => Nat.le_refl _
  | y :: l => by
    have := fm_len hf l
    have := hf y
    rw [List.flatMap_cons, List.length_append, List.length_cons]
    omega
theorem co_len {l : List E} {f : E → List E} (hf : ∀ y, (f y).length ≤ 1) {i : Int} {o : List E} (hq : coQ l f ⟨i, o⟩) : o.length ≤ l.length := by
  have h := fm_len hf (l.take i.toNat)
  have h2 := hq.2.2
  simp only at h2
  rw [h2]
  rw [List.length_take] at h
  omega
theorem co_step {l : List E} {f : E → List E} (hl : l.length ≤ 1000000) {i : Int} {o : List E} (hq : coQ l f ⟨i, o⟩) (h : i < l.length) : stdBin .add .i64 i 1 = i + 1 ∧ (∀ p, coM l ⟨i + 1, p⟩ < coM l ⟨i, o⟩) ∧ (f (l.getD i.toNat []) = [] → coQ l f ⟨i + 1, o⟩) ∧ (∀ e, f (l.getD i.toNat []) = [e] → coQ l f ⟨i + 1, o ++ [e]⟩) := by
  obtain ⟨h0, h1, h2⟩ := hq
  simp only at h0 h1 h2
  have ht := take_next l i h0 h
  refine ⟨by rw [b_add, wr _ (by omega) (by omega)], fun p => by simp only [coM]; omega, fun g => ⟨by simp only; omega, by simp only; omega, ?_⟩, fun e g => ⟨by simp only; omega, by simp only; omega, ?_⟩⟩
  · simp only
    rw [ht, List.flatMap_append, ← h2]
    simp [List.flatMap_cons, List.getD_eq_getElem?_getD] at g ⊢
    exact g
  · simp only
    rw [ht, List.flatMap_append, ← h2]
    simp [List.flatMap_cons, List.getD_eq_getElem?_getD] at g ⊢
    exact g.symm
theorem co_end {l : List E} {f : E → List E} {i : Int} {o : List E} (hq : coQ l f ⟨i, o⟩) (h : ¬ i < l.length) : o = l.flatMap f := by
  obtain ⟨h0, h1, h2⟩ := hq
  simp only at h0 h1 h2
  have e : i = l.length := by omega
  rw [e, Int.toNat_natCast, List.take_length] at h2
  exact h2
theorem in1_len (l : List E) (y : E) : (in1 l y).length ≤ 1 := by unfold in1; split <;> simp
theorem ou1_len (n : List Int) (y : E) : (ou1 n y).length ≤ 1 := by unfold ou1; split <;> simp
theorem bo1_len (y : E) : (bo1 y).length ≤ 1 := by unfold bo1; split <;> simp
theorem in_len (l : List E) : (inF l).length ≤ l.length := fm_len (in1_len l) l
noncomputable def inS (A : Ar) (n : List Int) (l : List E) (y : XC) : St := stOf Tryz.f225.ntmps [(1, .ptr 1 0), (4, .sl (some (2, 176)) (.recs (.int .i64 (.int .i64 (.int .i64 (.int .i64 (.bool .nil))))) y.o)), (13, .sl none (.recs (.int .i64 (.int .i64 (.int .i64 (.int .i64 (.bool .nil))))) l)), (14, .val (.int .i64 (A.lenE l))), (15, .val (.int .i64 y.i))] [(1, .cells 36 [.sl none (.ints .i64 n), .sl none (.recs (.int .i64 (.int .i64 (.int .i64 (.int .i64 (.bool .nil))))) l)]), (2, .tok)] [Any]
noncomputable def ouS (A : Ar) (n : List Int) (l : List E) (y : XC) : St := stOf Tryz.f229.ntmps [(1, .ptr 1 0), (4, .sl (some (2, 176)) (.recs (.int .i64 (.int .i64 (.int .i64 (.int .i64 (.bool .nil))))) y.o)), (11, .sl none (.recs (.int .i64 (.int .i64 (.int .i64 (.int .i64 (.bool .nil))))) l)), (12, .val (.int .i64 (A.lenE l))), (13, .val (.int .i64 y.i))] [(1, .cells 36 [.sl none (.ints .i64 n), .sl none (.recs (.int .i64 (.int .i64 (.int .i64 (.int .i64 (.bool .nil))))) l)]), (2, .tok)] [Any]
noncomputable def boS (A : Ar) (l : List E) (y : XC) : St := stOf Tryz.f226.ntmps [(6, .sl (some (2, 325)) (.recs (.int .i64 (.int .i64 (.int .i64 .nil))) y.o)), (17, .sl none (.recs (.int .i64 (.int .i64 (.int .i64 (.int .i64 (.bool .nil))))) l)), (18, .val (.int .i64 (A.lenE l))), (19, .val (.int .i64 y.i))] [(2, .tok)] [Any]
def coR (i o : Nat) (st : St) : XC := ⟨slotI st i, ctR (match slotC st o with | .sl _ c => c | _ => .recs .nil [])⟩

structure Vl where
  l_bk : List E → Int → Int → Int
  l_bb : List E → Int → Int → Bool
  l_kn : List E → Int → Int → KK
  l_in : List Int → List E → List E
  l_ou : List Int → List E → List E
  l_bo : List Int → List E → List E
  l_a : Int → Int → Int
  l_b : Int → Int → Int
  l_ch : List Int → List E → Int
  l_ok : List E → Bool
  l_ov : List Int → List E → Bool
def Vl.std : Vl := ⟨bkL, bkB, knW, inV, ouV, boV, edA, edB, chV, fun l => decide (l.length ≤ 1000000), fun n l => decide (n.length ≤ 1000000 ∧ l.length ≤ 1000000)⟩

def c_bsf (F : Vl) : Con := fun xs h => match xs, h with
  | [.one (.sl none (.recs (.int .i64 (.int .i64 (.int .i64 (.int .i64 (.bool .nil))))) l)), .agg [.val (.int .i64 k_n), .val (.int .i64 k_p), .val (.int .i64 _), .val (.int .i64 _), .val (.bool _)], .one (.val (.func (.func 209) ⟨[]⟩ ⟨[]⟩))], [] => some ⟨F.l_ok l = true, .tup [I (F.l_bk l k_n k_p), B (F.l_bb l k_n k_p)], [], [Any, Any, Any]⟩
  | _, _ => none
set_option cbv.maxSteps 4000000 in
set_option maxHeartbeats 4000000 in
set_option maxRecDepth 100000 in
theorem x_bsf (l : List E) (k_n : Int) (k_p : Int) (k_w : Int) (k_s : Int) (k_m : Bool) (hC : Vl.std.l_ok l = true) : Does [(209, c_kcmp ViR.Vs.std)] Tryz.f267 [.one (.sl none (.recs (.int .i64 (.int .i64 (.int .i64 (.int .i64 (.bool .nil))))) l)), .agg [.val (.int .i64 k_n), .val (.int .i64 k_p), .val (.int .i64 k_w), .val (.int .i64 k_s), .val (.bool k_m)], .one (.val (.func (.func 209) ⟨[]⟩ ⟨[]⟩))] [] ⟨Vl.std.l_ok l = true, .tup [I (Vl.std.l_bk l k_n k_p), B (Vl.std.l_bb l k_n k_p)], [], [Any, Any, Any]⟩ := by
  intro b gv
  have hk : l.length ≤ 1000000 := of_decide_eq_true (show decide (l.length ≤ 1000000) = true from hC)
  have hfs := (FsOk.cons ok_kcmp FsOk.nil rfl)
  generalize hF : Vl.std = F at hC hfs ⊢
  generalize hG0 : ViR.Vs.std = G0 at hC hfs ⊢
  generalize hG1 : ViC.Vc.std = G1 at hC hfs ⊢
  generalize hA : Ar.std = A
  generalize hL : Lp _ _ _ = L
  obtain ⟨Z, zq⟩ := z_all
  refine cd_open (lp_mono hL) zq rfl ?_
  repeat' (first
    | (refine z_open zq ?_; try dsimp only)
    | refine cd_seq zq ?_ (lp_mono hL)
    | refine cd_blk zq ?_
    | refine cd_ret ?_
    | refine cd_skip ?_
    | refine cd_exit ?_
    | refine cd_loop ?_
    | refine cd_cond rfl ?_
    | refine cd_condT rfl ?_
    | refine cd_condF rfl ?_
    | (refine Cd.mk ?_; cbv)
    | (refine Ends1.mk ?_; cbv)
    | (refine Fin1.mk ?_; cbv)
    | exact trivial
    | refine And.intro ?_ ?_
    | refine orf fun _ => ?_
    | refine ort fun _ => ?_)
  subst hL
  refine loop_z (cx_ok hfs) (bsQ (ltK l k_n k_p) l.length) (bfS A l k_n k_p k_w k_s k_m) (bsM) bfR ⟨0, A.lenE l⟩ ?_ ?_ ?_
  · (subst hA; exact bs_zero _ _)
  · cbv
    repeat' (first | exact trivial | exact rfl | refine And.intro ?_ ?_)
  rintro ⟨i, j⟩ hq O hO
  have hst := fun h => bs_step hk hq h
  have hen := fun h => bs_end hq h
  have q0 := hq.1
  have q1 := hq.2.1
  have q2 := hq.2.2.1
  dsimp only at q0 q1 q2
  subst hA
  generalize hA : Ar.std = A
  generalize hL : Lp _ _ _ = L
  refine cd_close zq ?_
  repeat' (first
    | (refine z_open zq ?_; try dsimp only)
    | refine cd_seq zq ?_ (lp_mono hL)
    | refine cd_blk zq ?_
    | refine cd_ret ?_
    | refine cd_skip ?_
    | refine cd_exit ?_
    | refine cd_loop ?_
    | refine cd_cond rfl ?_
    | refine cd_condT rfl ?_
    | refine cd_condF rfl ?_
    | (refine Cd.mk ?_; cbv)
    | (refine Ends1.mk ?_; cbv)
    | (refine Fin1.mk ?_; cbv)
    | exact trivial
    | refine And.intro ?_ ?_
    | refine orf fun _ => ?_
    | refine ort fun _ => ?_)
  all_goals (clear hL hfs zq Z hq; subst hA hF hG0 hG1 hO; simp only [Vl.std, ViR.Vs.std, Ar.std] at *)
  all_goals first
    | (have h1 := hst (of_decide_eq_true (show decide (i < j) = true from ‹stdCmp .lss i j = true›)); clear hst hen; grind [stdCmp, bsM, ltK, bkL, bkB])
    | (have h1 : i = bkL l k_n k_p ∧ 0 ≤ i ∧ i ≤ l.length := hen (of_decide_eq_false (show decide (i < j) = false from ‹stdCmp .lss i j = false›)); clear hst hen; first | assumption | (obtain ⟨h1, h2, h3⟩ := h1; subst h1; unfold bkB; grind [stdCmp]) | (grind [stdCmp, bkB]))
theorem ok_bsf : ConOk Tryz.prog 267 (c_bsf Vl.std) := by
  refine con_of (FsOk.cons ok_kcmp FsOk.nil rfl) Tryz.func267 rfl rfl fun xs h p hp => ?_
  unfold c_bsf at hp
  split at hp
  · cases hp
    exact ⟨lee_le rfl, fun hC _ => x_bsf _ _ _ _ _ _ hC⟩
  · cases hp

def c_known (F : Vl) : Con := fun xs h => match xs, h with
  | [.agg [.sl none (.ints .i64 _), .sl none (.recs (.int .i64 (.int .i64 (.int .i64 (.int .i64 (.bool .nil))))) v_l)], .one (.val (.int .i64 t)), .one (.val (.int .i64 p))], [] => some ⟨F.l_ok v_l = true, .tup [.agg [.val (.int .i64 (F.l_kn v_l t p).n), .val (.int .i64 (F.l_kn v_l t p).p), .val (.int .i64 (F.l_kn v_l t p).w), .val (.int .i64 (F.l_kn v_l t p).s), .val (.bool (F.l_kn v_l t p).m)], B (F.l_bb v_l t p)], [], [Any, Any, Any]⟩
  | _, _ => none
set_option cbv.maxSteps 4000000 in
set_option maxHeartbeats 4000000 in
set_option maxRecDepth 100000 in
theorem x_known (v_n : List Int) (v_l : List E) (t : Int) (p : Int) (hC : Vl.std.l_ok v_l = true) : Does [(267, c_bsf Vl.std)] Tryz.f241 [.agg [.sl none (.ints .i64 v_n), .sl none (.recs (.int .i64 (.int .i64 (.int .i64 (.int .i64 (.bool .nil))))) v_l)], .one (.val (.int .i64 t)), .one (.val (.int .i64 p))] [] ⟨Vl.std.l_ok v_l = true, .tup [.agg [.val (.int .i64 (Vl.std.l_kn v_l t p).n), .val (.int .i64 (Vl.std.l_kn v_l t p).p), .val (.int .i64 (Vl.std.l_kn v_l t p).w), .val (.int .i64 (Vl.std.l_kn v_l t p).s), .val (.bool (Vl.std.l_kn v_l t p).m)], B (Vl.std.l_bb v_l t p)], [], [Any, Any, Any]⟩ := by
  intro b gv
  have h1 := bk_bd v_l t p
  have hfs := (FsOk.cons ok_bsf FsOk.nil rfl)
  generalize hF : Vl.std = F at hC hfs ⊢
  generalize hG0 : ViR.Vs.std = G0 at hC hfs ⊢
  generalize hG1 : ViC.Vc.std = G1 at hC hfs ⊢
  generalize hA : Ar.std = A
  generalize hL : Lp _ _ _ = L
  obtain ⟨Z, zq⟩ := z_all
  refine cd_open (lp_mono hL) zq rfl ?_
  repeat' (first
    | (refine z_open zq ?_; try dsimp only)
    | refine cd_seq zq ?_ (lp_mono hL)
    | refine cd_blk zq ?_
    | refine cd_ret ?_
    | refine cd_skip ?_
    | refine cd_exit ?_
    | refine cd_loop ?_
    | refine cd_cond rfl ?_
    | refine cd_condT rfl ?_
    | refine cd_condF rfl ?_
    | (refine Cd.mk ?_; cbv)
    | (refine Ends1.mk ?_; cbv)
    | (refine Fin1.mk ?_; cbv)
    | exact trivial
    | refine And.intro ?_ ?_
    | refine orf fun _ => ?_
    | refine ort fun _ => ?_)
  all_goals
    clear hL zq Z
    try clear hfs
    subst hA hF hG0 hG1
    simp only [Vl.std, Ar.std] at *
    try (grind [stdCmp, knW, bkB])
theorem ok_known : ConOk Tryz.prog 241 (c_known Vl.std) := by
  refine con_of (FsOk.cons ok_bsf FsOk.nil rfl) Tryz.func241 rfl rfl fun xs h p hp => ?_
  unfold c_known at hp
  split at hp
  · cases hp
    exact ⟨lee_le rfl, fun hC _ => x_known _ _ _ _ hC⟩
  · cases hp

def c_inner (F : Vl) : Con := fun xs h => match xs, h with
  | [.agg [.sl none (.ints .i64 v_n), .sl none (.recs (.int .i64 (.int .i64 (.int .i64 (.int .i64 (.bool .nil))))) v_l)]], [] => some ⟨F.l_ov v_n v_l = true, .tup [.one (.sl none (.recs (.int .i64 (.int .i64 (.int .i64 (.int .i64 (.bool .nil))))) (F.l_in v_n v_l))), I (F.l_ch v_n v_l)], [], [Any]⟩
  | _, _ => none
set_option cbv.maxSteps 4000000 in
set_option maxHeartbeats 4000000 in
set_option maxRecDepth 100000 in
theorem x_inner (v_n : List Int) (v_l : List E) (hC : Vl.std.l_ov v_n v_l = true) : Does [(182, c_vcheck ViC.Vc.std), (241, c_known Vl.std)] Tryz.f225 [.agg [.sl none (.ints .i64 v_n), .sl none (.recs (.int .i64 (.int .i64 (.int .i64 (.int .i64 (.bool .nil))))) v_l)]] [] ⟨Vl.std.l_ov v_n v_l = true, .tup [.one (.sl none (.recs (.int .i64 (.int .i64 (.int .i64 (.int .i64 (.bool .nil))))) (Vl.std.l_in v_n v_l))), I (Vl.std.l_ch v_n v_l)], [], [Any]⟩ := by
  intro b gv
  have hk : v_n.length ≤ 1000000 ∧ v_l.length ≤ 1000000 := of_decide_eq_true (show decide (v_n.length ≤ 1000000 ∧ v_l.length ≤ 1000000) = true from hC)
  have hfs := (FsOk.cons ok_vcheck (FsOk.cons ok_known FsOk.nil rfl) rfl)
  generalize hF : Vl.std = F at hC hfs ⊢
  generalize hG0 : ViR.Vs.std = G0 at hC hfs ⊢
  generalize hG1 : ViC.Vc.std = G1 at hC hfs ⊢
  generalize hA : Ar.std = A
  generalize hL : Lp _ _ _ = L
  obtain ⟨Z, zq⟩ := z_all
  refine cd_open (lp_mono hL) zq rfl ?_
  repeat' (first
    | (refine z_open zq ?_; try dsimp only)
    | refine cd_seq zq ?_ (lp_mono hL)
    | refine cd_blk zq ?_
    | refine cd_ret ?_
    | refine cd_skip ?_
    | refine cd_exit ?_
    | refine cd_loop ?_
    | refine cd_cond rfl ?_
    | refine cd_condT rfl ?_
    | refine cd_condF rfl ?_
    | (refine Cd.mk ?_; cbv)
    | (refine Ends1.mk ?_; cbv)
    | (refine Fin1.mk ?_; cbv)
    | exact trivial
    | refine And.intro ?_ ?_
    | refine orf fun _ => ?_
    | refine ort fun _ => ?_)
  all_goals first | (show L _ _ _; skip) | (clear hL hfs zq Z; subst hA hF hG0 hG1; simp only [Vl.std, ViC.Vc.std, Ar.std] at * <;> grind [stdCmp, inV, ouV, chV]; done)
  rename_i hx
  have hv : mayV v_n v_l = true := by
    clear hL hfs zq Z
    subst hA hF hG0 hG1
    simp only [ViC.Vc.std, Ar.std] at hx
    grind [stdCmp, chV]
  clear hx
  subst hL
  refine loop_z (cx_ok hfs) (coQ v_l (in1 v_l)) (inS A v_n v_l) (coM v_l) (coR 15 4) ⟨0, []⟩ ?_ ?_ ?_
  · exact co_zero _ _
  · cbv
    repeat' (first | exact trivial | exact rfl | refine And.intro ?_ ?_)
  rintro ⟨i, o⟩ hq O hO
  have hst := fun h => co_step hk.2 hq h
  have hlen := co_len (in1_len v_l) hq
  have hen := fun h => co_end hq h
  have q0 := hq.1
  have q1 := hq.2.1
  dsimp only at q0 q1 hst
  have hin : in1 v_l (v_l.getD i.toNat []) = if ri (v_l.getD i.toNat []) 0 < ri (v_l.getD i.toNat []) 1 ∧ bkB v_l (ri (v_l.getD i.toNat []) 1) (ri (v_l.getD i.toNat []) 0) = true ∧ (knW v_l (ri (v_l.getD i.toNat []) 1) (ri (v_l.getD i.toNat []) 0)).w = ri (v_l.getD i.toNat []) 2 ∧ (knW v_l (ri (v_l.getD i.toNat []) 1) (ri (v_l.getD i.toNat []) 0)).s = ri (v_l.getD i.toNat []) 3 then [[D.int (ri (v_l.getD i.toNat []) 0), D.int (ri (v_l.getD i.toNat []) 1), D.int (ri (v_l.getD i.toNat []) 2), D.int (ri (v_l.getD i.toNat []) 3), D.bool (rb (v_l.getD i.toNat []) 4 && (knW v_l (ri (v_l.getD i.toNat []) 1) (ri (v_l.getD i.toNat []) 0)).m)]] else [] := rfl
  subst hA
  generalize hA : Ar.std = A
  generalize hL : Lp _ _ _ = L
  refine cd_close zq ?_
  repeat' (first
    | (refine z_open zq ?_; try dsimp only)
    | refine cd_seq zq ?_ (lp_mono hL)
    | refine cd_blk zq ?_
    | refine cd_ret ?_
    | refine cd_skip ?_
    | refine cd_exit ?_
    | refine cd_loop ?_
    | refine cd_cond rfl ?_
    | refine cd_condT rfl ?_
    | refine cd_condF rfl ?_
    | (refine Cd.mk ?_; cbv)
    | (refine Ends1.mk ?_; cbv)
    | (refine Fin1.mk ?_; cbv)
    | exact trivial
    | refine And.intro ?_ ?_
    | refine orf fun _ => ?_
    | refine ort fun _ => ?_)
  all_goals (clear hL hfs zq Z hq; subst hA hF hG0 hG1 hO; simp only [Vl.std, Ar.std] at * <;> grind [stdCmp, inV, ouV, inF, ouF, chV])
theorem ok_inner : ConOk Tryz.prog 225 (c_inner Vl.std) := by
  refine con_of (FsOk.cons ok_vcheck (FsOk.cons ok_known FsOk.nil rfl) rfl) Tryz.func225 rfl rfl fun xs h p hp => ?_
  unfold c_inner at hp
  split at hp
  · cases hp
    exact ⟨lee_le rfl, fun hC _ => x_inner _ _ hC⟩
  · cases hp

def c_outer (F : Vl) : Con := fun xs h => match xs, h with
  | [.agg [.sl none (.ints .i64 v_n), .sl none (.recs (.int .i64 (.int .i64 (.int .i64 (.int .i64 (.bool .nil))))) v_l)]], [] => some ⟨F.l_ov v_n v_l = true, .tup [.one (.sl none (.recs (.int .i64 (.int .i64 (.int .i64 (.int .i64 (.bool .nil))))) (F.l_ou v_n v_l))), I (F.l_ch v_n v_l)], [], [Any]⟩
  | _, _ => none
set_option cbv.maxSteps 4000000 in
set_option maxHeartbeats 4000000 in
set_option maxRecDepth 100000 in
theorem x_outer (v_n : List Int) (v_l : List E) (hC : Vl.std.l_ov v_n v_l = true) : Does [(182, c_vcheck ViC.Vc.std), (208, c_has ViR.Vs.std)] Tryz.f229 [.agg [.sl none (.ints .i64 v_n), .sl none (.recs (.int .i64 (.int .i64 (.int .i64 (.int .i64 (.bool .nil))))) v_l)]] [] ⟨Vl.std.l_ov v_n v_l = true, .tup [.one (.sl none (.recs (.int .i64 (.int .i64 (.int .i64 (.int .i64 (.bool .nil))))) (Vl.std.l_ou v_n v_l))), I (Vl.std.l_ch v_n v_l)], [], [Any]⟩ := by
  intro b gv
  have hk : v_n.length ≤ 1000000 ∧ v_l.length ≤ 1000000 := of_decide_eq_true (show decide (v_n.length ≤ 1000000 ∧ v_l.length ≤ 1000000) = true from hC)
  have hfs := (FsOk.cons ok_vcheck (FsOk.cons ok_has FsOk.nil rfl) rfl)
  generalize hF : Vl.std = F at hC hfs ⊢
  generalize hG0 : ViR.Vs.std = G0 at hC hfs ⊢
  generalize hG1 : ViC.Vc.std = G1 at hC hfs ⊢
  generalize hA : Ar.std = A
  generalize hL : Lp _ _ _ = L
  obtain ⟨Z, zq⟩ := z_all
  refine cd_open (lp_mono hL) zq rfl ?_
  repeat' (first
    | (refine z_open zq ?_; try dsimp only)
    | refine cd_seq zq ?_ (lp_mono hL)
    | refine cd_blk zq ?_
    | refine cd_ret ?_
    | refine cd_skip ?_
    | refine cd_exit ?_
    | refine cd_loop ?_
    | refine cd_cond rfl ?_
    | refine cd_condT rfl ?_
    | refine cd_condF rfl ?_
    | (refine Cd.mk ?_; cbv)
    | (refine Ends1.mk ?_; cbv)
    | (refine Fin1.mk ?_; cbv)
    | exact trivial
    | refine And.intro ?_ ?_
    | refine orf fun _ => ?_
    | refine ort fun _ => ?_)
  all_goals first | (show L _ _ _; skip) | (clear hL hfs zq Z; subst hA hF hG0 hG1; simp only [Vl.std, ViC.Vc.std, Ar.std] at * <;> grind [stdCmp, inV, ouV, chV]; done)
  rename_i hx
  have hv : mayV v_n v_l = true := by
    clear hL hfs zq Z
    subst hA hF hG0 hG1
    simp only [ViC.Vc.std, Ar.std] at hx
    grind [stdCmp, chV]
  clear hx
  have hbs : ∀ t, bsB v_n t = v_n.contains t := fun t => bs_mem (by unfold mayV at hv; rw [Bool.and_eq_true] at hv; exact hv.1) t
  subst hL
  refine loop_z (cx_ok hfs) (coQ v_l (ou1 v_n)) (ouS A v_n v_l) (coM v_l) (coR 13 4) ⟨0, []⟩ ?_ ?_ ?_
  · exact co_zero _ _
  · cbv
    repeat' (first | exact trivial | exact rfl | refine And.intro ?_ ?_)
  rintro ⟨i, o⟩ hq O hO
  have hst := fun h => co_step hk.2 hq h
  have hlen := co_len (ou1_len v_n) hq
  have hen := fun h => co_end hq h
  have q0 := hq.1
  have q1 := hq.2.1
  dsimp only at q0 q1 hst
  have hin : ou1 v_n (v_l.getD i.toNat []) = if v_n.contains (ri (v_l.getD i.toNat []) 1) = true then [] else [[D.int (ri (v_l.getD i.toNat []) 0), D.int (ri (v_l.getD i.toNat []) 1), D.int (ri (v_l.getD i.toNat []) 2), D.int (ri (v_l.getD i.toNat []) 3), D.bool (rb (v_l.getD i.toNat []) 4)]] := rfl
  subst hA
  generalize hA : Ar.std = A
  generalize hL : Lp _ _ _ = L
  refine cd_close zq ?_
  repeat' (first
    | (refine z_open zq ?_; try dsimp only)
    | refine cd_seq zq ?_ (lp_mono hL)
    | refine cd_blk zq ?_
    | refine cd_ret ?_
    | refine cd_skip ?_
    | refine cd_exit ?_
    | refine cd_loop ?_
    | refine cd_cond rfl ?_
    | refine cd_condT rfl ?_
    | refine cd_condF rfl ?_
    | (refine Cd.mk ?_; cbv)
    | (refine Ends1.mk ?_; cbv)
    | (refine Fin1.mk ?_; cbv)
    | exact trivial
    | refine And.intro ?_ ?_
    | refine orf fun _ => ?_
    | refine ort fun _ => ?_)
  all_goals (clear hL hfs zq Z hq; subst hA hF hG0 hG1 hO; simp only [Vl.std, ViR.Vs.std, Ar.std] at * <;> grind [stdCmp, inV, ouV, inF, ouF, chV])
theorem ok_outer : ConOk Tryz.prog 229 (c_outer Vl.std) := by
  refine con_of (FsOk.cons ok_vcheck (FsOk.cons ok_has FsOk.nil rfl) rfl) Tryz.func229 rfl rfl fun xs h p hp => ?_
  unfold c_outer at hp
  split at hp
  · cases hp
    exact ⟨lee_le rfl, fun hC _ => x_outer _ _ hC⟩
  · cases hp

def c_vedge (F : Vl) : Con := fun xs h => match xs, h with
  | [.agg [.val (.int .i64 k_n), .val (.int .i64 k_p), .val (.int .i64 k_w), .val (.int .i64 _), .val (.bool _)]], [] => some ⟨True, .sa (.agg [.val (.int .i64 (F.l_a k_n k_p)), .val (.int .i64 (F.l_b k_n k_p)), .val (.int .i64 k_w)]), [], [Any]⟩
  | _, _ => none
set_option cbv.maxSteps 4000000 in
set_option maxHeartbeats 4000000 in
set_option maxRecDepth 100000 in
theorem x_vedge (k_n : Int) (k_p : Int) (k_w : Int) (k_s : Int) (k_m : Bool) : Does [] Tryz.f242 [.agg [.val (.int .i64 k_n), .val (.int .i64 k_p), .val (.int .i64 k_w), .val (.int .i64 k_s), .val (.bool k_m)]] [] ⟨True, .sa (.agg [.val (.int .i64 (Vl.std.l_a k_n k_p)), .val (.int .i64 (Vl.std.l_b k_n k_p)), .val (.int .i64 k_w)]), [], [Any]⟩ := by
  intro b gv
  have hfs := FsOk.nil
  generalize hF : Vl.std = F at hfs ⊢
  generalize hG0 : ViR.Vs.std = G0 at hfs ⊢
  generalize hG1 : ViC.Vc.std = G1 at hfs ⊢
  generalize hA : Ar.std = A
  generalize hL : Lp _ _ _ = L
  obtain ⟨Z, zq⟩ := z_all
  refine cd_open (lp_mono hL) zq rfl ?_
  repeat' (first
    | (refine z_open zq ?_; try dsimp only)
    | refine cd_seq zq ?_ (lp_mono hL)
    | refine cd_blk zq ?_
    | refine cd_ret ?_
    | refine cd_skip ?_
    | refine cd_exit ?_
    | refine cd_loop ?_
    | refine cd_cond rfl ?_
    | refine cd_condT rfl ?_
    | refine cd_condF rfl ?_
    | (refine Cd.mk ?_; cbv)
    | (refine Ends1.mk ?_; cbv)
    | (refine Fin1.mk ?_; cbv)
    | exact trivial
    | refine And.intro ?_ ?_
    | refine orf fun _ => ?_
    | refine ort fun _ => ?_)
  all_goals
    clear hL zq Z
    try clear hfs
    subst hA hF hG0 hG1
    simp only [Vl.std, Ar.std] at *
    try (grind [stdCmp, edA, edB])
theorem ok_vedge : ConOk Tryz.prog 242 (c_vedge Vl.std) := by
  refine con_of FsOk.nil Tryz.func242 rfl rfl fun xs h p hp => ?_
  unfold c_vedge at hp
  split at hp
  · cases hp
    exact ⟨lee_le rfl, fun _ _ => x_vedge _ _ _ _ _⟩
  · cases hp

def c_bound (F : Vl) : Con := fun xs h => match xs, h with
  | [.agg [.sl none (.ints .i64 v_n), .sl none (.recs (.int .i64 (.int .i64 (.int .i64 (.int .i64 (.bool .nil))))) v_l)]], [] => some ⟨F.l_ov v_n v_l = true, .tup [.one (.sl none (.recs (.int .i64 (.int .i64 (.int .i64 .nil))) (F.l_bo v_n v_l))), I (F.l_ch v_n v_l)], [], [Any]⟩
  | _, _ => none
set_option cbv.maxSteps 4000000 in
set_option maxHeartbeats 4000000 in
set_option maxRecDepth 100000 in
theorem x_bound (v_n : List Int) (v_l : List E) (hC : Vl.std.l_ov v_n v_l = true) : Does [(225, c_inner Vl.std), (242, c_vedge Vl.std)] Tryz.f226 [.agg [.sl none (.ints .i64 v_n), .sl none (.recs (.int .i64 (.int .i64 (.int .i64 (.int .i64 (.bool .nil))))) v_l)]] [] ⟨Vl.std.l_ov v_n v_l = true, .tup [.one (.sl none (.recs (.int .i64 (.int .i64 (.int .i64 .nil))) (Vl.std.l_bo v_n v_l))), I (Vl.std.l_ch v_n v_l)], [], [Any]⟩ := by
  intro b gv
  have hk : v_n.length ≤ 1000000 ∧ v_l.length ≤ 1000000 := of_decide_eq_true (show decide (v_n.length ≤ 1000000 ∧ v_l.length ≤ 1000000) = true from hC)
  have hil := in_len v_l
  have hfs := (FsOk.cons ok_inner (FsOk.cons ok_vedge FsOk.nil rfl) rfl)
  generalize hF : Vl.std = F at hC hfs ⊢
  generalize hG0 : ViR.Vs.std = G0 at hC hfs ⊢
  generalize hG1 : ViC.Vc.std = G1 at hC hfs ⊢
  generalize hA : Ar.std = A
  generalize hL : Lp _ _ _ = L
  obtain ⟨Z, zq⟩ := z_all
  refine cd_open (lp_mono hL) zq rfl ?_
  repeat' (first
    | (refine z_open zq ?_; try dsimp only)
    | refine cd_seq zq ?_ (lp_mono hL)
    | refine cd_blk zq ?_
    | refine cd_ret ?_
    | refine cd_skip ?_
    | refine cd_exit ?_
    | refine cd_loop ?_
    | refine cd_cond rfl ?_
    | refine cd_condT rfl ?_
    | refine cd_condF rfl ?_
    | (refine Cd.mk ?_; cbv)
    | (refine Ends1.mk ?_; cbv)
    | (refine Fin1.mk ?_; cbv)
    | exact trivial
    | refine And.intro ?_ ?_
    | refine orf fun _ => ?_
    | refine ort fun _ => ?_)
  all_goals first | (show L _ _ _; skip) | (clear hL hfs zq Z; subst hA hF hG0 hG1; simp only [Vl.std, Ar.std] at * <;> grind [stdCmp, inV, boV, chV]; done)
  rename_i hx
  have hv : mayV v_n v_l = true := by
    clear hL hfs zq Z
    subst hA hF hG0 hG1
    simp only [Vl.std, Ar.std] at hx
    grind [stdCmp, chV]
  have hiv : inV v_n v_l = inF v_l := if_pos hv
  clear hx
  subst hL
  refine loop_z (cx_ok hfs) (coQ (inF v_l) bo1) (boS A (F.l_in v_n v_l)) (coM (inF v_l)) (coR 19 6) ⟨0, []⟩ ?_ ?_ ?_
  · exact co_zero _ _
  · cbv
    repeat' (first | exact trivial | exact rfl | refine And.intro ?_ ?_)
  rintro ⟨i, o⟩ hq O hO
  have hst := fun h => co_step (by omega) hq h
  have hlen := co_len bo1_len hq
  have hen := fun h => co_end hq h
  have q0 := hq.1
  have q1 := hq.2.1
  dsimp only at q0 q1 hst
  have hin : bo1 ((inF v_l).getD i.toNat []) = if rb ((inF v_l).getD i.toNat []) 4 = true then [[D.int (edA (ri ((inF v_l).getD i.toNat []) 0) (ri ((inF v_l).getD i.toNat []) 1)), D.int (edB (ri ((inF v_l).getD i.toNat []) 0) (ri ((inF v_l).getD i.toNat []) 1)), D.int (ri ((inF v_l).getD i.toNat []) 2)]] else [] := rfl
  subst hA
  generalize hA : Ar.std = A
  generalize hL : Lp _ _ _ = L
  refine cd_close zq ?_
  repeat' (first
    | (refine z_open zq ?_; try dsimp only)
    | refine cd_seq zq ?_ (lp_mono hL)
    | refine cd_blk zq ?_
    | refine cd_ret ?_
    | refine cd_skip ?_
    | refine cd_exit ?_
    | refine cd_loop ?_
    | refine cd_cond rfl ?_
    | refine cd_condT rfl ?_
    | refine cd_condF rfl ?_
    | (refine Cd.mk ?_; cbv)
    | (refine Ends1.mk ?_; cbv)
    | (refine Fin1.mk ?_; cbv)
    | exact trivial
    | refine And.intro ?_ ?_
    | refine orf fun _ => ?_
    | refine ort fun _ => ?_)
  all_goals (clear hL hfs zq Z hq; subst hA hF hG0 hG1 hO; simp only [Vl.std, Ar.std] at * <;> grind [stdCmp, boV, boF, chV])
theorem ok_bound : ConOk Tryz.prog 226 (c_bound Vl.std) := by
  refine con_of (FsOk.cons ok_inner (FsOk.cons ok_vedge FsOk.nil rfl) rfl) Tryz.func226 rfl rfl fun xs h p hp => ?_
  unfold c_bound at hp
  split at hp
  · cases hp
    exact ⟨lee_le rfl, fun hC _ => x_bound _ _ hC⟩
  · cases hp
end Go.Proofs.YtakebkfhigadiaaGreat.ViL
