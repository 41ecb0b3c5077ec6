/-
  the answer of the view of two. No condition.
-/
import Derived.Test.YtfioaidmgcibaaaGreatViQ
namespace Go.Proofs.YtfioaidmgcibaaaGreat.ViM
open Go Go.Proofs.YtfioaidmgcibaaaGreat.Ry Go.Proofs.YtfioaidmgcibaaaGreat.Cmp Go.Proofs.YtfioaidmgcibaaaGreat.ViR Go.Proofs.YtfioaidmgcibaaaGreat.ViC Go.Proofs.YtfioaidmgcibaaaGreat.ViL Go.Proofs.YtfioaidmgcibaaaGreat.ViT Go.Proofs.YtfioaidmgcibaaaGreat.ViQ

def e5 (y : E) : E := [D.int (ri y 0), D.int (ri y 1), D.int (ri y 2), D.int (ri y 3), D.bool (rb y 4)]
def mg1 (a : Int) (y : E) : List E := if ri y 0 = a then [e5 y] else []
def bothB (n k : List Int) (j : Nat) : Bool := n.contains ((j : Int) + 1) && k.contains ((j : Int) + 1)
def oneB (n k : List Int) (j : Nat) : Bool := n.contains ((j : Int) + 1) || k.contains ((j : Int) + 1)
def cmB (n k : List Int) : Bool := (List.range 64).any (bothB n k)
def mgN (n k : List Int) (t : Nat) : List Int := (List.range t).flatMap fun j => if oneB n k j = true then [(j : Int) + 1] else []
def mg2 (l q : List E) (a : Int) : List E := l.flatMap (mg1 a) ++ q.flatMap (mg1 a)
def mgL (l q : List E) (t : Nat) : List E := (List.range t).flatMap fun j : Nat => mg2 l q ((j : Int) + 1)
theorem mg1_len (a : Int) (y : E) : (mg1 a y).length ≤ 1 := by unfold mg1; split <;> simp
theorem mg2_len (l q : List E) (a : Int) : (mg2 l q a).length ≤ l.length + q.length := by
  have := fm_len (mg1_len a) l
  have := fm_len (mg1_len a) q
  unfold mg2
  rw [List.length_append]
  omega
theorem mgL_len (l q : List E) : ∀ t, (mgL l q t).length ≤ t * (l.length + q.length)
  | 0 => by simp [mgL]
  | t + 1 => by
    have := mgL_len l q t
    have := mg2_len l q ((t : Int) + 1)
    unfold mgL at *
    rw [List.range_succ, List.flatMap_append, List.length_append, List.flatMap_cons, List.flatMap_nil, List.append_nil, Nat.add_mul]
    omega
theorem mgN_len (n k : List Int) : ∀ t, (mgN n k t).length ≤ t
  | 0 => by simp [mgN]
  | t + 1 => by
    have := mgN_len n k t
    unfold mgN at *
    have h1 : (if oneB n k t = true then [(t : Int) + 1] else []).length ≤ 1 := by split <;> simp
    rw [List.range_succ, List.flatMap_append, List.length_append, List.flatMap_cons, List.flatMap_nil, List.append_nil]
    omega
structure XG where
  n : Int
  o : List Int
  p : List E
def gQ (n k : List Int) (l q : List E) (y : XG) : Prop := 1 ≤ y.n ∧ y.n ≤ 65 ∧ (∀ j : Nat, j < y.n - 1 → bothB n k j = false) ∧ y.o = mgN n k (y.n - 1).toNat ∧ y.p = mgL l q (y.n - 1).toNat
def gM (y : XG) : Nat := 65 - y.n.toNat
noncomputable def gI (n k : List Int) (l q : List E) (y : XG) : St := stOf Tryz.f64.ntmps [(2, .ptr 1 0), (3, .ptr 2 0), (4, .ptr 3 0), (6, .ptr 4 0), (7, .val (.int .i64 y.n))] [(1, .cells 28 [.sl none (.ints .i64 n), .sl none (.recs (.int .i64 (.int .i64 (.int .i64 (.int .i64 (.bool .nil))))) l)]), (2, .cells 28 [.sl none (.ints .i64 k), .sl none (.recs (.int .i64 (.int .i64 (.int .i64 (.int .i64 (.bool .nil))))) q)]), (3, .cells 28 [.val (.slice none 0 0), .val (.slice none 0 0)]), (4, .cells 28 [.sl (some (5, 3)) (.ints .i64 y.o), .sl (some (6, 73)) (.recs (.int .i64 (.int .i64 (.int .i64 (.int .i64 (.bool .nil))))) y.p)]), (5, .tok), (6, .tok)] [Any, Any]
def rdC (st : St) : List Int := match cellC st 6 0 with | .sl _ (.ints _ l) => l | _ => []
def rdL (st : St) : List E := ctR (match cellC st 6 1 with | .sl _ c => c | _ => .recs .nil [])
def gR (st : St) : XG := ⟨slotI st 7, rdC st, rdL st⟩
noncomputable def hI (n k : List Int) (l q : List E) (a : Int) (o : List Int) (y : XC) : St := stOf Tryz.f64.ntmps [(2, .ptr 1 0), (3, .ptr 2 0), (4, .ptr 3 0), (6, .ptr 4 0), (7, .val (.int .i64 a)), (8, .val (.int .i64 y.i))] [(1, .cells 28 [.sl none (.ints .i64 n), .sl none (.recs (.int .i64 (.int .i64 (.int .i64 (.int .i64 (.bool .nil))))) l)]), (2, .cells 28 [.sl none (.ints .i64 k), .sl none (.recs (.int .i64 (.int .i64 (.int .i64 (.int .i64 (.bool .nil))))) q)]), (3, .cells 28 [.val (.slice none 0 0), .val (.slice none 0 0)]), (4, .cells 28 [.sl (some (5, 3)) (.ints .i64 o), .sl (some (6, 73)) (.recs (.int .i64 (.int .i64 (.int .i64 (.int .i64 (.bool .nil))))) y.o)]), (5, .tok), (6, .tok)] [Any, Any]
noncomputable def iI (n k : List Int) (l q : List E) (a : Int) (o : List Int) (y : XC) : St := stOf Tryz.f64.ntmps [(2, .ptr 1 0), (3, .ptr 2 0), (4, .ptr 3 0), (6, .ptr 4 0), (7, .val (.int .i64 a)), (9, .val (.int .i64 y.i))] [(1, .cells 28 [.sl none (.ints .i64 n), .sl none (.recs (.int .i64 (.int .i64 (.int .i64 (.int .i64 (.bool .nil))))) l)]), (2, .cells 28 [.sl none (.ints .i64 k), .sl none (.recs (.int .i64 (.int .i64 (.int .i64 (.int .i64 (.bool .nil))))) q)]), (3, .cells 28 [.val (.slice none 0 0), .val (.slice none 0 0)]), (4, .cells 28 [.sl (some (5, 3)) (.ints .i64 o), .sl (some (6, 73)) (.recs (.int .i64 (.int .i64 (.int .i64 (.int .i64 (.bool .nil))))) y.o)]), (5, .tok), (6, .tok)] [Any, Any]
def hR (s : Nat) (st : St) : XC := ⟨slotI st s, rdL st⟩
theorem g_step {n k : List Int} {l q : List E} (hl : l.length ≤ 1000) (hq : q.length ≤ 1000) {a : Int} {o : List Int} {p : List E} (h : gQ n k l q ⟨a, o, p⟩) : 1 ≤ a ∧ a ≤ 65 ∧ o.length ≤ 64 ∧ p.length ≤ 128000 ∧
    (a ≤ 64 → stdBin .add .i64 a 1 = a + 1 ∧ (n.contains a = true → k.contains a = true → cmB n k = true) ∧ (¬ (n.contains a = true ∧ k.contains a = true) → ∀ o' p', o' = (o ++ if n.contains a = true ∨ k.contains a = true then [a] else []) → p' = p ++ mg2 l q a → gQ n k l q ⟨a + 1, o', p'⟩ ∧ gM ⟨a + 1, o', p'⟩ < gM ⟨a, o, p⟩)) ∧ (¬ a ≤ 64 → cmB n k = false ∧ o = mgN n k 64 ∧ p = mgL l q 64) := by
  obtain ⟨h0, h1, h2, h3, h4⟩ := h
  simp only at h0 h1 h2 h3 h4
  have g1 := mgN_len n k (a - 1).toNat
  have g2 := mgL_len l q (a - 1).toNat
  have g3 : (a - 1).toNat * (l.length + q.length) ≤ 64 * 2000 := Nat.mul_le_mul (by omega) (by omega)
  have ea : (((a - 1).toNat : Nat) : Int) + 1 = a := by omega
  have e2 : (a + 1 - 1).toNat = (a - 1).toNat + 1 := by omega
  refine ⟨h0, h1, by rw [h3]; omega, by rw [h4]; omega, fun c => ⟨by rw [b_add, wr _ (by omega) (by omega)], fun c1 c2 => ?_, fun c1 o' p' eo ep => ⟨⟨by simp only; omega, by simp only; omega, fun j hj => ?_, ?_, ?_⟩, by simp only [gM]; omega⟩⟩, fun c => ⟨?_, ?_, ?_⟩⟩
  · unfold cmB
    rw [List.any_eq_true]
    exact ⟨(a - 1).toNat, List.mem_range.2 (by omega), by unfold bothB; rw [ea, c1, c2]; rfl⟩
  · simp only at hj
    by_cases z : j = (a - 1).toNat
    · rw [z]
      unfold bothB
      rw [ea, ← Bool.not_eq_true, Bool.and_eq_true]
      exact c1
    · exact h2 j (by omega)
  · simp only
    unfold mgN at h3 ⊢
    rw [e2, List.range_succ, List.flatMap_append, ← h3, List.flatMap_cons, List.flatMap_nil, List.append_nil, eo, ea]
    congr 1
    unfold oneB
    rw [ea]
    by_cases z : n.contains a = true ∨ k.contains a = true
    · rw [if_pos z, if_pos (by rw [Bool.or_eq_true]; exact z)]
    · rw [if_neg z, if_neg (by rw [Bool.or_eq_true]; exact z)]
  · simp only
    unfold mgL at h4 ⊢
    rw [e2, List.range_succ, List.flatMap_append, ← h4, List.flatMap_cons, List.flatMap_nil, List.append_nil, ep, ea]
  · unfold cmB
    rw [← Bool.not_eq_true, List.any_eq_true]
    rintro ⟨j, hj, g⟩
    rw [h2 j (by have := List.mem_range.1 hj; omega)] at g
    cases g
  · rw [h3, show a = 65 by omega]
    rfl
  · rw [h4, show a = 65 by omega]
    rfl
theorem h_end {l q : List E} {a : Int} {p p1 : List E} {i : Int} (hq : cpQ l (mg1 a) p ⟨i, p1⟩) (h : ¬ i < l.length) {j : Int} {p2 : List E} (hq2 : cpQ q (mg1 a) p1 ⟨j, p2⟩) (h2 : ¬ j < q.length) : p2 = p ++ mg2 l q a := by
  rw [cp_end hq2 h2, cp_end hq h, List.append_assoc]
  rfl
def mgO (n k : List Int) : List Int := if cmB n k = true then [] else mgN n k 64
def mgP (n k : List Int) (l q : List E) : List E := if cmB n k = true then [] else mgL l q 64

structure Vg where
  g_c : List Int → List Int → Bool
  g_n : List Int → List Int → List Int
  g_l : List Int → List Int → List E → List E → List E
  g_ok : List Int → List Int → List E → List E → Bool
def Vg.std : Vg := ⟨fun n k => !cmB n k, mgO, mgP, fun n k l q => decide (n.length ≤ 1000 ∧ k.length ≤ 1000 ∧ l.length ≤ 1000 ∧ q.length ≤ 1000)⟩

def c_rmerge (F : Vg) : Con := fun xs h => match xs, h with
  | [.agg [.sl none (.ints .i64 a_n), .sl none (.recs (.int .i64 (.int .i64 (.int .i64 (.int .i64 (.bool .nil))))) a_l)], .agg [.sl none (.ints .i64 d_n), .sl none (.recs (.int .i64 (.int .i64 (.int .i64 (.int .i64 (.bool .nil))))) d_l)]], [] => some ⟨F.g_ok a_n d_n a_l d_l = true, .tup [.agg [.sl none (.ints .i64 (F.g_n a_n d_n)), .sl none (.recs (.int .i64 (.int .i64 (.int .i64 (.int .i64 (.bool .nil))))) (F.g_l a_n d_n a_l d_l))], B (F.g_c a_n d_n)], [], [Any, Any]⟩
  | _, _ => none
set_option cbv.maxSteps 4000000 in
set_option maxHeartbeats 4000000 in
set_option maxRecDepth 100000 in
theorem x_rmerge (a_n : List Int) (a_l : List E) (d_n : List Int) (d_l : List E) (hC : Vg.std.g_ok a_n d_n a_l d_l = true) : Does [(96, c_rin ViR.Vs.std)] Tryz.f64 [.agg [.sl none (.ints .i64 a_n), .sl none (.recs (.int .i64 (.int .i64 (.int .i64 (.int .i64 (.bool .nil))))) a_l)], .agg [.sl none (.ints .i64 d_n), .sl none (.recs (.int .i64 (.int .i64 (.int .i64 (.int .i64 (.bool .nil))))) d_l)]] [] ⟨Vg.std.g_ok a_n d_n a_l d_l = true, .tup [.agg [.sl none (.ints .i64 (Vg.std.g_n a_n d_n)), .sl none (.recs (.int .i64 (.int .i64 (.int .i64 (.int .i64 (.bool .nil))))) (Vg.std.g_l a_n d_n a_l d_l))], B (Vg.std.g_c a_n d_n)], [], [Any, Any]⟩ := by
  intro b gv
  have hk : a_n.length ≤ 1000 ∧ d_n.length ≤ 1000 ∧ a_l.length ≤ 1000 ∧ d_l.length ≤ 1000 := of_decide_eq_true (show decide (a_n.length ≤ 1000 ∧ d_n.length ≤ 1000 ∧ a_l.length ≤ 1000 ∧ d_l.length ≤ 1000) = true from hC)
  obtain ⟨hk1, hk2, hk3, hk4⟩ := hk
  have hO0 : cmB a_n d_n = true → mgO a_n d_n = [] ∧ mgP a_n d_n a_l d_l = [] := fun h => ⟨if_pos h, if_pos h⟩
  have hO1 : cmB a_n d_n = false → mgO a_n d_n = mgN a_n d_n 64 ∧ mgP a_n d_n a_l d_l = mgL a_l d_l 64 := fun h => ⟨if_neg (by rw [h]; decide), if_neg (by rw [h]; decide)⟩
  have hfs := (FsOk.cons ok_rin FsOk.nil rfl)
  generalize hF : Vg.std = F at hC hfs ⊢
  generalize hG0 : ViR.Vs.std = G0 at hC hfs ⊢
  generalize hA : Ar.std = A
  generalize hL : Lp _ _ _ = L
  obtain ⟨Z, zq⟩ := z_all
  refine cd_open (lp_mono hL) zq rfl ?_
  repeat' (first
    | (refine z_open zq ?_; try dsimp only)
    | refine cd_seq zq ?_ (lp_mono hL)
    | refine cd_blk zq ?_
    | refine cd_ret ?_
    | refine cd_skip ?_
    | refine cd_exit ?_
    | refine cd_loop ?_
    | refine cd_cond rfl ?_
    | refine cd_condT rfl ?_
    | refine cd_condF rfl ?_
    | (refine Cd.mk ?_; cbv)
    | (refine Ends1.mk ?_; cbv)
    | (refine Fin1.mk ?_; cbv)
    | exact trivial
    | refine And.intro ?_ ?_
    | refine orf fun _ => ?_
    | refine ort fun _ => ?_)
  subst hL
  refine loop_z (cx_ok hfs) (gQ a_n d_n a_l d_l) (gI a_n d_n a_l d_l) (gM) gR ⟨1, [], []⟩ ?_ ?_ ?_
  · exact ⟨Int.le_refl 1, (by show (1 : Int) ≤ 65; decide), fun j hj => by simp only at hj; omega, rfl, rfl⟩
  · cbv
    repeat' (first | exact trivial | exact rfl | refine And.intro ?_ ?_)
  rintro ⟨t, o, p⟩ hq O hO
  have hst := g_step hk3 hk4 hq
  subst hA
  generalize hA : Ar.std = A
  generalize hL : Lp _ _ _ = L
  refine cd_close zq ?_
  repeat' (first
    | (refine z_open zq ?_; try dsimp only)
    | refine cd_seq zq ?_ (lp_mono hL)
    | refine cd_blk zq ?_
    | refine cd_ret ?_
    | refine cd_skip ?_
    | refine cd_exit ?_
    | refine cd_loop ?_
    | refine cd_cond rfl ?_
    | refine cd_condT rfl ?_
    | refine cd_condF rfl ?_
    | (refine Cd.mk ?_; cbv)
    | (refine Ends1.mk ?_; cbv)
    | (refine Fin1.mk ?_; cbv)
    | exact trivial
    | refine And.intro ?_ ?_
    | refine orf fun _ => ?_
    | refine ort fun _ => ?_)
  all_goals first | (show L _ _ _; skip) | (clear hL hfs zq Z hq; subst hA hF hG0 hO; simp only [Vg.std, ViR.Vs.std, Ar.std] at * <;> grind [stdCmp]; done)
  · rename_i hx1 hx2 hx3
    have ht : t ≤ 64 ∧ ¬ (a_n.contains t = true ∧ d_n.contains t = true) ∧ (a_n.contains t = true ∨ d_n.contains t = true) := by
      clear hL hfs zq Z hq hO0 hO1 hst
      subst hA hF hG0 hO
      simp only [Vg.std, ViR.Vs.std, Ar.std] at *
      grind [stdCmp]
    clear hx1 hx2 hx3
    obtain ⟨s1, s2, s3, s4, s5, _⟩ := hst
    obtain ⟨t1, _, t3⟩ := s5 ht.1
    have t4 := fun p' e => t3 ht.2.1 (o ++ [t]) p' (by first | rw [if_pos ht.2.2] | rw [if_neg ht.2.2, List.append_nil]) e
    clear s5 t3
    subst hL
    refine loop_z (cx_ok hfs) (cpQ a_l (mg1 t) p) (hI a_n d_n a_l d_l t (A.appI o [t])) (coM a_l) (hR 8) ⟨0, p⟩ ?_ ?_ ?_
    · exact cp_zero _ _ _
    · cbv
      repeat' (first | exact trivial | exact rfl | refine And.intro ?_ ?_)
    rintro ⟨i, p1⟩ hq2 O2 hO2
    have hst := fun h => cp_step (by omega) hq2 h
    have hle := cp_len (mg1_len t) hq2
    have k0 := hq2.1
    have k1 := hq2.2.1
    dsimp only at k0 k1 hst
    have hin : mg1 t (a_l.getD i.toNat []) = if ri (a_l.getD i.toNat []) 0 = t then [[D.int (ri (a_l.getD i.toNat []) 0), D.int (ri (a_l.getD i.toNat []) 1), D.int (ri (a_l.getD i.toNat []) 2), D.int (ri (a_l.getD i.toNat []) 3), D.bool (rb (a_l.getD i.toNat []) 4)]] else [] := rfl
    subst hA
    generalize hA : Ar.std = A
    generalize hL : Lp _ _ _ = L
    refine cd_close zq ?_
    repeat' (first
      | (refine z_open zq ?_; try dsimp only)
      | refine cd_seq zq ?_ (lp_mono hL)
      | refine cd_blk zq ?_
      | refine cd_ret ?_
      | refine cd_skip ?_
      | refine cd_exit ?_
      | refine cd_loop ?_
      | refine cd_cond rfl ?_
      | refine cd_condT rfl ?_
      | refine cd_condF rfl ?_
      | (refine Cd.mk ?_; cbv)
      | (refine Ends1.mk ?_; cbv)
      | (refine Fin1.mk ?_; cbv)
      | exact trivial
      | refine And.intro ?_ ?_
      | refine orf fun _ => ?_
      | refine ort fun _ => ?_)
    all_goals first | (show L _ _ _; skip) | (clear hL hfs zq Z hq hq2 hO0 hO1 t4; subst hA hF hG0 hO hO2; simp only [Vg.std, Ar.std] at * <;> grind [stdCmp]; done)
    rename_i hx
    have hi : ¬ i < a_l.length := by
      clear hL hfs zq Z hq hq2 hO0 hO1 hst t4
      subst hA hF hG0 hO hO2
      simp only [Vg.std, Ar.std] at *
      grind [stdCmp]
    clear hx hst hin
    subst hL
    refine loop_z (cx_ok hfs) (cpQ d_l (mg1 t) p1) (iI a_n d_n a_l d_l t (A.appI o [t])) (coM d_l) (hR 9) ⟨0, p1⟩ ?_ ?_ ?_
    · exact cp_zero _ _ _
    · cbv
      repeat' (first | exact trivial | exact rfl | refine And.intro ?_ ?_)
    rintro ⟨j, p2⟩ hq3 O3 hO3
    have hst := fun h => cp_step (by omega) hq3 h
    have hle2 := cp_len (mg1_len t) hq3
    have hnx := fun h => t4 p2 (h_end hq2 hi hq3 h)
    have j0 := hq3.1
    have j1 := hq3.2.1
    dsimp only at j0 j1 hst
    have hin : mg1 t (d_l.getD j.toNat []) = if ri (d_l.getD j.toNat []) 0 = t then [[D.int (ri (d_l.getD j.toNat []) 0), D.int (ri (d_l.getD j.toNat []) 1), D.int (ri (d_l.getD j.toNat []) 2), D.int (ri (d_l.getD j.toNat []) 3), D.bool (rb (d_l.getD j.toNat []) 4)]] else [] := rfl
    subst hA
    generalize hA : Ar.std = A
    generalize hL : Lp _ _ _ = L
    refine cd_close zq ?_
    repeat' (first
      | (refine z_open zq ?_; try dsimp only)
      | refine cd_seq zq ?_ (lp_mono hL)
      | refine cd_blk zq ?_
      | refine cd_ret ?_
      | refine cd_skip ?_
      | refine cd_exit ?_
      | refine cd_loop ?_
      | refine cd_cond rfl ?_
      | refine cd_condT rfl ?_
      | refine cd_condF rfl ?_
      | (refine Cd.mk ?_; cbv)
      | (refine Ends1.mk ?_; cbv)
      | (refine Fin1.mk ?_; cbv)
      | exact trivial
      | refine And.intro ?_ ?_
      | refine orf fun _ => ?_
      | refine ort fun _ => ?_)
    all_goals (clear hL hfs zq Z hq hq2 hq3 hO0 hO1 t4; subst hA hF hG0 hO hO2 hO3; simp only [Vg.std, Ar.std] at * <;> grind [stdCmp]; done)
  · rename_i hx1 hx2 hx3
    have ht : t ≤ 64 ∧ ¬ (a_n.contains t = true ∧ d_n.contains t = true) ∧ ¬ (a_n.contains t = true ∨ d_n.contains t = true) := by
      clear hL hfs zq Z hq hO0 hO1 hst
      subst hA hF hG0 hO
      simp only [Vg.std, ViR.Vs.std, Ar.std] at *
      grind [stdCmp]
    clear hx1 hx2 hx3
    obtain ⟨s1, s2, s3, s4, s5, _⟩ := hst
    obtain ⟨t1, _, t3⟩ := s5 ht.1
    have t4 := fun p' e => t3 ht.2.1 o p' (by first | rw [if_pos ht.2.2] | rw [if_neg ht.2.2, List.append_nil]) e
    clear s5 t3
    subst hL
    refine loop_z (cx_ok hfs) (cpQ a_l (mg1 t) p) (hI a_n d_n a_l d_l t o) (coM a_l) (hR 8) ⟨0, p⟩ ?_ ?_ ?_
    · exact cp_zero _ _ _
    · cbv
      repeat' (first | exact trivial | exact rfl | refine And.intro ?_ ?_)
    rintro ⟨i, p1⟩ hq2 O2 hO2
    have hst := fun h => cp_step (by omega) hq2 h
    have hle := cp_len (mg1_len t) hq2
    have k0 := hq2.1
    have k1 := hq2.2.1
    dsimp only at k0 k1 hst
    have hin : mg1 t (a_l.getD i.toNat []) = if ri (a_l.getD i.toNat []) 0 = t then [[D.int (ri (a_l.getD i.toNat []) 0), D.int (ri (a_l.getD i.toNat []) 1), D.int (ri (a_l.getD i.toNat []) 2), D.int (ri (a_l.getD i.toNat []) 3), D.bool (rb (a_l.getD i.toNat []) 4)]] else [] := rfl
    subst hA
    generalize hA : Ar.std = A
    generalize hL : Lp _ _ _ = L
    refine cd_close zq ?_
    repeat' (first
      | (refine z_open zq ?_; try dsimp only)
      | refine cd_seq zq ?_ (lp_mono hL)
      | refine cd_blk zq ?_
      | refine cd_ret ?_
      | refine cd_skip ?_
      | refine cd_exit ?_
      | refine cd_loop ?_
      | refine cd_cond rfl ?_
      | refine cd_condT rfl ?_
      | refine cd_condF rfl ?_
      | (refine Cd.mk ?_; cbv)
      | (refine Ends1.mk ?_; cbv)
      | (refine Fin1.mk ?_; cbv)
      | exact trivial
      | refine And.intro ?_ ?_
      | refine orf fun _ => ?_
      | refine ort fun _ => ?_)
    all_goals first | (show L _ _ _; skip) | (clear hL hfs zq Z hq hq2 hO0 hO1 t4; subst hA hF hG0 hO hO2; simp only [Vg.std, Ar.std] at * <;> grind [stdCmp]; done)
    rename_i hx
    have hi : ¬ i < a_l.length := by
      clear hL hfs zq Z hq hq2 hO0 hO1 hst t4
      subst hA hF hG0 hO hO2
      simp only [Vg.std, Ar.std] at *
      grind [stdCmp]
    clear hx hst hin
    subst hL
    refine loop_z (cx_ok hfs) (cpQ d_l (mg1 t) p1) (iI a_n d_n a_l d_l t o) (coM d_l) (hR 9) ⟨0, p1⟩ ?_ ?_ ?_
    · exact cp_zero _ _ _
    · cbv
      repeat' (first | exact trivial | exact rfl | refine And.intro ?_ ?_)
    rintro ⟨j, p2⟩ hq3 O3 hO3
    have hst := fun h => cp_step (by omega) hq3 h
    have hle2 := cp_len (mg1_len t) hq3
    have hnx := fun h => t4 p2 (h_end hq2 hi hq3 h)
    have j0 := hq3.1
    have j1 := hq3.2.1
    dsimp only at j0 j1 hst
    have hin : mg1 t (d_l.getD j.toNat []) = if ri (d_l.getD j.toNat []) 0 = t then [[D.int (ri (d_l.getD j.toNat []) 0), D.int (ri (d_l.getD j.toNat []) 1), D.int (ri (d_l.getD j.toNat []) 2), D.int (ri (d_l.getD j.toNat []) 3), D.bool (rb (d_l.getD j.toNat []) 4)]] else [] := rfl
    subst hA
    generalize hA : Ar.std = A
    generalize hL : Lp _ _ _ = L
    refine cd_close zq ?_
    repeat' (first
      | (refine z_open zq ?_; try dsimp only)
      | refine cd_seq zq ?_ (lp_mono hL)
      | refine cd_blk zq ?_
      | refine cd_ret ?_
      | refine cd_skip ?_
      | refine cd_exit ?_
      | refine cd_loop ?_
      | refine cd_cond rfl ?_
      | refine cd_condT rfl ?_
      | refine cd_condF rfl ?_
      | (refine Cd.mk ?_; cbv)
      | (refine Ends1.mk ?_; cbv)
      | (refine Fin1.mk ?_; cbv)
      | exact trivial
      | refine And.intro ?_ ?_
      | refine orf fun _ => ?_
      | refine ort fun _ => ?_)
    all_goals (clear hL hfs zq Z hq hq2 hq3 hO0 hO1 t4; subst hA hF hG0 hO hO2 hO3; simp only [Vg.std, Ar.std] at * <;> grind [stdCmp]; done)
theorem ok_rmerge : ConOk Tryz.prog 64 (c_rmerge Vg.std) := by
  refine con_of (FsOk.cons ok_rin FsOk.nil rfl) Tryz.func64 rfl rfl fun xs h p hp => ?_
  unfold c_rmerge at hp
  split at hp
  · cases hp
    exact ⟨lee_le rfl, fun hC _ => x_rmerge _ _ _ _ hC⟩
  · cases hp
end Go.Proofs.YtfioaidmgcibaaaGreat.ViM
