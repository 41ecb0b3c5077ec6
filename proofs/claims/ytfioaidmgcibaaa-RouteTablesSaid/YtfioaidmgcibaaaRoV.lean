/-
  the answer of what some nodes know of a graph. No condition.
-/
import Derived.Test.YtfioaidmgcibaaaViQ
namespace Go.Proofs.Ytfioaidmgcibaaa.RoV
open Go Go.Proofs.Ytfioaidmgcibaaa.Ry Go.Proofs.Ytfioaidmgcibaaa.Cmp Go.Proofs.Ytfioaidmgcibaaa.ViR Go.Proofs.Ytfioaidmgcibaaa.ViC Go.Proofs.Ytfioaidmgcibaaa.ViL Go.Proofs.Ytfioaidmgcibaaa.ViT Go.Proofs.Ytfioaidmgcibaaa.ViQ

def has3 (b : List E) (e : E) : Bool := b.any fun z => decide (ri z 0 = ri e 0 ∧ ri z 1 = ri e 1 ∧ ri z 2 = ri e 2)
def vw1 (b : List E) (a p : Int) (e : E) : List E := if ri e 0 = a ∧ ri e 1 = p ∨ ri e 1 = a ∧ ri e 0 = p then [[D.int a, D.int p, D.int (ri e 2), D.int 1, D.bool (has3 b e)]] else []
def vw2 (l b : List E) (a p : Int) : List E := l.flatMap (vw1 b a p)
def vw3 (l b : List E) (a : Int) (k : Nat) : List E := (List.range k).flatMap fun p : Nat => vw2 l b a ((p : Int) + 1)
def vw4 (l b : List E) (n : List Int) : List E := n.flatMap fun a => vw3 l b a 64
theorem vw1_len (b : List E) (a p : Int) (e : E) : (vw1 b a p e).length ≤ 1 := by unfold vw1; split <;> simp
theorem vw2_len (l b : List E) (a p : Int) : (vw2 l b a p).length ≤ l.length := fm_len (vw1_len b a p) l
theorem vw3_len (l b : List E) (a : Int) : ∀ k, (vw3 l b a k).length ≤ k * l.length
  | 0 => by simp [vw3]
  | k + 1 => by
    have := vw3_len l b a k
    have := vw2_len l b a ((k : Int) + 1)
    unfold vw3 at *
    rw [List.range_succ, List.flatMap_append, List.length_append, List.flatMap_cons, List.flatMap_nil, List.append_nil, Nat.add_mul]
    omega
theorem vw4_len (l b : List E) : ∀ n : List Int, (vw4 l b n).length ≤ n.length * (64 * l.length)
  | [] => Nat.zero_le _
  | a :: n => by
    have := vw4_len l b n
    have := vw3_len l b a 64
    unfold vw4 at *
    rw [List.flatMap_cons, List.length_append, List.length_cons, Nat.add_mul]
    omega
theorem tk_int (n : List Int) (i : Int) (h0 : 0 ≤ i) (h : i < n.length) : n.take (i + 1).toNat = n.take i.toNat ++ [n.getD i.toNat 0] := by
  have e : (i + 1).toNat = i.toNat + 1 := by omega
  have hi : i.toNat < n.length := by omega
  rw [e, List.take_add_one, List.getD_eq_getElem?_getD, List.getElem?_eq_getElem hi]
  rfl
/-- Node by node. -/
def v1Q (l b : List E) (n : List Int) (y : XC) : Prop := 0 ≤ y.i ∧ y.i ≤ n.length ∧ y.o = vw4 l b (n.take y.i.toNat)
def v1M (n : List Int) (y : XC) : Nat := n.length - y.i.toNat
noncomputable def v1I (n : List Int) (l b : List E) (y : XC) : St := stOf Try.f35.ntmps [(0, .sl none (.ints .i64 n)), (1, .sl none (.recs (.int .i64 (.int .i64 (.int .i64 .nil))) l)), (2, .sl none (.recs (.int .i64 (.int .i64 (.int .i64 .nil))) b)), (6, .ptr 1 0), (7, .ptr 2 0), (8, .val (.int .i64 y.i))] [(1, .cells 25 [.val (.slice none 0 0), .val (.slice none 0 0)]), (2, .cells 25 [.sl none (.ints .i64 n), .sl (some (3, 38)) (.recs (.int .i64 (.int .i64 (.int .i64 (.int .i64 (.bool .nil))))) y.o)]), (3, .tok)] [Any, Any, Any]
def vR (k : Nat) (st : St) : XC := ⟨slotI st k, ctR (match cellC st 7 1 with | .sl _ c => c | _ => .recs .nil [])⟩
/-- Peer by peer. -/
def v2Q (l b : List E) (a : Int) (o0 : List E) (y : XC) : Prop := 1 ≤ y.i ∧ y.i ≤ 65 ∧ y.o = o0 ++ vw3 l b a (y.i - 1).toNat
def v2M (y : XC) : Nat := 65 - y.i.toNat
noncomputable def v2I (n : List Int) (l b : List E) (i : Int) (y : XC) : St := stOf Try.f35.ntmps [(0, .sl none (.ints .i64 n)), (1, .sl none (.recs (.int .i64 (.int .i64 (.int .i64 .nil))) l)), (2, .sl none (.recs (.int .i64 (.int .i64 (.int .i64 .nil))) b)), (6, .ptr 1 0), (7, .ptr 2 0), (8, .val (.int .i64 i)), (9, .val (.int .i64 y.i))] [(1, .cells 25 [.val (.slice none 0 0), .val (.slice none 0 0)]), (2, .cells 25 [.sl none (.ints .i64 n), .sl (some (3, 38)) (.recs (.int .i64 (.int .i64 (.int .i64 (.int .i64 (.bool .nil))))) y.o)]), (3, .tok)] [Any, Any, Any]
noncomputable def v3I (n : List Int) (l b : List E) (i p : Int) (y : XC) : St := stOf Try.f35.ntmps [(0, .sl none (.ints .i64 n)), (1, .sl none (.recs (.int .i64 (.int .i64 (.int .i64 .nil))) l)), (2, .sl none (.recs (.int .i64 (.int .i64 (.int .i64 .nil))) b)), (6, .ptr 1 0), (7, .ptr 2 0), (8, .val (.int .i64 i)), (9, .val (.int .i64 p)), (10, .val (.int .i64 y.i))] [(1, .cells 25 [.val (.slice none 0 0), .val (.slice none 0 0)]), (2, .cells 25 [.sl none (.ints .i64 n), .sl (some (3, 38)) (.recs (.int .i64 (.int .i64 (.int .i64 (.int .i64 (.bool .nil))))) y.o)]), (3, .tok)] [Any, Any, Any]
structure XM where
  i : Int
  b : Bool
def v4Q (b : List E) (e0 e1 e2 : Int) (y : XM) : Prop := 0 ≤ y.i ∧ y.i ≤ b.length ∧ y.b = (b.take y.i.toNat).any fun z => decide (ri z 0 = e0 ∧ ri z 1 = e1 ∧ ri z 2 = e2)
def v4M (b : List E) (y : XM) : Nat := b.length - y.i.toNat
noncomputable def v4I (n : List Int) (l b : List E) (i p k e0 e1 e2 : Int) (o : List E) (y : XM) : St := stOf Try.f35.ntmps [(0, .sl none (.ints .i64 n)), (1, .sl none (.recs (.int .i64 (.int .i64 (.int .i64 .nil))) l)), (2, .sl none (.recs (.int .i64 (.int .i64 (.int .i64 .nil))) b)), (6, .ptr 1 0), (7, .ptr 2 0), (8, .val (.int .i64 i)), (9, .val (.int .i64 p)), (10, .val (.int .i64 k)), (11, .ptr 4 0), (12, .val (.bool y.b)), (13, .val (.int .i64 y.i))] [(1, .cells 25 [.val (.slice none 0 0), .val (.slice none 0 0)]), (2, .cells 25 [.sl none (.ints .i64 n), .sl (some (3, 38)) (.recs (.int .i64 (.int .i64 (.int .i64 (.int .i64 (.bool .nil))))) o)]), (3, .tok), (4, .cells 55 [.val (.int .i64 e0), .val (.int .i64 e1), .val (.int .i64 e2)])] [Any, Any, Any]
def v4R (st : St) : XM := ⟨slotI st 13, slotB st 12⟩
theorem v1_next {l b : List E} {n : List Int} (hn : n.length ≤ 100) (hl : l.length ≤ 1000) {i : Int} {o p : List E} (hq : v1Q l b n ⟨i, o⟩) : o.length ≤ 6400000 ∧ (i < n.length → p = o ++ vw3 l b (n.getD i.toNat 0) 64 → stdBin .add .i64 i 1 = i + 1 ∧ v1M n ⟨i + 1, p⟩ < v1M n ⟨i, o⟩ ∧ v1Q l b n ⟨i + 1, p⟩) ∧ (¬ i < n.length → o = vw4 l b n) := by
  obtain ⟨h0, h1, h2⟩ := hq
  simp only at h0 h1 h2
  have g := vw4_len l b (n.take i.toNat)
  rw [← h2, List.length_take] at g
  have g2 : min i.toNat n.length * (64 * l.length) ≤ 100 * (64 * 1000) := Nat.mul_le_mul (by omega) (by omega)
  refine ⟨by omega, fun h e => ⟨by rw [b_add, wr _ (by omega) (by omega)], by simp only [v1M]; omega, by simp only; omega, by simp only; omega, ?_⟩, fun h => ?_⟩
  · simp only
    unfold vw4 at h2 ⊢
    rw [tk_int n i h0 h, List.flatMap_append, ← h2, e]
    simp [List.flatMap_cons]
  · have e : i = n.length := by omega
    rw [e, Int.toNat_natCast, List.take_length] at h2
    exact h2
theorem v2_next {l b : List E} {a : Int} {o0 : List E} (h0l : o0.length ≤ 6400000) (hl : l.length ≤ 1000) {i : Int} {o q : List E} (hq : v2Q l b a o0 ⟨i, o⟩) : o.length ≤ 6500000 ∧ 1 ≤ i ∧ i ≤ 65 ∧ (i ≤ 64 → q = o ++ vw2 l b a i → stdBin .add .i64 i 1 = i + 1 ∧ v2M ⟨i + 1, q⟩ < v2M ⟨i, o⟩ ∧ v2Q l b a o0 ⟨i + 1, q⟩) ∧ (¬ i ≤ 64 → o = o0 ++ vw3 l b a 64) := by
  obtain ⟨h0, h1, h2⟩ := hq
  simp only at h0 h1 h2
  have g := vw3_len l b a (i - 1).toNat
  have g2 : (i - 1).toNat * l.length ≤ 64 * 1000 := Nat.mul_le_mul (by omega) hl
  refine ⟨by rw [h2, List.length_append]; omega, h0, h1, fun h e => ⟨by rw [b_add, wr _ (by omega) (by omega)], by simp only [v2M]; omega, by simp only; omega, by simp only; omega, ?_⟩, fun h => ?_⟩
  · simp only
    have e2 : (i + 1 - 1).toNat = (i - 1).toNat + 1 := by omega
    have e3 : (((i - 1).toNat : Nat) : Int) + 1 = i := by omega
    unfold vw3 at h2 ⊢
    rw [e2, List.range_succ, List.flatMap_append, ← List.append_assoc, ← h2, e]
    rw [List.flatMap_cons, List.flatMap_nil, List.append_nil, e3]
  · have e : i = 65 := by omega
    rw [h2, e]
    rfl
theorem v4_next {b : List E} {e0 e1 e2 : Int} (hb : b.length ≤ 1000) {i : Int} {t : Bool} (hq : v4Q b e0 e1 e2 ⟨i, t⟩) : 0 ≤ i ∧ i ≤ b.length ∧ (i < b.length → stdBin .add .i64 i 1 = i + 1 ∧ (∀ s, v4M b ⟨i + 1, s⟩ < v4M b ⟨i, t⟩) ∧ (t = true → v4Q b e0 e1 e2 ⟨i + 1, true⟩) ∧ (t = false → ∀ s : Bool, (s = true ↔ ri (b.getD i.toNat []) 0 = e0 ∧ ri (b.getD i.toNat []) 1 = e1 ∧ ri (b.getD i.toNat []) 2 = e2) → v4Q b e0 e1 e2 ⟨i + 1, s⟩)) ∧ (¬ i < b.length → t = b.any fun z => decide (ri z 0 = e0 ∧ ri z 1 = e1 ∧ ri z 2 = e2)) := by
  obtain ⟨h0, h1, h2⟩ := hq
  simp only at h0 h1 h2
  have nx : ∀ k : i < b.length, ((b.take (i + 1).toNat).any fun z => decide (ri z 0 = e0 ∧ ri z 1 = e1 ∧ ri z 2 = e2)) = (t || decide (ri (b.getD i.toNat []) 0 = e0 ∧ ri (b.getD i.toNat []) 1 = e1 ∧ ri (b.getD i.toNat []) 2 = e2)) := fun k => by
    rw [take_next b i h0 k, List.any_append, ← h2]
    simp
  refine ⟨h0, h1, fun h => ⟨by rw [b_add, wr _ (by omega) (by omega)], fun s => by simp only [v4M]; omega, fun g => ⟨by simp only; omega, by simp only; omega, ?_⟩, fun g s hs => ⟨by simp only; omega, by simp only; omega, ?_⟩⟩, fun h => ?_⟩
  · simp only
    rw [nx h, g]
    rfl
  · simp only
    rw [nx h, g, Bool.false_or, Bool.eq_iff_iff, decide_eq_true_eq]
    exact hs
  · have e : i = b.length := by omega
    rw [e, Int.toNat_natCast, List.take_length] at h2
    exact h2

structure Rv where
  v_vw : List E → List E → List Int → List E
  v_ok : List E → List E → List Int → Bool
def Rv.std : Rv := ⟨vw4, fun l b n => decide (n.length ≤ 100 ∧ l.length ≤ 1000 ∧ b.length ≤ 1000)⟩

def c_rview (F : Rv) : Con := fun xs h => match xs, h with
  | [.one (.sl none (.ints .i64 n)), .one (.sl none (.recs (.int .i64 (.int .i64 (.int .i64 .nil))) l)), .one (.sl none (.recs (.int .i64 (.int .i64 (.int .i64 .nil))) d))], [] => some ⟨F.v_ok l d n = true, .sa (.agg [.sl none (.ints .i64 n), .sl none (.recs (.int .i64 (.int .i64 (.int .i64 (.int .i64 (.bool .nil))))) (F.v_vw l d n))]), [], [Any, Any, Any]⟩
  | _, _ => none
set_option cbv.maxSteps 4000000 in
set_option maxHeartbeats 4000000 in
set_option maxRecDepth 100000 in
theorem x_rview (n : List Int) (l : List E) (d : List E) (hC : Rv.std.v_ok l d n = true) : Does [] Try.f35 [.one (.sl none (.ints .i64 n)), .one (.sl none (.recs (.int .i64 (.int .i64 (.int .i64 .nil))) l)), .one (.sl none (.recs (.int .i64 (.int .i64 (.int .i64 .nil))) d))] [] ⟨Rv.std.v_ok l d n = true, .sa (.agg [.sl none (.ints .i64 n), .sl none (.recs (.int .i64 (.int .i64 (.int .i64 (.int .i64 (.bool .nil))))) (Rv.std.v_vw l d n))]), [], [Any, Any, Any]⟩ := by
  intro b gv
  have hk : n.length ≤ 100 ∧ l.length ≤ 1000 ∧ d.length ≤ 1000 := of_decide_eq_true (show decide (n.length ≤ 100 ∧ l.length ≤ 1000 ∧ d.length ≤ 1000) = true from hC)
  obtain ⟨hk1, hk2, hk3⟩ := hk
  have hfs := FsOk.nil
  generalize hF : Rv.std = F at hC hfs ⊢
  generalize hA : Ar.std = A
  generalize hL : Lp _ _ _ = L
  obtain ⟨Z, zq⟩ := z_all
  refine cd_open (lp_mono hL) zq rfl ?_
  repeat' (first
    | (refine z_open zq ?_; try dsimp only)
    | refine cd_seq zq ?_ (lp_mono hL)
    | refine cd_blk zq ?_
    | refine cd_ret ?_
    | refine cd_skip ?_
    | refine cd_exit ?_
    | refine cd_loop ?_
    | refine cd_cond rfl ?_
    | refine cd_condT rfl ?_
    | refine cd_condF rfl ?_
    | (refine Cd.mk ?_; cbv)
    | (refine Ends1.mk ?_; cbv)
    | (refine Fin1.mk ?_; cbv)
    | exact trivial
    | refine And.intro ?_ ?_
    | refine orf fun _ => ?_
    | refine ort fun _ => ?_)
  subst hL
  refine loop_z (cx_ok hfs) (v1Q l d n) (v1I n l d) (v1M n) (vR 8) ⟨0, []⟩ ?_ ?_ ?_
  · exact ⟨Int.le_refl 0, Int.natCast_nonneg _, rfl⟩
  · cbv
    repeat' (first | exact trivial | exact rfl | refine And.intro ?_ ?_)
  rintro ⟨i, o⟩ hq O hO
  obtain ⟨n1, _, n3⟩ := v1_next (p := o) hk1 hk2 hq
  have nx := fun q => (v1_next (p := q) hk1 hk2 hq).2.1
  have q0 := hq.1
  have q1 := hq.2.1
  dsimp only at q0 q1
  subst hA
  generalize hA : Ar.std = A
  generalize hL : Lp _ _ _ = L
  refine cd_close zq ?_
  repeat' (first
    | (refine z_open zq ?_; try dsimp only)
    | refine cd_seq zq ?_ (lp_mono hL)
    | refine cd_blk zq ?_
    | refine cd_ret ?_
    | refine cd_skip ?_
    | refine cd_exit ?_
    | refine cd_loop ?_
    | refine cd_cond rfl ?_
    | refine cd_condT rfl ?_
    | refine cd_condF rfl ?_
    | (refine Cd.mk ?_; cbv)
    | (refine Ends1.mk ?_; cbv)
    | (refine Fin1.mk ?_; cbv)
    | exact trivial
    | refine And.intro ?_ ?_
    | refine orf fun _ => ?_
    | refine ort fun _ => ?_)
  all_goals first | (show L _ _ _; skip) | (clear hL hfs zq Z hq nx; subst hA hF hO; simp only [Rv.std, Ar.std] at * <;> grind [stdCmp]; done)
  rename_i hx
  have hi : i < n.length := by
    clear hL hfs zq Z hF hO hq nx
    subst hA
    simp only [Ar.std] at hx
    grind [stdCmp]
  clear hx n3
  subst hL
  refine loop_z (cx_ok hfs) (v2Q l d (n.getD i.toNat 0) o) (v2I n l d i) (v2M) (vR 9) ⟨1, o⟩ ?_ ?_ ?_
  · exact ⟨Int.le_refl 1, (by show (1 : Int) ≤ 65; decide), by simp [vw3]⟩
  · cbv
    repeat' (first | exact trivial | exact rfl | refine And.intro ?_ ?_)
  rintro ⟨p, o2⟩ hq2 O2 hO2
  obtain ⟨m1, m2, m3, _, m5⟩ := v2_next (q := o2) n1 hk2 hq2
  have nx2 := fun q => (v2_next (q := q) n1 hk2 hq2).2.2.2.1
  subst hA
  generalize hA : Ar.std = A
  generalize hL : Lp _ _ _ = L
  refine cd_close zq ?_
  repeat' (first
    | (refine z_open zq ?_; try dsimp only)
    | refine cd_seq zq ?_ (lp_mono hL)
    | refine cd_blk zq ?_
    | refine cd_ret ?_
    | refine cd_skip ?_
    | refine cd_exit ?_
    | refine cd_loop ?_
    | refine cd_cond rfl ?_
    | refine cd_condT rfl ?_
    | refine cd_condF rfl ?_
    | (refine Cd.mk ?_; cbv)
    | (refine Ends1.mk ?_; cbv)
    | (refine Fin1.mk ?_; cbv)
    | exact trivial
    | refine And.intro ?_ ?_
    | refine orf fun _ => ?_
    | refine ort fun _ => ?_)
  all_goals first | (show L _ _ _; skip) | (clear hL hfs zq Z hq hq2 nx2; subst hA hF hO hO2; simp only [Rv.std, Ar.std] at * <;> grind [stdCmp]; done)
  rename_i hx
  have hp : p ≤ 64 := by
    clear hL hfs zq Z hF hO hq nx hO2 hq2 nx2
    subst hA
    simp only [Ar.std] at hx
    grind [stdCmp]
  clear hx m5
  subst hL
  refine loop_z (cx_ok hfs) (cpQ l (vw1 d (n.getD i.toNat 0) p) o2) (v3I n l d i p) (coM l) (vR 10) ⟨0, o2⟩ ?_ ?_ ?_
  · exact cp_zero _ _ _
  · cbv
    repeat' (first | exact trivial | exact rfl | refine And.intro ?_ ?_)
  rintro ⟨k, o3⟩ hq3 O3 hO3
  have hst := fun h => cp_step (by omega) hq3 h
  have hle := cp_len (vw1_len _ _ _) hq3
  have hen := fun h => nx2 o3 hp (cp_end hq3 h)
  have k0 := hq3.1
  have k1 := hq3.2.1
  dsimp only at k0 k1 hst
  have hin : vw1 d (n.getD i.toNat 0) p (l.getD k.toNat []) = if ri (l.getD k.toNat []) 0 = (n.getD i.toNat 0) ∧ ri (l.getD k.toNat []) 1 = p ∨ ri (l.getD k.toNat []) 1 = (n.getD i.toNat 0) ∧ ri (l.getD k.toNat []) 0 = p then [[D.int (n.getD i.toNat 0), D.int p, D.int (ri (l.getD k.toNat []) 2), D.int 1, D.bool (has3 d (l.getD k.toNat []))]] else [] := rfl
  subst hA
  generalize hA : Ar.std = A
  generalize hL : Lp _ _ _ = L
  refine cd_close zq ?_
  repeat' (first
    | (refine z_open zq ?_; try dsimp only)
    | refine cd_seq zq ?_ (lp_mono hL)
    | refine cd_blk zq ?_
    | refine cd_ret ?_
    | refine cd_skip ?_
    | refine cd_exit ?_
    | refine cd_loop ?_
    | refine cd_cond rfl ?_
    | refine cd_condT rfl ?_
    | refine cd_condF rfl ?_
    | (refine Cd.mk ?_; cbv)
    | (refine Ends1.mk ?_; cbv)
    | (refine Fin1.mk ?_; cbv)
    | exact trivial
    | refine And.intro ?_ ?_
    | refine orf fun _ => ?_
    | refine ort fun _ => ?_)
  all_goals first | (show L _ _ _; skip) | (clear hL hfs zq Z hq hq2 hq3 nx nx2; subst hA hF hO hO2 hO3; simp only [Rv.std, Ar.std] at * <;> grind [stdCmp]; done)
  rename_i hx1 hx2
  have hm : k < l.length ∧ (ri (l.getD k.toNat []) 0 = (n.getD i.toNat 0) ∧ ri (l.getD k.toNat []) 1 = p ∨ ri (l.getD k.toNat []) 1 = (n.getD i.toNat 0) ∧ ri (l.getD k.toNat []) 0 = p) := by
    clear hL hfs zq Z hF hO hq nx hO2 hq2 nx2 hO3 hq3 hen hst
    subst hA
    simp only [Ar.std] at *
    grind [stdCmp]
  clear hx1 hx2 hen
  have hone := (hst hm.1).2.2.2 _ (hin.trans (if_pos hm.2))
  have hone1 := (hst hm.1).1
  have hone2 := (hst hm.1).2.1
  clear hst hin
  subst hL
  refine loop_z (cx_ok hfs) (v4Q d (ri (l.getD k.toNat []) 0) (ri (l.getD k.toNat []) 1) (ri (l.getD k.toNat []) 2)) (v4I n l d i p k (A.ri (A.atE l k) 0) (A.ri (A.atE l k) 1) (A.ri (A.atE l k) 2) o3) (v4M d) v4R ⟨0, false⟩ ?_ ?_ ?_
  · exact ⟨Int.le_refl 0, Int.natCast_nonneg _, rfl⟩
  · cbv
    repeat' (first | exact trivial | exact rfl | refine And.intro ?_ ?_)
  rintro ⟨j, t⟩ hq4 O4 hO4
  have hs4 := v4_next hk3 hq4
  have hh : has3 d (l.getD k.toNat []) = d.any fun z => decide (ri z 0 = ri (l.getD k.toNat []) 0 ∧ ri z 1 = ri (l.getD k.toNat []) 1 ∧ ri z 2 = ri (l.getD k.toNat []) 2) := rfl
  subst hA
  generalize hA : Ar.std = A
  generalize hL : Lp _ _ _ = L
  refine cd_close zq ?_
  repeat' (first
    | (refine z_open zq ?_; try dsimp only)
    | refine cd_seq zq ?_ (lp_mono hL)
    | refine cd_blk zq ?_
    | refine cd_ret ?_
    | refine cd_skip ?_
    | refine cd_exit ?_
    | refine cd_loop ?_
    | refine cd_cond rfl ?_
    | refine cd_condT rfl ?_
    | refine cd_condF rfl ?_
    | (refine Cd.mk ?_; cbv)
    | (refine Ends1.mk ?_; cbv)
    | (refine Fin1.mk ?_; cbv)
    | exact trivial
    | refine And.intro ?_ ?_
    | refine orf fun _ => ?_
    | refine ort fun _ => ?_)
  all_goals (clear hL hfs zq Z hq hq2 hq3 hq4 nx nx2; subst hA hF hO hO2 hO3 hO4; simp only [Rv.std, Ar.std] at * <;> grind [stdCmp]; done)
theorem ok_rview : ConOk Try.prog 35 (c_rview Rv.std) := by
  refine con_of FsOk.nil Try.func35 rfl rfl fun xs h p hp => ?_
  unfold c_rview at hp
  split at hp
  · cases hp
    exact ⟨lee_le rfl, fun hC _ => x_rview _ _ _ hC⟩
  · cases hp
end Go.Proofs.Ytfioaidmgcibaaa.RoV
