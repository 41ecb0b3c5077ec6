/-
  the answer: what acts on links do. No condition but size.
-/
import Derived.Test.YtphbfoafgfnmmaaSkQ
namespace Go.Proofs.Ytphbfoafgfnmmaa.SkX
open Go Go.Proofs.Ytphbfoafgfnmmaa.Ry Go.Proofs.Ytphbfoafgfnmmaa.SkR Go.Proofs.Ytphbfoafgfnmmaa.SkS Go.Proofs.Ytphbfoafgfnmmaa.SkQ

open Go.Proofs.Ytphbfoafgfnmmaa.EgR (mayE c_remay ok_remay)
def nrE (y : E) : E := [.int (ri y 0), .int (ri y 1), .int (ri y 2)]
def sxI (a b : Int) : Int := if b < a then b else a
def syI (a b : Int) : Int := if b < a then a else b
/-- All but the one at a place. -/
def goX : List E → Int → Int → List E
  | [], _, _ => []
  | y :: l, i, c => if i = c then goX l (i + 1) c else nrE y :: goX l (i + 1) c
def offB (x y : Int) (z : E) : Bool := !decide (ri z 0 = x ∧ ri z 1 = y ∨ ri z 0 = y ∧ ri z 1 = x)
def offF (f : List E) (x y : Int) : List E := (f.filter (offB x y)).map nrm
def hitB (x y : Int) (z : E) : Bool := decide (ri z 0 > x ∨ ri z 0 = x ∧ ri z 1 ≥ y)
/-- One more, or in the place of another. -/
def goU (x y : Int) (e : E) : List E → Int → Int → Bool → List E
  | [], _, _, p => if p = true then [] else [e]
  | z :: l, i, c, p => (if p = false ∧ hitB x y z = true then [e] else []) ++ ((if i = c then [] else [nrE z]) ++ goU x y e l (i + 1) c (p || hitB x y z))
structure XG where
  i : Int
  o : List E
def gxQ (u : List E) (c : Int) (y : XG) : Prop := 0 ≤ y.i ∧ y.i ≤ u.length ∧ y.o.length ≤ y.i.toNat ∧ y.o ++ goX (u.drop y.i.toNat) y.i c = goX u 0 c
def gxM (u : List E) (y : XG) : Nat := u.length - y.i.toNat
theorem gx_zero (u : List E) (c : Int) : gxQ u c ⟨0, []⟩ := ⟨Int.le_refl 0, Int.natCast_nonneg _, Nat.le_refl _, rfl⟩
theorem gx_step {u : List E} (hl : u.length ≤ 1000000) {c i : Int} {o : List E} (hq : gxQ u c ⟨i, o⟩) (h : i < u.length) : stdBin .add .i64 i 1 = i + 1 ∧ (∀ p, gxM u ⟨i + 1, p⟩ < gxM u ⟨i, o⟩) ∧ o.length ≤ 1000000 ∧
    (i = c → gxQ u c ⟨i + 1, o⟩) ∧ (¬ i = c → gxQ u c ⟨i + 1, o ++ [[.int (ri (u.getD i.toNat []) 0), .int (ri (u.getD i.toNat []) 1), .int (ri (u.getD i.toNat []) 2)]]⟩) := by
  obtain ⟨h0, h1, h2, h3⟩ := hq
  simp only at h0 h1 h2 h3
  have hi : i.toNat < u.length := by omega
  have ei : (i + 1).toNat = i.toNat + 1 := by omega
  rw [List.drop_eq_getElem_cons hi] at h3
  simp only [goX] at h3
  have hg : u.getD i.toNat [] = u[i.toNat] := by rw [List.getD_eq_getElem?_getD, List.getElem?_eq_getElem hi]; rfl
  refine ⟨by rw [b_add, wr _ (by omega) (by omega)], fun p => by simp only [gxM]; omega, by omega, fun g => ⟨by simp only; omega, by simp only; omega, by simp only; omega, ?_⟩, fun g => ⟨by simp only; omega, by simp only; omega, by simp only [List.length_append, List.length_singleton]; omega, ?_⟩⟩
  · simp only
    rw [if_pos g] at h3
    rw [ei]
    exact h3
  · simp only
    rw [if_neg g] at h3
    rw [ei, hg, List.append_assoc]
    exact h3
theorem gx_end {u : List E} {c i : Int} {o : List E} (hq : gxQ u c ⟨i, o⟩) (h : ¬ i < u.length) : o = goX u 0 c := by
  obtain ⟨h0, h1, h2, h3⟩ := hq
  simp only at h0 h1 h2 h3
  rw [List.drop_of_length_le (by omega)] at h3
  rw [← h3]
  exact (List.append_nil _).symm
def ofQ (f : List E) (a b : Int) (y : XG) : Prop := 0 ≤ y.i ∧ y.i ≤ f.length ∧ y.o.length ≤ y.i.toNat ∧ y.o = offF (f.take y.i.toNat) a b
theorem of_zero (f : List E) (a b : Int) : ofQ f a b ⟨0, []⟩ := ⟨Int.le_refl 0, Int.natCast_nonneg _, Nat.le_refl _, rfl⟩
theorem of_step {f : List E} (hl : f.length ≤ 1000000) {a b i : Int} {o : List E} (hq : ofQ f a b ⟨i, o⟩) (h : i < f.length) : stdBin .add .i64 i 1 = i + 1 ∧ (∀ p, gxM f ⟨i + 1, p⟩ < gxM f ⟨i, o⟩) ∧ o.length ≤ 1000000 ∧
    (ri (f.getD i.toNat []) 0 = a ∧ ri (f.getD i.toNat []) 1 = b ∨ ri (f.getD i.toNat []) 0 = b ∧ ri (f.getD i.toNat []) 1 = a → ofQ f a b ⟨i + 1, o⟩) ∧ (¬ (ri (f.getD i.toNat []) 0 = a ∧ ri (f.getD i.toNat []) 1 = b ∨ ri (f.getD i.toNat []) 0 = b ∧ ri (f.getD i.toNat []) 1 = a) → ofQ f a b ⟨i + 1, o ++ [[.int (ri (f.getD i.toNat []) 0), .int (ri (f.getD i.toNat []) 1), .ints (rl (f.getD i.toNat []) 2), .bool (rb (f.getD i.toNat []) 3)]]⟩) := by
  obtain ⟨h0, h1, h2, h3⟩ := hq
  simp only at h0 h1 h2 h3
  have hn := tk_next f i h0 h
  generalize f.getD i.toNat [] = y at *
  refine ⟨by rw [b_add, wr _ (by omega) (by omega)], fun p => by simp only [gxM]; omega, by omega, fun g => ⟨by simp only; omega, by simp only; omega, by simp only; omega, ?_⟩, fun g => ⟨by simp only; omega, by simp only; omega, by simp only [List.length_append, List.length_singleton]; omega, ?_⟩⟩
  · simp only
    have hy : offB a b y = false := by unfold offB; rw [decide_eq_true g]; rfl
    rw [hn, h3]
    unfold offF
    rw [List.filter_append]
    simp [hy]
  · simp only
    have hy : offB a b y = true := by unfold offB; rw [decide_eq_false g]; rfl
    rw [hn, h3]
    unfold offF
    rw [List.filter_append]
    simp [hy, nrm]
theorem of_end {f : List E} {a b i : Int} {o : List E} (hq : ofQ f a b ⟨i, o⟩) (h : ¬ i < f.length) : o = offF f a b := by
  obtain ⟨h0, h1, h2, h3⟩ := hq
  simp only at h0 h1 h2 h3
  have e : i = f.length := by omega
  rw [e, Int.toNat_natCast, List.take_length] at h3
  exact h3
structure XH where
  i : Int
  p : Bool
  o : List E
def guQ (u : List E) (a b c : Int) (e : E) (y : XH) : Prop := 0 ≤ y.i ∧ y.i ≤ u.length ∧ y.o.length ≤ 2 * y.i.toNat ∧ y.o ++ goU a b e (u.drop y.i.toNat) y.i c y.p = goU a b e u 0 c false
def guM (u : List E) (y : XH) : Nat := u.length - y.i.toNat
theorem gu_zero (u : List E) (a b c : Int) (e : E) : guQ u a b c e ⟨0, false, []⟩ := ⟨Int.le_refl 0, Int.natCast_nonneg _, Nat.le_refl _, rfl⟩
theorem gu_step {u : List E} (hl : u.length ≤ 1000000) {a b c i : Int} {e : E} {p : Bool} {o : List E} (hq : guQ u a b c e ⟨i, p, o⟩) (h : i < u.length) : stdBin .add .i64 i 1 = i + 1 ∧ (∀ p' o', guM u ⟨i + 1, p', o'⟩ < guM u ⟨i, p, o⟩) ∧ o.length ≤ 2000000 ∧
    (hitB a b (u.getD i.toNat []) = decide (ri (u.getD i.toNat []) 0 > a ∨ ri (u.getD i.toNat []) 0 = a ∧ ri (u.getD i.toNat []) 1 ≥ b)) ∧
    guQ u a b c e ⟨i + 1, p || hitB a b (u.getD i.toNat []), o ++ ((if p = false ∧ hitB a b (u.getD i.toNat []) = true then [e] else []) ++ (if i = c then [] else [[.int (ri (u.getD i.toNat []) 0), .int (ri (u.getD i.toNat []) 1), .int (ri (u.getD i.toNat []) 2)]]))⟩ := by
  obtain ⟨h0, h1, h2, h3⟩ := hq
  simp only at h0 h1 h2 h3
  have hi : i.toNat < u.length := by omega
  have ei : (i + 1).toNat = i.toNat + 1 := by omega
  rw [List.drop_eq_getElem_cons hi] at h3
  simp only [goU] at h3
  have hg : u.getD i.toNat [] = u[i.toNat] := by rw [List.getD_eq_getElem?_getD, List.getElem?_eq_getElem hi]; rfl
  refine ⟨by rw [b_add, wr _ (by omega) (by omega)], fun p o => by simp only [guM]; omega, by omega, rfl, by simp only; omega, by simp only; omega, ?_, ?_⟩
  · simp only [List.length_append]
    split <;> split <;> simp only [List.length_nil, List.length_singleton] <;> omega
  · simp only
    rw [ei, hg, List.append_assoc, List.append_assoc]
    exact h3
theorem gu_ways {u : List E} (hl : u.length ≤ 1000000) {a b c i : Int} {e : E} {p : Bool} {o : List E} (hq : guQ u a b c e ⟨i, p, o⟩) (h : i < u.length) : stdBin .add .i64 i 1 = i + 1 ∧ (∀ p' o', guM u ⟨i + 1, p', o'⟩ < guM u ⟨i, p, o⟩) ∧ o.length ≤ 2000000 ∧
    (p = false → (ri (u.getD i.toNat []) 0 > a ∨ ri (u.getD i.toNat []) 0 = a ∧ ri (u.getD i.toNat []) 1 ≥ b) → i = c → guQ u a b c e ⟨i + 1, true, o ++ [e]⟩) ∧
    (p = false → (ri (u.getD i.toNat []) 0 > a ∨ ri (u.getD i.toNat []) 0 = a ∧ ri (u.getD i.toNat []) 1 ≥ b) → ¬ i = c → guQ u a b c e ⟨i + 1, true, (o ++ [e]) ++ [[.int (ri (u.getD i.toNat []) 0), .int (ri (u.getD i.toNat []) 1), .int (ri (u.getD i.toNat []) 2)]]⟩) ∧
    ((p = true ∨ ¬ (ri (u.getD i.toNat []) 0 > a ∨ ri (u.getD i.toNat []) 0 = a ∧ ri (u.getD i.toNat []) 1 ≥ b)) → i = c → guQ u a b c e ⟨i + 1, p, o⟩) ∧
    ((p = true ∨ ¬ (ri (u.getD i.toNat []) 0 > a ∨ ri (u.getD i.toNat []) 0 = a ∧ ri (u.getD i.toNat []) 1 ≥ b)) → ¬ i = c → guQ u a b c e ⟨i + 1, p, o ++ [[.int (ri (u.getD i.toNat []) 0), .int (ri (u.getD i.toNat []) 1), .int (ri (u.getD i.toNat []) 2)]]⟩) := by
  obtain ⟨s1, s2, s3, s4, s5⟩ := gu_step hl hq h
  refine ⟨s1, s2, s3, fun g1 g2 g3 => ?_, fun g1 g2 g3 => ?_, fun g1 g3 => ?_, fun g1 g3 => ?_⟩
  · rw [s4, decide_eq_true g2, g1, if_pos ⟨rfl, rfl⟩, if_pos g3] at s5
    simpa using s5
  · rw [s4, decide_eq_true g2, g1, if_pos ⟨rfl, rfl⟩, if_neg g3] at s5
    simpa using s5
  · rcases g1 with g1 | g1
    · rw [g1, if_neg (fun q => by cases q.1), if_pos g3] at s5
      rw [g1]
      simpa using s5
    · rw [s4, decide_eq_false g1, if_neg (fun q => by cases q.2), if_pos g3] at s5
      simpa using s5
  · rcases g1 with g1 | g1
    · rw [g1, if_neg (fun q => by cases q.1), if_neg g3] at s5
      rw [g1]
      simpa using s5
    · rw [s4, decide_eq_false g1, if_neg (fun q => by cases q.2), if_neg g3] at s5
      simpa using s5
theorem gu_end {u : List E} {a b c i : Int} {e : E} {p : Bool} {o : List E} (hq : guQ u a b c e ⟨i, p, o⟩) (h : ¬ i < u.length) : (p = true → o = goU a b e u 0 c false) ∧ (p = false → o ++ [e] = goU a b e u 0 c false) ∧ o.length ≤ 2000000 + 2 * u.length := by
  obtain ⟨h0, h1, h2, h3⟩ := hq
  simp only at h0 h1 h2 h3
  rw [List.drop_of_length_le (by omega)] at h3
  simp only [goU] at h3
  refine ⟨fun g => ?_, fun g => ?_, by omega⟩
  · rw [if_pos g, List.append_nil] at h3
    exact h3
  · rw [g] at h3
    exact h3
def lkU (u : List E) (k a b w : Int) : List E := if k = 9 then goX u 0 (upX u (sxI a b) (syI a b)) else if mayE (sxI a b) (syI a b) w = false ∨ upX u (sxI a b) (syI a b) < 0 ∧ u.length = 512 then u else goU (sxI a b) (syI a b) [.int (sxI a b), .int (syI a b), .int w] u 0 (upX u (sxI a b) (syI a b)) false
def lkF (f : List E) (k a b : Int) : List E := if k = 9 then offF f (sxI a b) (syI a b) else f
def cellR (st : St) (n j : Nat) : List E :=
  match hget st.heap n with
  | some (.cells _ cs) => match cs[j]? with
    | some (.sl _ c) => ctR c
    | _ => []
  | _ => []
noncomputable def g1I (f u : List E) (a b c : Int) (y : XG) : St := stOf Try.f35.ntmps [(2, .ptr 1 0), (4, .ptr 4 0), (5, .val (.int .i64 a)), (6, .val (.int .i64 b)), (8, .val (.int .i64 c)), (9, .ptr 2 0), (10, .val (.int .i64 y.i))] [(1, .cells 25 [.sl none (.recs (.int .i64 (.int .i64 (.ints .u8 (.bool .nil)))) f), .sl none (.recs (.int .i64 (.int .i64 (.int .i64 .nil))) u)]), (2, .cells 25 [.val (.slice none 0 0), .sl (some (5, 48)) (.recs (.int .i64 (.int .i64 (.int .i64 .nil))) y.o)]), (4, .cells 25 [.val (.slice none 0 0), .val (.slice none 0 0)]), (5, .tok)] [Any, Any]
def g1R (st : St) : XG := ⟨slotI st 10, cellR st 2 1⟩
noncomputable def g2I (f u v : List E) (a b : Int) (y : XG) : St := stOf Try.f35.ntmps [(2, .ptr 1 0), (4, .ptr 4 0), (5, .val (.int .i64 a)), (6, .val (.int .i64 b)), (9, .ptr 2 0), (11, .val (.int .i64 y.i))] [(1, .cells 25 [.sl none (.recs (.int .i64 (.int .i64 (.ints .u8 (.bool .nil)))) f), .sl none (.recs (.int .i64 (.int .i64 (.int .i64 .nil))) u)]), (2, .cells 25 [.sl (some (5, 32)) (.recs (.int .i64 (.int .i64 (.ints .u8 (.bool .nil)))) y.o), .sl none (.recs (.int .i64 (.int .i64 (.int .i64 .nil))) v)]), (4, .cells 25 [.val (.slice none 0 0), .val (.slice none 0 0)]), (5, .tok)] [Any, Any]
def g2R (st : St) : XG := ⟨slotI st 11, cellR st 2 0⟩
noncomputable def g3I (f u : List E) (a b w c : Int) (y : XH) : St := stOf Try.f35.ntmps [(2, .ptr 1 0), (4, .ptr 4 0), (5, .val (.int .i64 a)), (6, .val (.int .i64 b)), (7, .ptr 3 0), (8, .val (.int .i64 c)), (9, .ptr 2 0), (13, .val (.bool y.p)), (14, .val (.int .i64 y.i))] [(1, .cells 25 [.sl none (.recs (.int .i64 (.int .i64 (.ints .u8 (.bool .nil)))) f), .sl none (.recs (.int .i64 (.int .i64 (.int .i64 .nil))) u)]), (2, .cells 25 [.val (.slice none 0 0), .sl (some (5, 48)) (.recs (.int .i64 (.int .i64 (.int .i64 .nil))) y.o)]), (3, .cells 48 [.val (.int .i64 a), .val (.int .i64 b), .val (.int .i64 w)]), (4, .cells 25 [.val (.slice none 0 0), .val (.slice none 0 0)]), (5, .tok)] [Any, Any]
def g3R (st : St) : XH := ⟨slotI st 14, slotB st 13, cellR st 2 1⟩

structure Sx where
  x_u : List E → Int → Int → Int → Int → List E
  x_f : List E → Int → Int → Int → List E
  x_s : Int → Int → Int
  x_t : Int → Int → Int
  x_o : List E → List E → Bool
def Sx.std : Sx := ⟨lkU, lkF, sxI, syI, fun f u => decide (f.length ≤ 1000000 ∧ u.length ≤ 1000000)⟩

def c_rlink (F : Sx) : Con := fun xs h => match xs, h with
  | [.agg [.sl none (.recs (.int .i64 (.int .i64 (.ints .u8 (.bool .nil)))) v_f), .sl none (.recs (.int .i64 (.int .i64 (.int .i64 .nil))) v_u)], .agg [.val (.int .i64 o_k), .val (.int .i64 o_a), .val (.int .i64 o_b), .val (.int .i64 _), .val (.int .i64 o_w)]], [] => some ⟨F.x_o v_f v_u = true, .sa (.agg [.sl none (.recs (.int .i64 (.int .i64 (.ints .u8 (.bool .nil)))) (F.x_f v_f o_k o_a o_b)), .sl none (.recs (.int .i64 (.int .i64 (.int .i64 .nil))) (F.x_u v_u o_k o_a o_b o_w))]), [], [Any, Any]⟩
  | _, _ => none
set_option maxHeartbeats 4000000 in
set_option maxRecDepth 100000 in
theorem x_rlink (v_f : List E) (v_u : List E) (o_k : Int) (o_a : Int) (o_b : Int) (o_n : Int) (o_w : Int) (hC : Sx.std.x_o v_f v_u = true) : Does [(19, c_rup SkQ.Sq.std), (53, c_remay EgR.Fs.std)] Try.f35 [.agg [.sl none (.recs (.int .i64 (.int .i64 (.ints .u8 (.bool .nil)))) v_f), .sl none (.recs (.int .i64 (.int .i64 (.int .i64 .nil))) v_u)], .agg [.val (.int .i64 o_k), .val (.int .i64 o_a), .val (.int .i64 o_b), .val (.int .i64 o_n), .val (.int .i64 o_w)]] [] ⟨Sx.std.x_o v_f v_u = true, .sa (.agg [.sl none (.recs (.int .i64 (.int .i64 (.ints .u8 (.bool .nil)))) (Sx.std.x_f v_f o_k o_a o_b)), .sl none (.recs (.int .i64 (.int .i64 (.int .i64 .nil))) (Sx.std.x_u v_u o_k o_a o_b o_w))]), [], [Any, Any]⟩ := by
  intro b gv
  have hk : v_f.length ≤ 1000000 ∧ v_u.length ≤ 1000000 := of_decide_eq_true (show decide _ = true from hC)
  have hui := ux_in v_u (sxI o_a o_b) (syI o_a o_b)
  have hfs := (FsOk.cons ok_rup (FsOk.cons ok_remay FsOk.nil rfl) rfl)
  generalize hF : Sx.std = F at hC hfs ⊢
  generalize hG0 : EgR.Fs.std = G0 at hC hfs ⊢
  generalize hG1 : SkQ.Sq.std = G1 at hC hfs ⊢
  generalize hA : Ar.std = A
  generalize hL : Lp _ _ _ = L
  obtain ⟨Z, zq⟩ := z_all
  refine @cd_open _ _ _ _ _ _ _ (lp_mono hL) _ _ zq rfl ?_
  repeat' (first
    | (refine z_open zq ?_; try dsimp only)
    | refine cd_seq zq ?_ (lp_mono hL)
    | refine cd_blk zq ?_
    | refine cd_ret ?_
    | refine cd_skip ?_
    | refine cd_exit ?_
    | refine cd_loop ?_
    | refine cd_cond rfl ?_
    | refine cd_condT rfl ?_
    | refine cd_condF rfl ?_
    | (refine Cd.mk ?_; cbv)
    | (refine Ends1.mk ?_; cbv)
    | (refine Fin1.mk ?_; cbv)
    | exact trivial
    | refine And.intro ?_ ?_
    | refine orf fun _ => ?_
    | refine ort fun _ => ?_)
  skip -- hfs
  all_goals first | (show L _ _ _; skip) | (clear hL hfs zq Z; subst hA hF hG0 hG1; simp only [Sx.std, EgR.Fs.std, SkQ.Sq.std, Ar.std] at * <;> grind [stdCmp, lkU, lkF, sxI, syI]; done)
  · rename_i hs hk9
    have hxy : sxI o_a o_b = o_b ∧ syI o_a o_b = o_a := by
      clear hL hfs zq Z
      subst hA
      simp only [Ar.std] at hs
      unfold sxI syI
      grind [stdCmp]
    rw [hxy.1, hxy.2] at hui
    subst hL
    refine loop_z (cx_ok hfs) (gxQ v_u (G1.q_x v_u o_b o_a)) (g1I v_f v_u o_b o_a (G1.q_x v_u o_b o_a)) (gxM v_u) g1R ⟨0, []⟩ ?_ ?_ ?_
    · exact gx_zero _ _
    · cbv
      repeat' (first | exact trivial | exact rfl | refine And.intro ?_ ?_)
    rintro ⟨i, o⟩ hq O hO
    have hst := fun h => gx_step hk.2 hq h
    have hen := fun h => gx_end hq h
    have q0 := hq.1
    have q1 := hq.2.1
    dsimp only at q0 q1
    subst hA
    generalize hA : Ar.std = A
    generalize hL : Lp _ _ _ = L
    refine cd_close zq ?_
    repeat' (first
      | (refine z_open zq ?_; try dsimp only)
      | refine cd_seq zq ?_ (lp_mono hL)
      | refine cd_blk zq ?_
      | refine cd_ret ?_
      | refine cd_skip ?_
      | refine cd_exit ?_
      | refine cd_loop ?_
      | refine cd_cond rfl ?_
      | refine cd_condT rfl ?_
      | refine cd_condF rfl ?_
      | (refine Cd.mk ?_; cbv)
      | (refine Ends1.mk ?_; cbv)
      | (refine Fin1.mk ?_; cbv)
      | exact trivial
      | refine And.intro ?_ ?_
      | refine orf fun _ => ?_
      | refine ort fun _ => ?_)
    all_goals first | (show L _ _ _; skip) | (clear hL hfs zq Z hq; subst hA hF hG0 hG1 hO; simp only [Sx.std, SkQ.Sq.std, Ar.std] at * <;> grind [stdCmp, lkU, lkF]; done)
    rename_i hx
    have ho := hen (by
      clear hL hfs zq Z hq hst hen hO
      subst hA
      simp only [Ar.std] at hx
      grind [stdCmp])
    clear hx hst hen hO
    subst hL
    refine loop_z (cx_ok hfs) (ofQ v_f o_b o_a) (g2I v_f v_u o o_b o_a) (gxM v_f) g2R ⟨0, []⟩ ?_ ?_ ?_
    · exact of_zero _ _ _
    · cbv
      repeat' (first | exact trivial | exact rfl | refine And.intro ?_ ?_)
    rintro ⟨k, p⟩ hq2 O2 hO2
    have hst := fun h => of_step hk.1 hq2 h
    have hen := fun h => of_end hq2 h
    have q02 := hq2.1
    have q12 := hq2.2.1
    dsimp only at q02 q12
    subst hA
    generalize hA : Ar.std = A
    generalize hL : Lp _ _ _ = L
    refine cd_close zq ?_
    repeat' (first
      | (refine z_open zq ?_; try dsimp only)
      | refine cd_seq zq ?_ (lp_mono hL)
      | refine cd_blk zq ?_
      | refine cd_ret ?_
      | refine cd_skip ?_
      | refine cd_exit ?_
      | refine cd_loop ?_
      | refine cd_cond rfl ?_
      | refine cd_condT rfl ?_
      | refine cd_condF rfl ?_
      | (refine Cd.mk ?_; cbv)
      | (refine Ends1.mk ?_; cbv)
      | (refine Fin1.mk ?_; cbv)
      | exact trivial
      | refine And.intro ?_ ?_
      | refine orf fun _ => ?_
      | refine ort fun _ => ?_)
    all_goals (clear hL hfs zq Z hq2; subst hA hF hG0 hG1 hO2; simp only [Sx.std, SkQ.Sq.std, Ar.std] at * <;> grind [stdCmp, lkU, lkF]; done)
  · rename_i hs hk9 hmy
    have hxy : sxI o_a o_b = o_b ∧ syI o_a o_b = o_a := by
      clear hL hfs zq Z
      subst hA
      simp only [Ar.std] at hs
      unfold sxI syI
      grind [stdCmp]
    rw [hxy.1, hxy.2] at hui
    subst hL
    refine loop_z (cx_ok hfs) (guQ v_u o_b o_a (G1.q_x v_u o_b o_a) [.int o_b, .int o_a, .int o_w]) (g3I v_f v_u o_b o_a o_w (G1.q_x v_u o_b o_a)) (guM v_u) g3R ⟨0, false, []⟩ ?_ ?_ ?_
    · exact gu_zero _ _ _ _ _
    · cbv
      repeat' (first | exact trivial | exact rfl | refine And.intro ?_ ?_)
    rintro ⟨i, p, o⟩ hq O hO
    have hst := fun h => gu_ways hk.2 hq h
    have hen := fun h => gu_end hq h
    have q0 := hq.1
    have q1 := hq.2.1
    dsimp only at q0 q1
    subst hA
    generalize hA : Ar.std = A
    generalize hL : Lp _ _ _ = L
    refine cd_close zq ?_
    repeat' (first
      | (refine z_open zq ?_; try dsimp only)
      | refine cd_seq zq ?_ (lp_mono hL)
      | refine cd_blk zq ?_
      | refine cd_ret ?_
      | refine cd_skip ?_
      | refine cd_exit ?_
      | refine cd_loop ?_
      | refine cd_cond rfl ?_
      | refine cd_condT rfl ?_
      | refine cd_condF rfl ?_
      | (refine Cd.mk ?_; cbv)
      | (refine Ends1.mk ?_; cbv)
      | (refine Fin1.mk ?_; cbv)
      | exact trivial
      | refine And.intro ?_ ?_
      | refine orf fun _ => ?_
      | refine ort fun _ => ?_)
    all_goals (clear hL hfs zq Z hq; subst hA hF hG0 hG1 hO; simp only [Sx.std, EgR.Fs.std, SkQ.Sq.std, Ar.std] at * <;> grind [stdCmp, lkU, lkF]; done)
  · rename_i hs hk9
    have hxy : sxI o_a o_b = o_a ∧ syI o_a o_b = o_b := by
      clear hL hfs zq Z
      subst hA
      simp only [Ar.std] at hs
      unfold sxI syI
      grind [stdCmp]
    rw [hxy.1, hxy.2] at hui
    subst hL
    refine loop_z (cx_ok hfs) (gxQ v_u (G1.q_x v_u o_a o_b)) (g1I v_f v_u o_a o_b (G1.q_x v_u o_a o_b)) (gxM v_u) g1R ⟨0, []⟩ ?_ ?_ ?_
    · exact gx_zero _ _
    · cbv
      repeat' (first | exact trivial | exact rfl | refine And.intro ?_ ?_)
    rintro ⟨i, o⟩ hq O hO
    have hst := fun h => gx_step hk.2 hq h
    have hen := fun h => gx_end hq h
    have q0 := hq.1
    have q1 := hq.2.1
    dsimp only at q0 q1
    subst hA
    generalize hA : Ar.std = A
    generalize hL : Lp _ _ _ = L
    refine cd_close zq ?_
    repeat' (first
      | (refine z_open zq ?_; try dsimp only)
      | refine cd_seq zq ?_ (lp_mono hL)
      | refine cd_blk zq ?_
      | refine cd_ret ?_
      | refine cd_skip ?_
      | refine cd_exit ?_
      | refine cd_loop ?_
      | refine cd_cond rfl ?_
      | refine cd_condT rfl ?_
      | refine cd_condF rfl ?_
      | (refine Cd.mk ?_; cbv)
      | (refine Ends1.mk ?_; cbv)
      | (refine Fin1.mk ?_; cbv)
      | exact trivial
      | refine And.intro ?_ ?_
      | refine orf fun _ => ?_
      | refine ort fun _ => ?_)
    all_goals first | (show L _ _ _; skip) | (clear hL hfs zq Z hq; subst hA hF hG0 hG1 hO; simp only [Sx.std, SkQ.Sq.std, Ar.std] at * <;> grind [stdCmp, lkU, lkF]; done)
    rename_i hx
    have ho := hen (by
      clear hL hfs zq Z hq hst hen hO
      subst hA
      simp only [Ar.std] at hx
      grind [stdCmp])
    clear hx hst hen hO
    subst hL
    refine loop_z (cx_ok hfs) (ofQ v_f o_a o_b) (g2I v_f v_u o o_a o_b) (gxM v_f) g2R ⟨0, []⟩ ?_ ?_ ?_
    · exact of_zero _ _ _
    · cbv
      repeat' (first | exact trivial | exact rfl | refine And.intro ?_ ?_)
    rintro ⟨k, p⟩ hq2 O2 hO2
    have hst := fun h => of_step hk.1 hq2 h
    have hen := fun h => of_end hq2 h
    have q02 := hq2.1
    have q12 := hq2.2.1
    dsimp only at q02 q12
    subst hA
    generalize hA : Ar.std = A
    generalize hL : Lp _ _ _ = L
    refine cd_close zq ?_
    repeat' (first
      | (refine z_open zq ?_; try dsimp only)
      | refine cd_seq zq ?_ (lp_mono hL)
      | refine cd_blk zq ?_
      | refine cd_ret ?_
      | refine cd_skip ?_
      | refine cd_exit ?_
      | refine cd_loop ?_
      | refine cd_cond rfl ?_
      | refine cd_condT rfl ?_
      | refine cd_condF rfl ?_
      | (refine Cd.mk ?_; cbv)
      | (refine Ends1.mk ?_; cbv)
      | (refine Fin1.mk ?_; cbv)
      | exact trivial
      | refine And.intro ?_ ?_
      | refine orf fun _ => ?_
      | refine ort fun _ => ?_)
    all_goals (clear hL hfs zq Z hq2; subst hA hF hG0 hG1 hO2; simp only [Sx.std, SkQ.Sq.std, Ar.std] at * <;> grind [stdCmp, lkU, lkF]; done)
  · rename_i hs hk9 hmy
    have hxy : sxI o_a o_b = o_a ∧ syI o_a o_b = o_b := by
      clear hL hfs zq Z
      subst hA
      simp only [Ar.std] at hs
      unfold sxI syI
      grind [stdCmp]
    rw [hxy.1, hxy.2] at hui
    subst hL
    refine loop_z (cx_ok hfs) (guQ v_u o_a o_b (G1.q_x v_u o_a o_b) [.int o_a, .int o_b, .int o_w]) (g3I v_f v_u o_a o_b o_w (G1.q_x v_u o_a o_b)) (guM v_u) g3R ⟨0, false, []⟩ ?_ ?_ ?_
    · exact gu_zero _ _ _ _ _
    · cbv
      repeat' (first | exact trivial | exact rfl | refine And.intro ?_ ?_)
    rintro ⟨i, p, o⟩ hq O hO
    have hst := fun h => gu_ways hk.2 hq h
    have hen := fun h => gu_end hq h
    have q0 := hq.1
    have q1 := hq.2.1
    dsimp only at q0 q1
    subst hA
    generalize hA : Ar.std = A
    generalize hL : Lp _ _ _ = L
    refine cd_close zq ?_
    repeat' (first
      | (refine z_open zq ?_; try dsimp only)
      | refine cd_seq zq ?_ (lp_mono hL)
      | refine cd_blk zq ?_
      | refine cd_ret ?_
      | refine cd_skip ?_
      | refine cd_exit ?_
      | refine cd_loop ?_
      | refine cd_cond rfl ?_
      | refine cd_condT rfl ?_
      | refine cd_condF rfl ?_
      | (refine Cd.mk ?_; cbv)
      | (refine Ends1.mk ?_; cbv)
      | (refine Fin1.mk ?_; cbv)
      | exact trivial
      | refine And.intro ?_ ?_
      | refine orf fun _ => ?_
      | refine ort fun _ => ?_)
    all_goals (clear hL hfs zq Z hq; subst hA hF hG0 hG1 hO; simp only [Sx.std, EgR.Fs.std, SkQ.Sq.std, Ar.std] at * <;> grind [stdCmp, lkU, lkF]; done)
theorem ok_rlink : ConOk Try.prog 35 (c_rlink Sx.std) := by
  refine con_of (FsOk.cons ok_rup (FsOk.cons ok_remay FsOk.nil rfl) rfl) Try.func35 rfl rfl fun xs h p hp => ?_
  unfold c_rlink at hp
  split at hp
  · cases hp
    exact ⟨lee_le rfl, fun hC _ => @x_rlink _ _ _ _ _ _ _ hC⟩
  · cases hp
end Go.Proofs.Ytphbfoafgfnmmaa.SkX
