/-
  a link of the sky goes down, and what is on it. No condition but size.
-/
import Derived.Test.YtphbfoafgfnmmaaSkB
import Derived.Test.YtphbfoafgfnmmaaDlE
namespace Go.Proofs.Ytphbfoafgfnmmaa.SkL
open Go Go.Proofs.Ytphbfoafgfnmmaa.Ry Go.Proofs.Ytphbfoafgfnmmaa.SkR Go.Proofs.Ytphbfoafgfnmmaa.SkT Go.Proofs.Ytphbfoafgfnmmaa.SkO Go.Proofs.Ytphbfoafgfnmmaa.SkC Go.Proofs.Ytphbfoafgfnmmaa.SkB Go.Proofs.Ytphbfoafgfnmmaa.Cmp

open Go.Proofs.Ytphbfoafgfnmmaa.DlE (c_del ok_del)
def cyF (T : List E) (y : E) : Bool := carF T (ri y 0) (ri y 1)
/-- The first that is not carried. -/
def ixN (q T : List E) : Nat := q.findIdx fun y => !cyF T y
def ixI (q T : List E) : Int := if ixN q T < q.length then (ixN q T : Int) else -1
/-- Those that are carried. -/
def dlF (q T : List E) : List E := if ixN q T < q.length then q.take (ixN q T) ++ ((q.drop (ixN q T + 1)).filter (cyF T)).map nrm else q
structure XI where
  i : Int
def ixQ (q T : List E) (y : XI) : Prop := 0 ≤ y.i ∧ y.i ≤ q.length ∧ ∀ k : Nat, k < y.i → cyF T (q.getD k []) = true
def ixM (q : List E) (y : XI) : Nat := q.length - y.i.toNat
theorem ix_zero (q T : List E) : ixQ q T ⟨0⟩ := ⟨Int.le_refl 0, Int.natCast_nonneg _, fun k h => by simp only at h; omega⟩
theorem ix_step {q T : List E} (hl : q.length ≤ 1000000) {i : Int} (hq : ixQ q T ⟨i⟩) (h : i < q.length) : stdBin .add .i64 i 1 = i + 1 ∧ ixM q ⟨i + 1⟩ < ixM q ⟨i⟩ ∧ cyF T (q.getD i.toNat []) = carF T (ri (q.getD i.toNat []) 0) (ri (q.getD i.toNat []) 1) ∧ (cyF T (q.getD i.toNat []) = true → ixQ q T ⟨i + 1⟩) ∧ (cyF T (q.getD i.toNat []) = false → ixI q T = i) := by
  obtain ⟨h0, h1, h2⟩ := hq
  simp only at h0 h1 h2
  have hi : i.toNat < q.length := by omega
  have hg : q.getD i.toNat [] = q[i.toNat] := by rw [List.getD_eq_getElem?_getD, List.getElem?_eq_getElem hi]; rfl
  refine ⟨by rw [b_add, wr _ (by omega) (by omega)], by simp only [ixM]; omega, rfl, fun g => ⟨by simp only; omega, by simp only; omega, fun k hk => ?_⟩, fun g => ?_⟩
  · simp only at hk
    by_cases c : k = i.toNat
    · rw [c]
      exact g
    · exact h2 k (by omega)
  · have e : ixN q T = i.toNat := (List.findIdx_eq hi).2 ⟨by rw [← hg, g]; rfl, fun j hj => by
      have := h2 j (by omega)
      have hj2 : j < q.length := by omega
      rw [List.getD_eq_getElem?_getD, List.getElem?_eq_getElem hj2] at this
      have this : cyF T q[j] = true := this
      rw [this]
      rfl⟩
    unfold ixI
    rw [e, if_pos hi]
    omega
theorem ix_end {q T : List E} {i : Int} (hq : ixQ q T ⟨i⟩) (h : ¬ i < q.length) : ixI q T = -1 := by
  obtain ⟨h0, h1, h2⟩ := hq
  simp only at h0 h1 h2
  have e : ixN q T = q.length := List.findIdx_eq_length_of_false fun y hy => by
    obtain ⟨k, hk, rfl⟩ := List.getElem_of_mem hy
    have := h2 k (by omega)
    rw [List.getD_eq_getElem?_getD, List.getElem?_eq_getElem hk] at this
    have this : cyF T q[k] = true := this
    rw [this]
    rfl
  unfold ixI
  rw [e, if_neg (Nat.lt_irrefl _)]
/-- Those that are carried, moved to the front. -/
structure XF where
  i : Int
  j : Int
  r : List E
def mvL (q T : List E) (j : Int) : List E := q.take (ixN q T) ++ (((q.drop (ixN q T + 1)).take (j.toNat - (ixN q T + 1))).filter (cyF T)).map nrm
def dfQ (q T : List E) (y : XF) : Prop := ixN q T < q.length ∧ (ixN q T : Int) ≤ y.i ∧ y.i < y.j ∧ y.j ≤ q.length ∧ y.r.length = q.length ∧ y.r.take y.i.toNat = mvL q T y.j ∧ y.r.drop y.j.toNat = q.drop y.j.toNat
def dfM (q : List E) (y : XF) : Nat := q.length - y.j.toNat
theorem ix_in (q T : List E) : -1 ≤ ixI q T ∧ ixI q T < q.length := by
  unfold ixI
  split <;> omega
theorem ix_no {q T : List E} (h : ixI q T = -1) : dlF q T = q := by
  unfold ixI at h
  unfold dlF
  split at h
  · omega
  · rename_i g
    rw [if_neg g]
theorem df_zero {q T : List E} (h : ¬ ixI q T = -1) : dfQ q T ⟨ixI q T, ixI q T + 1, q⟩ := by
  unfold ixI at h ⊢
  split at h
  · rename_i g
    rw [if_pos g]
    refine ⟨g, Int.le_refl _, by simp only; omega, by simp only; omega, rfl, ?_, rfl⟩
    show q.take ((ixN q T : Int)).toNat = mvL q T _
    unfold mvL
    rw [show ((ixN q T : Int) + 1).toNat - (ixN q T + 1) = 0 by omega, List.take_zero, Int.toNat_natCast]
    simp
  · exact absurd rfl h
theorem df_step {q T : List E} (hl : q.length ≤ 1000000) {i j : Int} {r : List E} (hq : dfQ q T ⟨i, j, r⟩) (h : j < q.length) :
    stdBin .add .i64 i 1 = i + 1 ∧ stdBin .add .i64 j 1 = j + 1 ∧ cyF T (r.getD j.toNat []) = carF T (ri (r.getD j.toNat []) 0) (ri (r.getD j.toNat []) 1) ∧ (∀ a b, dfM q ⟨a, j + 1, b⟩ < dfM q ⟨i, j, r⟩) ∧
    (cyF T (r.getD j.toNat []) = true → dfQ q T ⟨i + 1, j + 1, r.set i.toNat [.int (ri (r.getD j.toNat []) 0), .int (ri (r.getD j.toNat []) 1), .ints (rl (r.getD j.toNat []) 2), .bool (rb (r.getD j.toNat []) 3)]⟩) ∧ (cyF T (r.getD j.toNat []) = false → dfQ q T ⟨i, j + 1, r⟩) := by
  obtain ⟨h0, h1, h2, h3, h4, h5, h6⟩ := hq
  simp only at h1 h2 h3 h4 h5 h6
  have hj : j.toNat < q.length := by omega
  have hjr : j.toNat < r.length := by omega
  have ej : (j + 1).toNat = j.toNat + 1 := by omega
  have ei : (i + 1).toNat = i.toNat + 1 := by omega
  have hg : r.getD j.toNat [] = q.getD j.toNat [] := by
    have a := List.drop_eq_getElem_cons hj
    have b := List.drop_eq_getElem_cons hjr
    rw [h6, a] at b
    rw [List.getD_eq_getElem?_getD, List.getD_eq_getElem?_getD, List.getElem?_eq_getElem hj, List.getElem?_eq_getElem hjr, Option.getD_some, Option.getD_some]
    exact (List.cons.inj b).1.symm
  have hd : r.drop (j.toNat + 1) = q.drop (j.toNat + 1) := by
    have := congrArg List.tail h6
    rwa [List.tail_drop, List.tail_drop] at this
  have hm : mvL q T (j + 1) = mvL q T j ++ (if cyF T (q.getD j.toNat []) = true then [nrm (q.getD j.toNat [])] else []) := by
    unfold mvL
    have e : (j + 1).toNat - (ixN q T + 1) = (j.toNat - (ixN q T + 1)) + 1 := by omega
    have hx : (q.drop (ixN q T + 1))[j.toNat - (ixN q T + 1)]? = some (q.getD j.toNat []) := by
      rw [List.getElem?_drop, show ixN q T + 1 + (j.toNat - (ixN q T + 1)) = j.toNat by omega, List.getElem?_eq_getElem hj, List.getD_eq_getElem?_getD, List.getElem?_eq_getElem hj]
      rfl
    rw [e, List.take_add_one, hx, List.filter_append, List.map_append, List.append_assoc]
    generalize q.getD j.toNat [] = y
    congr 2
    by_cases c : cyF T y = true
    · simp [c]
    · simp [c]
  refine ⟨by rw [b_add, wr _ (by omega) (by omega)], by rw [b_add, wr _ (by omega) (by omega)], rfl, fun a b => by simp only [dfM]; omega, fun g => ?_, fun g => ?_⟩
  · refine ⟨h0, by simp only; omega, by simp only; omega, by simp only; omega, by simp only; rw [List.length_set, h4], ?_, ?_⟩
    · simp only
      rw [hg] at g
      rw [hm, if_pos g, ← h5, ei, List.take_add_one, List.take_set_of_le (by omega), List.getElem?_set_self (by omega), ← hg]
      rfl
    · simp only
      rw [ej, List.drop_set_of_lt (by omega), hd]
  · refine ⟨h0, h1, by simp only; omega, by simp only; omega, h4, ?_, ?_⟩
    · simp only
      rw [hg] at g
      rw [hm, g, h5]
      simp
    · simp only
      rw [ej, hd]
theorem df_end {q T : List E} {i j : Int} {r : List E} (hq : dfQ q T ⟨i, j, r⟩) (h : ¬ j < q.length) : r.take i.toNat = dlF q T := by
  obtain ⟨h0, h1, h2, h3, h4, h5, h6⟩ := hq
  simp only at h1 h2 h3 h4 h5 h6
  rw [h5]
  unfold dlF mvL
  rw [if_pos h0, List.take_of_length_le (l := q.drop (ixN q T + 1)) (by rw [List.length_drop]; omega)]
theorem df_cut {r : List E} {i : Int} {z : E} (h : 0 ≤ i ∧ i ≤ r.length) : ((r.take i.toNat ++ List.replicate (r.length - i.toNat) z).take i.toNat).drop (0 : Int).toNat = r.take i.toNat := by
  have : (r.take i.toNat).length = i.toNat := by rw [List.length_take]; omega
  rw [show (0 : Int).toNat = 0 from rfl, List.drop_zero, List.take_append_of_le_length (by omega), List.take_take, Nat.min_self]
noncomputable def dfS (_ u T : List E) (y : XF) : St := stOf Try.f69.ntmps [(0, .own 1), (1, .fnp 70 2 0), (5, .val (.int .i64 y.i)), (6, .val (.int .i64 y.j))] [(1, .row 32 (.recs (.int .i64 (.int .i64 (.ints .u8 (.bool .nil)))) y.r)), (2, .cells 94 [.any, .own 3, .ptr 4 0]), (3, .row 48 (.recs (.int .i64 (.int .i64 (.int .i64 .nil))) u)), (4, .row 106 (.recs (.bool .nil) T))] [Any, .one (.fnp 70 2 0)]
def dfR (st : St) : XF := ⟨slotI st 5, slotI st 6, slotR st 0⟩
def mnI (a b : Int) : Int := if b < a then b else a
def mxI (a b : Int) : Int := if b > a then b else a
def lwU (u : List E) (a b : Int) : List E := if fdE u (mnI a b) (mxI a b) = true then u.take (poE u (mnI a b) (mxI a b)).toNat ++ u.drop (poE u (mnI a b) (mxI a b) + 1).toNat else u
def lwT (u T : List E) (a b : Int) : List E := if fdE u (mnI a b) (mxI a b) = true then setF T (mnI a b) (mxI a b) false else T
def lwQ (q u T : List E) (a b : Int) : List E := if fdE u (mnI a b) (mxI a b) = true then dlF q (setF T (mnI a b) (mxI a b) false) else q
theorem be_zero {a b c d : Int} (h : beF a b c d = 0) : a = c ∧ b = d := by
  unfold beF orF orF orF sgn at h
  (repeat' split at h) <;> omega
theorem fd_tok {u T : List E} {a b : Int} (hl : lOk u = true) (hT : T.length = 4225) (h : fdE u a b = true) : (0 ≤ poE u a b ∧ poE u a b < u.length) ∧ tOk T a b = true := by
  unfold fdE at h
  rw [Bool.and_eq_true] at h
  have h1 := of_decide_eq_true h.1
  have h2 := be_zero (of_decide_eq_true h.2)
  have h0 := (po_in u a b).1
  have hm : u.getD (poE u a b).toNat [] ∈ u := by
    have hi : (poE u a b).toNat < u.length := by omega
    rw [List.getD_eq_getElem?_getD, List.getElem?_eq_getElem hi]
    exact List.getElem_mem hi
  have hr := (of_decide_eq_true hl).2 _ hm
  rw [h2.1, h2.2] at hr
  exact ⟨⟨h0, h1⟩, decide_eq_true ⟨hT, hr⟩⟩
noncomputable def ixS (A : Ar) (q u T : List E) (y : XI) : St := stOf Try.f78.ntmps [(0, .own 1), (1, .fnp 70 2 0), (7, .val (.int .i64 (A.lenE q))), (8, .val (.int .i64 y.i))] [(1, .row 32 (.recs (.int .i64 (.int .i64 (.ints .u8 (.bool .nil)))) q)), (2, .cells 94 [.any, .own 3, .ptr 4 0]), (3, .row 48 (.recs (.int .i64 (.int .i64 (.int .i64 .nil))) u)), (4, .row 106 (.recs (.bool .nil) T))] [.one (.own 1), .one (.fnp 70 2 0)]
def ixR (st : St) : XI := ⟨slotI st 8⟩

structure Sw where
  l_u : List E → Int → Int → List E
  l_t : List E → List E → Int → Int → List E
  l_q : List E → List E → List E → Int → Int → List E
  l_o : List E → List E → List E → Bool
  l_c : List E → Int → Int → Bool
  l_i : List E → List E → Int
  l_d : List E → List E → List E
  l_n : List E → Bool
  l_k : List E → List E → Bool
def Sw.std : Sw := ⟨lwU, lwT, lwQ, fun q u T => lOk u && decide (q.length ≤ 1000000 ∧ T.length = 4225), carF, ixI, dlF, fun T => decide (T.length = 4225), fun q T => decide (q.length ≤ 1000000 ∧ T.length = 4225)⟩

def c_low (F : Sw) : Con := fun xs h => match xs, h with
  | [.agg [.val (.int .i64 f_a), .val (.int .i64 f_b), .sl none (.ints .u8 _), .val (.bool _)], .one (.cpp 0 0)], [(0, .cells 94 [.any, .own 1, .ptr 2 0]), (1, .row 48 (.recs (.int .i64 (.int .i64 (.int .i64 .nil))) u)), (2, .row 106 (.recs (.bool .nil) T))] => some ⟨F.l_n T = true, .sa (B (!(F.l_c T f_a f_b))), [(0, .cells 94 [.any, .own 1, .ptr 2 0]), (1, .row 48 (.recs (.int .i64 (.int .i64 (.int .i64 .nil))) u)), (2, .row 106 (.recs (.bool .nil) T))], [Any, .one (.cpp 0 0)]⟩
  | _, _ => none
set_option maxHeartbeats 2000000 in
set_option maxRecDepth 100000 in
theorem x_low (f_a : Int) (f_b : Int) (f_l : List Int) (f_x : Bool) (u : List E) (T : List E) (hC : Sw.std.l_n T = true) : Does [(33, c_carries SkT.Tb.std), (keepKey 33, noCon)] Try.f70 [.agg [.val (.int .i64 f_a), .val (.int .i64 f_b), .sl none (.ints .u8 f_l), .val (.bool f_x)], .one (.cpp 0 0)] [(0, .cells 94 [.any, .own 1, .ptr 2 0]), (1, .row 48 (.recs (.int .i64 (.int .i64 (.int .i64 .nil))) u)), (2, .row 106 (.recs (.bool .nil) T))] ⟨Sw.std.l_n T = true, .sa (B (!(Sw.std.l_c T f_a f_b))), [(0, .cells 94 [.any, .own 1, .ptr 2 0]), (1, .row 48 (.recs (.int .i64 (.int .i64 (.int .i64 .nil))) u)), (2, .row 106 (.recs (.bool .nil) T))], [Any, .one (.cpp 0 0)]⟩ := by
  intro b gv
  have hfs := (FsOk.keeps ok_carries kp_carries FsOk.nil)
  generalize hF : Sw.std = F at hC hfs ⊢
  generalize hG0 : SkT.Tb.std = G0 at hC hfs ⊢
  generalize hG1 : SkB.Sb.std = G1 at hC hfs ⊢
  generalize hG2 : DlE.Df.std = G2 at hC hfs ⊢
  generalize hA : Ar.std = A
  generalize hL : Lp _ _ _ = L
  obtain ⟨Z, zq⟩ := z_all
  refine @cd_open _ _ _ _ _ _ _ (lp_mono hL) _ _ zq rfl ?_
  repeat' (first
    | (refine z_open zq ?_; try dsimp only)
    | refine cd_seq zq ?_ (lp_mono hL)
    | refine cd_blk zq ?_
    | refine cd_ret ?_
    | refine cd_skip ?_
    | refine cd_exit ?_
    | refine cd_loop ?_
    | refine cd_cond rfl ?_
    | refine cd_condT rfl ?_
    | refine cd_condF rfl ?_
    | (refine Cd.mk ?_; cbv)
    | (refine Ends1.mk ?_; cbv)
    | (refine Fin1.mk ?_; cbv)
    | exact trivial
    | refine And.intro ?_ ?_
    | refine orf fun _ => ?_
    | refine ort fun _ => ?_)
  skip -- hfs
  all_goals (clear hL hfs zq Z; subst hA hF hG0 hG1 hG2; simp only [Sw.std, SkT.Tb.std, Ar.std] at * <;> grind [stdCmp]; done)
theorem ok_low : ConOk Try.prog 70 (c_low Sw.std) := by
  refine con_of (FsOk.keeps ok_carries kp_carries FsOk.nil) Try.func70 rfl rfl fun xs h p hp => ?_
  unfold c_low at hp
  split at hp
  · cases hp
    exact ⟨lee_le rfl, fun hC _ => @x_low _ _ _ _ _ _ hC⟩
  · cases hp
theorem kp_low : Keeps (c_low Sw.std) := by
  intro xs h p hp
  unfold c_low at hp
  split at hp
  · cases hp
    rfl
  · cases hp

def c_idx (F : Sw) : Con := fun xs h => match xs, h with
  | [.one (.own 0), .one (.fnp 70 1 0)], [(0, .row 32 (.recs (.int .i64 (.int .i64 (.ints .u8 (.bool .nil)))) q)), (1, .cells 94 [.own 0, .own 2, .ptr 3 0]), (2, .row 48 (.recs (.int .i64 (.int .i64 (.int .i64 .nil))) u)), (3, .row 106 (.recs (.bool .nil) T))] => some ⟨F.l_k q T = true, .sa (I (F.l_i q T)), [(0, .row 32 (.recs (.int .i64 (.int .i64 (.ints .u8 (.bool .nil)))) q)), (1, .cells 94 [.any, .own 2, .ptr 3 0]), (2, .row 48 (.recs (.int .i64 (.int .i64 (.int .i64 .nil))) u)), (3, .row 106 (.recs (.bool .nil) T))], [.one (.own 0), .one (.fnp 70 1 0)]⟩
  | _, _ => none
set_option maxHeartbeats 2000000 in
set_option maxRecDepth 100000 in
theorem x_idx (q : List E) (u : List E) (T : List E) (hC : Sw.std.l_k q T = true) : Does [(70, c_low Sw.std), (keepKey 70, noCon)] Try.f78 [.one (.own 0), .one (.fnp 70 1 0)] [(0, .row 32 (.recs (.int .i64 (.int .i64 (.ints .u8 (.bool .nil)))) q)), (1, .cells 94 [.own 0, .own 2, .ptr 3 0]), (2, .row 48 (.recs (.int .i64 (.int .i64 (.int .i64 .nil))) u)), (3, .row 106 (.recs (.bool .nil) T))] ⟨Sw.std.l_k q T = true, .sa (I (Sw.std.l_i q T)), [(0, .row 32 (.recs (.int .i64 (.int .i64 (.ints .u8 (.bool .nil)))) q)), (1, .cells 94 [.any, .own 2, .ptr 3 0]), (2, .row 48 (.recs (.int .i64 (.int .i64 (.int .i64 .nil))) u)), (3, .row 106 (.recs (.bool .nil) T))], [.one (.own 0), .one (.fnp 70 1 0)]⟩ := by
  intro b gv
  have hk : q.length ≤ 1000000 ∧ T.length = 4225 := of_decide_eq_true (show decide _ = true from hC)
  have hfs := (FsOk.keeps ok_low kp_low FsOk.nil)
  generalize hF : Sw.std = F at hC hfs ⊢
  generalize hG0 : SkT.Tb.std = G0 at hC hfs ⊢
  generalize hG1 : SkB.Sb.std = G1 at hC hfs ⊢
  generalize hG2 : DlE.Df.std = G2 at hC hfs ⊢
  generalize hA : Ar.std = A
  generalize hL : Lp _ _ _ = L
  obtain ⟨Z, zq⟩ := z_all
  refine @cd_open _ _ _ _ _ _ _ (lp_mono hL) _ _ zq rfl ?_
  repeat' (first
    | (refine z_open zq ?_; try dsimp only)
    | refine cd_seq zq ?_ (lp_mono hL)
    | refine cd_blk zq ?_
    | refine cd_ret ?_
    | refine cd_skip ?_
    | refine cd_exit ?_
    | refine cd_loop ?_
    | refine cd_cond rfl ?_
    | refine cd_condT rfl ?_
    | refine cd_condF rfl ?_
    | (refine Cd.mk ?_; cbv)
    | (refine Ends1.mk ?_; cbv)
    | (refine Fin1.mk ?_; cbv)
    | exact trivial
    | refine And.intro ?_ ?_
    | refine orf fun _ => ?_
    | refine ort fun _ => ?_)
  subst hL
  refine loop_z (cx_ok hfs) (ixQ q T) (ixS A q u T) (ixM q) ixR ⟨0⟩ ?_ ?_ ?_
  · exact ix_zero _ _
  · cbv
    repeat' (first | exact trivial | exact rfl | refine And.intro ?_ ?_)
  rintro ⟨i⟩ hq O hO
  have hst := fun h => ix_step hk.1 hq h
  have hen := fun h => ix_end hq h
  have q0 := hq.1
  have q1 := hq.2.1
  dsimp only at q0 q1
  subst hA
  generalize hA : Ar.std = A
  generalize hL : Lp _ _ _ = L
  refine cd_close zq ?_
  repeat' (first
    | (refine z_open zq ?_; try dsimp only)
    | refine cd_seq zq ?_ (lp_mono hL)
    | refine cd_blk zq ?_
    | refine cd_ret ?_
    | refine cd_skip ?_
    | refine cd_exit ?_
    | refine cd_loop ?_
    | refine cd_cond rfl ?_
    | refine cd_condT rfl ?_
    | refine cd_condF rfl ?_
    | (refine Cd.mk ?_; cbv)
    | (refine Ends1.mk ?_; cbv)
    | (refine Fin1.mk ?_; cbv)
    | exact trivial
    | refine And.intro ?_ ?_
    | refine orf fun _ => ?_
    | refine ort fun _ => ?_)
  all_goals (clear hL hfs zq Z hq; subst hA hF hG0 hG1 hG2 hO; simp only [Sw.std, Ar.std] at * <;> grind [stdCmp]; done)
theorem ok_idx : ConOk Try.prog 78 (c_idx Sw.std) := by
  refine con_of (FsOk.keeps ok_low kp_low FsOk.nil) Try.func78 rfl rfl fun xs h p hp => ?_
  unfold c_idx at hp
  split at hp
  · cases hp
    exact ⟨lee_le rfl, fun hC _ => @x_idx _ _ _ hC⟩
  · cases hp

def c_delf (F : Sw) : Con := fun xs h => match xs, h with
  | [.one (.own 0), .one (.fnp 70 1 0)], [(0, .row 32 (.recs (.int .i64 (.int .i64 (.ints .u8 (.bool .nil)))) q)), (1, .cells 94 [.own 0, .own 2, .ptr 3 0]), (2, .row 48 (.recs (.int .i64 (.int .i64 (.int .i64 .nil))) u)), (3, .row 106 (.recs (.bool .nil) T))] => some ⟨F.l_k q T = true, .sa (.one (.own 4)), [(1, .cells 94 [.any, .own 2, .ptr 3 0]), (2, .row 48 (.recs (.int .i64 (.int .i64 (.int .i64 .nil))) u)), (3, .row 106 (.recs (.bool .nil) T)), (4, .row 32 (.recs (.int .i64 (.int .i64 (.ints .u8 (.bool .nil)))) (F.l_d q T)))], [Any, .one (.fnp 70 1 0)]⟩
  | _, _ => none
set_option maxHeartbeats 2000000 in
set_option maxRecDepth 100000 in
theorem x_delf (q : List E) (u : List E) (T : List E) (hC : Sw.std.l_k q T = true) : Does [(78, c_idx Sw.std), (70, c_low Sw.std), (keepKey 70, noCon), (ownKey 500011002, noCon), (ownKey 12002, noCon)] Try.f69 [.one (.own 0), .one (.fnp 70 1 0)] [(0, .row 32 (.recs (.int .i64 (.int .i64 (.ints .u8 (.bool .nil)))) q)), (1, .cells 94 [.own 0, .own 2, .ptr 3 0]), (2, .row 48 (.recs (.int .i64 (.int .i64 (.int .i64 .nil))) u)), (3, .row 106 (.recs (.bool .nil) T))] ⟨Sw.std.l_k q T = true, .sa (.one (.own 4)), [(1, .cells 94 [.any, .own 2, .ptr 3 0]), (2, .row 48 (.recs (.int .i64 (.int .i64 (.int .i64 .nil))) u)), (3, .row 106 (.recs (.bool .nil) T)), (4, .row 32 (.recs (.int .i64 (.int .i64 (.ints .u8 (.bool .nil)))) (Sw.std.l_d q T)))], [Any, .one (.fnp 70 1 0)]⟩ := by
  intro b gv
  have hk : q.length ≤ 1000000 ∧ T.length = 4225 := of_decide_eq_true (show decide _ = true from hC)
  have hin := ix_in q T
  have e1 : stdBin .add .i64 (ixI q T) 1 = ixI q T + 1 := by rw [b_add, wr _ (by omega) (by omega)]
  have hno := fun h => ix_no (q := q) (T := T) h
  have hfs := (FsOk.cons ok_idx (FsOk.keeps ok_low kp_low (FsOk.own (u := 500011002) (FsOk.own (u := 12002) FsOk.nil))) rfl)
  generalize hF : Sw.std = F at hC hfs ⊢
  generalize hG0 : SkT.Tb.std = G0 at hC hfs ⊢
  generalize hG1 : SkB.Sb.std = G1 at hC hfs ⊢
  generalize hG2 : DlE.Df.std = G2 at hC hfs ⊢
  generalize hA : Ar.std = A
  generalize hL : Lp _ _ _ = L
  obtain ⟨Z, zq⟩ := z_all
  refine @cd_open _ _ _ _ _ _ _ (lp_mono hL) _ _ zq rfl ?_
  repeat' (first
    | (refine z_open zq ?_; try dsimp only)
    | refine cd_seq zq ?_ (lp_mono hL)
    | refine cd_blk zq ?_
    | refine cd_ret ?_
    | refine cd_skip ?_
    | refine cd_exit ?_
    | refine cd_loop ?_
    | refine cd_cond rfl ?_
    | refine cd_condT rfl ?_
    | refine cd_condF rfl ?_
    | (refine Cd.mk ?_; cbv)
    | (refine Ends1.mk ?_; cbv)
    | (refine Fin1.mk ?_; cbv)
    | exact trivial
    | refine And.intro ?_ ?_
    | refine orf fun _ => ?_
    | refine ort fun _ => ?_)
  all_goals first | (show L _ _ _; skip) | (clear hL hfs zq Z; subst hA hF hG0 hG1 hG2; simp only [Sw.std, Ar.std] at * <;> grind [stdCmp]; done)
  rename_i hx
  have hy : ¬ ixI q T = -1 := by
    clear hL hfs zq Z
    subst hA hF hG0 hG1 hG2
    simp only [Sw.std, Ar.std] at hx
    grind [stdCmp]
  clear hx
  subst hL
  refine loop_z (cx_ok hfs) (dfQ q T) (dfS q u T) (dfM q) dfR ⟨F.l_i q T, A.bin .add .i64 (F.l_i q T) 1, q⟩ ?_ ?_ ?_
  · subst hA hF
    have e : (⟨Sw.std.l_i q T, Ar.std.bin .add .i64 (Sw.std.l_i q T) 1, q⟩ : XF) = ⟨ixI q T, ixI q T + 1, q⟩ := by
      show (⟨ixI q T, stdBin .add .i64 (ixI q T) 1, q⟩ : XF) = _
      rw [e1]
    rw [e]
    exact df_zero hy
  · cbv
    repeat' (first | exact trivial | exact rfl | refine And.intro ?_ ?_)
  rintro ⟨i, j, r⟩ hq O hO
  have hst := fun h => df_step hk.1 hq h
  have hen := fun h => df_end hq h
  have q0 := hq.1
  have q1 := hq.2.1
  have q2 := hq.2.2.1
  have q3 := hq.2.2.2.1
  have q4 := hq.2.2.2.2.1
  dsimp only at q0 q1 q2 q3 q4
  have hcu := fun z => df_cut (r := r) (i := i) (z := z) ⟨by omega, by omega⟩
  subst hA
  generalize hA : Ar.std = A
  generalize hL : Lp _ _ _ = L
  refine cd_close zq ?_
  repeat' (first
    | (refine z_open zq ?_; try dsimp only)
    | refine cd_seq zq ?_ (lp_mono hL)
    | refine cd_blk zq ?_
    | refine cd_ret ?_
    | refine cd_skip ?_
    | refine cd_exit ?_
    | refine cd_loop ?_
    | refine cd_cond rfl ?_
    | refine cd_condT rfl ?_
    | refine cd_condF rfl ?_
    | (refine Cd.mk ?_; cbv)
    | (refine Ends1.mk ?_; cbv)
    | (refine Fin1.mk ?_; cbv)
    | exact trivial
    | refine And.intro ?_ ?_
    | refine orf fun _ => ?_
    | refine ort fun _ => ?_)
  all_goals (clear hL hfs zq Z hq; subst hA hF hG0 hG1 hG2 hO; simp only [Sw.std, Ar.std] at * <;> grind [stdCmp]; done)
theorem ok_delf : ConOk Try.prog 69 (c_delf Sw.std) := by
  refine con_of (FsOk.cons ok_idx (FsOk.keeps ok_low kp_low (FsOk.own (u := 500011002) (FsOk.own (u := 12002) FsOk.nil))) rfl) Try.func69 rfl rfl fun xs h p hp => ?_
  unfold c_delf at hp
  split at hp
  · cases hp
    exact ⟨lee_le rfl, fun hC _ => @x_delf _ _ _ hC⟩
  · cases hp

def c_lower (F : Sw) : Con := fun xs h => match xs, h with
  | [.one (.ptr 0 0), .agg [.val (.int .i64 _), .val (.int .i64 o_a), .val (.int .i64 o_b), .val (.int .i64 _), .val (.int .i64 _)]], [(0, .cells 94 [.own 1, .own 2, .ptr 3 0]), (1, .row 32 (.recs (.int .i64 (.int .i64 (.ints .u8 (.bool .nil)))) q)), (2, .row 48 (.recs (.int .i64 (.int .i64 (.int .i64 .nil))) u)), (3, .row 106 (.recs (.bool .nil) T))] => some ⟨F.l_o q u T = true, .tup [], [(0, .cells 94 [.own 1, .own 2, .ptr 3 0]), (1, .row 32 (.recs (.int .i64 (.int .i64 (.ints .u8 (.bool .nil)))) (F.l_q q u T o_a o_b))), (2, .row 48 (.recs (.int .i64 (.int .i64 (.int .i64 .nil))) (F.l_u u o_a o_b))), (3, .row 106 (.recs (.bool .nil) (F.l_t u T o_a o_b)))], [.one (.ptr 0 0), Any]⟩
  | _, _ => none
set_option maxHeartbeats 2000000 in
set_option maxRecDepth 100000 in
theorem x_lower (o_k : Int) (o_a : Int) (o_b : Int) (o_n : Int) (o_w : Int) (q : List E) (u : List E) (T : List E) (hC : Sw.std.l_o q u T = true) : Does [(66, c_bsf SkB.Sb.std), (68, c_del DlE.Df.std), (57, c_tset SkT.Tb.std), (69, c_delf Sw.std), (ownKey 0, noCon)] Try.f49 [.one (.ptr 0 0), .agg [.val (.int .i64 o_k), .val (.int .i64 o_a), .val (.int .i64 o_b), .val (.int .i64 o_n), .val (.int .i64 o_w)]] [(0, .cells 94 [.own 1, .own 2, .ptr 3 0]), (1, .row 32 (.recs (.int .i64 (.int .i64 (.ints .u8 (.bool .nil)))) q)), (2, .row 48 (.recs (.int .i64 (.int .i64 (.int .i64 .nil))) u)), (3, .row 106 (.recs (.bool .nil) T))] ⟨Sw.std.l_o q u T = true, .tup [], [(0, .cells 94 [.own 1, .own 2, .ptr 3 0]), (1, .row 32 (.recs (.int .i64 (.int .i64 (.ints .u8 (.bool .nil)))) (Sw.std.l_q q u T o_a o_b))), (2, .row 48 (.recs (.int .i64 (.int .i64 (.int .i64 .nil))) (Sw.std.l_u u o_a o_b))), (3, .row 106 (.recs (.bool .nil) (Sw.std.l_t u T o_a o_b)))], [.one (.ptr 0 0), Any]⟩ := by
  intro b gv
  have hk0 : (lOk u && decide (q.length ≤ 1000000 ∧ T.length = 4225)) = true := hC
  rw [Bool.and_eq_true] at hk0
  have hk : q.length ≤ 1000000 ∧ T.length = 4225 := of_decide_eq_true hk0.2
  have hku : u.length ≤ 1000000 := (of_decide_eq_true (show decide _ = true from hk0.1) : _ ∧ _).1
  have hft := fun h => fd_tok (a := mnI o_a o_b) (b := mxI o_a o_b) hk0.1 hk.2 h
  have hp1 : fdE u (mnI o_a o_b) (mxI o_a o_b) = true → stdBin .add .i64 (poE u (mnI o_a o_b) (mxI o_a o_b)) 1 = poE u (mnI o_a o_b) (mxI o_a o_b) + 1 := fun h => by
    have := (hft h).1
    rw [b_add, wr _ (by omega) (by omega)]
  have hsl := set_len T (mnI o_a o_b) (mxI o_a o_b) false
  have hfs := (FsOk.cons ok_bsf (FsOk.cons ok_del (FsOk.cons ok_tset (FsOk.cons ok_delf (FsOk.own (u := 0) FsOk.nil) rfl) rfl) rfl) rfl)
  generalize hF : Sw.std = F at hC hfs ⊢
  generalize hG0 : SkT.Tb.std = G0 at hC hfs ⊢
  generalize hG1 : SkB.Sb.std = G1 at hC hfs ⊢
  generalize hG2 : DlE.Df.std = G2 at hC hfs ⊢
  generalize hA : Ar.std = A
  generalize hL : Lp _ _ _ = L
  obtain ⟨Z, zq⟩ := z_all
  refine @cd_open _ _ _ _ _ _ _ (lp_mono hL) _ _ zq rfl ?_
  repeat' (first
    | (refine z_open zq ?_; try dsimp only)
    | refine cd_seq zq ?_ (lp_mono hL)
    | refine cd_blk zq ?_
    | refine cd_ret ?_
    | refine cd_skip ?_
    | refine cd_exit ?_
    | refine cd_loop ?_
    | refine cd_cond rfl ?_
    | refine cd_condT rfl ?_
    | refine cd_condF rfl ?_
    | (refine Cd.mk ?_; cbv)
    | (refine Ends1.mk ?_; cbv)
    | (refine Fin1.mk ?_; cbv)
    | exact trivial
    | refine And.intro ?_ ?_
    | refine orf fun _ => ?_
    | refine ort fun _ => ?_)
  skip -- hfs
  all_goals (clear hL hfs zq Z; subst hA hF hG0 hG1 hG2; simp only [Sw.std, SkT.Tb.std, SkB.Sb.std, DlE.Df.std, Ar.std] at * <;> grind [stdCmp, lwQ, lwU, lwT, mnI, mxI]; done)
theorem ok_lower : ConOk Try.prog 49 (c_lower Sw.std) := by
  refine con_of (FsOk.cons ok_bsf (FsOk.cons ok_del (FsOk.cons ok_tset (FsOk.cons ok_delf (FsOk.own (u := 0) FsOk.nil) rfl) rfl) rfl) rfl) Try.func49 rfl rfl fun xs h p hp => ?_
  unfold c_lower at hp
  split at hp
  · cases hp
    exact ⟨lee_le rfl, fun hC _ => @x_lower _ _ _ _ _ _ _ _ hC⟩
  · cases hp
end Go.Proofs.Ytphbfoafgfnmmaa.SkL
