/-
  two lines and what is on both ways, over the reckoner: news. No condition but what is asked.
-/
import Derived.Test.YtakebkfhigadiaaLcP
import Derived.Test.YtakebkfhigadiaaLiS
import Derived.Test.YtakebkfhigadiaaRyZ
namespace Go.Proofs.Ytakebkfhigadiaa.LcR
open Go Go.Proofs.Ytakebkfhigadiaa.Ry Go.Proofs.Ytakebkfhigadiaa.HaR Go.Proofs.Ytakebkfhigadiaa.LiR Go.Proofs.Ytakebkfhigadiaa.LcT Go.Proofs.Ytakebkfhigadiaa.LcP

structure XB where
  i : Int
  m : List (Int × Int)
  b : Bool
def slotM (st : St) (b k : Nat) : List (Int × Int) := match cellC st b k with
  | .mp n => (match hget st.heap n with
    | some (.mp l) => l
    | _ => [])
  | _ => []
/-- The taker's news are asked thus. -/
def okN (bd : Bool) (e : Int) (g all : List E) (m k : List (Int × Int)) (c : Int) (lu lf : Nat) : Bool :=
  decide (bd = false ∧ e = 0 ∧ g.length ≤ 1 ∧ all.length ≤ 60 ∧ k.length ≤ 1000000 ∧ lu ≤ 1000 ∧ lf ≤ 1000) && (decide (g.length = 0) || decide (0 ≤ mget k c ∧ mget k c < mget m c ∧ mget m c ≤ all.length ∧ rl (g.getD 0 []) 0 = rl (all.getD (mget k c).toNat []) 0 ∧ ∀ x ∈ rl (g.getD 0 []) 0, 0 ≤ x ∧ x ≤ 255))
def n1K (g : List E) (k : List (Int × Int)) (c : Int) : List (Int × Int) := if g.length = 0 then k else mput k c (mget k c + 1)
def zQ (y : XB) : Prop := y.i = 0 ∧ y.b = false
def zM (_ : XB) : Nat := 0
def n1Q (g : List E) (k : List (Int × Int)) (c : Int) (y : XB) : Prop := y.b = false ∧ ((y.i = 0 ∧ y.m = k) ∨ (y.i = 1 ∧ g.length = 1 ∧ y.m = mput k c (mget k c + 1)))
theorem n1_step {g : List E} {k : List (Int × Int)} {c : Int} (h : g.length = 1) : n1Q g k c ⟨1, mput k c (mget k c + 1), false⟩ := ⟨rfl, .inr ⟨rfl, h, rfl⟩⟩
theorem ad_1 : stdBin .add .i64 0 1 = 1 := by rfl
theorem ad_c {n : Int} (h0 : 0 ≤ n) (h1 : n ≤ 60) : stdBin .add .i64 n 1 = n + 1 := by rw [b_add, wr _ (by omega) (by omega)]
def n1M (y : XB) : Nat := 2 - y.i.toNat
theorem n1_less (M x : List (Int × Int)) (b : Bool) : n1M ⟨1, x, b⟩ < n1M ⟨0, M, false⟩ := by
  show 2 - (1 : Int).toNat < 2 - (0 : Int).toNat
  decide
theorem okN_is {bd : Bool} {e : Int} {g all : List E} {m k : List (Int × Int)} {c : Int} {lu lf : Nat} (h : okN bd e g all m k c lu lf = true) : bd = false ∧ e = 0 ∧ g.length ≤ 1 ∧ all.length ≤ 60 ∧ k.length ≤ 1000000 ∧ (lu ≤ 1000 ∧ lf ≤ 1000) ∧ (g.length = 0 ∨ (0 ≤ mget k c ∧ mget k c < mget m c ∧ mget m c ≤ all.length ∧ rl (g.getD 0 []) 0 = rl (all.getD (mget k c).toNat []) 0 ∧ ∀ x ∈ rl (g.getD 0 []) 0, 0 ≤ x ∧ x ≤ 255)) := by
  simp only [okN, Bool.and_eq_true, Bool.or_eq_true, decide_eq_true_eq] at h
  exact ⟨h.1.1, h.1.2.1, h.1.2.2.1, h.1.2.2.2.1, h.1.2.2.2.2.1, h.1.2.2.2.2.2, h.2⟩

structure Lc where
  x_0 : Bool → Int → List E → List E → List E → Bool
  x_1 : Bool → Int → List E → List E → List (Int × Int) → List (Int × Int) → Int → List E → List E → Bool
  x_ap : List E → List E → List E
  x_k : List E → List (Int × Int) → Int → List (Int × Int)
def Lc.std : Lc := ⟨fun bd e g u f => decide (bd = false ∧ e = 0 ∧ g.length = 0 ∧ u.length ≤ 1000 ∧ f.length ≤ 1000), fun bd e g all m k c u f => okN bd e g all m k c u.length f.length, fun p q => p ++ q, n1K⟩

set_option maxHeartbeats 4000000 in
noncomputable def c_news0 (F : Lc) : Con := fun xs h => match xs, h with
  | [.one (.ptr 0 0), .one (.num .i64 0), .agg [.sl none (.recs (.int .i64 (.int .i64 (.int .i64 (.int .i64 (.ints .u8 .nil))))) y_f), .sl none (.recs (.ints .u8 .nil) y_g), .val (.bool _), .val (.int .i64 _)], .one (.val (.int .i64 e)), .one (.sl none (.recs (.ints .u8 .nil) _))], [(0, .cells 55 [.val (.int .i64 a_l), .val (.int .i64 a_c), .val (.int .i64 a_p), .val (.bool a_o), .val (.int .i64 a_b), .val (.int .i64 a_s), .sl none (.recs (.ints .u8 .nil) a_q), .val (.int .i64 a_t), .val (.int .i64 a_n), .val (.bool a_w), .val (.int .i64 d_l), .val (.int .i64 d_c), .val (.int .i64 d_p), .val (.bool d_o), .val (.int .i64 d_b), .val (.int .i64 d_s), .sl none (.recs (.ints .u8 .nil) d_q), .val (.int .i64 d_t), .val (.int .i64 d_n), .val (.bool d_w), .sl (some (1, 84)) (.recs (.int .i64 (.int .i64 (.int .i64 (.int .i64 (.ints .u8 .nil))))) u), .sl (some (2, 84)) (.recs (.int .i64 (.int .i64 (.int .i64 (.int .i64 (.ints .u8 .nil))))) v), .mp 3, .mp 4, .val (.bool bd)]), (1, .tok), (2, .tok), (3, .mp m), (4, .mp k)] => some ⟨F.x_0 bd e y_g u y_f = true, .tup [], [(0, .cells 55 [.val (.int .i64 a_l), .val (.int .i64 a_c), .val (.int .i64 a_p), .val (.bool a_o), .val (.int .i64 a_b), .val (.int .i64 a_s), .sl none (.recs (.ints .u8 .nil) a_q), .val (.int .i64 a_t), .val (.int .i64 a_n), .val (.bool a_w), .val (.int .i64 d_l), .val (.int .i64 d_c), .val (.int .i64 d_p), .val (.bool d_o), .val (.int .i64 d_b), .val (.int .i64 d_s), .sl none (.recs (.ints .u8 .nil) d_q), .val (.int .i64 d_t), .val (.int .i64 d_n), .val (.bool d_w), .sl (some (1, 84)) (.recs (.int .i64 (.int .i64 (.int .i64 (.int .i64 (.ints .u8 .nil))))) (F.x_ap u y_f)), .sl (some (2, 84)) (.recs (.int .i64 (.int .i64 (.int .i64 (.int .i64 (.ints .u8 .nil))))) v), .mp 3, .mp 4, .val (.bool false)]), (1, .tok), (2, .tok), (3, .mp m), (4, .mp k)], [.one (.ptr 0 0), Any, Any, Any, Any]⟩
  | _, _ => none
set_option cbv.maxSteps 4000000 in
set_option maxHeartbeats 4000000 in
set_option maxRecDepth 100000 in
theorem x_news0 (y_f : List E) (y_g : List E) (y_d : Bool) (y_s : Int) (e : Int) (all : List E) (a_l : Int) (a_c : Int) (a_p : Int) (a_o : Bool) (a_b : Int) (a_s : Int) (a_q : List E) (a_t : Int) (a_n : Int) (a_w : Bool) (d_l : Int) (d_c : Int) (d_p : Int) (d_o : Bool) (d_b : Int) (d_s : Int) (d_q : List E) (d_t : Int) (d_n : Int) (d_w : Bool) (u : List E) (v : List E) (m : List (Int × Int)) (k : List (Int × Int)) (bd : Bool) (hC : Lc.std.x_0 bd e y_g u y_f = true) : Does [] Try.f30 [.one (.ptr 0 0), .one (.num .i64 0), .agg [.sl none (.recs (.int .i64 (.int .i64 (.int .i64 (.int .i64 (.ints .u8 .nil))))) y_f), .sl none (.recs (.ints .u8 .nil) y_g), .val (.bool y_d), .val (.int .i64 y_s)], .one (.val (.int .i64 e)), .one (.sl none (.recs (.ints .u8 .nil) all))] [(0, .cells 55 [.val (.int .i64 a_l), .val (.int .i64 a_c), .val (.int .i64 a_p), .val (.bool a_o), .val (.int .i64 a_b), .val (.int .i64 a_s), .sl none (.recs (.ints .u8 .nil) a_q), .val (.int .i64 a_t), .val (.int .i64 a_n), .val (.bool a_w), .val (.int .i64 d_l), .val (.int .i64 d_c), .val (.int .i64 d_p), .val (.bool d_o), .val (.int .i64 d_b), .val (.int .i64 d_s), .sl none (.recs (.ints .u8 .nil) d_q), .val (.int .i64 d_t), .val (.int .i64 d_n), .val (.bool d_w), .sl (some (1, 84)) (.recs (.int .i64 (.int .i64 (.int .i64 (.int .i64 (.ints .u8 .nil))))) u), .sl (some (2, 84)) (.recs (.int .i64 (.int .i64 (.int .i64 (.int .i64 (.ints .u8 .nil))))) v), .mp 3, .mp 4, .val (.bool bd)]), (1, .tok), (2, .tok), (3, .mp m), (4, .mp k)] ⟨Lc.std.x_0 bd e y_g u y_f = true, .tup [], [(0, .cells 55 [.val (.int .i64 a_l), .val (.int .i64 a_c), .val (.int .i64 a_p), .val (.bool a_o), .val (.int .i64 a_b), .val (.int .i64 a_s), .sl none (.recs (.ints .u8 .nil) a_q), .val (.int .i64 a_t), .val (.int .i64 a_n), .val (.bool a_w), .val (.int .i64 d_l), .val (.int .i64 d_c), .val (.int .i64 d_p), .val (.bool d_o), .val (.int .i64 d_b), .val (.int .i64 d_s), .sl none (.recs (.ints .u8 .nil) d_q), .val (.int .i64 d_t), .val (.int .i64 d_n), .val (.bool d_w), .sl (some (1, 84)) (.recs (.int .i64 (.int .i64 (.int .i64 (.int .i64 (.ints .u8 .nil))))) (Lc.std.x_ap u y_f)), .sl (some (2, 84)) (.recs (.int .i64 (.int .i64 (.int .i64 (.int .i64 (.ints .u8 .nil))))) v), .mp 3, .mp 4, .val (.bool false)]), (1, .tok), (2, .tok), (3, .mp m), (4, .mp k)], [.one (.ptr 0 0), Any, Any, Any, Any]⟩ := by
  intro b gv
  have hk : bd = false ∧ e = 0 ∧ y_g.length = 0 ∧ u.length ≤ 1000 ∧ y_f.length ≤ 1000 := of_decide_eq_true (show decide _ = true from hC)
  obtain ⟨hk1, hk2, hk3, hk4⟩ := hk
  have hul : (u ++ y_f).length ≤ 2000 := by rw [List.length_append]; omega
  have hfs := FsOk.nil
  generalize hF : Lc.std = F at hC hfs ⊢
  generalize hA : Ar.std = A
  generalize hL : Lp _ _ _ = L
  obtain ⟨Z, zq⟩ := z_all
  refine @cd_open _ _ _ _ _ _ _ (lp_mono hL) _ _ zq rfl ?_
  repeat' (first
    | (refine z_open zq ?_; try dsimp only)
    | refine cd_seq zq ?_ (lp_mono hL)
    | refine cd_blk zq ?_
    | refine cd_ret ?_
    | refine cd_skip ?_
    | refine cd_exit ?_
    | refine cd_loop ?_
    | refine cd_cond rfl ?_
    | refine cd_condT rfl ?_
    | refine cd_condF rfl ?_
    | (refine Cd.mk ?_; cbv)
    | (refine Ends1.mk ?_; cbv)
    | (refine Fin1.mk ?_; cbv)
    | exact trivial
    | refine And.intro ?_ ?_
    | refine orf fun _ => ?_
    | refine ort fun _ => ?_)
  all_goals first | (show L _ _ _; skip) | (exfalso; clear hL hfs zq Z; subst hA hF; simp only [Lc.std, Ar.std] at * <;> grind [stdCmp]; done) | (clear hL hfs zq Z; subst hA hF; simp only [Lc.std, Ar.std] at * <;> grind [stdCmp]; done)
  subst hL
  refine loop_z (cx_ok hfs) (zQ) (fun y => stOf Try.f30.ntmps [(0, .ptr 1 0), (1, .num .i64 0), (4, .sl none (.recs (.ints .u8 .nil) all)), (7, .ptr 6 0), (10, .val (.int .i64 a_c)), (11, .val (.int .i64 y.i))] [(1, .cells 55 [.val (.int .i64 a_l), .val (.int .i64 a_c), .val (.int .i64 a_p), .val (.bool a_o), .val (.int .i64 a_b), .val (.int .i64 a_s), .sl none (.recs (.ints .u8 .nil) a_q), .val (.int .i64 a_t), .val (.int .i64 a_n), .val (.bool a_w), .val (.int .i64 d_l), .val (.int .i64 d_c), .val (.int .i64 d_p), .val (.bool d_o), .val (.int .i64 d_b), .val (.int .i64 d_s), .sl none (.recs (.ints .u8 .nil) d_q), .val (.int .i64 d_t), .val (.int .i64 d_n), .val (.bool d_w), .sl (some (2, 84)) (.recs (.int .i64 (.int .i64 (.int .i64 (.int .i64 (.ints .u8 .nil))))) (A.appE u y_f)), .sl (some (3, 84)) (.recs (.int .i64 (.int .i64 (.int .i64 (.int .i64 (.ints .u8 .nil))))) v), .mp 4, .mp 5, .val (.bool y.b)]), (2, .tok), (3, .tok), (4, .mp m), (5, .mp k), (6, .cells 80 [.sl none (.recs (.int .i64 (.int .i64 (.int .i64 (.int .i64 (.ints .u8 .nil))))) y_f), .sl none (.recs (.ints .u8 .nil) y_g), .val (.bool y_d), .val (.int .i64 y_s)])] [.one (.ptr 1 0), Any, Any, Any, Any]) (zM) (fun st => ⟨slotI st 11, [], valB (cellC st 0 24)⟩) ⟨0, [], A.iteB (A.iteB bd true (A.cmp .neq e 0)) true (A.cmp .gtr (A.lenE y_g) 0)⟩ ?_ ?_ ?_
  · subst hA hk1 hk2
    refine ⟨rfl, ?_⟩
    simp [Ar.std, stdCmp, hk3]
  · cbv
    repeat' (first | exact trivial | exact rfl | refine And.intro ?_ ?_)
  rintro ⟨j, M, bz⟩ hq O hO
  have hj0 : j = 0 := hq.1
  have hb0 : bz = false := hq.2
  have ht0 : zQ ⟨0, [], false⟩ := ⟨rfl, rfl⟩
  subst hA
  generalize hA : Ar.std = A
  generalize hL : Lp _ _ _ = L
  refine cd_close zq ?_
  repeat' (first
    | (refine z_open zq ?_; try dsimp only)
    | refine cd_seq zq ?_ (lp_mono hL)
    | refine cd_blk zq ?_
    | refine cd_ret ?_
    | refine cd_skip ?_
    | refine cd_exit ?_
    | refine cd_loop ?_
    | refine cd_cond rfl ?_
    | refine cd_condT rfl ?_
    | refine cd_condF rfl ?_
    | (refine Cd.mk ?_; cbv)
    | (refine Ends1.mk ?_; cbv)
    | (refine Fin1.mk ?_; cbv)
    | exact trivial
    | refine And.intro ?_ ?_
    | refine orf fun _ => ?_
    | refine ort fun _ => ?_)
  all_goals first | (show L _ _ _; skip) | (exfalso; clear hL hfs zq Z hq; subst hA hF hO; simp only [Lc.std, Ar.std] at * <;> grind [stdCmp]; done) | (clear hL hfs zq Z hq; subst hA hF hO; simp only [Lc.std, Ar.std] at * <;> grind [stdCmp]; done)
set_option maxHeartbeats 4000000 in
theorem ok_news0 : ConOk Try.prog 30 (c_news0 Lc.std) := by
  refine con_of FsOk.nil Try.func30 rfl rfl fun xs h p hp => ?_
  unfold c_news0 at hp
  split at hp
  · cases hp
    exact ⟨lee_le rfl, fun hC _ => @x_news0 _ _ _ _ _ _ _ _ _ _ _ _ _ _ _ _ _ _ _ _ _ _ _ _ _ _ _ _ _ _ _ hC⟩
  · cases hp
set_option maxHeartbeats 4000000 in
theorem w_news0 (F : Lc) (y_f : List E) (y_g : List E) (y_d : Bool) (y_s : Int) (e : Int) (all : List E) (a_l : Int) (a_c : Int) (a_p : Int) (a_o : Bool) (a_b : Int) (a_s : Int) (a_q : List E) (a_t : Int) (a_n : Int) (a_w : Bool) (d_l : Int) (d_c : Int) (d_p : Int) (d_o : Bool) (d_b : Int) (d_s : Int) (d_q : List E) (d_t : Int) (d_n : Int) (d_w : Bool) (u : List E) (v : List E) (m : List (Int × Int)) (k : List (Int × Int)) (bd : Bool) : c_news0 F [.one (.ptr 0 0), .one (.num .i64 0), .agg [.sl none (.recs (.int .i64 (.int .i64 (.int .i64 (.int .i64 (.ints .u8 .nil))))) y_f), .sl none (.recs (.ints .u8 .nil) y_g), .val (.bool y_d), .val (.int .i64 y_s)], .one (.val (.int .i64 e)), .one (.sl none (.recs (.ints .u8 .nil) all))] [(0, .cells 55 [.val (.int .i64 a_l), .val (.int .i64 a_c), .val (.int .i64 a_p), .val (.bool a_o), .val (.int .i64 a_b), .val (.int .i64 a_s), .sl none (.recs (.ints .u8 .nil) a_q), .val (.int .i64 a_t), .val (.int .i64 a_n), .val (.bool a_w), .val (.int .i64 d_l), .val (.int .i64 d_c), .val (.int .i64 d_p), .val (.bool d_o), .val (.int .i64 d_b), .val (.int .i64 d_s), .sl none (.recs (.ints .u8 .nil) d_q), .val (.int .i64 d_t), .val (.int .i64 d_n), .val (.bool d_w), .sl (some (1, 84)) (.recs (.int .i64 (.int .i64 (.int .i64 (.int .i64 (.ints .u8 .nil))))) u), .sl (some (2, 84)) (.recs (.int .i64 (.int .i64 (.int .i64 (.int .i64 (.ints .u8 .nil))))) v), .mp 3, .mp 4, .val (.bool bd)]), (1, .tok), (2, .tok), (3, .mp m), (4, .mp k)] = some ⟨F.x_0 bd e y_g u y_f = true, .tup [], [(0, .cells 55 [.val (.int .i64 a_l), .val (.int .i64 a_c), .val (.int .i64 a_p), .val (.bool a_o), .val (.int .i64 a_b), .val (.int .i64 a_s), .sl none (.recs (.ints .u8 .nil) a_q), .val (.int .i64 a_t), .val (.int .i64 a_n), .val (.bool a_w), .val (.int .i64 d_l), .val (.int .i64 d_c), .val (.int .i64 d_p), .val (.bool d_o), .val (.int .i64 d_b), .val (.int .i64 d_s), .sl none (.recs (.ints .u8 .nil) d_q), .val (.int .i64 d_t), .val (.int .i64 d_n), .val (.bool d_w), .sl (some (1, 84)) (.recs (.int .i64 (.int .i64 (.int .i64 (.int .i64 (.ints .u8 .nil))))) (F.x_ap u y_f)), .sl (some (2, 84)) (.recs (.int .i64 (.int .i64 (.int .i64 (.int .i64 (.ints .u8 .nil))))) v), .mp 3, .mp 4, .val (.bool false)]), (1, .tok), (2, .tok), (3, .mp m), (4, .mp k)], [.one (.ptr 0 0), Any, Any, Any, Any]⟩ := by
  first
    | (cbv; done)
    | rfl

set_option maxHeartbeats 4000000 in
noncomputable def c_news1 (F : Lc) : Con := fun xs h => match xs, h with
  | [.one (.ptr 0 0), .one (.num .i64 1), .agg [.sl none (.recs (.int .i64 (.int .i64 (.int .i64 (.int .i64 (.ints .u8 .nil))))) y_f), .sl none (.recs (.ints .u8 .nil) y_g), .val (.bool _), .val (.int .i64 _)], .one (.val (.int .i64 e)), .one (.sl none (.recs (.ints .u8 .nil) all))], [(0, .cells 55 [.val (.int .i64 a_l), .val (.int .i64 a_c), .val (.int .i64 a_p), .val (.bool a_o), .val (.int .i64 a_b), .val (.int .i64 a_s), .sl none (.recs (.ints .u8 .nil) a_q), .val (.int .i64 a_t), .val (.int .i64 a_n), .val (.bool a_w), .val (.int .i64 d_l), .val (.int .i64 d_c), .val (.int .i64 d_p), .val (.bool d_o), .val (.int .i64 d_b), .val (.int .i64 d_s), .sl none (.recs (.ints .u8 .nil) d_q), .val (.int .i64 d_t), .val (.int .i64 d_n), .val (.bool d_w), .sl (some (1, 84)) (.recs (.int .i64 (.int .i64 (.int .i64 (.int .i64 (.ints .u8 .nil))))) u), .sl (some (2, 84)) (.recs (.int .i64 (.int .i64 (.int .i64 (.int .i64 (.ints .u8 .nil))))) v), .mp 3, .mp 4, .val (.bool bd)]), (1, .tok), (2, .tok), (3, .mp m), (4, .mp k)] => some ⟨F.x_1 bd e y_g all m k d_c v y_f = true, .tup [], [(0, .cells 55 [.val (.int .i64 a_l), .val (.int .i64 a_c), .val (.int .i64 a_p), .val (.bool a_o), .val (.int .i64 a_b), .val (.int .i64 a_s), .sl none (.recs (.ints .u8 .nil) a_q), .val (.int .i64 a_t), .val (.int .i64 a_n), .val (.bool a_w), .val (.int .i64 d_l), .val (.int .i64 d_c), .val (.int .i64 d_p), .val (.bool d_o), .val (.int .i64 d_b), .val (.int .i64 d_s), .sl none (.recs (.ints .u8 .nil) d_q), .val (.int .i64 d_t), .val (.int .i64 d_n), .val (.bool d_w), .sl (some (1, 84)) (.recs (.int .i64 (.int .i64 (.int .i64 (.int .i64 (.ints .u8 .nil))))) u), .sl (some (2, 84)) (.recs (.int .i64 (.int .i64 (.int .i64 (.int .i64 (.ints .u8 .nil))))) (F.x_ap v y_f)), .mp 3, .mp 4, .val (.bool false)]), (1, .tok), (2, .tok), (3, .mp m), (4, .mp (F.x_k y_g k d_c))], [.one (.ptr 0 0), Any, Any, Any, Any]⟩
  | _, _ => none
set_option cbv.maxSteps 4000000 in
set_option maxHeartbeats 4000000 in
set_option maxRecDepth 100000 in
theorem x_news1 (y_f : List E) (y_g : List E) (y_d : Bool) (y_s : Int) (e : Int) (all : List E) (a_l : Int) (a_c : Int) (a_p : Int) (a_o : Bool) (a_b : Int) (a_s : Int) (a_q : List E) (a_t : Int) (a_n : Int) (a_w : Bool) (d_l : Int) (d_c : Int) (d_p : Int) (d_o : Bool) (d_b : Int) (d_s : Int) (d_q : List E) (d_t : Int) (d_n : Int) (d_w : Bool) (u : List E) (v : List E) (m : List (Int × Int)) (k : List (Int × Int)) (bd : Bool) (hC : Lc.std.x_1 bd e y_g all m k d_c v y_f = true) : Does [] Try.f30 [.one (.ptr 0 0), .one (.num .i64 1), .agg [.sl none (.recs (.int .i64 (.int .i64 (.int .i64 (.int .i64 (.ints .u8 .nil))))) y_f), .sl none (.recs (.ints .u8 .nil) y_g), .val (.bool y_d), .val (.int .i64 y_s)], .one (.val (.int .i64 e)), .one (.sl none (.recs (.ints .u8 .nil) all))] [(0, .cells 55 [.val (.int .i64 a_l), .val (.int .i64 a_c), .val (.int .i64 a_p), .val (.bool a_o), .val (.int .i64 a_b), .val (.int .i64 a_s), .sl none (.recs (.ints .u8 .nil) a_q), .val (.int .i64 a_t), .val (.int .i64 a_n), .val (.bool a_w), .val (.int .i64 d_l), .val (.int .i64 d_c), .val (.int .i64 d_p), .val (.bool d_o), .val (.int .i64 d_b), .val (.int .i64 d_s), .sl none (.recs (.ints .u8 .nil) d_q), .val (.int .i64 d_t), .val (.int .i64 d_n), .val (.bool d_w), .sl (some (1, 84)) (.recs (.int .i64 (.int .i64 (.int .i64 (.int .i64 (.ints .u8 .nil))))) u), .sl (some (2, 84)) (.recs (.int .i64 (.int .i64 (.int .i64 (.int .i64 (.ints .u8 .nil))))) v), .mp 3, .mp 4, .val (.bool bd)]), (1, .tok), (2, .tok), (3, .mp m), (4, .mp k)] ⟨Lc.std.x_1 bd e y_g all m k d_c v y_f = true, .tup [], [(0, .cells 55 [.val (.int .i64 a_l), .val (.int .i64 a_c), .val (.int .i64 a_p), .val (.bool a_o), .val (.int .i64 a_b), .val (.int .i64 a_s), .sl none (.recs (.ints .u8 .nil) a_q), .val (.int .i64 a_t), .val (.int .i64 a_n), .val (.bool a_w), .val (.int .i64 d_l), .val (.int .i64 d_c), .val (.int .i64 d_p), .val (.bool d_o), .val (.int .i64 d_b), .val (.int .i64 d_s), .sl none (.recs (.ints .u8 .nil) d_q), .val (.int .i64 d_t), .val (.int .i64 d_n), .val (.bool d_w), .sl (some (1, 84)) (.recs (.int .i64 (.int .i64 (.int .i64 (.int .i64 (.ints .u8 .nil))))) u), .sl (some (2, 84)) (.recs (.int .i64 (.int .i64 (.int .i64 (.int .i64 (.ints .u8 .nil))))) (Lc.std.x_ap v y_f)), .mp 3, .mp 4, .val (.bool false)]), (1, .tok), (2, .tok), (3, .mp m), (4, .mp (Lc.std.x_k y_g k d_c))], [.one (.ptr 0 0), Any, Any, Any, Any]⟩ := by
  intro b gv
  obtain ⟨hk1, hk2, hk3, hk4, hk5, hk8, hk6⟩ := okN_is (show okN bd e y_g all m k d_c v.length y_f.length = true from hC)
  have hvl : (v ++ y_f).length ≤ 2000 := by rw [List.length_append]; omega
  have hk0 : y_g.length = 0 → n1K y_g k d_c = k := fun h => if_pos h
  have hk7 : ¬ y_g.length = 0 → n1K y_g k d_c = mput k d_c (mget k d_c + 1) := fun h => if_neg h
  have hfs := FsOk.nil
  generalize hF : Lc.std = F at hC hfs ⊢
  generalize hA : Ar.std = A
  generalize hL : Lp _ _ _ = L
  obtain ⟨Z, zq⟩ := z_all
  refine @cd_open _ _ _ _ _ _ _ (lp_mono hL) _ _ zq rfl ?_
  repeat' (first
    | (refine z_open zq ?_; try dsimp only)
    | refine cd_seq zq ?_ (lp_mono hL)
    | refine cd_blk zq ?_
    | refine cd_ret ?_
    | refine cd_skip ?_
    | refine cd_exit ?_
    | refine cd_loop ?_
    | refine cd_cond rfl ?_
    | refine cd_condT rfl ?_
    | refine cd_condF rfl ?_
    | (refine Cd.mk ?_; cbv)
    | (refine Ends1.mk ?_; cbv)
    | (refine Fin1.mk ?_; cbv)
    | exact trivial
    | refine And.intro ?_ ?_
    | refine orf fun _ => ?_
    | refine ort fun _ => ?_)
  all_goals first | (show L _ _ _; skip) | (exfalso; clear hL hfs zq Z; subst hA hF; simp only [Lc.std, Ar.std] at * <;> grind [stdCmp]; done) | (clear hL hfs zq Z; subst hA hF; simp only [Lc.std, Ar.std] at * <;> grind [stdCmp]; done)
  subst hL
  refine loop_z (cx_ok hfs) (n1Q y_g k d_c) (fun y => stOf Try.f30.ntmps [(0, .ptr 1 0), (1, .num .i64 1), (4, .sl none (.recs (.ints .u8 .nil) all)), (7, .ptr 6 0), (10, .val (.int .i64 d_c)), (11, .val (.int .i64 y.i))] [(1, .cells 55 [.val (.int .i64 a_l), .val (.int .i64 a_c), .val (.int .i64 a_p), .val (.bool a_o), .val (.int .i64 a_b), .val (.int .i64 a_s), .sl none (.recs (.ints .u8 .nil) a_q), .val (.int .i64 a_t), .val (.int .i64 a_n), .val (.bool a_w), .val (.int .i64 d_l), .val (.int .i64 d_c), .val (.int .i64 d_p), .val (.bool d_o), .val (.int .i64 d_b), .val (.int .i64 d_s), .sl none (.recs (.ints .u8 .nil) d_q), .val (.int .i64 d_t), .val (.int .i64 d_n), .val (.bool d_w), .sl (some (2, 84)) (.recs (.int .i64 (.int .i64 (.int .i64 (.int .i64 (.ints .u8 .nil))))) u), .sl (some (3, 84)) (.recs (.int .i64 (.int .i64 (.int .i64 (.int .i64 (.ints .u8 .nil))))) (A.appE v y_f)), .mp 4, .mp 5, .val (.bool y.b)]), (2, .tok), (3, .tok), (4, .mp m), (5, .mp y.m), (6, .cells 80 [.sl none (.recs (.int .i64 (.int .i64 (.int .i64 (.int .i64 (.ints .u8 .nil))))) y_f), .sl none (.recs (.ints .u8 .nil) y_g), .val (.bool y_d), .val (.int .i64 y_s)])] [.one (.ptr 1 0), Any, Any, Any, Any]) (n1M) (fun st => ⟨slotI st 11, slotM st 0 23, valB (cellC st 0 24)⟩) ⟨0, k, A.iteB (A.iteB bd true (A.cmp .neq e 0)) true false⟩ ?_ ?_ ?_
  · subst hA hk1 hk2
    exact ⟨rfl, .inl ⟨rfl, rfl⟩⟩
  · cbv
    repeat' (first | exact trivial | exact rfl | refine And.intro ?_ ?_)
  rintro ⟨j, M, bz⟩ hq O hO
  have hb0 : bz = false := hq.1
  have hcase : (j = 0 ∧ M = k) ∨ (j = 1 ∧ y_g.length = 1 ∧ M = mput k d_c (mget k d_c + 1)) := hq.2
  have hs1 := fun h => n1_step (g := y_g) (k := k) (c := d_c) h
  have ha1 := ad_1
  have hme := fun x b => n1_less k x b
  have hac := fun h0 h1 => ad_c (n := mget k d_c) h0 h1
  subst hA
  generalize hA : Ar.std = A
  generalize hL : Lp _ _ _ = L
  refine cd_close zq ?_
  repeat' (first
    | (refine z_open zq ?_; try dsimp only)
    | refine cd_seq zq ?_ (lp_mono hL)
    | refine cd_blk zq ?_
    | refine cd_ret ?_
    | refine cd_skip ?_
    | refine cd_exit ?_
    | refine cd_loop ?_
    | refine cd_cond rfl ?_
    | refine cd_condT rfl ?_
    | refine cd_condF rfl ?_
    | (refine Cd.mk ?_; cbv)
    | (refine Ends1.mk ?_; cbv)
    | (refine Fin1.mk ?_; cbv)
    | exact trivial
    | refine And.intro ?_ ?_
    | refine orf fun _ => ?_
    | refine ort fun _ => ?_)
  all_goals (rcases hcase with ⟨hj, hM⟩ | ⟨hj, hg, hM⟩ <;> (subst hj hM hb0))
  all_goals first | (show L _ _ _; skip) | (exfalso; clear hL hfs zq Z hq; subst hA hF hO; simp only [Lc.std, Ar.std] at * <;> grind [stdCmp]; done) | (clear hL hfs zq Z hq; subst hA hF hO; simp only [Lc.std, Ar.std] at * <;> grind [stdCmp]; done)
set_option maxHeartbeats 4000000 in
theorem ok_news1 : ConOk Try.prog 30 (c_news1 Lc.std) := by
  refine con_of FsOk.nil Try.func30 rfl rfl fun xs h p hp => ?_
  unfold c_news1 at hp
  split at hp
  · cases hp
    exact ⟨lee_le rfl, fun hC _ => @x_news1 _ _ _ _ _ _ _ _ _ _ _ _ _ _ _ _ _ _ _ _ _ _ _ _ _ _ _ _ _ _ _ hC⟩
  · cases hp
set_option maxHeartbeats 4000000 in
theorem w_news1 (F : Lc) (y_f : List E) (y_g : List E) (y_d : Bool) (y_s : Int) (e : Int) (all : List E) (a_l : Int) (a_c : Int) (a_p : Int) (a_o : Bool) (a_b : Int) (a_s : Int) (a_q : List E) (a_t : Int) (a_n : Int) (a_w : Bool) (d_l : Int) (d_c : Int) (d_p : Int) (d_o : Bool) (d_b : Int) (d_s : Int) (d_q : List E) (d_t : Int) (d_n : Int) (d_w : Bool) (u : List E) (v : List E) (m : List (Int × Int)) (k : List (Int × Int)) (bd : Bool) : c_news1 F [.one (.ptr 0 0), .one (.num .i64 1), .agg [.sl none (.recs (.int .i64 (.int .i64 (.int .i64 (.int .i64 (.ints .u8 .nil))))) y_f), .sl none (.recs (.ints .u8 .nil) y_g), .val (.bool y_d), .val (.int .i64 y_s)], .one (.val (.int .i64 e)), .one (.sl none (.recs (.ints .u8 .nil) all))] [(0, .cells 55 [.val (.int .i64 a_l), .val (.int .i64 a_c), .val (.int .i64 a_p), .val (.bool a_o), .val (.int .i64 a_b), .val (.int .i64 a_s), .sl none (.recs (.ints .u8 .nil) a_q), .val (.int .i64 a_t), .val (.int .i64 a_n), .val (.bool a_w), .val (.int .i64 d_l), .val (.int .i64 d_c), .val (.int .i64 d_p), .val (.bool d_o), .val (.int .i64 d_b), .val (.int .i64 d_s), .sl none (.recs (.ints .u8 .nil) d_q), .val (.int .i64 d_t), .val (.int .i64 d_n), .val (.bool d_w), .sl (some (1, 84)) (.recs (.int .i64 (.int .i64 (.int .i64 (.int .i64 (.ints .u8 .nil))))) u), .sl (some (2, 84)) (.recs (.int .i64 (.int .i64 (.int .i64 (.int .i64 (.ints .u8 .nil))))) v), .mp 3, .mp 4, .val (.bool bd)]), (1, .tok), (2, .tok), (3, .mp m), (4, .mp k)] = some ⟨F.x_1 bd e y_g all m k d_c v y_f = true, .tup [], [(0, .cells 55 [.val (.int .i64 a_l), .val (.int .i64 a_c), .val (.int .i64 a_p), .val (.bool a_o), .val (.int .i64 a_b), .val (.int .i64 a_s), .sl none (.recs (.ints .u8 .nil) a_q), .val (.int .i64 a_t), .val (.int .i64 a_n), .val (.bool a_w), .val (.int .i64 d_l), .val (.int .i64 d_c), .val (.int .i64 d_p), .val (.bool d_o), .val (.int .i64 d_b), .val (.int .i64 d_s), .sl none (.recs (.ints .u8 .nil) d_q), .val (.int .i64 d_t), .val (.int .i64 d_n), .val (.bool d_w), .sl (some (1, 84)) (.recs (.int .i64 (.int .i64 (.int .i64 (.int .i64 (.ints .u8 .nil))))) u), .sl (some (2, 84)) (.recs (.int .i64 (.int .i64 (.int .i64 (.int .i64 (.ints .u8 .nil))))) (F.x_ap v y_f)), .mp 3, .mp 4, .val (.bool false)]), (1, .tok), (2, .tok), (3, .mp m), (4, .mp (F.x_k y_g k d_c))], [.one (.ptr 0 0), Any, Any, Any, Any]⟩ := by
  first
    | (cbv; done)
    | rfl
end Go.Proofs.Ytakebkfhigadiaa.LcR
