/-
  two ends that open sessions, as the document has them. No condition.
-/
import Derived.Test.YtgemoemkgcmcgaaMeR
import Derived.Test.YtgemoemkgcmcgaaRyOp
namespace Go.Proofs.Ytgemoemkgcmcgaa.MeQ
open Go Go.Proofs.Ytgemoemkgcmcgaa.Ry Go.Proofs.Ytgemoemkgcmcgaa.HaR Go.Proofs.Ytgemoemkgcmcgaa.BwS Go.Proofs.Ytgemoemkgcmcgaa.MeR

def modP (k : Int) : Bool := decide (1 ≤ k ∧ k ≤ 4611686018427387904)
def coN (lim e : Int) (d : MS) (h : Bool) (p : Int) : MS :=
  if h = false then setH (1 - e) d (welH (en (1 - e) d).l (en (1 - e) d).c (en (1 - e) d).p (en (1 - e) d).o p).l (welH (en (1 - e) d).l (en (1 - e) d).c (en (1 - e) d).p (en (1 - e) d).o p).c (welH (en (1 - e) d).l (en (1 - e) d).c (en (1 - e) d).p (en (1 - e) d).o p).p (welH (en (1 - e) d).l (en (1 - e) d).c (en (1 - e) d).p (en (1 - e) d).o p).o
  else if (helH (en (1 - e) d).l (en (1 - e) d).c (en (1 - e) d).p (en (1 - e) d).o p lim).a = true then setW (1 - e) (setH (1 - e) d (helH (en (1 - e) d).l (en (1 - e) d).c (en (1 - e) d).p (en (1 - e) d).o p lim).l (helH (en (1 - e) d).l (en (1 - e) d).c (en (1 - e) d).p (en (1 - e) d).o p lim).c (helH (en (1 - e) d).l (en (1 - e) d).c (en (1 - e) d).p (en (1 - e) d).o p lim).p (helH (en (1 - e) d).l (en (1 - e) d).c (en (1 - e) d).p (en (1 - e) d).o p lim).o) (wy (1 - e) d ++ [[D.bool false, D.int p]])
  else setH (1 - e) d (helH (en (1 - e) d).l (en (1 - e) d).c (en (1 - e) d).p (en (1 - e) d).o p lim).l (helH (en (1 - e) d).l (en (1 - e) d).c (en (1 - e) d).p (en (1 - e) d).o p lim).c (helH (en (1 - e) d).l (en (1 - e) d).c (en (1 - e) d).p (en (1 - e) d).o p lim).p (helH (en (1 - e) d).l (en (1 - e) d).c (en (1 - e) d).p (en (1 - e) d).o p lim).o
def nO (y : E) : E := [D.bool (rb y 0), D.int (ri y 1)]
def atN (w : List E) (n : Int) : E := w.getD (modI n w.length).toNat []
def doN (lim k n e : Int) (d : MS) : MS :=
  if k = 1 then (if 0 < (en e d).p then setW e d (wy e d ++ [[D.bool true, D.int (en e d).p]]) else d)
  else if k = 9 then setH e d (closeH (en e d).l (en e d).c (en e d).p (en e d).o lim).l (closeH (en e d).l (en e d).c (en e d).p (en e d).o lim).c (closeH (en e d).l (en e d).c (en e d).p (en e d).o lim).p (closeH (en e d).l (en e d).c (en e d).p (en e d).o lim).o
  else if (wy e d).length = 0 ∨ k < 2 ∨ 5 < k then d
  else if k = 2 then coN lim e (setW e d (res (wy e d) (modI n (wy e d).length))) (rb (atN (wy e d) n) 0) (ri (atN (wy e d) n) 1)
  else if k = 3 then setW e d (res (wy e d) (modI n (wy e d).length))
  else if k = 4 then setW e d (wy e d ++ [nO (atN (wy e d) n)])
  else setW e d (res (wy e d) (modI n (wy e d).length) ++ [nO (atN (wy e d) n)])
def goN (lim k n a : Int) (d : MS) : MS := if a = 1 then doN lim k n 0 d else if a = 2 then doN lim k n 1 d else d
def mayN (d : MS) : Bool := cntB d.l0 && cntB d.l1 && decide (d.w0.length ≤ 100000 ∧ d.w1.length ≤ 100000)

structure Mq where
  q_at : Int → Int → Int
  q_atP : Int → Bool
  q_co : Int → Int → MS → Bool → Int → MS
  q_go : Int → Int → Int → Int → MS → MS
  q_may : MS → Bool
  q_len : MS → Bool
def Mq.std : Mq := ⟨modI, modP, coN, goN, mayN, fun d => decide (d.w0.length ≤ 100001 ∧ d.w1.length ≤ 100001)⟩

def c_at (F : Mq) : Con := fun xs h => match xs, h with
  | [.one (.val (.int .i64 n)), .one (.val (.int .i64 k))], [] => some ⟨F.q_atP k = true, .sa (I (F.q_at n k)), [], [Any, Any]⟩
  | _, _ => none
set_option maxRecDepth 100000 in
theorem x_at (n : Int) (k : Int) (hC : Mq.std.q_atP k = true) : Does [] Try.f59 [.one (.val (.int .i64 n)), .one (.val (.int .i64 k))] [] ⟨Mq.std.q_atP k = true, .sa (I (Mq.std.q_at n k)), [], [Any, Any]⟩ := by
  intro b gv
  have hp : 1 ≤ k ∧ k ≤ 4611686018427387904 := of_decide_eq_true (show decide (1 ≤ k ∧ k ≤ 4611686018427387904) = true from hC)
  have hk := mod_is (n := n) (k := k) (decide_eq_true hp.2) (by omega)
  have hfs := FsOk.nil
  generalize hF : Mq.std = F at hC hfs ⊢
  generalize hG0 : HaR.Fs.std = G0 at hC hfs ⊢
  generalize hA : Ar.std = A
  generalize hL : Lp _ _ _ = L
  obtain ⟨Z, zq⟩ := z_all
  refine cd_open (lp_mono hL) zq rfl ?_
  repeat' (first
    | (refine z_open zq ?_; try dsimp only)
    | refine cd_seq zq ?_ (lp_mono hL)
    | refine cd_blk zq ?_
    | refine cd_ret ?_
    | refine cd_skip ?_
    | refine cd_exit ?_
    | refine cd_loop ?_
    | refine cd_cond rfl ?_
    | refine cd_condT rfl ?_
    | refine cd_condF rfl ?_
    | (refine Cd.mk ?_; cbv)
    | (refine Ends1.mk ?_; cbv)
    | (refine Fin1.mk ?_; cbv)
    | exact trivial
    | refine And.intro ?_ ?_
    | refine orf fun _ => ?_
    | refine ort fun _ => ?_)
  all_goals
    clear hL zq Z
    try clear hfs
    subst hA hF hG0
    simp only [Mq.std, Ar.std] at *
    try (first | (grind [stdCmp, modP]; done))
theorem ok_at : ConOk Try.prog 59 (c_at Mq.std) := by
  refine con_of FsOk.nil Try.func59 rfl rfl fun xs h p hp => ?_
  unfold c_at at hp
  split at hp
  · cases hp
    exact ⟨lee_le rfl, fun hC _ => x_at _ _ hC⟩
  · cases hp

def c_come0 (F : Mq) : Con := fun xs h => match xs, h with
  | [.agg [.val (.int .i64 x_lim), .val (.int .i64 x_l0), .val (.int .i64 x_c0), .val (.int .i64 x_p0), .val (.bool x_o0), .val (.int .i64 x_l1), .val (.int .i64 x_c1), .val (.int .i64 x_p1), .val (.bool x_o1), .sl none (.recs (.bool (.int .i64 .nil)) x_w0), .sl none (.recs (.bool (.int .i64 .nil)) x_w1)], .one (.num .i64 0), .agg [.val (.bool n_h), .val (.int .i64 n_p)]], [] => some ⟨F.q_len ⟨x_l0, x_c0, x_p0, x_o0, x_l1, x_c1, x_p1, x_o1, x_w0, x_w1⟩ = true, .sa (.agg [.val (.int .i64 x_lim), .val (.int .i64 (F.q_co x_lim 0 ⟨x_l0, x_c0, x_p0, x_o0, x_l1, x_c1, x_p1, x_o1, x_w0, x_w1⟩ n_h n_p).l0), .val (.int .i64 (F.q_co x_lim 0 ⟨x_l0, x_c0, x_p0, x_o0, x_l1, x_c1, x_p1, x_o1, x_w0, x_w1⟩ n_h n_p).c0), .val (.int .i64 (F.q_co x_lim 0 ⟨x_l0, x_c0, x_p0, x_o0, x_l1, x_c1, x_p1, x_o1, x_w0, x_w1⟩ n_h n_p).p0), .val (.bool (F.q_co x_lim 0 ⟨x_l0, x_c0, x_p0, x_o0, x_l1, x_c1, x_p1, x_o1, x_w0, x_w1⟩ n_h n_p).o0), .val (.int .i64 (F.q_co x_lim 0 ⟨x_l0, x_c0, x_p0, x_o0, x_l1, x_c1, x_p1, x_o1, x_w0, x_w1⟩ n_h n_p).l1), .val (.int .i64 (F.q_co x_lim 0 ⟨x_l0, x_c0, x_p0, x_o0, x_l1, x_c1, x_p1, x_o1, x_w0, x_w1⟩ n_h n_p).c1), .val (.int .i64 (F.q_co x_lim 0 ⟨x_l0, x_c0, x_p0, x_o0, x_l1, x_c1, x_p1, x_o1, x_w0, x_w1⟩ n_h n_p).p1), .val (.bool (F.q_co x_lim 0 ⟨x_l0, x_c0, x_p0, x_o0, x_l1, x_c1, x_p1, x_o1, x_w0, x_w1⟩ n_h n_p).o1), .sl none (.recs (.bool (.int .i64 .nil)) (F.q_co x_lim 0 ⟨x_l0, x_c0, x_p0, x_o0, x_l1, x_c1, x_p1, x_o1, x_w0, x_w1⟩ n_h n_p).w0), .sl none (.recs (.bool (.int .i64 .nil)) (F.q_co x_lim 0 ⟨x_l0, x_c0, x_p0, x_o0, x_l1, x_c1, x_p1, x_o1, x_w0, x_w1⟩ n_h n_p).w1)]), [], [Any, Any, Any]⟩
  | _, _ => none
set_option maxHeartbeats 4000000 in
set_option maxRecDepth 100000 in
theorem x_come0 (x_lim : Int) (x_l0 : Int) (x_c0 : Int) (x_p0 : Int) (x_o0 : Bool) (x_l1 : Int) (x_c1 : Int) (x_p1 : Int) (x_o1 : Bool) (x_w0 : List E) (x_w1 : List E) (n_h : Bool) (n_p : Int) (hC : Mq.std.q_len ⟨x_l0, x_c0, x_p0, x_o0, x_l1, x_c1, x_p1, x_o1, x_w0, x_w1⟩ = true) : Does [(147, c_rwel HaR.Fs.std), (148, c_rhel HaR.Fs.std)] Try.f85 [.agg [.val (.int .i64 x_lim), .val (.int .i64 x_l0), .val (.int .i64 x_c0), .val (.int .i64 x_p0), .val (.bool x_o0), .val (.int .i64 x_l1), .val (.int .i64 x_c1), .val (.int .i64 x_p1), .val (.bool x_o1), .sl none (.recs (.bool (.int .i64 .nil)) x_w0), .sl none (.recs (.bool (.int .i64 .nil)) x_w1)], .one (.num .i64 0), .agg [.val (.bool n_h), .val (.int .i64 n_p)]] [] ⟨Mq.std.q_len ⟨x_l0, x_c0, x_p0, x_o0, x_l1, x_c1, x_p1, x_o1, x_w0, x_w1⟩ = true, .sa (.agg [.val (.int .i64 x_lim), .val (.int .i64 (Mq.std.q_co x_lim 0 ⟨x_l0, x_c0, x_p0, x_o0, x_l1, x_c1, x_p1, x_o1, x_w0, x_w1⟩ n_h n_p).l0), .val (.int .i64 (Mq.std.q_co x_lim 0 ⟨x_l0, x_c0, x_p0, x_o0, x_l1, x_c1, x_p1, x_o1, x_w0, x_w1⟩ n_h n_p).c0), .val (.int .i64 (Mq.std.q_co x_lim 0 ⟨x_l0, x_c0, x_p0, x_o0, x_l1, x_c1, x_p1, x_o1, x_w0, x_w1⟩ n_h n_p).p0), .val (.bool (Mq.std.q_co x_lim 0 ⟨x_l0, x_c0, x_p0, x_o0, x_l1, x_c1, x_p1, x_o1, x_w0, x_w1⟩ n_h n_p).o0), .val (.int .i64 (Mq.std.q_co x_lim 0 ⟨x_l0, x_c0, x_p0, x_o0, x_l1, x_c1, x_p1, x_o1, x_w0, x_w1⟩ n_h n_p).l1), .val (.int .i64 (Mq.std.q_co x_lim 0 ⟨x_l0, x_c0, x_p0, x_o0, x_l1, x_c1, x_p1, x_o1, x_w0, x_w1⟩ n_h n_p).c1), .val (.int .i64 (Mq.std.q_co x_lim 0 ⟨x_l0, x_c0, x_p0, x_o0, x_l1, x_c1, x_p1, x_o1, x_w0, x_w1⟩ n_h n_p).p1), .val (.bool (Mq.std.q_co x_lim 0 ⟨x_l0, x_c0, x_p0, x_o0, x_l1, x_c1, x_p1, x_o1, x_w0, x_w1⟩ n_h n_p).o1), .sl none (.recs (.bool (.int .i64 .nil)) (Mq.std.q_co x_lim 0 ⟨x_l0, x_c0, x_p0, x_o0, x_l1, x_c1, x_p1, x_o1, x_w0, x_w1⟩ n_h n_p).w0), .sl none (.recs (.bool (.int .i64 .nil)) (Mq.std.q_co x_lim 0 ⟨x_l0, x_c0, x_p0, x_o0, x_l1, x_c1, x_p1, x_o1, x_w0, x_w1⟩ n_h n_p).w1)]), [], [Any, Any, Any]⟩ := by
  intro b gv
  have hfs := (FsOk.cons ok_rwel (FsOk.cons ok_rhel FsOk.nil rfl) rfl)
  generalize hF : Mq.std = F at hC hfs ⊢
  generalize hG0 : HaR.Fs.std = G0 at hC hfs ⊢
  generalize hA : Ar.std = A
  generalize hL : Lp _ _ _ = L
  obtain ⟨Z, zq⟩ := z_all
  refine cd_open (lp_mono hL) zq rfl ?_
  repeat' (first
    | (refine z_open zq ?_; try dsimp only)
    | refine cd_seq zq ?_ (lp_mono hL)
    | refine cd_blk zq ?_
    | refine cd_ret ?_
    | refine cd_skip ?_
    | refine cd_exit ?_
    | refine cd_loop ?_
    | refine cd_cond rfl ?_
    | refine cd_condT rfl ?_
    | refine cd_condF rfl ?_
    | (refine Cd.mk ?_; cbv)
    | (refine Ends1.mk ?_; cbv)
    | (refine Fin1.mk ?_; cbv)
    | exact trivial
    | refine And.intro ?_ ?_
    | refine orf fun _ => ?_
    | refine ort fun _ => ?_)
  all_goals
    clear hL zq Z
    try clear hfs
    subst hA hF hG0
    simp only [Mq.std, HaR.Fs.std, Ar.std, List.nil_append] at *
    try (first | (grind [stdCmp, coN, setH, setW, en, wy]; done))
theorem ok_come0 : ConOk Try.prog 85 (c_come0 Mq.std) := by
  refine con_of (FsOk.cons ok_rwel (FsOk.cons ok_rhel FsOk.nil rfl) rfl) Try.func85 rfl rfl fun xs h p hp => ?_
  unfold c_come0 at hp
  split at hp
  · cases hp
    exact ⟨lee_le rfl, fun hC _ => x_come0 _ _ _ _ _ _ _ _ _ _ _ _ _ hC⟩
  · cases hp

def c_come1 (F : Mq) : Con := fun xs h => match xs, h with
  | [.agg [.val (.int .i64 x_lim), .val (.int .i64 x_l0), .val (.int .i64 x_c0), .val (.int .i64 x_p0), .val (.bool x_o0), .val (.int .i64 x_l1), .val (.int .i64 x_c1), .val (.int .i64 x_p1), .val (.bool x_o1), .sl none (.recs (.bool (.int .i64 .nil)) x_w0), .sl none (.recs (.bool (.int .i64 .nil)) x_w1)], .one (.num .i64 1), .agg [.val (.bool n_h), .val (.int .i64 n_p)]], [] => some ⟨F.q_len ⟨x_l0, x_c0, x_p0, x_o0, x_l1, x_c1, x_p1, x_o1, x_w0, x_w1⟩ = true, .sa (.agg [.val (.int .i64 x_lim), .val (.int .i64 (F.q_co x_lim 1 ⟨x_l0, x_c0, x_p0, x_o0, x_l1, x_c1, x_p1, x_o1, x_w0, x_w1⟩ n_h n_p).l0), .val (.int .i64 (F.q_co x_lim 1 ⟨x_l0, x_c0, x_p0, x_o0, x_l1, x_c1, x_p1, x_o1, x_w0, x_w1⟩ n_h n_p).c0), .val (.int .i64 (F.q_co x_lim 1 ⟨x_l0, x_c0, x_p0, x_o0, x_l1, x_c1, x_p1, x_o1, x_w0, x_w1⟩ n_h n_p).p0), .val (.bool (F.q_co x_lim 1 ⟨x_l0, x_c0, x_p0, x_o0, x_l1, x_c1, x_p1, x_o1, x_w0, x_w1⟩ n_h n_p).o0), .val (.int .i64 (F.q_co x_lim 1 ⟨x_l0, x_c0, x_p0, x_o0, x_l1, x_c1, x_p1, x_o1, x_w0, x_w1⟩ n_h n_p).l1), .val (.int .i64 (F.q_co x_lim 1 ⟨x_l0, x_c0, x_p0, x_o0, x_l1, x_c1, x_p1, x_o1, x_w0, x_w1⟩ n_h n_p).c1), .val (.int .i64 (F.q_co x_lim 1 ⟨x_l0, x_c0, x_p0, x_o0, x_l1, x_c1, x_p1, x_o1, x_w0, x_w1⟩ n_h n_p).p1), .val (.bool (F.q_co x_lim 1 ⟨x_l0, x_c0, x_p0, x_o0, x_l1, x_c1, x_p1, x_o1, x_w0, x_w1⟩ n_h n_p).o1), .sl none (.recs (.bool (.int .i64 .nil)) (F.q_co x_lim 1 ⟨x_l0, x_c0, x_p0, x_o0, x_l1, x_c1, x_p1, x_o1, x_w0, x_w1⟩ n_h n_p).w0), .sl none (.recs (.bool (.int .i64 .nil)) (F.q_co x_lim 1 ⟨x_l0, x_c0, x_p0, x_o0, x_l1, x_c1, x_p1, x_o1, x_w0, x_w1⟩ n_h n_p).w1)]), [], [Any, Any, Any]⟩
  | _, _ => none
set_option maxHeartbeats 4000000 in
set_option maxRecDepth 100000 in
theorem x_come1 (x_lim : Int) (x_l0 : Int) (x_c0 : Int) (x_p0 : Int) (x_o0 : Bool) (x_l1 : Int) (x_c1 : Int) (x_p1 : Int) (x_o1 : Bool) (x_w0 : List E) (x_w1 : List E) (n_h : Bool) (n_p : Int) (hC : Mq.std.q_len ⟨x_l0, x_c0, x_p0, x_o0, x_l1, x_c1, x_p1, x_o1, x_w0, x_w1⟩ = true) : Does [(147, c_rwel HaR.Fs.std), (148, c_rhel HaR.Fs.std)] Try.f85 [.agg [.val (.int .i64 x_lim), .val (.int .i64 x_l0), .val (.int .i64 x_c0), .val (.int .i64 x_p0), .val (.bool x_o0), .val (.int .i64 x_l1), .val (.int .i64 x_c1), .val (.int .i64 x_p1), .val (.bool x_o1), .sl none (.recs (.bool (.int .i64 .nil)) x_w0), .sl none (.recs (.bool (.int .i64 .nil)) x_w1)], .one (.num .i64 1), .agg [.val (.bool n_h), .val (.int .i64 n_p)]] [] ⟨Mq.std.q_len ⟨x_l0, x_c0, x_p0, x_o0, x_l1, x_c1, x_p1, x_o1, x_w0, x_w1⟩ = true, .sa (.agg [.val (.int .i64 x_lim), .val (.int .i64 (Mq.std.q_co x_lim 1 ⟨x_l0, x_c0, x_p0, x_o0, x_l1, x_c1, x_p1, x_o1, x_w0, x_w1⟩ n_h n_p).l0), .val (.int .i64 (Mq.std.q_co x_lim 1 ⟨x_l0, x_c0, x_p0, x_o0, x_l1, x_c1, x_p1, x_o1, x_w0, x_w1⟩ n_h n_p).c0), .val (.int .i64 (Mq.std.q_co x_lim 1 ⟨x_l0, x_c0, x_p0, x_o0, x_l1, x_c1, x_p1, x_o1, x_w0, x_w1⟩ n_h n_p).p0), .val (.bool (Mq.std.q_co x_lim 1 ⟨x_l0, x_c0, x_p0, x_o0, x_l1, x_c1, x_p1, x_o1, x_w0, x_w1⟩ n_h n_p).o0), .val (.int .i64 (Mq.std.q_co x_lim 1 ⟨x_l0, x_c0, x_p0, x_o0, x_l1, x_c1, x_p1, x_o1, x_w0, x_w1⟩ n_h n_p).l1), .val (.int .i64 (Mq.std.q_co x_lim 1 ⟨x_l0, x_c0, x_p0, x_o0, x_l1, x_c1, x_p1, x_o1, x_w0, x_w1⟩ n_h n_p).c1), .val (.int .i64 (Mq.std.q_co x_lim 1 ⟨x_l0, x_c0, x_p0, x_o0, x_l1, x_c1, x_p1, x_o1, x_w0, x_w1⟩ n_h n_p).p1), .val (.bool (Mq.std.q_co x_lim 1 ⟨x_l0, x_c0, x_p0, x_o0, x_l1, x_c1, x_p1, x_o1, x_w0, x_w1⟩ n_h n_p).o1), .sl none (.recs (.bool (.int .i64 .nil)) (Mq.std.q_co x_lim 1 ⟨x_l0, x_c0, x_p0, x_o0, x_l1, x_c1, x_p1, x_o1, x_w0, x_w1⟩ n_h n_p).w0), .sl none (.recs (.bool (.int .i64 .nil)) (Mq.std.q_co x_lim 1 ⟨x_l0, x_c0, x_p0, x_o0, x_l1, x_c1, x_p1, x_o1, x_w0, x_w1⟩ n_h n_p).w1)]), [], [Any, Any, Any]⟩ := by
  intro b gv
  have hfs := (FsOk.cons ok_rwel (FsOk.cons ok_rhel FsOk.nil rfl) rfl)
  generalize hF : Mq.std = F at hC hfs ⊢
  generalize hG0 : HaR.Fs.std = G0 at hC hfs ⊢
  generalize hA : Ar.std = A
  generalize hL : Lp _ _ _ = L
  obtain ⟨Z, zq⟩ := z_all
  refine cd_open (lp_mono hL) zq rfl ?_
  repeat' (first
    | (refine z_open zq ?_; try dsimp only)
    | refine cd_seq zq ?_ (lp_mono hL)
    | refine cd_blk zq ?_
    | refine cd_ret ?_
    | refine cd_skip ?_
    | refine cd_exit ?_
    | refine cd_loop ?_
    | refine cd_cond rfl ?_
    | refine cd_condT rfl ?_
    | refine cd_condF rfl ?_
    | (refine Cd.mk ?_; cbv)
    | (refine Ends1.mk ?_; cbv)
    | (refine Fin1.mk ?_; cbv)
    | exact trivial
    | refine And.intro ?_ ?_
    | refine orf fun _ => ?_
    | refine ort fun _ => ?_)
  all_goals
    clear hL zq Z
    try clear hfs
    subst hA hF hG0
    simp only [Mq.std, HaR.Fs.std, Ar.std, List.nil_append] at *
    try (first | (grind [stdCmp, coN, setH, setW, en, wy]; done))
theorem ok_come1 : ConOk Try.prog 85 (c_come1 Mq.std) := by
  refine con_of (FsOk.cons ok_rwel (FsOk.cons ok_rhel FsOk.nil rfl) rfl) Try.func85 rfl rfl fun xs h p hp => ?_
  unfold c_come1 at hp
  split at hp
  · cases hp
    exact ⟨lee_le rfl, fun hC _ => x_come1 _ _ _ _ _ _ _ _ _ _ _ _ _ hC⟩
  · cases hp

def c_come (F : Mq) : Con := fun xs h => match xs, h with
  | [.agg [.val (.int .i64 x_lim), .val (.int .i64 x_l0), .val (.int .i64 x_c0), .val (.int .i64 x_p0), .val (.bool x_o0), .val (.int .i64 x_l1), .val (.int .i64 x_c1), .val (.int .i64 x_p1), .val (.bool x_o1), .sl none (.recs (.bool (.int .i64 .nil)) x_w0), .sl none (.recs (.bool (.int .i64 .nil)) x_w1)], .one (.val (.int .i64 en)), .agg [.val (.bool n_h), .val (.int .i64 n_p)]], [] => some ⟨(en = 0 ∨ en = 1) ∧ F.q_len ⟨x_l0, x_c0, x_p0, x_o0, x_l1, x_c1, x_p1, x_o1, x_w0, x_w1⟩ = true, .sa (.agg [.val (.int .i64 x_lim), .val (.int .i64 ((F.q_co x_lim en ⟨x_l0, x_c0, x_p0, x_o0, x_l1, x_c1, x_p1, x_o1, x_w0, x_w1⟩ n_h n_p)).l0), .val (.int .i64 ((F.q_co x_lim en ⟨x_l0, x_c0, x_p0, x_o0, x_l1, x_c1, x_p1, x_o1, x_w0, x_w1⟩ n_h n_p)).c0), .val (.int .i64 ((F.q_co x_lim en ⟨x_l0, x_c0, x_p0, x_o0, x_l1, x_c1, x_p1, x_o1, x_w0, x_w1⟩ n_h n_p)).p0), .val (.bool ((F.q_co x_lim en ⟨x_l0, x_c0, x_p0, x_o0, x_l1, x_c1, x_p1, x_o1, x_w0, x_w1⟩ n_h n_p)).o0), .val (.int .i64 ((F.q_co x_lim en ⟨x_l0, x_c0, x_p0, x_o0, x_l1, x_c1, x_p1, x_o1, x_w0, x_w1⟩ n_h n_p)).l1), .val (.int .i64 ((F.q_co x_lim en ⟨x_l0, x_c0, x_p0, x_o0, x_l1, x_c1, x_p1, x_o1, x_w0, x_w1⟩ n_h n_p)).c1), .val (.int .i64 ((F.q_co x_lim en ⟨x_l0, x_c0, x_p0, x_o0, x_l1, x_c1, x_p1, x_o1, x_w0, x_w1⟩ n_h n_p)).p1), .val (.bool ((F.q_co x_lim en ⟨x_l0, x_c0, x_p0, x_o0, x_l1, x_c1, x_p1, x_o1, x_w0, x_w1⟩ n_h n_p)).o1), .sl none (.recs (.bool (.int .i64 .nil)) ((F.q_co x_lim en ⟨x_l0, x_c0, x_p0, x_o0, x_l1, x_c1, x_p1, x_o1, x_w0, x_w1⟩ n_h n_p)).w0), .sl none (.recs (.bool (.int .i64 .nil)) ((F.q_co x_lim en ⟨x_l0, x_c0, x_p0, x_o0, x_l1, x_c1, x_p1, x_o1, x_w0, x_w1⟩ n_h n_p)).w1)]), [], [Any, Any, Any]⟩
  | _, _ => none
theorem ok_come : ConOk Try.prog 85 (c_come Mq.std) := by
  refine ⟨ok_come0.1, fun args h p hc hC G vs h1 h2 h3 hv => ?_⟩
  unfold c_come at hc
  split at hc
  · rename_i x_lim x_l0 x_c0 x_p0 x_o0 x_l1 x_c1 x_p1 x_o1 x_w0 x_w1 en n_h n_p
    cases hc
    obtain ⟨he, hl⟩ := hC
    rcases he with rfl | rfl
    · have hv' : sasIs G [.agg [.val (.int .i64 x_lim), .val (.int .i64 x_l0), .val (.int .i64 x_c0), .val (.int .i64 x_p0), .val (.bool x_o0), .val (.int .i64 x_l1), .val (.int .i64 x_c1), .val (.int .i64 x_p1), .val (.bool x_o1), .sl none (.recs (.bool (.int .i64 .nil)) x_w0), .sl none (.recs (.bool (.int .i64 .nil)) x_w1)], .one (.num .i64 0), .agg [.val (.bool n_h), .val (.int .i64 n_p)]] vs := by
        match vs, hv with
        | [_, _, _], hv => exact hv
      have := ok_come0.2 [.agg [.val (.int .i64 x_lim), .val (.int .i64 x_l0), .val (.int .i64 x_c0), .val (.int .i64 x_p0), .val (.bool x_o0), .val (.int .i64 x_l1), .val (.int .i64 x_c1), .val (.int .i64 x_p1), .val (.bool x_o1), .sl none (.recs (.bool (.int .i64 .nil)) x_w0), .sl none (.recs (.bool (.int .i64 .nil)) x_w1)], .one (.num .i64 0), .agg [.val (.bool n_h), .val (.int .i64 n_p)]] _ _ rfl hl G vs h1 h2 h3 hv'
      exact this
    · have hv' : sasIs G [.agg [.val (.int .i64 x_lim), .val (.int .i64 x_l0), .val (.int .i64 x_c0), .val (.int .i64 x_p0), .val (.bool x_o0), .val (.int .i64 x_l1), .val (.int .i64 x_c1), .val (.int .i64 x_p1), .val (.bool x_o1), .sl none (.recs (.bool (.int .i64 .nil)) x_w0), .sl none (.recs (.bool (.int .i64 .nil)) x_w1)], .one (.num .i64 1), .agg [.val (.bool n_h), .val (.int .i64 n_p)]] vs := by
        match vs, hv with
        | [_, _, _], hv => exact hv
      have := ok_come1.2 [.agg [.val (.int .i64 x_lim), .val (.int .i64 x_l0), .val (.int .i64 x_c0), .val (.int .i64 x_p0), .val (.bool x_o0), .val (.int .i64 x_l1), .val (.int .i64 x_c1), .val (.int .i64 x_p1), .val (.bool x_o1), .sl none (.recs (.bool (.int .i64 .nil)) x_w0), .sl none (.recs (.bool (.int .i64 .nil)) x_w1)], .one (.num .i64 1), .agg [.val (.bool n_h), .val (.int .i64 n_p)]] _ _ rfl hl G vs h1 h2 h3 hv'
      exact this
  · cases hc

theorem res_all (w : List E) (n : Int) : (w.length ≤ 100000 → 0 < w.length → modP w.length = true ∧ 0 ≤ modI n w.length ∧ modI n w.length < w.length ∧ stdBin .add .i64 (modI n w.length) 1 = modI n w.length + 1 ∧ List.drop (Int.toNat 0) (List.take (modI n w.length).toNat w) ++ List.drop (modI n w.length + 1).toNat (List.take (Int.toNat w.length) w) = res w (modI n w.length)) ∧ (res w (modI n w.length)).length ≤ w.length := by
  constructor
  · intro h h0
    obtain ⟨_, h2⟩ := bw_i h n
    obtain ⟨a, b, c, d, _⟩ := h2 h0
    exact ⟨decide_eq_true (by omega), a, b, c, d⟩
  · unfold res
    rw [List.length_append, List.length_take, List.length_drop]
    omega

def c_rdo1 (F : Mq) : Con := fun xs h => match xs, h with
  | [.agg [.val (.int .i64 x_lim), .val (.int .i64 x_l0), .val (.int .i64 x_c0), .val (.int .i64 x_p0), .val (.bool x_o0), .val (.int .i64 x_l1), .val (.int .i64 x_c1), .val (.int .i64 x_p1), .val (.bool x_o1), .sl none (.recs (.bool (.int .i64 .nil)) x_w0), .sl none (.recs (.bool (.int .i64 .nil)) x_w1)], .agg [.val (.int .i64 k), .num .i64 1, .val (.int .i64 _), .val (.int .i64 n), .val (.int .i64 _)]], [] => some ⟨F.q_may ⟨x_l0, x_c0, x_p0, x_o0, x_l1, x_c1, x_p1, x_o1, x_w0, x_w1⟩ = true, .sa (.agg [.val (.int .i64 x_lim), .val (.int .i64 (F.q_go x_lim k n 1 ⟨x_l0, x_c0, x_p0, x_o0, x_l1, x_c1, x_p1, x_o1, x_w0, x_w1⟩).l0), .val (.int .i64 (F.q_go x_lim k n 1 ⟨x_l0, x_c0, x_p0, x_o0, x_l1, x_c1, x_p1, x_o1, x_w0, x_w1⟩).c0), .val (.int .i64 (F.q_go x_lim k n 1 ⟨x_l0, x_c0, x_p0, x_o0, x_l1, x_c1, x_p1, x_o1, x_w0, x_w1⟩).p0), .val (.bool (F.q_go x_lim k n 1 ⟨x_l0, x_c0, x_p0, x_o0, x_l1, x_c1, x_p1, x_o1, x_w0, x_w1⟩).o0), .val (.int .i64 (F.q_go x_lim k n 1 ⟨x_l0, x_c0, x_p0, x_o0, x_l1, x_c1, x_p1, x_o1, x_w0, x_w1⟩).l1), .val (.int .i64 (F.q_go x_lim k n 1 ⟨x_l0, x_c0, x_p0, x_o0, x_l1, x_c1, x_p1, x_o1, x_w0, x_w1⟩).c1), .val (.int .i64 (F.q_go x_lim k n 1 ⟨x_l0, x_c0, x_p0, x_o0, x_l1, x_c1, x_p1, x_o1, x_w0, x_w1⟩).p1), .val (.bool (F.q_go x_lim k n 1 ⟨x_l0, x_c0, x_p0, x_o0, x_l1, x_c1, x_p1, x_o1, x_w0, x_w1⟩).o1), .sl none (.recs (.bool (.int .i64 .nil)) (F.q_go x_lim k n 1 ⟨x_l0, x_c0, x_p0, x_o0, x_l1, x_c1, x_p1, x_o1, x_w0, x_w1⟩).w0), .sl none (.recs (.bool (.int .i64 .nil)) (F.q_go x_lim k n 1 ⟨x_l0, x_c0, x_p0, x_o0, x_l1, x_c1, x_p1, x_o1, x_w0, x_w1⟩).w1)]), [], [Any, Any]⟩
  | _, _ => none
set_option cbv.maxSteps 4000000 in
set_option maxHeartbeats 4000000 in
set_option maxRecDepth 100000 in
theorem x_rdo1 (x_lim : Int) (x_l0 : Int) (x_c0 : Int) (x_p0 : Int) (x_o0 : Bool) (x_l1 : Int) (x_c1 : Int) (x_p1 : Int) (x_o1 : Bool) (x_w0 : List E) (x_w1 : List E) (k : Int) (ob : Int) (n : Int) (ow : Int) (hC : Mq.std.q_may ⟨x_l0, x_c0, x_p0, x_o0, x_l1, x_c1, x_p1, x_o1, x_w0, x_w1⟩ = true) : Does [(84, c_hrclose HaR.Fs.std), (59, c_at Mq.std), (85, c_come Mq.std)] Try.f32 [.agg [.val (.int .i64 x_lim), .val (.int .i64 x_l0), .val (.int .i64 x_c0), .val (.int .i64 x_p0), .val (.bool x_o0), .val (.int .i64 x_l1), .val (.int .i64 x_c1), .val (.int .i64 x_p1), .val (.bool x_o1), .sl none (.recs (.bool (.int .i64 .nil)) x_w0), .sl none (.recs (.bool (.int .i64 .nil)) x_w1)], .agg [.val (.int .i64 k), .num .i64 1, .val (.int .i64 ob), .val (.int .i64 n), .val (.int .i64 ow)]] [] ⟨Mq.std.q_may ⟨x_l0, x_c0, x_p0, x_o0, x_l1, x_c1, x_p1, x_o1, x_w0, x_w1⟩ = true, .sa (.agg [.val (.int .i64 x_lim), .val (.int .i64 (Mq.std.q_go x_lim k n 1 ⟨x_l0, x_c0, x_p0, x_o0, x_l1, x_c1, x_p1, x_o1, x_w0, x_w1⟩).l0), .val (.int .i64 (Mq.std.q_go x_lim k n 1 ⟨x_l0, x_c0, x_p0, x_o0, x_l1, x_c1, x_p1, x_o1, x_w0, x_w1⟩).c0), .val (.int .i64 (Mq.std.q_go x_lim k n 1 ⟨x_l0, x_c0, x_p0, x_o0, x_l1, x_c1, x_p1, x_o1, x_w0, x_w1⟩).p0), .val (.bool (Mq.std.q_go x_lim k n 1 ⟨x_l0, x_c0, x_p0, x_o0, x_l1, x_c1, x_p1, x_o1, x_w0, x_w1⟩).o0), .val (.int .i64 (Mq.std.q_go x_lim k n 1 ⟨x_l0, x_c0, x_p0, x_o0, x_l1, x_c1, x_p1, x_o1, x_w0, x_w1⟩).l1), .val (.int .i64 (Mq.std.q_go x_lim k n 1 ⟨x_l0, x_c0, x_p0, x_o0, x_l1, x_c1, x_p1, x_o1, x_w0, x_w1⟩).c1), .val (.int .i64 (Mq.std.q_go x_lim k n 1 ⟨x_l0, x_c0, x_p0, x_o0, x_l1, x_c1, x_p1, x_o1, x_w0, x_w1⟩).p1), .val (.bool (Mq.std.q_go x_lim k n 1 ⟨x_l0, x_c0, x_p0, x_o0, x_l1, x_c1, x_p1, x_o1, x_w0, x_w1⟩).o1), .sl none (.recs (.bool (.int .i64 .nil)) (Mq.std.q_go x_lim k n 1 ⟨x_l0, x_c0, x_p0, x_o0, x_l1, x_c1, x_p1, x_o1, x_w0, x_w1⟩).w0), .sl none (.recs (.bool (.int .i64 .nil)) (Mq.std.q_go x_lim k n 1 ⟨x_l0, x_c0, x_p0, x_o0, x_l1, x_c1, x_p1, x_o1, x_w0, x_w1⟩).w1)]), [], [Any, Any]⟩ := by
  intro b gv
  have hr0 := res_all x_w0 n
  have hr1 := res_all x_w1 n
  have hfs := (FsOk.cons ok_hrclose (FsOk.cons ok_at (FsOk.cons ok_come FsOk.nil rfl) rfl) rfl)
  generalize hF : Mq.std = F at hC hfs ⊢
  generalize hG0 : HaR.Fs.std = G0 at hC hfs ⊢
  generalize hA : Ar.std = A
  generalize hL : Lp _ _ _ = L
  obtain ⟨Z, zq⟩ := z_all
  refine cd_open (lp_mono hL) zq rfl ?_
  repeat' (first
    | (refine z_open zq ?_; try dsimp only)
    | refine cd_seq zq ?_ (lp_mono hL)
    | refine cd_blk zq ?_
    | refine cd_ret ?_
    | refine cd_skip ?_
    | refine cd_exit ?_
    | refine cd_loop ?_
    | refine cd_cond rfl ?_
    | refine cd_condT rfl ?_
    | refine cd_condF rfl ?_
    | (refine Cd.mk ?_; cbv)
    | (refine Ends1.mk ?_; cbv)
    | (refine Fin1.mk ?_; cbv)
    | exact trivial
    | refine And.intro ?_ ?_
    | refine orf fun _ => ?_
    | refine ort fun _ => ?_)
  all_goals
    clear hL zq Z
    try clear hfs
    subst hA hF hG0
    simp only [Mq.std, HaR.Fs.std, Ar.std, List.nil_append] at *
    try (first | (exfalso; clear hr0 hr1 hC; grind (splits := 12) [stdCmp]; done) | (grind [stdCmp, goN, doN, mayN, setH, setW, en, wy, atN, nO]; done))
theorem ok_rdo1 : ConOk Try.prog 32 (c_rdo1 Mq.std) := by
  refine con_of (FsOk.cons ok_hrclose (FsOk.cons ok_at (FsOk.cons ok_come FsOk.nil rfl) rfl) rfl) Try.func32 rfl rfl fun xs h p hp => ?_
  unfold c_rdo1 at hp
  split at hp
  · cases hp
    exact ⟨lee_le rfl, fun hC _ => x_rdo1 _ _ _ _ _ _ _ _ _ _ _ _ _ _ _ hC⟩
  · cases hp

def c_rdo2 (F : Mq) : Con := fun xs h => match xs, h with
  | [.agg [.val (.int .i64 x_lim), .val (.int .i64 x_l0), .val (.int .i64 x_c0), .val (.int .i64 x_p0), .val (.bool x_o0), .val (.int .i64 x_l1), .val (.int .i64 x_c1), .val (.int .i64 x_p1), .val (.bool x_o1), .sl none (.recs (.bool (.int .i64 .nil)) x_w0), .sl none (.recs (.bool (.int .i64 .nil)) x_w1)], .agg [.val (.int .i64 k), .num .i64 2, .val (.int .i64 _), .val (.int .i64 n), .val (.int .i64 _)]], [] => some ⟨F.q_may ⟨x_l0, x_c0, x_p0, x_o0, x_l1, x_c1, x_p1, x_o1, x_w0, x_w1⟩ = true, .sa (.agg [.val (.int .i64 x_lim), .val (.int .i64 (F.q_go x_lim k n 2 ⟨x_l0, x_c0, x_p0, x_o0, x_l1, x_c1, x_p1, x_o1, x_w0, x_w1⟩).l0), .val (.int .i64 (F.q_go x_lim k n 2 ⟨x_l0, x_c0, x_p0, x_o0, x_l1, x_c1, x_p1, x_o1, x_w0, x_w1⟩).c0), .val (.int .i64 (F.q_go x_lim k n 2 ⟨x_l0, x_c0, x_p0, x_o0, x_l1, x_c1, x_p1, x_o1, x_w0, x_w1⟩).p0), .val (.bool (F.q_go x_lim k n 2 ⟨x_l0, x_c0, x_p0, x_o0, x_l1, x_c1, x_p1, x_o1, x_w0, x_w1⟩).o0), .val (.int .i64 (F.q_go x_lim k n 2 ⟨x_l0, x_c0, x_p0, x_o0, x_l1, x_c1, x_p1, x_o1, x_w0, x_w1⟩).l1), .val (.int .i64 (F.q_go x_lim k n 2 ⟨x_l0, x_c0, x_p0, x_o0, x_l1, x_c1, x_p1, x_o1, x_w0, x_w1⟩).c1), .val (.int .i64 (F.q_go x_lim k n 2 ⟨x_l0, x_c0, x_p0, x_o0, x_l1, x_c1, x_p1, x_o1, x_w0, x_w1⟩).p1), .val (.bool (F.q_go x_lim k n 2 ⟨x_l0, x_c0, x_p0, x_o0, x_l1, x_c1, x_p1, x_o1, x_w0, x_w1⟩).o1), .sl none (.recs (.bool (.int .i64 .nil)) (F.q_go x_lim k n 2 ⟨x_l0, x_c0, x_p0, x_o0, x_l1, x_c1, x_p1, x_o1, x_w0, x_w1⟩).w0), .sl none (.recs (.bool (.int .i64 .nil)) (F.q_go x_lim k n 2 ⟨x_l0, x_c0, x_p0, x_o0, x_l1, x_c1, x_p1, x_o1, x_w0, x_w1⟩).w1)]), [], [Any, Any]⟩
  | _, _ => none
set_option cbv.maxSteps 4000000 in
set_option maxHeartbeats 4000000 in
set_option maxRecDepth 100000 in
theorem x_rdo2 (x_lim : Int) (x_l0 : Int) (x_c0 : Int) (x_p0 : Int) (x_o0 : Bool) (x_l1 : Int) (x_c1 : Int) (x_p1 : Int) (x_o1 : Bool) (x_w0 : List E) (x_w1 : List E) (k : Int) (ob : Int) (n : Int) (ow : Int) (hC : Mq.std.q_may ⟨x_l0, x_c0, x_p0, x_o0, x_l1, x_c1, x_p1, x_o1, x_w0, x_w1⟩ = true) : Does [(84, c_hrclose HaR.Fs.std), (59, c_at Mq.std), (85, c_come Mq.std)] Try.f32 [.agg [.val (.int .i64 x_lim), .val (.int .i64 x_l0), .val (.int .i64 x_c0), .val (.int .i64 x_p0), .val (.bool x_o0), .val (.int .i64 x_l1), .val (.int .i64 x_c1), .val (.int .i64 x_p1), .val (.bool x_o1), .sl none (.recs (.bool (.int .i64 .nil)) x_w0), .sl none (.recs (.bool (.int .i64 .nil)) x_w1)], .agg [.val (.int .i64 k), .num .i64 2, .val (.int .i64 ob), .val (.int .i64 n), .val (.int .i64 ow)]] [] ⟨Mq.std.q_may ⟨x_l0, x_c0, x_p0, x_o0, x_l1, x_c1, x_p1, x_o1, x_w0, x_w1⟩ = true, .sa (.agg [.val (.int .i64 x_lim), .val (.int .i64 (Mq.std.q_go x_lim k n 2 ⟨x_l0, x_c0, x_p0, x_o0, x_l1, x_c1, x_p1, x_o1, x_w0, x_w1⟩).l0), .val (.int .i64 (Mq.std.q_go x_lim k n 2 ⟨x_l0, x_c0, x_p0, x_o0, x_l1, x_c1, x_p1, x_o1, x_w0, x_w1⟩).c0), .val (.int .i64 (Mq.std.q_go x_lim k n 2 ⟨x_l0, x_c0, x_p0, x_o0, x_l1, x_c1, x_p1, x_o1, x_w0, x_w1⟩).p0), .val (.bool (Mq.std.q_go x_lim k n 2 ⟨x_l0, x_c0, x_p0, x_o0, x_l1, x_c1, x_p1, x_o1, x_w0, x_w1⟩).o0), .val (.int .i64 (Mq.std.q_go x_lim k n 2 ⟨x_l0, x_c0, x_p0, x_o0, x_l1, x_c1, x_p1, x_o1, x_w0, x_w1⟩).l1), .val (.int .i64 (Mq.std.q_go x_lim k n 2 ⟨x_l0, x_c0, x_p0, x_o0, x_l1, x_c1, x_p1, x_o1, x_w0, x_w1⟩).c1), .val (.int .i64 (Mq.std.q_go x_lim k n 2 ⟨x_l0, x_c0, x_p0, x_o0, x_l1, x_c1, x_p1, x_o1, x_w0, x_w1⟩).p1), .val (.bool (Mq.std.q_go x_lim k n 2 ⟨x_l0, x_c0, x_p0, x_o0, x_l1, x_c1, x_p1, x_o1, x_w0, x_w1⟩).o1), .sl none (.recs (.bool (.int .i64 .nil)) (Mq.std.q_go x_lim k n 2 ⟨x_l0, x_c0, x_p0, x_o0, x_l1, x_c1, x_p1, x_o1, x_w0, x_w1⟩).w0), .sl none (.recs (.bool (.int .i64 .nil)) (Mq.std.q_go x_lim k n 2 ⟨x_l0, x_c0, x_p0, x_o0, x_l1, x_c1, x_p1, x_o1, x_w0, x_w1⟩).w1)]), [], [Any, Any]⟩ := by
  intro b gv
  have hr0 := res_all x_w0 n
  have hr1 := res_all x_w1 n
  have hfs := (FsOk.cons ok_hrclose (FsOk.cons ok_at (FsOk.cons ok_come FsOk.nil rfl) rfl) rfl)
  generalize hF : Mq.std = F at hC hfs ⊢
  generalize hG0 : HaR.Fs.std = G0 at hC hfs ⊢
  generalize hA : Ar.std = A
  generalize hL : Lp _ _ _ = L
  obtain ⟨Z, zq⟩ := z_all
  refine cd_open (lp_mono hL) zq rfl ?_
  repeat' (first
    | (refine z_open zq ?_; try dsimp only)
    | refine cd_seq zq ?_ (lp_mono hL)
    | refine cd_blk zq ?_
    | refine cd_ret ?_
    | refine cd_skip ?_
    | refine cd_exit ?_
    | refine cd_loop ?_
    | refine cd_cond rfl ?_
    | refine cd_condT rfl ?_
    | refine cd_condF rfl ?_
    | (refine Cd.mk ?_; cbv)
    | (refine Ends1.mk ?_; cbv)
    | (refine Fin1.mk ?_; cbv)
    | exact trivial
    | refine And.intro ?_ ?_
    | refine orf fun _ => ?_
    | refine ort fun _ => ?_)
  all_goals
    clear hL zq Z
    try clear hfs
    subst hA hF hG0
    simp only [Mq.std, HaR.Fs.std, Ar.std, List.nil_append] at *
    try (first | (exfalso; clear hr0 hr1 hC; grind (splits := 12) [stdCmp]; done) | (grind [stdCmp, goN, doN, mayN, setH, setW, en, wy, atN, nO]; done))
theorem ok_rdo2 : ConOk Try.prog 32 (c_rdo2 Mq.std) := by
  refine con_of (FsOk.cons ok_hrclose (FsOk.cons ok_at (FsOk.cons ok_come FsOk.nil rfl) rfl) rfl) Try.func32 rfl rfl fun xs h p hp => ?_
  unfold c_rdo2 at hp
  split at hp
  · cases hp
    exact ⟨lee_le rfl, fun hC _ => x_rdo2 _ _ _ _ _ _ _ _ _ _ _ _ _ _ _ hC⟩
  · cases hp

def c_rdo0 (F : Mq) : Con := fun xs h => match xs, h with
  | [.agg [.val (.int .i64 x_lim), .val (.int .i64 x_l0), .val (.int .i64 x_c0), .val (.int .i64 x_p0), .val (.bool x_o0), .val (.int .i64 x_l1), .val (.int .i64 x_c1), .val (.int .i64 x_p1), .val (.bool x_o1), .sl none (.recs (.bool (.int .i64 .nil)) x_w0), .sl none (.recs (.bool (.int .i64 .nil)) x_w1)], .agg [.val (.int .i64 k), .val (.int .i64 oa), .val (.int .i64 _), .val (.int .i64 n), .val (.int .i64 _)]], [] => some ⟨F.q_may ⟨x_l0, x_c0, x_p0, x_o0, x_l1, x_c1, x_p1, x_o1, x_w0, x_w1⟩ = true ∧ ¬ oa = 1 ∧ ¬ oa = 2, .sa (.agg [.val (.int .i64 x_lim), .val (.int .i64 (F.q_go x_lim k n oa ⟨x_l0, x_c0, x_p0, x_o0, x_l1, x_c1, x_p1, x_o1, x_w0, x_w1⟩).l0), .val (.int .i64 (F.q_go x_lim k n oa ⟨x_l0, x_c0, x_p0, x_o0, x_l1, x_c1, x_p1, x_o1, x_w0, x_w1⟩).c0), .val (.int .i64 (F.q_go x_lim k n oa ⟨x_l0, x_c0, x_p0, x_o0, x_l1, x_c1, x_p1, x_o1, x_w0, x_w1⟩).p0), .val (.bool (F.q_go x_lim k n oa ⟨x_l0, x_c0, x_p0, x_o0, x_l1, x_c1, x_p1, x_o1, x_w0, x_w1⟩).o0), .val (.int .i64 (F.q_go x_lim k n oa ⟨x_l0, x_c0, x_p0, x_o0, x_l1, x_c1, x_p1, x_o1, x_w0, x_w1⟩).l1), .val (.int .i64 (F.q_go x_lim k n oa ⟨x_l0, x_c0, x_p0, x_o0, x_l1, x_c1, x_p1, x_o1, x_w0, x_w1⟩).c1), .val (.int .i64 (F.q_go x_lim k n oa ⟨x_l0, x_c0, x_p0, x_o0, x_l1, x_c1, x_p1, x_o1, x_w0, x_w1⟩).p1), .val (.bool (F.q_go x_lim k n oa ⟨x_l0, x_c0, x_p0, x_o0, x_l1, x_c1, x_p1, x_o1, x_w0, x_w1⟩).o1), .sl none (.recs (.bool (.int .i64 .nil)) (F.q_go x_lim k n oa ⟨x_l0, x_c0, x_p0, x_o0, x_l1, x_c1, x_p1, x_o1, x_w0, x_w1⟩).w0), .sl none (.recs (.bool (.int .i64 .nil)) (F.q_go x_lim k n oa ⟨x_l0, x_c0, x_p0, x_o0, x_l1, x_c1, x_p1, x_o1, x_w0, x_w1⟩).w1)]), [], [Any, Any]⟩
  | _, _ => none
set_option cbv.maxSteps 4000000 in
set_option maxHeartbeats 4000000 in
set_option maxRecDepth 100000 in
theorem x_rdo0 (x_lim : Int) (x_l0 : Int) (x_c0 : Int) (x_p0 : Int) (x_o0 : Bool) (x_l1 : Int) (x_c1 : Int) (x_p1 : Int) (x_o1 : Bool) (x_w0 : List E) (x_w1 : List E) (k : Int) (oa : Int) (ob : Int) (n : Int) (ow : Int) (hC : Mq.std.q_may ⟨x_l0, x_c0, x_p0, x_o0, x_l1, x_c1, x_p1, x_o1, x_w0, x_w1⟩ = true ∧ ¬ oa = 1 ∧ ¬ oa = 2) : Does [(84, c_hrclose HaR.Fs.std), (59, c_at Mq.std), (85, c_come Mq.std)] Try.f32 [.agg [.val (.int .i64 x_lim), .val (.int .i64 x_l0), .val (.int .i64 x_c0), .val (.int .i64 x_p0), .val (.bool x_o0), .val (.int .i64 x_l1), .val (.int .i64 x_c1), .val (.int .i64 x_p1), .val (.bool x_o1), .sl none (.recs (.bool (.int .i64 .nil)) x_w0), .sl none (.recs (.bool (.int .i64 .nil)) x_w1)], .agg [.val (.int .i64 k), .val (.int .i64 oa), .val (.int .i64 ob), .val (.int .i64 n), .val (.int .i64 ow)]] [] ⟨Mq.std.q_may ⟨x_l0, x_c0, x_p0, x_o0, x_l1, x_c1, x_p1, x_o1, x_w0, x_w1⟩ = true ∧ ¬ oa = 1 ∧ ¬ oa = 2, .sa (.agg [.val (.int .i64 x_lim), .val (.int .i64 (Mq.std.q_go x_lim k n oa ⟨x_l0, x_c0, x_p0, x_o0, x_l1, x_c1, x_p1, x_o1, x_w0, x_w1⟩).l0), .val (.int .i64 (Mq.std.q_go x_lim k n oa ⟨x_l0, x_c0, x_p0, x_o0, x_l1, x_c1, x_p1, x_o1, x_w0, x_w1⟩).c0), .val (.int .i64 (Mq.std.q_go x_lim k n oa ⟨x_l0, x_c0, x_p0, x_o0, x_l1, x_c1, x_p1, x_o1, x_w0, x_w1⟩).p0), .val (.bool (Mq.std.q_go x_lim k n oa ⟨x_l0, x_c0, x_p0, x_o0, x_l1, x_c1, x_p1, x_o1, x_w0, x_w1⟩).o0), .val (.int .i64 (Mq.std.q_go x_lim k n oa ⟨x_l0, x_c0, x_p0, x_o0, x_l1, x_c1, x_p1, x_o1, x_w0, x_w1⟩).l1), .val (.int .i64 (Mq.std.q_go x_lim k n oa ⟨x_l0, x_c0, x_p0, x_o0, x_l1, x_c1, x_p1, x_o1, x_w0, x_w1⟩).c1), .val (.int .i64 (Mq.std.q_go x_lim k n oa ⟨x_l0, x_c0, x_p0, x_o0, x_l1, x_c1, x_p1, x_o1, x_w0, x_w1⟩).p1), .val (.bool (Mq.std.q_go x_lim k n oa ⟨x_l0, x_c0, x_p0, x_o0, x_l1, x_c1, x_p1, x_o1, x_w0, x_w1⟩).o1), .sl none (.recs (.bool (.int .i64 .nil)) (Mq.std.q_go x_lim k n oa ⟨x_l0, x_c0, x_p0, x_o0, x_l1, x_c1, x_p1, x_o1, x_w0, x_w1⟩).w0), .sl none (.recs (.bool (.int .i64 .nil)) (Mq.std.q_go x_lim k n oa ⟨x_l0, x_c0, x_p0, x_o0, x_l1, x_c1, x_p1, x_o1, x_w0, x_w1⟩).w1)]), [], [Any, Any]⟩ := by
  intro b gv
  have hr0 := res_all x_w0 n
  have hr1 := res_all x_w1 n
  have hfs := (FsOk.cons ok_hrclose (FsOk.cons ok_at (FsOk.cons ok_come FsOk.nil rfl) rfl) rfl)
  generalize hF : Mq.std = F at hC hfs ⊢
  generalize hG0 : HaR.Fs.std = G0 at hC hfs ⊢
  generalize hA : Ar.std = A
  generalize hL : Lp _ _ _ = L
  obtain ⟨Z, zq⟩ := z_all
  refine cd_open (lp_mono hL) zq rfl ?_
  repeat' (first
    | (show Cd _ _ _ _ _ _; exfalso; clear hL zq Z hfs; subst hA hF hG0; simp only [Mq.std, Ar.std] at *; grind [stdCmp]; done)
    | (refine z_open zq ?_; try dsimp only)
    | refine cd_seq zq ?_ (lp_mono hL)
    | refine cd_blk zq ?_
    | refine cd_ret ?_
    | refine cd_skip ?_
    | refine cd_exit ?_
    | refine cd_loop ?_
    | refine cd_cond rfl ?_
    | refine cd_condT rfl ?_
    | refine cd_condF rfl ?_
    | (refine Cd.mk ?_; cbv)
    | (refine Ends1.mk ?_; cbv)
    | (refine Fin1.mk ?_; cbv)
    | exact trivial
    | refine And.intro ?_ ?_
    | refine orf fun _ => ?_
    | refine ort fun _ => ?_)
  all_goals
    clear hL zq Z
    try clear hfs
    subst hA hF hG0
    simp only [Mq.std, Ar.std] at *
    try (first | (exfalso; clear hr0 hr1 hC; grind (splits := 12) [stdCmp]; done) | (grind [stdCmp, goN, doN, mayN, setH, setW, en, wy, atN, nO]; done))
theorem ok_rdo0 : ConOk Try.prog 32 (c_rdo0 Mq.std) := by
  refine con_of (FsOk.cons ok_hrclose (FsOk.cons ok_at (FsOk.cons ok_come FsOk.nil rfl) rfl) rfl) Try.func32 rfl rfl fun xs h p hp => ?_
  unfold c_rdo0 at hp
  split at hp
  · cases hp
    exact ⟨lee_le rfl, fun hC _ => x_rdo0 _ _ _ _ _ _ _ _ _ _ _ _ _ _ _ _ hC⟩
  · cases hp

def c_rdo (F : Mq) : Con := fun xs h => match xs, h with
  | [.agg [.val (.int .i64 x_lim), .val (.int .i64 x_l0), .val (.int .i64 x_c0), .val (.int .i64 x_p0), .val (.bool x_o0), .val (.int .i64 x_l1), .val (.int .i64 x_c1), .val (.int .i64 x_p1), .val (.bool x_o1), .sl none (.recs (.bool (.int .i64 .nil)) x_w0), .sl none (.recs (.bool (.int .i64 .nil)) x_w1)], .agg [.val (.int .i64 k), .val (.int .i64 oa), .val (.int .i64 _), .val (.int .i64 n), .val (.int .i64 _)]], [] => some ⟨F.q_may ⟨x_l0, x_c0, x_p0, x_o0, x_l1, x_c1, x_p1, x_o1, x_w0, x_w1⟩ = true, .sa (.agg [.val (.int .i64 x_lim), .val (.int .i64 ((F.q_go x_lim k n oa ⟨x_l0, x_c0, x_p0, x_o0, x_l1, x_c1, x_p1, x_o1, x_w0, x_w1⟩)).l0), .val (.int .i64 ((F.q_go x_lim k n oa ⟨x_l0, x_c0, x_p0, x_o0, x_l1, x_c1, x_p1, x_o1, x_w0, x_w1⟩)).c0), .val (.int .i64 ((F.q_go x_lim k n oa ⟨x_l0, x_c0, x_p0, x_o0, x_l1, x_c1, x_p1, x_o1, x_w0, x_w1⟩)).p0), .val (.bool ((F.q_go x_lim k n oa ⟨x_l0, x_c0, x_p0, x_o0, x_l1, x_c1, x_p1, x_o1, x_w0, x_w1⟩)).o0), .val (.int .i64 ((F.q_go x_lim k n oa ⟨x_l0, x_c0, x_p0, x_o0, x_l1, x_c1, x_p1, x_o1, x_w0, x_w1⟩)).l1), .val (.int .i64 ((F.q_go x_lim k n oa ⟨x_l0, x_c0, x_p0, x_o0, x_l1, x_c1, x_p1, x_o1, x_w0, x_w1⟩)).c1), .val (.int .i64 ((F.q_go x_lim k n oa ⟨x_l0, x_c0, x_p0, x_o0, x_l1, x_c1, x_p1, x_o1, x_w0, x_w1⟩)).p1), .val (.bool ((F.q_go x_lim k n oa ⟨x_l0, x_c0, x_p0, x_o0, x_l1, x_c1, x_p1, x_o1, x_w0, x_w1⟩)).o1), .sl none (.recs (.bool (.int .i64 .nil)) ((F.q_go x_lim k n oa ⟨x_l0, x_c0, x_p0, x_o0, x_l1, x_c1, x_p1, x_o1, x_w0, x_w1⟩)).w0), .sl none (.recs (.bool (.int .i64 .nil)) ((F.q_go x_lim k n oa ⟨x_l0, x_c0, x_p0, x_o0, x_l1, x_c1, x_p1, x_o1, x_w0, x_w1⟩)).w1)]), [], [Any, Any]⟩
  | _, _ => none
theorem ok_rdo : ConOk Try.prog 32 (c_rdo Mq.std) := by
  refine ⟨ok_rdo1.1, fun args h p hc hC G vs h1 h2 h3 hv => ?_⟩
  unfold c_rdo at hc
  split at hc
  · rename_i x_lim x_l0 x_c0 x_p0 x_o0 x_l1 x_c1 x_p1 x_o1 x_w0 x_w1 k oa ob n ow
    cases hc
    by_cases e1 : oa = 1
    · subst e1
      have hv' : sasIs G [.agg [.val (.int .i64 x_lim), .val (.int .i64 x_l0), .val (.int .i64 x_c0), .val (.int .i64 x_p0), .val (.bool x_o0), .val (.int .i64 x_l1), .val (.int .i64 x_c1), .val (.int .i64 x_p1), .val (.bool x_o1), .sl none (.recs (.bool (.int .i64 .nil)) x_w0), .sl none (.recs (.bool (.int .i64 .nil)) x_w1)], .agg [.val (.int .i64 k), .num .i64 1, .val (.int .i64 ob), .val (.int .i64 n), .val (.int .i64 ow)]] vs := by
        match vs, hv with
        | [_, _], ⟨g1, ⟨us, g2, g3⟩, g4⟩ =>
          match us, g3 with
          | [_, _, _, _, _], g3 => exact ⟨g1, ⟨_, g2, g3⟩, g4⟩
      exact ok_rdo1.2 [.agg [.val (.int .i64 x_lim), .val (.int .i64 x_l0), .val (.int .i64 x_c0), .val (.int .i64 x_p0), .val (.bool x_o0), .val (.int .i64 x_l1), .val (.int .i64 x_c1), .val (.int .i64 x_p1), .val (.bool x_o1), .sl none (.recs (.bool (.int .i64 .nil)) x_w0), .sl none (.recs (.bool (.int .i64 .nil)) x_w1)], .agg [.val (.int .i64 k), .num .i64 1, .val (.int .i64 ob), .val (.int .i64 n), .val (.int .i64 ow)]] _ _ rfl hC G vs h1 h2 h3 hv'
    · by_cases e2 : oa = 2
      · subst e2
        have hv' : sasIs G [.agg [.val (.int .i64 x_lim), .val (.int .i64 x_l0), .val (.int .i64 x_c0), .val (.int .i64 x_p0), .val (.bool x_o0), .val (.int .i64 x_l1), .val (.int .i64 x_c1), .val (.int .i64 x_p1), .val (.bool x_o1), .sl none (.recs (.bool (.int .i64 .nil)) x_w0), .sl none (.recs (.bool (.int .i64 .nil)) x_w1)], .agg [.val (.int .i64 k), .num .i64 2, .val (.int .i64 ob), .val (.int .i64 n), .val (.int .i64 ow)]] vs := by
          match vs, hv with
          | [_, _], ⟨g1, ⟨us, g2, g3⟩, g4⟩ =>
            match us, g3 with
            | [_, _, _, _, _], g3 => exact ⟨g1, ⟨_, g2, g3⟩, g4⟩
        exact ok_rdo2.2 [.agg [.val (.int .i64 x_lim), .val (.int .i64 x_l0), .val (.int .i64 x_c0), .val (.int .i64 x_p0), .val (.bool x_o0), .val (.int .i64 x_l1), .val (.int .i64 x_c1), .val (.int .i64 x_p1), .val (.bool x_o1), .sl none (.recs (.bool (.int .i64 .nil)) x_w0), .sl none (.recs (.bool (.int .i64 .nil)) x_w1)], .agg [.val (.int .i64 k), .num .i64 2, .val (.int .i64 ob), .val (.int .i64 n), .val (.int .i64 ow)]] _ _ rfl hC G vs h1 h2 h3 hv'
      · have := ok_rdo0.2 [.agg [.val (.int .i64 x_lim), .val (.int .i64 x_l0), .val (.int .i64 x_c0), .val (.int .i64 x_p0), .val (.bool x_o0), .val (.int .i64 x_l1), .val (.int .i64 x_c1), .val (.int .i64 x_p1), .val (.bool x_o1), .sl none (.recs (.bool (.int .i64 .nil)) x_w0), .sl none (.recs (.bool (.int .i64 .nil)) x_w1)], .agg [.val (.int .i64 k), .val (.int .i64 oa), .val (.int .i64 ob), .val (.int .i64 n), .val (.int .i64 ow)]] [] _ rfl ⟨hC, e1, e2⟩ G vs h1 h2 h3 hv
        exact this
  · cases hc
end Go.Proofs.Ytgemoemkgcmcgaa.MeQ
