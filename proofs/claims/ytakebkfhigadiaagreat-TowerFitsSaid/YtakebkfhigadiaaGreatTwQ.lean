/-
  which ways fit, which rise, by the document; light; awake. No condition but size.
-/
import Derived.Test.YtakebkfhigadiaaGreatTwR
import Derived.Test.YtakebkfhigadiaaGreatCoP
namespace Go.Proofs.YtakebkfhigadiaaGreat.TwQ
open Go Go.Proofs.YtakebkfhigadiaaGreat.Ry Go.Proofs.YtakebkfhigadiaaGreat.Cmp Go.Proofs.YtakebkfhigadiaaGreat.ViR Go.Proofs.YtakebkfhigadiaaGreat.TwV Go.Proofs.YtakebkfhigadiaaGreat.TwR Go.Proofs.YtakebkfhigadiaaGreat.CoN

open Go.Proofs.YtakebkfhigadiaaGreat.CoP (c_new ok_new)
theorem toF_cons (y : E) (l : List E) (a s : Int) : toF (y :: l) a s = if mtB y a s = true then rr y 2 else toF l a s := by
  unfold toF ixG
  rw [List.findIdx_cons]
  cases h : mtB y a s with
  | true => simp
  | false => simp
structure XT where
  k : Int
  o : List E
def tdQ (o : List E) (a s : Int) (y : XT) : Prop := -1 ≤ y.k ∧ y.k < o.length ∧ y.o = toF (o.drop (y.k + 1).toNat) a s
def tdM (y : XT) : Nat := (y.k + 1).toNat
theorem td_zero (o : List E) (a s : Int) : tdQ o a s ⟨o.length - 1, []⟩ := by
  refine ⟨by simp only; omega, by simp only; omega, ?_⟩
  simp only
  rw [List.drop_eq_nil_of_le (by omega)]
  rfl
theorem td_zero2 {o : List E} (hl : o.length ≤ 60) (a s : Int) : tdQ o a s ⟨stdBin .sub .i64 o.length 1, []⟩ := by
  rw [b_sub, wr _ (by omega) (by omega)]
  exact td_zero o a s
theorem to_le {i : Int} {n : Nat} (h : i ≤ n) (hn : n ≤ 60) : i.toNat ≤ 1000000 := by omega
theorem td_step {o : List E} {a s k : Int} {t : List E} (hl : o.length ≤ 60) (hq : tdQ o a s ⟨k, t⟩) (h : 0 ≤ k) : stdBin .sub .i64 k 1 = k - 1 ∧ (∀ x, tdM ⟨k - 1, x⟩ < tdM ⟨k, t⟩) ∧ (mtB (o.getD k.toNat []) a s = true → tdQ o a s ⟨k - 1, rr (o.getD k.toNat []) 2⟩) ∧ (mtB (o.getD k.toNat []) a s = false → tdQ o a s ⟨k - 1, t⟩) := by
  obtain ⟨h0, h1, h2⟩ := hq
  simp only at h0 h1 h2
  have hk : k.toNat < o.length := by omega
  have e : o.drop (k - 1 + 1).toNat = o.getD k.toNat [] :: o.drop (k + 1).toNat := by
    rw [show (k - 1 + 1).toNat = k.toNat by omega, show (k + 1).toNat = k.toNat + 1 by omega, List.drop_eq_getElem_cons hk, at_get o hk]
  refine ⟨by rw [b_sub, wr _ (by omega) (by omega)], fun x => by simp only [tdM]; omega, fun g => ⟨by simp only; omega, by simp only; omega, ?_⟩, fun g => ⟨by simp only; omega, by simp only; omega, ?_⟩⟩
  · simp only
    rw [e, toF_cons, if_pos g]
  · simp only
    rw [e, toF_cons, g, h2]
    rfl
theorem td_end {o : List E} {a s k : Int} {t : List E} (hq : tdQ o a s ⟨k, t⟩) (h : ¬ 0 ≤ k) : t = toF o a s := by
  obtain ⟨h0, h1, h2⟩ := hq
  simp only at h0 h1 h2
  rw [h2, show (k + 1).toNat = 0 by omega, List.drop_zero]
theorem beg_eq {p q : List E} : (p.length ≤ q.length → begB p q = eqW p (q.take p.length)) ∧ (¬ p.length ≤ q.length → begB p q = false) := by
  unfold begB
  refine ⟨fun g => ?_, fun g => ?_⟩
  · rw [decide_eq_true g]
    rfl
  · rw [decide_eq_false g]
    rfl
theorem okE_take {p q : List E} (h : okE p q = true) : okE p (q.take p.length) = true := (beg_ok h).1
def liB (l : List E) (j : Nat) : Bool := decide ((rr (l.getD j []) 2).length ≤ 60 ∧ (rr (l.getD j []) 3).length ≤ 60)
def ligB (l : List E) : Bool := decide (l.length ≤ 60) && allL (min l.length 60) (liB l)
theorem lig_no {l : List E} (h : allL (min l.length 60) (liB l) = false) : ligB l = false := by
  unfold ligB
  rw [h, Bool.and_false]
theorem lig_yes {l : List E} (h : allL (min l.length 60) (liB l) = true) : ligB l = decide (l.length ≤ 60) := by
  unfold ligB
  rw [h, Bool.and_true]

structure Tq where
  q_li : List E → Bool
  t : Tw
def Tq.std : Tq := ⟨ligB, TwR.Tw.std⟩

def c_rfits (F : Tq) : Con := fun xs h => match xs, h with
  | [.one (.val (.int .i64 a)), .one (.sl none (.recs (.int .i64 (.int .i64 (.recs (.int .i64 (.int .i64 (.int .i64 (.ints .i64 (.recs (.int .i64 (.int .i64 (.int .i64 (.int .i64 (.bool .nil))))) (.int .i64 (.int .i64 (.int .i64 (.int .i64 .nil))))))))) (.recs (.int .i64 (.int .i64 (.int .i64 (.ints .i64 (.recs (.int .i64 (.int .i64 (.int .i64 (.int .i64 (.bool .nil))))) (.int .i64 (.int .i64 (.int .i64 (.int .i64 .nil))))))))) .nil)))) w)), .one (.val (.int .i64 b9)), .one (.sl none (.recs (.int .i64 (.int .i64 (.recs (.int .i64 (.int .i64 (.int .i64 (.ints .i64 (.recs (.int .i64 (.int .i64 (.int .i64 (.int .i64 (.bool .nil))))) (.int .i64 (.int .i64 (.int .i64 (.int .i64 .nil))))))))) (.recs (.int .i64 (.int .i64 (.int .i64 (.ints .i64 (.recs (.int .i64 (.int .i64 (.int .i64 (.int .i64 (.bool .nil))))) (.int .i64 (.int .i64 (.int .i64 (.int .i64 .nil))))))))) .nil)))) o))], [] => some ⟨F.t.t_of w o = true, .sa (B (F.t.t_fi a w b9 o)), [], [Any, Any, Any, Any]⟩
  | _, _ => none
set_option cbv.maxSteps 4000000 in
set_option maxHeartbeats 4000000 in
set_option maxRecDepth 100000 in
theorem x_rfits (a : Int) (w : List E) (b9 : Int) (o : List E) (hC : Tq.std.t.t_of w o = true) : Does [(38, c_rwords TwR.Tw.std)] Tryz.f15 [.one (.val (.int .i64 a)), .one (.sl none (.recs (.int .i64 (.int .i64 (.recs (.int .i64 (.int .i64 (.int .i64 (.ints .i64 (.recs (.int .i64 (.int .i64 (.int .i64 (.int .i64 (.bool .nil))))) (.int .i64 (.int .i64 (.int .i64 (.int .i64 .nil))))))))) (.recs (.int .i64 (.int .i64 (.int .i64 (.ints .i64 (.recs (.int .i64 (.int .i64 (.int .i64 (.int .i64 (.bool .nil))))) (.int .i64 (.int .i64 (.int .i64 (.int .i64 .nil))))))))) .nil)))) w)), .one (.val (.int .i64 b9)), .one (.sl none (.recs (.int .i64 (.int .i64 (.recs (.int .i64 (.int .i64 (.int .i64 (.ints .i64 (.recs (.int .i64 (.int .i64 (.int .i64 (.int .i64 (.bool .nil))))) (.int .i64 (.int .i64 (.int .i64 (.int .i64 .nil))))))))) (.recs (.int .i64 (.int .i64 (.int .i64 (.ints .i64 (.recs (.int .i64 (.int .i64 (.int .i64 (.int .i64 (.bool .nil))))) (.int .i64 (.int .i64 (.int .i64 (.int .i64 .nil))))))))) .nil)))) o))] [] ⟨Tq.std.t.t_of w o = true, .sa (B (Tq.std.t.t_fi a w b9 o)), [], [Any, Any, Any, Any]⟩ := by
  intro b gv
  have hko : okF w o = true := hC
  have hfb : fitB a w b9 o = allL w.length (fiB a w b9 o) := rfl
  have hkw : w.length ≤ 60 := okY_len (Bool.and_eq_true_iff.1 hko).1
  have hkv : o.length ≤ 60 := okY_len (Bool.and_eq_true_iff.1 hko).2
  have hfs := (FsOk.cons ok_rwords FsOk.nil rfl)
  generalize hF : Tq.std = F at hC hfs ⊢
  generalize hG0 : TwR.Tw.std = G0 at hC hfs ⊢
  generalize hG1 : CoN.Cn.std = G1 at hC hfs ⊢
  generalize hA : Ar.std = A
  generalize hL : Lp _ _ _ = L
  obtain ⟨Z, zq⟩ := z_all
  refine @cd_open _ _ _ _ _ _ _ (lp_mono hL) _ _ zq rfl ?_
  repeat' (first
    | (refine z_open zq ?_; try dsimp only)
    | refine cd_seq zq ?_ (lp_mono hL)
    | refine cd_blk zq ?_
    | refine cd_ret ?_
    | refine cd_skip ?_
    | refine cd_exit ?_
    | refine cd_loop ?_
    | refine cd_cond rfl ?_
    | refine cd_condT rfl ?_
    | refine cd_condF rfl ?_
    | (refine Cd.mk ?_; cbv)
    | (refine Ends1.mk ?_; cbv)
    | (refine Fin1.mk ?_; cbv)
    | exact trivial
    | refine And.intro ?_ ?_
    | refine orf fun _ => ?_
    | refine ort fun _ => ?_)
  subst hL
  refine loop_z (cx_ok hfs) (allQ w.length (fiB a w b9 o)) (fun y => stOf Tryz.f15.ntmps [(0, .val (.int .i64 a)), (1, .sl none (.recs (.int .i64 (.int .i64 (.recs (.int .i64 (.int .i64 (.int .i64 (.ints .i64 (.recs (.int .i64 (.int .i64 (.int .i64 (.int .i64 (.bool .nil))))) (.int .i64 (.int .i64 (.int .i64 (.int .i64 .nil))))))))) (.recs (.int .i64 (.int .i64 (.int .i64 (.ints .i64 (.recs (.int .i64 (.int .i64 (.int .i64 (.int .i64 (.bool .nil))))) (.int .i64 (.int .i64 (.int .i64 (.int .i64 .nil))))))))) .nil)))) w)), (2, .val (.int .i64 b9)), (3, .sl none (.recs (.int .i64 (.int .i64 (.recs (.int .i64 (.int .i64 (.int .i64 (.ints .i64 (.recs (.int .i64 (.int .i64 (.int .i64 (.int .i64 (.bool .nil))))) (.int .i64 (.int .i64 (.int .i64 (.int .i64 .nil))))))))) (.recs (.int .i64 (.int .i64 (.int .i64 (.ints .i64 (.recs (.int .i64 (.int .i64 (.int .i64 (.int .i64 (.bool .nil))))) (.int .i64 (.int .i64 (.int .i64 (.int .i64 .nil))))))))) .nil)))) o)), (9, .val (.int .i64 y.i))] [] [Any, Any, Any, Any]) (allM w.length) (iR 9) ⟨0⟩ ?_ ?_ ?_
  · exact all_zero _ _
  · cbv
    repeat' (first | exact trivial | exact rfl | refine And.intro ?_ ?_)
  rintro ⟨i⟩ hq O hO
  obtain ⟨e1, _⟩ := all_num (by omega) hq
  have hst := fun h => all_step (by omega) hq h
  have hen := fun h => all_end hq h
  have hfi := fun h => fi_at (a := a) (b := b9) hko (i := i.toNat) h
  have q0 := hq.1
  have q1 := hq.2.1
  dsimp only at q0 q1 hst
  subst hA
  generalize hA : Ar.std = A
  generalize hL : Lp _ _ _ = L
  refine cd_close zq ?_
  repeat' (first
    | (refine z_open zq ?_; try dsimp only)
    | refine cd_seq zq ?_ (lp_mono hL)
    | refine cd_blk zq ?_
    | refine cd_ret ?_
    | refine cd_skip ?_
    | refine cd_exit ?_
    | refine cd_loop ?_
    | refine cd_cond rfl ?_
    | refine cd_condT rfl ?_
    | refine cd_condF rfl ?_
    | (refine Cd.mk ?_; cbv)
    | (refine Ends1.mk ?_; cbv)
    | (refine Fin1.mk ?_; cbv)
    | exact trivial
    | refine And.intro ?_ ?_
    | refine orf fun _ => ?_
    | refine ort fun _ => ?_)
  all_goals first | (show L _ _ _; skip) | (clear hL hfs zq Z hq; subst hA hF hG0 hG1 hO; simp only [Tq.std, TwR.Tw.std, Ar.std] at * <;> grind [stdCmp]; done)
  subst hL
  refine loop_z (cx_ok hfs) (tdQ o a (ri (w.getD i.toNat []) 1)) (fun y => stOf Tryz.f15.ntmps [(0, .val (.int .i64 a)), (1, .sl none (.recs (.int .i64 (.int .i64 (.recs (.int .i64 (.int .i64 (.int .i64 (.ints .i64 (.recs (.int .i64 (.int .i64 (.int .i64 (.int .i64 (.bool .nil))))) (.int .i64 (.int .i64 (.int .i64 (.int .i64 .nil))))))))) (.recs (.int .i64 (.int .i64 (.int .i64 (.ints .i64 (.recs (.int .i64 (.int .i64 (.int .i64 (.int .i64 (.bool .nil))))) (.int .i64 (.int .i64 (.int .i64 (.int .i64 .nil))))))))) .nil)))) w)), (2, .val (.int .i64 b9)), (3, .sl none (.recs (.int .i64 (.int .i64 (.recs (.int .i64 (.int .i64 (.int .i64 (.ints .i64 (.recs (.int .i64 (.int .i64 (.int .i64 (.int .i64 (.bool .nil))))) (.int .i64 (.int .i64 (.int .i64 (.int .i64 .nil))))))))) (.recs (.int .i64 (.int .i64 (.int .i64 (.ints .i64 (.recs (.int .i64 (.int .i64 (.int .i64 (.int .i64 (.bool .nil))))) (.int .i64 (.int .i64 (.int .i64 (.int .i64 .nil))))))))) .nil)))) o)), (9, .val (.int .i64 i)), (10, .ptr 1 0), (11, .sl none (.recs (.int .i64 (.int .i64 (.int .i64 (.ints .i64 (.recs (.int .i64 (.int .i64 (.int .i64 (.int .i64 (.bool .nil))))) (.int .i64 (.int .i64 (.int .i64 (.int .i64 .nil))))))))) y.o)), (12, .val (.int .i64 y.k))] [(1, .cells 107 [.val (.int .i64 (A.ri (A.atE w i) 0)), .val (.int .i64 (A.ri (A.atE w i) 1)), .sl none (.recs (.int .i64 (.int .i64 (.int .i64 (.ints .i64 (.recs (.int .i64 (.int .i64 (.int .i64 (.int .i64 (.bool .nil))))) (.int .i64 (.int .i64 (.int .i64 (.int .i64 .nil))))))))) (A.rr (A.atE w i) 2)), .sl none (.recs (.int .i64 (.int .i64 (.int .i64 (.ints .i64 (.recs (.int .i64 (.int .i64 (.int .i64 (.int .i64 (.bool .nil))))) (.int .i64 (.int .i64 (.int .i64 (.int .i64 .nil))))))))) (A.rr (A.atE w i) 3))])] [Any, Any, Any, Any]) (tdM) (fun st => ⟨slotI st 12, (match slotC st 11 with | .sl _ c => ctR c | _ => [])⟩) ⟨A.bin .sub .i64 (A.lenE o) 1, []⟩ ?_ ?_ ?_
  · subst hA
    exact td_zero2 hkv _ _
  · cbv
    repeat' (first | exact trivial | exact rfl | refine And.intro ?_ ?_)
  rintro ⟨k, t⟩ hq2 O2 hO2
  have hst2 := fun h => td_step hkv hq2 h
  have hen2 := fun h => td_end hq2 h
  have hmt : mtB (o.getD k.toNat []) a (ri (w.getD i.toNat []) 1) = decide (ri (o.getD k.toNat []) 0 = a ∧ ri (o.getD k.toNat []) 1 = ri (w.getD i.toNat []) 1) := rfl
  have hbe := beg_eq (p := rr (w.getD i.toNat []) 3) (q := t)
  have hot := fun h => okE_take (p := rr (w.getD i.toNat []) 3) (q := t) h
  have q2 := hq2.1
  have q3 := hq2.2.1
  dsimp only at q2 q3
  subst hA
  generalize hA : Ar.std = A
  generalize hL : Lp _ _ _ = L
  refine cd_close zq ?_
  repeat' (first
    | (refine z_open zq ?_; try dsimp only)
    | refine cd_seq zq ?_ (lp_mono hL)
    | refine cd_blk zq ?_
    | refine cd_ret ?_
    | refine cd_skip ?_
    | refine cd_exit ?_
    | refine cd_loop ?_
    | refine cd_cond rfl ?_
    | refine cd_condT rfl ?_
    | refine cd_condF rfl ?_
    | (refine Cd.mk ?_; cbv)
    | (refine Ends1.mk ?_; cbv)
    | (refine Fin1.mk ?_; cbv)
    | exact trivial
    | refine And.intro ?_ ?_
    | refine orf fun _ => ?_
    | refine ort fun _ => ?_)
  all_goals (clear hL hfs zq Z hq hq2; subst hA hF hG0 hG1 hO hO2; simp only [Tq.std, TwR.Tw.std, Ar.std, List.drop_zero, Int.toNat_natCast, Int.toNat_zero] at * <;> grind [stdCmp]; done)
theorem ok_rfits : ConOk Tryz.prog 15 (c_rfits Tq.std) := by
  refine con_of (FsOk.cons ok_rwords FsOk.nil rfl) Tryz.func15 rfl rfl fun xs h p hp => ?_
  unfold c_rfits at hp
  split at hp
  · cases hp
    exact ⟨lee_le rfl, fun hC _ => @x_rfits _ _ _ _ hC⟩
  · cases hp

def c_rris (F : Tq) : Con := fun xs h => match xs, h with
  | [.one (.sl none (.recs (.int .i64 (.int .i64 (.recs (.int .i64 (.int .i64 (.int .i64 (.ints .i64 (.recs (.int .i64 (.int .i64 (.int .i64 (.int .i64 (.bool .nil))))) (.int .i64 (.int .i64 (.int .i64 (.int .i64 .nil))))))))) (.recs (.int .i64 (.int .i64 (.int .i64 (.ints .i64 (.recs (.int .i64 (.int .i64 (.int .i64 (.int .i64 (.bool .nil))))) (.int .i64 (.int .i64 (.int .i64 (.int .i64 .nil))))))))) .nil)))) w))], [] => some ⟨F.t.t_l6 w = true, .sa (B (F.t.t_ri w)), [], [Any]⟩
  | _, _ => none
set_option cbv.maxSteps 4000000 in
set_option maxHeartbeats 4000000 in
set_option maxRecDepth 100000 in
theorem x_rris (w : List E) (hC : Tq.std.t.t_l6 w = true) : Does [] Tryz.f17 [.one (.sl none (.recs (.int .i64 (.int .i64 (.recs (.int .i64 (.int .i64 (.int .i64 (.ints .i64 (.recs (.int .i64 (.int .i64 (.int .i64 (.int .i64 (.bool .nil))))) (.int .i64 (.int .i64 (.int .i64 (.int .i64 .nil))))))))) (.recs (.int .i64 (.int .i64 (.int .i64 (.ints .i64 (.recs (.int .i64 (.int .i64 (.int .i64 (.int .i64 (.bool .nil))))) (.int .i64 (.int .i64 (.int .i64 (.int .i64 .nil))))))))) .nil)))) w))] [] ⟨Tq.std.t.t_l6 w = true, .sa (B (Tq.std.t.t_ri w)), [], [Any]⟩ := by
  intro b gv
  have hk : w.length ≤ 60 := of_decide_eq_true (show decide (w.length ≤ 60) = true from hC)
  have hrr : risB w = allL w.length (roB w) := rfl
  have hfs := FsOk.nil
  generalize hF : Tq.std = F at hC hfs ⊢
  generalize hG0 : TwR.Tw.std = G0 at hC hfs ⊢
  generalize hG1 : CoN.Cn.std = G1 at hC hfs ⊢
  generalize hA : Ar.std = A
  generalize hL : Lp _ _ _ = L
  obtain ⟨Z, zq⟩ := z_all
  refine @cd_open _ _ _ _ _ _ _ (lp_mono hL) _ _ zq rfl ?_
  repeat' (first
    | (refine z_open zq ?_; try dsimp only)
    | refine cd_seq zq ?_ (lp_mono hL)
    | refine cd_blk zq ?_
    | refine cd_ret ?_
    | refine cd_skip ?_
    | refine cd_exit ?_
    | refine cd_loop ?_
    | refine cd_cond rfl ?_
    | refine cd_condT rfl ?_
    | refine cd_condF rfl ?_
    | (refine Cd.mk ?_; cbv)
    | (refine Ends1.mk ?_; cbv)
    | (refine Fin1.mk ?_; cbv)
    | exact trivial
    | refine And.intro ?_ ?_
    | refine orf fun _ => ?_
    | refine ort fun _ => ?_)
  subst hL
  refine loop_z (cx_ok hfs) (allQ w.length (roB w)) (fun y => stOf Tryz.f17.ntmps [(0, .sl none (.recs (.int .i64 (.int .i64 (.recs (.int .i64 (.int .i64 (.int .i64 (.ints .i64 (.recs (.int .i64 (.int .i64 (.int .i64 (.int .i64 (.bool .nil))))) (.int .i64 (.int .i64 (.int .i64 (.int .i64 .nil))))))))) (.recs (.int .i64 (.int .i64 (.int .i64 (.ints .i64 (.recs (.int .i64 (.int .i64 (.int .i64 (.int .i64 (.bool .nil))))) (.int .i64 (.int .i64 (.int .i64 (.int .i64 .nil))))))))) .nil)))) w)), (3, .val (.int .i64 y.i))] [] [Any]) (allM w.length) (iR 3) ⟨0⟩ ?_ ?_ ?_
  · exact all_zero _ _
  · cbv
    repeat' (first | exact trivial | exact rfl | refine And.intro ?_ ?_)
  rintro ⟨i⟩ hq O hO
  obtain ⟨e1, _⟩ := all_num (by omega) hq
  have hst := fun h => all_step (by omega) hq h
  have hen := fun h => all_end hq h
  have hro : roB w i.toNat = allL i.toNat (prB w i.toNat) := rfl
  have q0 := hq.1
  have q1 := hq.2.1
  dsimp only at q0 q1 hst
  subst hA
  generalize hA : Ar.std = A
  generalize hL : Lp _ _ _ = L
  refine cd_close zq ?_
  repeat' (first
    | (refine z_open zq ?_; try dsimp only)
    | refine cd_seq zq ?_ (lp_mono hL)
    | refine cd_blk zq ?_
    | refine cd_ret ?_
    | refine cd_skip ?_
    | refine cd_exit ?_
    | refine cd_loop ?_
    | refine cd_cond rfl ?_
    | refine cd_condT rfl ?_
    | refine cd_condF rfl ?_
    | (refine Cd.mk ?_; cbv)
    | (refine Ends1.mk ?_; cbv)
    | (refine Fin1.mk ?_; cbv)
    | exact trivial
    | refine And.intro ?_ ?_
    | refine orf fun _ => ?_
    | refine ort fun _ => ?_)
  all_goals first | (show L _ _ _; skip) | (clear hL hfs zq Z hq; subst hA hF hG0 hG1 hO; simp only [Tq.std, TwR.Tw.std, Ar.std] at * <;> grind [stdCmp]; done)
  subst hL
  refine loop_z (cx_ok hfs) (allQ i.toNat (prB w i.toNat)) (fun y => stOf Tryz.f17.ntmps [(0, .sl none (.recs (.int .i64 (.int .i64 (.recs (.int .i64 (.int .i64 (.int .i64 (.ints .i64 (.recs (.int .i64 (.int .i64 (.int .i64 (.int .i64 (.bool .nil))))) (.int .i64 (.int .i64 (.int .i64 (.int .i64 .nil))))))))) (.recs (.int .i64 (.int .i64 (.int .i64 (.ints .i64 (.recs (.int .i64 (.int .i64 (.int .i64 (.int .i64 (.bool .nil))))) (.int .i64 (.int .i64 (.int .i64 (.int .i64 .nil))))))))) .nil)))) w)), (3, .val (.int .i64 i)), (4, .val (.int .i64 y.i))] [] [Any]) (allM i.toNat) (iR 4) ⟨0⟩ ?_ ?_ ?_
  · exact all_zero _ _
  · cbv
    repeat' (first | exact trivial | exact rfl | refine And.intro ?_ ?_)
  rintro ⟨k⟩ hq2 O2 hO2
  have hin : ((i.toNat : Nat) : Int) = i := Int.toNat_of_nonneg q0
  obtain ⟨e3, _⟩ := all_num (to_le q1 hk) hq2
  have hst2 := fun h => all_step (to_le q1 hk) hq2 h
  have hen2 := fun h => all_end hq2 h
  have hpr : prB w i.toNat k.toNat = !decide (ri (w.getD k.toNat []) 0 = ri (w.getD i.toNat []) 0 ∧ ri (w.getD k.toNat []) 1 ≥ ri (w.getD i.toNat []) 1) := rfl
  have q2 := hq2.1
  have q3 := hq2.2.1
  dsimp only at q2 q3 hst2
  subst hA
  generalize hA : Ar.std = A
  generalize hL : Lp _ _ _ = L
  refine cd_close zq ?_
  repeat' (first
    | (refine z_open zq ?_; try dsimp only)
    | refine cd_seq zq ?_ (lp_mono hL)
    | refine cd_blk zq ?_
    | refine cd_ret ?_
    | refine cd_skip ?_
    | refine cd_exit ?_
    | refine cd_loop ?_
    | refine cd_cond rfl ?_
    | refine cd_condT rfl ?_
    | refine cd_condF rfl ?_
    | (refine Cd.mk ?_; cbv)
    | (refine Ends1.mk ?_; cbv)
    | (refine Fin1.mk ?_; cbv)
    | exact trivial
    | refine And.intro ?_ ?_
    | refine orf fun _ => ?_
    | refine ort fun _ => ?_)
  all_goals (clear hL hfs zq Z hq hq2; subst hA hF hG0 hG1 hO hO2; simp only [Tq.std, TwR.Tw.std, Ar.std] at * <;> grind [stdCmp]; done)
theorem ok_rris : ConOk Tryz.prog 17 (c_rris Tq.std) := by
  refine con_of FsOk.nil Tryz.func17 rfl rfl fun xs h p hp => ?_
  unfold c_rris at hp
  split at hp
  · cases hp
    exact ⟨lee_le rfl, fun hC _ => @x_rris _ hC⟩
  · cases hp

def c_tli (F : Tq) : Con := fun xs h => match xs, h with
  | [.one (.sl none (.recs (.int .i64 (.int .i64 (.recs (.int .i64 (.int .i64 (.int .i64 (.ints .i64 (.recs (.int .i64 (.int .i64 (.int .i64 (.int .i64 (.bool .nil))))) (.int .i64 (.int .i64 (.int .i64 (.int .i64 .nil))))))))) (.recs (.int .i64 (.int .i64 (.int .i64 (.ints .i64 (.recs (.int .i64 (.int .i64 (.int .i64 (.int .i64 (.bool .nil))))) (.int .i64 (.int .i64 (.int .i64 (.int .i64 .nil))))))))) .nil)))) l))], [] => some ⟨True, .sa (B (F.q_li l)), [], [Any]⟩
  | _, _ => none
set_option cbv.maxSteps 4000000 in
set_option maxHeartbeats 4000000 in
set_option maxRecDepth 100000 in
theorem x_tli (l : List E) : Does [] Tryz.f12 [.one (.sl none (.recs (.int .i64 (.int .i64 (.recs (.int .i64 (.int .i64 (.int .i64 (.ints .i64 (.recs (.int .i64 (.int .i64 (.int .i64 (.int .i64 (.bool .nil))))) (.int .i64 (.int .i64 (.int .i64 (.int .i64 .nil))))))))) (.recs (.int .i64 (.int .i64 (.int .i64 (.ints .i64 (.recs (.int .i64 (.int .i64 (.int .i64 (.int .i64 (.bool .nil))))) (.int .i64 (.int .i64 (.int .i64 (.int .i64 .nil))))))))) .nil)))) l))] [] ⟨True, .sa (B (Tq.std.q_li l)), [], [Any]⟩ := by
  intro b gv
  have hfs := FsOk.nil
  generalize hF : Tq.std = F at hfs ⊢
  generalize hG0 : TwR.Tw.std = G0 at hfs ⊢
  generalize hG1 : CoN.Cn.std = G1 at hfs ⊢
  generalize hA : Ar.std = A
  generalize hL : Lp _ _ _ = L
  obtain ⟨Z, zq⟩ := z_all
  refine @cd_open _ _ _ _ _ _ _ (lp_mono hL) _ _ zq rfl ?_
  repeat' (first
    | (refine z_open zq ?_; try dsimp only)
    | refine cd_seq zq ?_ (lp_mono hL)
    | refine cd_blk zq ?_
    | refine cd_ret ?_
    | refine cd_skip ?_
    | refine cd_exit ?_
    | refine cd_loop ?_
    | refine cd_cond rfl ?_
    | refine cd_condT rfl ?_
    | refine cd_condF rfl ?_
    | (refine Cd.mk ?_; cbv)
    | (refine Ends1.mk ?_; cbv)
    | (refine Fin1.mk ?_; cbv)
    | exact trivial
    | refine And.intro ?_ ?_
    | refine orf fun _ => ?_
    | refine ort fun _ => ?_)
  subst hL
  refine loop_z (cx_ok hfs) (allQ (min l.length 60) (liB l)) (fun y => stOf Tryz.f12.ntmps [(0, .sl none (.recs (.int .i64 (.int .i64 (.recs (.int .i64 (.int .i64 (.int .i64 (.ints .i64 (.recs (.int .i64 (.int .i64 (.int .i64 (.int .i64 (.bool .nil))))) (.int .i64 (.int .i64 (.int .i64 (.int .i64 .nil))))))))) (.recs (.int .i64 (.int .i64 (.int .i64 (.ints .i64 (.recs (.int .i64 (.int .i64 (.int .i64 (.int .i64 (.bool .nil))))) (.int .i64 (.int .i64 (.int .i64 (.int .i64 .nil))))))))) .nil)))) l)), (3, .val (.int .i64 y.i))] [] [Any]) (allM (min l.length 60)) (iR 3) ⟨0⟩ ?_ ?_ ?_
  · exact all_zero _ _
  · cbv
    repeat' (first | exact trivial | exact rfl | refine And.intro ?_ ?_)
  rintro ⟨i⟩ hq O hO
  obtain ⟨e1, _⟩ := all_num (by omega) hq
  have hst := fun h => all_step (by omega) hq h
  have hen := fun h => all_end hq h
  have hno := fun h => lig_no (l := l) h
  have hye := fun h => lig_yes (l := l) h
  have hz : liB l i.toNat = decide ((rr (l.getD i.toNat []) 2).length ≤ 60 ∧ (rr (l.getD i.toNat []) 3).length ≤ 60) := rfl
  have q0 := hq.1
  have q1 := hq.2.1
  dsimp only at q0 q1 hst
  subst hA
  generalize hA : Ar.std = A
  generalize hL : Lp _ _ _ = L
  refine cd_close zq ?_
  repeat' (first
    | (refine z_open zq ?_; try dsimp only)
    | refine cd_seq zq ?_ (lp_mono hL)
    | refine cd_blk zq ?_
    | refine cd_ret ?_
    | refine cd_skip ?_
    | refine cd_exit ?_
    | refine cd_loop ?_
    | refine cd_cond rfl ?_
    | refine cd_condT rfl ?_
    | refine cd_condF rfl ?_
    | (refine Cd.mk ?_; cbv)
    | (refine Ends1.mk ?_; cbv)
    | (refine Fin1.mk ?_; cbv)
    | exact trivial
    | refine And.intro ?_ ?_
    | refine orf fun _ => ?_
    | refine ort fun _ => ?_)
  all_goals (clear hL hfs zq Z hq; subst hA hF hG0 hG1 hO; simp only [Tq.std, TwR.Tw.std, Ar.std] at * <;> grind [stdCmp]; done)
theorem ok_tli : ConOk Tryz.prog 12 (c_tli Tq.std) := by
  refine con_of FsOk.nil Tryz.func12 rfl rfl fun xs h p hp => ?_
  unfold c_tli at hp
  split at hp
  · cases hp
    exact ⟨lee_le rfl, fun _ _ => @x_tli _⟩
  · cases hp

def c_tway (_ : Tq) : Con := fun xs h => match xs, h with
  | [.one (.val (.int .i64 i)), .one (.val (.int .i64 l)), .one (.val (.slice none 0 0))], [] => some ⟨i = 1 ∧ l = 9, .tup [.one (.val (.slice none 0 0)), I 0], [], [Any, Any, Any]⟩
  | _, _ => none
set_option cbv.maxSteps 4000000 in
set_option maxHeartbeats 4000000 in
set_option maxRecDepth 100000 in
theorem x_tway (i : Int) (l : Int) (hC : i = 1 ∧ l = 9) : Does [(67, c_new CoN.Cn.std)] Tryz.f34 [.one (.val (.int .i64 i)), .one (.val (.int .i64 l)), .one (.val (.slice none 0 0))] [] ⟨i = 1 ∧ l = 9, .tup [.one (.val (.slice none 0 0)), I 0], [], [Any, Any, Any]⟩ := by
  intro b gv
  have hi9 : i = 1 := hC.1
  have hl9 : l = 9 := hC.2
  subst hi9 hl9
  have hnw : nwB 1 9 = true := by decide
  have hfs := (FsOk.cons ok_new FsOk.nil rfl)
  generalize hF : Tq.std = F at hC hfs ⊢
  generalize hG0 : TwR.Tw.std = G0 at hC hfs ⊢
  generalize hG1 : CoN.Cn.std = G1 at hC hfs ⊢
  generalize hA : Ar.std = A
  generalize hL : Lp _ _ _ = L
  obtain ⟨Z, zq⟩ := z_all
  refine @cd_open _ _ _ _ _ _ _ (lp_mono hL) _ _ zq rfl ?_
  repeat' (first
    | (refine z_open zq ?_; try dsimp only)
    | refine cd_seq zq ?_ (lp_mono hL)
    | refine cd_blk zq ?_
    | refine cd_ret ?_
    | refine cd_skip ?_
    | refine cd_exit ?_
    | refine cd_loop ?_
    | refine cd_cond rfl ?_
    | refine cd_condT rfl ?_
    | refine cd_condF rfl ?_
    | (refine Cd.mk ?_; cbv)
    | (refine Ends1.mk ?_; cbv)
    | (refine Fin1.mk ?_; cbv)
    | exact trivial
    | refine And.intro ?_ ?_
    | refine orf fun _ => ?_
    | refine ort fun _ => ?_)
  all_goals first | (show L _ _ _; skip) | (exfalso; clear hL hfs zq Z; subst hA hF hG0 hG1; simp only [CoN.Cn.std, Ar.std] at * <;> grind [stdCmp]; done) | (clear hL hfs zq Z; subst hA hF hG0 hG1; simp only [Tq.std, TwR.Tw.std, CoN.Cn.std, Ar.std, List.drop_zero, Int.toNat_natCast, List.nil_append, Int.toNat_zero] at * <;> grind [stdCmp]; done)
  subst hL
  refine loop_z (cx_ok hfs) (zQ) (fun y => stOf Tryz.f34.ntmps [(10, .ptr 1 0), (25, .val (.slice none 0 0)), (26, .num .i64 0), (27, .val (.int .i64 y.i))] [(1, .cells 158 [.val (.slice none 0 0), .val (.int .i64 0), .val (.int .i64 0), .val (.int .i64 0), .val (.int .i64 0), .val (.int .i64 0), .val (.int .i64 0), .val (.int .i64 0), .val (.int .i64 0), .val (.int .i64 0), .val (.int .i64 0), .val (.int .i64 0), .val (.int .i64 0), .val (.int .i64 0), .val (.int .i64 0), .val (.int .i64 0), .val (.int .i64 0), .val (.int .i64 0), .val (.int .i64 0), .val (.int .i64 0), .val (.int .i64 0), .val (.int .i64 0), .val (.int .i64 0), .val (.int .i64 0), .val (.int .i64 0), .val (.int .i64 0), .val (.int .i64 0), .val (.int .i64 0), .val (.int .i64 0), .val (.int .i64 0), .val (.int .i64 0), .val (.int .i64 0), .val (.int .i64 0), .val (.int .i64 0), .val (.int .i64 0), .val (.int .i64 0), .val (.int .i64 0), .val (.int .i64 0), .val (.int .i64 0), .val (.int .i64 0), .val (.int .i64 0), .val (.int .i64 0), .val (.int .i64 0), .val (.int .i64 0), .val (.int .i64 0), .val (.int .i64 0), .val (.int .i64 0), .val (.int .i64 0), .val (.int .i64 0), .val (.int .i64 0), .val (.int .i64 0), .val (.int .i64 0), .val (.int .i64 0), .val (.int .i64 0), .val (.int .i64 0), .val (.int .i64 0), .val (.int .i64 0), .val (.int .i64 0), .val (.int .i64 0), .val (.int .i64 0), .val (.int .i64 0), .val (.int .i64 0), .val (.int .i64 0), .val (.int .i64 0), .val (.int .i64 0), .val (.int .i64 0)])] [Any, Any, Any]) (zM) (zR 27) ⟨0⟩ ?_ ?_ ?_
  · exact rfl
  · cbv
    repeat' (first | exact trivial | exact rfl | refine And.intro ?_ ?_)
  rintro ⟨j⟩ hq O hO
  have hj0 : j = 0 := hq
  subst hA
  generalize hA : Ar.std = A
  generalize hL : Lp _ _ _ = L
  refine cd_close zq ?_
  repeat' (first
    | (refine z_open zq ?_; try dsimp only)
    | refine cd_seq zq ?_ (lp_mono hL)
    | refine cd_blk zq ?_
    | refine cd_ret ?_
    | refine cd_skip ?_
    | refine cd_exit ?_
    | refine cd_loop ?_
    | refine cd_cond rfl ?_
    | refine cd_condT rfl ?_
    | refine cd_condF rfl ?_
    | (refine Cd.mk ?_; cbv)
    | (refine Ends1.mk ?_; cbv)
    | (refine Fin1.mk ?_; cbv)
    | exact trivial
    | refine And.intro ?_ ?_
    | refine orf fun _ => ?_
    | refine ort fun _ => ?_)
  all_goals first | (show L _ _ _; skip) | (exfalso; clear hL hfs zq Z hq; subst hA hF hG0 hG1 hO; simp only [CoN.Cn.std, Ar.std] at * <;> grind [stdCmp]; done) | (clear hL hfs zq Z hq; subst hA hF hG0 hG1 hO; simp only [Tq.std, TwR.Tw.std, CoN.Cn.std, Ar.std, List.drop_zero, Int.toNat_natCast, List.nil_append, Int.toNat_zero] at * <;> grind [stdCmp]; done)
theorem ok_tway : ConOk Tryz.prog 34 (c_tway Tq.std) := by
  refine con_of (FsOk.cons ok_new FsOk.nil rfl) Tryz.func34 rfl rfl fun xs h p hp => ?_
  unfold c_tway at hp
  split at hp
  · cases hp
    exact ⟨lee_le rfl, fun hC _ => @x_tway _ _ hC⟩
  · cases hp

theorem aw_t : okF [[D.int 2, D.int 1, D.recs [], D.recs [[D.int 4, D.int 0, D.int 0, D.ints [], D.recs [], D.int 0, D.int 0, D.int 0, D.int 0]]]] [[D.int 1, D.int 1, D.recs [[D.int 4, D.int 0, D.int 0, D.ints [], D.recs [], D.int 0, D.int 0, D.int 0, D.int 0], [D.int 4, D.int 0, D.int 0, D.ints [], D.recs [], D.int 0, D.int 0, D.int 0, D.int 0]], D.recs []]] = true ∧ okF [[D.int 2, D.int 1, D.recs [], D.recs [[D.int 4, D.int 0, D.int 0, D.ints [], D.recs [], D.int 0, D.int 0, D.int 0, D.int 0]]]] [] = true ∧ fitB 1 [[D.int 2, D.int 1, D.recs [], D.recs [[D.int 4, D.int 0, D.int 0, D.ints [], D.recs [], D.int 0, D.int 0, D.int 0, D.int 0]]]] 2 [[D.int 1, D.int 1, D.recs [[D.int 4, D.int 0, D.int 0, D.ints [], D.recs [], D.int 0, D.int 0, D.int 0, D.int 0], [D.int 4, D.int 0, D.int 0, D.ints [], D.recs [], D.int 0, D.int 0, D.int 0, D.int 0]], D.recs []]] = true ∧ fitB 1 [[D.int 2, D.int 1, D.recs [], D.recs [[D.int 4, D.int 0, D.int 0, D.ints [], D.recs [], D.int 0, D.int 0, D.int 0, D.int 0]]]] 2 [] = false ∧ risB [[D.int 2, D.int 1, D.recs [], D.recs [[D.int 4, D.int 0, D.int 0, D.ints [], D.recs [], D.int 0, D.int 0, D.int 0, D.int 0]]]] = true ∧ ([[D.int 2, D.int 1, D.recs [], D.recs [[D.int 4, D.int 0, D.int 0, D.ints [], D.recs [], D.int 0, D.int 0, D.int 0, D.int 0]]]] : List E).length ≤ 60 := by decide +kernel

def c_twa (_ : Tq) : Con := fun xs h => match xs, h with
  | [], [] => some ⟨True, .sa (B true), [], []⟩
  | _, _ => none
set_option cbv.maxSteps 4000000 in
set_option maxHeartbeats 4000000 in
set_option maxRecDepth 100000 in
theorem x_twa  : Does [(34, c_tway Tq.std), (14, denil [none, some (.recs (.int .i64 (.int .i64 (.recs (.int .i64 (.int .i64 (.int .i64 (.ints .i64 (.recs (.int .i64 (.int .i64 (.int .i64 (.int .i64 (.bool .nil))))) (.int .i64 (.int .i64 (.int .i64 (.int .i64 .nil))))))))) (.recs (.int .i64 (.int .i64 (.int .i64 (.ints .i64 (.recs (.int .i64 (.int .i64 (.int .i64 (.int .i64 (.bool .nil))))) (.int .i64 (.int .i64 (.int .i64 (.int .i64 .nil))))))))) .nil)))) []), none, some (.recs (.int .i64 (.int .i64 (.recs (.int .i64 (.int .i64 (.int .i64 (.ints .i64 (.recs (.int .i64 (.int .i64 (.int .i64 (.int .i64 (.bool .nil))))) (.int .i64 (.int .i64 (.int .i64 (.int .i64 .nil))))))))) (.recs (.int .i64 (.int .i64 (.int .i64 (.ints .i64 (.recs (.int .i64 (.int .i64 (.int .i64 (.int .i64 (.bool .nil))))) (.int .i64 (.int .i64 (.int .i64 (.int .i64 .nil))))))))) .nil)))) [])] (c_fits TwR.Tw.std)), (16, c_ris TwR.Tw.std)] Tryz.f13 [] [] ⟨True, .sa (B true), [], []⟩ := by
  intro b gv
  obtain ⟨z1, z2, z3, z4, z5, z6⟩ := aw_t
  have hfs := (FsOk.cons ok_tway (FsOk.cons (denil_ok [none, some (.recs (.int .i64 (.int .i64 (.recs (.int .i64 (.int .i64 (.int .i64 (.ints .i64 (.recs (.int .i64 (.int .i64 (.int .i64 (.int .i64 (.bool .nil))))) (.int .i64 (.int .i64 (.int .i64 (.int .i64 .nil))))))))) (.recs (.int .i64 (.int .i64 (.int .i64 (.ints .i64 (.recs (.int .i64 (.int .i64 (.int .i64 (.int .i64 (.bool .nil))))) (.int .i64 (.int .i64 (.int .i64 (.int .i64 .nil))))))))) .nil)))) []), none, some (.recs (.int .i64 (.int .i64 (.recs (.int .i64 (.int .i64 (.int .i64 (.ints .i64 (.recs (.int .i64 (.int .i64 (.int .i64 (.int .i64 (.bool .nil))))) (.int .i64 (.int .i64 (.int .i64 (.int .i64 .nil))))))))) (.recs (.int .i64 (.int .i64 (.int .i64 (.ints .i64 (.recs (.int .i64 (.int .i64 (.int .i64 (.int .i64 (.bool .nil))))) (.int .i64 (.int .i64 (.int .i64 (.int .i64 .nil))))))))) .nil)))) [])] ok_fits) (FsOk.cons ok_ris FsOk.nil rfl) rfl) rfl)
  generalize hF : Tq.std = F at hfs ⊢
  generalize hG0 : TwR.Tw.std = G0 at hfs ⊢
  generalize hG1 : CoN.Cn.std = G1 at hfs ⊢
  generalize hA : Ar.std = A
  generalize hL : Lp _ _ _ = L
  obtain ⟨Z, zq⟩ := z_all
  refine @cd_open _ _ _ _ _ _ _ (lp_mono hL) _ _ zq rfl ?_
  repeat' (first
    | (refine z_open zq ?_; try dsimp only)
    | refine cd_seq zq ?_ (lp_mono hL)
    | refine cd_blk zq ?_
    | refine cd_ret ?_
    | refine cd_skip ?_
    | refine cd_exit ?_
    | refine cd_loop ?_
    | refine cd_cond rfl ?_
    | refine cd_condT rfl ?_
    | refine cd_condF rfl ?_
    | (refine Cd.mk ?_; cbv)
    | (refine Ends1.mk ?_; cbv)
    | (refine Fin1.mk ?_; cbv)
    | exact trivial
    | refine And.intro ?_ ?_
    | refine orf fun _ => ?_
    | refine ort fun _ => ?_)
  all_goals
    clear hL zq Z
    try clear hfs
    subst hA hF hG0 hG1
    simp only [TwR.Tw.std, Ar.std] at *
    try (grind [stdCmp])
theorem ok_twa : ConOk Tryz.prog 13 (c_twa Tq.std) := by
  refine con_of (FsOk.cons ok_tway (FsOk.cons (denil_ok [none, some (.recs (.int .i64 (.int .i64 (.recs (.int .i64 (.int .i64 (.int .i64 (.ints .i64 (.recs (.int .i64 (.int .i64 (.int .i64 (.int .i64 (.bool .nil))))) (.int .i64 (.int .i64 (.int .i64 (.int .i64 .nil))))))))) (.recs (.int .i64 (.int .i64 (.int .i64 (.ints .i64 (.recs (.int .i64 (.int .i64 (.int .i64 (.int .i64 (.bool .nil))))) (.int .i64 (.int .i64 (.int .i64 (.int .i64 .nil))))))))) .nil)))) []), none, some (.recs (.int .i64 (.int .i64 (.recs (.int .i64 (.int .i64 (.int .i64 (.ints .i64 (.recs (.int .i64 (.int .i64 (.int .i64 (.int .i64 (.bool .nil))))) (.int .i64 (.int .i64 (.int .i64 (.int .i64 .nil))))))))) (.recs (.int .i64 (.int .i64 (.int .i64 (.ints .i64 (.recs (.int .i64 (.int .i64 (.int .i64 (.int .i64 (.bool .nil))))) (.int .i64 (.int .i64 (.int .i64 (.int .i64 .nil))))))))) .nil)))) [])] ok_fits) (FsOk.cons ok_ris FsOk.nil rfl) rfl) rfl) Tryz.func13 rfl rfl fun xs h p hp => ?_
  unfold c_twa at hp
  split at hp
  · cases hp
    exact ⟨lee_le rfl, fun _ _ => @x_twa ⟩
  · cases hp
end Go.Proofs.YtakebkfhigadiaaGreat.TwQ
