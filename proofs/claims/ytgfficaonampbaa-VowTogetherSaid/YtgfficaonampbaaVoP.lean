/-
  the answer's two ends. No condition.
-/
import Derived.Test.YtgfficaonampbaaVoW
import Derived.Test.YtgfficaonampbaaRyOp
namespace Go.Proofs.Ytgfficaonampbaa.VoP
open Go Go.Proofs.Ytgfficaonampbaa.Ry Go.Proofs.Ytgfficaonampbaa.VoR Go.Proofs.Ytgfficaonampbaa.VoD Go.Proofs.Ytgfficaonampbaa.VoW

def goD (k a : Int) (d : DS) : DS := if a = 1 then doD k 0 d else if a = 2 then doD k 1 d else d
def may2 (d : DS) : Bool := mayB d.m0 d.t0 d.b0 d.o0 && mayB d.m1 d.t1 d.b1 d.o1 && decide (d.w0.length ≤ 100000 ∧ d.w1.length ≤ 100000)
theorem st_go (y : E) (d : DS) : stD y d = goD (ri y 0) (ri y 1) d := by
  unfold stD goD
  by_cases h1 : ri y 1 = 1
  · rw [if_pos (.inl h1), if_pos h1, h1]
    rfl
  · by_cases h2 : ri y 1 = 2
    · rw [if_pos (.inr h2), if_neg h1, if_pos h2, h2]
      rfl
    · rw [if_neg (by omega), if_neg h1, if_neg h2]
theorem may_v {m : Int} {t b : Bool} {o : Int} (h : mayB m t b o = true) : mayB (grV m t b o).m (grV m t b o).t (grV m t b o).b (grV m t b o).o = true ∧ mayB (reV m t b o).m (reV m t b o).t (reV m t b o).b (reV m t b o).o = true ∧ mayB (paV m t b o).m (paV m t b o).t (paV m t b o).b (paV m t b o).o = true := by
  have hf : ¬ mayB m t b o = false := by rw [h]; decide
  simp only [mayB, Bool.and_eq_true, decide_eq_true_eq] at h
  refine ⟨?_, ?_, ?_⟩
  · unfold grV
    rw [if_neg hf]
    unfold same owI mayB
    repeat' split
    all_goals grind
  · unfold reV
    rw [if_neg hf]
    unfold same mayB
    repeat' split
    all_goals grind
  · unfold paV
    rw [if_neg hf]
    unfold same mayB
    repeat' split
    all_goals grind
theorem may_h {m : Int} {t b : Bool} {o : Int} (k : Int) (h : mayB m t b o = true) : mayB (heV m t b o k).m (heV m t b o k).t (heV m t b o k).b (heV m t b o k).o = true := by
  unfold heV
  rw [if_neg (by rw [h]; decide)]
  unfold hvV hfV same owI
  simp only [mayB, Bool.and_eq_true, decide_eq_true_eq] at *
  repeat' split
  all_goals grind

structure Ps where
  p_go : Int → Int → DS → DS
  p_may : DS → Bool
  f : Fs
def Ps.std : Ps := ⟨goD, may2, Fs.std⟩

def c_do1 (F : Ps) : Con := fun xs h => match xs, h with
  | [.agg [.val (.int .i64 x_m0), .val (.bool x_t0), .val (.bool x_b0), .val (.int .i64 x_o0), .val (.int .i64 x_m1), .val (.bool x_t1), .val (.bool x_b1), .val (.int .i64 x_o1), .sl none (.ints .i64 x_w0), .sl none (.ints .i64 x_w1)], .agg [.val (.int .i64 k), .num .i64 1, .val (.int .i64 _), .val (.int .i64 _), .val (.int .i64 _)]], [] => some ⟨F.p_may ⟨x_m0, x_t0, x_b0, x_o0, x_m1, x_t1, x_b1, x_o1, x_w0, x_w1⟩ = true, .sa (.agg [.val (.int .i64 ((F.p_go k 1 ⟨x_m0, x_t0, x_b0, x_o0, x_m1, x_t1, x_b1, x_o1, x_w0, x_w1⟩)).m0), .val (.bool ((F.p_go k 1 ⟨x_m0, x_t0, x_b0, x_o0, x_m1, x_t1, x_b1, x_o1, x_w0, x_w1⟩)).t0), .val (.bool ((F.p_go k 1 ⟨x_m0, x_t0, x_b0, x_o0, x_m1, x_t1, x_b1, x_o1, x_w0, x_w1⟩)).b0), .val (.int .i64 ((F.p_go k 1 ⟨x_m0, x_t0, x_b0, x_o0, x_m1, x_t1, x_b1, x_o1, x_w0, x_w1⟩)).o0), .val (.int .i64 ((F.p_go k 1 ⟨x_m0, x_t0, x_b0, x_o0, x_m1, x_t1, x_b1, x_o1, x_w0, x_w1⟩)).m1), .val (.bool ((F.p_go k 1 ⟨x_m0, x_t0, x_b0, x_o0, x_m1, x_t1, x_b1, x_o1, x_w0, x_w1⟩)).t1), .val (.bool ((F.p_go k 1 ⟨x_m0, x_t0, x_b0, x_o0, x_m1, x_t1, x_b1, x_o1, x_w0, x_w1⟩)).b1), .val (.int .i64 ((F.p_go k 1 ⟨x_m0, x_t0, x_b0, x_o0, x_m1, x_t1, x_b1, x_o1, x_w0, x_w1⟩)).o1), .sl none (.ints .i64 ((F.p_go k 1 ⟨x_m0, x_t0, x_b0, x_o0, x_m1, x_t1, x_b1, x_o1, x_w0, x_w1⟩)).w0), .sl none (.ints .i64 ((F.p_go k 1 ⟨x_m0, x_t0, x_b0, x_o0, x_m1, x_t1, x_b1, x_o1, x_w0, x_w1⟩)).w1)]), [], [Any, Any]⟩
  | _, _ => none
set_option maxHeartbeats 4000000 in
set_option maxRecDepth 100000 in
theorem x_do1 (x_m0 : Int) (x_t0 : Bool) (x_b0 : Bool) (x_o0 : Int) (x_m1 : Int) (x_t1 : Bool) (x_b1 : Bool) (x_o1 : Int) (x_w0 : List Int) (x_w1 : List Int) (k : Int) (p : Int) (n : Int) (w : Int) (hC : Ps.std.p_may ⟨x_m0, x_t0, x_b0, x_o0, x_m1, x_t1, x_b1, x_o1, x_w0, x_w1⟩ = true) : Does [(35, c_rgrant Fs.std), (36, c_rrecant Fs.std), (37, c_rpart Fs.std), (38, c_rhear Fs.std)] Try.f40 [.agg [.val (.int .i64 x_m0), .val (.bool x_t0), .val (.bool x_b0), .val (.int .i64 x_o0), .val (.int .i64 x_m1), .val (.bool x_t1), .val (.bool x_b1), .val (.int .i64 x_o1), .sl none (.ints .i64 x_w0), .sl none (.ints .i64 x_w1)], .agg [.val (.int .i64 k), .num .i64 1, .val (.int .i64 p), .val (.int .i64 n), .val (.int .i64 w)]] [] ⟨Ps.std.p_may ⟨x_m0, x_t0, x_b0, x_o0, x_m1, x_t1, x_b1, x_o1, x_w0, x_w1⟩ = true, .sa (.agg [.val (.int .i64 ((Ps.std.p_go k 1 ⟨x_m0, x_t0, x_b0, x_o0, x_m1, x_t1, x_b1, x_o1, x_w0, x_w1⟩)).m0), .val (.bool ((Ps.std.p_go k 1 ⟨x_m0, x_t0, x_b0, x_o0, x_m1, x_t1, x_b1, x_o1, x_w0, x_w1⟩)).t0), .val (.bool ((Ps.std.p_go k 1 ⟨x_m0, x_t0, x_b0, x_o0, x_m1, x_t1, x_b1, x_o1, x_w0, x_w1⟩)).b0), .val (.int .i64 ((Ps.std.p_go k 1 ⟨x_m0, x_t0, x_b0, x_o0, x_m1, x_t1, x_b1, x_o1, x_w0, x_w1⟩)).o0), .val (.int .i64 ((Ps.std.p_go k 1 ⟨x_m0, x_t0, x_b0, x_o0, x_m1, x_t1, x_b1, x_o1, x_w0, x_w1⟩)).m1), .val (.bool ((Ps.std.p_go k 1 ⟨x_m0, x_t0, x_b0, x_o0, x_m1, x_t1, x_b1, x_o1, x_w0, x_w1⟩)).t1), .val (.bool ((Ps.std.p_go k 1 ⟨x_m0, x_t0, x_b0, x_o0, x_m1, x_t1, x_b1, x_o1, x_w0, x_w1⟩)).b1), .val (.int .i64 ((Ps.std.p_go k 1 ⟨x_m0, x_t0, x_b0, x_o0, x_m1, x_t1, x_b1, x_o1, x_w0, x_w1⟩)).o1), .sl none (.ints .i64 ((Ps.std.p_go k 1 ⟨x_m0, x_t0, x_b0, x_o0, x_m1, x_t1, x_b1, x_o1, x_w0, x_w1⟩)).w0), .sl none (.ints .i64 ((Ps.std.p_go k 1 ⟨x_m0, x_t0, x_b0, x_o0, x_m1, x_t1, x_b1, x_o1, x_w0, x_w1⟩)).w1)]), [], [Any, Any]⟩ := by
  intro b gv
  have hfs := (FsOk.cons ok_rgrant (FsOk.cons ok_rrecant (FsOk.cons ok_rpart (FsOk.cons ok_rhear FsOk.nil rfl) rfl) rfl) rfl)
  generalize hF : Ps.std = F at hC hfs ⊢
  generalize hG0 : Fs.std = G0 at hC hfs ⊢
  generalize hA : Ar.std = A
  generalize hL : Lp _ _ _ = L
  obtain ⟨Z, zq⟩ := z_all
  refine cd_open (lp_mono hL) zq rfl ?_
  repeat' (first
    | (refine z_open zq ?_; try dsimp only)
    | refine cd_seq zq ?_ (lp_mono hL)
    | refine cd_blk zq ?_
    | refine cd_ret ?_
    | refine cd_skip ?_
    | refine cd_exit ?_
    | refine cd_loop ?_
    | refine cd_cond rfl ?_
    | refine cd_condT rfl ?_
    | refine cd_condF rfl ?_
    | (refine Cd.mk ?_; cbv)
    | (refine Ends1.mk ?_; cbv)
    | (refine Fin1.mk ?_; cbv)
    | exact trivial
    | refine And.intro ?_ ?_
    | refine orf fun _ => ?_
    | refine ort fun _ => ?_)
  all_goals
    clear hL zq Z hfs
    subst hF hA hG0
    have e8 : Int.ofNat 8 = 8 := rfl
    have e1 : Int.toNat 1 = 1 := rfl
    have e0 : Int.toNat 0 = 0 := rfl
    have hh1 := heV_w x_m1 x_t1 x_b1 x_o1 (x_w0.getD 0 0)
    have hh0 := heV_w x_m0 x_t0 x_b0 x_o0 (x_w1.getD 0 0)
    have g1 := sV_w x_m1 x_t1 x_b1 x_o1
    have g0 := sV_w x_m0 x_t0 x_b0 x_o0
    simp only [Ps.std, Fs.std, Ar.std, List.nil_append, e8, e1, e0, Int.toNat_natCast, List.take_length] at *
    try (grind [stdCmp, b_add, b_sub, wr, goD, may2, hearD, doD, on, setA, putW])
theorem ok_do1 : ConOk Try.prog 40 (c_do1 Ps.std) := by
  refine con_of (FsOk.cons ok_rgrant (FsOk.cons ok_rrecant (FsOk.cons ok_rpart (FsOk.cons ok_rhear FsOk.nil rfl) rfl) rfl) rfl) Try.func40 rfl rfl fun xs h p hp => ?_
  unfold c_do1 at hp
  split at hp
  · cases hp
    exact ⟨lee_le rfl, fun hC _ => x_do1 _ _ _ _ _ _ _ _ _ _ _ _ _ _ hC⟩
  · cases hp

def c_do2 (F : Ps) : Con := fun xs h => match xs, h with
  | [.agg [.val (.int .i64 x_m0), .val (.bool x_t0), .val (.bool x_b0), .val (.int .i64 x_o0), .val (.int .i64 x_m1), .val (.bool x_t1), .val (.bool x_b1), .val (.int .i64 x_o1), .sl none (.ints .i64 x_w0), .sl none (.ints .i64 x_w1)], .agg [.val (.int .i64 k), .num .i64 2, .val (.int .i64 _), .val (.int .i64 _), .val (.int .i64 _)]], [] => some ⟨F.p_may ⟨x_m0, x_t0, x_b0, x_o0, x_m1, x_t1, x_b1, x_o1, x_w0, x_w1⟩ = true, .sa (.agg [.val (.int .i64 ((F.p_go k 2 ⟨x_m0, x_t0, x_b0, x_o0, x_m1, x_t1, x_b1, x_o1, x_w0, x_w1⟩)).m0), .val (.bool ((F.p_go k 2 ⟨x_m0, x_t0, x_b0, x_o0, x_m1, x_t1, x_b1, x_o1, x_w0, x_w1⟩)).t0), .val (.bool ((F.p_go k 2 ⟨x_m0, x_t0, x_b0, x_o0, x_m1, x_t1, x_b1, x_o1, x_w0, x_w1⟩)).b0), .val (.int .i64 ((F.p_go k 2 ⟨x_m0, x_t0, x_b0, x_o0, x_m1, x_t1, x_b1, x_o1, x_w0, x_w1⟩)).o0), .val (.int .i64 ((F.p_go k 2 ⟨x_m0, x_t0, x_b0, x_o0, x_m1, x_t1, x_b1, x_o1, x_w0, x_w1⟩)).m1), .val (.bool ((F.p_go k 2 ⟨x_m0, x_t0, x_b0, x_o0, x_m1, x_t1, x_b1, x_o1, x_w0, x_w1⟩)).t1), .val (.bool ((F.p_go k 2 ⟨x_m0, x_t0, x_b0, x_o0, x_m1, x_t1, x_b1, x_o1, x_w0, x_w1⟩)).b1), .val (.int .i64 ((F.p_go k 2 ⟨x_m0, x_t0, x_b0, x_o0, x_m1, x_t1, x_b1, x_o1, x_w0, x_w1⟩)).o1), .sl none (.ints .i64 ((F.p_go k 2 ⟨x_m0, x_t0, x_b0, x_o0, x_m1, x_t1, x_b1, x_o1, x_w0, x_w1⟩)).w0), .sl none (.ints .i64 ((F.p_go k 2 ⟨x_m0, x_t0, x_b0, x_o0, x_m1, x_t1, x_b1, x_o1, x_w0, x_w1⟩)).w1)]), [], [Any, Any]⟩
  | _, _ => none
set_option maxHeartbeats 4000000 in
set_option maxRecDepth 100000 in
theorem x_do2 (x_m0 : Int) (x_t0 : Bool) (x_b0 : Bool) (x_o0 : Int) (x_m1 : Int) (x_t1 : Bool) (x_b1 : Bool) (x_o1 : Int) (x_w0 : List Int) (x_w1 : List Int) (k : Int) (p : Int) (n : Int) (w : Int) (hC : Ps.std.p_may ⟨x_m0, x_t0, x_b0, x_o0, x_m1, x_t1, x_b1, x_o1, x_w0, x_w1⟩ = true) : Does [(35, c_rgrant Fs.std), (36, c_rrecant Fs.std), (37, c_rpart Fs.std), (38, c_rhear Fs.std)] Try.f40 [.agg [.val (.int .i64 x_m0), .val (.bool x_t0), .val (.bool x_b0), .val (.int .i64 x_o0), .val (.int .i64 x_m1), .val (.bool x_t1), .val (.bool x_b1), .val (.int .i64 x_o1), .sl none (.ints .i64 x_w0), .sl none (.ints .i64 x_w1)], .agg [.val (.int .i64 k), .num .i64 2, .val (.int .i64 p), .val (.int .i64 n), .val (.int .i64 w)]] [] ⟨Ps.std.p_may ⟨x_m0, x_t0, x_b0, x_o0, x_m1, x_t1, x_b1, x_o1, x_w0, x_w1⟩ = true, .sa (.agg [.val (.int .i64 ((Ps.std.p_go k 2 ⟨x_m0, x_t0, x_b0, x_o0, x_m1, x_t1, x_b1, x_o1, x_w0, x_w1⟩)).m0), .val (.bool ((Ps.std.p_go k 2 ⟨x_m0, x_t0, x_b0, x_o0, x_m1, x_t1, x_b1, x_o1, x_w0, x_w1⟩)).t0), .val (.bool ((Ps.std.p_go k 2 ⟨x_m0, x_t0, x_b0, x_o0, x_m1, x_t1, x_b1, x_o1, x_w0, x_w1⟩)).b0), .val (.int .i64 ((Ps.std.p_go k 2 ⟨x_m0, x_t0, x_b0, x_o0, x_m1, x_t1, x_b1, x_o1, x_w0, x_w1⟩)).o0), .val (.int .i64 ((Ps.std.p_go k 2 ⟨x_m0, x_t0, x_b0, x_o0, x_m1, x_t1, x_b1, x_o1, x_w0, x_w1⟩)).m1), .val (.bool ((Ps.std.p_go k 2 ⟨x_m0, x_t0, x_b0, x_o0, x_m1, x_t1, x_b1, x_o1, x_w0, x_w1⟩)).t1), .val (.bool ((Ps.std.p_go k 2 ⟨x_m0, x_t0, x_b0, x_o0, x_m1, x_t1, x_b1, x_o1, x_w0, x_w1⟩)).b1), .val (.int .i64 ((Ps.std.p_go k 2 ⟨x_m0, x_t0, x_b0, x_o0, x_m1, x_t1, x_b1, x_o1, x_w0, x_w1⟩)).o1), .sl none (.ints .i64 ((Ps.std.p_go k 2 ⟨x_m0, x_t0, x_b0, x_o0, x_m1, x_t1, x_b1, x_o1, x_w0, x_w1⟩)).w0), .sl none (.ints .i64 ((Ps.std.p_go k 2 ⟨x_m0, x_t0, x_b0, x_o0, x_m1, x_t1, x_b1, x_o1, x_w0, x_w1⟩)).w1)]), [], [Any, Any]⟩ := by
  intro b gv
  have hfs := (FsOk.cons ok_rgrant (FsOk.cons ok_rrecant (FsOk.cons ok_rpart (FsOk.cons ok_rhear FsOk.nil rfl) rfl) rfl) rfl)
  generalize hF : Ps.std = F at hC hfs ⊢
  generalize hG0 : Fs.std = G0 at hC hfs ⊢
  generalize hA : Ar.std = A
  generalize hL : Lp _ _ _ = L
  obtain ⟨Z, zq⟩ := z_all
  refine cd_open (lp_mono hL) zq rfl ?_
  repeat' (first
    | (refine z_open zq ?_; try dsimp only)
    | refine cd_seq zq ?_ (lp_mono hL)
    | refine cd_blk zq ?_
    | refine cd_ret ?_
    | refine cd_skip ?_
    | refine cd_exit ?_
    | refine cd_loop ?_
    | refine cd_cond rfl ?_
    | refine cd_condT rfl ?_
    | refine cd_condF rfl ?_
    | (refine Cd.mk ?_; cbv)
    | (refine Ends1.mk ?_; cbv)
    | (refine Fin1.mk ?_; cbv)
    | exact trivial
    | refine And.intro ?_ ?_
    | refine orf fun _ => ?_
    | refine ort fun _ => ?_)
  all_goals
    clear hL zq Z hfs
    subst hF hA hG0
    have e8 : Int.ofNat 8 = 8 := rfl
    have e1 : Int.toNat 1 = 1 := rfl
    have e0 : Int.toNat 0 = 0 := rfl
    have hh1 := heV_w x_m1 x_t1 x_b1 x_o1 (x_w0.getD 0 0)
    have hh0 := heV_w x_m0 x_t0 x_b0 x_o0 (x_w1.getD 0 0)
    have g1 := sV_w x_m1 x_t1 x_b1 x_o1
    have g0 := sV_w x_m0 x_t0 x_b0 x_o0
    simp only [Ps.std, Fs.std, Ar.std, List.nil_append, e8, e1, e0, Int.toNat_natCast, List.take_length] at *
    try (grind [stdCmp, b_add, b_sub, wr, goD, may2, hearD, doD, on, setA, putW])
theorem ok_do2 : ConOk Try.prog 40 (c_do2 Ps.std) := by
  refine con_of (FsOk.cons ok_rgrant (FsOk.cons ok_rrecant (FsOk.cons ok_rpart (FsOk.cons ok_rhear FsOk.nil rfl) rfl) rfl) rfl) Try.func40 rfl rfl fun xs h p hp => ?_
  unfold c_do2 at hp
  split at hp
  · cases hp
    exact ⟨lee_le rfl, fun hC _ => x_do2 _ _ _ _ _ _ _ _ _ _ _ _ _ _ hC⟩
  · cases hp

def c_do0 (F : Ps) : Con := fun xs h => match xs, h with
  | [.agg [.val (.int .i64 x_m0), .val (.bool x_t0), .val (.bool x_b0), .val (.int .i64 x_o0), .val (.int .i64 x_m1), .val (.bool x_t1), .val (.bool x_b1), .val (.int .i64 x_o1), .sl none (.ints .i64 x_w0), .sl none (.ints .i64 x_w1)], .agg [.val (.int .i64 k), .val (.int .i64 e), .val (.int .i64 _), .val (.int .i64 _), .val (.int .i64 _)]], [] => some ⟨F.p_may ⟨x_m0, x_t0, x_b0, x_o0, x_m1, x_t1, x_b1, x_o1, x_w0, x_w1⟩ = true ∧ ¬ e = 1 ∧ ¬ e = 2, .sa (.agg [.val (.int .i64 ((F.p_go k e ⟨x_m0, x_t0, x_b0, x_o0, x_m1, x_t1, x_b1, x_o1, x_w0, x_w1⟩)).m0), .val (.bool ((F.p_go k e ⟨x_m0, x_t0, x_b0, x_o0, x_m1, x_t1, x_b1, x_o1, x_w0, x_w1⟩)).t0), .val (.bool ((F.p_go k e ⟨x_m0, x_t0, x_b0, x_o0, x_m1, x_t1, x_b1, x_o1, x_w0, x_w1⟩)).b0), .val (.int .i64 ((F.p_go k e ⟨x_m0, x_t0, x_b0, x_o0, x_m1, x_t1, x_b1, x_o1, x_w0, x_w1⟩)).o0), .val (.int .i64 ((F.p_go k e ⟨x_m0, x_t0, x_b0, x_o0, x_m1, x_t1, x_b1, x_o1, x_w0, x_w1⟩)).m1), .val (.bool ((F.p_go k e ⟨x_m0, x_t0, x_b0, x_o0, x_m1, x_t1, x_b1, x_o1, x_w0, x_w1⟩)).t1), .val (.bool ((F.p_go k e ⟨x_m0, x_t0, x_b0, x_o0, x_m1, x_t1, x_b1, x_o1, x_w0, x_w1⟩)).b1), .val (.int .i64 ((F.p_go k e ⟨x_m0, x_t0, x_b0, x_o0, x_m1, x_t1, x_b1, x_o1, x_w0, x_w1⟩)).o1), .sl none (.ints .i64 ((F.p_go k e ⟨x_m0, x_t0, x_b0, x_o0, x_m1, x_t1, x_b1, x_o1, x_w0, x_w1⟩)).w0), .sl none (.ints .i64 ((F.p_go k e ⟨x_m0, x_t0, x_b0, x_o0, x_m1, x_t1, x_b1, x_o1, x_w0, x_w1⟩)).w1)]), [], [Any, Any]⟩
  | _, _ => none
set_option maxHeartbeats 4000000 in
set_option maxRecDepth 100000 in
theorem x_do0 (x_m0 : Int) (x_t0 : Bool) (x_b0 : Bool) (x_o0 : Int) (x_m1 : Int) (x_t1 : Bool) (x_b1 : Bool) (x_o1 : Int) (x_w0 : List Int) (x_w1 : List Int) (k : Int) (e : Int) (p : Int) (n : Int) (w : Int) (hC : Ps.std.p_may ⟨x_m0, x_t0, x_b0, x_o0, x_m1, x_t1, x_b1, x_o1, x_w0, x_w1⟩ = true ∧ ¬ e = 1 ∧ ¬ e = 2) : Does [(35, c_rgrant Fs.std), (36, c_rrecant Fs.std), (37, c_rpart Fs.std), (38, c_rhear Fs.std)] Try.f40 [.agg [.val (.int .i64 x_m0), .val (.bool x_t0), .val (.bool x_b0), .val (.int .i64 x_o0), .val (.int .i64 x_m1), .val (.bool x_t1), .val (.bool x_b1), .val (.int .i64 x_o1), .sl none (.ints .i64 x_w0), .sl none (.ints .i64 x_w1)], .agg [.val (.int .i64 k), .val (.int .i64 e), .val (.int .i64 p), .val (.int .i64 n), .val (.int .i64 w)]] [] ⟨Ps.std.p_may ⟨x_m0, x_t0, x_b0, x_o0, x_m1, x_t1, x_b1, x_o1, x_w0, x_w1⟩ = true ∧ ¬ e = 1 ∧ ¬ e = 2, .sa (.agg [.val (.int .i64 ((Ps.std.p_go k e ⟨x_m0, x_t0, x_b0, x_o0, x_m1, x_t1, x_b1, x_o1, x_w0, x_w1⟩)).m0), .val (.bool ((Ps.std.p_go k e ⟨x_m0, x_t0, x_b0, x_o0, x_m1, x_t1, x_b1, x_o1, x_w0, x_w1⟩)).t0), .val (.bool ((Ps.std.p_go k e ⟨x_m0, x_t0, x_b0, x_o0, x_m1, x_t1, x_b1, x_o1, x_w0, x_w1⟩)).b0), .val (.int .i64 ((Ps.std.p_go k e ⟨x_m0, x_t0, x_b0, x_o0, x_m1, x_t1, x_b1, x_o1, x_w0, x_w1⟩)).o0), .val (.int .i64 ((Ps.std.p_go k e ⟨x_m0, x_t0, x_b0, x_o0, x_m1, x_t1, x_b1, x_o1, x_w0, x_w1⟩)).m1), .val (.bool ((Ps.std.p_go k e ⟨x_m0, x_t0, x_b0, x_o0, x_m1, x_t1, x_b1, x_o1, x_w0, x_w1⟩)).t1), .val (.bool ((Ps.std.p_go k e ⟨x_m0, x_t0, x_b0, x_o0, x_m1, x_t1, x_b1, x_o1, x_w0, x_w1⟩)).b1), .val (.int .i64 ((Ps.std.p_go k e ⟨x_m0, x_t0, x_b0, x_o0, x_m1, x_t1, x_b1, x_o1, x_w0, x_w1⟩)).o1), .sl none (.ints .i64 ((Ps.std.p_go k e ⟨x_m0, x_t0, x_b0, x_o0, x_m1, x_t1, x_b1, x_o1, x_w0, x_w1⟩)).w0), .sl none (.ints .i64 ((Ps.std.p_go k e ⟨x_m0, x_t0, x_b0, x_o0, x_m1, x_t1, x_b1, x_o1, x_w0, x_w1⟩)).w1)]), [], [Any, Any]⟩ := by
  intro b gv
  have hfs := (FsOk.cons ok_rgrant (FsOk.cons ok_rrecant (FsOk.cons ok_rpart (FsOk.cons ok_rhear FsOk.nil rfl) rfl) rfl) rfl)
  generalize hF : Ps.std = F at hC hfs ⊢
  generalize hG0 : Fs.std = G0 at hC hfs ⊢
  generalize hA : Ar.std = A
  generalize hL : Lp _ _ _ = L
  obtain ⟨Z, zq⟩ := z_all
  refine cd_open (lp_mono hL) zq rfl ?_
  repeat' (first
    | (refine z_open zq ?_; try dsimp only)
    | refine cd_seq zq ?_ (lp_mono hL)
    | refine cd_blk zq ?_
    | refine cd_ret ?_
    | refine cd_skip ?_
    | refine cd_exit ?_
    | refine cd_loop ?_
    | refine cd_cond rfl ?_
    | refine cd_condT rfl ?_
    | refine cd_condF rfl ?_
    | (refine Cd.mk ?_; cbv)
    | (refine Ends1.mk ?_; cbv)
    | (refine Fin1.mk ?_; cbv)
    | exact trivial
    | refine And.intro ?_ ?_
    | refine orf fun _ => ?_
    | refine ort fun _ => ?_)
  all_goals first | (show Cd _ _ _ _ _ _; exfalso; clear hL zq Z hfs; subst hF hA hG0; simp only [Ar.std] at *; grind [stdCmp]) | skip
  all_goals
    clear hL zq Z hfs
    subst hF hA hG0
    have e8 : Int.ofNat 8 = 8 := rfl
    have e1 : Int.toNat 1 = 1 := rfl
    have e0 : Int.toNat 0 = 0 := rfl
    have hh1 := heV_w x_m1 x_t1 x_b1 x_o1 (x_w0.getD 0 0)
    have hh0 := heV_w x_m0 x_t0 x_b0 x_o0 (x_w1.getD 0 0)
    have g1 := sV_w x_m1 x_t1 x_b1 x_o1
    have g0 := sV_w x_m0 x_t0 x_b0 x_o0
    simp only [Ps.std, Fs.std, Ar.std, List.nil_append, e8, e1, e0, Int.toNat_natCast, List.take_length] at *
    try (grind [stdCmp, b_add, b_sub, wr, goD, may2, hearD, doD, on, setA, putW])
theorem ok_do0 : ConOk Try.prog 40 (c_do0 Ps.std) := by
  refine con_of (FsOk.cons ok_rgrant (FsOk.cons ok_rrecant (FsOk.cons ok_rpart (FsOk.cons ok_rhear FsOk.nil rfl) rfl) rfl) rfl) Try.func40 rfl rfl fun xs h p hp => ?_
  unfold c_do0 at hp
  split at hp
  · cases hp
    exact ⟨lee_le rfl, fun hC _ => x_do0 _ _ _ _ _ _ _ _ _ _ _ _ _ _ _ hC⟩
  · cases hp

def c_do (F : Ps) : Con := fun xs h => match xs, h with
  | [.agg [.val (.int .i64 x_m0), .val (.bool x_t0), .val (.bool x_b0), .val (.int .i64 x_o0), .val (.int .i64 x_m1), .val (.bool x_t1), .val (.bool x_b1), .val (.int .i64 x_o1), .sl none (.ints .i64 x_w0), .sl none (.ints .i64 x_w1)], .agg [.val (.int .i64 k), .val (.int .i64 e), .val (.int .i64 _), .val (.int .i64 _), .val (.int .i64 _)]], [] => some ⟨F.p_may ⟨x_m0, x_t0, x_b0, x_o0, x_m1, x_t1, x_b1, x_o1, x_w0, x_w1⟩ = true, .sa (.agg [.val (.int .i64 ((F.p_go k e ⟨x_m0, x_t0, x_b0, x_o0, x_m1, x_t1, x_b1, x_o1, x_w0, x_w1⟩)).m0), .val (.bool ((F.p_go k e ⟨x_m0, x_t0, x_b0, x_o0, x_m1, x_t1, x_b1, x_o1, x_w0, x_w1⟩)).t0), .val (.bool ((F.p_go k e ⟨x_m0, x_t0, x_b0, x_o0, x_m1, x_t1, x_b1, x_o1, x_w0, x_w1⟩)).b0), .val (.int .i64 ((F.p_go k e ⟨x_m0, x_t0, x_b0, x_o0, x_m1, x_t1, x_b1, x_o1, x_w0, x_w1⟩)).o0), .val (.int .i64 ((F.p_go k e ⟨x_m0, x_t0, x_b0, x_o0, x_m1, x_t1, x_b1, x_o1, x_w0, x_w1⟩)).m1), .val (.bool ((F.p_go k e ⟨x_m0, x_t0, x_b0, x_o0, x_m1, x_t1, x_b1, x_o1, x_w0, x_w1⟩)).t1), .val (.bool ((F.p_go k e ⟨x_m0, x_t0, x_b0, x_o0, x_m1, x_t1, x_b1, x_o1, x_w0, x_w1⟩)).b1), .val (.int .i64 ((F.p_go k e ⟨x_m0, x_t0, x_b0, x_o0, x_m1, x_t1, x_b1, x_o1, x_w0, x_w1⟩)).o1), .sl none (.ints .i64 ((F.p_go k e ⟨x_m0, x_t0, x_b0, x_o0, x_m1, x_t1, x_b1, x_o1, x_w0, x_w1⟩)).w0), .sl none (.ints .i64 ((F.p_go k e ⟨x_m0, x_t0, x_b0, x_o0, x_m1, x_t1, x_b1, x_o1, x_w0, x_w1⟩)).w1)]), [], [Any, Any]⟩
  | _, _ => none
theorem ok_do : ConOk Try.prog 40 (c_do Ps.std) := by
  refine ⟨ok_do1.1, fun args h q hc hC G vs h1 h2 h3 hv => ?_⟩
  unfold c_do at hc
  split at hc
  · rename_i x_m0 x_t0 x_b0 x_o0 x_m1 x_t1 x_b1 x_o1 x_w0 x_w1 k e p n w
    cases hc
    by_cases he1 : e = 1
    · subst he1
      have hv' : sasIs G [.agg [.val (.int .i64 x_m0), .val (.bool x_t0), .val (.bool x_b0), .val (.int .i64 x_o0), .val (.int .i64 x_m1), .val (.bool x_t1), .val (.bool x_b1), .val (.int .i64 x_o1), .sl none (.ints .i64 x_w0), .sl none (.ints .i64 x_w1)], .agg [.val (.int .i64 k), .num .i64 1, .val (.int .i64 p), .val (.int .i64 n), .val (.int .i64 w)]] vs := by
        match vs, hv with
        | [_, _], ⟨g1, ⟨us, g2, g3⟩, g4⟩ =>
          match us, g3 with
          | [_, _, _, _, _], g3 => exact ⟨g1, ⟨_, g2, g3⟩, g4⟩
      exact ok_do1.2 [.agg [.val (.int .i64 x_m0), .val (.bool x_t0), .val (.bool x_b0), .val (.int .i64 x_o0), .val (.int .i64 x_m1), .val (.bool x_t1), .val (.bool x_b1), .val (.int .i64 x_o1), .sl none (.ints .i64 x_w0), .sl none (.ints .i64 x_w1)], .agg [.val (.int .i64 k), .num .i64 1, .val (.int .i64 p), .val (.int .i64 n), .val (.int .i64 w)]] _ _ rfl hC G vs h1 h2 h3 hv'
    · by_cases he2 : e = 2
      · subst he2
        have hv' : sasIs G [.agg [.val (.int .i64 x_m0), .val (.bool x_t0), .val (.bool x_b0), .val (.int .i64 x_o0), .val (.int .i64 x_m1), .val (.bool x_t1), .val (.bool x_b1), .val (.int .i64 x_o1), .sl none (.ints .i64 x_w0), .sl none (.ints .i64 x_w1)], .agg [.val (.int .i64 k), .num .i64 2, .val (.int .i64 p), .val (.int .i64 n), .val (.int .i64 w)]] vs := by
          match vs, hv with
          | [_, _], ⟨g1, ⟨us, g2, g3⟩, g4⟩ =>
            match us, g3 with
            | [_, _, _, _, _], g3 => exact ⟨g1, ⟨_, g2, g3⟩, g4⟩
        exact ok_do2.2 [.agg [.val (.int .i64 x_m0), .val (.bool x_t0), .val (.bool x_b0), .val (.int .i64 x_o0), .val (.int .i64 x_m1), .val (.bool x_t1), .val (.bool x_b1), .val (.int .i64 x_o1), .sl none (.ints .i64 x_w0), .sl none (.ints .i64 x_w1)], .agg [.val (.int .i64 k), .num .i64 2, .val (.int .i64 p), .val (.int .i64 n), .val (.int .i64 w)]] _ _ rfl hC G vs h1 h2 h3 hv'
      · have := ok_do0.2 [.agg [.val (.int .i64 x_m0), .val (.bool x_t0), .val (.bool x_b0), .val (.int .i64 x_o0), .val (.int .i64 x_m1), .val (.bool x_t1), .val (.bool x_b1), .val (.int .i64 x_o1), .sl none (.ints .i64 x_w0), .sl none (.ints .i64 x_w1)], .agg [.val (.int .i64 k), .val (.int .i64 e), .val (.int .i64 p), .val (.int .i64 n), .val (.int .i64 w)]] [] _ rfl ⟨hC, he1, he2⟩ G vs h1 h2 h3 hv
        exact this
  · cases hc
end Go.Proofs.Ytgfficaonampbaa.VoP
