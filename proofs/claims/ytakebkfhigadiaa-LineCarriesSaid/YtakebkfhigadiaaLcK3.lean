/-
  what an act of one kind does with two lines. No condition but what is asked.
-/
import Derived.Test.YtakebkfhigadiaaLcA
namespace Go.Proofs.Ytakebkfhigadiaa.LcK3
open Go Go.Proofs.Ytakebkfhigadiaa.Ry Go.Proofs.Ytakebkfhigadiaa.HaR Go.Proofs.Ytakebkfhigadiaa.LiR Go.Proofs.Ytakebkfhigadiaa.LcT Go.Proofs.Ytakebkfhigadiaa.LcP Go.Proofs.Ytakebkfhigadiaa.LcR Go.Proofs.Ytakebkfhigadiaa.LcA

set_option maxHeartbeats 4000000
set_option maxRecDepth 100000

set_option cbv.maxSteps 4000000 in
set_option maxHeartbeats 4000000 in
set_option maxRecDepth 100000 in
theorem xk_act0_3 (all : List E) (o_k : Int) (o_a : Int) (o_b : Int) (o_n : Int) (o_w : Int) (a_l : Int) (a_c : Int) (a_p : Int) (a_o : Bool) (a_b : Int) (a_s : Int) (a_q : List E) (a_t : Int) (a_n : Int) (a_w : Bool) (d_l : Int) (d_c : Int) (d_p : Int) (d_o : Bool) (d_b : Int) (d_s : Int) (d_q : List E) (d_t : Int) (d_n : Int) (d_w : Bool) (u : List E) (v : List E) (m : List (Int × Int)) (k : List (Int × Int)) (bd : Bool) (hC : La.std.y_ok0 o_a bd all ⟨⟨a_l, a_c, a_p, a_o, a_b, a_s, a_q, a_t, a_n, a_w⟩, ⟨d_l, d_c, d_p, d_o, d_b, d_s, d_q, d_t, d_n, d_w⟩, u, v, m, k⟩) (hk9 : o_k = 3) : Does [(29, c_ltick LiR.Ks.std), (31, c_flush LiR.Ks.std), (32, c_lclose LiR.Ks.std), (33, c_lpush LiR.Ks.std), (28, c_lhear LiR.Ks.std), (34, c_at La.std), (30, dnil [[none], [none], [some (.recs (.int .i64 (.int .i64 (.int .i64 (.int .i64 (.ints .u8 .nil))))) []), some (.recs (.ints .u8 .nil) []), none, none], [none], [some (.recs (.ints .u8 .nil) [])]] (c_mnews Lm.std))] Try.f15 [.one (.ptr 0 0), .agg [.val (.int .i64 o_k), .val (.int .i64 o_a), .val (.int .i64 o_b), .val (.int .i64 o_n), .val (.int .i64 o_w)], .one (.sl none (.recs (.ints .u8 .nil) all))] [(0, .cells 55 [.val (.int .i64 a_l), .val (.int .i64 a_c), .val (.int .i64 a_p), .val (.bool a_o), .val (.int .i64 a_b), .val (.int .i64 a_s), .sl none (.recs (.ints .u8 .nil) a_q), .val (.int .i64 a_t), .val (.int .i64 a_n), .val (.bool a_w), .val (.int .i64 d_l), .val (.int .i64 d_c), .val (.int .i64 d_p), .val (.bool d_o), .val (.int .i64 d_b), .val (.int .i64 d_s), .sl none (.recs (.ints .u8 .nil) d_q), .val (.int .i64 d_t), .val (.int .i64 d_n), .val (.bool d_w), .sl (some (1, 84)) (.recs (.int .i64 (.int .i64 (.int .i64 (.int .i64 (.ints .u8 .nil))))) u), .sl (some (2, 84)) (.recs (.int .i64 (.int .i64 (.int .i64 (.int .i64 (.ints .u8 .nil))))) v), .mp 3, .mp 4, .val (.bool bd)]), (1, .tok), (2, .tok), (3, .mp m), (4, .mp k)] ⟨La.std.y_ok0 o_a bd all ⟨⟨a_l, a_c, a_p, a_o, a_b, a_s, a_q, a_t, a_n, a_w⟩, ⟨d_l, d_c, d_p, d_o, d_b, d_s, d_q, d_t, d_n, d_w⟩, u, v, m, k⟩, .tup [], [(0, .cells 55 [.val (.int .i64 ((La.std.y_a0 all o_k o_n ⟨⟨a_l, a_c, a_p, a_o, a_b, a_s, a_q, a_t, a_n, a_w⟩, ⟨d_l, d_c, d_p, d_o, d_b, d_s, d_q, d_t, d_n, d_w⟩, u, v, m, k⟩)).a.l), .val (.int .i64 ((La.std.y_a0 all o_k o_n ⟨⟨a_l, a_c, a_p, a_o, a_b, a_s, a_q, a_t, a_n, a_w⟩, ⟨d_l, d_c, d_p, d_o, d_b, d_s, d_q, d_t, d_n, d_w⟩, u, v, m, k⟩)).a.c), .val (.int .i64 ((La.std.y_a0 all o_k o_n ⟨⟨a_l, a_c, a_p, a_o, a_b, a_s, a_q, a_t, a_n, a_w⟩, ⟨d_l, d_c, d_p, d_o, d_b, d_s, d_q, d_t, d_n, d_w⟩, u, v, m, k⟩)).a.p), .val (.bool ((La.std.y_a0 all o_k o_n ⟨⟨a_l, a_c, a_p, a_o, a_b, a_s, a_q, a_t, a_n, a_w⟩, ⟨d_l, d_c, d_p, d_o, d_b, d_s, d_q, d_t, d_n, d_w⟩, u, v, m, k⟩)).a.o), .val (.int .i64 ((La.std.y_a0 all o_k o_n ⟨⟨a_l, a_c, a_p, a_o, a_b, a_s, a_q, a_t, a_n, a_w⟩, ⟨d_l, d_c, d_p, d_o, d_b, d_s, d_q, d_t, d_n, d_w⟩, u, v, m, k⟩)).a.b), .val (.int .i64 ((La.std.y_a0 all o_k o_n ⟨⟨a_l, a_c, a_p, a_o, a_b, a_s, a_q, a_t, a_n, a_w⟩, ⟨d_l, d_c, d_p, d_o, d_b, d_s, d_q, d_t, d_n, d_w⟩, u, v, m, k⟩)).a.s), .sl none (.recs (.ints .u8 .nil) ((La.std.y_a0 all o_k o_n ⟨⟨a_l, a_c, a_p, a_o, a_b, a_s, a_q, a_t, a_n, a_w⟩, ⟨d_l, d_c, d_p, d_o, d_b, d_s, d_q, d_t, d_n, d_w⟩, u, v, m, k⟩)).a.q), .val (.int .i64 ((La.std.y_a0 all o_k o_n ⟨⟨a_l, a_c, a_p, a_o, a_b, a_s, a_q, a_t, a_n, a_w⟩, ⟨d_l, d_c, d_p, d_o, d_b, d_s, d_q, d_t, d_n, d_w⟩, u, v, m, k⟩)).a.t), .val (.int .i64 ((La.std.y_a0 all o_k o_n ⟨⟨a_l, a_c, a_p, a_o, a_b, a_s, a_q, a_t, a_n, a_w⟩, ⟨d_l, d_c, d_p, d_o, d_b, d_s, d_q, d_t, d_n, d_w⟩, u, v, m, k⟩)).a.n), .val (.bool ((La.std.y_a0 all o_k o_n ⟨⟨a_l, a_c, a_p, a_o, a_b, a_s, a_q, a_t, a_n, a_w⟩, ⟨d_l, d_c, d_p, d_o, d_b, d_s, d_q, d_t, d_n, d_w⟩, u, v, m, k⟩)).a.w), .val (.int .i64 ((La.std.y_a0 all o_k o_n ⟨⟨a_l, a_c, a_p, a_o, a_b, a_s, a_q, a_t, a_n, a_w⟩, ⟨d_l, d_c, d_p, d_o, d_b, d_s, d_q, d_t, d_n, d_w⟩, u, v, m, k⟩)).d.l), .val (.int .i64 ((La.std.y_a0 all o_k o_n ⟨⟨a_l, a_c, a_p, a_o, a_b, a_s, a_q, a_t, a_n, a_w⟩, ⟨d_l, d_c, d_p, d_o, d_b, d_s, d_q, d_t, d_n, d_w⟩, u, v, m, k⟩)).d.c), .val (.int .i64 ((La.std.y_a0 all o_k o_n ⟨⟨a_l, a_c, a_p, a_o, a_b, a_s, a_q, a_t, a_n, a_w⟩, ⟨d_l, d_c, d_p, d_o, d_b, d_s, d_q, d_t, d_n, d_w⟩, u, v, m, k⟩)).d.p), .val (.bool ((La.std.y_a0 all o_k o_n ⟨⟨a_l, a_c, a_p, a_o, a_b, a_s, a_q, a_t, a_n, a_w⟩, ⟨d_l, d_c, d_p, d_o, d_b, d_s, d_q, d_t, d_n, d_w⟩, u, v, m, k⟩)).d.o), .val (.int .i64 ((La.std.y_a0 all o_k o_n ⟨⟨a_l, a_c, a_p, a_o, a_b, a_s, a_q, a_t, a_n, a_w⟩, ⟨d_l, d_c, d_p, d_o, d_b, d_s, d_q, d_t, d_n, d_w⟩, u, v, m, k⟩)).d.b), .val (.int .i64 ((La.std.y_a0 all o_k o_n ⟨⟨a_l, a_c, a_p, a_o, a_b, a_s, a_q, a_t, a_n, a_w⟩, ⟨d_l, d_c, d_p, d_o, d_b, d_s, d_q, d_t, d_n, d_w⟩, u, v, m, k⟩)).d.s), .sl none (.recs (.ints .u8 .nil) ((La.std.y_a0 all o_k o_n ⟨⟨a_l, a_c, a_p, a_o, a_b, a_s, a_q, a_t, a_n, a_w⟩, ⟨d_l, d_c, d_p, d_o, d_b, d_s, d_q, d_t, d_n, d_w⟩, u, v, m, k⟩)).d.q), .val (.int .i64 ((La.std.y_a0 all o_k o_n ⟨⟨a_l, a_c, a_p, a_o, a_b, a_s, a_q, a_t, a_n, a_w⟩, ⟨d_l, d_c, d_p, d_o, d_b, d_s, d_q, d_t, d_n, d_w⟩, u, v, m, k⟩)).d.t), .val (.int .i64 ((La.std.y_a0 all o_k o_n ⟨⟨a_l, a_c, a_p, a_o, a_b, a_s, a_q, a_t, a_n, a_w⟩, ⟨d_l, d_c, d_p, d_o, d_b, d_s, d_q, d_t, d_n, d_w⟩, u, v, m, k⟩)).d.n), .val (.bool ((La.std.y_a0 all o_k o_n ⟨⟨a_l, a_c, a_p, a_o, a_b, a_s, a_q, a_t, a_n, a_w⟩, ⟨d_l, d_c, d_p, d_o, d_b, d_s, d_q, d_t, d_n, d_w⟩, u, v, m, k⟩)).d.w), .sl (some (1, 84)) (.recs (.int .i64 (.int .i64 (.int .i64 (.int .i64 (.ints .u8 .nil))))) (La.std.y_a0 all o_k o_n ⟨⟨a_l, a_c, a_p, a_o, a_b, a_s, a_q, a_t, a_n, a_w⟩, ⟨d_l, d_c, d_p, d_o, d_b, d_s, d_q, d_t, d_n, d_w⟩, u, v, m, k⟩).u), .sl (some (2, 84)) (.recs (.int .i64 (.int .i64 (.int .i64 (.int .i64 (.ints .u8 .nil))))) (La.std.y_a0 all o_k o_n ⟨⟨a_l, a_c, a_p, a_o, a_b, a_s, a_q, a_t, a_n, a_w⟩, ⟨d_l, d_c, d_p, d_o, d_b, d_s, d_q, d_t, d_n, d_w⟩, u, v, m, k⟩).v), .mp 3, .mp 4, .val (.bool false)]), (1, .tok), (2, .tok), (3, .mp (La.std.y_a0 all o_k o_n ⟨⟨a_l, a_c, a_p, a_o, a_b, a_s, a_q, a_t, a_n, a_w⟩, ⟨d_l, d_c, d_p, d_o, d_b, d_s, d_q, d_t, d_n, d_w⟩, u, v, m, k⟩).m), (4, .mp (La.std.y_a0 all o_k o_n ⟨⟨a_l, a_c, a_p, a_o, a_b, a_s, a_q, a_t, a_n, a_w⟩, ⟨d_l, d_c, d_p, d_o, d_b, d_s, d_q, d_t, d_n, d_w⟩, u, v, m, k⟩).k)], [.one (.ptr 0 0), Any, Any]⟩ := by
  intro b gv
  obtain ⟨hix, hbd, hPI, hAl, ⟨hu3, hv3⟩, hm3, hk3⟩ := (show ok0 o_a bd all ⟨⟨a_l, a_c, a_p, a_o, a_b, a_s, a_q, a_t, a_n, a_w⟩, ⟨d_l, d_c, d_p, d_o, d_b, d_s, d_q, d_t, d_n, d_w⟩, u, v, m, k⟩ from hC)
  subst hbd
  dsimp only at hu3 hv3 hm3 hk3
  have hA60 : all.length ≤ 60 := hPI.2.2.2.1.1
  have hNo := fun h1 h9 h8 h => a0_non (all := all) (kd := o_k) (n := modI o_n u.length) (st := ⟨⟨a_l, a_c, a_p, a_o, a_b, a_s, a_q, a_t, a_n, a_w⟩, ⟨d_l, d_c, d_p, d_o, d_b, d_s, d_q, d_t, d_n, d_w⟩, u, v, m, k⟩) h1 h9 h8 h
  have hA1 := fun h => (at_is o_n u hu3 h).1
  have hA2 := fun h => (at_is o_n u hu3 h).2.1
  have hA3 := fun h => (at_is o_n u hu3 h).2.2.1
  have hA4 := fun h => (at_is o_n u hu3 h).2.2.2
  have hRs := rs_is u (modI o_n u.length)
  have hRl := fun h => rs_len u (k := modI o_n u.length) h
  have hW1 := fun h1 => a0_way (all := all) (kd := 3) (n := modI o_n u.length) (st := ⟨⟨a_l, a_c, a_p, a_o, a_b, a_s, a_q, a_t, a_n, a_w⟩, ⟨d_l, d_c, d_p, d_o, d_b, d_s, d_q, d_t, d_n, d_w⟩, u, v, m, k⟩) h1 (.inl rfl)
  have hW2 := wy_3 u (modI o_n u.length)
  dsimp only at hNo hW1
  have hfs := (FsOk.cons ok_ltick (FsOk.cons ok_flush (FsOk.cons ok_lclose (FsOk.cons ok_lpush (FsOk.cons ok_lhear (FsOk.cons ok_at (FsOk.cons (dnil_ok [[none], [none], [some (.recs (.int .i64 (.int .i64 (.int .i64 (.int .i64 (.ints .u8 .nil))))) []), some (.recs (.ints .u8 .nil) []), none, none], [none], [some (.recs (.ints .u8 .nil) [])]] ok_mnews) FsOk.nil rfl) rfl) rfl) rfl) rfl) rfl) rfl)
  generalize hF : La.std = F at hC hfs ⊢
  generalize hG0 : LiR.Ks.std = G0 at hC hfs ⊢
  generalize hG1 : Lm.std = G1 at hC hfs ⊢
  generalize hA : Ar.std = A
  generalize hL : Lp _ _ _ = L
  obtain ⟨Z, zq⟩ := z_all
  refine @cd_open _ _ _ _ _ _ _ (lp_mono hL) _ _ zq rfl ?_
  repeat' (first
    | (refine z_open zq ?_; try dsimp only)
    | refine cd_seq zq ?_ (lp_mono hL)
    | refine cd_blk zq ?_
    | refine cd_ret ?_
    | refine cd_skip ?_
    | refine cd_exit ?_
    | refine cd_loop ?_
    | refine cd_cond rfl ?_
    | refine cd_condT rfl ?_
    | refine cd_condF rfl ?_
    | (refine @Cd.mk _ _ _ (.region 0 _ _) _ _ ?_; cbv)
    | (refine @Cd.mk _ _ _ (.region 1 _ _) _ _ ?_; cbv)
    | (refine @Cd.mk _ _ _ (.region 2 _ _) _ _ ?_; cbv)
    | (refine @Cd.mk _ _ _ (.region 3 _ _) _ _ ?_; cbv)
    | (refine @Cd.mk _ _ _ (.region 4 _ _) _ _ ?_; cbv)
    | (refine @Cd.mk _ _ _ (.region 5 _ _) _ _ ?_; cbv)
    | exact trivial
    | refine And.intro ?_ ?_
    | refine orf fun _ => ?_
    | refine ort fun _ => ?_)
  all_goals try (
    rename_i hx
    have hi : A.bin .rem .i64 (A.bin .sub .i64 o_a 1) 2 = 0 := by
      subst hA
      have hx : ¬ ixA o_a < 0 := by simpa [Ar.std, stdCmp, ixA] using hx
      show ixA o_a = 0
      omega
    simp only [hi])
  repeat' (first
    | (refine z_open zq ?_; try dsimp only)
    | refine cd_seq zq ?_ (lp_mono hL)
    | refine cd_blk zq ?_
    | refine cd_ret ?_
    | refine cd_skip ?_
    | refine cd_exit ?_
    | refine cd_loop ?_
    | refine cd_cond rfl ?_
    | refine cd_condT rfl ?_
    | refine cd_condF rfl ?_
    | (refine Cd.mk ?_; cbv)
    | (refine Ends1.mk ?_; cbv)
    | (refine Fin1.mk ?_; cbv)
    | exact trivial
    | refine And.intro ?_ ?_
    | (refine orf fun h9 => ?_; (try (exfalso; subst hA; simp [Ar.std, stdCmp, hk9] at h9; done)))
    | (refine ort fun h9 => ?_; (try (exfalso; subst hA; simp [Ar.std, stdCmp, hk9] at h9; done))))
  all_goals
    clear hL hfs zq Z hPI hAl hC
    subst hA hF hG0 hG1 hk9
  all_goals simp only [La.std, Ar.std, List.nil_append] at *
  all_goals first
    | (grind [stdCmp]; done)
    | (exfalso; grind [stdCmp]; done)

set_option cbv.maxSteps 4000000 in
set_option maxHeartbeats 4000000 in
set_option maxRecDepth 100000 in
theorem xk_act1_3 (all : List E) (o_k : Int) (o_a : Int) (o_b : Int) (o_n : Int) (o_w : Int) (a_l : Int) (a_c : Int) (a_p : Int) (a_o : Bool) (a_b : Int) (a_s : Int) (a_q : List E) (a_t : Int) (a_n : Int) (a_w : Bool) (d_l : Int) (d_c : Int) (d_p : Int) (d_o : Bool) (d_b : Int) (d_s : Int) (d_q : List E) (d_t : Int) (d_n : Int) (d_w : Bool) (u : List E) (v : List E) (m : List (Int × Int)) (k : List (Int × Int)) (bd : Bool) (hC : La.std.y_ok1 o_a bd all ⟨⟨a_l, a_c, a_p, a_o, a_b, a_s, a_q, a_t, a_n, a_w⟩, ⟨d_l, d_c, d_p, d_o, d_b, d_s, d_q, d_t, d_n, d_w⟩, u, v, m, k⟩) (hk9 : o_k = 3) : Does [(29, c_ltick LiR.Ks.std), (31, c_flush LiR.Ks.std), (32, c_lclose LiR.Ks.std), (33, c_lpush LiR.Ks.std), (28, c_lhear LiR.Ks.std), (34, c_at La.std), (30, dnil [[none], [none], [some (.recs (.int .i64 (.int .i64 (.int .i64 (.int .i64 (.ints .u8 .nil))))) []), some (.recs (.ints .u8 .nil) []), none, none], [none], [some (.recs (.ints .u8 .nil) [])]] (c_mnews Lm.std))] Try.f15 [.one (.ptr 0 0), .agg [.val (.int .i64 o_k), .val (.int .i64 o_a), .val (.int .i64 o_b), .val (.int .i64 o_n), .val (.int .i64 o_w)], .one (.sl none (.recs (.ints .u8 .nil) all))] [(0, .cells 55 [.val (.int .i64 a_l), .val (.int .i64 a_c), .val (.int .i64 a_p), .val (.bool a_o), .val (.int .i64 a_b), .val (.int .i64 a_s), .sl none (.recs (.ints .u8 .nil) a_q), .val (.int .i64 a_t), .val (.int .i64 a_n), .val (.bool a_w), .val (.int .i64 d_l), .val (.int .i64 d_c), .val (.int .i64 d_p), .val (.bool d_o), .val (.int .i64 d_b), .val (.int .i64 d_s), .sl none (.recs (.ints .u8 .nil) d_q), .val (.int .i64 d_t), .val (.int .i64 d_n), .val (.bool d_w), .sl (some (1, 84)) (.recs (.int .i64 (.int .i64 (.int .i64 (.int .i64 (.ints .u8 .nil))))) u), .sl (some (2, 84)) (.recs (.int .i64 (.int .i64 (.int .i64 (.int .i64 (.ints .u8 .nil))))) v), .mp 3, .mp 4, .val (.bool bd)]), (1, .tok), (2, .tok), (3, .mp m), (4, .mp k)] ⟨La.std.y_ok1 o_a bd all ⟨⟨a_l, a_c, a_p, a_o, a_b, a_s, a_q, a_t, a_n, a_w⟩, ⟨d_l, d_c, d_p, d_o, d_b, d_s, d_q, d_t, d_n, d_w⟩, u, v, m, k⟩, .tup [], [(0, .cells 55 [.val (.int .i64 ((La.std.y_a1 all o_k o_n ⟨⟨a_l, a_c, a_p, a_o, a_b, a_s, a_q, a_t, a_n, a_w⟩, ⟨d_l, d_c, d_p, d_o, d_b, d_s, d_q, d_t, d_n, d_w⟩, u, v, m, k⟩)).a.l), .val (.int .i64 ((La.std.y_a1 all o_k o_n ⟨⟨a_l, a_c, a_p, a_o, a_b, a_s, a_q, a_t, a_n, a_w⟩, ⟨d_l, d_c, d_p, d_o, d_b, d_s, d_q, d_t, d_n, d_w⟩, u, v, m, k⟩)).a.c), .val (.int .i64 ((La.std.y_a1 all o_k o_n ⟨⟨a_l, a_c, a_p, a_o, a_b, a_s, a_q, a_t, a_n, a_w⟩, ⟨d_l, d_c, d_p, d_o, d_b, d_s, d_q, d_t, d_n, d_w⟩, u, v, m, k⟩)).a.p), .val (.bool ((La.std.y_a1 all o_k o_n ⟨⟨a_l, a_c, a_p, a_o, a_b, a_s, a_q, a_t, a_n, a_w⟩, ⟨d_l, d_c, d_p, d_o, d_b, d_s, d_q, d_t, d_n, d_w⟩, u, v, m, k⟩)).a.o), .val (.int .i64 ((La.std.y_a1 all o_k o_n ⟨⟨a_l, a_c, a_p, a_o, a_b, a_s, a_q, a_t, a_n, a_w⟩, ⟨d_l, d_c, d_p, d_o, d_b, d_s, d_q, d_t, d_n, d_w⟩, u, v, m, k⟩)).a.b), .val (.int .i64 ((La.std.y_a1 all o_k o_n ⟨⟨a_l, a_c, a_p, a_o, a_b, a_s, a_q, a_t, a_n, a_w⟩, ⟨d_l, d_c, d_p, d_o, d_b, d_s, d_q, d_t, d_n, d_w⟩, u, v, m, k⟩)).a.s), .sl none (.recs (.ints .u8 .nil) ((La.std.y_a1 all o_k o_n ⟨⟨a_l, a_c, a_p, a_o, a_b, a_s, a_q, a_t, a_n, a_w⟩, ⟨d_l, d_c, d_p, d_o, d_b, d_s, d_q, d_t, d_n, d_w⟩, u, v, m, k⟩)).a.q), .val (.int .i64 ((La.std.y_a1 all o_k o_n ⟨⟨a_l, a_c, a_p, a_o, a_b, a_s, a_q, a_t, a_n, a_w⟩, ⟨d_l, d_c, d_p, d_o, d_b, d_s, d_q, d_t, d_n, d_w⟩, u, v, m, k⟩)).a.t), .val (.int .i64 ((La.std.y_a1 all o_k o_n ⟨⟨a_l, a_c, a_p, a_o, a_b, a_s, a_q, a_t, a_n, a_w⟩, ⟨d_l, d_c, d_p, d_o, d_b, d_s, d_q, d_t, d_n, d_w⟩, u, v, m, k⟩)).a.n), .val (.bool ((La.std.y_a1 all o_k o_n ⟨⟨a_l, a_c, a_p, a_o, a_b, a_s, a_q, a_t, a_n, a_w⟩, ⟨d_l, d_c, d_p, d_o, d_b, d_s, d_q, d_t, d_n, d_w⟩, u, v, m, k⟩)).a.w), .val (.int .i64 ((La.std.y_a1 all o_k o_n ⟨⟨a_l, a_c, a_p, a_o, a_b, a_s, a_q, a_t, a_n, a_w⟩, ⟨d_l, d_c, d_p, d_o, d_b, d_s, d_q, d_t, d_n, d_w⟩, u, v, m, k⟩)).d.l), .val (.int .i64 ((La.std.y_a1 all o_k o_n ⟨⟨a_l, a_c, a_p, a_o, a_b, a_s, a_q, a_t, a_n, a_w⟩, ⟨d_l, d_c, d_p, d_o, d_b, d_s, d_q, d_t, d_n, d_w⟩, u, v, m, k⟩)).d.c), .val (.int .i64 ((La.std.y_a1 all o_k o_n ⟨⟨a_l, a_c, a_p, a_o, a_b, a_s, a_q, a_t, a_n, a_w⟩, ⟨d_l, d_c, d_p, d_o, d_b, d_s, d_q, d_t, d_n, d_w⟩, u, v, m, k⟩)).d.p), .val (.bool ((La.std.y_a1 all o_k o_n ⟨⟨a_l, a_c, a_p, a_o, a_b, a_s, a_q, a_t, a_n, a_w⟩, ⟨d_l, d_c, d_p, d_o, d_b, d_s, d_q, d_t, d_n, d_w⟩, u, v, m, k⟩)).d.o), .val (.int .i64 ((La.std.y_a1 all o_k o_n ⟨⟨a_l, a_c, a_p, a_o, a_b, a_s, a_q, a_t, a_n, a_w⟩, ⟨d_l, d_c, d_p, d_o, d_b, d_s, d_q, d_t, d_n, d_w⟩, u, v, m, k⟩)).d.b), .val (.int .i64 ((La.std.y_a1 all o_k o_n ⟨⟨a_l, a_c, a_p, a_o, a_b, a_s, a_q, a_t, a_n, a_w⟩, ⟨d_l, d_c, d_p, d_o, d_b, d_s, d_q, d_t, d_n, d_w⟩, u, v, m, k⟩)).d.s), .sl none (.recs (.ints .u8 .nil) ((La.std.y_a1 all o_k o_n ⟨⟨a_l, a_c, a_p, a_o, a_b, a_s, a_q, a_t, a_n, a_w⟩, ⟨d_l, d_c, d_p, d_o, d_b, d_s, d_q, d_t, d_n, d_w⟩, u, v, m, k⟩)).d.q), .val (.int .i64 ((La.std.y_a1 all o_k o_n ⟨⟨a_l, a_c, a_p, a_o, a_b, a_s, a_q, a_t, a_n, a_w⟩, ⟨d_l, d_c, d_p, d_o, d_b, d_s, d_q, d_t, d_n, d_w⟩, u, v, m, k⟩)).d.t), .val (.int .i64 ((La.std.y_a1 all o_k o_n ⟨⟨a_l, a_c, a_p, a_o, a_b, a_s, a_q, a_t, a_n, a_w⟩, ⟨d_l, d_c, d_p, d_o, d_b, d_s, d_q, d_t, d_n, d_w⟩, u, v, m, k⟩)).d.n), .val (.bool ((La.std.y_a1 all o_k o_n ⟨⟨a_l, a_c, a_p, a_o, a_b, a_s, a_q, a_t, a_n, a_w⟩, ⟨d_l, d_c, d_p, d_o, d_b, d_s, d_q, d_t, d_n, d_w⟩, u, v, m, k⟩)).d.w), .sl (some (1, 84)) (.recs (.int .i64 (.int .i64 (.int .i64 (.int .i64 (.ints .u8 .nil))))) (La.std.y_a1 all o_k o_n ⟨⟨a_l, a_c, a_p, a_o, a_b, a_s, a_q, a_t, a_n, a_w⟩, ⟨d_l, d_c, d_p, d_o, d_b, d_s, d_q, d_t, d_n, d_w⟩, u, v, m, k⟩).u), .sl (some (2, 84)) (.recs (.int .i64 (.int .i64 (.int .i64 (.int .i64 (.ints .u8 .nil))))) (La.std.y_a1 all o_k o_n ⟨⟨a_l, a_c, a_p, a_o, a_b, a_s, a_q, a_t, a_n, a_w⟩, ⟨d_l, d_c, d_p, d_o, d_b, d_s, d_q, d_t, d_n, d_w⟩, u, v, m, k⟩).v), .mp 3, .mp 4, .val (.bool false)]), (1, .tok), (2, .tok), (3, .mp (La.std.y_a1 all o_k o_n ⟨⟨a_l, a_c, a_p, a_o, a_b, a_s, a_q, a_t, a_n, a_w⟩, ⟨d_l, d_c, d_p, d_o, d_b, d_s, d_q, d_t, d_n, d_w⟩, u, v, m, k⟩).m), (4, .mp (La.std.y_a1 all o_k o_n ⟨⟨a_l, a_c, a_p, a_o, a_b, a_s, a_q, a_t, a_n, a_w⟩, ⟨d_l, d_c, d_p, d_o, d_b, d_s, d_q, d_t, d_n, d_w⟩, u, v, m, k⟩).k)], [.one (.ptr 0 0), Any, Any]⟩ := by
  intro b gv
  obtain ⟨hix, hbd, hPI, hAl, ⟨hu3, hv3⟩, hm3, hk3⟩ := (show ok1 o_a bd all ⟨⟨a_l, a_c, a_p, a_o, a_b, a_s, a_q, a_t, a_n, a_w⟩, ⟨d_l, d_c, d_p, d_o, d_b, d_s, d_q, d_t, d_n, d_w⟩, u, v, m, k⟩ from hC)
  subst hbd
  dsimp only at hu3 hv3 hm3 hk3
  have hA60 : all.length ≤ 60 := hPI.2.2.2.1.1
  have hNo := fun h1 h9 h8 h => a1_non (all := all) (kd := o_k) (n := modI o_n v.length) (st := ⟨⟨a_l, a_c, a_p, a_o, a_b, a_s, a_q, a_t, a_n, a_w⟩, ⟨d_l, d_c, d_p, d_o, d_b, d_s, d_q, d_t, d_n, d_w⟩, u, v, m, k⟩) h1 h9 h8 h
  have hA1 := fun h => (at_is o_n v hv3 h).1
  have hA2 := fun h => (at_is o_n v hv3 h).2.1
  have hA3 := fun h => (at_is o_n v hv3 h).2.2.1
  have hA4 := fun h => (at_is o_n v hv3 h).2.2.2
  have hRs := rs_is v (modI o_n v.length)
  have hRl := fun h => rs_len v (k := modI o_n v.length) h
  have hW1 := fun h1 => a1_way (all := all) (kd := 3) (n := modI o_n v.length) (st := ⟨⟨a_l, a_c, a_p, a_o, a_b, a_s, a_q, a_t, a_n, a_w⟩, ⟨d_l, d_c, d_p, d_o, d_b, d_s, d_q, d_t, d_n, d_w⟩, u, v, m, k⟩) h1 (.inl rfl)
  have hW2 := wy_3 v (modI o_n v.length)
  dsimp only at hNo hW1
  have hfs := (FsOk.cons ok_ltick (FsOk.cons ok_flush (FsOk.cons ok_lclose (FsOk.cons ok_lpush (FsOk.cons ok_lhear (FsOk.cons ok_at (FsOk.cons (dnil_ok [[none], [none], [some (.recs (.int .i64 (.int .i64 (.int .i64 (.int .i64 (.ints .u8 .nil))))) []), some (.recs (.ints .u8 .nil) []), none, none], [none], [some (.recs (.ints .u8 .nil) [])]] ok_mnews) FsOk.nil rfl) rfl) rfl) rfl) rfl) rfl) rfl)
  generalize hF : La.std = F at hC hfs ⊢
  generalize hG0 : LiR.Ks.std = G0 at hC hfs ⊢
  generalize hG1 : Lm.std = G1 at hC hfs ⊢
  generalize hA : Ar.std = A
  generalize hL : Lp _ _ _ = L
  obtain ⟨Z, zq⟩ := z_all
  refine @cd_open _ _ _ _ _ _ _ (lp_mono hL) _ _ zq rfl ?_
  repeat' (first
    | (refine z_open zq ?_; try dsimp only)
    | refine cd_seq zq ?_ (lp_mono hL)
    | refine cd_blk zq ?_
    | refine cd_ret ?_
    | refine cd_skip ?_
    | refine cd_exit ?_
    | refine cd_loop ?_
    | refine cd_cond rfl ?_
    | refine cd_condT rfl ?_
    | refine cd_condF rfl ?_
    | (refine @Cd.mk _ _ _ (.region 0 _ _) _ _ ?_; cbv)
    | (refine @Cd.mk _ _ _ (.region 1 _ _) _ _ ?_; cbv)
    | (refine @Cd.mk _ _ _ (.region 2 _ _) _ _ ?_; cbv)
    | (refine @Cd.mk _ _ _ (.region 3 _ _) _ _ ?_; cbv)
    | (refine @Cd.mk _ _ _ (.region 4 _ _) _ _ ?_; cbv)
    | (refine @Cd.mk _ _ _ (.region 5 _ _) _ _ ?_; cbv)
    | exact trivial
    | refine And.intro ?_ ?_
    | refine orf fun _ => ?_
    | refine ort fun _ => ?_)
  · exfalso
    rename_i hx
    have hi0 : stdBin .rem .i64 (stdBin .sub .i64 o_a 1) 2 = 1 := hix
    subst hA
    simp only [Ar.std, hi0] at hx
    cases hx
  have hi : A.bin .rem .i64 (A.bin .sub .i64 o_a 1) 2 = 1 := by
    subst hA
    exact hix
  simp only [hi]
  repeat' (first
    | (refine z_open zq ?_; try dsimp only)
    | refine cd_seq zq ?_ (lp_mono hL)
    | refine cd_blk zq ?_
    | refine cd_ret ?_
    | refine cd_skip ?_
    | refine cd_exit ?_
    | refine cd_loop ?_
    | refine cd_cond rfl ?_
    | refine cd_condT rfl ?_
    | refine cd_condF rfl ?_
    | (refine Cd.mk ?_; cbv)
    | (refine Ends1.mk ?_; cbv)
    | (refine Fin1.mk ?_; cbv)
    | exact trivial
    | refine And.intro ?_ ?_
    | (refine orf fun h9 => ?_; (try (exfalso; subst hA; simp [Ar.std, stdCmp, hk9] at h9; done)))
    | (refine ort fun h9 => ?_; (try (exfalso; subst hA; simp [Ar.std, stdCmp, hk9] at h9; done))))
  all_goals
    clear hL hfs zq Z hPI hAl hC
    subst hA hF hG0 hG1 hk9
  all_goals simp only [La.std, Ar.std, List.nil_append] at *
  all_goals first
    | (grind [stdCmp]; done)
    | (exfalso; grind [stdCmp]; done)
end Go.Proofs.Ytakebkfhigadiaa.LcK3
