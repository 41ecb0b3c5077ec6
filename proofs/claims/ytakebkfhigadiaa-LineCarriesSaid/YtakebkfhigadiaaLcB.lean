/-
  an act, whichever end is drawn; what the loops keep. No condition but what is asked.
-/
import Derived.Test.YtakebkfhigadiaaLcD
import Derived.Test.YtakebkfhigadiaaRyOp
import Derived.Test.YtakebkfhigadiaaRyIn
import Derived.Test.YtakebkfhigadiaaLaw
namespace Go.Proofs.Ytakebkfhigadiaa.LcB
open Go Go.Proofs.Ytakebkfhigadiaa.Ry Go.Proofs.Ytakebkfhigadiaa.Law Go.Proofs.Ytakebkfhigadiaa.HaR Go.Proofs.Ytakebkfhigadiaa.LiR Go.Proofs.Ytakebkfhigadiaa.LcT Go.Proofs.Ytakebkfhigadiaa.LcP Go.Proofs.Ytakebkfhigadiaa.LcR Go.Proofs.Ytakebkfhigadiaa.LcA Go.Proofs.Ytakebkfhigadiaa.LcD

set_option maxHeartbeats 4000000
set_option maxRecDepth 100000
def acA (all : List E) (a k n : Int) (st : PR) : PR := if ixA a = 1 then ac1 all k (modI n st.v.length) st else ac0 all k (modI n st.u.length) st
structure Lb where
  z_ok : Bool → List E → PR → Prop
  z_ac : List E → Int → Int → Int → PR → PR
def Lb.std : Lb := ⟨okS, acA⟩
noncomputable def c_act (F : Lb) : Con := fun xs h => match xs, h with
  | [.one (.ptr 0 0), .agg [.val (.int .i64 o_k), .val (.int .i64 o_a), .val (.int .i64 _), .val (.int .i64 o_n), .val (.int .i64 _)], .one (.sl none (.recs (.ints .u8 .nil) all))], [(0, .cells 55 [.val (.int .i64 a_l), .val (.int .i64 a_c), .val (.int .i64 a_p), .val (.bool a_o), .val (.int .i64 a_b), .val (.int .i64 a_s), .sl none (.recs (.ints .u8 .nil) a_q), .val (.int .i64 a_t), .val (.int .i64 a_n), .val (.bool a_w), .val (.int .i64 d_l), .val (.int .i64 d_c), .val (.int .i64 d_p), .val (.bool d_o), .val (.int .i64 d_b), .val (.int .i64 d_s), .sl none (.recs (.ints .u8 .nil) d_q), .val (.int .i64 d_t), .val (.int .i64 d_n), .val (.bool d_w), .sl (some (1, 84)) (.recs (.int .i64 (.int .i64 (.int .i64 (.int .i64 (.ints .u8 .nil))))) u), .sl (some (2, 84)) (.recs (.int .i64 (.int .i64 (.int .i64 (.int .i64 (.ints .u8 .nil))))) v), .mp 3, .mp 4, .val (.bool bd)]), (1, .tok), (2, .tok), (3, .mp m), (4, .mp k)] => some ⟨F.z_ok bd all ⟨⟨a_l, a_c, a_p, a_o, a_b, a_s, a_q, a_t, a_n, a_w⟩, ⟨d_l, d_c, d_p, d_o, d_b, d_s, d_q, d_t, d_n, d_w⟩, u, v, m, k⟩, .tup [], [(0, .cells 55 [.val (.int .i64 ((F.z_ac all o_a o_k o_n ⟨⟨a_l, a_c, a_p, a_o, a_b, a_s, a_q, a_t, a_n, a_w⟩, ⟨d_l, d_c, d_p, d_o, d_b, d_s, d_q, d_t, d_n, d_w⟩, u, v, m, k⟩)).a.l), .val (.int .i64 ((F.z_ac all o_a o_k o_n ⟨⟨a_l, a_c, a_p, a_o, a_b, a_s, a_q, a_t, a_n, a_w⟩, ⟨d_l, d_c, d_p, d_o, d_b, d_s, d_q, d_t, d_n, d_w⟩, u, v, m, k⟩)).a.c), .val (.int .i64 ((F.z_ac all o_a o_k o_n ⟨⟨a_l, a_c, a_p, a_o, a_b, a_s, a_q, a_t, a_n, a_w⟩, ⟨d_l, d_c, d_p, d_o, d_b, d_s, d_q, d_t, d_n, d_w⟩, u, v, m, k⟩)).a.p), .val (.bool ((F.z_ac all o_a o_k o_n ⟨⟨a_l, a_c, a_p, a_o, a_b, a_s, a_q, a_t, a_n, a_w⟩, ⟨d_l, d_c, d_p, d_o, d_b, d_s, d_q, d_t, d_n, d_w⟩, u, v, m, k⟩)).a.o), .val (.int .i64 ((F.z_ac all o_a o_k o_n ⟨⟨a_l, a_c, a_p, a_o, a_b, a_s, a_q, a_t, a_n, a_w⟩, ⟨d_l, d_c, d_p, d_o, d_b, d_s, d_q, d_t, d_n, d_w⟩, u, v, m, k⟩)).a.b), .val (.int .i64 ((F.z_ac all o_a o_k o_n ⟨⟨a_l, a_c, a_p, a_o, a_b, a_s, a_q, a_t, a_n, a_w⟩, ⟨d_l, d_c, d_p, d_o, d_b, d_s, d_q, d_t, d_n, d_w⟩, u, v, m, k⟩)).a.s), .sl none (.recs (.ints .u8 .nil) ((F.z_ac all o_a o_k o_n ⟨⟨a_l, a_c, a_p, a_o, a_b, a_s, a_q, a_t, a_n, a_w⟩, ⟨d_l, d_c, d_p, d_o, d_b, d_s, d_q, d_t, d_n, d_w⟩, u, v, m, k⟩)).a.q), .val (.int .i64 ((F.z_ac all o_a o_k o_n ⟨⟨a_l, a_c, a_p, a_o, a_b, a_s, a_q, a_t, a_n, a_w⟩, ⟨d_l, d_c, d_p, d_o, d_b, d_s, d_q, d_t, d_n, d_w⟩, u, v, m, k⟩)).a.t), .val (.int .i64 ((F.z_ac all o_a o_k o_n ⟨⟨a_l, a_c, a_p, a_o, a_b, a_s, a_q, a_t, a_n, a_w⟩, ⟨d_l, d_c, d_p, d_o, d_b, d_s, d_q, d_t, d_n, d_w⟩, u, v, m, k⟩)).a.n), .val (.bool ((F.z_ac all o_a o_k o_n ⟨⟨a_l, a_c, a_p, a_o, a_b, a_s, a_q, a_t, a_n, a_w⟩, ⟨d_l, d_c, d_p, d_o, d_b, d_s, d_q, d_t, d_n, d_w⟩, u, v, m, k⟩)).a.w), .val (.int .i64 ((F.z_ac all o_a o_k o_n ⟨⟨a_l, a_c, a_p, a_o, a_b, a_s, a_q, a_t, a_n, a_w⟩, ⟨d_l, d_c, d_p, d_o, d_b, d_s, d_q, d_t, d_n, d_w⟩, u, v, m, k⟩)).d.l), .val (.int .i64 ((F.z_ac all o_a o_k o_n ⟨⟨a_l, a_c, a_p, a_o, a_b, a_s, a_q, a_t, a_n, a_w⟩, ⟨d_l, d_c, d_p, d_o, d_b, d_s, d_q, d_t, d_n, d_w⟩, u, v, m, k⟩)).d.c), .val (.int .i64 ((F.z_ac all o_a o_k o_n ⟨⟨a_l, a_c, a_p, a_o, a_b, a_s, a_q, a_t, a_n, a_w⟩, ⟨d_l, d_c, d_p, d_o, d_b, d_s, d_q, d_t, d_n, d_w⟩, u, v, m, k⟩)).d.p), .val (.bool ((F.z_ac all o_a o_k o_n ⟨⟨a_l, a_c, a_p, a_o, a_b, a_s, a_q, a_t, a_n, a_w⟩, ⟨d_l, d_c, d_p, d_o, d_b, d_s, d_q, d_t, d_n, d_w⟩, u, v, m, k⟩)).d.o), .val (.int .i64 ((F.z_ac all o_a o_k o_n ⟨⟨a_l, a_c, a_p, a_o, a_b, a_s, a_q, a_t, a_n, a_w⟩, ⟨d_l, d_c, d_p, d_o, d_b, d_s, d_q, d_t, d_n, d_w⟩, u, v, m, k⟩)).d.b), .val (.int .i64 ((F.z_ac all o_a o_k o_n ⟨⟨a_l, a_c, a_p, a_o, a_b, a_s, a_q, a_t, a_n, a_w⟩, ⟨d_l, d_c, d_p, d_o, d_b, d_s, d_q, d_t, d_n, d_w⟩, u, v, m, k⟩)).d.s), .sl none (.recs (.ints .u8 .nil) ((F.z_ac all o_a o_k o_n ⟨⟨a_l, a_c, a_p, a_o, a_b, a_s, a_q, a_t, a_n, a_w⟩, ⟨d_l, d_c, d_p, d_o, d_b, d_s, d_q, d_t, d_n, d_w⟩, u, v, m, k⟩)).d.q), .val (.int .i64 ((F.z_ac all o_a o_k o_n ⟨⟨a_l, a_c, a_p, a_o, a_b, a_s, a_q, a_t, a_n, a_w⟩, ⟨d_l, d_c, d_p, d_o, d_b, d_s, d_q, d_t, d_n, d_w⟩, u, v, m, k⟩)).d.t), .val (.int .i64 ((F.z_ac all o_a o_k o_n ⟨⟨a_l, a_c, a_p, a_o, a_b, a_s, a_q, a_t, a_n, a_w⟩, ⟨d_l, d_c, d_p, d_o, d_b, d_s, d_q, d_t, d_n, d_w⟩, u, v, m, k⟩)).d.n), .val (.bool ((F.z_ac all o_a o_k o_n ⟨⟨a_l, a_c, a_p, a_o, a_b, a_s, a_q, a_t, a_n, a_w⟩, ⟨d_l, d_c, d_p, d_o, d_b, d_s, d_q, d_t, d_n, d_w⟩, u, v, m, k⟩)).d.w), .sl (some (1, 84)) (.recs (.int .i64 (.int .i64 (.int .i64 (.int .i64 (.ints .u8 .nil))))) (F.z_ac all o_a o_k o_n ⟨⟨a_l, a_c, a_p, a_o, a_b, a_s, a_q, a_t, a_n, a_w⟩, ⟨d_l, d_c, d_p, d_o, d_b, d_s, d_q, d_t, d_n, d_w⟩, u, v, m, k⟩).u), .sl (some (2, 84)) (.recs (.int .i64 (.int .i64 (.int .i64 (.int .i64 (.ints .u8 .nil))))) (F.z_ac all o_a o_k o_n ⟨⟨a_l, a_c, a_p, a_o, a_b, a_s, a_q, a_t, a_n, a_w⟩, ⟨d_l, d_c, d_p, d_o, d_b, d_s, d_q, d_t, d_n, d_w⟩, u, v, m, k⟩).v), .mp 3, .mp 4, .val (.bool false)]), (1, .tok), (2, .tok), (3, .mp (F.z_ac all o_a o_k o_n ⟨⟨a_l, a_c, a_p, a_o, a_b, a_s, a_q, a_t, a_n, a_w⟩, ⟨d_l, d_c, d_p, d_o, d_b, d_s, d_q, d_t, d_n, d_w⟩, u, v, m, k⟩).m), (4, .mp (F.z_ac all o_a o_k o_n ⟨⟨a_l, a_c, a_p, a_o, a_b, a_s, a_q, a_t, a_n, a_w⟩, ⟨d_l, d_c, d_p, d_o, d_b, d_s, d_q, d_t, d_n, d_w⟩, u, v, m, k⟩).k)], [.one (.ptr 0 0), Any, Any]⟩
  | _, _ => none
theorem ok_act : ConOk Try.prog 15 (c_act Lb.std) := by
  refine ⟨ok_act0.1, fun args h p hc hC G vs h1 h2 h3 hv => ?_⟩
  unfold c_act at hc
  split at hc
  · rename_i o_k o_a o_b o_n o_w all a_l a_c a_p a_o a_b a_s a_q a_t a_n a_w d_l d_c d_p d_o d_b d_s d_q d_t d_n d_w u v bd m k
    cases hc
    rcases ix_3 o_a with h9 | h9
    · have e : Lb.std.z_ac all o_a o_k o_n ⟨⟨a_l, a_c, a_p, a_o, a_b, a_s, a_q, a_t, a_n, a_w⟩, ⟨d_l, d_c, d_p, d_o, d_b, d_s, d_q, d_t, d_n, d_w⟩, u, v, m, k⟩ = LcA.La.std.y_a1 all o_k o_n ⟨⟨a_l, a_c, a_p, a_o, a_b, a_s, a_q, a_t, a_n, a_w⟩, ⟨d_l, d_c, d_p, d_o, d_b, d_s, d_q, d_t, d_n, d_w⟩, u, v, m, k⟩ := if_pos h9
      simp only [e]
      have q := ok_act1.2 _ _ _ (w_act1 LcA.La.std all o_k o_a o_b o_n o_w a_l a_c a_p a_o a_b a_s a_q a_t a_n a_w d_l d_c d_p d_o d_b d_s d_q d_t d_n d_w u v m k bd)
      exact q ⟨h9, hC⟩ G vs h1 h2 h3 hv
    · have e : Lb.std.z_ac all o_a o_k o_n ⟨⟨a_l, a_c, a_p, a_o, a_b, a_s, a_q, a_t, a_n, a_w⟩, ⟨d_l, d_c, d_p, d_o, d_b, d_s, d_q, d_t, d_n, d_w⟩, u, v, m, k⟩ = LcA.La.std.y_a0 all o_k o_n ⟨⟨a_l, a_c, a_p, a_o, a_b, a_s, a_q, a_t, a_n, a_w⟩, ⟨d_l, d_c, d_p, d_o, d_b, d_s, d_q, d_t, d_n, d_w⟩, u, v, m, k⟩ := if_neg (by omega)
      simp only [e]
      have q := ok_act0.2 _ _ _ (w_act0 LcA.La.std all o_k o_a o_b o_n o_w a_l a_c a_p a_o a_b a_s a_q a_t a_n a_w d_l d_c d_p d_o d_b d_s d_q d_t d_n d_w u v m k bd)
      exact q ⟨h9, hC⟩ G vs h1 h2 h3 hv
  · cases hc
theorem w_act (F : Lb) (o_k o_a o_b o_n o_w : Int) (all : List E) (a_l : Int) (a_c : Int) (a_p : Int) (a_o : Bool) (a_b : Int) (a_s : Int) (a_q : List E) (a_t : Int) (a_n : Int) (a_w : Bool) (d_l : Int) (d_c : Int) (d_p : Int) (d_o : Bool) (d_b : Int) (d_s : Int) (d_q : List E) (d_t : Int) (d_n : Int) (d_w : Bool) (u : List E) (v : List E) (m : List (Int × Int)) (k : List (Int × Int)) (bd : Bool) : c_act F [.one (.ptr 0 0), .agg [.val (.int .i64 o_k), .val (.int .i64 o_a), .val (.int .i64 o_b), .val (.int .i64 o_n), .val (.int .i64 o_w)], .one (.sl none (.recs (.ints .u8 .nil) all))] [(0, .cells 55 [.val (.int .i64 a_l), .val (.int .i64 a_c), .val (.int .i64 a_p), .val (.bool a_o), .val (.int .i64 a_b), .val (.int .i64 a_s), .sl none (.recs (.ints .u8 .nil) a_q), .val (.int .i64 a_t), .val (.int .i64 a_n), .val (.bool a_w), .val (.int .i64 d_l), .val (.int .i64 d_c), .val (.int .i64 d_p), .val (.bool d_o), .val (.int .i64 d_b), .val (.int .i64 d_s), .sl none (.recs (.ints .u8 .nil) d_q), .val (.int .i64 d_t), .val (.int .i64 d_n), .val (.bool d_w), .sl (some (1, 84)) (.recs (.int .i64 (.int .i64 (.int .i64 (.int .i64 (.ints .u8 .nil))))) u), .sl (some (2, 84)) (.recs (.int .i64 (.int .i64 (.int .i64 (.int .i64 (.ints .u8 .nil))))) v), .mp 3, .mp 4, .val (.bool bd)]), (1, .tok), (2, .tok), (3, .mp m), (4, .mp k)] = some ⟨F.z_ok bd all ⟨⟨a_l, a_c, a_p, a_o, a_b, a_s, a_q, a_t, a_n, a_w⟩, ⟨d_l, d_c, d_p, d_o, d_b, d_s, d_q, d_t, d_n, d_w⟩, u, v, m, k⟩, .tup [], [(0, .cells 55 [.val (.int .i64 ((F.z_ac all o_a o_k o_n ⟨⟨a_l, a_c, a_p, a_o, a_b, a_s, a_q, a_t, a_n, a_w⟩, ⟨d_l, d_c, d_p, d_o, d_b, d_s, d_q, d_t, d_n, d_w⟩, u, v, m, k⟩)).a.l), .val (.int .i64 ((F.z_ac all o_a o_k o_n ⟨⟨a_l, a_c, a_p, a_o, a_b, a_s, a_q, a_t, a_n, a_w⟩, ⟨d_l, d_c, d_p, d_o, d_b, d_s, d_q, d_t, d_n, d_w⟩, u, v, m, k⟩)).a.c), .val (.int .i64 ((F.z_ac all o_a o_k o_n ⟨⟨a_l, a_c, a_p, a_o, a_b, a_s, a_q, a_t, a_n, a_w⟩, ⟨d_l, d_c, d_p, d_o, d_b, d_s, d_q, d_t, d_n, d_w⟩, u, v, m, k⟩)).a.p), .val (.bool ((F.z_ac all o_a o_k o_n ⟨⟨a_l, a_c, a_p, a_o, a_b, a_s, a_q, a_t, a_n, a_w⟩, ⟨d_l, d_c, d_p, d_o, d_b, d_s, d_q, d_t, d_n, d_w⟩, u, v, m, k⟩)).a.o), .val (.int .i64 ((F.z_ac all o_a o_k o_n ⟨⟨a_l, a_c, a_p, a_o, a_b, a_s, a_q, a_t, a_n, a_w⟩, ⟨d_l, d_c, d_p, d_o, d_b, d_s, d_q, d_t, d_n, d_w⟩, u, v, m, k⟩)).a.b), .val (.int .i64 ((F.z_ac all o_a o_k o_n ⟨⟨a_l, a_c, a_p, a_o, a_b, a_s, a_q, a_t, a_n, a_w⟩, ⟨d_l, d_c, d_p, d_o, d_b, d_s, d_q, d_t, d_n, d_w⟩, u, v, m, k⟩)).a.s), .sl none (.recs (.ints .u8 .nil) ((F.z_ac all o_a o_k o_n ⟨⟨a_l, a_c, a_p, a_o, a_b, a_s, a_q, a_t, a_n, a_w⟩, ⟨d_l, d_c, d_p, d_o, d_b, d_s, d_q, d_t, d_n, d_w⟩, u, v, m, k⟩)).a.q), .val (.int .i64 ((F.z_ac all o_a o_k o_n ⟨⟨a_l, a_c, a_p, a_o, a_b, a_s, a_q, a_t, a_n, a_w⟩, ⟨d_l, d_c, d_p, d_o, d_b, d_s, d_q, d_t, d_n, d_w⟩, u, v, m, k⟩)).a.t), .val (.int .i64 ((F.z_ac all o_a o_k o_n ⟨⟨a_l, a_c, a_p, a_o, a_b, a_s, a_q, a_t, a_n, a_w⟩, ⟨d_l, d_c, d_p, d_o, d_b, d_s, d_q, d_t, d_n, d_w⟩, u, v, m, k⟩)).a.n), .val (.bool ((F.z_ac all o_a o_k o_n ⟨⟨a_l, a_c, a_p, a_o, a_b, a_s, a_q, a_t, a_n, a_w⟩, ⟨d_l, d_c, d_p, d_o, d_b, d_s, d_q, d_t, d_n, d_w⟩, u, v, m, k⟩)).a.w), .val (.int .i64 ((F.z_ac all o_a o_k o_n ⟨⟨a_l, a_c, a_p, a_o, a_b, a_s, a_q, a_t, a_n, a_w⟩, ⟨d_l, d_c, d_p, d_o, d_b, d_s, d_q, d_t, d_n, d_w⟩, u, v, m, k⟩)).d.l), .val (.int .i64 ((F.z_ac all o_a o_k o_n ⟨⟨a_l, a_c, a_p, a_o, a_b, a_s, a_q, a_t, a_n, a_w⟩, ⟨d_l, d_c, d_p, d_o, d_b, d_s, d_q, d_t, d_n, d_w⟩, u, v, m, k⟩)).d.c), .val (.int .i64 ((F.z_ac all o_a o_k o_n ⟨⟨a_l, a_c, a_p, a_o, a_b, a_s, a_q, a_t, a_n, a_w⟩, ⟨d_l, d_c, d_p, d_o, d_b, d_s, d_q, d_t, d_n, d_w⟩, u, v, m, k⟩)).d.p), .val (.bool ((F.z_ac all o_a o_k o_n ⟨⟨a_l, a_c, a_p, a_o, a_b, a_s, a_q, a_t, a_n, a_w⟩, ⟨d_l, d_c, d_p, d_o, d_b, d_s, d_q, d_t, d_n, d_w⟩, u, v, m, k⟩)).d.o), .val (.int .i64 ((F.z_ac all o_a o_k o_n ⟨⟨a_l, a_c, a_p, a_o, a_b, a_s, a_q, a_t, a_n, a_w⟩, ⟨d_l, d_c, d_p, d_o, d_b, d_s, d_q, d_t, d_n, d_w⟩, u, v, m, k⟩)).d.b), .val (.int .i64 ((F.z_ac all o_a o_k o_n ⟨⟨a_l, a_c, a_p, a_o, a_b, a_s, a_q, a_t, a_n, a_w⟩, ⟨d_l, d_c, d_p, d_o, d_b, d_s, d_q, d_t, d_n, d_w⟩, u, v, m, k⟩)).d.s), .sl none (.recs (.ints .u8 .nil) ((F.z_ac all o_a o_k o_n ⟨⟨a_l, a_c, a_p, a_o, a_b, a_s, a_q, a_t, a_n, a_w⟩, ⟨d_l, d_c, d_p, d_o, d_b, d_s, d_q, d_t, d_n, d_w⟩, u, v, m, k⟩)).d.q), .val (.int .i64 ((F.z_ac all o_a o_k o_n ⟨⟨a_l, a_c, a_p, a_o, a_b, a_s, a_q, a_t, a_n, a_w⟩, ⟨d_l, d_c, d_p, d_o, d_b, d_s, d_q, d_t, d_n, d_w⟩, u, v, m, k⟩)).d.t), .val (.int .i64 ((F.z_ac all o_a o_k o_n ⟨⟨a_l, a_c, a_p, a_o, a_b, a_s, a_q, a_t, a_n, a_w⟩, ⟨d_l, d_c, d_p, d_o, d_b, d_s, d_q, d_t, d_n, d_w⟩, u, v, m, k⟩)).d.n), .val (.bool ((F.z_ac all o_a o_k o_n ⟨⟨a_l, a_c, a_p, a_o, a_b, a_s, a_q, a_t, a_n, a_w⟩, ⟨d_l, d_c, d_p, d_o, d_b, d_s, d_q, d_t, d_n, d_w⟩, u, v, m, k⟩)).d.w), .sl (some (1, 84)) (.recs (.int .i64 (.int .i64 (.int .i64 (.int .i64 (.ints .u8 .nil))))) (F.z_ac all o_a o_k o_n ⟨⟨a_l, a_c, a_p, a_o, a_b, a_s, a_q, a_t, a_n, a_w⟩, ⟨d_l, d_c, d_p, d_o, d_b, d_s, d_q, d_t, d_n, d_w⟩, u, v, m, k⟩).u), .sl (some (2, 84)) (.recs (.int .i64 (.int .i64 (.int .i64 (.int .i64 (.ints .u8 .nil))))) (F.z_ac all o_a o_k o_n ⟨⟨a_l, a_c, a_p, a_o, a_b, a_s, a_q, a_t, a_n, a_w⟩, ⟨d_l, d_c, d_p, d_o, d_b, d_s, d_q, d_t, d_n, d_w⟩, u, v, m, k⟩).v), .mp 3, .mp 4, .val (.bool false)]), (1, .tok), (2, .tok), (3, .mp (F.z_ac all o_a o_k o_n ⟨⟨a_l, a_c, a_p, a_o, a_b, a_s, a_q, a_t, a_n, a_w⟩, ⟨d_l, d_c, d_p, d_o, d_b, d_s, d_q, d_t, d_n, d_w⟩, u, v, m, k⟩).m), (4, .mp (F.z_ac all o_a o_k o_n ⟨⟨a_l, a_c, a_p, a_o, a_b, a_s, a_q, a_t, a_n, a_w⟩, ⟨d_l, d_c, d_p, d_o, d_b, d_s, d_q, d_t, d_n, d_w⟩, u, v, m, k⟩).k)], [.one (.ptr 0 0), Any, Any]⟩ := by
  first
    | (cbv; done)
    | rfl
theorem eta_PR (d : PR) : (⟨d.a, d.d, d.u, d.v, d.m, d.k⟩ : PR) = d := rfl
theorem mput_len (l : List (Int × Int)) (k v : Int) : (mput l k v).length ≤ l.length + 1 := by
  unfold mput
  split
  · rw [List.length_map]
    omega
  · rw [List.length_append, List.length_singleton]
    omega
def Lens (r st : PR) : Prop := r.u.length ≤ st.u.length + 40 ∧ r.v.length ≤ st.v.length + 40 ∧ r.m.length ≤ st.m.length + 1 ∧ r.k.length ≤ st.k.length + 1
theorem lens_of {r st : PR} {a b c d e g : _} (h : r = ⟨a, b, c, d, e, g⟩) (h1 : c.length ≤ st.u.length + 40) (h2 : d.length ≤ st.v.length + 40) (h3 : e.length ≤ st.m.length + 1) (h4 : g.length ≤ st.k.length + 1) : Lens r st := by
  subst h
  exact ⟨h1, h2, h3, h4⟩
theorem lens_id (st : PR) : Lens st st := ⟨by omega, by omega, by omega, by omega⟩
theorem pu_len {all : List E} {st : PR} (h : PI all st) (ha : AllOk all) : Lens (puP all st) st := by
  by_cases hc : st.a.c = 0 ∨ all.length ≤ mget st.m st.a.c
  · rw [(a_psh h ha).1 hc]
    exact lens_id st
  · exact lens_of ((a_psh h ha).2 (fun e => hc (.inl e)) (by omega)).1 (by omega) (by omega) (mput_len _ _ _) (by omega)
theorem wy_len (w : List E) (k : Int) {n : Int} (h0 : 0 ≤ n) : (wyW w k n).length ≤ w.length + 1 := by
  have := rs_len w h0
  unfold wyW
  split
  · omega
  · split
    · rw [List.length_append, List.length_singleton]
      omega
    · rw [List.length_append, List.length_singleton]
      omega
theorem k_len (g : List E) (k : List (Int × Int)) (c : Int) : (n1K g k c).length ≤ k.length + 1 := by
  unfold n1K
  split
  · omega
  · exact mput_len _ _ _
theorem kinds (k : Int) : k = 1 ∨ k = 9 ∨ k = 8 ∨ k = 2 ∨ (k = 3 ∨ k = 4 ∨ k = 5) ∨ (k ≠ 1 ∧ k ≠ 9 ∧ k ≠ 8 ∧ (k < 2 ∨ 5 < k)) := by omega
theorem acA_ok {all : List E} {st : PR} (h : okS false all st) (a k n : Int) : PI all (acA all a k n st) ∧ Lens (acA all a k n st) st := by
  obtain ⟨_, hp, hA, ⟨hu, hv⟩, hm, hk⟩ := h
  unfold acA
  split
  · refine ⟨ac1_ok hp hA k fun _ _ h0 => ((at_is n st.v hv h0).2.1 |> fun x => ⟨x, (at_is n st.v hv h0).2.2.1⟩), ?_⟩
    rcases kinds k with rfl | rfl | rfl | rfl | g | ⟨g1, g2, g3, g4⟩
    · obtain ⟨e, t1, t2⟩ := a1_tik hp (modI n st.v.length)
      have := t1.f
      have := t2.f
      exact lens_of e (by omega) (by simp only [List.length_append]; omega) (by omega) (by omega)
    · obtain ⟨e, t1⟩ := a1_clo hp (modI n st.v.length)
      have := t1.f
      exact lens_of e (by omega) (by simp only [List.length_append]; omega) (by omega) (by omega)
    · rw [a1_psh]
      exact pu_len hp hA
    · by_cases h0 : st.v.length = 0
      · rw [a1_non (by decide) (by decide) (by decide) (.inl h0)]
        exact lens_id st
      · obtain ⟨_, q1, q2, _⟩ := at_is n st.v hv (by omega)
        obtain ⟨e, t1⟩ := a1_del hp ⟨q1, q2⟩
        have := t1.f
        have := rs_len st.v q1
        exact lens_of e (by simp only [List.length_append]; omega) (by omega) (by omega) (by omega)
    · by_cases h0 : st.v.length = 0
      · rw [a1_non (by omega) (by omega) (by omega) (.inl h0)]
        exact lens_id st
      · obtain ⟨_, q1, q2, _⟩ := at_is n st.v hv (by omega)
        have := wy_len st.v k q1
        exact lens_of (a1_way h0 g) (by omega) (by omega) (by omega) (by omega)
    · rw [a1_non g1 g2 g3 (.inr g4)]
      exact lens_id st
  · refine ⟨ac0_ok hp hA k fun _ _ h0 => ((at_is n st.u hu h0).2.1 |> fun x => ⟨x, (at_is n st.u hu h0).2.2.1⟩), ?_⟩
    rcases kinds k with rfl | rfl | rfl | rfl | g | ⟨g1, g2, g3, g4⟩
    · obtain ⟨e, t1, t2⟩ := a0_tik hp (modI n st.u.length)
      have := t1.f
      have := t2.f
      exact lens_of e (by simp only [List.length_append]; omega) (by omega) (by omega) (by omega)
    · obtain ⟨e, t1⟩ := a0_clo hp (modI n st.u.length)
      have := t1.f
      exact lens_of e (by simp only [List.length_append]; omega) (by omega) (by omega) (by omega)
    · rw [a0_psh]
      exact pu_len hp hA
    · by_cases h0 : st.u.length = 0
      · rw [a0_non (by decide) (by decide) (by decide) (.inl h0)]
        exact lens_id st
      · obtain ⟨_, q1, q2, _⟩ := at_is n st.u hu (by omega)
        obtain ⟨e, _, t1, _⟩ := a0_del hp hA (by omega) ⟨q1, q2⟩ (lu := 0) (by omega)
        have := rs_len st.u q1
        exact lens_of e (by omega) (by simp only [List.length_append]; omega) (by omega) (k_len _ _ _)
    · by_cases h0 : st.u.length = 0
      · rw [a0_non (by omega) (by omega) (by omega) (.inl h0)]
        exact lens_id st
      · obtain ⟨_, q1, q2, _⟩ := at_is n st.u hu (by omega)
        have := wy_len st.u k q1
        exact lens_of (a0_way h0 g) (by omega) (by omega) (by omega) (by omega)
    · rw [a0_non g1 g2 g3 (.inr g4)]
      exact lens_id st
/-! ## the law's loops -/
structure XI where
  i : Int
def iQ (l : List E) (y : XI) : Prop := 0 ≤ y.i ∧ y.i ≤ l.length ∧ ∀ j : Nat, (j : Int) < y.i → (rl (l.getD j []) 0).length ≤ 100
def iM (l : List E) (y : XI) : Nat := l.length - y.i.toNat
theorem i_zero (l : List E) : iQ l ⟨0⟩ := ⟨Int.le_refl 0, Int.natCast_nonneg _, fun j hj => by simp only at hj; omega⟩
theorem i_all {l : List E} {i : Int} (hq : iQ l ⟨i⟩) : 0 ≤ i ∧ i ≤ l.length ∧ (i < l.length → i < 70 → stdBin .add .i64 i 1 = i + 1 ∧ iM l ⟨i + 1⟩ < iM l ⟨i⟩ ∧ ((rl (l.getD i.toNat []) 0).length ≤ 100 → iQ l ⟨i + 1⟩)) := by
  obtain ⟨h0, h1, h2⟩ := hq
  simp only at h0 h1 h2
  refine ⟨h0, h1, fun g1 g2 => ⟨by rw [b_add, wr _ (by omega) (by omega)], by simp only [iM]; omega, fun g => ⟨by simp only; omega, by simp only; omega, fun j hj => ?_⟩⟩⟩
  simp only at hj
  by_cases e : (j : Int) = i
  · have e : i.toNat = j := by omega
    rw [← e]
    exact g
  · exact h2 j (by omega)
theorem i_end {l : List E} {i : Int} (hq : iQ l ⟨i⟩) (h60 : (l.length : Int) ≤ 60) (hx : ¬ (i < l.length ∧ i < 70)) (hw : ∀ y ∈ l, wfS (.ints .u8 .nil) y 0) : AllOk l := by
  obtain ⟨h0, h1, h2⟩ := hq
  simp only at h0 h1 h2
  refine ⟨fun j hj => ?_, fun j hj y hy => ?_⟩
  · have := h2 j (by omega)
    omega
  · have e : l.getD j [] = l[j] := by rw [List.getD_eq_getElem?_getD, List.getElem?_eq_getElem hj]; rfl
    rw [e] at hy
    have h := hw _ (List.getElem_mem hj)
    exact wf8 (h.1 y hy)
structure XA where
  i : Int
  s : PR
def aQ (all : List E) (y : XA) : Prop := PI all y.s ∧ (0 ≤ y.i ∧ y.i ≤ 150) ∧ (y.s.m.length ≤ y.i ∧ y.s.k.length ≤ y.i) ∧ y.s.u.length + y.s.v.length ≤ 200
def aM (y : XA) : Nat := 150 - y.i.toNat
def x00 : LN := ⟨0, 0, 1, false, 0, 0, [], 0, 0, false⟩
theorem new99 : newL 99 = ⟨x00, zN, 0⟩ := by rfl
theorem may00 : mayL x00 = true := by decide
theorem a_zero {all : List E} (h : all.length ≤ 60) : aQ all ⟨0, ⟨(newL 99).x, (newL 99).x, [], [], [], []⟩⟩ := by
  rw [new99]
  refine ⟨⟨⟨may00, by decide, fun h => absurd rfl h, fun _ _ => rfl⟩, ⟨may00, by decide, fun h => absurd rfl h, fun _ _ => rfl⟩, ⟨fun h => absurd rfl h, fun _ _ => rfl, fun _ => Int.le_refl 0⟩, ⟨h, fun _ => ⟨Int.le_refl 0, Int.natCast_nonneg _⟩⟩, fun f hf => absurd hf List.not_mem_nil, fun f hf => absurd hf List.not_mem_nil⟩, ⟨Int.le_refl 0, by decide⟩, ⟨Int.le_refl 0, Int.le_refl 0⟩, by decide⟩
theorem a_all {all : List E} (hA : AllOk all) {i : Int} {s : PR} (hq : aQ all ⟨i, s⟩) : okS false all s ∧ (i < 150 → stdBin .add .i64 i 1 = i + 1 ∧ (∀ r, aM ⟨i + 1, r⟩ < aM ⟨i, s⟩) ∧ ∀ a k n, stdBin .add .i64 ((acA all a k n s).u.length) ((acA all a k n s).v.length) = (acA all a k n s).u.length + (acA all a k n s).v.length ∧ (((acA all a k n s).u.length : Int) + (acA all a k n s).v.length ≤ 200 → aQ all ⟨i + 1, acA all a k n s⟩)) := by
  obtain ⟨h1, ⟨h2, h3⟩, ⟨h4, h5⟩, h6⟩ := hq
  simp only at h1 h2 h3 h4 h5 h6
  have hS : okS false all s := ⟨rfl, h1, hA, ⟨by omega, by omega⟩, by omega, by omega⟩
  refine ⟨hS, fun hi => ⟨by rw [b_add, wr _ (by omega) (by omega)], fun r => by simp only [aM]; omega, fun a k n => ?_⟩⟩
  obtain ⟨p, q1, q2, q3, q4⟩ := acA_ok hS a k n
  exact ⟨by rw [b_add, wr _ (by omega) (by omega)], fun g => ⟨p, ⟨by simp only; omega, by simp only; omega⟩, ⟨by simp only; omega, by simp only; omega⟩, by simp only; omega⟩⟩
end Go.Proofs.Ytakebkfhigadiaa.LcB
