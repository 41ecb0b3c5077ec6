/-
  what an act does with two lines. No condition but what is asked.
-/
import Derived.Test.YtakebkfhigadiaaLcR
namespace Go.Proofs.Ytakebkfhigadiaa.LcA
open Go Go.Proofs.Ytakebkfhigadiaa.Ry Go.Proofs.Ytakebkfhigadiaa.HaR Go.Proofs.Ytakebkfhigadiaa.LiR Go.Proofs.Ytakebkfhigadiaa.LcT Go.Proofs.Ytakebkfhigadiaa.LcP Go.Proofs.Ytakebkfhigadiaa.LcR

set_option maxHeartbeats 4000000
set_option maxRecDepth 100000
def modI (n k : Int) : Int := if k < 1 then 0 else n % k
theorem mod_is {n k : Int} (h : 1 ≤ k ∧ k ≤ 4611686018427387904) : (stdBin .rem .i64 n k < 0 → stdBin .add .i64 (stdBin .rem .i64 n k) k = modI n k) ∧ (¬ stdBin .rem .i64 n k < 0 → stdBin .rem .i64 n k = modI n k) ∧ 0 ≤ modI n k ∧ modI n k < k := by
  have e : modI n k = n % k := if_neg (by omega)
  have e1 : stdBin .rem .i64 n k = n.tmod k := rfl
  have l1 := Int.tmod_lt_of_pos n (show 0 < k by omega)
  have l2 := Int.lt_tmod_of_pos n (show 0 < k by omega)
  have m0 := Int.emod_nonneg n (show k ≠ 0 by omega)
  have m1 := Int.emod_lt_of_pos n (show 0 < k by omega)
  have me : n.tmod k = n % k ∨ n.tmod k + k = n % k := by
    rw [Int.tmod_eq_emod]
    split
    · left; omega
    · right; omega
  rw [e, e1]
  refine ⟨fun g => ?_, fun g => ?_, m0, m1⟩
  · rw [b_add, wr _ (by omega) (by omega)]
    omega
  · omega
theorem at_is (n : Int) (w : List E) (h : w.length ≤ 300) (h0 : 0 < w.length) : (1 ≤ (w.length : Int) ∧ (w.length : Int) ≤ 4611686018427387904) ∧ 0 ≤ modI n w.length ∧ modI n w.length < w.length ∧ stdBin .add .i64 (modI n w.length) 1 = modI n w.length + 1 := by
  have hp : 1 ≤ (w.length : Int) ∧ (w.length : Int) ≤ 4611686018427387904 := by omega
  obtain ⟨_, _, h1, h2⟩ := mod_is (n := n) hp
  exact ⟨hp, h1, h2, by rw [b_add, wr _ (by omega) (by omega)]⟩
def ixA (a : Int) : Int := stdBin .rem .i64 (stdBin .sub .i64 a 1) 2
theorem kinds8 (k : Int) : k = 1 ∨ k = 9 ∨ k = 8 ∨ k = 2 ∨ k = 3 ∨ k = 4 ∨ k = 5 ∨ (k ≠ 1 ∧ k ≠ 9 ∧ k ≠ 8 ∧ (k < 2 ∨ 5 < k)) := by omega
theorem ix_3 (a : Int) : ixA a = 1 ∨ ixA a = 0 ∨ ixA a = -1 := by
  unfold ixA
  show (stdBin .sub .i64 a 1).tmod 2 = 1 ∨ (stdBin .sub .i64 a 1).tmod 2 = 0 ∨ (stdBin .sub .i64 a 1).tmod 2 = -1
  generalize stdBin .sub .i64 a 1 = x
  have l1 := Int.tmod_lt_of_pos x (show (0 : Int) < 2 by omega)
  have l2 := Int.lt_tmod_of_pos x (show (0 : Int) < 2 by omega)
  omega
def okS (bd : Bool) (all : List E) (st : PR) : Prop := bd = false ∧ PI all st ∧ AllOk all ∧ (st.u.length ≤ 300 ∧ st.v.length ≤ 300) ∧ st.m.length ≤ 1000 ∧ st.k.length ≤ 1000
def ok0 (a : Int) (bd : Bool) (all : List E) (st : PR) : Prop := (ixA a = 0 ∨ ixA a = -1) ∧ okS bd all st
def ok1 (a : Int) (bd : Bool) (all : List E) (st : PR) : Prop := ixA a = 1 ∧ okS bd all st
theorem by_A {all : List E} {m : List (Int × Int)} {x : LN} (h : A0 all m x) : lbB x = true := h.2.1
theorem okN_nil {e : Int} {g all : List E} {m k : List (Int × Int)} (c : Int) {lu lf : Nat} (h1 : e = 0) (h2 : g = []) (h3 : all.length ≤ 60) (h4 : k.length ≤ 1000000) (h5 : lu ≤ 1000) (h6 : lf ≤ 1000) : okN false e g all m k c lu lf = true := by
  subst h1 h2
  unfold okN
  simp [h3, h4, h5, h6]
theorem n1_nil (k : List (Int × Int)) (c : Int) : n1K [] k c = k := rfl
theorem push_y (x : LN) (p : List Int) (n : Int) : (pushL x p n).y = zN := by
  unfold pushL
  repeat' split
  all_goals rfl
theorem rs_is (w : List E) (k : Int) : List.drop (Int.toNat 0) (List.take k.toNat w) ++ List.drop (k + 1).toNat (List.take (Int.toNat w.length) w) = rsW w k := by
  rw [Int.toNat_natCast, List.take_length]
  rfl
theorem rs_len (w : List E) {k : Int} (h0 : 0 ≤ k) : (rsW w k).length ≤ w.length := by
  unfold rsW
  rw [List.length_append, List.length_take, List.length_drop]
  omega
structure Told (x : LN) (r : LD) : Prop where
  b : lbB x = true
  e : r.e = 0
  g : r.y.g = []
  f : r.y.f.length ≤ 20
theorem told_of {all a2 : List E} {m m2 : List (Int × Int)} {L : Int} {x : LN} {r : LD} (h : A0 a2 m2 x) (h2 : Nws all m L r) : Told x r := ⟨by_A h, h2.1, h2.2.1, h2.2.2.1⟩
theorem a1_tik {all : List E} {st : PR} (h : PI all st) (n : Int) : ac1 all 1 n st = ⟨st.a, (fluL (tikL st.d 99).x).x, st.u, (st.v ++ (tikL st.d 99).y.f) ++ (fluL (tikL st.d 99).x).y.f, st.m, st.k⟩ ∧ Told st.d (tikL st.d 99) ∧ Told (tikL st.d 99).x (fluL (tikL st.d 99).x) := by
  obtain ⟨p1, p2, p3, p4, p5, p6⟩ := h
  obtain ⟨a1, a2, a3, a4⟩ := tik_0 mok0 p2
  obtain ⟨b1, b2, b3, b4⟩ := flu_0 mok0 a1
  refine ⟨?_, told_of p2 a4, told_of a1 b4⟩
  unfold ac1
  rw [if_pos rfl]
  unfold nw1
  rw [kc_nil b4.2.1, kc_nil a4.2.1]
theorem a0_tik {all : List E} {st : PR} (h : PI all st) (n : Int) : ac0 all 1 n st = ⟨(fluL (tikL st.a 99).x).x, st.d, (st.u ++ (tikL st.a 99).y.f) ++ (fluL (tikL st.a 99).x).y.f, st.v, st.m, st.k⟩ ∧ Told st.a (tikL st.a 99) ∧ Told (tikL st.a 99).x (fluL (tikL st.a 99).x) := by
  obtain ⟨p1, p2, p3, p4, p5, p6⟩ := h
  obtain ⟨a1, a2, a3, a4⟩ := tik_0 p4 p1
  obtain ⟨b1, b2, b3, b4⟩ := flu_0 p4 a1
  exact ⟨rfl, told_of p1 a4, told_of a1 b4⟩
theorem a1_clo {all : List E} {st : PR} (h : PI all st) (n : Int) : ac1 all 9 n st = ⟨st.a, (cloL st.d 99).x, st.u, st.v ++ (cloL st.d 99).y.f, st.m, st.k⟩ ∧ Told st.d (cloL st.d 99) := by
  obtain ⟨p1, p2, p3, p4, p5, p6⟩ := h
  obtain ⟨a1, a2, a4⟩ := clo_0 p2
  refine ⟨?_, told_of p2 a4⟩
  unfold ac1
  rw [if_neg (by decide), if_pos rfl]
  unfold nw1
  rw [kc_nil a4.2.1]
theorem a0_clo {all : List E} {st : PR} (h : PI all st) (n : Int) : ac0 all 9 n st = ⟨(cloL st.a 99).x, st.d, st.u ++ (cloL st.a 99).y.f, st.v, st.m, st.k⟩ ∧ Told st.a (cloL st.a 99) := by
  obtain ⟨p1, p2, p3, p4, p5, p6⟩ := h
  obtain ⟨a1, a2, a4⟩ := clo_0 p1
  exact ⟨rfl, told_of p1 a4⟩
theorem a_psh {all : List E} {st : PR} (h : PI all st) (ha : AllOk all) : (st.a.c = 0 ∨ all.length ≤ mget st.m st.a.c → puP all st = st) ∧ (st.a.c ≠ 0 → mget st.m st.a.c < all.length → puP all st = ⟨(psL all st).x, st.d, st.u, st.v, mput st.m st.a.c (mget st.m st.a.c + 1), st.k⟩ ∧ Told st.a (psL all st) ∧ 0 ≤ mget st.m st.a.c ∧ stdBin .add .i64 (mget st.m st.a.c) 1 = mget st.m st.a.c + 1) := by
  refine ⟨fun g => ?_, fun hc hlt => ?_⟩
  · unfold puP
    rw [if_pos g]
  · obtain ⟨p1, p2, p3, p4, p5, p6⟩ := h
    have hp := fun s => mget_put st.m st.a.c (mget st.m st.a.c + 1) s
    obtain ⟨q1, q2, q3⟩ := push_0 p4 p1 hc hlt ha.1 ha.2 _ hp
    have h0 := (p4.2 st.a.c)
    have h1 := p4.1
    refine ⟨?_, told_of (r := psL all st) p1 q3, h0.1, by rw [b_add, wr _ (by omega) (by omega)]⟩
    unfold puP
    rw [if_neg (by omega)]
    unfold nw0
    have hy : (psL all st).y = zN := push_y _ _ _
    rw [hy]
    show PR.mk _ _ (st.u ++ []) _ _ _ = _
    rw [List.append_nil]
theorem a1_psh (all : List E) (n : Int) (st : PR) : ac1 all 8 n st = puP all st := by
  unfold ac1
  rw [if_neg (by decide), if_neg (by decide), if_pos rfl]
theorem a0_psh (all : List E) (n : Int) (st : PR) : ac0 all 8 n st = puP all st := by
  unfold ac0
  rw [if_neg (by decide), if_neg (by decide), if_pos rfl]
theorem a1_non {all : List E} {kd n : Int} {st : PR} (h1 : kd ≠ 1) (h9 : kd ≠ 9) (h8 : kd ≠ 8) (h : st.v.length = 0 ∨ kd < 2 ∨ 5 < kd) : ac1 all kd n st = st := by
  unfold ac1
  rw [if_neg h1, if_neg h9, if_neg h8, if_pos h]
theorem a0_non {all : List E} {kd n : Int} {st : PR} (h1 : kd ≠ 1) (h9 : kd ≠ 9) (h8 : kd ≠ 8) (h : st.u.length = 0 ∨ kd < 2 ∨ 5 < kd) : ac0 all kd n st = st := by
  unfold ac0
  rw [if_neg h1, if_neg h9, if_neg h8, if_pos h]
theorem wy_2 (w : List E) (k : Int) : wyW w 2 k = rsW w k := rfl
theorem wy_3 (w : List E) (k : Int) : wyW w 3 k = rsW w k := rfl
theorem wy_4 (w : List E) (k : Int) : wyW w 4 k = w ++ [nf (w.getD k.toNat [])] := rfl
theorem wy_5 (w : List E) (k : Int) : wyW w 5 k = rsW w k ++ [nf (w.getD k.toNat [])] := rfl
theorem a1_way {all : List E} {kd n : Int} {st : PR} (hv : ¬ st.v.length = 0) (h : kd = 3 ∨ kd = 4 ∨ kd = 5) : ac1 all kd n st = ⟨st.a, st.d, st.u, wyW st.v kd n, st.m, st.k⟩ := by
  unfold ac1
  rw [if_neg (by omega), if_neg (by omega), if_neg (by omega), if_neg (by omega), if_neg (by omega)]
theorem a0_way {all : List E} {kd n : Int} {st : PR} (hv : ¬ st.u.length = 0) (h : kd = 3 ∨ kd = 4 ∨ kd = 5) : ac0 all kd n st = ⟨st.a, st.d, wyW st.u kd n, st.v, st.m, st.k⟩ := by
  unfold ac0
  rw [if_neg (by omega), if_neg (by omega), if_neg (by omega), if_neg (by omega), if_neg (by omega)]
theorem a1_del {all : List E} {n : Int} {st : PR} (h : PI all st) (hn : 0 ≤ n ∧ n < st.v.length) : ac1 all 2 n st = ⟨(hrL st.a (st.v.getD n.toNat [])).x, st.d, st.u ++ (hrL st.a (st.v.getD n.toNat [])).y.f, rsW st.v n, st.m, st.k⟩ ∧ Told st.a (hrL st.a (st.v.getD n.toNat [])) := by
  obtain ⟨p1, p2, p3, p4, p5, p6⟩ := h
  have hf := fr_at p6 hn.1 hn.2
  obtain ⟨r1, r2, r3⟩ := hear_0 p1 hf.1 (fr_no3 hf)
  refine ⟨?_, told_of (r := hrL st.a (st.v.getD n.toNat [])) p1 r3⟩
  unfold ac1
  rw [if_neg (by decide), if_neg (by decide), if_neg (by decide), if_neg (by omega), if_pos rfl]
  rfl
theorem a0_del {all : List E} {n : Int} {st : PR} (h : PI all st) (ha : AllOk all) (hk : st.k.length ≤ 1000000) (hn : 0 ≤ n ∧ n < st.u.length) {lu : Nat} (hlu : lu ≤ 1000) : ac0 all 2 n st = ⟨st.a, (hrL st.d (st.u.getD n.toNat [])).x, rsW st.u n, st.v ++ (hrL st.d (st.u.getD n.toNat [])).y.f, st.m, n1K (hrL st.d (st.u.getD n.toNat [])).y.g st.k (hrL st.d (st.u.getD n.toNat [])).x.c⟩ ∧ lbB st.d = true ∧ (hrL st.d (st.u.getD n.toNat [])).y.f.length ≤ 20 ∧ okN false (hrL st.d (st.u.getD n.toNat [])).e (hrL st.d (st.u.getD n.toNat [])).y.g all st.m st.k (hrL st.d (st.u.getD n.toNat [])).x.c lu (hrL st.d (st.u.getD n.toNat [])).y.f.length = true := by
  obtain ⟨p1, p2, p3, p4, p5, p6⟩ := h
  have hf := fr_at p5 hn.1 hn.2
  obtain ⟨r1, r2, r3, r4, r5, r6⟩ := hear_1 (L := st.a.l) (all := all) (m := st.m) p2 p3 hf.1 (fun e => by
    obtain ⟨x1, x2, x3, x4, x5⟩ := hf.2.2 e
    exact ⟨x1, x3, x4, x5⟩) (may_h (may_L p1.1).1).1
  have r3 : (hrL st.d (st.u.getD n.toNat [])).e = 0 := r3
  have r4 : (hrL st.d (st.u.getD n.toNat [])).y.f.length ≤ 20 := r4
  refine ⟨?_, by_A p2, r4, ?_⟩
  · unfold ac0
    rw [if_neg (by decide), if_neg (by decide), if_neg (by decide), if_neg (by omega), if_pos rfl]
    rfl
  · rcases r6 with ⟨g1, _⟩ | ⟨g1, g2, g3, _⟩
    · exact okN_nil _ r3 g1 p4.1 hk hlu (by omega)
    · have g1 : (hrL st.d (st.u.getD n.toNat [])).y.g = [[.ints (rl (st.u.getD n.toNat []) 4)]] := g1
      have g2 : mget st.k (hrL st.d (st.u.getD n.toNat [])).x.c < mget st.m (hrL st.d (st.u.getD n.toNat [])).x.c := g2
      have g3 : rl (st.u.getD n.toNat []) 4 = rl (all.getD (mget st.k (hrL st.d (st.u.getD n.toNat [])).x.c).toNat []) 0 := g3
      have q1 := p3.2.2 (hrL st.d (st.u.getD n.toNat [])).x.c
      have q2 := (p4.2 (hrL st.d (st.u.getD n.toNat [])).x.c).2
      have q3 := p4.1
      have q4 := ha.2 (mget st.k (hrL st.d (st.u.getD n.toNat [])).x.c).toNat (by omega)
      rw [← g3] at q4
      unfold okN
      rw [g1]
      simp only [Bool.and_eq_true, Bool.or_eq_true, decide_eq_true_eq]
      exact ⟨⟨trivial, r3, Nat.le_refl 1, q3, hk, hlu, by omega⟩, .inr ⟨q1, g2, q2, g3, q4⟩⟩

structure Lm where
  f : Lc
  u : Int → List E → List E → List E
  v : Int → List E → List E → List E
  k : Int → List E → List (Int × Int) → Int → List (Int × Int)
def Lm.std : Lm := ⟨Lc.std, fun e u f => if e = 0 then u ++ f else u, fun e v f => if e = 0 then v else v ++ f, fun e g k c => if e = 0 then k else n1K g k c⟩
noncomputable def c_mnews (F : Lm) : Con := fun xs h => match xs, h with
  | [.one (.ptr 0 0), .one (.val (.int .i64 en)), .agg [.sl none (.recs (.int .i64 (.int .i64 (.int .i64 (.int .i64 (.ints .u8 .nil))))) y_f), .sl none (.recs (.ints .u8 .nil) y_g), .val (.bool _), .val (.int .i64 _)], .one (.val (.int .i64 e)), .one (.sl none (.recs (.ints .u8 .nil) all))], [(0, .cells 55 [.val (.int .i64 a_l), .val (.int .i64 a_c), .val (.int .i64 a_p), .val (.bool a_o), .val (.int .i64 a_b), .val (.int .i64 a_s), .sl none (.recs (.ints .u8 .nil) a_q), .val (.int .i64 a_t), .val (.int .i64 a_n), .val (.bool a_w), .val (.int .i64 d_l), .val (.int .i64 d_c), .val (.int .i64 d_p), .val (.bool d_o), .val (.int .i64 d_b), .val (.int .i64 d_s), .sl none (.recs (.ints .u8 .nil) d_q), .val (.int .i64 d_t), .val (.int .i64 d_n), .val (.bool d_w), .sl (some (1, 84)) (.recs (.int .i64 (.int .i64 (.int .i64 (.int .i64 (.ints .u8 .nil))))) u), .sl (some (2, 84)) (.recs (.int .i64 (.int .i64 (.int .i64 (.int .i64 (.ints .u8 .nil))))) v), .mp 3, .mp 4, .val (.bool bd)]), (1, .tok), (2, .tok), (3, .mp m), (4, .mp k)] => some ⟨(en = 0 ∧ F.f.x_0 bd e y_g u y_f = true) ∨ (en = 1 ∧ F.f.x_1 bd e y_g all m k d_c v y_f = true), .tup [], [(0, .cells 55 [.val (.int .i64 a_l), .val (.int .i64 a_c), .val (.int .i64 a_p), .val (.bool a_o), .val (.int .i64 a_b), .val (.int .i64 a_s), .sl none (.recs (.ints .u8 .nil) a_q), .val (.int .i64 a_t), .val (.int .i64 a_n), .val (.bool a_w), .val (.int .i64 d_l), .val (.int .i64 d_c), .val (.int .i64 d_p), .val (.bool d_o), .val (.int .i64 d_b), .val (.int .i64 d_s), .sl none (.recs (.ints .u8 .nil) d_q), .val (.int .i64 d_t), .val (.int .i64 d_n), .val (.bool d_w), .sl (some (1, 84)) (.recs (.int .i64 (.int .i64 (.int .i64 (.int .i64 (.ints .u8 .nil))))) (F.u en u y_f)), .sl (some (2, 84)) (.recs (.int .i64 (.int .i64 (.int .i64 (.int .i64 (.ints .u8 .nil))))) (F.v en v y_f)), .mp 3, .mp 4, .val (.bool false)]), (1, .tok), (2, .tok), (3, .mp m), (4, .mp (F.k en y_g k d_c))], [.one (.ptr 0 0), Any, Any, Any, Any]⟩
  | _, _ => none
theorem ok_mnews : ConOk Try.prog 30 (c_mnews Lm.std) := by
  refine ⟨ok_news0.1, fun args h p hc hC G vs h1 h2 h3 hv => ?_⟩
  unfold c_mnews at hc
  split at hc
  · rename_i en y_f y_g y_d y_s e all a_l a_c a_p a_o a_b a_s a_q a_t a_n a_w d_l d_c d_p d_o d_b d_s d_q d_t d_n d_w u v bd m k
    cases hc
    rcases hC with ⟨rfl, hl⟩ | ⟨rfl, hl⟩
    · have hv' : sasIs G [.one (.ptr 0 0), .one (.num .i64 0), .agg [.sl none (.recs (.int .i64 (.int .i64 (.int .i64 (.int .i64 (.ints .u8 .nil))))) y_f), .sl none (.recs (.ints .u8 .nil) y_g), .val (.bool y_d), .val (.int .i64 y_s)], .one (.val (.int .i64 e)), .one (.sl none (.recs (.ints .u8 .nil) all))] vs := by
        match vs, hv with
        | [_, _, _, _, _], hv => exact hv
      have := ok_news0.2 [.one (.ptr 0 0), .one (.num .i64 0), .agg [.sl none (.recs (.int .i64 (.int .i64 (.int .i64 (.int .i64 (.ints .u8 .nil))))) y_f), .sl none (.recs (.ints .u8 .nil) y_g), .val (.bool y_d), .val (.int .i64 y_s)], .one (.val (.int .i64 e)), .one (.sl none (.recs (.ints .u8 .nil) all))] _ _ rfl hl G vs h1 h2 h3 hv'
      exact this
    · have hv' : sasIs G [.one (.ptr 0 0), .one (.num .i64 1), .agg [.sl none (.recs (.int .i64 (.int .i64 (.int .i64 (.int .i64 (.ints .u8 .nil))))) y_f), .sl none (.recs (.ints .u8 .nil) y_g), .val (.bool y_d), .val (.int .i64 y_s)], .one (.val (.int .i64 e)), .one (.sl none (.recs (.ints .u8 .nil) all))] vs := by
        match vs, hv with
        | [_, _, _, _, _], hv => exact hv
      have := ok_news1.2 [.one (.ptr 0 0), .one (.num .i64 1), .agg [.sl none (.recs (.int .i64 (.int .i64 (.int .i64 (.int .i64 (.ints .u8 .nil))))) y_f), .sl none (.recs (.ints .u8 .nil) y_g), .val (.bool y_d), .val (.int .i64 y_s)], .one (.val (.int .i64 e)), .one (.sl none (.recs (.ints .u8 .nil) all))] _ _ rfl hl G vs h1 h2 h3 hv'
      exact this
  · cases hc
theorem w_mnews (F : Lm) (en : Int) (y_f y_g : List E) (y_d : Bool) (y_s e : Int) (all : List E) (a_l : Int) (a_c : Int) (a_p : Int) (a_o : Bool) (a_b : Int) (a_s : Int) (a_q : List E) (a_t : Int) (a_n : Int) (a_w : Bool) (d_l : Int) (d_c : Int) (d_p : Int) (d_o : Bool) (d_b : Int) (d_s : Int) (d_q : List E) (d_t : Int) (d_n : Int) (d_w : Bool) (u : List E) (v : List E) (m : List (Int × Int)) (k : List (Int × Int)) (bd : Bool) : c_mnews F [.one (.ptr 0 0), .one (.val (.int .i64 en)), .agg [.sl none (.recs (.int .i64 (.int .i64 (.int .i64 (.int .i64 (.ints .u8 .nil))))) y_f), .sl none (.recs (.ints .u8 .nil) y_g), .val (.bool y_d), .val (.int .i64 y_s)], .one (.val (.int .i64 e)), .one (.sl none (.recs (.ints .u8 .nil) all))] [(0, .cells 55 [.val (.int .i64 a_l), .val (.int .i64 a_c), .val (.int .i64 a_p), .val (.bool a_o), .val (.int .i64 a_b), .val (.int .i64 a_s), .sl none (.recs (.ints .u8 .nil) a_q), .val (.int .i64 a_t), .val (.int .i64 a_n), .val (.bool a_w), .val (.int .i64 d_l), .val (.int .i64 d_c), .val (.int .i64 d_p), .val (.bool d_o), .val (.int .i64 d_b), .val (.int .i64 d_s), .sl none (.recs (.ints .u8 .nil) d_q), .val (.int .i64 d_t), .val (.int .i64 d_n), .val (.bool d_w), .sl (some (1, 84)) (.recs (.int .i64 (.int .i64 (.int .i64 (.int .i64 (.ints .u8 .nil))))) u), .sl (some (2, 84)) (.recs (.int .i64 (.int .i64 (.int .i64 (.int .i64 (.ints .u8 .nil))))) v), .mp 3, .mp 4, .val (.bool bd)]), (1, .tok), (2, .tok), (3, .mp m), (4, .mp k)] = some ⟨(en = 0 ∧ F.f.x_0 bd e y_g u y_f = true) ∨ (en = 1 ∧ F.f.x_1 bd e y_g all m k d_c v y_f = true), .tup [], [(0, .cells 55 [.val (.int .i64 a_l), .val (.int .i64 a_c), .val (.int .i64 a_p), .val (.bool a_o), .val (.int .i64 a_b), .val (.int .i64 a_s), .sl none (.recs (.ints .u8 .nil) a_q), .val (.int .i64 a_t), .val (.int .i64 a_n), .val (.bool a_w), .val (.int .i64 d_l), .val (.int .i64 d_c), .val (.int .i64 d_p), .val (.bool d_o), .val (.int .i64 d_b), .val (.int .i64 d_s), .sl none (.recs (.ints .u8 .nil) d_q), .val (.int .i64 d_t), .val (.int .i64 d_n), .val (.bool d_w), .sl (some (1, 84)) (.recs (.int .i64 (.int .i64 (.int .i64 (.int .i64 (.ints .u8 .nil))))) (F.u en u y_f)), .sl (some (2, 84)) (.recs (.int .i64 (.int .i64 (.int .i64 (.int .i64 (.ints .u8 .nil))))) (F.v en v y_f)), .mp 3, .mp 4, .val (.bool false)]), (1, .tok), (2, .tok), (3, .mp m), (4, .mp (F.k en y_g k d_c))], [.one (.ptr 0 0), Any, Any, Any, Any]⟩ := by
  first
    | (cbv; done)
    | rfl

structure La where
  y_ok0 : Int → Bool → List E → PR → Prop
  y_ok1 : Int → Bool → List E → PR → Prop
  y_a0 : List E → Int → Int → PR → PR
  y_a1 : List E → Int → Int → PR → PR
  y_at : Int → Int → Int
  y_ak : Int → Bool
def La.std : La := ⟨ok0, ok1, fun all k n st => ac0 all k (modI n st.u.length) st, fun all k n st => ac1 all k (modI n st.v.length) st, modI, fun k => decide (1 ≤ k ∧ k ≤ 4611686018427387904)⟩

set_option maxHeartbeats 4000000 in
noncomputable def c_at (F : La) : Con := fun xs h => match xs, h with
  | [.one (.val (.int .i64 n)), .one (.val (.int .i64 k))], [] => some ⟨F.y_ak k = true, .sa (I (F.y_at n k)), [], [Any, Any]⟩
  | _, _ => none
set_option cbv.maxSteps 4000000 in
set_option maxHeartbeats 4000000 in
set_option maxRecDepth 100000 in
theorem x_at (n : Int) (k : Int) (hC : La.std.y_ak k = true) : Does [] Try.f34 [.one (.val (.int .i64 n)), .one (.val (.int .i64 k))] [] ⟨La.std.y_ak k = true, .sa (I (La.std.y_at n k)), [], [Any, Any]⟩ := by
  intro b gv
  have hp : 1 ≤ k ∧ k ≤ 4611686018427387904 := of_decide_eq_true (show decide (1 ≤ k ∧ k ≤ 4611686018427387904) = true from hC)
  have hk := mod_is (n := n) (k := k) hp
  have hfs := FsOk.nil
  generalize hF : La.std = F at hC hfs ⊢
  generalize hG0 : LiR.Ks.std = G0 at hC hfs ⊢
  generalize hG1 : Lm.std = G1 at hC hfs ⊢
  generalize hA : Ar.std = A
  generalize hL : Lp _ _ _ = L
  obtain ⟨Z, zq⟩ := z_all
  refine @cd_open _ _ _ _ _ _ _ (lp_mono hL) _ _ zq rfl ?_
  repeat' (first
    | (refine z_open zq ?_; try dsimp only)
    | refine cd_seq zq ?_ (lp_mono hL)
    | refine cd_blk zq ?_
    | refine cd_ret ?_
    | refine cd_skip ?_
    | refine cd_exit ?_
    | refine cd_loop ?_
    | refine cd_cond rfl ?_
    | refine cd_condT rfl ?_
    | refine cd_condF rfl ?_
    | (refine Cd.mk ?_; cbv)
    | (refine Ends1.mk ?_; cbv)
    | (refine Fin1.mk ?_; cbv)
    | exact trivial
    | refine And.intro ?_ ?_
    | refine orf fun _ => ?_
    | refine ort fun _ => ?_)
  all_goals
    clear hL zq Z
    try clear hfs
    subst hA hF hG0 hG1
    simp only [La.std, Ar.std] at *
    try (grind [stdCmp])
set_option maxHeartbeats 4000000 in
theorem ok_at : ConOk Try.prog 34 (c_at La.std) := by
  refine con_of FsOk.nil Try.func34 rfl rfl fun xs h p hp => ?_
  unfold c_at at hp
  split at hp
  · cases hp
    exact ⟨lee_le rfl, fun hC _ => @x_at _ _ hC⟩
  · cases hp
set_option maxHeartbeats 4000000 in
theorem w_at (F : La) (n : Int) (k : Int) : c_at F [.one (.val (.int .i64 n)), .one (.val (.int .i64 k))] [] = some ⟨F.y_ak k = true, .sa (I (F.y_at n k)), [], [Any, Any]⟩ := by
  first
    | (cbv; done)
    | rfl
end Go.Proofs.Ytakebkfhigadiaa.LcA
