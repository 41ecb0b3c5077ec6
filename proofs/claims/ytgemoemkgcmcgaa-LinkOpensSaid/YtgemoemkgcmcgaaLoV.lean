/-
  the code behind the rounds of LinkOpens: silence ends both ends. No condition.
-/
import Derived.Test.YtgemoemkgcmcgaaLoT
import Derived.Test.YtgemoemkgcmcgaaRyOp
import Derived.Test.YtgemoemkgcmcgaaRyZ
namespace Go.Proofs.Ytgemoemkgcmcgaa.LoV
open Go Go.Proofs.Ytgemoemkgcmcgaa.Ry Go.Proofs.Ytgemoemkgcmcgaa.SeR Go.Proofs.Ytgemoemkgcmcgaa.HaR Go.Proofs.Ytgemoemkgcmcgaa.LiR Go.Proofs.Ytgemoemkgcmcgaa.LkR Go.Proofs.Ytgemoemkgcmcgaa.LoT

def tl : Nat → Code → Code
  | 0, c => c
  | n + 1, .seq _ b => tl n b
  | _ + 1, c => c
def tkk (k : KN) : KN := (tikK k 99).k
def dnk (k : KN) : Bool := (tikK k 99).y.d
def bump (d : Int) (b : Bool) : Int := if b = true then d + 1 else d
def itk : Nat → KN → KN
  | 0, k => k
  | n + 1, k => tkk (itk n k)
def cnt : Nat → KN → Int
  | 0, _ => 0
  | n + 1, k => bump (cnt n k) (dnk (itk n k))
theorem itk_front (n : Nat) (k : KN) : itk n (tkk k) = itk (n + 1) k := by
  induction n with
  | zero => rfl
  | succ n ih => exact congrArg tkk ih
theorem okS_at : ∀ (t : Nat) (k : KN), okS t k = true → ∀ n : Nat, n < t → kbB (itk n k) = true ∧ (tikK (itk n k) 99).e = 0
  | 0, _, _, n, h => absurd h (Nat.not_lt_zero n)
  | t + 1, k, h, n, hn => by
    have h : (kbB k && ((tikK k 99).e == 0 && okS t (tikK k 99).k)) = true := h
    rw [Bool.and_eq_true, Bool.and_eq_true, beq_iff_eq] at h
    cases n with
    | zero => exact ⟨h.1, h.2.1⟩
    | succ n =>
      have := okS_at t (tkk k) h.2.2 n (by omega)
      rw [itk_front] at this
      exact this
theorem cnt_front (n : Nat) (k : KN) : cnt (n + 1) k = bump 0 (dnk k) + cnt n (tkk k) := by
  induction n with
  | zero => simp [cnt, itk]
  | succ n ih =>
    show bump (cnt (n + 1) k) (dnk (itk (n + 1) k)) = _ + bump (cnt n (tkk k)) (dnk (itk n (tkk k)))
    rw [ih, itk_front]
    unfold bump
    split <;> omega
theorem sil_cnt : ∀ (t : Nat) (k : KN) (m : Nat), (sil t k m : Int) = m + cnt t k
  | 0, k, m => by simp [sil, cnt]
  | t + 1, k, m => by
    rw [cnt_front]
    show (sil t (tkk k) (if dnk k = true then m + 1 else m) : Int) = _
    rw [sil_cnt]
    unfold bump
    split <;> (push_cast; omega)
structure XG where
  i : Int
  a : KN
  b : KN
  d : Int
  e : Int
def gQ (w : Int) (p : PR) (y : XG) : Prop := 0 ≤ y.i ∧ y.i ≤ 6 + w % 9 ∧ y.a = itk y.i.toNat p.a ∧ y.b = itk y.i.toNat p.b ∧ y.d = cnt y.i.toNat p.a ∧ y.e = cnt y.i.toNat p.b
noncomputable def gI (a1 : Int) (y : XG) : St := stOf Try.f4.ntmps [(1, .val (.int .u8 a1)), (11, .ptr 1 0), (22, .ptr 2 0), (23, .val (.int .i64 y.i))] [(1, .cells 54 [.val (.int .i64 y.a.h), .val (.int .i64 y.a.g), .val (.int .i64 y.a.x.l), .val (.int .i64 y.a.x.c), .val (.int .i64 y.a.x.p), .val (.bool y.a.x.o), .val (.int .i64 y.a.x.b), .val (.int .i64 y.a.x.s), .sl none (.recs (.ints .u8 .nil) y.a.x.q), .val (.int .i64 y.a.x.t), .val (.int .i64 y.a.x.n), .val (.bool y.a.x.w), .val (.int .i64 y.a.u), .val (.int .i64 y.a.v), .val (.int .i64 y.b.h), .val (.int .i64 y.b.g), .val (.int .i64 y.b.x.l), .val (.int .i64 y.b.x.c), .val (.int .i64 y.b.x.p), .val (.bool y.b.x.o), .val (.int .i64 y.b.x.b), .val (.int .i64 y.b.x.s), .sl none (.recs (.ints .u8 .nil) y.b.x.q), .val (.int .i64 y.b.x.t), .val (.int .i64 y.b.x.n), .val (.bool y.b.x.w), .val (.int .i64 y.b.u), .val (.int .i64 y.b.v)]), (2, .cells 63 [.val (.int .i64 y.d), .val (.int .i64 y.e)])] [Any, Any, Any]
def gM (y : XG) : Nat := 20 - y.i.toNat
def gR (st : St) : XG := ⟨slotI st 23, ⟨valI (cellC st 11 0), valI (cellC st 11 1), ⟨valI (cellC st 11 2), valI (cellC st 11 3), valI (cellC st 11 4), valB (cellC st 11 5), valI (cellC st 11 6), valI (cellC st 11 7), valR st.heap (cellC st 11 8), valI (cellC st 11 9), valI (cellC st 11 10), valB (cellC st 11 11)⟩, valI (cellC st 11 12), valI (cellC st 11 13)⟩, ⟨valI (cellC st 11 14), valI (cellC st 11 15), ⟨valI (cellC st 11 16), valI (cellC st 11 17), valI (cellC st 11 18), valB (cellC st 11 19), valI (cellC st 11 20), valI (cellC st 11 21), valR st.heap (cellC st 11 22), valI (cellC st 11 23), valI (cellC st 11 24), valB (cellC st 11 25)⟩, valI (cellC st 11 26), valI (cellC st 11 27)⟩, valI (cellC st 22 0), valI (cellC st 22 1)⟩
structure XH where
  k : Nat
def hQ (y : XH) : Prop := y.k ≤ 2
noncomputable def hI (G : Ts) (a1 i : Int) (a b : KN) (d e : Int) (y : XH) : St := match y.k with
  | 0 => stOf Try.f4.ntmps [(1, .val (.int .u8 a1)), (11, .ptr 1 0), (22, .ptr 2 0), (23, .val (.int .i64 i)), (24, .num .i64 0)] [(1, .cells 54 [.val (.int .i64 a.h), .val (.int .i64 a.g), .val (.int .i64 a.x.l), .val (.int .i64 a.x.c), .val (.int .i64 a.x.p), .val (.bool a.x.o), .val (.int .i64 a.x.b), .val (.int .i64 a.x.s), .sl none (.recs (.ints .u8 .nil) a.x.q), .val (.int .i64 a.x.t), .val (.int .i64 a.x.n), .val (.bool a.x.w), .val (.int .i64 a.u), .val (.int .i64 a.v), .val (.int .i64 b.h), .val (.int .i64 b.g), .val (.int .i64 b.x.l), .val (.int .i64 b.x.c), .val (.int .i64 b.x.p), .val (.bool b.x.o), .val (.int .i64 b.x.b), .val (.int .i64 b.x.s), .sl none (.recs (.ints .u8 .nil) b.x.q), .val (.int .i64 b.x.t), .val (.int .i64 b.x.n), .val (.bool b.x.w), .val (.int .i64 b.u), .val (.int .i64 b.v)]), (2, .cells 63 [.val (.int .i64 d), .val (.int .i64 e)])] [Any, Any, Any]
  | 1 => stOf Try.f4.ntmps [(1, .val (.int .u8 a1)), (11, .ptr 1 0), (22, .ptr 2 0), (23, .val (.int .i64 i)), (24, .num .i64 1)] [(1, .cells 54 [.val (.int .i64 (G.t_tik a 99).k.h), .val (.int .i64 (G.t_tik a 99).k.g), .val (.int .i64 (G.t_tik a 99).k.x.l), .val (.int .i64 (G.t_tik a 99).k.x.c), .val (.int .i64 (G.t_tik a 99).k.x.p), .val (.bool (G.t_tik a 99).k.x.o), .val (.int .i64 (G.t_tik a 99).k.x.b), .val (.int .i64 (G.t_tik a 99).k.x.s), .sl none (.recs (.ints .u8 .nil) (G.t_tik a 99).k.x.q), .val (.int .i64 (G.t_tik a 99).k.x.t), .val (.int .i64 (G.t_tik a 99).k.x.n), .val (.bool (G.t_tik a 99).k.x.w), .val (.int .i64 (G.t_tik a 99).k.u), .val (.int .i64 (G.t_tik a 99).k.v), .val (.int .i64 b.h), .val (.int .i64 b.g), .val (.int .i64 b.x.l), .val (.int .i64 b.x.c), .val (.int .i64 b.x.p), .val (.bool b.x.o), .val (.int .i64 b.x.b), .val (.int .i64 b.x.s), .sl none (.recs (.ints .u8 .nil) b.x.q), .val (.int .i64 b.x.t), .val (.int .i64 b.x.n), .val (.bool b.x.w), .val (.int .i64 b.u), .val (.int .i64 b.v)]), (2, .cells 63 [.val (.int .i64 (bump d (G.t_tik a 99).y.d)), .val (.int .i64 e)])] [Any, Any, Any]
  | _ => stOf Try.f4.ntmps [(1, .val (.int .u8 a1)), (11, .ptr 1 0), (22, .ptr 2 0), (23, .val (.int .i64 i)), (24, .num .i64 2)] [(1, .cells 54 [.val (.int .i64 (G.t_tik a 99).k.h), .val (.int .i64 (G.t_tik a 99).k.g), .val (.int .i64 (G.t_tik a 99).k.x.l), .val (.int .i64 (G.t_tik a 99).k.x.c), .val (.int .i64 (G.t_tik a 99).k.x.p), .val (.bool (G.t_tik a 99).k.x.o), .val (.int .i64 (G.t_tik a 99).k.x.b), .val (.int .i64 (G.t_tik a 99).k.x.s), .sl none (.recs (.ints .u8 .nil) (G.t_tik a 99).k.x.q), .val (.int .i64 (G.t_tik a 99).k.x.t), .val (.int .i64 (G.t_tik a 99).k.x.n), .val (.bool (G.t_tik a 99).k.x.w), .val (.int .i64 (G.t_tik a 99).k.u), .val (.int .i64 (G.t_tik a 99).k.v), .val (.int .i64 (G.t_tik b 99).k.h), .val (.int .i64 (G.t_tik b 99).k.g), .val (.int .i64 (G.t_tik b 99).k.x.l), .val (.int .i64 (G.t_tik b 99).k.x.c), .val (.int .i64 (G.t_tik b 99).k.x.p), .val (.bool (G.t_tik b 99).k.x.o), .val (.int .i64 (G.t_tik b 99).k.x.b), .val (.int .i64 (G.t_tik b 99).k.x.s), .sl none (.recs (.ints .u8 .nil) (G.t_tik b 99).k.x.q), .val (.int .i64 (G.t_tik b 99).k.x.t), .val (.int .i64 (G.t_tik b 99).k.x.n), .val (.bool (G.t_tik b 99).k.x.w), .val (.int .i64 (G.t_tik b 99).k.u), .val (.int .i64 (G.t_tik b 99).k.v)]), (2, .cells 63 [.val (.int .i64 (bump d (G.t_tik a 99).y.d)), .val (.int .i64 (bump e (G.t_tik b 99).y.d))])] [Any, Any, Any]
def hM (y : XH) : Nat := 2 - y.k
def hR (st : St) : XH := ⟨match slotC st 24 with | .num _ n => n.toNat | _ => 3⟩
theorem end_is {p : PR} (h : endB p = true) : (p.a.x.c ≠ 0 ∧ p.a.x.c = p.b.x.c) ∧ okS 14 p.a = true ∧ okS 14 p.b = true ∧ ∀ q : Nat, q < 9 → cnt (6 + q) p.a = 1 ∧ cnt (6 + q) p.b = 1 := by
  unfold endB at h
  rw [Bool.and_eq_true, Bool.and_eq_true, Bool.and_eq_true, decide_eq_true_eq, List.all_eq_true] at h
  refine ⟨h.1, h.2.1, h.2.2.1, fun q hq => ?_⟩
  have := h.2.2.2 q (List.mem_range.2 hq)
  rw [Bool.and_eq_true, beq_iff_eq, beq_iff_eq] at this
  have e1 := sil_cnt (6 + q) p.a 0
  have e2 := sil_cnt (6 + q) p.b 0
  omega
theorem cnt_le (n : Nat) (k : KN) : 0 ≤ cnt n k ∧ cnt n k ≤ n := by
  induction n with
  | zero => exact ⟨Int.le_refl 0, Int.le_refl 0⟩
  | succ n ih =>
    show 0 ≤ bump (cnt n k) _ ∧ bump (cnt n k) _ ≤ _
    unfold bump
    split <;> (push_cast; omega)
theorem g_zero (w : Int) (p : PR) : gQ w p ⟨0, p.a, p.b, 0, 0⟩ := ⟨Int.le_refl 0, (by have := Int.emod_nonneg w (show (9 : Int) ≠ 0 by decide); show 0 ≤ 6 + w % 9; omega), rfl, rfl, rfl, rfl⟩
theorem g_all {p : PR} (hp : endB p = true) {w : Int} {i : Int} {a b : KN} {d e : Int} (hq : gQ w p ⟨i, a, b, d, e⟩) : 0 ≤ i ∧ i ≤ 14 ∧ 0 ≤ d ∧ d ≤ 14 ∧ 0 ≤ e ∧ e ≤ 14 ∧ stdBin .add .i64 d 1 = d + 1 ∧ stdBin .add .i64 e 1 = e + 1 ∧ stdBin .add .i64 i 1 = i + 1 ∧ stdBin .add .i64 6 (w % 9) = 6 + w % 9 ∧ (i < 6 + w % 9 → kbB a = true ∧ (tikK a 99).e = 0 ∧ kbB b = true ∧ (tikK b 99).e = 0 ∧ (∀ a' b' d' e', gM ⟨i + 1, a', b', d', e'⟩ < gM ⟨i, a, b, d, e⟩) ∧ gQ w p ⟨i + 1, (tikK a 99).k, (tikK b 99).k, bump d (tikK a 99).y.d, bump e (tikK b 99).y.d⟩) ∧ (¬ i < 6 + w % 9 → d = 1 ∧ e = 1) := by
  obtain ⟨q0, q1, q2, q3, q4, q5⟩ := hq
  simp only at q0 q1 q2 q3 q4 q5
  obtain ⟨_, hA, hB, hC⟩ := end_is hp
  have c1 := cnt_le i.toNat p.a
  have c2 := cnt_le i.toNat p.b
  rw [← q4] at c1
  rw [← q5] at c2
  have m0 := Int.emod_nonneg w (show (9 : Int) ≠ 0 by decide)
  have m1 := Int.emod_lt_of_pos w (show (0 : Int) < 9 by decide)
  have hn : (i + 1).toNat = i.toNat + 1 := by omega
  refine ⟨q0, by omega, by omega, by omega, by omega, by omega, by rw [b_add, wr _ (by omega) (by omega)], by rw [b_add, wr _ (by omega) (by omega)], by rw [b_add, wr _ (by omega) (by omega)], by rw [b_add, wr _ (by omega) (by omega)], fun h => ?_, fun h2 => ?_⟩
  · have hA := okS_at 14 p.a hA i.toNat (by omega)
    have hB := okS_at 14 p.b hB i.toNat (by omega)
    rw [← q2] at hA
    rw [← q3] at hB
    refine ⟨hA.1, hA.2, hB.1, hB.2, fun _ _ _ _ => by simp only [gM]; omega, by simp only; omega, by simp only; omega, ?_, ?_, ?_, ?_⟩
    · show tkk a = itk (i + 1).toNat p.a
      rw [hn, q2]
      rfl
    · show tkk b = itk (i + 1).toNat p.b
      rw [hn, q3]
      rfl
    · show bump d (dnk a) = cnt (i + 1).toNat p.a
      rw [hn, q2, q4]
      rfl
    · show bump e (dnk b) = cnt (i + 1).toNat p.b
      rw [hn, q3, q5]
      rfl
  · have e1 : i.toNat = 6 + (w % 9).toNat := by omega
    have := hC (w % 9).toNat (by omega)
    rw [← e1, ← q4, ← q5] at this
    exact this

open Go.Proofs.Ytgemoemkgcmcgaa.LkS (c_kawake ok_kawake)
open Go.Proofs.Ytgemoemkgcmcgaa.FrQ (c_rbytes ok_rbytes)
theorem cut_of {l : List (Nat × Con)} {c : Code} {s : St} {rs : List ResultVar} {p : Post} (hd : ∀ (b : Bs) (gv : List Value) (Z : (Ex → St → Prop) → Ex → St → Prop) (_ : ∀ K, Z K = K) (A : Ar) (_ : Ar.std = A) (L : Code → St → (Ex → St → Prop) → Prop) (_ : Lp Try.prog b gv = L), Cd A (cxOf l) L c s (Z fun e s' => Fin1 A (cxOf l) rs p e s')) (b : Bs) (gv : List Value) : ex Ar.std (cxOf l) (Lp Try.prog b gv) c s (fin Ar.std (cxOf l) rs p) := @cd_open _ _ _ _ _ _ _ (lp_mono rfl) _ _ (fun _ => rfl) rfl (hd b gv id (fun _ => rfl) _ rfl _ rfl)

set_option cbv.maxSteps 4000000 in
set_option maxHeartbeats 4000000 in
set_option maxRecDepth 100000 in
theorem tailG (a0 a1 n : Int) (p : PR) (e6 e7 e8 : Int) (e9 : Bool) (hw : 0 ≤ a1 ∧ a1 ≤ 255) (hp : endB p = true) : ∀ b gv, ex Ar.std (cxOf [(17, c_knew LkR.Ts.std), (18, c_ktick LkR.Ts.std), (19, c_khear LkR.Ts.std), (20, c_rbytes FrQ.Qs.std), (21, c_kawake LkS.Vs2.std)]) (Lp Try.prog b gv) (tl 7 (bodyOf Try.f4)) (stOf Try.f4.ntmps [(0, .val (.int .u8 a0)), (1, .val (.int .u8 a1)), (11, .ptr 1 0), (13, .val (.int .i64 n)), (64, .val (.int .i64 n)), (65, .val (.int .u8 a0)), (66, .val (.int .u8 e6)), (67, .val (.int .i64 e7)), (68, .val (.int .i64 e8)), (69, .val (.bool e9))] [(1, .cells 54 [.val (.int .i64 p.a.h), .val (.int .i64 p.a.g), .val (.int .i64 p.a.x.l), .val (.int .i64 p.a.x.c), .val (.int .i64 p.a.x.p), .val (.bool p.a.x.o), .val (.int .i64 p.a.x.b), .val (.int .i64 p.a.x.s), .sl none (.recs (.ints .u8 .nil) p.a.x.q), .val (.int .i64 p.a.x.t), .val (.int .i64 p.a.x.n), .val (.bool p.a.x.w), .val (.int .i64 p.a.u), .val (.int .i64 p.a.v), .val (.int .i64 p.b.h), .val (.int .i64 p.b.g), .val (.int .i64 p.b.x.l), .val (.int .i64 p.b.x.c), .val (.int .i64 p.b.x.p), .val (.bool p.b.x.o), .val (.int .i64 p.b.x.b), .val (.int .i64 p.b.x.s), .sl none (.recs (.ints .u8 .nil) p.b.x.q), .val (.int .i64 p.b.x.t), .val (.int .i64 p.b.x.n), .val (.bool p.b.x.w), .val (.int .i64 p.b.u), .val (.int .i64 p.b.v)])] [Any, Any, Any]) (fin Ar.std (cxOf [(17, c_knew LkR.Ts.std), (18, c_ktick LkR.Ts.std), (19, c_khear LkR.Ts.std), (20, c_rbytes FrQ.Qs.std), (21, c_kawake LkS.Vs2.std)]) Try.f4.results.toList ⟨True, .sa (B true), [], [Any, Any, Any]⟩) := by
  refine @cut_of _ _ _ _ _ ?_
  intro b gv Z zq A hA L hL
  obtain ⟨hcur, _⟩ := end_is hp
  have hrem : stdBin .rem .u8 a1 9 = a1 % 9 := Int.tmod_eq_emod_of_nonneg hw.1
  have hcv : IntKind.i64.wrap (a1 % 9) = a1 % 9 := wr _ (by omega) (by omega)
  have hfs := (FsOk.cons ok_knew (FsOk.cons ok_ktick (FsOk.cons ok_khear (FsOk.cons ok_rbytes (FsOk.cons ok_kawake FsOk.nil rfl) rfl) rfl) rfl) rfl)
  generalize hF : LkR.Ts.std = F at hfs ⊢
  repeat' (first
    | (refine z_open zq ?_; try dsimp only)
    | refine cd_seq zq ?_ (lp_mono hL)
    | refine cd_blk zq ?_
    | refine cd_ret ?_
    | refine cd_skip ?_
    | refine cd_exit ?_
    | refine cd_loop ?_
    | refine cd_cond rfl ?_
    | refine cd_condT rfl ?_
    | refine cd_condF rfl ?_
    | (refine Cd.mk ?_; cbv)
    | (refine Ends1.mk ?_; cbv)
    | (refine Fin1.mk ?_; cbv)
    | exact trivial
    | refine And.intro ?_ ?_
    | refine orf fun _ => ?_
    | refine ort fun _ => ?_)
  all_goals first | (show L _ _ _; skip) | (clear hL hfs zq Z; subst hA hF; simp only [Ar.std] at * <;> grind [stdCmp]; done)
  subst hL
  refine loop_z (cx_ok hfs) (gQ a1 p) (gI a1) gM gR ⟨0, p.a, p.b, 0, 0⟩ ?_ ?_ ?_
  · exact g_zero a1 p
  · cbv
    repeat' (first | exact trivial | exact rfl | refine And.intro ?_ ?_)
  rintro ⟨i, a, b2, d, e⟩ hqG O hO
  have hst := g_all hp hqG
  try dsimp only at hst
  subst hA
  generalize hA : Ar.std = A
  generalize hL : Lp _ _ _ = L
  refine cd_close zq ?_
  repeat' (first
    | (refine z_open zq ?_; try dsimp only)
    | refine cd_seq zq ?_ (lp_mono hL)
    | refine cd_blk zq ?_
    | refine cd_ret ?_
    | refine cd_skip ?_
    | refine cd_exit ?_
    | refine cd_loop ?_
    | refine cd_cond rfl ?_
    | refine cd_condT rfl ?_
    | refine cd_condF rfl ?_
    | (refine Cd.mk ?_; cbv)
    | (refine Ends1.mk ?_; cbv)
    | (refine Fin1.mk ?_; cbv)
    | exact trivial
    | refine And.intro ?_ ?_
    | refine orf fun _ => ?_
    | refine ort fun _ => ?_)
  all_goals first | (show L _ _ _; skip) | (clear hL hfs zq Z hqG; subst hA hF hO; simp only [Ar.std] at * <;> grind [stdCmp]; done)
  have hi : i < 6 + a1 % 9 := by
    rename_i hx
    clear hL hfs zq Z hqG
    subst hA hF hO
    simp only [Ar.std] at *
    grind [stdCmp]
  have hs := hst.2.2.2.2.2.2.2.2.2.2.1 hi
  subst hL
  refine loop_z (cx_ok hfs) hQ (hI F a1 i a b2 d e) hM hR ⟨0⟩ ?_ ?_ ?_
  · exact Nat.zero_le 2
  · cbv
    repeat' (first | exact trivial | exact rfl | refine And.intro ?_ ?_)
  rintro ⟨k⟩ hqk U hU
  have hk : k = 0 ∨ k = 1 ∨ k = 2 := by
    have : k ≤ 2 := hqk
    omega
  clear hqk
  subst hA
  generalize hA : Ar.std = A
  generalize hL : Lp _ _ _ = L
  rcases hk with rfl | rfl | rfl <;> refine cd_close zq ?_
  all_goals
    repeat' (first
      | (refine z_open zq ?_; try dsimp only)
      | refine cd_seq zq ?_ (lp_mono hL)
      | refine cd_blk zq ?_
      | refine cd_ret ?_
      | refine cd_skip ?_
      | refine cd_exit ?_
      | refine cd_loop ?_
      | refine cd_cond rfl ?_
      | refine cd_condT rfl ?_
      | refine cd_condF rfl ?_
      | (refine Cd.mk ?_; cbv)
      | (refine Ends1.mk ?_; cbv)
      | (refine Fin1.mk ?_; cbv)
      | exact trivial
      | refine And.intro ?_ ?_
      | refine orf fun _ => ?_
      | refine ort fun _ => ?_)
  all_goals (clear hL hfs zq Z hqG; subst hA hF hO hU; simp only [LkR.Ts.std, Ar.std, eta_LN, eta_KN, hQ, hM, bump] at * <;> grind [stdCmp]; done)
end Go.Proofs.Ytgemoemkgcmcgaa.LoV
