/-
  a link of the sky goes up. No condition but size.
-/
import Derived.Test.YtphbfoafgfnmmaaSkC
import Derived.Test.YtphbfoafgfnmmaaInE
namespace Go.Proofs.Ytphbfoafgfnmmaa.SkB
open Go Go.Proofs.Ytphbfoafgfnmmaa.Ry Go.Proofs.Ytphbfoafgfnmmaa.SkR Go.Proofs.Ytphbfoafgfnmmaa.SkT Go.Proofs.Ytphbfoafgfnmmaa.SkO Go.Proofs.Ytphbfoafgfnmmaa.SkC Go.Proofs.Ytphbfoafgfnmmaa.InE

open Go.Proofs.Ytphbfoafgfnmmaa.EgR (EE ofE chE mayE nodB may1 may_1 c_eof ok_eof)
/-- The search by halves: f tells what is ahead of what is looked for. -/
def hf (i j : Int) : Int := (i + j) / 2
def bsN (f : Int → Bool) : Nat → Int → Int → Int
  | 0, i, _ => i
  | k + 1, i, j => if i < j then (if f (hf i j) = true then bsN f k (hf i j + 1) j else bsN f k i (hf i j)) else i
theorem bs_more (f : Int → Bool) : ∀ (k m : Nat) (i j : Int), j - i ≤ k → j - i ≤ m → bsN f k i j = bsN f m i j
  | 0, 0, _, _, _, _ => rfl
  | 0, m + 1, i, j, h, _ => by
    unfold bsN
    rw [if_neg (by omega)]
  | k + 1, 0, i, j, _, h => by
    conv => rhs; unfold bsN
    unfold bsN
    rw [if_neg (by omega)]
  | k + 1, m + 1, i, j, h, g => by
    unfold bsN
    by_cases c : i < j
    · rw [if_pos c, if_pos c]
      unfold hf
      split
      · exact bs_more f k m _ _ (by omega) (by omega)
      · exact bs_more f k m _ _ (by omega) (by omega)
    · rw [if_neg c, if_neg c]
def bsI (f : Int → Bool) (n : Nat) : Int := bsN f n 0 n
structure XJ where
  i : Int
  j : Int
def bsQ (f : Int → Bool) (n : Nat) (y : XJ) : Prop := 0 ≤ y.i ∧ y.i ≤ y.j ∧ y.j ≤ n ∧ bsN f n y.i y.j = bsI f n
def bsM (y : XJ) : Nat := (y.j - y.i).toNat
theorem bs_zero (f : Int → Bool) (n : Nat) : bsQ f n ⟨0, n⟩ := ⟨Int.le_refl 0, Int.natCast_nonneg _, Int.le_refl _, rfl⟩
theorem hf_eq (i j : Int) (h0 : 0 ≤ i) (h1 : i ≤ j) (h2 : j ≤ 1000000) : IntKind.i64.wrap (stdBin .shr .u64 (IntKind.u64.wrap (stdBin .add .i64 i j)) 1) = hf i j := by
  rw [b_add, wr (i + j) (by omega) (by omega)]
  have e : IntKind.u64.wrap (i + j) = i + j := IntWalk.u64_in _ (by omega)
  rw [e]
  have e2 : stdBin .shr .u64 (i + j) 1 = (i + j) / 2 := by
    show (i + j).fdiv (2 ^ (min (1 : Int).toNat IntKind.u64.bits)) = _
    rw [show min (1 : Int).toNat IntKind.u64.bits = 1 by decide]
    exact Int.fdiv_eq_ediv_of_nonneg _ (by omega)
  rw [e2, wr _ (by omega) (by omega)]
  rfl
theorem bs_step {f : Int → Bool} {n : Nat} (hn : n ≤ 1000000) {i j : Int} (hq : bsQ f n ⟨i, j⟩) (h : i < j) : IntKind.i64.wrap (stdBin .shr .u64 (IntKind.u64.wrap (stdBin .add .i64 i j)) 1) = hf i j ∧ 0 ≤ hf i j ∧ hf i j < n ∧ stdBin .add .i64 (hf i j) 1 = hf i j + 1 ∧
    (f (hf i j) = true → bsQ f n ⟨hf i j + 1, j⟩ ∧ bsM ⟨hf i j + 1, j⟩ < bsM ⟨i, j⟩) ∧ (f (hf i j) = false → bsQ f n ⟨i, hf i j⟩ ∧ bsM ⟨i, hf i j⟩ < bsM ⟨i, j⟩) := by
  obtain ⟨h0, h1, h2, h3⟩ := hq
  simp only at h0 h1 h2 h3
  have e := hf_eq i j h0 h1 (by omega)
  have hb : i ≤ hf i j ∧ hf i j < j := by unfold hf; omega
  have hs : bsN f n i j = if f (hf i j) = true then bsN f n (hf i j + 1) j else bsN f n i (hf i j) := by
    cases n with
    | zero => omega
    | succ n =>
      rw [bs_more f (n + 1) (n + 1 + 1) i j (by omega) (by omega)]
      conv => lhs; unfold bsN
      rw [if_pos h]
  rw [h3] at hs
  refine ⟨e, by omega, by omega, by rw [b_add, wr _ (by omega) (by omega)], fun g => ⟨⟨by simp only; omega, by simp only; omega, h2, ?_⟩, by simp only [bsM]; omega⟩, fun g => ⟨⟨h0, by simp only; omega, by simp only; omega, ?_⟩, by simp only [bsM]; omega⟩⟩
  · rw [if_pos g] at hs
    exact hs.symm
  · rw [if_neg (by rw [g]; decide)] at hs
    exact hs.symm
theorem bs_end {f : Int → Bool} {n : Nat} {i j : Int} (hq : bsQ f n ⟨i, j⟩) (h : ¬ i < j) : i = bsI f n ∧ 0 ≤ i ∧ i ≤ n := by
  obtain ⟨h0, h1, h2, h3⟩ := hq
  simp only at h0 h1 h2 h3
  refine ⟨?_, h0, by omega⟩
  rw [← h3]
  cases n with
  | zero => rfl
  | succ n =>
    unfold bsN
    rw [if_neg h]
theorem bs_spec (f : Int → Bool) (n : Nat) : ∀ (k : Nat) (i j : Int), 0 ≤ i → i ≤ j → j ≤ n → j - i ≤ k → (∀ x : Int, 0 ≤ x → x < i → f x = true) → (∀ x : Int, j ≤ x → x < n → f x = false) → (∀ x y : Int, 0 ≤ x → x ≤ y → y < n → f y = true → f x = true) →
    0 ≤ bsN f k i j ∧ bsN f k i j ≤ n ∧ (∀ x : Int, 0 ≤ x → x < bsN f k i j → f x = true) ∧ (∀ x : Int, bsN f k i j ≤ x → x < n → f x = false)
  | 0, i, j, h0, h1, h2, h3, h4, h5, _ => by
    have e : i = j := by omega
    unfold bsN
    exact ⟨h0, by omega, h4, by rw [e]; exact h5⟩
  | k + 1, i, j, h0, h1, h2, h3, h4, h5, hm => by
    unfold bsN
    by_cases c : i < j
    · rw [if_pos c]
      have hb : i ≤ hf i j ∧ hf i j < j := by unfold hf; omega
      split
      · rename_i g
        refine bs_spec f n k _ _ (by omega) (by omega) h2 (by omega) (fun x x0 x1 => hm x (hf i j) x0 (by omega) (by omega) g) h5 hm
      · rename_i g
        refine bs_spec f n k _ _ h0 (by omega) (by omega) (by omega) h4 (fun x x0 x1 => ?_) hm
        rw [← Bool.not_eq_true]
        exact fun w => g (hm (hf i j) x (by omega) x0 x1 w)
    · rw [if_neg c]
      have e : i = j := by omega
      exact ⟨h0, by omega, h4, by rw [e]; exact h5⟩
/-- The search in numbers. -/
def ltE (l : List E) (a b : Int) (x : Int) : Bool := decide (beF (ri (l.getD x.toNat []) 0) (ri (l.getD x.toNat []) 1) a b < 0)
def poE (l : List E) (a b : Int) : Int := bsI (ltE l a b) l.length
def fdE (l : List E) (a b : Int) : Bool := decide (poE l a b < l.length) && decide (beF (ri (l.getD (poE l a b).toNat []) 0) (ri (l.getD (poE l a b).toNat []) 1) a b = 0)
theorem bsN_in (f : Int → Bool) : ∀ (k : Nat) (i j : Int), i ≤ j → i ≤ bsN f k i j ∧ bsN f k i j ≤ j
  | 0, i, j, h => ⟨Int.le_refl i, h⟩
  | k + 1, i, j, h => by
    unfold bsN
    split
    · rename_i h1
      have h2 : i ≤ hf i j ∧ hf i j < j := by unfold hf; omega
      split
      · have := bsN_in f k (hf i j + 1) j (by omega)
        omega
      · have := bsN_in f k i (hf i j) (by omega)
        omega
    · omega
theorem po_in (l : List E) (a b : Int) : 0 ≤ poE l a b ∧ poE l a b ≤ l.length := by
  unfold poE bsI
  exact bsN_in _ _ _ _ (Int.natCast_nonneg _)
theorem bs_fin {f : Int → Bool} {n : Nat} {i j : Int} (hq : bsQ f n ⟨i, j⟩) (h : ¬ i < j) : i = bsI f n := by
  obtain ⟨h0, h1, h2, h3⟩ := hq
  simp only at h0 h1 h2 h3
  rw [← h3]
  cases n with
  | zero => rfl
  | succ n =>
    unfold bsN
    rw [if_neg h]
theorem lt_is (l : List E) (a b x : Int) : ltE l a b x = decide (beF (ri (l.getD x.toNat []) 0) (ri (l.getD x.toNat []) 1) a b < 0) := rfl
noncomputable def bfI (A : Ar) (l : List E) (a b w : Int) (y : XJ) : St := stOf Try.f66.ntmps [(0, .sl none (.recs (.int .i64 (.int .i64 (.int .i64 .nil))) l)), (2, .val (.func (.func 31) ⟨[]⟩ ⟨[]⟩)), (4, .ptr 1 0), (8, .val (.int .i64 (A.lenE l))), (9, .val (.int .i64 y.i)), (10, .val (.int .i64 y.j))] [(1, .cells 48 [.val (.int .i64 a), .val (.int .i64 b), .val (.int .i64 w)])] [Any, Any, Any]
def bfR (st : St) : XJ := ⟨slotI st 9, slotI st 10⟩
def edD (r : EE) : E := [.int r.a, .int r.b, .int r.w]
def raU (u : List E) (a b w : Int) : List E := if (ofE a b w).e = 0 then (if fdE u (ofE a b w).a (ofE a b w).b = true then u.set (poE u (ofE a b w).a (ofE a b w).b).toNat (edD (ofE a b w)) else if u.length < 512 then u.take (poE u (ofE a b w).a (ofE a b w).b).toNat ++ (edD (ofE a b w) :: u.drop (poE u (ofE a b w).a (ofE a b w).b).toNat) else u) else u
def raT (u T : List E) (a b w : Int) : List E := if (ofE a b w).e = 0 then (if fdE u (ofE a b w).a (ofE a b w).b = true then T else if u.length < 512 then setF T (ofE a b w).a (ofE a b w).b true else T) else T
theorem of_key (w lo hi : Int) : ((if mayE lo hi w = true then (⟨lo, hi, w, 0⟩ : EE) else ⟨0, 0, 0, 1⟩).e = 0 ∨ (if mayE lo hi w = true then (⟨lo, hi, w, 0⟩ : EE) else ⟨0, 0, 0, 1⟩).e = 1) ∧ ((if mayE lo hi w = true then (⟨lo, hi, w, 0⟩ : EE) else ⟨0, 0, 0, 1⟩).e = 0 → mayE lo hi w = true ∧ (if mayE lo hi w = true then (⟨lo, hi, w, 0⟩ : EE) else ⟨0, 0, 0, 1⟩) = ⟨lo, hi, w, 0⟩) := by
  by_cases hm : mayE lo hi w = true
  · simp only [if_pos hm]
    exact ⟨.inl trivial, fun _ => ⟨hm, trivial⟩⟩
  · simp only [if_neg hm]
    exact ⟨.inr trivial, fun h => by cases h⟩
theorem of_in {a b w : Int} (h : (ofE a b w).e = 0) : 1 ≤ (ofE a b w).a ∧ (ofE a b w).a ≤ 64 ∧ 1 ≤ (ofE a b w).b ∧ (ofE a b w).b ≤ 64 ∧ (ofE a b w).a < (ofE a b w).b := by
  obtain ⟨hm, e⟩ := (of_key w (if a < b then a else b) (if a < b then b else a)).2 h
  have e : ofE a b w = ⟨if a < b then a else b, if a < b then b else a, w, 0⟩ := e
  rw [e]
  simp only
  generalize (if a < b then a else b) = lo at hm ⊢
  generalize (if a < b then b else a) = hi at hm ⊢
  have hm := of_decide_eq_true (show decide (1 ≤ lo ∧ lo ≤ 64 ∧ 1 ≤ hi ∧ hi ≤ 64 ∧ lo < hi ∧ 0 ≤ w ∧ w ≤ 2147483647) = true from hm)
  omega
theorem of_01 (a b w : Int) : (ofE a b w).e = 0 ∨ (ofE a b w).e = 1 := (of_key w _ _).1

structure Sb where
  b_p : List E → Int → Int → Int
  b_f : List E → Int → Int → Bool
  b_u : List E → Int → Int → Int → List E
  b_t : List E → List E → Int → Int → Int → List E
  b_l : List E → Bool
  b_k : List E → List E → Bool
def Sb.std : Sb := ⟨poE, fdE, raU, raT, fun l => decide (l.length ≤ 1000000), fun u T => decide (u.length ≤ 1000000 ∧ T.length = 4225)⟩

def c_bsf (F : Sb) : Con := fun xs h => match xs, h with
  | [.one (.sl none (.recs (.int .i64 (.int .i64 (.int .i64 .nil))) l)), .agg [.val (.int .i64 e_a), .val (.int .i64 e_b), .val (.int .i64 _)], .one (.val (.func (.func 31) ⟨[]⟩ ⟨[]⟩))], [] => some ⟨F.b_l l = true, .tup [I (F.b_p l e_a e_b), B (F.b_f l e_a e_b)], [], [Any, Any, Any]⟩
  | _, _ => none
set_option maxHeartbeats 2000000 in
set_option maxRecDepth 100000 in
theorem x_bsf (l : List E) (e_a : Int) (e_b : Int) (e_w : Int) (hC : Sb.std.b_l l = true) : Does [(31, c_byends SkC.Sc.std)] Try.f66 [.one (.sl none (.recs (.int .i64 (.int .i64 (.int .i64 .nil))) l)), .agg [.val (.int .i64 e_a), .val (.int .i64 e_b), .val (.int .i64 e_w)], .one (.val (.func (.func 31) ⟨[]⟩ ⟨[]⟩))] [] ⟨Sb.std.b_l l = true, .tup [I (Sb.std.b_p l e_a e_b), B (Sb.std.b_f l e_a e_b)], [], [Any, Any, Any]⟩ := by
  intro b gv
  have hk : l.length ≤ 1000000 := of_decide_eq_true (show decide (l.length ≤ 1000000) = true from hC)
  have hpi := po_in l e_a e_b
  have hfs := (FsOk.cons ok_byends FsOk.nil rfl)
  generalize hF : Sb.std = F at hC hfs ⊢
  generalize hG0 : EgR.Fs.std = G0 at hC hfs ⊢
  generalize hG1 : SkT.Tb.std = G1 at hC hfs ⊢
  generalize hG2 : SkC.Sc.std = G2 at hC hfs ⊢
  generalize hG3 : InE.Nf.std = G3 at hC hfs ⊢
  generalize hA : Ar.std = A
  generalize hL : Lp _ _ _ = L
  obtain ⟨Z, zq⟩ := z_all
  refine @cd_open _ _ _ _ _ _ _ (lp_mono hL) _ _ zq rfl ?_
  repeat' (first
    | (refine z_open zq ?_; try dsimp only)
    | refine cd_seq zq ?_ (lp_mono hL)
    | refine cd_blk zq ?_
    | refine cd_ret ?_
    | refine cd_skip ?_
    | refine cd_exit ?_
    | refine cd_loop ?_
    | refine cd_cond rfl ?_
    | refine cd_condT rfl ?_
    | refine cd_condF rfl ?_
    | (refine Cd.mk ?_; cbv)
    | (refine Ends1.mk ?_; cbv)
    | (refine Fin1.mk ?_; cbv)
    | exact trivial
    | refine And.intro ?_ ?_
    | refine orf fun _ => ?_
    | refine ort fun _ => ?_)
  subst hL
  refine loop_z (cx_ok hfs) (bsQ (ltE l e_a e_b) l.length) (bfI A l e_a e_b e_w) bsM bfR ⟨0, A.lenE l⟩ ?_ ?_ ?_
  · subst hA
    exact bs_zero _ _
  · cbv
    repeat' (first | exact trivial | exact rfl | refine And.intro ?_ ?_)
  rintro ⟨i, j⟩ hq O hO
  have hst := fun h => bs_step hk hq h
  have hen := fun h => bs_fin hq h
  have hlt := lt_is l e_a e_b (hf i j)
  have q0 := hq.1
  have q1 := hq.2.1
  have q2 := hq.2.2.1
  have hpo : poE l e_a e_b = bsI (ltE l e_a e_b) l.length := rfl
  have hfd : fdE l e_a e_b = (decide (poE l e_a e_b < l.length) && decide (beF (ri (l.getD (poE l e_a e_b).toNat []) 0) (ri (l.getD (poE l e_a e_b).toNat []) 1) e_a e_b = 0)) := rfl
  dsimp only at q0 q1 q2
  subst hA
  generalize hA : Ar.std = A
  generalize hL : Lp _ _ _ = L
  refine cd_close zq ?_
  repeat' (first
    | (refine z_open zq ?_; try dsimp only)
    | refine cd_seq zq ?_ (lp_mono hL)
    | refine cd_blk zq ?_
    | refine cd_ret ?_
    | refine cd_skip ?_
    | refine cd_exit ?_
    | refine cd_loop ?_
    | refine cd_cond rfl ?_
    | refine cd_condT rfl ?_
    | refine cd_condF rfl ?_
    | (refine Cd.mk ?_; cbv)
    | (refine Ends1.mk ?_; cbv)
    | (refine Fin1.mk ?_; cbv)
    | exact trivial
    | refine And.intro ?_ ?_
    | refine orf fun _ => ?_
    | refine ort fun _ => ?_)
  all_goals (clear hL hfs zq Z hq; subst hA hF hG0 hG1 hG2 hG3 hO; simp only [Sb.std, SkC.Sc.std, Ar.std] at * <;> grind [stdCmp]; done)
theorem ok_bsf : ConOk Try.prog 66 (c_bsf Sb.std) := by
  refine con_of (FsOk.cons ok_byends FsOk.nil rfl) Try.func66 rfl rfl fun xs h p hp => ?_
  unfold c_bsf at hp
  split at hp
  · cases hp
    exact ⟨lee_le rfl, fun hC _ => @x_bsf _ _ _ _ hC⟩
  · cases hp

def c_raise (F : Sb) : Con := fun xs h => match xs, h with
  | [.one (.ptr 0 0), .agg [.val (.int .i64 _), .val (.int .i64 o_a), .val (.int .i64 o_b), .val (.int .i64 _), .val (.int .i64 o_w)]], [(0, .cells 94 [.own 1, .own 2, .ptr 3 0]), (1, .row 32 (.recs (.int .i64 (.int .i64 (.ints .u8 (.bool .nil)))) q)), (2, .row 48 (.recs (.int .i64 (.int .i64 (.int .i64 .nil))) u)), (3, .row 106 (.recs (.bool .nil) T))] => some ⟨F.b_k u T = true, .tup [], [(0, .cells 94 [.own 1, .own 2, .ptr 3 0]), (1, .row 32 (.recs (.int .i64 (.int .i64 (.ints .u8 (.bool .nil)))) q)), (2, .row 48 (.recs (.int .i64 (.int .i64 (.int .i64 .nil))) (F.b_u u o_a o_b o_w))), (3, .row 106 (.recs (.bool .nil) (F.b_t u T o_a o_b o_w)))], [.one (.ptr 0 0), Any]⟩
  | _, _ => none
set_option maxHeartbeats 2000000 in
set_option maxRecDepth 100000 in
theorem x_raise (o_k : Int) (o_a : Int) (o_b : Int) (o_n : Int) (o_w : Int) (q : List E) (u : List E) (T : List E) (hC : Sb.std.b_k u T = true) : Does [(65, c_eof EgR.Fs.std), (66, c_bsf Sb.std), (67, c_ins InE.Nf.std), (57, c_tset SkT.Tb.std)] Try.f48 [.one (.ptr 0 0), .agg [.val (.int .i64 o_k), .val (.int .i64 o_a), .val (.int .i64 o_b), .val (.int .i64 o_n), .val (.int .i64 o_w)]] [(0, .cells 94 [.own 1, .own 2, .ptr 3 0]), (1, .row 32 (.recs (.int .i64 (.int .i64 (.ints .u8 (.bool .nil)))) q)), (2, .row 48 (.recs (.int .i64 (.int .i64 (.int .i64 .nil))) u)), (3, .row 106 (.recs (.bool .nil) T))] ⟨Sb.std.b_k u T = true, .tup [], [(0, .cells 94 [.own 1, .own 2, .ptr 3 0]), (1, .row 32 (.recs (.int .i64 (.int .i64 (.ints .u8 (.bool .nil)))) q)), (2, .row 48 (.recs (.int .i64 (.int .i64 (.int .i64 .nil))) (Sb.std.b_u u o_a o_b o_w))), (3, .row 106 (.recs (.bool .nil) (Sb.std.b_t u T o_a o_b o_w)))], [.one (.ptr 0 0), Any]⟩ := by
  intro b gv
  have hk : u.length ≤ 1000000 ∧ T.length = 4225 := of_decide_eq_true (show decide _ = true from hC)
  have hpi := po_in u (ofE o_a o_b o_w).a (ofE o_a o_b o_w).b
  have hof := fun h => of_in (a := o_a) (b := o_b) (w := o_w) h
  have h01 := of_01 o_a o_b o_w
  have hfd : fdE u (ofE o_a o_b o_w).a (ofE o_a o_b o_w).b = true → poE u (ofE o_a o_b o_w).a (ofE o_a o_b o_w).b < u.length := fun h => by
    unfold fdE at h
    rw [Bool.and_eq_true] at h
    exact of_decide_eq_true h.1
  have htk : (ofE o_a o_b o_w).e = 0 → tOk T (ofE o_a o_b o_w).a (ofE o_a o_b o_w).b = true := fun h => by
    have := hof h
    exact decide_eq_true ⟨hk.2, by omega, by omega, by omega, by omega⟩
  have hfs := (FsOk.cons ok_eof (FsOk.cons ok_bsf (FsOk.cons ok_ins (FsOk.cons ok_tset FsOk.nil rfl) rfl) rfl) rfl)
  generalize hF : Sb.std = F at hC hfs ⊢
  generalize hG0 : EgR.Fs.std = G0 at hC hfs ⊢
  generalize hG1 : SkT.Tb.std = G1 at hC hfs ⊢
  generalize hG2 : SkC.Sc.std = G2 at hC hfs ⊢
  generalize hG3 : InE.Nf.std = G3 at hC hfs ⊢
  generalize hA : Ar.std = A
  generalize hL : Lp _ _ _ = L
  obtain ⟨Z, zq⟩ := z_all
  refine @cd_open _ _ _ _ _ _ _ (lp_mono hL) _ _ zq rfl ?_
  repeat' (first
    | (refine z_open zq ?_; try dsimp only)
    | refine cd_seq zq ?_ (lp_mono hL)
    | refine cd_blk zq ?_
    | refine cd_ret ?_
    | refine cd_skip ?_
    | refine cd_exit ?_
    | refine cd_loop ?_
    | refine cd_cond rfl ?_
    | refine cd_condT rfl ?_
    | refine cd_condF rfl ?_
    | (refine Cd.mk ?_; cbv)
    | (refine Ends1.mk ?_; cbv)
    | (refine Fin1.mk ?_; cbv)
    | exact trivial
    | refine And.intro ?_ ?_
    | refine orf fun _ => ?_
    | refine ort fun _ => ?_)
  skip -- hfs
  all_goals (clear hL hfs zq Z; subst hA hF hG0 hG1 hG2 hG3; simp only [Sb.std, EgR.Fs.std, SkT.Tb.std, InE.Nf.std, Ar.std] at * <;> first | (show Int.ofNat _ = Int.ofNat _; have hsl := set_len T (ofE o_a o_b o_w).a (ofE o_a o_b o_w).b true; generalize setF T (ofE o_a o_b o_w).a (ofE o_a o_b o_w).b true = S at hsl ⊢; cases S <;> cases T <;> first | exact congrArg Int.ofNat hsl | (exfalso; simp at hsl; done)) | grind [stdCmp, raU, raT, edD]; done)
theorem ok_raise : ConOk Try.prog 48 (c_raise Sb.std) := by
  refine con_of (FsOk.cons ok_eof (FsOk.cons ok_bsf (FsOk.cons ok_ins (FsOk.cons ok_tset FsOk.nil rfl) rfl) rfl) rfl) Try.func48 rfl rfl fun xs h p hp => ?_
  unfold c_raise at hp
  split at hp
  · cases hp
    exact ⟨lee_le rfl, fun hC _ => @x_raise _ _ _ _ _ _ _ _ hC⟩
  · cases hp
end Go.Proofs.Ytphbfoafgfnmmaa.SkB
