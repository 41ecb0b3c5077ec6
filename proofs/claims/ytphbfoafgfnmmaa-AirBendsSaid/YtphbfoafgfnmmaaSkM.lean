/-
  what an act does in the sky. No condition but size.
-/
import Derived.Test.YtphbfoafgfnmmaaSkL
import Derived.Test.YtphbfoafgfnmmaaDlF
import Derived.Test.YtphbfoafgfnmmaaBeK
namespace Go.Proofs.Ytphbfoafgfnmmaa.SkM
open Go Go.Proofs.Ytphbfoafgfnmmaa.Ry Go.Proofs.Ytphbfoafgfnmmaa.SkR Go.Proofs.Ytphbfoafgfnmmaa.SkT Go.Proofs.Ytphbfoafgfnmmaa.SkO Go.Proofs.Ytphbfoafgfnmmaa.SkC Go.Proofs.Ytphbfoafgfnmmaa.SkB Go.Proofs.Ytphbfoafgfnmmaa.SkL

open Go.Proofs.Ytphbfoafgfnmmaa.DlF (c_del ok_del)
open Go.Proofs.Ytphbfoafgfnmmaa.BeK (c_mod ok_mod c_cut ok_cut c_burst2 ok_burst2 modI modB mod_is cutI brI brB)
theorem nr0 (a b : Int) (l : List Int) (x : Bool) : ri [.int a, .int b, .ints l, .bool x] 0 = a := rfl
theorem nr1 (a b : Int) (l : List Int) (x : Bool) : ri [.int a, .int b, .ints l, .bool x] 1 = b := rfl
theorem nr2 (a b : Int) (l : List Int) (x : Bool) : rl [.int a, .int b, .ints l, .bool x] 2 = l := rfl
theorem nr3 (a b : Int) (l : List Int) (x : Bool) : rb [.int a, .int b, .ints l, .bool x] 3 = x := rfl
def rmF (q : List E) (i : Int) : List E := q.take i.toNat ++ q.drop (i + 1).toNat
theorem rm_zero (q : List E) (z : E) (h : 0 < q.length) : ((q.set (0 : Int).toNat z).take ((q.set (0 : Int).toNat z).length : Int).toNat).drop (1 : Int).toNat = rmF q 0 := by
  rw [Int.toNat_natCast, List.take_length]
  cases q with
  | nil => cases h
  | cons y q => rfl
def bnF (q : List E) (i k b w : Int) : List E := if rb (q.getD i.toNat []) 3 = true then q else q.set i.toNat [.int (ri (q.getD i.toNat []) 0), .int (ri (q.getD i.toNat []) 1), .ints (if k = 6 then cutI (rl (q.getD i.toNat []) 2) w else brI (rl (q.getD i.toNat []) 2) b (IntKind.u32.wrap w)), .bool true]
theorem gs {q : List E} {i : Nat} (h : i < q.length) (z : E) : (q.set i z).getD i [] = z := by
  rw [List.getD_eq_getElem?_getD, List.getElem?_set_self h]
  rfl
theorem ss (q : List E) (i : Nat) (z y : E) : (q.set i z).set i y = q.set i y := by simp
theorem u32_nn (w : Int) : 0 ≤ IntKind.u32.wrap w := by
  show 0 ≤ w % (2 ^ 32)
  exact Int.emod_nonneg w (by decide)
structure FF where
  a : Int
  b : Int
  l : List Int
  x : Bool
  c : Bool
def d1Q (q u T : List E) (k a b : Int) : List E := if k = 9 then lwQ q u T a b else q
def d1U (u : List E) (k a b w : Int) : List E := if k = 8 then raU u a b w else if k = 9 then lwU u a b else u
def d1T (u T : List E) (k a b w : Int) : List E := if k = 8 then raT u T a b w else if k = 9 then lwT u T a b else T
def atF (q : List E) (n : Int) : E := q.getD (modI n q.length).toNat []
def d2Q (q T : List E) (k b n w : Int) : List E := if q.length = 0 then q else if k = 2 ∨ k = 3 then rmF q (modI n q.length) else if k = 4 then putF q T (ri (atF q n) 0) (ri (atF q n) 1) (rl (atF q n) 2) (rb (atF q n) 3) else if k = 5 then rmF q (modI n q.length) ++ [nrm (atF q n)] else if k = 6 ∨ k = 7 then bnF q (modI n q.length) k b w else q
def doQ (q u T : List E) (k a b n w : Int) : List E := d2Q (d1Q q u T k a b) (d1T u T k a b w) k b n w
def doF (q : List E) (k n : Int) : FF := if k = 2 ∧ ¬ q.length = 0 then ⟨ri (atF q n) 0, ri (atF q n) 1, rl (atF q n) 2, rb (atF q n) 3, true⟩ else ⟨0, 0, [], false, false⟩
/-- Not too many flights, none too long. -/
def okQ (q : List E) : Prop := q.length ≤ 1000000 ∧ ∀ i : Nat, (rl (q.getD i []) 2).length ≤ 100000
theorem okQ_of {q : List E} (h : q.length ≤ 1000000) (h2 : ∀ y ∈ q, (rl y 2).length ≤ 100000) : okQ q := by
  refine ⟨h, fun i => ?_⟩
  by_cases hi : i < q.length
  · rw [List.getD_eq_getElem?_getD, List.getElem?_eq_getElem hi]
    exact h2 _ (List.getElem_mem hi)
  · rw [List.getD_eq_getElem?_getD, List.getElem?_eq_none (by omega)]
    exact Nat.zero_le _
theorem dl_ok {q T : List E} (h : q.length ≤ 1000000) (h2 : ∀ y ∈ q, (rl y 2).length ≤ 100000) : (dlF q T).length ≤ 1000000 ∧ ∀ y ∈ dlF q T, (rl y 2).length ≤ 100000 := by
  unfold dlF
  split
  · rename_i hk
    constructor
    · have h3 := List.length_filter_le (cyF T) (q.drop (ixN q T + 1))
      simp only [List.length_append, List.length_take, List.length_map]
      rw [List.length_drop] at h3
      omega
    · intro y hy
      rcases List.mem_append.1 hy with hy | hy
      · exact h2 y (List.mem_of_mem_take hy)
      · obtain ⟨z, hz, rfl⟩ := List.mem_map.1 hy
        exact h2 z (List.mem_of_mem_drop (List.mem_filter.1 hz).1)
  · exact ⟨h, h2⟩
theorem lw_ok {q u T : List E} {a b : Int} (h : q.length ≤ 1000000) (h2 : ∀ y ∈ q, (rl y 2).length ≤ 100000) : okQ (lwQ q u T a b) := by
  unfold lwQ
  split
  · have := dl_ok (T := setF T (mnI a b) (mxI a b) false) h h2
    exact okQ_of this.1 this.2
  · exact okQ_of h h2
theorem rm_le (q : List E) (i : Int) : (rmF q i).length ≤ 2 * q.length := by
  unfold rmF
  simp only [List.length_append, List.length_take, List.length_drop]
  omega
theorem bn_len (q : List E) (i k b w : Int) : (bnF q i k b w).length = q.length := by
  unfold bnF
  split
  · rfl
  · rw [List.length_set]
theorem lwT_len {u T : List E} {a b : Int} (h : T.length = 4225) : (lwT u T a b).length = 4225 := by
  unfold lwT
  split
  · rw [set_len, h]
  · exact h
theorem raT_len {u T : List E} {a b w : Int} (h : T.length = 4225) : (raT u T a b w).length = 4225 := by
  unfold raT
  (repeat' split) <;> first | exact h | (rw [set_len, h])
theorem md_in (n : Int) {k : Nat} (h0 : 0 < k) (h : k ≤ 1000000) : modB k = true ∧ 0 ≤ modI n k ∧ modI n k < k := by
  have h1 : modB (k : Int) = true := decide_eq_true (by omega)
  exact ⟨h1, (mod_is (n := n) h1 (by omega)).2.2⟩

structure Sm where
  m_q : List E → List E → List E → Int → Int → Int → Int → Int → List E
  m_u : List E → Int → Int → Int → Int → List E
  m_t : List E → List E → Int → Int → Int → Int → List E
  m_f : List E → List E → List E → Int → Int → Int → Int → FF
  m_k : List E → List E → List E → Bool
  m_r : List E → Int → List E
  m_i : List E → Int → Bool
  m_b : List E → Int → Int → Int → Int → List E
  m_j : List E → Int → Bool
  m_ri : List E → Int → Nat → Int
  m_rl : List E → Int → List Int
  m_rb : List E → Int → Bool
def Sm.std : Sm := ⟨doQ, d1U, d1T, fun q u T k a b n => doF (d1Q q u T k a b) k n, fun q u T => lOk u && decide (q.length ≤ 1000000 ∧ T.length = 4225 ∧ ∀ y ∈ q, (rl y 2).length ≤ 100000), rmF, fun q i => decide (0 ≤ i ∧ i < q.length ∧ q.length ≤ 1000000), bnF, fun q i => decide ((0 ≤ i ∧ i < q.length) ∧ (rl (q.getD i.toNat []) 2).length ≤ 100000), fun q i j => ri (q.getD i.toNat []) j, fun q i => rl (q.getD i.toNat []) 2, fun q i => rb (q.getD i.toNat []) 3⟩

def c_remove (F : Sm) : Con := fun xs h => match xs, h with
  | [.one (.ptr 0 0), .one (.val (.int .i64 x))], [(0, .cells 94 [.own 1, .own 2, .ptr 3 0]), (1, .row 32 (.recs (.int .i64 (.int .i64 (.ints .u8 (.bool .nil)))) q)), (2, .row 48 (.recs (.int .i64 (.int .i64 (.int .i64 .nil))) u)), (3, .row 106 (.recs (.bool .nil) T))] => some ⟨F.m_i q x = true, .sa (.agg [.val (.int .i64 (F.m_ri q x 0)), .val (.int .i64 (F.m_ri q x 1)), .sl none (.ints .u8 (F.m_rl q x)), .val (.bool (F.m_rb q x))]), [(0, .cells 94 [.own 1, .own 2, .ptr 3 0]), (1, .row 32 (.recs (.int .i64 (.int .i64 (.ints .u8 (.bool .nil)))) (F.m_r q x))), (2, .row 48 (.recs (.int .i64 (.int .i64 (.int .i64 .nil))) u)), (3, .row 106 (.recs (.bool .nil) T))], [.one (.ptr 0 0), Any]⟩
  | _, _ => none
set_option maxHeartbeats 4000000 in
set_option maxRecDepth 100000 in
theorem x_remove (x : Int) (q : List E) (u : List E) (T : List E) (hC : Sm.std.m_i q x = true) : Does [(71, c_del DlF.Df.std), (ownKey 4005, noCon)] Try.f51 [.one (.ptr 0 0), .one (.val (.int .i64 x))] [(0, .cells 94 [.own 1, .own 2, .ptr 3 0]), (1, .row 32 (.recs (.int .i64 (.int .i64 (.ints .u8 (.bool .nil)))) q)), (2, .row 48 (.recs (.int .i64 (.int .i64 (.int .i64 .nil))) u)), (3, .row 106 (.recs (.bool .nil) T))] ⟨Sm.std.m_i q x = true, .sa (.agg [.val (.int .i64 (Sm.std.m_ri q x 0)), .val (.int .i64 (Sm.std.m_ri q x 1)), .sl none (.ints .u8 (Sm.std.m_rl q x)), .val (.bool (Sm.std.m_rb q x))]), [(0, .cells 94 [.own 1, .own 2, .ptr 3 0]), (1, .row 32 (.recs (.int .i64 (.int .i64 (.ints .u8 (.bool .nil)))) (Sm.std.m_r q x))), (2, .row 48 (.recs (.int .i64 (.int .i64 (.int .i64 .nil))) u)), (3, .row 106 (.recs (.bool .nil) T))], [.one (.ptr 0 0), Any]⟩ := by
  intro b gv
  have hk : 0 ≤ x ∧ x < q.length ∧ q.length ≤ 1000000 := of_decide_eq_true (show decide _ = true from hC)
  have hz := fun z => rm_zero q z (by omega)
  have e1 : stdBin .add .i64 x 1 = x + 1 := by rw [b_add, wr _ (by omega) (by omega)]
  have hfs := (FsOk.cons ok_del (FsOk.own (u := 4005) FsOk.nil) rfl)
  generalize hF : Sm.std = F at hC hfs ⊢
  generalize hG0 : SkB.Sb.std = G0 at hC hfs ⊢
  generalize hG1 : SkL.Sw.std = G1 at hC hfs ⊢
  generalize hG2 : SkO.So.std = G2 at hC hfs ⊢
  generalize hG3 : BeK.Bd.std = G3 at hC hfs ⊢
  generalize hG4 : DlF.Df.std = G4 at hC hfs ⊢
  generalize hA : Ar.std = A
  generalize hL : Lp _ _ _ = L
  obtain ⟨Z, zq⟩ := z_all
  refine @cd_open _ _ _ _ _ _ _ (lp_mono hL) _ _ zq rfl ?_
  repeat' (first
    | (refine z_open zq ?_; try dsimp only)
    | refine cd_seq zq ?_ (lp_mono hL)
    | refine cd_blk zq ?_
    | refine cd_ret ?_
    | refine cd_skip ?_
    | refine cd_exit ?_
    | refine cd_loop ?_
    | refine cd_cond rfl ?_
    | refine cd_condT rfl ?_
    | refine cd_condF rfl ?_
    | (refine Cd.mk ?_; cbv)
    | (refine Ends1.mk ?_; cbv)
    | (refine Fin1.mk ?_; cbv)
    | exact trivial
    | refine And.intro ?_ ?_
    | refine orf fun _ => ?_
    | refine ort fun _ => ?_)
  skip -- hfs
  all_goals (clear hL hfs zq Z; subst hA hF hG0 hG1 hG2 hG3 hG4; simp only [Sm.std, DlF.Df.std, Ar.std] at * <;> grind [stdCmp, rmF]; done)
theorem ok_remove : ConOk Try.prog 51 (c_remove Sm.std) := by
  refine con_of (FsOk.cons ok_del (FsOk.own (u := 4005) FsOk.nil) rfl) Try.func51 rfl rfl fun xs h p hp => ?_
  unfold c_remove at hp
  split at hp
  · cases hp
    exact ⟨lee_le rfl, fun hC _ => @x_remove _ _ _ _ hC⟩
  · cases hp

def c_bend (F : Sm) : Con := fun xs h => match xs, h with
  | [.one (.rp 0 i 0), .agg [.val (.int .i64 o_k), .val (.int .i64 _), .val (.int .i64 o_b), .val (.int .i64 _), .val (.int .i64 o_w)]], [(0, .row 32 (.recs (.int .i64 (.int .i64 (.ints .u8 (.bool .nil)))) q))] => some ⟨F.m_j q i = true, .tup [], [(0, .row 32 (.recs (.int .i64 (.int .i64 (.ints .u8 (.bool .nil)))) (F.m_b q i o_k o_b o_w)))], [.one (.rp 0 i 0), Any]⟩
  | _, _ => none
set_option maxHeartbeats 4000000 in
set_option maxRecDepth 100000 in
theorem x_bend (o_k : Int) (o_a : Int) (o_b : Int) (o_n : Int) (o_w : Int) (i : Int) (q : List E) (hC : Sm.std.m_j q i = true) : Does [(72, c_cut BeK.Bd.std), (73, c_burst2 BeK.Bd.std)] Try.f52 [.one (.rp 0 i 0), .agg [.val (.int .i64 o_k), .val (.int .i64 o_a), .val (.int .i64 o_b), .val (.int .i64 o_n), .val (.int .i64 o_w)]] [(0, .row 32 (.recs (.int .i64 (.int .i64 (.ints .u8 (.bool .nil)))) q))] ⟨Sm.std.m_j q i = true, .tup [], [(0, .row 32 (.recs (.int .i64 (.int .i64 (.ints .u8 (.bool .nil)))) (Sm.std.m_b q i o_k o_b o_w)))], [.one (.rp 0 i 0), Any]⟩ := by
  intro b gv
  have hk : (0 ≤ i ∧ i < q.length) ∧ (rl (q.getD i.toNat []) 2).length ≤ 100000 := of_decide_eq_true (show decide _ = true from hC)
  have hgs := fun z => gs (q := q) (i := i.toNat) (by omega) z
  have hu := u32_nn o_w
  have hfs := (FsOk.cons ok_cut (FsOk.cons ok_burst2 FsOk.nil rfl) rfl)
  generalize hF : Sm.std = F at hC hfs ⊢
  generalize hG0 : SkB.Sb.std = G0 at hC hfs ⊢
  generalize hG1 : SkL.Sw.std = G1 at hC hfs ⊢
  generalize hG2 : SkO.So.std = G2 at hC hfs ⊢
  generalize hG3 : BeK.Bd.std = G3 at hC hfs ⊢
  generalize hG4 : DlF.Df.std = G4 at hC hfs ⊢
  generalize hA : Ar.std = A
  generalize hL : Lp _ _ _ = L
  obtain ⟨Z, zq⟩ := z_all
  refine @cd_open _ _ _ _ _ _ _ (lp_mono hL) _ _ zq rfl ?_
  repeat' (first
    | (refine z_open zq ?_; try dsimp only)
    | refine cd_seq zq ?_ (lp_mono hL)
    | refine cd_blk zq ?_
    | refine cd_ret ?_
    | refine cd_skip ?_
    | refine cd_exit ?_
    | refine cd_loop ?_
    | refine cd_cond rfl ?_
    | refine cd_condT rfl ?_
    | refine cd_condF rfl ?_
    | (refine Cd.mk ?_; cbv)
    | (refine Ends1.mk ?_; cbv)
    | (refine Fin1.mk ?_; cbv)
    | exact trivial
    | refine And.intro ?_ ?_
    | refine orf fun _ => ?_
    | refine ort fun _ => ?_)
  skip -- hfs
  all_goals (clear hL hfs zq Z; subst hA hF hG0 hG1 hG2 hG3 hG4; simp only [Sm.std, BeK.Bd.std, Ar.std] at *; (try simp only [hgs, ss, nr0, nr1, nr2, nr3] at *) <;> grind [stdCmp, bnF, brB]; done)
theorem ok_bend : ConOk Try.prog 52 (c_bend Sm.std) := by
  refine con_of (FsOk.cons ok_cut (FsOk.cons ok_burst2 FsOk.nil rfl) rfl) Try.func52 rfl rfl fun xs h p hp => ?_
  unfold c_bend at hp
  split at hp
  · cases hp
    exact ⟨lee_le rfl, fun hC _ => @x_bend _ _ _ _ _ _ _ hC⟩
  · cases hp

def c_do (F : Sm) : Con := fun xs h => match xs, h with
  | [.one (.ptr 0 0), .agg [.val (.int .i64 o_k), .val (.int .i64 o_a), .val (.int .i64 o_b), .val (.int .i64 o_n), .val (.int .i64 o_w)]], [(0, .cells 94 [.own 1, .own 2, .ptr 3 0]), (1, .row 32 (.recs (.int .i64 (.int .i64 (.ints .u8 (.bool .nil)))) q)), (2, .row 48 (.recs (.int .i64 (.int .i64 (.int .i64 .nil))) u)), (3, .row 106 (.recs (.bool .nil) T))] => some ⟨F.m_k q u T = true, .tup [.agg [.val (.int .i64 (F.m_f q u T o_k o_a o_b o_n).a), .val (.int .i64 (F.m_f q u T o_k o_a o_b o_n).b), .sl none (.ints .u8 (F.m_f q u T o_k o_a o_b o_n).l), .val (.bool (F.m_f q u T o_k o_a o_b o_n).x)], B (F.m_f q u T o_k o_a o_b o_n).c], [(0, .cells 94 [.own 1, .own 2, .ptr 3 0]), (1, .row 32 (.recs (.int .i64 (.int .i64 (.ints .u8 (.bool .nil)))) (F.m_q q u T o_k o_a o_b o_n o_w))), (2, .row 48 (.recs (.int .i64 (.int .i64 (.int .i64 .nil))) (F.m_u u o_k o_a o_b o_w))), (3, .row 106 (.recs (.bool .nil) (F.m_t u T o_k o_a o_b o_w)))], [.one (.ptr 0 0), Any]⟩
  | _, _ => none
set_option maxHeartbeats 4000000 in
set_option maxRecDepth 100000 in
theorem x_do (o_k : Int) (o_a : Int) (o_b : Int) (o_n : Int) (o_w : Int) (q : List E) (u : List E) (T : List E) (hC : Sm.std.m_k q u T = true) : Does [(48, c_raise SkB.Sb.std), (49, c_lower SkL.Sw.std), (50, c_mod BeK.Bd.std), (51, c_remove Sm.std), (38, c_sput SkO.So.std), (52, c_bend Sm.std)] Try.f26 [.one (.ptr 0 0), .agg [.val (.int .i64 o_k), .val (.int .i64 o_a), .val (.int .i64 o_b), .val (.int .i64 o_n), .val (.int .i64 o_w)]] [(0, .cells 94 [.own 1, .own 2, .ptr 3 0]), (1, .row 32 (.recs (.int .i64 (.int .i64 (.ints .u8 (.bool .nil)))) q)), (2, .row 48 (.recs (.int .i64 (.int .i64 (.int .i64 .nil))) u)), (3, .row 106 (.recs (.bool .nil) T))] ⟨Sm.std.m_k q u T = true, .tup [.agg [.val (.int .i64 (Sm.std.m_f q u T o_k o_a o_b o_n).a), .val (.int .i64 (Sm.std.m_f q u T o_k o_a o_b o_n).b), .sl none (.ints .u8 (Sm.std.m_f q u T o_k o_a o_b o_n).l), .val (.bool (Sm.std.m_f q u T o_k o_a o_b o_n).x)], B (Sm.std.m_f q u T o_k o_a o_b o_n).c], [(0, .cells 94 [.own 1, .own 2, .ptr 3 0]), (1, .row 32 (.recs (.int .i64 (.int .i64 (.ints .u8 (.bool .nil)))) (Sm.std.m_q q u T o_k o_a o_b o_n o_w))), (2, .row 48 (.recs (.int .i64 (.int .i64 (.int .i64 .nil))) (Sm.std.m_u u o_k o_a o_b o_w))), (3, .row 106 (.recs (.bool .nil) (Sm.std.m_t u T o_k o_a o_b o_w)))], [.one (.ptr 0 0), Any]⟩ := by
  intro b gv
  have hk0 : (lOk u && decide (q.length ≤ 1000000 ∧ T.length = 4225 ∧ ∀ y ∈ q, (rl y 2).length ≤ 100000)) = true := hC
  rw [Bool.and_eq_true] at hk0
  have hk : q.length ≤ 1000000 ∧ T.length = 4225 ∧ ∀ y ∈ q, (rl y 2).length ≤ 100000 := of_decide_eq_true hk0.2
  have hlo := hk0.1
  have hku : u.length ≤ 1000000 := (of_decide_eq_true (show decide _ = true from hk0.1) : _ ∧ _).1
  have hq0 : okQ q := okQ_of hk.1 hk.2.2
  have hq1 : okQ (lwQ q u T o_a o_b) := lw_ok hk.1 hk.2.2
  have ht1 := lwT_len (u := u) (a := o_a) (b := o_b) hk.2.1
  have ht2 := raT_len (u := u) (a := o_a) (b := o_b) (w := o_w) hk.2.1
  have hrm := rm_le q (modI o_n q.length)
  have hm0 := fun h => md_in o_n (k := q.length) h hk.1
  have hm1 := fun h => md_in o_n (k := (lwQ q u T o_a o_b).length) h hq1.1
  have hfs := (FsOk.cons ok_raise (FsOk.cons ok_lower (FsOk.cons ok_mod (FsOk.cons ok_remove (FsOk.cons ok_sput (FsOk.cons ok_bend FsOk.nil rfl) rfl) rfl) rfl) rfl) rfl)
  generalize hF : Sm.std = F at hC hfs ⊢
  generalize hG0 : SkB.Sb.std = G0 at hC hfs ⊢
  generalize hG1 : SkL.Sw.std = G1 at hC hfs ⊢
  generalize hG2 : SkO.So.std = G2 at hC hfs ⊢
  generalize hG3 : BeK.Bd.std = G3 at hC hfs ⊢
  generalize hG4 : DlF.Df.std = G4 at hC hfs ⊢
  generalize hA : Ar.std = A
  generalize hL : Lp _ _ _ = L
  obtain ⟨Z, zq⟩ := z_all
  refine @cd_open _ _ _ _ _ _ _ (lp_mono hL) _ _ zq rfl ?_
  repeat' (first
    | (refine z_open zq ?_; try dsimp only)
    | refine cd_seq zq ?_ (lp_mono hL)
    | refine cd_blk zq ?_
    | refine cd_ret ?_
    | refine cd_skip ?_
    | refine cd_exit ?_
    | refine cd_loop ?_
    | refine cd_cond rfl ?_
    | refine cd_condT rfl ?_
    | refine cd_condF rfl ?_
    | (refine Cd.mk ?_; cbv)
    | (refine Ends1.mk ?_; cbv)
    | (refine Fin1.mk ?_; cbv)
    | exact trivial
    | refine And.intro ?_ ?_
    | refine orf fun _ => ?_
    | refine ort fun _ => ?_)
  skip -- hfs
  all_goals (clear hL hfs zq Z; subst hA hF hG0 hG1 hG2 hG3 hG4; simp only [Sm.std, SkB.Sb.std, SkL.Sw.std, SkO.So.std, BeK.Bd.std, Ar.std] at * <;> first | (show Int.ofNat _ = Int.ofNat _; have hsl := bn_len q (modI o_n q.length) o_k o_b o_w; generalize bnF q (modI o_n q.length) o_k o_b o_w = S at hsl ⊢; clear hrm hm0 hm1 hq0 hq1 ht1 ht2; cases S <;> cases q <;> first | exact congrArg Int.ofNat hsl | (exfalso; simp at hsl; done)) | grind [stdCmp, doQ, d1Q, d1U, d1T, d2Q, doF, okQ, atF, nrm]; done)
theorem ok_do : ConOk Try.prog 26 (c_do Sm.std) := by
  refine con_of (FsOk.cons ok_raise (FsOk.cons ok_lower (FsOk.cons ok_mod (FsOk.cons ok_remove (FsOk.cons ok_sput (FsOk.cons ok_bend FsOk.nil rfl) rfl) rfl) rfl) rfl) rfl) Try.func26 rfl rfl fun xs h p hp => ?_
  unfold c_do at hp
  split at hp
  · cases hp
    exact ⟨lee_le rfl, fun hC _ => @x_do _ _ _ _ _ _ _ _ hC⟩
  · cases hp
end Go.Proofs.Ytphbfoafgfnmmaa.SkM
