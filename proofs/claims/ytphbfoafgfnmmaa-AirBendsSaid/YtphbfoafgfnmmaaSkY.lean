/-
  the answer: what any act does. No condition but size.
-/
import Derived.Test.YtphbfoafgfnmmaaSkX
import Derived.Test.YtphbfoafgfnmmaaSkN
namespace Go.Proofs.Ytphbfoafgfnmmaa.SkY
open Go Go.Proofs.Ytphbfoafgfnmmaa.Ry Go.Proofs.Ytphbfoafgfnmmaa.SkR Go.Proofs.Ytphbfoafgfnmmaa.SkT Go.Proofs.Ytphbfoafgfnmmaa.SkO Go.Proofs.Ytphbfoafgfnmmaa.SkC Go.Proofs.Ytphbfoafgfnmmaa.SkB Go.Proofs.Ytphbfoafgfnmmaa.SkL Go.Proofs.Ytphbfoafgfnmmaa.SkM Go.Proofs.Ytphbfoafgfnmmaa.SkS Go.Proofs.Ytphbfoafgfnmmaa.SkN

open Go.Proofs.Ytphbfoafgfnmmaa.SkX (lkF lkU c_rlink ok_rlink)
open Go.Proofs.Ytphbfoafgfnmmaa.BeK (c_at ok_at c_rburst ok_rburst modI modP modB mod_is brI)
def rdF (f _ : List E) (k a b n w : Int) : List E := if k = 8 ∨ k = 9 then lkF f k a b else if f.length = 0 ∨ k < 2 ∨ k > 7 then f else if k = 2 ∨ k = 3 then rmF f (modI n f.length) else if k = 4 then (if f.length < 16384 then f ++ [nrm (atF f n)] else f) else if k = 5 then rmF f (modI n f.length) ++ [nrm (atF f n)] else if rb (atF f n) 3 = true then f else f.set (modI n f.length).toNat [.int (ri (atF f n) 0), .int (ri (atF f n) 1), .ints (if k = 6 then (rl (atF f n) 2).take (modI w (((rl (atF f n) 2).length : Int) + 1)).toNat else brI (rl (atF f n) 2) b (IntKind.u32.wrap w)), .bool true]
def rdU (u : List E) (k a b w : Int) : List E := if k = 8 ∨ k = 9 then lkU u k a b w else u
def rdG (f : List E) (k n : Int) : FF := if f.length = 0 ∨ ¬ k = 2 then ⟨0, 0, [], false, false⟩ else ⟨ri (atF f n) 0, ri (atF f n) 1, rl (atF f n) 2, rb (atF f n) 3, true⟩
theorem mp_in (n : Int) {k : Int} (h0 : 0 < k) (h : k ≤ 1000001) : modP k = true ∧ 0 ≤ modI n k ∧ modI n k < k := by
  have h1 : modB k = true := decide_eq_true (by omega)
  exact ⟨decide_eq_true (by omega), (mod_is (n := n) h1 (by omega)).2.2⟩
theorem at_le {f : List E} (n : Int) (h : totF f ≤ 100000) : (rl (atF f n) 2).length ≤ 100000 := by
  unfold atF
  generalize (modI n f.length).toNat = i
  by_cases hi : i < f.length
  · rw [List.getD_eq_getElem?_getD, List.getElem?_eq_getElem hi]
    have := tot_mem (List.getElem_mem hi)
    show (rl f[i] 2).length ≤ _
    omega
  · rw [List.getD_eq_getElem?_getD, List.getElem?_eq_none (by omega)]
    exact Nat.zero_le _
theorem cut0 (l : List Int) (k : Int) : (l.take k.toNat).drop (0 : Int).toNat = l.take k.toNat := List.drop_zero

structure Sy where
  y_f : List E → List E → Int → Int → Int → Int → Int → List E
  y_u : List E → Int → Int → Int → Int → List E
  y_g : List E → Int → Int → FF
  y_k : List E → List E → Bool
def Sy.std : Sy := ⟨rdF, rdU, rdG, adOk⟩

def c_rdo (F : Sy) : Con := fun xs h => match xs, h with
  | [.agg [.sl none (.recs (.int .i64 (.int .i64 (.ints .u8 (.bool .nil)))) v_f), .sl none (.recs (.int .i64 (.int .i64 (.int .i64 .nil))) v_u)], .agg [.val (.int .i64 o_k), .val (.int .i64 o_a), .val (.int .i64 o_b), .val (.int .i64 o_n), .val (.int .i64 o_w)]], [] => some ⟨F.y_k v_f v_u = true, .tup [.agg [.sl none (.recs (.int .i64 (.int .i64 (.ints .u8 (.bool .nil)))) (F.y_f v_f v_u o_k o_a o_b o_n o_w)), .sl none (.recs (.int .i64 (.int .i64 (.int .i64 .nil))) (F.y_u v_u o_k o_a o_b o_w))], .agg [.val (.int .i64 (F.y_g v_f o_k o_n).a), .val (.int .i64 (F.y_g v_f o_k o_n).b), .sl none (.ints .u8 (F.y_g v_f o_k o_n).l), .val (.bool (F.y_g v_f o_k o_n).x)], B (F.y_g v_f o_k o_n).c], [], [Any, Any]⟩
  | _, _ => none
set_option maxHeartbeats 4000000 in
set_option maxRecDepth 100000 in
theorem x_rdo (v_f : List E) (v_u : List E) (o_k : Int) (o_a : Int) (o_b : Int) (o_n : Int) (o_w : Int) (hC : Sy.std.y_k v_f v_u = true) : Does [(35, c_rlink SkX.Sx.std), (36, c_at BeK.Bd.std), (37, c_rburst BeK.Bd.std), (ownKey 7000, noCon)] Try.f15 [.agg [.sl none (.recs (.int .i64 (.int .i64 (.ints .u8 (.bool .nil)))) v_f), .sl none (.recs (.int .i64 (.int .i64 (.int .i64 .nil))) v_u)], .agg [.val (.int .i64 o_k), .val (.int .i64 o_a), .val (.int .i64 o_b), .val (.int .i64 o_n), .val (.int .i64 o_w)]] [] ⟨Sy.std.y_k v_f v_u = true, .tup [.agg [.sl none (.recs (.int .i64 (.int .i64 (.ints .u8 (.bool .nil)))) (Sy.std.y_f v_f v_u o_k o_a o_b o_n o_w)), .sl none (.recs (.int .i64 (.int .i64 (.int .i64 .nil))) (Sy.std.y_u v_u o_k o_a o_b o_w))], .agg [.val (.int .i64 (Sy.std.y_g v_f o_k o_n).a), .val (.int .i64 (Sy.std.y_g v_f o_k o_n).b), .sl none (.ints .u8 (Sy.std.y_g v_f o_k o_n).l), .val (.bool (Sy.std.y_g v_f o_k o_n).x)], B (Sy.std.y_g v_f o_k o_n).c], [], [Any, Any]⟩ := by
  intro b gv
  have hk : v_f.length ≤ 1000000 ∧ v_u.length ≤ 1000000 ∧ totF v_f ≤ 100000 := of_decide_eq_true (show decide _ = true from hC)
  have hm := fun h => mp_in o_n (k := (v_f.length : Int)) h (by omega)
  have hml := at_le o_n hk.2.2
  have hm2 := mp_in o_w (k := ((rl (atF v_f o_n) 2).length : Int) + 1) (by omega) (by omega)
  have e1 : stdBin .add .i64 ((rl (atF v_f o_n) 2).length : Int) 1 = ((rl (atF v_f o_n) 2).length : Int) + 1 := by rw [b_add, wr _ (by omega) (by omega)]
  have e2 : 0 < v_f.length → stdBin .add .i64 (modI o_n v_f.length) 1 = modI o_n v_f.length + 1 := fun h => by
    have := hm (by omega)
    rw [b_add, wr _ (by omega) (by omega)]
  have hgs := fun h z => gs (q := v_f) (i := (modI o_n v_f.length).toNat) h z
  have hat : v_f.getD (modI o_n v_f.length).toNat [] = atF v_f o_n := rfl
  have hrl := rm_le v_f (modI o_n v_f.length)
  have hfs := (FsOk.cons ok_rlink (FsOk.cons ok_at (FsOk.cons ok_rburst (FsOk.own (u := 7000) FsOk.nil) rfl) rfl) rfl)
  generalize hF : Sy.std = F at hC hfs ⊢
  generalize hG0 : SkX.Sx.std = G0 at hC hfs ⊢
  generalize hG1 : BeK.Bd.std = G1 at hC hfs ⊢
  generalize hA : Ar.std = A
  generalize hL : Lp _ _ _ = L
  obtain ⟨Z, zq⟩ := z_all
  refine @cd_open _ _ _ _ _ _ _ (lp_mono hL) _ _ zq rfl ?_
  repeat' (first
    | (refine z_open zq ?_; try dsimp only)
    | refine cd_seq zq ?_ (lp_mono hL)
    | refine cd_blk zq ?_
    | refine cd_ret ?_
    | refine cd_skip ?_
    | refine cd_exit ?_
    | refine cd_loop ?_
    | refine cd_cond rfl ?_
    | refine cd_condT rfl ?_
    | refine cd_condF rfl ?_
    | (refine Cd.mk ?_; cbv)
    | (refine Ends1.mk ?_; cbv)
    | (refine Fin1.mk ?_; cbv)
    | exact trivial
    | refine And.intro ?_ ?_
    | refine orf fun _ => ?_
    | refine ort fun _ => ?_)
  skip -- hfs
  all_goals (clear hL hfs zq Z; subst hA hF hG0 hG1; simp only [Sy.std, SkX.Sx.std, BeK.Bd.std, Ar.std, List.nil_append] at *; (try simp only [hat, e1, cut0, Int.toNat_natCast, List.take_length] at *); (try rw [e2 (by grind [stdCmp])] at *); (try simp only [hgs (by grind [stdCmp]), ss, nr0, nr1, nr2] at *) <;> grind [stdCmp, rdF, rdU, rdG, nrm, rmF]; done)
theorem ok_rdo : ConOk Try.prog 15 (c_rdo Sy.std) := by
  refine con_of (FsOk.cons ok_rlink (FsOk.cons ok_at (FsOk.cons ok_rburst (FsOk.own (u := 7000) FsOk.nil) rfl) rfl) rfl) Try.func15 rfl rfl fun xs h p hp => ?_
  unfold c_rdo at hp
  split at hp
  · cases hp
    exact ⟨lee_le rfl, fun hC _ => @x_rdo _ _ _ _ _ _ _ hC⟩
  · cases hp
end Go.Proofs.Ytphbfoafgfnmmaa.SkY
