/-
  which airs are alike. No condition but size.
-/
import Derived.Test.YtphbfoafgfnmmaaSkR
import Derived.Test.YtphbfoafgfnmmaaEgR
namespace Go.Proofs.Ytphbfoafgfnmmaa.SkS
open Go Go.Proofs.Ytphbfoafgfnmmaa.Ry Go.Proofs.Ytphbfoafgfnmmaa.SkR

open Go.Proofs.Ytphbfoafgfnmmaa.EgR (trE sameE XE eqQ eqM eq_zero eq_step eq_end len_ne c_esame ok_esame)
def bytI (l : List Int) : List Int := l.map fun n => ((UInt8.ofNat n.toNat).toNat : Int)
def fT (y : E) : Int × Int × Bool × List Int := (ri y 0, ri y 1, rb y 3, bytI (rl y 2))
def byB (p q : List Int) : Bool := decide (bytI p = bytI q)
def flB (a b : Int) (l : List Int) (x : Bool) (a' b' : Int) (l' : List Int) (x' : Bool) : Bool := decide (a = a' ∧ b = b' ∧ x = x' ∧ bytI l = bytI l')
def sameFl (p q : List E) : Bool := decide (p.map fT = q.map fT)
def sameA (f u f' u' : List E) : Bool := sameE u u' && sameFl f f'
theorem fT_iff (y z : E) : flB (ri y 0) (ri y 1) (rl y 2) (rb y 3) (ri z 0) (ri z 1) (rl z 2) (rb z 3) = decide (fT y = fT z) := by
  unfold flB fT
  simp only [Prod.mk.injEq]
theorem inc {i : Int} {n : Nat} (h0 : 0 ≤ i) (h : i ≤ n) (hn : n ≤ 1000000) : stdBin .add .i64 i 1 = i + 1 := by rw [b_add, wr _ (by omega) (by omega)]
noncomputable def eeI (A : Ar) (p q : List E) (y : XE) : St := stOf Try.f39.ntmps [(0, .sl none (.recs (.int .i64 (.int .i64 (.int .i64 .nil))) p)), (1, .sl none (.recs (.int .i64 (.int .i64 (.int .i64 .nil))) q)), (12, .val (.int .i64 (A.lenE p))), (13, .val (.int .i64 y.i))] [] [Any, Any]
def eeR (st : St) : XE := ⟨slotI st 13⟩
noncomputable def efI (A : Ar) (p q : List E) (y : XE) : St := stOf Try.f40.ntmps [(1, .sl none (.recs (.int .i64 (.int .i64 (.ints .u8 (.bool .nil)))) q)), (2, .val (.func (.func 41) ⟨[]⟩ ⟨[]⟩)), (15, .sl none (.recs (.int .i64 (.int .i64 (.ints .u8 (.bool .nil)))) p)), (16, .val (.int .i64 (A.lenE p))), (17, .val (.int .i64 y.i))] [] [Any, Any, Any]
def efR (st : St) : XE := ⟨slotI st 17⟩
noncomputable def rsI (p u q u' : List E) (y : XE) : St := stOf Try.f14.ntmps [(2, .ptr 1 0), (3, .ptr 2 0), (5, .val (.int .i64 y.i))] [(1, .cells 25 [.sl none (.recs (.int .i64 (.int .i64 (.ints .u8 (.bool .nil)))) p), .sl none (.recs (.int .i64 (.int .i64 (.int .i64 .nil))) u)]), (2, .cells 25 [.sl none (.recs (.int .i64 (.int .i64 (.ints .u8 (.bool .nil)))) q), .sl none (.recs (.int .i64 (.int .i64 (.int .i64 .nil))) u')])] [Any, Any]
def rsR (st : St) : XE := ⟨slotI st 5⟩

structure Ss where
  s_y : List Int → List Int → Bool
  s_f : Int → Int → List Int → Bool → Int → Int → List Int → Bool → Bool
  s_e : List E → List E → Bool
  s_l : List E → List E → Bool
  s_a : List E → List E → List E → List E → Bool
  s_o : List E → List E → Bool
  s_oo : List E → List E → List E → List E → Bool
def Ss.std : Ss := ⟨byB, flB, sameE, sameFl, sameA, fun p q => decide (p.length ≤ 1000000 ∧ q.length ≤ 1000000), fun p u q v => decide (p.length ≤ 1000000 ∧ q.length ≤ 1000000 ∧ u.length ≤ 1000000 ∧ v.length ≤ 1000000)⟩

def c_beq (F : Ss) : Con := fun xs h => match xs, h with
  | [.one (.sl none (.ints .u8 p)), .one (.sl none (.ints .u8 q))], [] => some ⟨True, .sa (B (F.s_y p q)), [], [Any, Any]⟩
  | _, _ => none
set_option maxHeartbeats 2000000 in
set_option maxRecDepth 100000 in
theorem x_beq (p : List Int) (q : List Int) : Does [] Try.f61 [.one (.sl none (.ints .u8 p)), .one (.sl none (.ints .u8 q))] [] ⟨True, .sa (B (Ss.std.s_y p q)), [], [Any, Any]⟩ := by
  intro b gv
  have hfs := FsOk.nil
  generalize hF : Ss.std = F at hfs ⊢
  generalize hG0 : EgR.Fs.std = G0 at hfs ⊢
  generalize hA : Ar.std = A
  generalize hL : Lp _ _ _ = L
  obtain ⟨Z, zq⟩ := z_all
  refine @cd_open _ _ _ _ _ _ _ (lp_mono hL) _ _ zq rfl ?_
  repeat' (first
    | (refine z_open zq ?_; try dsimp only)
    | refine cd_seq zq ?_ (lp_mono hL)
    | refine cd_blk zq ?_
    | refine cd_ret ?_
    | refine cd_skip ?_
    | refine cd_exit ?_
    | refine cd_loop ?_
    | refine cd_cond rfl ?_
    | refine cd_condT rfl ?_
    | refine cd_condF rfl ?_
    | (refine Cd.mk ?_; cbv)
    | (refine Ends1.mk ?_; cbv)
    | (refine Fin1.mk ?_; cbv)
    | exact trivial
    | refine And.intro ?_ ?_
    | refine orf fun _ => ?_
    | refine ort fun _ => ?_)
  all_goals (clear hL zq Z; (try clear hfs); subst hA hF hG0; simp only [Ss.std, Ar.std] at * <;> first | rfl | grind [stdCmp, byB, bytI]; done)
theorem ok_beq : ConOk Try.prog 61 (c_beq Ss.std) := by
  refine con_of FsOk.nil Try.func61 rfl rfl fun xs h p hp => ?_
  unfold c_beq at hp
  split at hp
  · cases hp
    exact ⟨lee_le rfl, fun _ _ => @x_beq _ _⟩
  · cases hp

def c_sfl (F : Ss) : Con := fun xs h => match xs, h with
  | [.agg [.val (.int .i64 x_a), .val (.int .i64 x_b), .sl none (.ints .u8 x_l), .val (.bool x_x)], .agg [.val (.int .i64 y_a), .val (.int .i64 y_b), .sl none (.ints .u8 y_l), .val (.bool y_x)]], [] => some ⟨True, .sa (B (F.s_f x_a x_b x_l x_x y_a y_b y_l y_x)), [], [Any, Any]⟩
  | _, _ => none
set_option maxHeartbeats 2000000 in
set_option maxRecDepth 100000 in
theorem x_sfl (x_a : Int) (x_b : Int) (x_l : List Int) (x_x : Bool) (y_a : Int) (y_b : Int) (y_l : List Int) (y_x : Bool) : Does [(61, c_beq Ss.std)] Try.f41 [.agg [.val (.int .i64 x_a), .val (.int .i64 x_b), .sl none (.ints .u8 x_l), .val (.bool x_x)], .agg [.val (.int .i64 y_a), .val (.int .i64 y_b), .sl none (.ints .u8 y_l), .val (.bool y_x)]] [] ⟨True, .sa (B (Ss.std.s_f x_a x_b x_l x_x y_a y_b y_l y_x)), [], [Any, Any]⟩ := by
  intro b gv
  have hfs := (FsOk.cons ok_beq FsOk.nil rfl)
  generalize hF : Ss.std = F at hfs ⊢
  generalize hG0 : EgR.Fs.std = G0 at hfs ⊢
  generalize hA : Ar.std = A
  generalize hL : Lp _ _ _ = L
  obtain ⟨Z, zq⟩ := z_all
  refine @cd_open _ _ _ _ _ _ _ (lp_mono hL) _ _ zq rfl ?_
  repeat' (first
    | (refine z_open zq ?_; try dsimp only)
    | refine cd_seq zq ?_ (lp_mono hL)
    | refine cd_blk zq ?_
    | refine cd_ret ?_
    | refine cd_skip ?_
    | refine cd_exit ?_
    | refine cd_loop ?_
    | refine cd_cond rfl ?_
    | refine cd_condT rfl ?_
    | refine cd_condF rfl ?_
    | (refine Cd.mk ?_; cbv)
    | (refine Ends1.mk ?_; cbv)
    | (refine Fin1.mk ?_; cbv)
    | exact trivial
    | refine And.intro ?_ ?_
    | refine orf fun _ => ?_
    | refine ort fun _ => ?_)
  all_goals (clear hL zq Z; (try clear hfs); subst hA hF hG0; simp only [Ss.std, Ar.std] at * <;> first | rfl | grind [stdCmp, byB, flB]; done)
theorem ok_sfl : ConOk Try.prog 41 (c_sfl Ss.std) := by
  refine con_of (FsOk.cons ok_beq FsOk.nil rfl) Try.func41 rfl rfl fun xs h p hp => ?_
  unfold c_sfl at hp
  split at hp
  · cases hp
    exact ⟨lee_le rfl, fun _ _ => @x_sfl _ _ _ _ _ _ _ _⟩
  · cases hp

def c_rfl (F : Ss) : Con := fun xs h => match xs, h with
  | [.agg [.val (.int .i64 x_a), .val (.int .i64 x_b), .sl none (.ints .u8 x_l), .val (.bool x_x)], .agg [.val (.int .i64 y_a), .val (.int .i64 y_b), .sl none (.ints .u8 y_l), .val (.bool y_x)]], [] => some ⟨True, .sa (B (F.s_f x_a x_b x_l x_x y_a y_b y_l y_x)), [], [Any, Any]⟩
  | _, _ => none
set_option maxHeartbeats 2000000 in
set_option maxRecDepth 100000 in
theorem x_rfl (x_a : Int) (x_b : Int) (x_l : List Int) (x_x : Bool) (y_a : Int) (y_b : Int) (y_l : List Int) (y_x : Bool) : Does [] Try.f13 [.agg [.val (.int .i64 x_a), .val (.int .i64 x_b), .sl none (.ints .u8 x_l), .val (.bool x_x)], .agg [.val (.int .i64 y_a), .val (.int .i64 y_b), .sl none (.ints .u8 y_l), .val (.bool y_x)]] [] ⟨True, .sa (B (Ss.std.s_f x_a x_b x_l x_x y_a y_b y_l y_x)), [], [Any, Any]⟩ := by
  intro b gv
  have hfs := FsOk.nil
  generalize hF : Ss.std = F at hfs ⊢
  generalize hG0 : EgR.Fs.std = G0 at hfs ⊢
  generalize hA : Ar.std = A
  generalize hL : Lp _ _ _ = L
  obtain ⟨Z, zq⟩ := z_all
  refine @cd_open _ _ _ _ _ _ _ (lp_mono hL) _ _ zq rfl ?_
  repeat' (first
    | (refine z_open zq ?_; try dsimp only)
    | refine cd_seq zq ?_ (lp_mono hL)
    | refine cd_blk zq ?_
    | refine cd_ret ?_
    | refine cd_skip ?_
    | refine cd_exit ?_
    | refine cd_loop ?_
    | refine cd_cond rfl ?_
    | refine cd_condT rfl ?_
    | refine cd_condF rfl ?_
    | (refine Cd.mk ?_; cbv)
    | (refine Ends1.mk ?_; cbv)
    | (refine Fin1.mk ?_; cbv)
    | exact trivial
    | refine And.intro ?_ ?_
    | refine orf fun _ => ?_
    | refine ort fun _ => ?_)
  all_goals (clear hL zq Z; (try clear hfs); subst hA hF hG0; simp only [Ss.std, Ar.std] at * <;> first | rfl | grind [stdCmp, flB, bytI]; done)
theorem ok_rfl : ConOk Try.prog 13 (c_rfl Ss.std) := by
  refine con_of FsOk.nil Try.func13 rfl rfl fun xs h p hp => ?_
  unfold c_rfl at hp
  split at hp
  · cases hp
    exact ⟨lee_le rfl, fun _ _ => @x_rfl _ _ _ _ _ _ _ _⟩
  · cases hp

def c_eqe (F : Ss) : Con := fun xs h => match xs, h with
  | [.one (.sl none (.recs (.int .i64 (.int .i64 (.int .i64 .nil))) p)), .one (.sl none (.recs (.int .i64 (.int .i64 (.int .i64 .nil))) q))], [] => some ⟨F.s_o p q = true, .sa (B (F.s_e p q)), [], [Any, Any]⟩
  | _, _ => none
set_option maxHeartbeats 2000000 in
set_option maxRecDepth 100000 in
theorem x_eqe (p : List E) (q : List E) (hC : Ss.std.s_o p q = true) : Does [] Try.f39 [.one (.sl none (.recs (.int .i64 (.int .i64 (.int .i64 .nil))) p)), .one (.sl none (.recs (.int .i64 (.int .i64 (.int .i64 .nil))) q))] [] ⟨Ss.std.s_o p q = true, .sa (B (Ss.std.s_e p q)), [], [Any, Any]⟩ := by
  intro b gv
  have hk : p.length ≤ 1000000 ∧ q.length ≤ 1000000 := of_decide_eq_true (show decide (p.length ≤ 1000000 ∧ q.length ≤ 1000000) = true from hC)
  have hne := len_ne trE (p := p) (q := q)
  have hfs := FsOk.nil
  generalize hF : Ss.std = F at hC hfs ⊢
  generalize hG0 : EgR.Fs.std = G0 at hC hfs ⊢
  generalize hA : Ar.std = A
  generalize hL : Lp _ _ _ = L
  obtain ⟨Z, zq⟩ := z_all
  refine @cd_open _ _ _ _ _ _ _ (lp_mono hL) _ _ zq rfl ?_
  repeat' (first
    | (refine z_open zq ?_; try dsimp only)
    | refine cd_seq zq ?_ (lp_mono hL)
    | refine cd_blk zq ?_
    | refine cd_ret ?_
    | refine cd_skip ?_
    | refine cd_exit ?_
    | refine cd_loop ?_
    | refine cd_cond rfl ?_
    | refine cd_condT rfl ?_
    | refine cd_condF rfl ?_
    | (refine Cd.mk ?_; cbv)
    | (refine Ends1.mk ?_; cbv)
    | (refine Fin1.mk ?_; cbv)
    | exact trivial
    | refine And.intro ?_ ?_
    | refine orf fun _ => ?_
    | refine ort fun _ => ?_)
  skip -- hfs
  all_goals first | (show L _ _ _; skip) | (clear hL zq Z; (try clear hfs); subst hA hF hG0; simp only [Ss.std, Ar.std] at * <;> first | rfl | grind [stdCmp, sameE]; done)
  rename_i hx
  have hl : p.length = q.length := by
    clear hL zq Z hF
    (try clear hfs)
    subst hA
    simp only [Ar.std] at hx
    grind [stdCmp]
  clear hx
  subst hL
  refine loop_z (cx_ok hfs) (eqQ trE p q) (eeI A p q) (eqM p) eeR ⟨0⟩ ?_ ?_ ?_
  · exact eq_zero _ _ _
  · cbv
    repeat' (first | exact trivial | exact rfl | refine And.intro ?_ ?_)
  rintro ⟨i⟩ hq O hO
  have hst := eq_step trE p q hl i hq
  have hen := eq_end trE p q hl i hq
  have q0 := hq.1
  have q1 := hq.2.1
  dsimp only at q0 q1
  have e1 := inc q0 q1 hk.1
  have hft := fT_iff (p.getD i.toNat []) (q.getD i.toNat [])
  (try simp only [trE, Prod.mk.injEq] at hst)
  subst hA
  generalize hA : Ar.std = A
  generalize hL : Lp _ _ _ = L
  refine cd_close zq ?_
  repeat' (first
    | (refine z_open zq ?_; try dsimp only)
    | refine cd_seq zq ?_ (lp_mono hL)
    | refine cd_blk zq ?_
    | refine cd_ret ?_
    | refine cd_skip ?_
    | refine cd_exit ?_
    | refine cd_loop ?_
    | refine cd_cond rfl ?_
    | refine cd_condT rfl ?_
    | refine cd_condF rfl ?_
    | (refine Cd.mk ?_; cbv)
    | (refine Ends1.mk ?_; cbv)
    | (refine Fin1.mk ?_; cbv)
    | exact trivial
    | refine And.intro ?_ ?_
    | refine orf fun _ => ?_
    | refine ort fun _ => ?_)
  all_goals (clear hL zq Z hq; (try clear hfs); subst hA hF hG0 hO; simp only [Ss.std, Ar.std] at * <;> first | rfl | grind [stdCmp, eqM, sameE]; done)
theorem ok_eqe : ConOk Try.prog 39 (c_eqe Ss.std) := by
  refine con_of FsOk.nil Try.func39 rfl rfl fun xs h p hp => ?_
  unfold c_eqe at hp
  split at hp
  · cases hp
    exact ⟨lee_le rfl, fun hC _ => @x_eqe _ _ hC⟩
  · cases hp

def c_eqf (F : Ss) : Con := fun xs h => match xs, h with
  | [.one (.sl none (.recs (.int .i64 (.int .i64 (.ints .u8 (.bool .nil)))) p)), .one (.sl none (.recs (.int .i64 (.int .i64 (.ints .u8 (.bool .nil)))) q)), .one (.val (.func (.func 41) ⟨[]⟩ ⟨[]⟩))], [] => some ⟨F.s_o p q = true, .sa (B (F.s_l p q)), [], [Any, Any, Any]⟩
  | _, _ => none
set_option maxHeartbeats 2000000 in
set_option maxRecDepth 100000 in
theorem x_eqf (p : List E) (q : List E) (hC : Ss.std.s_o p q = true) : Does [(41, c_sfl Ss.std)] Try.f40 [.one (.sl none (.recs (.int .i64 (.int .i64 (.ints .u8 (.bool .nil)))) p)), .one (.sl none (.recs (.int .i64 (.int .i64 (.ints .u8 (.bool .nil)))) q)), .one (.val (.func (.func 41) ⟨[]⟩ ⟨[]⟩))] [] ⟨Ss.std.s_o p q = true, .sa (B (Ss.std.s_l p q)), [], [Any, Any, Any]⟩ := by
  intro b gv
  have hk : p.length ≤ 1000000 ∧ q.length ≤ 1000000 := of_decide_eq_true (show decide (p.length ≤ 1000000 ∧ q.length ≤ 1000000) = true from hC)
  have hne := len_ne fT (p := p) (q := q)
  have hfs := (FsOk.cons ok_sfl FsOk.nil rfl)
  generalize hF : Ss.std = F at hC hfs ⊢
  generalize hG0 : EgR.Fs.std = G0 at hC hfs ⊢
  generalize hA : Ar.std = A
  generalize hL : Lp _ _ _ = L
  obtain ⟨Z, zq⟩ := z_all
  refine @cd_open _ _ _ _ _ _ _ (lp_mono hL) _ _ zq rfl ?_
  repeat' (first
    | (refine z_open zq ?_; try dsimp only)
    | refine cd_seq zq ?_ (lp_mono hL)
    | refine cd_blk zq ?_
    | refine cd_ret ?_
    | refine cd_skip ?_
    | refine cd_exit ?_
    | refine cd_loop ?_
    | refine cd_cond rfl ?_
    | refine cd_condT rfl ?_
    | refine cd_condF rfl ?_
    | (refine Cd.mk ?_; cbv)
    | (refine Ends1.mk ?_; cbv)
    | (refine Fin1.mk ?_; cbv)
    | exact trivial
    | refine And.intro ?_ ?_
    | refine orf fun _ => ?_
    | refine ort fun _ => ?_)
  skip -- hfs
  all_goals first | (show L _ _ _; skip) | (clear hL zq Z; (try clear hfs); subst hA hF hG0; simp only [Ss.std, Ar.std] at * <;> first | rfl | grind [stdCmp, sameFl]; done)
  rename_i hx
  have hl : p.length = q.length := by
    clear hL zq Z hF
    (try clear hfs)
    subst hA
    simp only [Ar.std] at hx
    grind [stdCmp]
  clear hx
  subst hL
  refine loop_z (cx_ok hfs) (eqQ fT p q) (efI A p q) (eqM p) efR ⟨0⟩ ?_ ?_ ?_
  · exact eq_zero _ _ _
  · cbv
    repeat' (first | exact trivial | exact rfl | refine And.intro ?_ ?_)
  rintro ⟨i⟩ hq O hO
  have hst := eq_step fT p q hl i hq
  have hen := eq_end fT p q hl i hq
  have q0 := hq.1
  have q1 := hq.2.1
  dsimp only at q0 q1
  have e1 := inc q0 q1 hk.1
  have hft := fT_iff (p.getD i.toNat []) (q.getD i.toNat [])
  (try simp only [trE, Prod.mk.injEq] at hst)
  subst hA
  generalize hA : Ar.std = A
  generalize hL : Lp _ _ _ = L
  refine cd_close zq ?_
  repeat' (first
    | (refine z_open zq ?_; try dsimp only)
    | refine cd_seq zq ?_ (lp_mono hL)
    | refine cd_blk zq ?_
    | refine cd_ret ?_
    | refine cd_skip ?_
    | refine cd_exit ?_
    | refine cd_loop ?_
    | refine cd_cond rfl ?_
    | refine cd_condT rfl ?_
    | refine cd_condF rfl ?_
    | (refine Cd.mk ?_; cbv)
    | (refine Ends1.mk ?_; cbv)
    | (refine Fin1.mk ?_; cbv)
    | exact trivial
    | refine And.intro ?_ ?_
    | refine orf fun _ => ?_
    | refine ort fun _ => ?_)
  all_goals (clear hL zq Z hq; (try clear hfs); subst hA hF hG0 hO; simp only [Ss.std, Ar.std] at * <;> first | rfl | grind [stdCmp, eqM, sameFl]; done)
theorem ok_eqf : ConOk Try.prog 40 (c_eqf Ss.std) := by
  refine con_of (FsOk.cons ok_sfl FsOk.nil rfl) Try.func40 rfl rfl fun xs h p hp => ?_
  unfold c_eqf at hp
  split at hp
  · cases hp
    exact ⟨lee_le rfl, fun hC _ => @x_eqf _ _ hC⟩
  · cases hp

def c_asame (F : Ss) : Con := fun xs h => match xs, h with
  | [.agg [.sl none (.recs (.int .i64 (.int .i64 (.ints .u8 (.bool .nil)))) v_f), .sl none (.recs (.int .i64 (.int .i64 (.int .i64 .nil))) v_u)], .agg [.sl none (.recs (.int .i64 (.int .i64 (.ints .u8 (.bool .nil)))) w_f), .sl none (.recs (.int .i64 (.int .i64 (.int .i64 .nil))) w_u)]], [] => some ⟨F.s_oo v_f v_u w_f w_u = true, .sa (B (F.s_a v_f v_u w_f w_u)), [], [Any, Any]⟩
  | _, _ => none
set_option maxHeartbeats 2000000 in
set_option maxRecDepth 100000 in
theorem x_asame (v_f : List E) (v_u : List E) (w_f : List E) (w_u : List E) (hC : Ss.std.s_oo v_f v_u w_f w_u = true) : Does [(39, c_eqe Ss.std), (40, c_eqf Ss.std)] Try.f17 [.agg [.sl none (.recs (.int .i64 (.int .i64 (.ints .u8 (.bool .nil)))) v_f), .sl none (.recs (.int .i64 (.int .i64 (.int .i64 .nil))) v_u)], .agg [.sl none (.recs (.int .i64 (.int .i64 (.ints .u8 (.bool .nil)))) w_f), .sl none (.recs (.int .i64 (.int .i64 (.int .i64 .nil))) w_u)]] [] ⟨Ss.std.s_oo v_f v_u w_f w_u = true, .sa (B (Ss.std.s_a v_f v_u w_f w_u)), [], [Any, Any]⟩ := by
  intro b gv
  have hk : v_f.length ≤ 1000000 ∧ w_f.length ≤ 1000000 ∧ v_u.length ≤ 1000000 ∧ w_u.length ≤ 1000000 := of_decide_eq_true (show decide _ = true from hC)
  have hfs := (FsOk.cons ok_eqe (FsOk.cons ok_eqf FsOk.nil rfl) rfl)
  generalize hF : Ss.std = F at hC hfs ⊢
  generalize hG0 : EgR.Fs.std = G0 at hC hfs ⊢
  generalize hA : Ar.std = A
  generalize hL : Lp _ _ _ = L
  obtain ⟨Z, zq⟩ := z_all
  refine @cd_open _ _ _ _ _ _ _ (lp_mono hL) _ _ zq rfl ?_
  repeat' (first
    | (refine z_open zq ?_; try dsimp only)
    | refine cd_seq zq ?_ (lp_mono hL)
    | refine cd_blk zq ?_
    | refine cd_ret ?_
    | refine cd_skip ?_
    | refine cd_exit ?_
    | refine cd_loop ?_
    | refine cd_cond rfl ?_
    | refine cd_condT rfl ?_
    | refine cd_condF rfl ?_
    | (refine Cd.mk ?_; cbv)
    | (refine Ends1.mk ?_; cbv)
    | (refine Fin1.mk ?_; cbv)
    | exact trivial
    | refine And.intro ?_ ?_
    | refine orf fun _ => ?_
    | refine ort fun _ => ?_)
  all_goals (clear hL zq Z; (try clear hfs); subst hA hF hG0; simp only [Ss.std, Ar.std] at * <;> first | rfl | grind [stdCmp, sameA]; done)
theorem ok_asame : ConOk Try.prog 17 (c_asame Ss.std) := by
  refine con_of (FsOk.cons ok_eqe (FsOk.cons ok_eqf FsOk.nil rfl) rfl) Try.func17 rfl rfl fun xs h p hp => ?_
  unfold c_asame at hp
  split at hp
  · cases hp
    exact ⟨lee_le rfl, fun hC _ => @x_asame _ _ _ _ hC⟩
  · cases hp

def c_rsame (F : Ss) : Con := fun xs h => match xs, h with
  | [.agg [.sl none (.recs (.int .i64 (.int .i64 (.ints .u8 (.bool .nil)))) v_f), .sl none (.recs (.int .i64 (.int .i64 (.int .i64 .nil))) v_u)], .agg [.sl none (.recs (.int .i64 (.int .i64 (.ints .u8 (.bool .nil)))) w_f), .sl none (.recs (.int .i64 (.int .i64 (.int .i64 .nil))) w_u)]], [] => some ⟨F.s_oo v_f v_u w_f w_u = true, .sa (B (F.s_a v_f v_u w_f w_u)), [], [Any, Any]⟩
  | _, _ => none
set_option maxHeartbeats 2000000 in
set_option maxRecDepth 100000 in
theorem x_rsame (v_f : List E) (v_u : List E) (w_f : List E) (w_u : List E) (hC : Ss.std.s_oo v_f v_u w_f w_u = true) : Does [(34, c_esame EgR.Fs.std), (13, c_rfl Ss.std)] Try.f14 [.agg [.sl none (.recs (.int .i64 (.int .i64 (.ints .u8 (.bool .nil)))) v_f), .sl none (.recs (.int .i64 (.int .i64 (.int .i64 .nil))) v_u)], .agg [.sl none (.recs (.int .i64 (.int .i64 (.ints .u8 (.bool .nil)))) w_f), .sl none (.recs (.int .i64 (.int .i64 (.int .i64 .nil))) w_u)]] [] ⟨Ss.std.s_oo v_f v_u w_f w_u = true, .sa (B (Ss.std.s_a v_f v_u w_f w_u)), [], [Any, Any]⟩ := by
  intro b gv
  have hk : v_f.length ≤ 1000000 ∧ w_f.length ≤ 1000000 ∧ v_u.length ≤ 1000000 ∧ w_u.length ≤ 1000000 := of_decide_eq_true (show decide _ = true from hC)
  have hne := len_ne fT (p := v_f) (q := w_f)
  have hfs := (FsOk.cons ok_esame (FsOk.cons ok_rfl FsOk.nil rfl) rfl)
  generalize hF : Ss.std = F at hC hfs ⊢
  generalize hG0 : EgR.Fs.std = G0 at hC hfs ⊢
  generalize hA : Ar.std = A
  generalize hL : Lp _ _ _ = L
  obtain ⟨Z, zq⟩ := z_all
  refine @cd_open _ _ _ _ _ _ _ (lp_mono hL) _ _ zq rfl ?_
  repeat' (first
    | (refine z_open zq ?_; try dsimp only)
    | refine cd_seq zq ?_ (lp_mono hL)
    | refine cd_blk zq ?_
    | refine cd_ret ?_
    | refine cd_skip ?_
    | refine cd_exit ?_
    | refine cd_loop ?_
    | refine cd_cond rfl ?_
    | refine cd_condT rfl ?_
    | refine cd_condF rfl ?_
    | (refine Cd.mk ?_; cbv)
    | (refine Ends1.mk ?_; cbv)
    | (refine Fin1.mk ?_; cbv)
    | exact trivial
    | refine And.intro ?_ ?_
    | refine orf fun _ => ?_
    | refine ort fun _ => ?_)
  skip -- hfs
  all_goals first | (show L _ _ _; skip) | (clear hL zq Z; (try clear hfs); subst hA hF hG0; simp only [Ss.std, EgR.Fs.std, Ar.std] at * <;> first | rfl | grind [stdCmp, sameFl, sameA]; done)
  rename_i hx
  have hl : v_f.length = w_f.length := by
    clear hL zq Z hF
    (try clear hfs)
    subst hA
    simp only [Ar.std] at hx
    grind [stdCmp]
  have hsu : sameE v_u w_u = true := by
    clear hL zq Z
    (try clear hfs)
    subst hA hF hG0
    simp only [EgR.Fs.std, Ar.std] at hx
    grind [stdCmp]
  clear hx
  subst hL
  refine loop_z (cx_ok hfs) (eqQ fT v_f w_f) (rsI v_f v_u w_f w_u) (eqM v_f) rsR ⟨0⟩ ?_ ?_ ?_
  · exact eq_zero _ _ _
  · cbv
    repeat' (first | exact trivial | exact rfl | refine And.intro ?_ ?_)
  rintro ⟨i⟩ hq O hO
  have hst := eq_step fT v_f w_f hl i hq
  have hen := eq_end fT v_f w_f hl i hq
  have q0 := hq.1
  have q1 := hq.2.1
  dsimp only at q0 q1
  have e1 := inc q0 q1 hk.1
  have hft := fT_iff (v_f.getD i.toNat []) (w_f.getD i.toNat [])
  (try simp only [trE, Prod.mk.injEq] at hst)
  subst hA
  generalize hA : Ar.std = A
  generalize hL : Lp _ _ _ = L
  refine cd_close zq ?_
  repeat' (first
    | (refine z_open zq ?_; try dsimp only)
    | refine cd_seq zq ?_ (lp_mono hL)
    | refine cd_blk zq ?_
    | refine cd_ret ?_
    | refine cd_skip ?_
    | refine cd_exit ?_
    | refine cd_loop ?_
    | refine cd_cond rfl ?_
    | refine cd_condT rfl ?_
    | refine cd_condF rfl ?_
    | (refine Cd.mk ?_; cbv)
    | (refine Ends1.mk ?_; cbv)
    | (refine Fin1.mk ?_; cbv)
    | exact trivial
    | refine And.intro ?_ ?_
    | refine orf fun _ => ?_
    | refine ort fun _ => ?_)
  all_goals (clear hL zq Z hq; (try clear hfs); subst hA hF hG0 hO; simp only [Ss.std, Ar.std] at * <;> first | rfl | grind [stdCmp, eqM, sameFl, sameA]; done)
theorem ok_rsame : ConOk Try.prog 14 (c_rsame Ss.std) := by
  refine con_of (FsOk.cons ok_esame (FsOk.cons ok_rfl FsOk.nil rfl) rfl) Try.func14 rfl rfl fun xs h p hp => ?_
  unfold c_rsame at hp
  split at hp
  · cases hp
    exact ⟨lee_le rfl, fun hC _ => @x_rsame _ _ _ _ hC⟩
  · cases hp
end Go.Proofs.Ytphbfoafgfnmmaa.SkS
