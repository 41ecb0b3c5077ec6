/-
  what the laws of an air share: which inputs are light; that the air is awake. No condition but size.
-/
import Derived.Test.YtphbfoafgfnmmaaSkN
import Derived.Test.YtphbfoafgfnmmaaSkU
import Derived.Test.YtphbfoafgfnmmaaRyM
namespace Go.Proofs.Ytphbfoafgfnmmaa.SkA
open Go Go.Proofs.Ytphbfoafgfnmmaa.Ry Go.Proofs.Ytphbfoafgfnmmaa.SkR Go.Proofs.Ytphbfoafgfnmmaa.SkP Go.Proofs.Ytphbfoafgfnmmaa.SkN Go.Proofs.Ytphbfoafgfnmmaa.SkU Go.Proofs.Ytphbfoafgfnmmaa.SkM Go.Proofs.Ytphbfoafgfnmmaa.SkD

def liB (f u : List E) : Bool := decide (f.length ≤ 150 ∧ totF f ≤ 9000 ∧ u.length ≤ 600)
def lgOk (f u : List E) : Bool := decide (f.length ≤ 140737488355328 ∧ u.length ≤ 140737488355328 ∧ ∀ y ∈ f, (rl y 2).length ≤ 140737488355328)
structure XL where
  i : Int
  n : Int
def liQ (f : List E) (y : XL) : Prop := 0 ≤ y.i ∧ y.i ≤ f.length ∧ y.i ≤ 200 ∧ y.n = totF (f.take y.i.toNat) ∧ y.n ≤ 200000000000000 ∧ 0 ≤ y.n
def liM (f : List E) (y : XL) : Nat := f.length - y.i.toNat
theorem tot_app (f g : List E) : totF (f ++ g) = totF f + totF g := by
  unfold totF
  rw [List.map_append, List.sum_append]
theorem li_zero (f : List E) : liQ f ⟨0, 0⟩ := ⟨Int.le_refl 0, Int.natCast_nonneg _, by decide, rfl, by decide, Int.le_refl 0⟩
theorem li_step {f u : List E} (hk : lgOk f u = true) {i n : Int} (hq : liQ f ⟨i, n⟩) (h : i < f.length) (h2 : i < 200) (h3 : n ≤ 9000) : stdBin .add .i64 i 1 = i + 1 ∧ stdBin .add .i64 n ((rl (f.getD i.toNat []) 2).length : Int) = n + (rl (f.getD i.toNat []) 2).length ∧ (∀ k, liM f ⟨i + 1, k⟩ < liM f ⟨i, n⟩) ∧ liQ f ⟨i + 1, n + (rl (f.getD i.toNat []) 2).length⟩ := by
  obtain ⟨h0, h1, h4, h5, _, h6⟩ := hq
  simp only at h0 h1 h4 h5 h6
  have hl : (rl (f.getD i.toNat []) 2).length ≤ 140737488355328 := by
    have hi : i.toNat < f.length := by omega
    rw [List.getD_eq_getElem?_getD, List.getElem?_eq_getElem hi, Option.getD_some]
    exact (of_decide_eq_true (show decide _ = true from hk)).2.2 _ (List.getElem_mem hi)
  have ht := tk_next f i h0 h
  generalize f.getD i.toNat [] = y at *
  refine ⟨by rw [b_add, wr _ (by omega) (by omega)], by rw [b_add, wr _ (by omega) (by omega)], fun k => by simp only [liM]; omega, by simp only; omega, by simp only; omega, by simp only; omega, ?_, by simp only; omega, by simp only; omega⟩
  simp only
  rw [ht, tot_app, h5]
  unfold totF
  simp
theorem li_end {f u : List E} {i n : Int} (hq : liQ f ⟨i, n⟩) (h : ¬ (i < f.length ∧ i < 200 ∧ n ≤ 9000)) : liB f u = decide ((f.length : Int) ≤ 150 ∧ n ≤ 9000 ∧ (u.length : Int) ≤ 600) := by
  obtain ⟨h0, h1, h4, h5, _, _⟩ := hq
  simp only at h0 h1 h4 h5
  have e : totF f = totF (f.take i.toNat) + totF (f.drop i.toNat) := by rw [← tot_app, List.take_append_drop]
  have e2 : i = f.length → totF (f.drop i.toNat) = 0 := fun g => by rw [g, Int.toNat_natCast, List.drop_length]; rfl
  unfold liB
  apply decide_eq_decide.2
  by_cases c : i = f.length
  · have := e2 c
    omega
  · omega
theorem z_ch : chA [] [] = 0 := by decide +kernel
theorem z_f1 : adF [] [] 8 2 1 0 5 = [] := by decide +kernel
theorem z_u1 : adU [] [] 8 2 1 5 = [[.int 1, .int 2, .int 5]] := by kernel_rfl
theorem z_c1 : chA [] [[.int 1, .int 2, .int 5]] = 0 := by decide +kernel
theorem z_f2 : puF [] [[.int 1, .int 2, .int 5]] 1 2 [120] false = [[.int 1, .int 2, .ints [120], .bool false]] := by kernel_rfl
theorem z_u2 : puU [] [[.int 1, .int 2, .int 5]] = [[.int 1, .int 2, .int 5]] := by kernel_rfl
theorem z_w : upW [[.int 1, .int 2, .int 5]] 2 1 = 5 ∧ upB [[.int 1, .int 2, .int 5]] 2 1 = true := by decide +kernel
theorem z_c3 : chA [[.int 1, .int 2, .ints [120], .bool false]] [[.int 1, .int 2, .int 5]] = 0 := by decide +kernel
theorem z_f3 : adF [[.int 1, .int 2, .ints [120], .bool false]] [[.int 1, .int 2, .int 5]] 2 0 0 0 0 = [] := by decide +kernel
theorem z_g3 : adG [[.int 1, .int 2, .ints [120], .bool false]] [[.int 1, .int 2, .int 5]] 2 0 0 0 = ⟨1, 2, [120], false, true⟩ := by kernel_rfl
noncomputable def liI (f u : List E) (y : XL) : St := stOf Try.f8.ntmps [(1, .ptr 1 0), (3, .val (.int .i64 y.n)), (4, .val (.int .i64 y.i))] [(1, .cells 25 [.sl none (.recs (.int .i64 (.int .i64 (.ints .u8 (.bool .nil)))) f), .sl none (.recs (.int .i64 (.int .i64 (.int .i64 .nil))) u)])] [Any]
def liR (st : St) : XL := ⟨slotI st 4, slotI st 3⟩

structure Sa where
  w_l : List E → List E → Bool
  w_k : List E → List E → Bool
def Sa.std : Sa := ⟨liB, lgOk⟩

def c_light (F : Sa) : Con := fun xs h => match xs, h with
  | [.agg [.sl none (.recs (.int .i64 (.int .i64 (.ints .u8 (.bool .nil)))) v_f), .sl none (.recs (.int .i64 (.int .i64 (.int .i64 .nil))) v_u)]], [] => some ⟨F.w_k v_f v_u = true, .sa (B (F.w_l v_f v_u)), [], [Any]⟩
  | _, _ => none
set_option maxHeartbeats 2000000 in
set_option maxRecDepth 100000 in
theorem x_light (v_f : List E) (v_u : List E) (hC : Sa.std.w_k v_f v_u = true) : Does [] Try.f8 [.agg [.sl none (.recs (.int .i64 (.int .i64 (.ints .u8 (.bool .nil)))) v_f), .sl none (.recs (.int .i64 (.int .i64 (.int .i64 .nil))) v_u)]] [] ⟨Sa.std.w_k v_f v_u = true, .sa (B (Sa.std.w_l v_f v_u)), [], [Any]⟩ := by
  intro b gv
  have hk0 : lgOk v_f v_u = true := hC
  have hk : v_f.length ≤ 140737488355328 ∧ v_u.length ≤ 140737488355328 := ⟨(of_decide_eq_true (show decide _ = true from hC)).1, (of_decide_eq_true (show decide _ = true from hC)).2.1⟩
  have hfs := FsOk.nil
  generalize hF : Sa.std = F at hC hfs ⊢
  generalize hG0 : SkP.Sp.std = G0 at hC hfs ⊢
  generalize hG1 : SkU.Su.std = G1 at hC hfs ⊢
  generalize hG2 : SkN.Sn.std = G2 at hC hfs ⊢
  generalize hA : Ar.std = A
  generalize hL : Lp _ _ _ = L
  obtain ⟨Z, zq⟩ := z_all
  refine @cd_open _ _ _ _ _ _ _ (lp_mono hL) _ _ zq rfl ?_
  repeat' (first
    | (refine z_open zq ?_; try dsimp only)
    | refine cd_seq zq ?_ (lp_mono hL)
    | refine cd_blk zq ?_
    | refine cd_ret ?_
    | refine cd_skip ?_
    | refine cd_exit ?_
    | refine cd_loop ?_
    | refine cd_cond rfl ?_
    | refine cd_condT rfl ?_
    | refine cd_condF rfl ?_
    | (refine Cd.mk ?_; cbv)
    | (refine Ends1.mk ?_; cbv)
    | (refine Fin1.mk ?_; cbv)
    | exact trivial
    | refine And.intro ?_ ?_
    | refine orf fun _ => ?_
    | refine ort fun _ => ?_)
  skip -- hfs
  subst hL
  refine loop_z (cx_ok FsOk.nil) (liQ v_f) (liI v_f v_u) (liM v_f) liR ⟨0, 0⟩ ?_ ?_ ?_
  · exact li_zero _
  · cbv
    repeat' (first | exact trivial | exact rfl | refine And.intro ?_ ?_)
  rintro ⟨i, n⟩ hq O hO
  have hst := fun h h2 h3 => li_step hk0 hq h h2 h3
  have hen := fun h => li_end (u := v_u) hq h
  have q0 := hq.1
  have q1 := hq.2.1
  have q2 := hq.2.2.2.2.2
  dsimp only at q0 q1 q2
  subst hA
  generalize hA : Ar.std = A
  generalize hL : Lp _ _ _ = L
  refine cd_close zq ?_
  repeat' (first
    | (refine z_open zq ?_; try dsimp only)
    | refine cd_seq zq ?_ (lp_mono hL)
    | refine cd_blk zq ?_
    | refine cd_ret ?_
    | refine cd_skip ?_
    | refine cd_exit ?_
    | refine cd_loop ?_
    | refine cd_cond rfl ?_
    | refine cd_condT rfl ?_
    | refine cd_condF rfl ?_
    | (refine Cd.mk ?_; cbv)
    | (refine Ends1.mk ?_; cbv)
    | (refine Fin1.mk ?_; cbv)
    | exact trivial
    | refine And.intro ?_ ?_
    | refine orf fun _ => ?_
    | refine ort fun _ => ?_)
  all_goals (clear hL zq Z hq; (try clear hfs); subst hA hF hG0 hG1 hG2 hO; (try simp only [Sa.std, Ar.std] at *) <;> grind [stdCmp]; done)
theorem ok_light : ConOk Try.prog 8 (c_light Sa.std) := by
  refine con_of FsOk.nil Try.func8 rfl rfl fun xs h p hp => ?_
  unfold c_light at hp
  split at hp
  · cases hp
    exact ⟨lee_le rfl, fun hC _ => @x_light _ _ hC⟩
  · cases hp

def c_awake (_ : Sa) : Con := fun xs h => match xs, h with
  | [], [] => some ⟨True, .sa (B true), [], []⟩
  | _, _ => none
set_option cbv.maxSteps 4000000 in
set_option maxHeartbeats 2000000 in
set_option maxRecDepth 100000 in
theorem x_awake  : Does [(10, dnil [[some (.recs (.int .i64 (.int .i64 (.ints .u8 (.bool .nil)))) []), some (.recs (.int .i64 (.int .i64 (.int .i64 .nil))) [])], [none, none, none, none, none]] (c_ado SkN.Sn.std)), (16, c_aput SkP.Sp.std), (18, c_up SkU.Su.std)] Try.f9 [] [] ⟨True, .sa (B true), [], []⟩ := by
  intro b gv
  have g1 : adOk [] [] = true := by decide +kernel
  have g2 := z_ch
  have g3 := z_f1
  have g4 := z_u1
  have g5 := z_c1
  have g6 := z_f2
  have g7 := z_u2
  have g8 := z_w
  have g9 := z_c3
  have g10 := z_f3
  have g11 := z_g3
  have g12 : puOk [] [[.int 1, .int 2, .int 5]] [120] = true := by decide +kernel
  have g13 : adOk [[.int 1, .int 2, .ints [120], .bool false]] [[.int 1, .int 2, .int 5]] = true := by decide +kernel
  have g14 : (decide (([[.int 1, .int 2, .int 5]] : List E).length ≤ 1000000)) = true := by decide +kernel
  have hfs := (FsOk.cons (dnil_ok [[some (.recs (.int .i64 (.int .i64 (.ints .u8 (.bool .nil)))) []), some (.recs (.int .i64 (.int .i64 (.int .i64 .nil))) [])], [none, none, none, none, none]] ok_ado) (FsOk.cons ok_aput (FsOk.cons ok_up FsOk.nil rfl) rfl) rfl)
  generalize hF : Sa.std = F at hfs ⊢
  generalize hG0 : SkP.Sp.std = G0 at hfs ⊢
  generalize hG1 : SkU.Su.std = G1 at hfs ⊢
  generalize hG2 : SkN.Sn.std = G2 at hfs ⊢
  generalize hA : Ar.std = A
  generalize hL : Lp _ _ _ = L
  obtain ⟨Z, zq⟩ := z_all
  refine @cd_open _ _ _ _ _ _ _ (lp_mono hL) _ _ zq rfl ?_
  repeat' (first
    | (refine z_open zq ?_; try dsimp only)
    | refine cd_seq zq ?_ (lp_mono hL)
    | refine cd_blk zq ?_
    | refine cd_ret ?_
    | refine cd_skip ?_
    | refine cd_exit ?_
    | refine cd_loop ?_
    | refine cd_cond rfl ?_
    | refine cd_condT rfl ?_
    | refine cd_condF rfl ?_
    | (refine Cd.mk ?_; cbv)
    | (refine Ends1.mk ?_; cbv)
    | (refine Fin1.mk ?_; cbv)
    | exact trivial
    | refine And.intro ?_ ?_
    | refine orf fun _ => ?_
    | refine ort fun _ => ?_)
  skip -- hfs
  all_goals (clear hL zq Z; (try clear hfs); subst hA hF hG0 hG1 hG2; (try simp only [SkP.Sp.std, SkU.Su.std, SkN.Sn.std, Ar.std] at *) <;> grind [stdCmp]; done)
theorem ok_awake : ConOk Try.prog 9 (c_awake Sa.std) := by
  refine con_of (FsOk.cons (dnil_ok [[some (.recs (.int .i64 (.int .i64 (.ints .u8 (.bool .nil)))) []), some (.recs (.int .i64 (.int .i64 (.int .i64 .nil))) [])], [none, none, none, none, none]] ok_ado) (FsOk.cons ok_aput (FsOk.cons ok_up FsOk.nil rfl) rfl) rfl) Try.func9 rfl rfl fun xs h p hp => ?_
  unfold c_awake at hp
  split at hp
  · cases hp
    exact ⟨lee_le rfl, fun _ _ => @x_awake ⟩
  · cases hp
end Go.Proofs.Ytphbfoafgfnmmaa.SkA
