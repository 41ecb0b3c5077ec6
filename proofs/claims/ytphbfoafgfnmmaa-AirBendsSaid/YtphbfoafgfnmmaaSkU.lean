/-
  which link is up; how many flights are on one. No condition but size.
-/
import Derived.Test.YtphbfoafgfnmmaaSkR
namespace Go.Proofs.Ytphbfoafgfnmmaa.SkU
open Go Go.Proofs.Ytphbfoafgfnmmaa.Ry Go.Proofs.Ytphbfoafgfnmmaa.SkR

def loI (a b : Int) : Int := if a < b then a else b
def hiI (a b : Int) : Int := if a < b then b else a
def isU (a b : Int) (y : E) : Bool := decide (ri y 0 = loI a b ∧ ri y 1 = hiI a b)
def upB (l : List E) (a b : Int) : Bool := l.any (isU a b)
def upW (l : List E) (a b : Int) : Int := match l.find? (isU a b) with
  | some y => ri y 2
  | none => 0
structure XU where
  i : Int
def upQ (l : List E) (a b : Int) (y : XU) : Prop := 0 ≤ y.i ∧ y.i ≤ l.length ∧ ∀ z ∈ l.take y.i.toNat, isU a b z = false
def upM (l : List E) (y : XU) : Nat := l.length - y.i.toNat
theorem up_zero (l : List E) (a b : Int) : upQ l a b ⟨0⟩ := ⟨Int.le_refl 0, Int.natCast_nonneg _, fun z h => by cases h⟩
theorem up_step {l : List E} (hl : l.length ≤ 1000000) {a b i : Int} (hq : upQ l a b ⟨i⟩) (h : i < l.length) : stdBin .add .i64 i 1 = i + 1 ∧ upM l ⟨i + 1⟩ < upM l ⟨i⟩ ∧
    (¬ (ri (l.getD i.toNat []) 0 = loI a b ∧ ri (l.getD i.toNat []) 1 = hiI a b) → upQ l a b ⟨i + 1⟩) ∧ (ri (l.getD i.toNat []) 0 = loI a b ∧ ri (l.getD i.toNat []) 1 = hiI a b → upB l a b = true ∧ upW l a b = ri (l.getD i.toNat []) 2) := by
  obtain ⟨h0, h1, h2⟩ := hq
  simp only at h0 h1 h2
  have ht := tk_next l i h0 h
  refine ⟨by rw [b_add, wr _ (by omega) (by omega)], by simp only [upM]; omega, fun g => ⟨by simp only; omega, by simp only; omega, fun z hz => ?_⟩, fun g => ?_⟩
  · simp only at hz
    rw [ht] at hz
    rcases List.mem_append.1 hz with hz | hz
    · exact h2 z hz
    · rw [List.mem_singleton] at hz
      rw [hz]
      exact decide_eq_false g
  · have e : l = l.take i.toNat ++ (l.getD i.toNat [] :: l.drop (i.toNat + 1)) := by
      have hi : i.toNat < l.length := by omega
      rw [List.getD_eq_getElem?_getD, List.getElem?_eq_getElem hi, Option.getD_some, ← List.drop_eq_getElem_cons hi, List.take_append_drop]
    generalize l.getD i.toNat [] = y at *
    have hy : isU a b y = true := decide_eq_true g
    have hn : (l.take i.toNat).find? (isU a b) = none := List.find?_eq_none.2 fun z hz => by rw [h2 z hz]; decide
    constructor
    · unfold upB
      rw [List.any_eq_true]
      exact ⟨y, by rw [e]; simp, hy⟩
    · unfold upW
      rw [e, List.find?_append, hn, Option.none_or, List.find?_cons, hy]
theorem up_end {l : List E} {a b i : Int} (hq : upQ l a b ⟨i⟩) (h : ¬ i < l.length) : upB l a b = false ∧ upW l a b = 0 := by
  obtain ⟨h0, h1, h2⟩ := hq
  simp only at h0 h1 h2
  have e : i = l.length := by omega
  rw [e, Int.toNat_natCast, List.take_length] at h2
  constructor
  · unfold upB
    rw [List.any_eq_false]
    exact fun z hz => by rw [h2 z hz]; decide
  · unfold upW
    rw [List.find?_eq_none.2 fun z hz => by rw [h2 z hz]; decide]
def isO (a b : Int) (y : E) : Bool := decide (ri y 0 = a ∧ ri y 1 = b)
def onN (l : List E) (a b : Int) : Int := (l.countP (isO a b) : Nat)
structure XO where
  i : Int
  n : Int
def onQ (l : List E) (a b : Int) (y : XO) : Prop := 0 ≤ y.i ∧ y.i ≤ l.length ∧ y.n = onN (l.take y.i.toNat) a b ∧ 0 ≤ y.n ∧ y.n ≤ y.i
def onM (l : List E) (y : XO) : Nat := l.length - y.i.toNat
theorem on_zero (l : List E) (a b : Int) : onQ l a b ⟨0, 0⟩ := ⟨Int.le_refl 0, Int.natCast_nonneg _, rfl, Int.le_refl 0, Int.le_refl 0⟩
theorem on_step {l : List E} (hl : l.length ≤ 1000000) {a b i n : Int} (hq : onQ l a b ⟨i, n⟩) (h : i < l.length) : stdBin .add .i64 i 1 = i + 1 ∧ stdBin .add .i64 n 1 = n + 1 ∧ (∀ k, onM l ⟨i + 1, k⟩ < onM l ⟨i, n⟩) ∧
    (¬ (ri (l.getD i.toNat []) 0 = a ∧ ri (l.getD i.toNat []) 1 = b) → onQ l a b ⟨i + 1, n⟩) ∧ (ri (l.getD i.toNat []) 0 = a ∧ ri (l.getD i.toNat []) 1 = b → onQ l a b ⟨i + 1, n + 1⟩) := by
  obtain ⟨h0, h1, h2, h3, h4⟩ := hq
  simp only at h0 h1 h2 h3 h4
  have ht := tk_next l i h0 h
  generalize l.getD i.toNat [] = y at *
  refine ⟨by rw [b_add, wr _ (by omega) (by omega)], by rw [b_add, wr _ (by omega) (by omega)], fun k => by simp only [onM]; omega, fun g => ⟨by simp only; omega, by simp only; omega, ?_, by simp only; omega, by simp only; omega⟩, fun g => ⟨by simp only; omega, by simp only; omega, ?_, by simp only; omega, by simp only; omega⟩⟩
  · have hy : isO a b y = false := decide_eq_false g
    simp only
    rw [ht, h2]
    unfold onN
    rw [List.countP_append, List.countP_singleton, hy]
    rfl
  · have hy : isO a b y = true := decide_eq_true g
    simp only
    rw [ht, h2]
    unfold onN
    rw [List.countP_append, List.countP_singleton, hy]
    simp
theorem on_end {l : List E} {a b i n : Int} (hq : onQ l a b ⟨i, n⟩) (h : ¬ i < l.length) : n = onN l a b := by
  obtain ⟨h0, h1, h2, _⟩ := hq
  simp only at h0 h1 h2
  have e : i = l.length := by omega
  rw [e, Int.toNat_natCast, List.take_length] at h2
  exact h2
noncomputable def upI (A : Ar) (l : List E) (a b : Int) (y : XU) : St := stOf Try.f18.ntmps [(1, .val (.int .i64 a)), (2, .val (.int .i64 b)), (11, .sl none (.recs (.int .i64 (.int .i64 (.int .i64 .nil))) l)), (12, .val (.int .i64 (A.lenE l))), (13, .val (.int .i64 y.i))] [] [Any, Any, Any]
def upR (st : St) : XU := ⟨slotI st 13⟩
noncomputable def onI (A : Ar) (l : List E) (a b : Int) (y : XO) : St := stOf Try.f20.ntmps [(1, .val (.int .i64 a)), (2, .val (.int .i64 b)), (7, .val (.int .i64 y.n)), (11, .sl none (.recs (.int .i64 (.int .i64 (.ints .u8 (.bool .nil)))) l)), (12, .val (.int .i64 (A.lenE l))), (13, .val (.int .i64 y.i))] [] [Any, Any, Any]
def onR (st : St) : XO := ⟨slotI st 13, slotI st 7⟩

structure Su where
  u_w : List E → Int → Int → Int
  u_b : List E → Int → Int → Bool
  u_n : List E → Int → Int → Int
  u_l : List E → Bool
def Su.std : Su := ⟨upW, upB, onN, fun l => decide (l.length ≤ 1000000)⟩

def c_up (F : Su) : Con := fun xs h => match xs, h with
  | [.agg [.sl none (.recs (.int .i64 (.int .i64 (.ints .u8 (.bool .nil)))) _), .sl none (.recs (.int .i64 (.int .i64 (.int .i64 .nil))) v_u)], .one (.val (.int .i64 x)), .one (.val (.int .i64 z))], [] => some ⟨F.u_l v_u = true, .tup [I (F.u_w v_u x z), B (F.u_b v_u x z)], [], [Any, Any, Any]⟩
  | _, _ => none
set_option maxHeartbeats 2000000 in
set_option maxRecDepth 100000 in
theorem x_up (v_f : List E) (v_u : List E) (x : Int) (z : Int) (hC : Su.std.u_l v_u = true) : Does [] Try.f18 [.agg [.sl none (.recs (.int .i64 (.int .i64 (.ints .u8 (.bool .nil)))) v_f), .sl none (.recs (.int .i64 (.int .i64 (.int .i64 .nil))) v_u)], .one (.val (.int .i64 x)), .one (.val (.int .i64 z))] [] ⟨Su.std.u_l v_u = true, .tup [I (Su.std.u_w v_u x z), B (Su.std.u_b v_u x z)], [], [Any, Any, Any]⟩ := by
  intro b gv
  have hk : v_u.length ≤ 1000000 := of_decide_eq_true (show decide (v_u.length ≤ 1000000) = true from hC)
  generalize hF : Su.std = F at hC ⊢
  generalize hA : Ar.std = A
  generalize hL : Lp _ _ _ = L
  obtain ⟨Z, zq⟩ := z_all
  refine @cd_open _ _ _ _ _ _ _ (lp_mono hL) _ _ zq rfl ?_
  repeat' (first
    | (refine z_open zq ?_; try dsimp only)
    | refine cd_seq zq ?_ (lp_mono hL)
    | refine cd_blk zq ?_
    | refine cd_ret ?_
    | refine cd_skip ?_
    | refine cd_exit ?_
    | refine cd_loop ?_
    | refine cd_cond rfl ?_
    | refine cd_condT rfl ?_
    | refine cd_condF rfl ?_
    | (refine Cd.mk ?_; cbv)
    | (refine Ends1.mk ?_; cbv)
    | (refine Fin1.mk ?_; cbv)
    | exact trivial
    | refine And.intro ?_ ?_
    | refine orf fun _ => ?_
    | refine ort fun _ => ?_)
  subst hL
  refine loop_z (cx_ok FsOk.nil) (upQ v_u x z) (upI A v_u x z) (upM v_u) upR ⟨0⟩ ?_ ?_ ?_
  · exact up_zero _ _ _
  · cbv
    repeat' (first | exact trivial | exact rfl | refine And.intro ?_ ?_)
  rintro ⟨i⟩ hq O hO
  have hst := fun h => up_step hk hq h
  have hen := fun h => up_end hq h
  have q0 := hq.1
  have q1 := hq.2.1
  dsimp only at q0 q1
  subst hA
  generalize hA : Ar.std = A
  generalize hL : Lp _ _ _ = L
  refine cd_close zq ?_
  repeat' (first
    | (refine z_open zq ?_; try dsimp only)
    | refine cd_seq zq ?_ (lp_mono hL)
    | refine cd_blk zq ?_
    | refine cd_ret ?_
    | refine cd_skip ?_
    | refine cd_exit ?_
    | refine cd_loop ?_
    | refine cd_cond rfl ?_
    | refine cd_condT rfl ?_
    | refine cd_condF rfl ?_
    | (refine Cd.mk ?_; cbv)
    | (refine Ends1.mk ?_; cbv)
    | (refine Fin1.mk ?_; cbv)
    | exact trivial
    | refine And.intro ?_ ?_
    | refine orf fun _ => ?_
    | refine ort fun _ => ?_)
  all_goals (clear hL zq Z hq; subst hA hF hO; simp only [Su.std, Ar.std] at * <;> grind [stdCmp, loI, hiI]; done)
theorem ok_up : ConOk Try.prog 18 (c_up Su.std) := by
  refine con_of FsOk.nil Try.func18 rfl rfl fun xs h p hp => ?_
  unfold c_up at hp
  split at hp
  · cases hp
    exact ⟨lee_le rfl, fun hC _ => @x_up _ _ _ _ hC⟩
  · cases hp

def c_on (F : Su) : Con := fun xs h => match xs, h with
  | [.agg [.sl none (.recs (.int .i64 (.int .i64 (.ints .u8 (.bool .nil)))) v_f), .sl none (.recs (.int .i64 (.int .i64 (.int .i64 .nil))) _)], .one (.val (.int .i64 x)), .one (.val (.int .i64 z))], [] => some ⟨F.u_l v_f = true, .sa (I (F.u_n v_f x z)), [], [Any, Any, Any]⟩
  | _, _ => none
set_option maxHeartbeats 2000000 in
set_option maxRecDepth 100000 in
theorem x_on (v_f : List E) (v_u : List E) (x : Int) (z : Int) (hC : Su.std.u_l v_f = true) : Does [] Try.f20 [.agg [.sl none (.recs (.int .i64 (.int .i64 (.ints .u8 (.bool .nil)))) v_f), .sl none (.recs (.int .i64 (.int .i64 (.int .i64 .nil))) v_u)], .one (.val (.int .i64 x)), .one (.val (.int .i64 z))] [] ⟨Su.std.u_l v_f = true, .sa (I (Su.std.u_n v_f x z)), [], [Any, Any, Any]⟩ := by
  intro b gv
  have hk : v_f.length ≤ 1000000 := of_decide_eq_true (show decide (v_f.length ≤ 1000000) = true from hC)
  generalize hF : Su.std = F at hC ⊢
  generalize hA : Ar.std = A
  generalize hL : Lp _ _ _ = L
  obtain ⟨Z, zq⟩ := z_all
  refine @cd_open _ _ _ _ _ _ _ (lp_mono hL) _ _ zq rfl ?_
  repeat' (first
    | (refine z_open zq ?_; try dsimp only)
    | refine cd_seq zq ?_ (lp_mono hL)
    | refine cd_blk zq ?_
    | refine cd_ret ?_
    | refine cd_skip ?_
    | refine cd_exit ?_
    | refine cd_loop ?_
    | refine cd_cond rfl ?_
    | refine cd_condT rfl ?_
    | refine cd_condF rfl ?_
    | (refine Cd.mk ?_; cbv)
    | (refine Ends1.mk ?_; cbv)
    | (refine Fin1.mk ?_; cbv)
    | exact trivial
    | refine And.intro ?_ ?_
    | refine orf fun _ => ?_
    | refine ort fun _ => ?_)
  subst hL
  refine loop_z (cx_ok FsOk.nil) (onQ v_f x z) (onI A v_f x z) (onM v_f) onR ⟨0, 0⟩ ?_ ?_ ?_
  · exact on_zero _ _ _
  · cbv
    repeat' (first | exact trivial | exact rfl | refine And.intro ?_ ?_)
  rintro ⟨i, n⟩ hq O hO
  have hst := fun h => on_step hk hq h
  have hen := fun h => on_end hq h
  have q0 := hq.1
  have q1 := hq.2.1
  dsimp only at q0 q1
  subst hA
  generalize hA : Ar.std = A
  generalize hL : Lp _ _ _ = L
  refine cd_close zq ?_
  repeat' (first
    | (refine z_open zq ?_; try dsimp only)
    | refine cd_seq zq ?_ (lp_mono hL)
    | refine cd_blk zq ?_
    | refine cd_ret ?_
    | refine cd_skip ?_
    | refine cd_exit ?_
    | refine cd_loop ?_
    | refine cd_cond rfl ?_
    | refine cd_condT rfl ?_
    | refine cd_condF rfl ?_
    | (refine Cd.mk ?_; cbv)
    | (refine Ends1.mk ?_; cbv)
    | (refine Fin1.mk ?_; cbv)
    | exact trivial
    | refine And.intro ?_ ?_
    | refine orf fun _ => ?_
    | refine ort fun _ => ?_)
  all_goals (clear hL zq Z hq; subst hA hF hO; simp only [Su.std, Ar.std] at * <;> grind [stdCmp]; done)
theorem ok_on : ConOk Try.prog 20 (c_on Su.std) := by
  refine con_of FsOk.nil Try.func20 rfl rfl fun xs h p hp => ?_
  unfold c_on at hp
  split at hp
  · cases hp
    exact ⟨lee_le rfl, fun hC _ => @x_on _ _ _ _ hC⟩
  · cases hp
end Go.Proofs.Ytphbfoafgfnmmaa.SkU
