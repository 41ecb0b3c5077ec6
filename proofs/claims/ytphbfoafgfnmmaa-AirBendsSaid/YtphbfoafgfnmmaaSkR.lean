/-
  an air as an object: its flights are copied into one block, cut. No condition but size.
-/
import Derived.Test.YtphbfoafgfnmmaaRyOp
import Derived.Test.YtphbfoafgfnmmaaRyZ
namespace Go.Proofs.Ytphbfoafgfnmmaa.SkR
open Go Go.Proofs.Ytphbfoafgfnmmaa.Ry

theorem tk_next (l : List E) (i : Int) (h0 : 0 ≤ i) (h : i < l.length) : l.take (i + 1).toNat = l.take i.toNat ++ [l.getD i.toNat []] := by
  have e : (i + 1).toNat = i.toNat + 1 := by omega
  have hi : i.toNat < l.length := by omega
  rw [e, List.take_add_one, List.getD_eq_getElem?_getD, List.getElem?_eq_getElem hi]
  rfl
/-- A flight as it is copied. -/
def nrm (y : E) : E := [.int (ri y 0), .int (ri y 1), .ints (rl y 2), .bool (rb y 3)]
/-- The bytes of all. -/
def totF (l : List E) : Nat := (l.map fun y => (rl y 2).length).sum
def fOk (l : List E) : Bool := decide (l.length ≤ 1000000 ∧ totF l ≤ 1000000000)
theorem tot_app (l : List E) (y : E) : totF (l ++ [y]) = totF l + (rl y 2).length := by
  unfold totF
  simp
theorem tot_take (l : List E) (k : Nat) : totF (l.take k) ≤ totF l := by
  conv => rhs; rw [← List.take_append_drop k l]
  unfold totF
  rw [List.map_append, List.sum_append]
  exact Nat.le_add_right _ _
structure XC where
  i : Int
  s : Int
def csQ (l : List E) (y : XC) : Prop := 0 ≤ y.i ∧ y.i ≤ l.length ∧ y.s = totF (l.take y.i.toNat)
def csM (l : List E) (y : XC) : Nat := l.length - y.i.toNat
theorem cs_zero (l : List E) : csQ l ⟨0, 0⟩ := ⟨Int.le_refl 0, Int.natCast_nonneg _, rfl⟩
theorem cs_step {l : List E} (hl : l.length ≤ 1000000 ∧ totF l ≤ 1000000000) {i s : Int} (hq : csQ l ⟨i, s⟩) (h : i < l.length) : stdBin .add .i64 i 1 = i + 1 ∧ stdBin .add .i64 s ((rl (l.getD i.toNat []) 2).length : Int) = s + ((rl (l.getD i.toNat []) 2).length : Int) ∧ (∀ t, csM l ⟨i + 1, t⟩ < csM l ⟨i, s⟩) ∧ csQ l ⟨i + 1, s + ((rl (l.getD i.toNat []) 2).length : Int)⟩ := by
  obtain ⟨h0, h1, h2⟩ := hq
  simp only at h0 h1 h2
  have h3 := tk_next l i h0 h
  have h4 := tot_take l (i + 1).toNat
  rw [h3, tot_app] at h4
  refine ⟨by rw [b_add, wr _ (by omega) (by omega)], by rw [b_add, wr _ (by omega) (by omega)], fun t => by simp only [csM]; omega, by simp only; omega, by simp only; omega, ?_⟩
  simp only
  rw [h3, tot_app]
  omega
theorem cs_end {l : List E} {i s : Int} (hq : csQ l ⟨i, s⟩) (h : ¬ i < l.length) : s = totF l := by
  obtain ⟨h0, h1, h2⟩ := hq
  simp only at h0 h1 h2
  have e : i = l.length := by omega
  rw [e, Int.toNat_natCast, List.take_length] at h2
  exact h2
structure XD where
  i : Int
  r : List Int
  o : List E
def zF : E := [.int 0, .int 0, .ints [], .bool false]
def cdQ (l : List E) (y : XD) : Prop := 0 ≤ y.i ∧ y.i ≤ l.length ∧ y.r.length + totF (l.take y.i.toNat) = totF l ∧ y.o = (l.take y.i.toNat).map nrm ++ List.replicate (l.length - y.i.toNat) zF
def cdM (l : List E) (y : XD) : Nat := l.length - y.i.toNat
def cpF (l : List E) : List E := l.map nrm
theorem cd_zero' (l : List E) {s : Int} (hs : s = totF l) : cdQ l ⟨0, List.replicate s.toNat 0, List.replicate l.length zF⟩ := by
  refine ⟨Int.le_refl 0, Int.natCast_nonneg _, ?_, ?_⟩
  · simp [hs, totF]
  · simp

theorem cd_step {l : List E} (hl : l.length ≤ 1000000 ∧ totF l ≤ 1000000000) {i : Int} {r : List Int} {o : List E} (hq : cdQ l ⟨i, r, o⟩) (h : i < l.length) :
    stdBin .add .i64 i 1 = i + 1 ∧ 0 ≤ (Ar.std.iteI (Ar.std.cmp .lss (Ar.std.lenI (Ar.std.rl (Ar.std.atE l i) 2)) (Ar.std.lenI r)) (Ar.std.lenI (Ar.std.rl (Ar.std.atE l i) 2)) (Ar.std.lenI r)) ∧ (Ar.std.iteI (Ar.std.cmp .lss (Ar.std.lenI (Ar.std.rl (Ar.std.atE l i) 2)) (Ar.std.lenI r)) (Ar.std.lenI (Ar.std.rl (Ar.std.atE l i) 2)) (Ar.std.lenI r)) ≤ Ar.std.lenI (Ar.std.cpyI r (Ar.std.rl (Ar.std.atE l i) 2)) ∧ (∀ p q, cdM l ⟨i + 1, p, q⟩ < cdM l ⟨i, r, o⟩) ∧ cdQ l ⟨i + 1, (Ar.std.cutI (Ar.std.cpyI r (Ar.std.rl (Ar.std.atE l i) 2)) (Ar.std.iteI (Ar.std.cmp .lss (Ar.std.lenI (Ar.std.rl (Ar.std.atE l i) 2)) (Ar.std.lenI r)) (Ar.std.lenI (Ar.std.rl (Ar.std.atE l i) 2)) (Ar.std.lenI r)) (Ar.std.lenI (Ar.std.cpyI r (Ar.std.rl (Ar.std.atE l i) 2)))), (Ar.std.setE o i [.int (Ar.std.ri (Ar.std.atE l i) 0), .int (Ar.std.ri (Ar.std.atE l i) 1), .ints (Ar.std.cutI (Ar.std.cpyI r (Ar.std.rl (Ar.std.atE l i) 2)) 0 (Ar.std.iteI (Ar.std.cmp .lss (Ar.std.lenI (Ar.std.rl (Ar.std.atE l i) 2)) (Ar.std.lenI r)) (Ar.std.lenI (Ar.std.rl (Ar.std.atE l i) 2)) (Ar.std.lenI r))), .bool (Ar.std.rb (Ar.std.atE l i) 3)])⟩ := by
  obtain ⟨h0, h1, h2, h3⟩ := hq
  simp only at h0 h1 h2 h3
  have h4 := tk_next l i h0 h
  have h5 := tot_take l (i + 1).toNat
  rw [h4, tot_app] at h5
  simp only [Ar.std]
  generalize l.getD i.toNat [] = y at *
  have hB : (rl y 2).length ≤ r.length := by omega
  have hN : (if stdCmp .lss ((rl y 2).length : Int) (r.length : Int) then ((rl y 2).length : Int) else (r.length : Int)) = (rl y 2).length := by
    by_cases g : (rl y 2).length < r.length
    · simp [stdCmp, g]
    · have : r.length = (rl y 2).length := by omega
      simp [stdCmp, this]
  have hC : (rl y 2).take r.length ++ r.drop (rl y 2).length = rl y 2 ++ r.drop (rl y 2).length := by rw [List.take_of_length_le hB]
  rw [hN, hC]
  have e1 : ((rl y 2 ++ r.drop (rl y 2).length).take (((rl y 2).length : Nat) : Int).toNat).drop (0 : Int).toNat = rl y 2 := by
    rw [Int.toNat_natCast, List.take_left]
    rfl
  have e2 : ((rl y 2 ++ r.drop (rl y 2).length).take (((rl y 2 ++ r.drop (rl y 2).length).length : Nat) : Int).toNat).drop (((rl y 2).length : Nat) : Int).toNat = r.drop (rl y 2).length := by
    simp only [Int.toNat_natCast, List.take_length, List.drop_left]
  rw [e1, e2]
  refine ⟨by rw [b_add, wr _ (by omega) (by omega)], Int.natCast_nonneg _, by rw [List.length_append]; omega, fun p q => by simp only [cdM]; omega, by simp only; omega, by simp only; omega, ?_, ?_⟩
  · simp only
    rw [h4, tot_app, List.length_drop]
    omega
  · simp only
    have hl0 : ((l.take i.toNat).map nrm).length = i.toNat := by rw [List.length_map, List.length_take]; omega
    have hr : l.length - i.toNat = (l.length - (i + 1).toNat) + 1 := by omega
    rw [h3, h4, List.map_append, List.set_append_right _ _ (by omega), hl0, Nat.sub_self, hr, List.replicate_succ, List.set_cons_zero, List.append_assoc]
    rfl
theorem cd_end {l : List E} {i : Int} {r : List Int} {o : List E} (hq : cdQ l ⟨i, r, o⟩) (h : ¬ i < l.length) : o = cpF l := by
  obtain ⟨h0, h1, h2, h3⟩ := hq
  simp only at h0 h1 h2 h3
  have e : i = l.length := by omega
  rw [e, Int.toNat_natCast, List.take_length, Nat.sub_self] at h3
  rw [h3]
  exact List.append_nil _
theorem cd_len {l : List E} {i : Int} {r : List Int} {o : List E} (hq : cdQ l ⟨i, r, o⟩) : o.length = l.length := by
  obtain ⟨h0, h1, h2, h3⟩ := hq
  simp only at h0 h1 h2 h3
  rw [h3, List.length_append, List.length_map, List.length_take, List.length_replicate]
  omega

noncomputable def csI (A : Ar) (l : List E) (y : XC) : St := stOf Try.f46.ntmps [(0, .sl none (.recs (.int .i64 (.int .i64 (.ints .u8 (.bool .nil)))) l)), (3, .val (.int .i64 y.s)), (14, .val (.int .i64 (A.lenE l))), (15, .val (.int .i64 y.i))] [] [Any]
def csR (st : St) : XC := ⟨slotI st 15, slotI st 3⟩
noncomputable def cdI (A : Ar) (l : List E) (y : XD) : St := stOf Try.f46.ntmps [(5, .own 1), (6, .own 2), (35, .sl none (.recs (.int .i64 (.int .i64 (.ints .u8 (.bool .nil)))) l)), (36, .val (.int .i64 (A.lenE l))), (37, .val (.int .i64 y.i))] [(1, .row 5 (.ints .u8 y.r)), (2, .row 32 (.recs (.int .i64 (.int .i64 (.ints .u8 (.bool .nil)))) y.o))] [Any]
def cdR (st : St) : XD := ⟨slotI st 37, slotL st 5, slotR st 6⟩

structure Sk where
  k_c : List E → List E
  k_ok : List E → Bool
def Sk.std : Sk := ⟨cpF, fOk⟩

def c_copied (F : Sk) : Con := fun xs h => match xs, h with
  | [.one (.sl none (.recs (.int .i64 (.int .i64 (.ints .u8 (.bool .nil)))) l))], [] => some ⟨F.k_ok l = true, .sa (.one (.own 0)), [(0, .row 32 (.recs (.int .i64 (.int .i64 (.ints .u8 (.bool .nil)))) (F.k_c l)))], [Any]⟩
  | _, _ => none
set_option maxHeartbeats 2000000 in
set_option maxRecDepth 100000 in
theorem x_copied (l : List E) (hC : Sk.std.k_ok l = true) : Does [(ownKey 15003, noCon), (ownKey 16002, noCon)] Try.f46 [.one (.sl none (.recs (.int .i64 (.int .i64 (.ints .u8 (.bool .nil)))) l))] [] ⟨Sk.std.k_ok l = true, .sa (.one (.own 0)), [(0, .row 32 (.recs (.int .i64 (.int .i64 (.ints .u8 (.bool .nil)))) (Sk.std.k_c l)))], [Any]⟩ := by
  intro b gv
  have hk : l.length ≤ 1000000 ∧ totF l ≤ 1000000000 := of_decide_eq_true (show decide _ = true from hC)
  have hnil : l.length = 0 → cpF l = [] := fun h => by rw [List.eq_nil_of_length_eq_zero h]; rfl
  have hln : stdBin .add .i64 (l.length : Int) 1 = (l.length : Int) + 1 := by rw [b_add, wr _ (by omega) (by omega)]
  have hfs := (FsOk.own (u := 15003) (FsOk.own (u := 16002) FsOk.nil))
  generalize hF : Sk.std = F at hC hfs ⊢
  generalize hA : Ar.std = A
  generalize hL : Lp _ _ _ = L
  obtain ⟨Z, zq⟩ := z_all
  refine @cd_open _ _ _ _ _ _ _ (lp_mono hL) _ _ zq rfl ?_
  repeat' (first
    | (refine z_open zq ?_; try dsimp only)
    | refine cd_seq zq ?_ (lp_mono hL)
    | refine cd_blk zq ?_
    | refine cd_ret ?_
    | refine cd_skip ?_
    | refine cd_exit ?_
    | refine cd_loop ?_
    | refine cd_cond rfl ?_
    | refine cd_condT rfl ?_
    | refine cd_condF rfl ?_
    | (refine Cd.mk ?_; cbv)
    | (refine Ends1.mk ?_; cbv)
    | (refine Fin1.mk ?_; cbv)
    | exact trivial
    | refine And.intro ?_ ?_
    | refine orf fun _ => ?_
    | refine ort fun _ => ?_)
  all_goals first | (show L _ _ _; skip) | (clear hL hfs zq Z; subst hA hF; simp only [Sk.std, Ar.std] at * <;> grind [stdCmp]; done)
  subst hL
  refine loop_z (cx_ok hfs) (csQ l) (csI A l) (csM l) csR ⟨0, 0⟩ ?_ ?_ ?_
  · exact cs_zero l
  · cbv
    repeat' (first | exact trivial | exact rfl | refine And.intro ?_ ?_)
  rintro ⟨i, t⟩ hq O hO
  have hst := fun h => cs_step hk hq h
  have hen := fun h => cs_end hq h
  have q0 := hq.1
  have q1 := hq.2.1
  dsimp only at q0 q1
  subst hA
  generalize hA : Ar.std = A
  generalize hL : Lp _ _ _ = L
  refine cd_close zq ?_
  repeat' (first
    | (refine z_open zq ?_; try dsimp only)
    | refine cd_seq zq ?_ (lp_mono hL)
    | refine cd_blk zq ?_
    | refine cd_ret ?_
    | refine cd_skip ?_
    | refine cd_exit ?_
    | refine cd_loop ?_
    | refine cd_cond rfl ?_
    | refine cd_condT rfl ?_
    | refine cd_condF rfl ?_
    | (refine Cd.mk ?_; cbv)
    | (refine Ends1.mk ?_; cbv)
    | (refine Fin1.mk ?_; cbv)
    | exact trivial
    | refine And.intro ?_ ?_
    | refine orf fun _ => ?_
    | refine ort fun _ => ?_)
  all_goals first | (show L _ _ _; skip) | (clear hL hfs zq Z hq; subst hA hF hO; simp only [Sk.std, Ar.std] at * <;> grind [stdCmp]; done)
  rename_i hx
  have ht := hen (by
    clear hL hfs zq Z hq hst hen hO
    subst hA
    simp only [Ar.std] at hx
    grind [stdCmp])
  clear hst hen hx hO
  subst hL
  refine loop_z (cx_ok hfs) (cdQ l) (cdI A l) (cdM l) cdR ⟨0, A.repI t, A.repE (A.lenE l) zF⟩ ?_ ?_ ?_
  · subst hA
    exact cd_zero' l ht
  · cbv
    repeat' (first | exact trivial | exact rfl | refine And.intro ?_ ?_)
  rintro ⟨j, r, o⟩ hq2 O2 hO2
  have hst := fun h => cd_step hk hq2 h
  have hen := fun h => cd_end hq2 h
  have hol := cd_len hq2
  have q2 := hq2.1
  have q3 := hq2.2.1
  dsimp only at q2 q3
  subst hA
  generalize hA : Ar.std = A
  generalize hL : Lp _ _ _ = L
  refine cd_close zq ?_
  repeat' (first
    | (refine z_open zq ?_; try dsimp only)
    | refine cd_seq zq ?_ (lp_mono hL)
    | refine cd_blk zq ?_
    | refine cd_ret ?_
    | refine cd_skip ?_
    | refine cd_exit ?_
    | refine cd_loop ?_
    | refine cd_cond rfl ?_
    | refine cd_condT rfl ?_
    | refine cd_condF rfl ?_
    | (refine Cd.mk ?_; cbv)
    | (refine Ends1.mk ?_; cbv)
    | (refine Fin1.mk ?_; cbv)
    | exact trivial
    | refine And.intro ?_ ?_
    | refine orf fun _ => ?_
    | refine ort fun _ => ?_)
  all_goals (clear hL hfs zq Z hq2; subst hA hF hO2; simp only [Sk.std, Ar.std] at * <;> grind [stdCmp]; done)
theorem ok_copied : ConOk Try.prog 46 (c_copied Sk.std) := by
  refine con_of (FsOk.own (u := 15003) (FsOk.own (u := 16002) FsOk.nil)) Try.func46 rfl rfl fun xs h p hp => ?_
  unfold c_copied at hp
  split at hp
  · cases hp
    exact ⟨lee_le rfl, fun hC _ => @x_copied _ hC⟩
  · cases hp
end Go.Proofs.Ytphbfoafgfnmmaa.SkR
