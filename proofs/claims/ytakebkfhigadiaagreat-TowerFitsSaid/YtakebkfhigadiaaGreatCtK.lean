/-
  slices.Concat over the reckoner. No condition.
-/
import Derived.Test.YtakebkfhigadiaaGreatRyZ
import Derived.Test.YtakebkfhigadiaaGreatRyM
import Derived.Test.YtakebkfhigadiaaGreatGwK
import Derived.Test.YtakebkfhigadiaaGreatThw
namespace Go.Proofs.YtakebkfhigadiaaGreat.CtK
open Go Go.Proofs.YtakebkfhigadiaaGreat.Ry

open Go.Proofs.YtakebkfhigadiaaGreat.GwK (c_grow ok_grow)
def catF (q : List E) : List E := q.flatMap fun x => rr x 0
structure XC where
  i : Int
  s : Int
structure XD where
  i : Int
  o : List E
theorem pl_rec (l : List E) (j : Nat) (h : j < l.length) : l.getD j [] = l[j] := by rw [List.getD_eq_getElem?_getD, List.getElem?_eq_getElem h]; rfl
theorem cat_next (q : List E) (i : Int) (h0 : 0 ≤ i) (h : i < q.length) : catF (q.take (i + 1).toNat) = catF (q.take i.toNat) ++ rr (q.getD i.toNat []) 0 := by
  have e : (i + 1).toNat = i.toNat + 1 := by omega
  have hi : i.toNat < q.length := by omega
  rw [e, List.take_add_one, pl_rec _ _ hi, List.getElem?_eq_getElem hi]
  unfold catF
  rw [List.flatMap_append]
  simp
theorem cat_take (q : List E) (k : Nat) : (catF (q.take k)).length ≤ (catF q).length := by
  conv => rhs; rw [← List.take_append_drop k q]
  unfold catF
  rw [List.flatMap_append, List.length_append]
  omega
def c1Q (q : List E) (y : XC) : Prop := 0 ≤ y.i ∧ y.i ≤ q.length ∧ y.s = (catF (q.take y.i.toNat)).length
def c1M (q : List E) (y : XC) : Nat := q.length - y.i.toNat
def c2Q (q : List E) (y : XD) : Prop := 0 ≤ y.i ∧ y.i ≤ q.length ∧ y.o = catF (q.take y.i.toNat)
def c2M (q : List E) (y : XD) : Nat := q.length - y.i.toNat
noncomputable def c1I (A : Ar) (q : List E) (y : XC) : St := stOf Tryz.f219.ntmps [(0, .sl none (.recs (.recs (.int .i64 (.int .i64 (.int .i64 (.int .i64 (.bool .nil))))) .nil) q)), (3, .val (.int .i64 y.s)), (9, .sl none (.recs (.recs (.int .i64 (.int .i64 (.int .i64 (.int .i64 (.bool .nil))))) .nil) q)), (10, .val (.int .i64 (A.lenE q))), (11, .val (.int .i64 y.i))] [] [Any]
def c1R (st : St) : XC := ⟨slotI st 11, slotI st 3⟩
noncomputable def c2I (A : Ar) (q : List E) (y : XD) : St := stOf Tryz.f219.ntmps [(6, .sl (some (1, 176)) (.recs (.int .i64 (.int .i64 (.int .i64 (.int .i64 (.bool .nil))))) y.o)), (25, .sl none (.recs (.recs (.int .i64 (.int .i64 (.int .i64 (.int .i64 (.bool .nil))))) .nil) q)), (26, .val (.int .i64 (A.lenE q))), (27, .val (.int .i64 y.i))] [(1, .tok)] [Any]
def c2R (st : St) : XD := ⟨slotI st 27, ctR (match slotC st 6 with | .sl _ c => c | _ => .recs .nil [])⟩
theorem c1_step {q : List E} (hl : q.length ≤ 1000) (hc : (catF q).length ≤ 1000000) {i s : Int} (hq : c1Q q ⟨i, s⟩) : stdBin .add .i64 i 1 = i + 1 ∧ 0 ≤ s ∧ s ≤ 1000000 ∧ (i < q.length → stdBin .add .i64 s ((rr (q.getD i.toNat []) 0).length : Int) = s + (rr (q.getD i.toNat []) 0).length ∧ 0 ≤ s + ((rr (q.getD i.toNat []) 0).length : Int) ∧ (∀ t, c1M q ⟨i + 1, t⟩ < c1M q ⟨i, s⟩) ∧ c1Q q ⟨i + 1, s + (rr (q.getD i.toNat []) 0).length⟩) := by
  obtain ⟨h0, h1, h2⟩ := hq
  simp only at h0 h1 h2
  have ht := cat_take q i.toNat
  refine ⟨by rw [b_add, wr _ (by omega) (by omega)], by omega, by omega, fun h => ?_⟩
  have hn := cat_next q i h0 h
  have ht2 := cat_take q (i + 1).toNat
  rw [hn, List.length_append] at ht2
  refine ⟨by rw [b_add, wr _ (by omega) (by omega)], by omega, fun t => by simp only [c1M]; omega, by simp only; omega, by simp only; omega, ?_⟩
  simp only
  rw [hn, List.length_append, h2]
  push_cast
  rfl
theorem c2_step {q : List E} (hl : q.length ≤ 1000) (hc : (catF q).length ≤ 1000000) {i : Int} {o : List E} (hq : c2Q q ⟨i, o⟩) : stdBin .add .i64 i 1 = i + 1 ∧ o.length ≤ 1000000 ∧ (i < q.length → o.length + (rr (q.getD i.toNat []) 0).length ≤ 1000000 ∧ (∀ t, c2M q ⟨i + 1, t⟩ < c2M q ⟨i, o⟩) ∧ c2Q q ⟨i + 1, o ++ rr (q.getD i.toNat []) 0⟩) ∧ (¬ i < q.length → o = catF q) := by
  obtain ⟨h0, h1, h2⟩ := hq
  simp only at h0 h1 h2
  have ht := cat_take q i.toNat
  rw [← h2] at ht
  refine ⟨by rw [b_add, wr _ (by omega) (by omega)], by omega, fun h => ?_, fun h => ?_⟩
  · have hn := cat_next q i h0 h
    have ht2 := cat_take q (i + 1).toNat
    rw [hn, List.length_append, ← h2] at ht2
    refine ⟨by omega, fun t => by simp only [c2M]; omega, by simp only; omega, by simp only; omega, ?_⟩
    simp only
    rw [hn, h2]
  · have e : i = q.length := by omega
    rw [e, Int.toNat_natCast, List.take_length] at h2
    exact h2

structure Cs where
  k_cat : List E → List E
  k_ok : List E → Bool
  k_okr : List E → Bool
def Cs.std : Cs := ⟨catF, fun q => decide (q.length ≤ 1000 ∧ (catF q).length ≤ 1000000), fun q => decide (q.length ≤ 1000 ∧ (catF q).length ≤ 1000000 ∧ 0 < (catF q).length)⟩

def c_catk (F : Cs) : Con := fun xs h => match xs, h with
  | [.one (.sl none (.recs (.recs (.int .i64 (.int .i64 (.int .i64 (.int .i64 (.bool .nil))))) .nil) q))], [] => some ⟨F.k_ok q = true, .sa (.one (.sl (some (0, 176)) (.recs (.int .i64 (.int .i64 (.int .i64 (.int .i64 (.bool .nil))))) (F.k_cat q)))), [(0, .tok)], [Any]⟩
  | _, _ => none
set_option maxHeartbeats 4000000 in
set_option maxRecDepth 100000 in
theorem x_catk (q : List E) (hC : Cs.std.k_ok q = true) : Does [(235, c_grow GwK.Gf.std)] Tryz.f219 [.one (.sl none (.recs (.recs (.int .i64 (.int .i64 (.int .i64 (.int .i64 (.bool .nil))))) .nil) q))] [] ⟨Cs.std.k_ok q = true, .sa (.one (.sl (some (0, 176)) (.recs (.int .i64 (.int .i64 (.int .i64 (.int .i64 (.bool .nil))))) (Cs.std.k_cat q)))), [(0, .tok)], [Any]⟩ := by
  intro b gv
  have hk : q.length ≤ 1000 ∧ (catF q).length ≤ 1000000 := of_decide_eq_true (show decide (q.length ≤ 1000 ∧ (catF q).length ≤ 1000000) = true from hC)
  have hfs := (FsOk.cons ok_grow FsOk.nil rfl)
  generalize hF : Cs.std = F at hC hfs ⊢
  generalize hG0 : GwK.Gf.std = G0 at hC hfs ⊢
  generalize hA : Ar.std = A
  generalize hL : Lp _ _ _ = L
  obtain ⟨Z, zq⟩ := z_all
  refine cd_open (lp_mono hL) zq rfl ?_
  repeat' (first
    | (refine z_open zq ?_; try dsimp only)
    | refine cd_seq zq ?_ (lp_mono hL)
    | refine cd_blk zq ?_
    | refine cd_ret ?_
    | refine cd_skip ?_
    | refine cd_exit ?_
    | refine cd_loop ?_
    | refine cd_cond rfl ?_
    | refine cd_condT rfl ?_
    | refine cd_condF rfl ?_
    | (refine Cd.mk ?_; cbv)
    | (refine Ends1.mk ?_; cbv)
    | (refine Fin1.mk ?_; cbv)
    | exact trivial
    | refine And.intro ?_ ?_
    | refine orf fun _ => ?_
    | refine ort fun _ => ?_)
  subst hL
  refine loop_z (cx_ok hfs) (c1Q q) (c1I A q) (c1M q) c1R ⟨0, 0⟩ ?_ ?_ ?_
  · exact ⟨Int.le_refl 0, Int.natCast_nonneg _, rfl⟩
  · cbv
    repeat' (first | exact trivial | exact rfl | refine And.intro ?_ ?_)
  rintro ⟨i, s⟩ hq O hO
  obtain ⟨e1, q2, q3, hst⟩ := c1_step hk.1 hk.2 hq
  have q0 := hq.1
  have q1 := hq.2.1
  dsimp only at q0 q1
  subst hA
  generalize hA : Ar.std = A
  generalize hL : Lp _ _ _ = L
  refine cd_close zq ?_
  repeat' (first
    | (refine z_open zq ?_; try dsimp only)
    | refine cd_seq zq ?_ (lp_mono hL)
    | refine cd_blk zq ?_
    | refine cd_ret ?_
    | refine cd_skip ?_
    | refine cd_exit ?_
    | refine cd_loop ?_
    | refine cd_cond rfl ?_
    | refine cd_condT rfl ?_
    | refine cd_condF rfl ?_
    | (refine Cd.mk ?_; cbv)
    | (refine Ends1.mk ?_; cbv)
    | (refine Fin1.mk ?_; cbv)
    | exact trivial
    | refine And.intro ?_ ?_
    | refine orf fun _ => ?_
    | refine ort fun _ => ?_)
  all_goals first | (show L _ _ _; skip) | (clear hL hfs zq Z hq; subst hA hF hG0 hO; simp only [Cs.std, GwK.Gf.std, Ar.std] at * <;> grind [stdCmp]; done)
  clear hst e1
  subst hL
  refine loop_z (cx_ok hfs) (c2Q q) (c2I A q) (c2M q) c2R ⟨0, []⟩ ?_ ?_ ?_
  · exact ⟨Int.le_refl 0, Int.natCast_nonneg _, rfl⟩
  · cbv
    repeat' (first | exact trivial | exact rfl | refine And.intro ?_ ?_)
  rintro ⟨j, o⟩ hq2 O2 hO2
  obtain ⟨e2, l2, hs2, he2⟩ := c2_step hk.1 hk.2 hq2
  have k0 := hq2.1
  have k1 := hq2.2.1
  dsimp only at k0 k1
  subst hA
  generalize hA : Ar.std = A
  generalize hL : Lp _ _ _ = L
  refine cd_close zq ?_
  repeat' (first
    | (refine z_open zq ?_; try dsimp only)
    | refine cd_seq zq ?_ (lp_mono hL)
    | refine cd_blk zq ?_
    | refine cd_ret ?_
    | refine cd_skip ?_
    | refine cd_exit ?_
    | refine cd_loop ?_
    | refine cd_cond rfl ?_
    | refine cd_condT rfl ?_
    | refine cd_condF rfl ?_
    | (refine Cd.mk ?_; cbv)
    | (refine Ends1.mk ?_; cbv)
    | (refine Fin1.mk ?_; cbv)
    | exact trivial
    | refine And.intro ?_ ?_
    | refine orf fun _ => ?_
    | refine ort fun _ => ?_)
  all_goals (clear hL hfs zq Z hq hq2; subst hA hF hG0 hO hO2; simp only [Cs.std, Ar.std, List.length_append] at * <;> grind [stdCmp])
theorem ok_catk : ConOk Tryz.prog 219 (c_catk Cs.std) := by
  refine con_of (FsOk.cons ok_grow FsOk.nil rfl) Tryz.func219 rfl rfl fun xs h p hp => ?_
  unfold c_catk at hp
  split at hp
  · cases hp
    exact ⟨lee_le rfl, fun hC _ => x_catk _ hC⟩
  · cases hp

def c_catkr (F : Cs) : Con := fun xs h => match xs, h with
  | [.one (.sl none (.recs (.recs (.int .i64 (.int .i64 (.int .i64 (.int .i64 (.bool .nil))))) .nil) q))], [] => some ⟨F.k_okr q = true, .sa (.one (.own 0)), [(0, .row 176 (.recs (.int .i64 (.int .i64 (.int .i64 (.int .i64 (.bool .nil))))) (F.k_cat q)))], [Any]⟩
  | _, _ => none
theorem ok_catkr : ConOk Tryz.prog 219 (c_catkr Cs.std) := by
  refine Thw.thaw_ok ok_catk fun xs h p hp => ?_
  unfold c_catkr at hp
  split at hp
  · cases hp
    refine ⟨rfl, _, _, _, _, rfl, rfl, fun hC => ?_, fun _ _ _ h => h, fun _ _ _ _ vs _ => match vs with | [] => trivial | _ :: _ => ⟨trivial, trivial⟩⟩
    have hk := of_decide_eq_true hC
    exact ⟨decide_eq_true ⟨hk.1, hk.2.1⟩, hk.2.2⟩
  · cases hp
end Go.Proofs.YtakebkfhigadiaaGreat.CtK
