/-
  what a root does, as the code does it. No condition.
-/
import Derived.Test.YtfioaidmgcibaaaChR
import Derived.Test.YtfioaidmgcibaaaTrQ
namespace Go.Proofs.Ytfioaidmgcibaaa.ChQ
open Go Go.Proofs.Ytfioaidmgcibaaa.Ry Go.Proofs.Ytfioaidmgcibaaa.Cmp Go.Proofs.Ytfioaidmgcibaaa.ViR Go.Proofs.Ytfioaidmgcibaaa.ViL Go.Proofs.Ytfioaidmgcibaaa.ChR

open Go.Proofs.Ytfioaidmgcibaaa.EgR (c_ecmp ok_ecmp)
open Go.Proofs.Ytfioaidmgcibaaa.EcX (cmpF)
open Go.Proofs.Ytfioaidmgcibaaa.SpR (c_forest ok_forest forB)
open Go.Proofs.Ytfioaidmgcibaaa.TrQ (c_theavy ok_theavy hvE hvB)
open Go.Proofs.Ytfioaidmgcibaaa.SoC (c_sortc ok_sortc srtC)
structure CH where
  k : Int
  a : Int
  b : Int
  s : Int
def evP (d : List E) (y : E) : Bool := !rb y 4 && (decide (hvE d (ri y 0) (ri y 1) = 0) && decide (cmpF (edA (ri y 0) (ri y 1)) (edB (ri y 0) (ri y 1)) (ri y 2) (hvB d (ri y 0) (ri y 1)).1 (hvB d (ri y 0) (ri y 1)).2.1 (hvB d (ri y 0) (ri y 1)).2.2 < 0))
def evF (l d : List E) : Option E := (srtC l).find? (evP d)
def evC (l d : List E) : CH := match evF l d with
  | some y => ⟨3, (hvB d (ri y 0) (ri y 1)).1, (hvB d (ri y 0) (ri y 1)).2.1, seF l (hvB d (ri y 0) (ri y 1)).1 (hvB d (ri y 0) (ri y 1)).2.1 (hvB d (ri y 0) (ri y 1)).2.2⟩
  | none => ⟨0, 0, 0, 0⟩
def evB (l d : List E) : Bool := (evF l d).isSome
def evQ (l d : List E) (y : ChR.XI) : Prop := 0 ≤ y.i ∧ y.i ≤ (srtC l).length ∧ evF l d = ((srtC l).drop y.i.toNat).find? (evP d)
noncomputable def evI (A : Ar) (l d s : List E) (y : ChR.XI) : St := stOf Try.f65.ntmps [(0, .sl none (.recs (.int .i64 (.int .i64 (.int .i64 (.int .i64 (.bool .nil))))) l)), (1, .sl none (.recs (.int .i64 (.int .i64 (.int .i64 .nil))) d)), (4, .ptr 1 0), (15, .own 2), (16, .val (.int .i64 (A.lenE s))), (17, .val (.int .i64 y.i))] [(1, .cells 41 [.num .i64 0, .num .i64 0, .num .i64 0, .num .i64 0]), (2, .row 38 (.recs (.int .i64 (.int .i64 (.int .i64 (.int .i64 (.bool .nil))))) s))] [Any, Any]
theorem ev_step {l d : List E} (hl : l.length ≤ 1000000) {i : Int} (hq : evQ l d ⟨i⟩) : 0 ≤ i ∧ i ≤ (srtC l).length ∧ (srtC l).length = l.length ∧ (i < (srtC l).length → stdBin .add .i64 i 1 = i + 1 ∧ lnM (srtC l) ⟨i + 1⟩ < lnM (srtC l) ⟨i⟩ ∧
    (evP d ((srtC l).getD i.toNat []) = true → evF l d = some ((srtC l).getD i.toNat [])) ∧ (evP d ((srtC l).getD i.toNat []) = false → evQ l d ⟨i + 1⟩)) ∧ (¬ i < (srtC l).length → evF l d = none) := by
  obtain ⟨h0, h1, h2⟩ := hq
  simp only at h0 h1 h2
  have e := (SoC.srtC_all l).1
  refine ⟨h0, h1, e, fun h => ⟨by rw [b_add, wr _ (by omega) (by omega)], by simp only [lnM]; omega, fun g => ?_, fun g => ⟨by simp only; omega, by simp only; omega, ?_⟩⟩, fun h => ?_⟩
  · rw [h2, dr_next _ i h0 h, List.find?_cons_of_pos g]
  · simp only
    rw [h2, dr_next _ i h0 h, List.find?_cons_of_neg (by rw [g]; decide)]
  · rw [h2, List.drop_of_length_le (by omega)]
    rfl
structure XZ where
  i : Int
def zQ (y : XZ) : Prop := y.i = 0
def zM (_ : XZ) : Nat := 0
def zR (k : Nat) (st : St) : XZ := ⟨slotI st k⟩
noncomputable def ezI (y : XZ) : St := stOf Try.f65.ntmps [(4, .ptr 1 0), (15, .val (.slice none 0 0)), (16, .num .i64 0), (17, .val (.int .i64 y.i))] [(1, .cells 41 [.num .i64 0, .num .i64 0, .num .i64 0, .num .i64 0])] [Any, Any]
/-- What a root does. -/
def chE (n : List Int) (l : List E) : Int := if mayV n l = true then (if forB (boV n l) = true then 0 else 11) else 1
def chF (n : List Int) (l : List E) : CH := if ¬ chE n l = 0 then ⟨0, 0, 0, 0⟩ else if evB (inV n l) (boV n l) = true then evC (inV n l) (boV n l) else if 0 < (ouV n l).length then ⟨2, (mnT (ouV n l)).1, (mnT (ouV n l)).2.1, (mnT (ouV n l)).2.2.2.1⟩ else ⟨1, 0, 0, 0⟩
theorem in_le (n : List Int) (l : List E) : (inV n l).length ≤ l.length := by
  unfold inV
  split
  · exact in_len l
  · exact Nat.zero_le _
theorem bo_le (n : List Int) (l : List E) : (boV n l).length ≤ l.length := by
  unfold boV
  split
  · exact Nat.le_trans (fm_len bo1_len _) (in_len l)
  · exact Nat.zero_le _
theorem ou_le (n : List Int) (l : List E) : (ouV n l).length ≤ l.length := by
  unfold ouV
  split
  · exact fm_len (ou1_len n) l
  · exact Nat.zero_le _
theorem ev_nil (d : List E) : evC [] d = ⟨0, 0, 0, 0⟩ ∧ evB [] d = false := by
  have h := (SoC.srtC_all []).1
  have e : srtC [] = [] := List.eq_nil_of_length_eq_zero h
  unfold evC evB evF
  rw [e]
  exact ⟨rfl, rfl⟩

structure Cq where
  v_k : List E → List E → Int
  v_a : List E → List E → Int
  v_b : List E → List E → Int
  v_s : List E → List E → Int
  v_is : List E → List E → Bool
  v_ok : List E → List E → Bool
  v_oc : List Int → List E → Bool
  v_oa : List Int → List E → Bool
  v_ob : List Int → List E → Bool
  v_ck : List Int → List E → Int
  v_ca : List Int → List E → Int
  v_cb : List Int → List E → Int
  v_cs : List Int → List E → Int
  v_ce : List Int → List E → Int
def Cq.std : Cq := ⟨fun l d => (evC l d).k, fun l d => (evC l d).a, fun l d => (evC l d).b, fun l d => (evC l d).s, evB, fun l d => decide (0 < l.length ∧ l.length ≤ 1000000 ∧ d.length ≤ 1000000), fun n l => decide (n.length ≤ 1000000 ∧ l.length ≤ 1000000), fun n l => decide (n.length ≤ 1000000 ∧ l.length ≤ 1000000 ∧ (inV n l).length = 0), fun n l => decide (n.length ≤ 1000000 ∧ l.length ≤ 1000000 ∧ 0 < (inV n l).length), fun n l => (chF n l).k, fun n l => (chF n l).a, fun n l => (chF n l).b, fun n l => (chF n l).s, chE⟩

def c_evict (F : Cq) : Con := fun xs h => match xs, h with
  | [.one (.sl none (.recs (.int .i64 (.int .i64 (.int .i64 (.int .i64 (.bool .nil))))) l)), .one (.sl none (.recs (.int .i64 (.int .i64 (.int .i64 .nil))) d))], [] => some ⟨F.v_ok l d = true, .tup [.agg [.val (.int .i64 (F.v_k l d)), .val (.int .i64 (F.v_a l d)), .val (.int .i64 (F.v_b l d)), .val (.int .i64 (F.v_s l d))], B (F.v_is l d)], [], [Any, Any]⟩
  | _, _ => none
set_option cbv.maxSteps 4000000 in
set_option maxHeartbeats 4000000 in
set_option maxRecDepth 100000 in
theorem x_evict (l : List E) (d : List E) (hC : Cq.std.v_ok l d = true) : Does [(100, c_clone ChR.Ch.std), (52, c_sortc SoC.Oc.std), (101, c_theavy TrQ.Tq.std), (98, c_vedge ViL.Vl.std), (102, c_ecmp EgR.Fs.std), (103, c_sess ChR.Ch.std)] Try.f65 [.one (.sl none (.recs (.int .i64 (.int .i64 (.int .i64 (.int .i64 (.bool .nil))))) l)), .one (.sl none (.recs (.int .i64 (.int .i64 (.int .i64 .nil))) d))] [] ⟨Cq.std.v_ok l d = true, .tup [.agg [.val (.int .i64 (Cq.std.v_k l d)), .val (.int .i64 (Cq.std.v_a l d)), .val (.int .i64 (Cq.std.v_b l d)), .val (.int .i64 (Cq.std.v_s l d))], B (Cq.std.v_is l d)], [], [Any, Any]⟩ := by
  intro b gv
  have hk : 0 < l.length ∧ l.length ≤ 1000000 ∧ d.length ≤ 1000000 := of_decide_eq_true (show decide (0 < l.length ∧ l.length ≤ 1000000 ∧ d.length ≤ 1000000) = true from hC)
  have he1 : ∀ y, evF l d = some y → evB l d = true ∧ (evC l d).k = 3 ∧ (evC l d).a = (hvB d (ri y 0) (ri y 1)).1 ∧ (evC l d).b = (hvB d (ri y 0) (ri y 1)).2.1 ∧ (evC l d).s = seF l (hvB d (ri y 0) (ri y 1)).1 (hvB d (ri y 0) (ri y 1)).2.1 (hvB d (ri y 0) (ri y 1)).2.2 := fun y h => by unfold evB evC; rw [h]; exact ⟨rfl, rfl, rfl, rfl, rfl⟩
  have he0 : evF l d = none → evB l d = false ∧ (evC l d).k = 0 ∧ (evC l d).a = 0 ∧ (evC l d).b = 0 ∧ (evC l d).s = 0 := fun h => by unfold evB evC; rw [h]; exact ⟨rfl, rfl, rfl, rfl, rfl⟩
  have hsl := (SoC.srtC_all l).1
  have hfs := (FsOk.cons ok_clone (FsOk.cons ok_sortc (FsOk.cons ok_theavy (FsOk.cons ok_vedge (FsOk.cons ok_ecmp (FsOk.cons ok_sess FsOk.nil rfl) rfl) rfl) rfl) rfl) rfl)
  generalize hF : Cq.std = F at hC hfs ⊢
  generalize hG0 : ViL.Vl.std = G0 at hC hfs ⊢
  generalize hG1 : EgR.Fs.std = G1 at hC hfs ⊢
  generalize hG2 : SpR.Sp.std = G2 at hC hfs ⊢
  generalize hG3 : TrQ.Tq.std = G3 at hC hfs ⊢
  generalize hG4 : ChR.Ch.std = G4 at hC hfs ⊢
  generalize hG5 : SoC.Oc.std = G5 at hC hfs ⊢
  generalize hA : Ar.std = A
  generalize hL : Lp _ _ _ = L
  obtain ⟨Z, zq⟩ := z_all
  refine cd_open (lp_mono hL) zq rfl ?_
  repeat' (first
    | (refine z_open zq ?_; try dsimp only)
    | refine cd_seq zq ?_ (lp_mono hL)
    | refine cd_blk zq ?_
    | refine cd_ret ?_
    | refine cd_skip ?_
    | refine cd_exit ?_
    | refine cd_loop ?_
    | refine cd_cond rfl ?_
    | refine cd_condT rfl ?_
    | refine cd_condF rfl ?_
    | (refine Cd.mk ?_; cbv)
    | (refine Ends1.mk ?_; cbv)
    | (refine Fin1.mk ?_; cbv)
    | exact trivial
    | refine And.intro ?_ ?_
    | refine orf fun _ => ?_
    | refine ort fun _ => ?_)
  all_goals first | (show L _ _ _; skip) | (clear hL hfs zq Z; subst hA hF hG0 hG1 hG2 hG3 hG4 hG5; simp only [Cq.std, ChR.Ch.std, SoC.Oc.std] at * <;> grind [stdCmp]; done)
  subst hL
  refine loop_z (cx_ok hfs) (evQ l d) (evI A l d (G5.srt l)) (lnM (srtC l)) (ChR.iR 17) ⟨0⟩ ?_ ?_ ?_
  · exact ⟨Int.le_refl 0, Int.natCast_nonneg _, rfl⟩
  · cbv
    repeat' (first | exact trivial | exact rfl | refine And.intro ?_ ?_)
  rintro ⟨i⟩ hq O hO
  have hst := ev_step hk.2.1 hq
  have hp : evP d ((srtC l).getD i.toNat []) = (!rb ((srtC l).getD i.toNat []) 4 && (decide (hvE d (ri ((srtC l).getD i.toNat []) 0) (ri ((srtC l).getD i.toNat []) 1) = 0) && decide (cmpF (edA (ri ((srtC l).getD i.toNat []) 0) (ri ((srtC l).getD i.toNat []) 1)) (edB (ri ((srtC l).getD i.toNat []) 0) (ri ((srtC l).getD i.toNat []) 1)) (ri ((srtC l).getD i.toNat []) 2) (hvB d (ri ((srtC l).getD i.toNat []) 0) (ri ((srtC l).getD i.toNat []) 1)).1 (hvB d (ri ((srtC l).getD i.toNat []) 0) (ri ((srtC l).getD i.toNat []) 1)).2.1 (hvB d (ri ((srtC l).getD i.toNat []) 0) (ri ((srtC l).getD i.toNat []) 1)).2.2 < 0))) := rfl
  subst hA
  generalize hA : Ar.std = A
  generalize hL : Lp _ _ _ = L
  refine cd_close zq ?_
  repeat' (first
    | (refine z_open zq ?_; try dsimp only)
    | refine cd_seq zq ?_ (lp_mono hL)
    | refine cd_blk zq ?_
    | refine cd_ret ?_
    | refine cd_skip ?_
    | refine cd_exit ?_
    | refine cd_loop ?_
    | refine cd_cond rfl ?_
    | refine cd_condT rfl ?_
    | refine cd_condF rfl ?_
    | (refine Cd.mk ?_; cbv)
    | (refine Ends1.mk ?_; cbv)
    | (refine Fin1.mk ?_; cbv)
    | exact trivial
    | refine And.intro ?_ ?_
    | refine orf fun _ => ?_
    | refine ort fun _ => ?_)
  all_goals (clear hL hfs zq Z hq; subst hA hF hG0 hG1 hG2 hG3 hG4 hG5 hO; simp only [Cq.std, ViL.Vl.std, EgR.Fs.std, TrQ.Tq.std, ChR.Ch.std, SoC.Oc.std, Ar.std] at * <;> grind [stdCmp]; done)
theorem ok_evict : ConOk Try.prog 65 (c_evict Cq.std) := by
  refine con_of (FsOk.cons ok_clone (FsOk.cons ok_sortc (FsOk.cons ok_theavy (FsOk.cons ok_vedge (FsOk.cons ok_ecmp (FsOk.cons ok_sess FsOk.nil rfl) rfl) rfl) rfl) rfl) rfl) Try.func65 rfl rfl fun xs h p hp => ?_
  unfold c_evict at hp
  split at hp
  · cases hp
    exact ⟨lee_le rfl, fun hC _ => x_evict _ _ hC⟩
  · cases hp

def c_evict0 (_ : Cq) : Con := fun xs h => match xs, h with
  | [.one (.val (.slice none 0 0)), .one (.sl none (.recs (.int .i64 (.int .i64 (.int .i64 .nil))) _))], [] => some ⟨True, .tup [.agg [.val (.int .i64 0), .val (.int .i64 0), .val (.int .i64 0), .val (.int .i64 0)], B false], [], [Any, Any]⟩
  | _, _ => none
set_option cbv.maxSteps 4000000 in
set_option maxHeartbeats 4000000 in
set_option maxRecDepth 100000 in
theorem x_evict0 (d : List E) : Does [(100, c_clone0 ChR.Ch.std), (52, c_sortc SoC.Oc.std), (101, c_theavy TrQ.Tq.std), (98, c_vedge ViL.Vl.std), (102, c_ecmp EgR.Fs.std)] Try.f65 [.one (.val (.slice none 0 0)), .one (.sl none (.recs (.int .i64 (.int .i64 (.int .i64 .nil))) d))] [] ⟨True, .tup [.agg [.val (.int .i64 0), .val (.int .i64 0), .val (.int .i64 0), .val (.int .i64 0)], B false], [], [Any, Any]⟩ := by
  intro b gv
  have hfs := (FsOk.cons ok_clone0 (FsOk.cons ok_sortc (FsOk.cons ok_theavy (FsOk.cons ok_vedge (FsOk.cons ok_ecmp FsOk.nil rfl) rfl) rfl) rfl) rfl)
  generalize hF : Cq.std = F at hfs ⊢
  generalize hG0 : ViL.Vl.std = G0 at hfs ⊢
  generalize hG1 : EgR.Fs.std = G1 at hfs ⊢
  generalize hG2 : SpR.Sp.std = G2 at hfs ⊢
  generalize hG3 : TrQ.Tq.std = G3 at hfs ⊢
  generalize hG4 : ChR.Ch.std = G4 at hfs ⊢
  generalize hG5 : SoC.Oc.std = G5 at hfs ⊢
  generalize hA : Ar.std = A
  generalize hL : Lp _ _ _ = L
  obtain ⟨Z, zq⟩ := z_all
  refine cd_open (lp_mono hL) zq rfl ?_
  repeat' (first
    | (refine z_open zq ?_; try dsimp only)
    | refine cd_seq zq ?_ (lp_mono hL)
    | refine cd_blk zq ?_
    | refine cd_ret ?_
    | refine cd_skip ?_
    | refine cd_exit ?_
    | refine cd_loop ?_
    | refine cd_cond rfl ?_
    | refine cd_condT rfl ?_
    | refine cd_condF rfl ?_
    | (refine Cd.mk ?_; cbv)
    | (refine Ends1.mk ?_; cbv)
    | (refine Fin1.mk ?_; cbv)
    | exact trivial
    | refine And.intro ?_ ?_
    | refine orf fun _ => ?_
    | refine ort fun _ => ?_)
  subst hL
  refine loop_z (cx_ok hfs) (zQ) (ezI) (zM) (zR 17) ⟨0⟩ ?_ ?_ ?_
  · exact rfl
  · cbv
    repeat' (first | exact trivial | exact rfl | refine And.intro ?_ ?_)
  rintro ⟨i⟩ hq O hO
  have hi : i = 0 := hq
  subst hA
  generalize hA : Ar.std = A
  generalize hL : Lp _ _ _ = L
  refine cd_close zq ?_
  repeat' (first
    | (refine z_open zq ?_; try dsimp only)
    | refine cd_seq zq ?_ (lp_mono hL)
    | refine cd_blk zq ?_
    | refine cd_ret ?_
    | refine cd_skip ?_
    | refine cd_exit ?_
    | refine cd_loop ?_
    | refine cd_cond rfl ?_
    | refine cd_condT rfl ?_
    | refine cd_condF rfl ?_
    | (refine Cd.mk ?_; cbv)
    | (refine Ends1.mk ?_; cbv)
    | (refine Fin1.mk ?_; cbv)
    | exact trivial
    | refine And.intro ?_ ?_
    | refine orf fun _ => ?_
    | refine ort fun _ => ?_)
  all_goals (clear hL zq Z hq; first | (exfalso; subst hA hF hG0 hG1 hG2 hG3 hG4 hG5 hO; simp only [ViL.Vl.std, EgR.Fs.std, TrQ.Tq.std, ChR.Ch.std, SoC.Oc.std, Ar.std] at * <;> grind [stdCmp]; done) | (subst hA hF hG0 hG1 hG2 hG3 hG4 hG5 hO; simp only [Cq.std, ViL.Vl.std, EgR.Fs.std, SpR.Sp.std, TrQ.Tq.std, ChR.Ch.std, SoC.Oc.std, Ar.std, List.nil_append] at * <;> grind [stdCmp]; done))
theorem ok_evict0 : ConOk Try.prog 65 (c_evict0 Cq.std) := by
  refine con_of (FsOk.cons ok_clone0 (FsOk.cons ok_sortc (FsOk.cons ok_theavy (FsOk.cons ok_vedge (FsOk.cons ok_ecmp FsOk.nil rfl) rfl) rfl) rfl) rfl) Try.func65 rfl rfl fun xs h p hp => ?_
  unfold c_evict0 at hp
  split at hp
  · cases hp
    exact ⟨lee_le rfl, fun _ _ => x_evict0 _⟩
  · cases hp

def c_choA (F : Cq) : Con := fun xs h => match xs, h with
  | [.agg [.sl none (.ints .i64 v_n), .sl none (.recs (.int .i64 (.int .i64 (.int .i64 (.int .i64 (.bool .nil))))) v_l)]], [] => some ⟨F.v_oa v_n v_l = true, .tup [.agg [.val (.int .i64 (F.v_ck v_n v_l)), .val (.int .i64 (F.v_ca v_n v_l)), .val (.int .i64 (F.v_cb v_n v_l)), .val (.int .i64 (F.v_cs v_n v_l))], I (F.v_ce v_n v_l)], [], [Any]⟩
  | _, _ => none
set_option cbv.maxSteps 4000000 in
set_option maxHeartbeats 4000000 in
set_option maxRecDepth 100000 in
theorem x_choA (v_n : List Int) (v_l : List E) (hC : Cq.std.v_oa v_n v_l = true) : Does [(19, c_inner0 ChR.Ch.std), (63, c_bound ViL.Vl.std), (64, c_forest SpR.Sp.std), (65, c_evict0 Cq.std), (47, c_outer ViL.Vl.std), (66, c_minf ChR.Ch.std)] Try.f23 [.agg [.sl none (.ints .i64 v_n), .sl none (.recs (.int .i64 (.int .i64 (.int .i64 (.int .i64 (.bool .nil))))) v_l)]] [] ⟨Cq.std.v_oa v_n v_l = true, .tup [.agg [.val (.int .i64 (Cq.std.v_ck v_n v_l)), .val (.int .i64 (Cq.std.v_ca v_n v_l)), .val (.int .i64 (Cq.std.v_cb v_n v_l)), .val (.int .i64 (Cq.std.v_cs v_n v_l))], I (Cq.std.v_ce v_n v_l)], [], [Any]⟩ := by
  intro b gv
  have hk : v_n.length ≤ 1000000 ∧ v_l.length ≤ 1000000 ∧ (inV v_n v_l).length = 0 := of_decide_eq_true (show decide (v_n.length ≤ 1000000 ∧ v_l.length ≤ 1000000 ∧ (inV v_n v_l).length = 0) = true from hC)
  have h1 := in_le v_n v_l
  have h2 := bo_le v_n v_l
  have h3 := ou_le v_n v_l
  have h4 : chE v_n v_l = if mayV v_n v_l = true then (if forB (boV v_n v_l) = true then 0 else 11) else 1 := rfl
  have h5 : chV v_n v_l = if mayV v_n v_l = true then 0 else 1 := rfl
  have h6 : ¬ chE v_n v_l = 0 → chF v_n v_l = ⟨0, 0, 0, 0⟩ := fun h => if_pos h
  have h7 : chE v_n v_l = 0 → evB (inV v_n v_l) (boV v_n v_l) = true → chF v_n v_l = evC (inV v_n v_l) (boV v_n v_l) := fun h g => by unfold chF; rw [if_neg (fun k => k h), if_pos g]
  have h8 : chE v_n v_l = 0 → evB (inV v_n v_l) (boV v_n v_l) = false → 0 < (ouV v_n v_l).length → chF v_n v_l = ⟨2, (mnT (ouV v_n v_l)).1, (mnT (ouV v_n v_l)).2.1, (mnT (ouV v_n v_l)).2.2.2.1⟩ := fun h g z => by unfold chF; rw [if_neg (fun k => k h), if_neg (by rw [g]; decide), if_pos z]
  have h9 : chE v_n v_l = 0 → evB (inV v_n v_l) (boV v_n v_l) = false → ¬ 0 < (ouV v_n v_l).length → chF v_n v_l = ⟨1, 0, 0, 0⟩ := fun h g z => by unfold chF; rw [if_neg (fun k => k h), if_neg (by rw [g]; decide), if_neg z]
  have hn : evB (inV v_n v_l) (boV v_n v_l) = false := by rw [List.eq_nil_of_length_eq_zero hk.2.2]; exact (ev_nil _).2
  have hfs := (FsOk.cons ok_inner0 (FsOk.cons ok_bound (FsOk.cons ok_forest (FsOk.cons ok_evict0 (FsOk.cons ok_outer (FsOk.cons ok_minf FsOk.nil rfl) rfl) rfl) rfl) rfl) rfl)
  generalize hF : Cq.std = F at hC hfs ⊢
  generalize hG0 : ViL.Vl.std = G0 at hC hfs ⊢
  generalize hG1 : EgR.Fs.std = G1 at hC hfs ⊢
  generalize hG2 : SpR.Sp.std = G2 at hC hfs ⊢
  generalize hG3 : TrQ.Tq.std = G3 at hC hfs ⊢
  generalize hG4 : ChR.Ch.std = G4 at hC hfs ⊢
  generalize hG5 : SoC.Oc.std = G5 at hC hfs ⊢
  generalize hA : Ar.std = A
  generalize hL : Lp _ _ _ = L
  obtain ⟨Z, zq⟩ := z_all
  refine cd_open (lp_mono hL) zq rfl ?_
  repeat' (first
    | (refine z_open zq ?_; try dsimp only)
    | refine cd_seq zq ?_ (lp_mono hL)
    | refine cd_blk zq ?_
    | refine cd_ret ?_
    | refine cd_skip ?_
    | refine cd_exit ?_
    | refine cd_loop ?_
    | refine cd_cond rfl ?_
    | refine cd_condT rfl ?_
    | refine cd_condF rfl ?_
    | (refine Cd.mk ?_; cbv)
    | (refine Ends1.mk ?_; cbv)
    | (refine Fin1.mk ?_; cbv)
    | exact trivial
    | refine And.intro ?_ ?_
    | refine orf fun _ => ?_
    | refine ort fun _ => ?_)
  all_goals
    clear hL zq Z
    try clear hfs
    subst hA hF hG0 hG1 hG2 hG3 hG4 hG5
    simp only [Cq.std, ViL.Vl.std, SpR.Sp.std, ChR.Ch.std, Ar.std] at *
    try (grind [stdCmp])
theorem ok_choA : ConOk Try.prog 23 (c_choA Cq.std) := by
  refine con_of (FsOk.cons ok_inner0 (FsOk.cons ok_bound (FsOk.cons ok_forest (FsOk.cons ok_evict0 (FsOk.cons ok_outer (FsOk.cons ok_minf FsOk.nil rfl) rfl) rfl) rfl) rfl) rfl) Try.func23 rfl rfl fun xs h p hp => ?_
  unfold c_choA at hp
  split at hp
  · cases hp
    exact ⟨lee_le rfl, fun hC _ => x_choA _ _ hC⟩
  · cases hp

def c_choB (F : Cq) : Con := fun xs h => match xs, h with
  | [.agg [.sl none (.ints .i64 v_n), .sl none (.recs (.int .i64 (.int .i64 (.int .i64 (.int .i64 (.bool .nil))))) v_l)]], [] => some ⟨F.v_ob v_n v_l = true, .tup [.agg [.val (.int .i64 (F.v_ck v_n v_l)), .val (.int .i64 (F.v_ca v_n v_l)), .val (.int .i64 (F.v_cb v_n v_l)), .val (.int .i64 (F.v_cs v_n v_l))], I (F.v_ce v_n v_l)], [], [Any]⟩
  | _, _ => none
set_option cbv.maxSteps 4000000 in
set_option maxHeartbeats 4000000 in
set_option maxRecDepth 100000 in
theorem x_choB (v_n : List Int) (v_l : List E) (hC : Cq.std.v_ob v_n v_l = true) : Does [(19, c_inner ViL.Vl.std), (63, c_bound ViL.Vl.std), (64, c_forest SpR.Sp.std), (65, c_evict Cq.std), (47, c_outer ViL.Vl.std), (66, c_minf ChR.Ch.std)] Try.f23 [.agg [.sl none (.ints .i64 v_n), .sl none (.recs (.int .i64 (.int .i64 (.int .i64 (.int .i64 (.bool .nil))))) v_l)]] [] ⟨Cq.std.v_ob v_n v_l = true, .tup [.agg [.val (.int .i64 (Cq.std.v_ck v_n v_l)), .val (.int .i64 (Cq.std.v_ca v_n v_l)), .val (.int .i64 (Cq.std.v_cb v_n v_l)), .val (.int .i64 (Cq.std.v_cs v_n v_l))], I (Cq.std.v_ce v_n v_l)], [], [Any]⟩ := by
  intro b gv
  have hk : v_n.length ≤ 1000000 ∧ v_l.length ≤ 1000000 ∧ 0 < (inV v_n v_l).length := of_decide_eq_true (show decide (v_n.length ≤ 1000000 ∧ v_l.length ≤ 1000000 ∧ 0 < (inV v_n v_l).length) = true from hC)
  have h1 := in_le v_n v_l
  have h2 := bo_le v_n v_l
  have h3 := ou_le v_n v_l
  have h4 : chE v_n v_l = if mayV v_n v_l = true then (if forB (boV v_n v_l) = true then 0 else 11) else 1 := rfl
  have h5 : chV v_n v_l = if mayV v_n v_l = true then 0 else 1 := rfl
  have h6 : ¬ chE v_n v_l = 0 → chF v_n v_l = ⟨0, 0, 0, 0⟩ := fun h => if_pos h
  have h7 : chE v_n v_l = 0 → evB (inV v_n v_l) (boV v_n v_l) = true → chF v_n v_l = evC (inV v_n v_l) (boV v_n v_l) := fun h g => by unfold chF; rw [if_neg (fun k => k h), if_pos g]
  have h8 : chE v_n v_l = 0 → evB (inV v_n v_l) (boV v_n v_l) = false → 0 < (ouV v_n v_l).length → chF v_n v_l = ⟨2, (mnT (ouV v_n v_l)).1, (mnT (ouV v_n v_l)).2.1, (mnT (ouV v_n v_l)).2.2.2.1⟩ := fun h g z => by unfold chF; rw [if_neg (fun k => k h), if_neg (by rw [g]; decide), if_pos z]
  have h9 : chE v_n v_l = 0 → evB (inV v_n v_l) (boV v_n v_l) = false → ¬ 0 < (ouV v_n v_l).length → chF v_n v_l = ⟨1, 0, 0, 0⟩ := fun h g z => by unfold chF; rw [if_neg (fun k => k h), if_neg (by rw [g]; decide), if_neg z]
  have hfs := (FsOk.cons ok_inner (FsOk.cons ok_bound (FsOk.cons ok_forest (FsOk.cons ok_evict (FsOk.cons ok_outer (FsOk.cons ok_minf FsOk.nil rfl) rfl) rfl) rfl) rfl) rfl)
  generalize hF : Cq.std = F at hC hfs ⊢
  generalize hG0 : ViL.Vl.std = G0 at hC hfs ⊢
  generalize hG1 : EgR.Fs.std = G1 at hC hfs ⊢
  generalize hG2 : SpR.Sp.std = G2 at hC hfs ⊢
  generalize hG3 : TrQ.Tq.std = G3 at hC hfs ⊢
  generalize hG4 : ChR.Ch.std = G4 at hC hfs ⊢
  generalize hG5 : SoC.Oc.std = G5 at hC hfs ⊢
  generalize hA : Ar.std = A
  generalize hL : Lp _ _ _ = L
  obtain ⟨Z, zq⟩ := z_all
  refine cd_open (lp_mono hL) zq rfl ?_
  repeat' (first
    | (refine z_open zq ?_; try dsimp only)
    | refine cd_seq zq ?_ (lp_mono hL)
    | refine cd_blk zq ?_
    | refine cd_ret ?_
    | refine cd_skip ?_
    | refine cd_exit ?_
    | refine cd_loop ?_
    | refine cd_cond rfl ?_
    | refine cd_condT rfl ?_
    | refine cd_condF rfl ?_
    | (refine Cd.mk ?_; cbv)
    | (refine Ends1.mk ?_; cbv)
    | (refine Fin1.mk ?_; cbv)
    | exact trivial
    | refine And.intro ?_ ?_
    | refine orf fun _ => ?_
    | refine ort fun _ => ?_)
  all_goals
    clear hL zq Z
    try clear hfs
    subst hA hF hG0 hG1 hG2 hG3 hG4 hG5
    simp only [Cq.std, ViL.Vl.std, SpR.Sp.std, ChR.Ch.std, Ar.std] at *
    try (grind [stdCmp])
theorem ok_choB : ConOk Try.prog 23 (c_choB Cq.std) := by
  refine con_of (FsOk.cons ok_inner (FsOk.cons ok_bound (FsOk.cons ok_forest (FsOk.cons ok_evict (FsOk.cons ok_outer (FsOk.cons ok_minf FsOk.nil rfl) rfl) rfl) rfl) rfl) rfl) Try.func23 rfl rfl fun xs h p hp => ?_
  unfold c_choB at hp
  split at hp
  · cases hp
    exact ⟨lee_le rfl, fun hC _ => x_choB _ _ hC⟩
  · cases hp

/-- A contract out of two that hold under conditions. -/
theorem cases_ok {P : Program} {f : FuncId} {c c1 c2 : Con} (ok1 : ConOk P f c1) (ok2 : ConOk P f c2)
    (h : ∀ xs h p, c xs h = some p → p.C → (∃ C, c1 xs h = some ⟨C, p.r, p.h, p.as⟩ ∧ C) ∨ ∃ C, c2 xs h = some ⟨C, p.r, p.h, p.as⟩ ∧ C) : ConOk P f c := by
  refine ⟨ok1.1, fun args h' p hp hC G vs hh hbs hm hv => ?_⟩
  rcases h _ _ _ hp hC with ⟨C, h1, h2⟩ | ⟨C, h1, h2⟩
  · exact ok1.2 args h' _ h1 h2 G vs hh hbs hm hv
  · exact ok2.2 args h' _ h1 h2 G vs hh hbs hm hv
def c_choose (F : Cq) : Con := fun xs h => match xs, h with
  | [.agg [.sl none (.ints .i64 v_n), .sl none (.recs (.int .i64 (.int .i64 (.int .i64 (.int .i64 (.bool .nil))))) v_l)]], [] => some ⟨F.v_oc v_n v_l = true, .tup [.agg [.val (.int .i64 (F.v_ck v_n v_l)), .val (.int .i64 (F.v_ca v_n v_l)), .val (.int .i64 (F.v_cb v_n v_l)), .val (.int .i64 (F.v_cs v_n v_l))], I (F.v_ce v_n v_l)], [], [Any]⟩
  | _, _ => none
theorem ok_choose : ConOk Try.prog 23 (c_choose Cq.std) := by
  refine cases_ok ok_choA ok_choB fun xs h p hp hC => ?_
  unfold c_choose at hp
  split at hp
  · rename_i n l
    cases hp
    have hk : n.length ≤ 1000000 ∧ l.length ≤ 1000000 := of_decide_eq_true hC
    by_cases h1 : (inV n l).length = 0
    · exact .inl ⟨_, rfl, decide_eq_true ⟨hk.1, hk.2, h1⟩⟩
    · exact .inr ⟨_, rfl, decide_eq_true ⟨hk.1, hk.2, Nat.pos_of_ne_zero h1⟩⟩
  · cases hp
end Go.Proofs.Ytfioaidmgcibaaa.ChQ
