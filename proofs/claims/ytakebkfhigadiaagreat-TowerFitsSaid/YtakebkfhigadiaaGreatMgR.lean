/-
  the view of two, as the code makes it. No condition.
-/
import Derived.Test.YtakebkfhigadiaaGreatCtI
import Derived.Test.YtakebkfhigadiaaGreatCtK
import Derived.Test.YtakebkfhigadiaaGreatSoN
import Derived.Test.YtakebkfhigadiaaGreatViC
namespace Go.Proofs.YtakebkfhigadiaaGreat.MgR
open Go Go.Proofs.YtakebkfhigadiaaGreat.Ry Go.Proofs.YtakebkfhigadiaaGreat.Cmp Go.Proofs.YtakebkfhigadiaaGreat.ViR Go.Proofs.YtakebkfhigadiaaGreat.ViC

open Go.Proofs.YtakebkfhigadiaaGreat.CtI (c_cati c_catir ok_cati ok_catir)
open Go.Proofs.YtakebkfhigadiaaGreat.CtK (c_catk c_catkr ok_catk ok_catkr)
open Go.Proofs.YtakebkfhigadiaaGreat.SoN (c_sorti c_sortv ok_sorti ok_sortv)
def comB (n k : List Int) : Bool := n.any fun x => k.contains x
def okM (n : List Int) (l : List E) (k : List Int) (q : List E) : Bool := (mayV n l && mayV k q) && !comB n k
def meN (n : List Int) (l : List E) (k : List Int) (q : List E) : List Int := if okM n l k q = true then SoI.srtI (n ++ k) else []
def meL (n : List Int) (l : List E) (k : List Int) (q : List E) : List E := if okM n l k q = true then SoK.srtV (l ++ q) else []
def meE (n : List Int) (l : List E) (k : List Int) (q : List E) : Int := if (mayV n l && mayV k q) = true then (if comB n k = true then 11 else 0) else 1
structure XM where
  i : Int
def mgQ (n k : List Int) (y : XM) : Prop := 0 ≤ y.i ∧ y.i ≤ n.length ∧ ∀ j : Nat, j < y.i → k.contains (n.getD j 0) = false
def mgM (n : List Int) (y : XM) : Nat := n.length - y.i.toNat
noncomputable def mgI (A : Ar) (n : List Int) (l : List E) (k : List Int) (q : List E) (y : XM) : St := stOf Tryz.f200.ntmps [(2, .ptr 1 0), (3, .ptr 2 0), (4, .ptr 3 0), (19, .sl none (.ints .i64 n)), (20, .val (.int .i64 (A.lenI n))), (21, .val (.int .i64 y.i))] [(1, .cells 36 [.sl none (.ints .i64 n), .sl none (.recs (.int .i64 (.int .i64 (.int .i64 (.int .i64 (.bool .nil))))) l)]), (2, .cells 36 [.sl none (.ints .i64 k), .sl none (.recs (.int .i64 (.int .i64 (.int .i64 (.int .i64 (.bool .nil))))) q)]), (3, .cells 36 [.val (.slice none 0 0), .val (.slice none 0 0)])] [Any, Any]
def mgR (st : St) : XM := ⟨slotI st 21⟩
theorem mg_zero (n k : List Int) : mgQ n k ⟨0⟩ := ⟨Int.le_refl 0, Int.natCast_nonneg _, fun j hj => by simp only at hj; omega⟩
theorem mg_step {n k : List Int} (hn : n.length ≤ 1000) {i : Int} (h : mgQ n k ⟨i⟩) : 0 ≤ i ∧ i ≤ n.length ∧ (i < n.length → stdBin .add .i64 i 1 = i + 1 ∧ mgM n ⟨i + 1⟩ < mgM n ⟨i⟩ ∧ (k.contains (n.getD i.toNat 0) = true → comB n k = true) ∧ (k.contains (n.getD i.toNat 0) = false → mgQ n k ⟨i + 1⟩)) ∧ (¬ i < n.length → comB n k = false) := by
  obtain ⟨h0, h1, h2⟩ := h
  simp only at h0 h1 h2
  refine ⟨h0, h1, fun c => ⟨by rw [b_add, wr _ (by omega) (by omega)], by simp only [mgM]; omega, fun g => ?_, fun g => ⟨by simp only; omega, by simp only; omega, fun j hj => ?_⟩⟩, fun c => ?_⟩
  · unfold comB
    rw [List.any_eq_true]
    refine ⟨_, ?_, g⟩
    rw [List.getD_eq_getElem?_getD, List.getElem?_eq_getElem (show i.toNat < n.length by omega), Option.getD_some]
    exact List.getElem_mem _
  · simp only at hj
    by_cases z : j = i.toNat
    · rw [z]
      exact g
    · exact h2 j (by omega)
  · unfold comB
    rw [← Bool.not_eq_true, List.any_eq_true]
    rintro ⟨x, hx, g⟩
    obtain ⟨j, hj, rfl⟩ := List.getElem_of_mem hx
    have := h2 j (by omega)
    rw [List.getD_eq_getElem?_getD, List.getElem?_eq_getElem hj, Option.getD_some] at this
    rw [this] at g
    cases g
theorem cat2I (n k : List Int) : CtI.catF [[D.ints n], [D.ints k]] = n ++ k := by simp [CtI.catF, rl]
theorem cat2K (l q : List E) : CtK.catF [[D.recs l], [D.recs q]] = l ++ q := by simp [CtK.catF, rr]

structure Mg where
  m_n : List Int → List E → List Int → List E → List Int
  m_l : List Int → List E → List Int → List E → List E
  m_e : List Int → List E → List Int → List E → Int
  m_ok : List Int → List E → List Int → List E → Bool
  m_00 : List Int → List E → List Int → List E → Bool
  m_01 : List Int → List E → List Int → List E → Bool
  m_10 : List Int → List E → List Int → List E → Bool
  m_11 : List Int → List E → List Int → List E → Bool
def Mg.std : Mg := ⟨meN, meL, meE, fun n l k q => decide (n.length ≤ 1000 ∧ k.length ≤ 1000 ∧ l.length ≤ 1000 ∧ q.length ≤ 1000), fun n l k q => decide ((n.length ≤ 1000 ∧ k.length ≤ 1000 ∧ l.length ≤ 1000 ∧ q.length ≤ 1000) ∧ ( n.length + k.length = 0) ∧ ( l.length + q.length = 0)), fun n l k q => decide ((n.length ≤ 1000 ∧ k.length ≤ 1000 ∧ l.length ≤ 1000 ∧ q.length ≤ 1000) ∧ ( n.length + k.length = 0) ∧ (¬ l.length + q.length = 0)), fun n l k q => decide ((n.length ≤ 1000 ∧ k.length ≤ 1000 ∧ l.length ≤ 1000 ∧ q.length ≤ 1000) ∧ (¬ n.length + k.length = 0) ∧ ( l.length + q.length = 0)), fun n l k q => decide ((n.length ≤ 1000 ∧ k.length ≤ 1000 ∧ l.length ≤ 1000 ∧ q.length ≤ 1000) ∧ (¬ n.length + k.length = 0) ∧ (¬ l.length + q.length = 0))⟩

def c_merge00 (F : Mg) : Con := fun xs h => match xs, h with
  | [.agg [.sl none (.ints .i64 a_n), .sl none (.recs (.int .i64 (.int .i64 (.int .i64 (.int .i64 (.bool .nil))))) a_l)], .agg [.sl none (.ints .i64 d_n), .sl none (.recs (.int .i64 (.int .i64 (.int .i64 (.int .i64 (.bool .nil))))) d_l)]], [] => some ⟨F.m_00 a_n a_l d_n d_l = true, .tup [.agg [.sl none (.ints .i64 (F.m_n a_n a_l d_n d_l)), .sl none (.recs (.int .i64 (.int .i64 (.int .i64 (.int .i64 (.bool .nil))))) (F.m_l a_n a_l d_n d_l))], I (F.m_e a_n a_l d_n d_l)], [], [Any, Any]⟩
  | _, _ => none
set_option cbv.maxSteps 4000000 in
set_option maxHeartbeats 4000000 in
set_option maxRecDepth 100000 in
theorem x_merge00 (a_n : List Int) (a_l : List E) (d_n : List Int) (d_l : List E) (hC : Mg.std.m_00 a_n a_l d_n d_l = true) : Does [(182, c_vcheck ViC.Vc.std), (208, c_has ViR.Vs.std), (218, c_cati CtI.Cs.std), (219, c_catk CtK.Cs.std), (220, c_sorti SoN.On.std), (221, c_sortv SoN.On.std)] Tryz.f200 [.agg [.sl none (.ints .i64 a_n), .sl none (.recs (.int .i64 (.int .i64 (.int .i64 (.int .i64 (.bool .nil))))) a_l)], .agg [.sl none (.ints .i64 d_n), .sl none (.recs (.int .i64 (.int .i64 (.int .i64 (.int .i64 (.bool .nil))))) d_l)]] [] ⟨Mg.std.m_00 a_n a_l d_n d_l = true, .tup [.agg [.sl none (.ints .i64 (Mg.std.m_n a_n a_l d_n d_l)), .sl none (.recs (.int .i64 (.int .i64 (.int .i64 (.int .i64 (.bool .nil))))) (Mg.std.m_l a_n a_l d_n d_l))], I (Mg.std.m_e a_n a_l d_n d_l)], [], [Any, Any]⟩ := by
  intro b gv
  have hk : (a_n.length ≤ 1000 ∧ d_n.length ≤ 1000 ∧ a_l.length ≤ 1000 ∧ d_l.length ≤ 1000) ∧ ( a_n.length + d_n.length = 0) ∧ ( a_l.length + d_l.length = 0) := of_decide_eq_true (show decide _ = true from hC)
  obtain ⟨⟨hk1, hk2, hk3, hk4⟩, hk5, hk6⟩ := hk
  have e1 : okM a_n a_l d_n d_l = true → meN a_n a_l d_n d_l = SoI.srtI (a_n ++ d_n) ∧ meL a_n a_l d_n d_l = SoK.srtV (a_l ++ d_l) := fun h => ⟨if_pos h, if_pos h⟩
  have e2 : ¬ okM a_n a_l d_n d_l = true → meN a_n a_l d_n d_l = [] ∧ meL a_n a_l d_n d_l = [] := fun h => ⟨if_neg h, if_neg h⟩
  have e3 : okM a_n a_l d_n d_l = ((mayV a_n a_l && mayV d_n d_l) && !comB a_n d_n) := rfl
  have e4 : meE a_n a_l d_n d_l = if (mayV a_n a_l && mayV d_n d_l) = true then (if comB a_n d_n = true then 11 else 0) else 1 := rfl
  have e5 := cat2I a_n d_n
  have e6 := cat2K a_l d_l
  have e7 : chV a_n a_l = if mayV a_n a_l = true then 0 else 1 := rfl
  have e8 : chV d_n d_l = if mayV d_n d_l = true then 0 else 1 := rfl
  have e9 := (SoI.srtI_all (a_n ++ d_n)).1
  have e10 := (SoK.srtV_all (a_l ++ d_l)).1
  have eb : mayV d_n d_l = true → ∀ t, bsB d_n t = d_n.contains t := fun h t => bs_mem (by unfold mayV at h; rw [Bool.and_eq_true] at h; exact h.1) t
  have hfs := (FsOk.cons ok_vcheck (FsOk.cons ok_has (FsOk.cons ok_cati (FsOk.cons ok_catk (FsOk.cons ok_sorti (FsOk.cons ok_sortv FsOk.nil rfl) rfl) rfl) rfl) rfl) rfl)
  generalize hF : Mg.std = F at hC hfs ⊢
  generalize hG0 : ViR.Vs.std = G0 at hC hfs ⊢
  generalize hG1 : ViC.Vc.std = G1 at hC hfs ⊢
  generalize hG2 : CtI.Cs.std = G2 at hC hfs ⊢
  generalize hG3 : CtK.Cs.std = G3 at hC hfs ⊢
  generalize hG4 : SoN.On.std = G4 at hC hfs ⊢
  generalize hA : Ar.std = A
  generalize hL : Lp _ _ _ = L
  obtain ⟨Z, zq⟩ := z_all
  refine cd_open (lp_mono hL) zq rfl ?_
  repeat' (first
    | (refine z_open zq ?_; try dsimp only)
    | refine cd_seq zq ?_ (lp_mono hL)
    | refine cd_blk zq ?_
    | refine cd_ret ?_
    | refine cd_skip ?_
    | refine cd_exit ?_
    | refine cd_loop ?_
    | refine cd_cond rfl ?_
    | refine cd_condT rfl ?_
    | refine cd_condF rfl ?_
    | (refine Cd.mk ?_; cbv)
    | (refine Ends1.mk ?_; cbv)
    | (refine Fin1.mk ?_; cbv)
    | exact trivial
    | refine And.intro ?_ ?_
    | refine orf fun _ => ?_
    | refine ort fun _ => ?_)
  all_goals first | (show L _ _ _; skip) | (clear hL hfs zq Z; subst hA hF hG0 hG1 hG2 hG3 hG4; simp only [Mg.std, ViC.Vc.std, Ar.std] at * <;> grind [stdCmp]; done)
  rename_i hx
  have hv : mayV a_n a_l = true ∧ mayV d_n d_l = true := by
    clear hL hfs zq Z e1 e2 e3 e4 e5 e6 eb
    subst hA hF hG0 hG1 hG2 hG3 hG4
    simp only [Mg.std, ViC.Vc.std, Ar.std] at *
    grind [stdCmp]
  clear hx
  have eb := eb hv.2
  subst hL
  refine loop_z (cx_ok hfs) (mgQ a_n d_n) (mgI A a_n a_l d_n d_l) (mgM a_n) mgR ⟨0⟩ ?_ ?_ ?_
  · exact mg_zero _ _
  · cbv
    repeat' (first | exact trivial | exact rfl | refine And.intro ?_ ?_)
  rintro ⟨i⟩ hq O hO
  have hst := mg_step hk1 hq
  subst hA
  generalize hA : Ar.std = A
  generalize hL : Lp _ _ _ = L
  refine cd_close zq ?_
  repeat' (first
    | (refine z_open zq ?_; try dsimp only)
    | refine cd_seq zq ?_ (lp_mono hL)
    | refine cd_blk zq ?_
    | refine cd_ret ?_
    | refine cd_skip ?_
    | refine cd_exit ?_
    | refine cd_loop ?_
    | refine cd_cond rfl ?_
    | refine cd_condT rfl ?_
    | refine cd_condF rfl ?_
    | (refine Cd.mk ?_; cbv)
    | (refine Ends1.mk ?_; cbv)
    | (refine Fin1.mk ?_; cbv)
    | exact trivial
    | refine And.intro ?_ ?_
    | refine orf fun _ => ?_
    | refine ort fun _ => ?_)
  all_goals (clear hL hfs zq Z hq; subst hA hF hG0 hG1 hG2 hG3 hG4 hO; simp only [Mg.std, ViR.Vs.std, CtI.Cs.std, CtK.Cs.std, SoN.On.std, SoI.Oi.std, SoK.Ok.std, Ar.std] at * <;> grind [stdCmp]; done)
theorem ok_merge00 : ConOk Tryz.prog 200 (c_merge00 Mg.std) := by
  refine con_of (FsOk.cons ok_vcheck (FsOk.cons ok_has (FsOk.cons ok_cati (FsOk.cons ok_catk (FsOk.cons ok_sorti (FsOk.cons ok_sortv FsOk.nil rfl) rfl) rfl) rfl) rfl) rfl) Tryz.func200 rfl rfl fun xs h p hp => ?_
  unfold c_merge00 at hp
  split at hp
  · cases hp
    exact ⟨lee_le rfl, fun hC _ => x_merge00 _ _ _ _ hC⟩
  · cases hp

def c_merge01 (F : Mg) : Con := fun xs h => match xs, h with
  | [.agg [.sl none (.ints .i64 a_n), .sl none (.recs (.int .i64 (.int .i64 (.int .i64 (.int .i64 (.bool .nil))))) a_l)], .agg [.sl none (.ints .i64 d_n), .sl none (.recs (.int .i64 (.int .i64 (.int .i64 (.int .i64 (.bool .nil))))) d_l)]], [] => some ⟨F.m_01 a_n a_l d_n d_l = true, .tup [.agg [.sl none (.ints .i64 (F.m_n a_n a_l d_n d_l)), .sl none (.recs (.int .i64 (.int .i64 (.int .i64 (.int .i64 (.bool .nil))))) (F.m_l a_n a_l d_n d_l))], I (F.m_e a_n a_l d_n d_l)], [], [Any, Any]⟩
  | _, _ => none
set_option cbv.maxSteps 4000000 in
set_option maxHeartbeats 4000000 in
set_option maxRecDepth 100000 in
theorem x_merge01 (a_n : List Int) (a_l : List E) (d_n : List Int) (d_l : List E) (hC : Mg.std.m_01 a_n a_l d_n d_l = true) : Does [(182, c_vcheck ViC.Vc.std), (208, c_has ViR.Vs.std), (218, c_cati CtI.Cs.std), (219, c_catkr CtK.Cs.std), (220, c_sorti SoN.On.std), (221, c_sortv SoN.On.std)] Tryz.f200 [.agg [.sl none (.ints .i64 a_n), .sl none (.recs (.int .i64 (.int .i64 (.int .i64 (.int .i64 (.bool .nil))))) a_l)], .agg [.sl none (.ints .i64 d_n), .sl none (.recs (.int .i64 (.int .i64 (.int .i64 (.int .i64 (.bool .nil))))) d_l)]] [] ⟨Mg.std.m_01 a_n a_l d_n d_l = true, .tup [.agg [.sl none (.ints .i64 (Mg.std.m_n a_n a_l d_n d_l)), .sl none (.recs (.int .i64 (.int .i64 (.int .i64 (.int .i64 (.bool .nil))))) (Mg.std.m_l a_n a_l d_n d_l))], I (Mg.std.m_e a_n a_l d_n d_l)], [], [Any, Any]⟩ := by
  intro b gv
  have hk : (a_n.length ≤ 1000 ∧ d_n.length ≤ 1000 ∧ a_l.length ≤ 1000 ∧ d_l.length ≤ 1000) ∧ ( a_n.length + d_n.length = 0) ∧ (¬ a_l.length + d_l.length = 0) := of_decide_eq_true (show decide _ = true from hC)
  obtain ⟨⟨hk1, hk2, hk3, hk4⟩, hk5, hk6⟩ := hk
  have e1 : okM a_n a_l d_n d_l = true → meN a_n a_l d_n d_l = SoI.srtI (a_n ++ d_n) ∧ meL a_n a_l d_n d_l = SoK.srtV (a_l ++ d_l) := fun h => ⟨if_pos h, if_pos h⟩
  have e2 : ¬ okM a_n a_l d_n d_l = true → meN a_n a_l d_n d_l = [] ∧ meL a_n a_l d_n d_l = [] := fun h => ⟨if_neg h, if_neg h⟩
  have e3 : okM a_n a_l d_n d_l = ((mayV a_n a_l && mayV d_n d_l) && !comB a_n d_n) := rfl
  have e4 : meE a_n a_l d_n d_l = if (mayV a_n a_l && mayV d_n d_l) = true then (if comB a_n d_n = true then 11 else 0) else 1 := rfl
  have e5 := cat2I a_n d_n
  have e6 := cat2K a_l d_l
  have e7 : chV a_n a_l = if mayV a_n a_l = true then 0 else 1 := rfl
  have e8 : chV d_n d_l = if mayV d_n d_l = true then 0 else 1 := rfl
  have e9 := (SoI.srtI_all (a_n ++ d_n)).1
  have e10 := (SoK.srtV_all (a_l ++ d_l)).1
  have eb : mayV d_n d_l = true → ∀ t, bsB d_n t = d_n.contains t := fun h t => bs_mem (by unfold mayV at h; rw [Bool.and_eq_true] at h; exact h.1) t
  have hfs := (FsOk.cons ok_vcheck (FsOk.cons ok_has (FsOk.cons ok_cati (FsOk.cons ok_catkr (FsOk.cons ok_sorti (FsOk.cons ok_sortv FsOk.nil rfl) rfl) rfl) rfl) rfl) rfl)
  generalize hF : Mg.std = F at hC hfs ⊢
  generalize hG0 : ViR.Vs.std = G0 at hC hfs ⊢
  generalize hG1 : ViC.Vc.std = G1 at hC hfs ⊢
  generalize hG2 : CtI.Cs.std = G2 at hC hfs ⊢
  generalize hG3 : CtK.Cs.std = G3 at hC hfs ⊢
  generalize hG4 : SoN.On.std = G4 at hC hfs ⊢
  generalize hA : Ar.std = A
  generalize hL : Lp _ _ _ = L
  obtain ⟨Z, zq⟩ := z_all
  refine cd_open (lp_mono hL) zq rfl ?_
  repeat' (first
    | (refine z_open zq ?_; try dsimp only)
    | refine cd_seq zq ?_ (lp_mono hL)
    | refine cd_blk zq ?_
    | refine cd_ret ?_
    | refine cd_skip ?_
    | refine cd_exit ?_
    | refine cd_loop ?_
    | refine cd_cond rfl ?_
    | refine cd_condT rfl ?_
    | refine cd_condF rfl ?_
    | (refine Cd.mk ?_; cbv)
    | (refine Ends1.mk ?_; cbv)
    | (refine Fin1.mk ?_; cbv)
    | exact trivial
    | refine And.intro ?_ ?_
    | refine orf fun _ => ?_
    | refine ort fun _ => ?_)
  all_goals first | (show L _ _ _; skip) | (clear hL hfs zq Z; subst hA hF hG0 hG1 hG2 hG3 hG4; simp only [Mg.std, ViC.Vc.std, Ar.std] at * <;> grind [stdCmp]; done)
  rename_i hx
  have hv : mayV a_n a_l = true ∧ mayV d_n d_l = true := by
    clear hL hfs zq Z e1 e2 e3 e4 e5 e6 eb
    subst hA hF hG0 hG1 hG2 hG3 hG4
    simp only [Mg.std, ViC.Vc.std, Ar.std] at *
    grind [stdCmp]
  clear hx
  have eb := eb hv.2
  subst hL
  refine loop_z (cx_ok hfs) (mgQ a_n d_n) (mgI A a_n a_l d_n d_l) (mgM a_n) mgR ⟨0⟩ ?_ ?_ ?_
  · exact mg_zero _ _
  · cbv
    repeat' (first | exact trivial | exact rfl | refine And.intro ?_ ?_)
  rintro ⟨i⟩ hq O hO
  have hst := mg_step hk1 hq
  subst hA
  generalize hA : Ar.std = A
  generalize hL : Lp _ _ _ = L
  refine cd_close zq ?_
  repeat' (first
    | (refine z_open zq ?_; try dsimp only)
    | refine cd_seq zq ?_ (lp_mono hL)
    | refine cd_blk zq ?_
    | refine cd_ret ?_
    | refine cd_skip ?_
    | refine cd_exit ?_
    | refine cd_loop ?_
    | refine cd_cond rfl ?_
    | refine cd_condT rfl ?_
    | refine cd_condF rfl ?_
    | (refine Cd.mk ?_; cbv)
    | (refine Ends1.mk ?_; cbv)
    | (refine Fin1.mk ?_; cbv)
    | exact trivial
    | refine And.intro ?_ ?_
    | refine orf fun _ => ?_
    | refine ort fun _ => ?_)
  all_goals (clear hL hfs zq Z hq; subst hA hF hG0 hG1 hG2 hG3 hG4 hO; simp only [Mg.std, ViR.Vs.std, CtI.Cs.std, CtK.Cs.std, SoN.On.std, SoI.Oi.std, SoK.Ok.std, Ar.std] at * <;> grind [stdCmp]; done)
theorem ok_merge01 : ConOk Tryz.prog 200 (c_merge01 Mg.std) := by
  refine con_of (FsOk.cons ok_vcheck (FsOk.cons ok_has (FsOk.cons ok_cati (FsOk.cons ok_catkr (FsOk.cons ok_sorti (FsOk.cons ok_sortv FsOk.nil rfl) rfl) rfl) rfl) rfl) rfl) Tryz.func200 rfl rfl fun xs h p hp => ?_
  unfold c_merge01 at hp
  split at hp
  · cases hp
    exact ⟨lee_le rfl, fun hC _ => x_merge01 _ _ _ _ hC⟩
  · cases hp

def c_merge10 (F : Mg) : Con := fun xs h => match xs, h with
  | [.agg [.sl none (.ints .i64 a_n), .sl none (.recs (.int .i64 (.int .i64 (.int .i64 (.int .i64 (.bool .nil))))) a_l)], .agg [.sl none (.ints .i64 d_n), .sl none (.recs (.int .i64 (.int .i64 (.int .i64 (.int .i64 (.bool .nil))))) d_l)]], [] => some ⟨F.m_10 a_n a_l d_n d_l = true, .tup [.agg [.sl none (.ints .i64 (F.m_n a_n a_l d_n d_l)), .sl none (.recs (.int .i64 (.int .i64 (.int .i64 (.int .i64 (.bool .nil))))) (F.m_l a_n a_l d_n d_l))], I (F.m_e a_n a_l d_n d_l)], [], [Any, Any]⟩
  | _, _ => none
set_option cbv.maxSteps 4000000 in
set_option maxHeartbeats 4000000 in
set_option maxRecDepth 100000 in
theorem x_merge10 (a_n : List Int) (a_l : List E) (d_n : List Int) (d_l : List E) (hC : Mg.std.m_10 a_n a_l d_n d_l = true) : Does [(182, c_vcheck ViC.Vc.std), (208, c_has ViR.Vs.std), (218, c_catir CtI.Cs.std), (219, c_catk CtK.Cs.std), (220, c_sorti SoN.On.std), (221, c_sortv SoN.On.std)] Tryz.f200 [.agg [.sl none (.ints .i64 a_n), .sl none (.recs (.int .i64 (.int .i64 (.int .i64 (.int .i64 (.bool .nil))))) a_l)], .agg [.sl none (.ints .i64 d_n), .sl none (.recs (.int .i64 (.int .i64 (.int .i64 (.int .i64 (.bool .nil))))) d_l)]] [] ⟨Mg.std.m_10 a_n a_l d_n d_l = true, .tup [.agg [.sl none (.ints .i64 (Mg.std.m_n a_n a_l d_n d_l)), .sl none (.recs (.int .i64 (.int .i64 (.int .i64 (.int .i64 (.bool .nil))))) (Mg.std.m_l a_n a_l d_n d_l))], I (Mg.std.m_e a_n a_l d_n d_l)], [], [Any, Any]⟩ := by
  intro b gv
  have hk : (a_n.length ≤ 1000 ∧ d_n.length ≤ 1000 ∧ a_l.length ≤ 1000 ∧ d_l.length ≤ 1000) ∧ (¬ a_n.length + d_n.length = 0) ∧ ( a_l.length + d_l.length = 0) := of_decide_eq_true (show decide _ = true from hC)
  obtain ⟨⟨hk1, hk2, hk3, hk4⟩, hk5, hk6⟩ := hk
  have e1 : okM a_n a_l d_n d_l = true → meN a_n a_l d_n d_l = SoI.srtI (a_n ++ d_n) ∧ meL a_n a_l d_n d_l = SoK.srtV (a_l ++ d_l) := fun h => ⟨if_pos h, if_pos h⟩
  have e2 : ¬ okM a_n a_l d_n d_l = true → meN a_n a_l d_n d_l = [] ∧ meL a_n a_l d_n d_l = [] := fun h => ⟨if_neg h, if_neg h⟩
  have e3 : okM a_n a_l d_n d_l = ((mayV a_n a_l && mayV d_n d_l) && !comB a_n d_n) := rfl
  have e4 : meE a_n a_l d_n d_l = if (mayV a_n a_l && mayV d_n d_l) = true then (if comB a_n d_n = true then 11 else 0) else 1 := rfl
  have e5 := cat2I a_n d_n
  have e6 := cat2K a_l d_l
  have e7 : chV a_n a_l = if mayV a_n a_l = true then 0 else 1 := rfl
  have e8 : chV d_n d_l = if mayV d_n d_l = true then 0 else 1 := rfl
  have e9 := (SoI.srtI_all (a_n ++ d_n)).1
  have e10 := (SoK.srtV_all (a_l ++ d_l)).1
  have eb : mayV d_n d_l = true → ∀ t, bsB d_n t = d_n.contains t := fun h t => bs_mem (by unfold mayV at h; rw [Bool.and_eq_true] at h; exact h.1) t
  have hfs := (FsOk.cons ok_vcheck (FsOk.cons ok_has (FsOk.cons ok_catir (FsOk.cons ok_catk (FsOk.cons ok_sorti (FsOk.cons ok_sortv FsOk.nil rfl) rfl) rfl) rfl) rfl) rfl)
  generalize hF : Mg.std = F at hC hfs ⊢
  generalize hG0 : ViR.Vs.std = G0 at hC hfs ⊢
  generalize hG1 : ViC.Vc.std = G1 at hC hfs ⊢
  generalize hG2 : CtI.Cs.std = G2 at hC hfs ⊢
  generalize hG3 : CtK.Cs.std = G3 at hC hfs ⊢
  generalize hG4 : SoN.On.std = G4 at hC hfs ⊢
  generalize hA : Ar.std = A
  generalize hL : Lp _ _ _ = L
  obtain ⟨Z, zq⟩ := z_all
  refine cd_open (lp_mono hL) zq rfl ?_
  repeat' (first
    | (refine z_open zq ?_; try dsimp only)
    | refine cd_seq zq ?_ (lp_mono hL)
    | refine cd_blk zq ?_
    | refine cd_ret ?_
    | refine cd_skip ?_
    | refine cd_exit ?_
    | refine cd_loop ?_
    | refine cd_cond rfl ?_
    | refine cd_condT rfl ?_
    | refine cd_condF rfl ?_
    | (refine Cd.mk ?_; cbv)
    | (refine Ends1.mk ?_; cbv)
    | (refine Fin1.mk ?_; cbv)
    | exact trivial
    | refine And.intro ?_ ?_
    | refine orf fun _ => ?_
    | refine ort fun _ => ?_)
  all_goals first | (show L _ _ _; skip) | (clear hL hfs zq Z; subst hA hF hG0 hG1 hG2 hG3 hG4; simp only [Mg.std, ViC.Vc.std, Ar.std] at * <;> grind [stdCmp]; done)
  rename_i hx
  have hv : mayV a_n a_l = true ∧ mayV d_n d_l = true := by
    clear hL hfs zq Z e1 e2 e3 e4 e5 e6 eb
    subst hA hF hG0 hG1 hG2 hG3 hG4
    simp only [Mg.std, ViC.Vc.std, Ar.std] at *
    grind [stdCmp]
  clear hx
  have eb := eb hv.2
  subst hL
  refine loop_z (cx_ok hfs) (mgQ a_n d_n) (mgI A a_n a_l d_n d_l) (mgM a_n) mgR ⟨0⟩ ?_ ?_ ?_
  · exact mg_zero _ _
  · cbv
    repeat' (first | exact trivial | exact rfl | refine And.intro ?_ ?_)
  rintro ⟨i⟩ hq O hO
  have hst := mg_step hk1 hq
  subst hA
  generalize hA : Ar.std = A
  generalize hL : Lp _ _ _ = L
  refine cd_close zq ?_
  repeat' (first
    | (refine z_open zq ?_; try dsimp only)
    | refine cd_seq zq ?_ (lp_mono hL)
    | refine cd_blk zq ?_
    | refine cd_ret ?_
    | refine cd_skip ?_
    | refine cd_exit ?_
    | refine cd_loop ?_
    | refine cd_cond rfl ?_
    | refine cd_condT rfl ?_
    | refine cd_condF rfl ?_
    | (refine Cd.mk ?_; cbv)
    | (refine Ends1.mk ?_; cbv)
    | (refine Fin1.mk ?_; cbv)
    | exact trivial
    | refine And.intro ?_ ?_
    | refine orf fun _ => ?_
    | refine ort fun _ => ?_)
  all_goals (clear hL hfs zq Z hq; subst hA hF hG0 hG1 hG2 hG3 hG4 hO; simp only [Mg.std, ViR.Vs.std, CtI.Cs.std, CtK.Cs.std, SoN.On.std, SoI.Oi.std, SoK.Ok.std, Ar.std] at * <;> grind [stdCmp]; done)
theorem ok_merge10 : ConOk Tryz.prog 200 (c_merge10 Mg.std) := by
  refine con_of (FsOk.cons ok_vcheck (FsOk.cons ok_has (FsOk.cons ok_catir (FsOk.cons ok_catk (FsOk.cons ok_sorti (FsOk.cons ok_sortv FsOk.nil rfl) rfl) rfl) rfl) rfl) rfl) Tryz.func200 rfl rfl fun xs h p hp => ?_
  unfold c_merge10 at hp
  split at hp
  · cases hp
    exact ⟨lee_le rfl, fun hC _ => x_merge10 _ _ _ _ hC⟩
  · cases hp

def c_merge11 (F : Mg) : Con := fun xs h => match xs, h with
  | [.agg [.sl none (.ints .i64 a_n), .sl none (.recs (.int .i64 (.int .i64 (.int .i64 (.int .i64 (.bool .nil))))) a_l)], .agg [.sl none (.ints .i64 d_n), .sl none (.recs (.int .i64 (.int .i64 (.int .i64 (.int .i64 (.bool .nil))))) d_l)]], [] => some ⟨F.m_11 a_n a_l d_n d_l = true, .tup [.agg [.sl none (.ints .i64 (F.m_n a_n a_l d_n d_l)), .sl none (.recs (.int .i64 (.int .i64 (.int .i64 (.int .i64 (.bool .nil))))) (F.m_l a_n a_l d_n d_l))], I (F.m_e a_n a_l d_n d_l)], [], [Any, Any]⟩
  | _, _ => none
set_option cbv.maxSteps 4000000 in
set_option maxHeartbeats 4000000 in
set_option maxRecDepth 100000 in
theorem x_merge11 (a_n : List Int) (a_l : List E) (d_n : List Int) (d_l : List E) (hC : Mg.std.m_11 a_n a_l d_n d_l = true) : Does [(182, c_vcheck ViC.Vc.std), (208, c_has ViR.Vs.std), (218, c_catir CtI.Cs.std), (219, c_catkr CtK.Cs.std), (220, c_sorti SoN.On.std), (221, c_sortv SoN.On.std)] Tryz.f200 [.agg [.sl none (.ints .i64 a_n), .sl none (.recs (.int .i64 (.int .i64 (.int .i64 (.int .i64 (.bool .nil))))) a_l)], .agg [.sl none (.ints .i64 d_n), .sl none (.recs (.int .i64 (.int .i64 (.int .i64 (.int .i64 (.bool .nil))))) d_l)]] [] ⟨Mg.std.m_11 a_n a_l d_n d_l = true, .tup [.agg [.sl none (.ints .i64 (Mg.std.m_n a_n a_l d_n d_l)), .sl none (.recs (.int .i64 (.int .i64 (.int .i64 (.int .i64 (.bool .nil))))) (Mg.std.m_l a_n a_l d_n d_l))], I (Mg.std.m_e a_n a_l d_n d_l)], [], [Any, Any]⟩ := by
  intro b gv
  have hk : (a_n.length ≤ 1000 ∧ d_n.length ≤ 1000 ∧ a_l.length ≤ 1000 ∧ d_l.length ≤ 1000) ∧ (¬ a_n.length + d_n.length = 0) ∧ (¬ a_l.length + d_l.length = 0) := of_decide_eq_true (show decide _ = true from hC)
  obtain ⟨⟨hk1, hk2, hk3, hk4⟩, hk5, hk6⟩ := hk
  have e1 : okM a_n a_l d_n d_l = true → meN a_n a_l d_n d_l = SoI.srtI (a_n ++ d_n) ∧ meL a_n a_l d_n d_l = SoK.srtV (a_l ++ d_l) := fun h => ⟨if_pos h, if_pos h⟩
  have e2 : ¬ okM a_n a_l d_n d_l = true → meN a_n a_l d_n d_l = [] ∧ meL a_n a_l d_n d_l = [] := fun h => ⟨if_neg h, if_neg h⟩
  have e3 : okM a_n a_l d_n d_l = ((mayV a_n a_l && mayV d_n d_l) && !comB a_n d_n) := rfl
  have e4 : meE a_n a_l d_n d_l = if (mayV a_n a_l && mayV d_n d_l) = true then (if comB a_n d_n = true then 11 else 0) else 1 := rfl
  have e5 := cat2I a_n d_n
  have e6 := cat2K a_l d_l
  have e7 : chV a_n a_l = if mayV a_n a_l = true then 0 else 1 := rfl
  have e8 : chV d_n d_l = if mayV d_n d_l = true then 0 else 1 := rfl
  have e9 := (SoI.srtI_all (a_n ++ d_n)).1
  have e10 := (SoK.srtV_all (a_l ++ d_l)).1
  have eb : mayV d_n d_l = true → ∀ t, bsB d_n t = d_n.contains t := fun h t => bs_mem (by unfold mayV at h; rw [Bool.and_eq_true] at h; exact h.1) t
  have hfs := (FsOk.cons ok_vcheck (FsOk.cons ok_has (FsOk.cons ok_catir (FsOk.cons ok_catkr (FsOk.cons ok_sorti (FsOk.cons ok_sortv FsOk.nil rfl) rfl) rfl) rfl) rfl) rfl)
  generalize hF : Mg.std = F at hC hfs ⊢
  generalize hG0 : ViR.Vs.std = G0 at hC hfs ⊢
  generalize hG1 : ViC.Vc.std = G1 at hC hfs ⊢
  generalize hG2 : CtI.Cs.std = G2 at hC hfs ⊢
  generalize hG3 : CtK.Cs.std = G3 at hC hfs ⊢
  generalize hG4 : SoN.On.std = G4 at hC hfs ⊢
  generalize hA : Ar.std = A
  generalize hL : Lp _ _ _ = L
  obtain ⟨Z, zq⟩ := z_all
  refine cd_open (lp_mono hL) zq rfl ?_
  repeat' (first
    | (refine z_open zq ?_; try dsimp only)
    | refine cd_seq zq ?_ (lp_mono hL)
    | refine cd_blk zq ?_
    | refine cd_ret ?_
    | refine cd_skip ?_
    | refine cd_exit ?_
    | refine cd_loop ?_
    | refine cd_cond rfl ?_
    | refine cd_condT rfl ?_
    | refine cd_condF rfl ?_
    | (refine Cd.mk ?_; cbv)
    | (refine Ends1.mk ?_; cbv)
    | (refine Fin1.mk ?_; cbv)
    | exact trivial
    | refine And.intro ?_ ?_
    | refine orf fun _ => ?_
    | refine ort fun _ => ?_)
  all_goals first | (show L _ _ _; skip) | (clear hL hfs zq Z; subst hA hF hG0 hG1 hG2 hG3 hG4; simp only [Mg.std, ViC.Vc.std, Ar.std] at * <;> grind [stdCmp]; done)
  rename_i hx
  have hv : mayV a_n a_l = true ∧ mayV d_n d_l = true := by
    clear hL hfs zq Z e1 e2 e3 e4 e5 e6 eb
    subst hA hF hG0 hG1 hG2 hG3 hG4
    simp only [Mg.std, ViC.Vc.std, Ar.std] at *
    grind [stdCmp]
  clear hx
  have eb := eb hv.2
  subst hL
  refine loop_z (cx_ok hfs) (mgQ a_n d_n) (mgI A a_n a_l d_n d_l) (mgM a_n) mgR ⟨0⟩ ?_ ?_ ?_
  · exact mg_zero _ _
  · cbv
    repeat' (first | exact trivial | exact rfl | refine And.intro ?_ ?_)
  rintro ⟨i⟩ hq O hO
  have hst := mg_step hk1 hq
  subst hA
  generalize hA : Ar.std = A
  generalize hL : Lp _ _ _ = L
  refine cd_close zq ?_
  repeat' (first
    | (refine z_open zq ?_; try dsimp only)
    | refine cd_seq zq ?_ (lp_mono hL)
    | refine cd_blk zq ?_
    | refine cd_ret ?_
    | refine cd_skip ?_
    | refine cd_exit ?_
    | refine cd_loop ?_
    | refine cd_cond rfl ?_
    | refine cd_condT rfl ?_
    | refine cd_condF rfl ?_
    | (refine Cd.mk ?_; cbv)
    | (refine Ends1.mk ?_; cbv)
    | (refine Fin1.mk ?_; cbv)
    | exact trivial
    | refine And.intro ?_ ?_
    | refine orf fun _ => ?_
    | refine ort fun _ => ?_)
  all_goals (clear hL hfs zq Z hq; subst hA hF hG0 hG1 hG2 hG3 hG4 hO; simp only [Mg.std, ViR.Vs.std, CtI.Cs.std, CtK.Cs.std, SoN.On.std, SoI.Oi.std, SoK.Ok.std, Ar.std] at * <;> grind [stdCmp]; done)
theorem ok_merge11 : ConOk Tryz.prog 200 (c_merge11 Mg.std) := by
  refine con_of (FsOk.cons ok_vcheck (FsOk.cons ok_has (FsOk.cons ok_catir (FsOk.cons ok_catkr (FsOk.cons ok_sorti (FsOk.cons ok_sortv FsOk.nil rfl) rfl) rfl) rfl) rfl) rfl) Tryz.func200 rfl rfl fun xs h p hp => ?_
  unfold c_merge11 at hp
  split at hp
  · cases hp
    exact ⟨lee_le rfl, fun hC _ => x_merge11 _ _ _ _ hC⟩
  · cases hp

def c_merge (F : Mg) : Con := fun xs h => match xs, h with
  | [.agg [.sl none (.ints .i64 a_n), .sl none (.recs (.int .i64 (.int .i64 (.int .i64 (.int .i64 (.bool .nil))))) a_l)], .agg [.sl none (.ints .i64 d_n), .sl none (.recs (.int .i64 (.int .i64 (.int .i64 (.int .i64 (.bool .nil))))) d_l)]], [] => some ⟨F.m_ok a_n a_l d_n d_l = true, .tup [.agg [.sl none (.ints .i64 (F.m_n a_n a_l d_n d_l)), .sl none (.recs (.int .i64 (.int .i64 (.int .i64 (.int .i64 (.bool .nil))))) (F.m_l a_n a_l d_n d_l))], I (F.m_e a_n a_l d_n d_l)], [], [Any, Any]⟩
  | _, _ => none
theorem merge_any {P : Program} {f : FuncId} {c c00 c01 c10 c11 : Con} (o00 : ConOk P f c00) (o01 : ConOk P f c01) (o10 : ConOk P f c10) (o11 : ConOk P f c11)
    (h : ∀ xs h p, c xs h = some p → p.C → (∃ C, c00 xs h = some ⟨C, p.r, p.h, p.as⟩ ∧ C) ∨ (∃ C, c01 xs h = some ⟨C, p.r, p.h, p.as⟩ ∧ C) ∨ (∃ C, c10 xs h = some ⟨C, p.r, p.h, p.as⟩ ∧ C) ∨ ∃ C, c11 xs h = some ⟨C, p.r, p.h, p.as⟩ ∧ C) : ConOk P f c := by
  refine ⟨o00.1, fun args h' p hp hC G vs hh hbs hm hv => ?_⟩
  rcases h _ _ _ hp hC with ⟨C, h1, h2⟩ | ⟨C, h1, h2⟩ | ⟨C, h1, h2⟩ | ⟨C, h1, h2⟩
  · exact o00.2 args h' _ h1 h2 G vs hh hbs hm hv
  · exact o01.2 args h' _ h1 h2 G vs hh hbs hm hv
  · exact o10.2 args h' _ h1 h2 G vs hh hbs hm hv
  · exact o11.2 args h' _ h1 h2 G vs hh hbs hm hv
theorem ok_merge : ConOk Tryz.prog 200 (c_merge Mg.std) := by
  refine merge_any ok_merge00 ok_merge01 ok_merge10 ok_merge11 fun xs h p hp hC => ?_
  unfold c_merge at hp
  split at hp
  · rename_i a_n a_l d_n d_l
    cases hp
    have hk : a_n.length ≤ 1000 ∧ d_n.length ≤ 1000 ∧ a_l.length ≤ 1000 ∧ d_l.length ≤ 1000 := of_decide_eq_true hC
    by_cases h1 : a_n.length + d_n.length = 0
    · by_cases h2 : a_l.length + d_l.length = 0
      · exact .inl ⟨_, rfl, decide_eq_true ⟨hk, h1, h2⟩⟩
      · exact .inr (.inl ⟨_, rfl, decide_eq_true ⟨hk, h1, h2⟩⟩)
    · by_cases h2 : a_l.length + d_l.length = 0
      · exact .inr (.inr (.inl ⟨_, rfl, decide_eq_true ⟨hk, h1, h2⟩⟩))
      · exact .inr (.inr (.inr ⟨_, rfl, decide_eq_true ⟨hk, h1, h2⟩⟩))
  · cases hp
end Go.Proofs.YtakebkfhigadiaaGreat.MgR
