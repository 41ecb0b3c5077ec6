
/-
  the order of links; the first of them; copies; which choices may be. No condition.
-/
import Derived.Test.YtakebkfhigadiaaGreatSoC
import Derived.Test.YtakebkfhigadiaaGreatViL
import Derived.Test.YtakebkfhigadiaaGreatEgR
namespace Go.Proofs.YtakebkfhigadiaaGreat.ChR
open Go Go.Proofs.YtakebkfhigadiaaGreat.Ry Go.Proofs.YtakebkfhigadiaaGreat.Cmp Go.Proofs.YtakebkfhigadiaaGreat.ViR Go.Proofs.YtakebkfhigadiaaGreat.ViL

open Go.Proofs.YtakebkfhigadiaaGreat.ViC (c_vcheck ok_vcheck)
open Go.Proofs.YtakebkfhigadiaaGreat.EgR (c_ecmp ok_ecmp)
open Go.Proofs.YtakebkfhigadiaaGreat.EcX (cmpF)
abbrev K5 := Int × Int × Int × Int × Bool
def k5 (y : E) : K5 := (ri y 0, ri y 1, ri y 2, ri y 3, rb y 4)
def cK (n p w n' p' w' : Int) : Int := cmpF (edA n p) (edB n p) w (edA n' p') (edB n' p') w'
def mn1 (c : K5) (y : E) : K5 := if cK (ri y 0) (ri y 1) (ri y 2) c.1 c.2.1 c.2.2.1 < 0 then k5 y else c
def mnT (l : List E) : K5 := l.foldl mn1 (k5 (l.getD 0 []))
theorem mn_self (y : E) : mn1 (k5 y) y = k5 y := by unfold mn1; split <;> rfl
structure XN where
  i : Int
  n : Int
  p : Int
  w : Int
  s : Int
  b : Bool
def mnQ (l : List E) (y : XN) : Prop := 1 ≤ y.i ∧ y.i ≤ l.length ∧ ((y.n, y.p, y.w, y.s, y.b) : K5) = mnT (l.take y.i.toNat)
def mnM (l : List E) (y : XN) : Nat := l.length - y.i.toNat
noncomputable def mnI (l : List E) (y : XN) : St := stOf Tryz.f230.ntmps [(0, .sl none (.recs (.int .i64 (.int .i64 (.int .i64 (.int .i64 (.bool .nil))))) l)), (1, .val (.func (.func 231) ⟨[]⟩ ⟨[]⟩)), (4, .ptr 1 0), (5, .ptr 2 0), (6, .val (.int .i64 y.i))] [(1, .cells 176 [.num .i64 0, .num .i64 0, .num .i64 0, .num .i64 0, .tf false]), (2, .cells 176 [.val (.int .i64 y.n), .val (.int .i64 y.p), .val (.int .i64 y.w), .val (.int .i64 y.s), .val (.bool y.b)])] [Any, Any]
def mnR (st : St) : XN := ⟨slotI st 6, valI (cellC st 5 0), valI (cellC st 5 1), valI (cellC st 5 2), valI (cellC st 5 3), valB (cellC st 5 4)⟩
theorem tk_next (l : List E) (i : Int) (h0 : 0 ≤ i) (h : i < l.length) : l.take (i + 1).toNat = l.take i.toNat ++ [l.getD i.toNat []] := by
  have e : (i + 1).toNat = i.toNat + 1 := by omega
  have hi : i.toNat < l.length := by omega
  rw [e, List.take_add_one, List.getD_eq_getElem?_getD, List.getElem?_eq_getElem hi]
  rfl
theorem mn_next {l : List E} {i : Int} (h0 : 1 ≤ i) (h : i < l.length) : mnT (l.take (i + 1).toNat) = mn1 (mnT (l.take i.toNat)) (l.getD i.toNat []) := by
  unfold mnT
  have hd : ∀ k : Nat, 1 ≤ k → (l.take k).getD 0 [] = l.getD 0 [] := fun k hk => by rw [List.getD_eq_getElem?_getD, List.getD_eq_getElem?_getD, List.getElem?_take_of_lt (by omega)]
  rw [hd _ (by omega), hd _ (by omega), tk_next l i (by omega) h, List.foldl_append]
  rfl
theorem mn_zero {l : List E} (h : 0 < l.length) : mnQ l ⟨1, ri (l.getD 0 []) 0, ri (l.getD 0 []) 1, ri (l.getD 0 []) 2, ri (l.getD 0 []) 3, rb (l.getD 0 []) 4⟩ := by
  refine ⟨Int.le_refl 1, by simp only; omega, ?_⟩
  cases l with
  | nil => exact absurd h (Nat.lt_irrefl 0)
  | cons y l => exact (mn_self y).symm
theorem mn_step {l : List E} (hl : l.length ≤ 1000000) {i n p w s : Int} {b : Bool} (hq : mnQ l ⟨i, n, p, w, s, b⟩) : 1 ≤ i ∧ i ≤ l.length ∧ (i < l.length → stdBin .add .i64 i 1 = i + 1 ∧ (∀ n' p' w' s' b', mnM l ⟨i + 1, n', p', w', s', b'⟩ < mnM l ⟨i, n, p, w, s, b⟩) ∧
    (cK (ri (l.getD i.toNat []) 0) (ri (l.getD i.toNat []) 1) (ri (l.getD i.toNat []) 2) n p w < 0 → mnQ l ⟨i + 1, ri (l.getD i.toNat []) 0, ri (l.getD i.toNat []) 1, ri (l.getD i.toNat []) 2, ri (l.getD i.toNat []) 3, rb (l.getD i.toNat []) 4⟩) ∧
    (¬ cK (ri (l.getD i.toNat []) 0) (ri (l.getD i.toNat []) 1) (ri (l.getD i.toNat []) 2) n p w < 0 → mnQ l ⟨i + 1, n, p, w, s, b⟩)) ∧ (¬ i < l.length → n = (mnT l).1 ∧ p = (mnT l).2.1 ∧ w = (mnT l).2.2.1 ∧ s = (mnT l).2.2.2.1 ∧ b = (mnT l).2.2.2.2) := by
  obtain ⟨h0, h1, h2⟩ := hq
  simp only at h0 h1 h2
  refine ⟨h0, h1, fun h => ⟨by rw [b_add, wr _ (by omega) (by omega)], fun _ _ _ _ _ => by simp only [mnM]; omega, fun g => ⟨by simp only; omega, by simp only; omega, ?_⟩, fun g => ⟨by simp only; omega, by simp only; omega, ?_⟩⟩, fun h => ?_⟩
  · simp only
    rw [mn_next h0 h, ← h2]
    unfold mn1
    rw [if_pos g]
    rfl
  · simp only
    rw [mn_next h0 h, ← h2]
    unfold mn1
    rw [if_neg g]
  · have e : i = l.length := by omega
    rw [e, Int.toNat_natCast, List.take_length] at h2
    rw [← h2]
    exact ⟨rfl, rfl, rfl, rfl, rfl⟩
/-- The session of an edge's inner link. -/
def isE (a b w : Int) (y : E) : Bool := decide (edA (ri y 0) (ri y 1) = a ∧ edB (ri y 0) (ri y 1) = b ∧ ri y 2 = w)
def seF (l : List E) (a b w : Int) : Int := match l.find? (isE a b w) with
  | some y => ri y 3
  | none => 0
structure XI where
  i : Int
def seQ (l : List E) (a b w : Int) (y : XI) : Prop := 0 ≤ y.i ∧ y.i ≤ l.length ∧ seF l a b w = seF (l.drop y.i.toNat) a b w
def lnM (l : List E) (y : XI) : Nat := l.length - y.i.toNat
noncomputable def seI (A : Ar) (l : List E) (a b w : Int) (y : XI) : St := stOf Tryz.f248.ntmps [(3, .ptr 1 0), (7, .sl none (.recs (.int .i64 (.int .i64 (.int .i64 (.int .i64 (.bool .nil))))) l)), (8, .val (.int .i64 (A.lenE l))), (9, .val (.int .i64 y.i))] [(1, .cells 325 [.val (.int .i64 a), .val (.int .i64 b), .val (.int .i64 w)])] [Any, Any]
def iR (k : Nat) (st : St) : XI := ⟨slotI st k⟩
theorem dr_next (l : List E) (i : Int) (h0 : 0 ≤ i) (h : i < l.length) : l.drop i.toNat = l.getD i.toNat [] :: l.drop (i + 1).toNat := by
  have e : (i + 1).toNat = i.toNat + 1 := by omega
  have hi : i.toNat < l.length := by omega
  rw [e, List.drop_eq_getElem_cons hi, List.getD_eq_getElem?_getD, List.getElem?_eq_getElem hi]
  rfl
theorem se_step {l : List E} (hl : l.length ≤ 1000000) {a b w i : Int} (hq : seQ l a b w ⟨i⟩) : 0 ≤ i ∧ i ≤ l.length ∧ (i < l.length → stdBin .add .i64 i 1 = i + 1 ∧ lnM l ⟨i + 1⟩ < lnM l ⟨i⟩ ∧
    ((edA (ri (l.getD i.toNat []) 0) (ri (l.getD i.toNat []) 1) = a ∧ edB (ri (l.getD i.toNat []) 0) (ri (l.getD i.toNat []) 1) = b ∧ ri (l.getD i.toNat []) 2 = w) → seF l a b w = ri (l.getD i.toNat []) 3) ∧
    (¬ (edA (ri (l.getD i.toNat []) 0) (ri (l.getD i.toNat []) 1) = a ∧ edB (ri (l.getD i.toNat []) 0) (ri (l.getD i.toNat []) 1) = b ∧ ri (l.getD i.toNat []) 2 = w) → seQ l a b w ⟨i + 1⟩)) ∧ (¬ i < l.length → seF l a b w = 0) := by
  obtain ⟨h0, h1, h2⟩ := hq
  simp only at h0 h1 h2
  refine ⟨h0, h1, fun h => ⟨by rw [b_add, wr _ (by omega) (by omega)], by simp only [lnM]; omega, fun g => ?_, fun g => ⟨by simp only; omega, by simp only; omega, ?_⟩⟩, fun h => ?_⟩
  · rw [h2, dr_next l i h0 h]
    unfold seF
    rw [List.find?_cons_of_pos (by unfold isE; exact decide_eq_true g)]
  · simp only
    rw [h2, dr_next l i h0 h]
    unfold seF
    rw [List.find?_cons_of_neg (by unfold isE; rw [decide_eq_true_eq]; exact g)]
  · rw [h2, List.drop_of_length_le (by omega)]
    rfl
noncomputable def i0I (A : Ar) (n : List Int) (l : List E) (y : XI) : St := stOf Tryz.f225.ntmps [(1, .ptr 1 0), (4, .val (.slice none 0 0)), (13, .sl none (.recs (.int .i64 (.int .i64 (.int .i64 (.int .i64 (.bool .nil))))) l)), (14, .val (.int .i64 (A.lenE l))), (15, .val (.int .i64 y.i))] [(1, .cells 36 [.sl none (.ints .i64 n), .sl none (.recs (.int .i64 (.int .i64 (.int .i64 (.int .i64 (.bool .nil))))) l)])] [Any]
def lnQ (l : List E) (y : XI) : Prop := 0 ≤ y.i ∧ y.i ≤ l.length
theorem ln_step {l : List E} (hl : l.length ≤ 1000000) {i : Int} (hq : lnQ l ⟨i⟩) : 0 ≤ i ∧ i ≤ l.length ∧ (i < l.length → stdBin .add .i64 i 1 = i + 1 ∧ lnM l ⟨i + 1⟩ < lnM l ⟨i⟩ ∧ lnQ l ⟨i + 1⟩) := by
  obtain ⟨h0, h1⟩ := hq
  simp only at h0 h1
  exact ⟨h0, h1, fun h => ⟨by rw [b_add, wr _ (by omega) (by omega)], by simp only [lnM]; omega, by simp only; omega, by simp only; omega⟩⟩
theorem in_none {l : List E} (h : inF l = []) {i : Int} (h0 : 0 ≤ i) (hi : i < l.length) : in1 l (l.getD i.toNat []) = [] := by
  unfold inF at h
  have hk : i.toNat < l.length := by omega
  rw [List.flatMap_eq_nil_iff] at h
  refine h _ ?_
  rw [List.getD_eq_getElem?_getD, List.getElem?_eq_getElem hk]
  exact List.getElem_mem hk
def ckC (k a b s : Int) : Int := if k = 1 ∧ a = 0 ∧ b = 0 ∧ s = 0 then 0 else if ¬ k = 2 ∧ ¬ k = 3 then 1 else if ¬ nodB a = true ∨ ¬ nodB b = true ∨ a = b ∨ s < 1 ∨ s > 2147483647 then 1 else if k = 3 ∧ a > b then 1 else 0
def mayC (k a b s : Int) : Bool := decide (k = 1 ∧ a = 0 ∧ b = 0 ∧ s = 0 ∨ (k = 2 ∨ k = 3) ∧ nodB a = true ∧ nodB b = true ∧ a ≠ b ∧ 1 ≤ s ∧ s ≤ 2147483647 ∧ (k = 2 ∨ a < b))
theorem ck_may (k a b s : Int) : (ckC k a b s = 0 ↔ mayC k a b s = true) ∧ (ckC k a b s = 0 ∨ ckC k a b s = 1) := by
  unfold ckC mayC
  rw [decide_eq_true_eq]
  constructor
  · constructor
    · intro h
      split at h
      · rename_i q; exact .inl q
      · split at h
        · cases h
        · split at h
          · cases h
          · split at h
            · cases h
            · rename_i q1 q2 q3 q4
              right
              have h1 : nodB a = true := Decidable.byContradiction fun z => q3 (.inl z)
              have h2 : nodB b = true := Decidable.byContradiction fun z => q3 (.inr (.inl z))
              exact ⟨by omega, h1, h2, fun z => q3 (.inr (.inr (.inl z))), by omega, by omega, by omega⟩
    · rintro (⟨rfl, rfl, rfl, rfl⟩ | ⟨h1, h2, h3, h4, h5, h6, h7⟩)
      · rfl
      · rw [if_neg (by omega), if_neg (by omega), if_neg (by rintro (z | z | z | z | z) <;> first | exact z h2 | exact z h3 | exact h4 z | omega), if_neg (by omega)]
  · (repeat' split) <;> first | exact .inl rfl | exact .inr rfl

structure Ch where
  h_ck : Int → Int → Int → Int → Int
  h_may : Int → Int → Int → Int → Bool
  h_cK : Int → Int → Int → Int → Int → Int → Int
  h_mn : List E → K5
  h_se : List E → Int → Int → Int → Int
  h_ok : List E → Bool
  h_ok1 : List E → Bool
  h_in0 : List Int → List E → Bool
  h_ch : List Int → List E → Int
def Ch.std : Ch := ⟨ckC, mayC, cK, mnT, seF, fun l => decide (l.length ≤ 1000000), fun l => decide (0 < l.length ∧ l.length ≤ 1000000), fun n l => decide (n.length ≤ 1000000 ∧ l.length ≤ 1000000 ∧ (inV n l).length = 0), chV⟩

def c_ccmp (F : Ch) : Con := fun xs h => match xs, h with
  | [.agg [.val (.int .i64 a_n), .val (.int .i64 a_p), .val (.int .i64 a_w), .val (.int .i64 _), .val (.bool _)], .agg [.val (.int .i64 d_n), .val (.int .i64 d_p), .val (.int .i64 d_w), .val (.int .i64 _), .val (.bool _)]], [] => some ⟨True, .sa (I (F.h_cK a_n a_p a_w d_n d_p d_w)), [], [Any, Any]⟩
  | _, _ => none
set_option cbv.maxSteps 4000000 in
set_option maxHeartbeats 4000000 in
set_option maxRecDepth 100000 in
theorem x_ccmp (a_n : Int) (a_p : Int) (a_w : Int) (a_s : Int) (a_m : Bool) (d_n : Int) (d_p : Int) (d_w : Int) (d_s : Int) (d_m : Bool) : Does [(242, c_vedge ViL.Vl.std), (247, c_ecmp EgR.Fs.std)] Tryz.f231 [.agg [.val (.int .i64 a_n), .val (.int .i64 a_p), .val (.int .i64 a_w), .val (.int .i64 a_s), .val (.bool a_m)], .agg [.val (.int .i64 d_n), .val (.int .i64 d_p), .val (.int .i64 d_w), .val (.int .i64 d_s), .val (.bool d_m)]] [] ⟨True, .sa (I (Ch.std.h_cK a_n a_p a_w d_n d_p d_w)), [], [Any, Any]⟩ := by
  intro b gv
  have hfs := (FsOk.cons ok_vedge (FsOk.cons ok_ecmp FsOk.nil rfl) rfl)
  generalize hF : Ch.std = F at hfs ⊢
  generalize hG0 : ViL.Vl.std = G0 at hfs ⊢
  generalize hG1 : ViC.Vc.std = G1 at hfs ⊢
  generalize hG2 : EgR.Fs.std = G2 at hfs ⊢
  generalize hG3 : ViR.Vs.std = G3 at hfs ⊢
  generalize hA : Ar.std = A
  generalize hL : Lp _ _ _ = L
  obtain ⟨Z, zq⟩ := z_all
  refine cd_open (lp_mono hL) zq rfl ?_
  repeat' (first
    | (refine z_open zq ?_; try dsimp only)
    | refine cd_seq zq ?_ (lp_mono hL)
    | refine cd_blk zq ?_
    | refine cd_ret ?_
    | refine cd_skip ?_
    | refine cd_exit ?_
    | refine cd_loop ?_
    | refine cd_cond rfl ?_
    | refine cd_condT rfl ?_
    | refine cd_condF rfl ?_
    | (refine Cd.mk ?_; cbv)
    | (refine Ends1.mk ?_; cbv)
    | (refine Fin1.mk ?_; cbv)
    | exact trivial
    | refine And.intro ?_ ?_
    | refine orf fun _ => ?_
    | refine ort fun _ => ?_)
  all_goals
    clear hL zq Z
    try clear hfs
    subst hA hF hG0 hG1 hG2 hG3
    simp only [Ch.std, ViL.Vl.std, EgR.Fs.std] at *
    try (grind [stdCmp, cK])
theorem ok_ccmp : ConOk Tryz.prog 231 (c_ccmp Ch.std) := by
  refine con_of (FsOk.cons ok_vedge (FsOk.cons ok_ecmp FsOk.nil rfl) rfl) Tryz.func231 rfl rfl fun xs h p hp => ?_
  unfold c_ccmp at hp
  split at hp
  · cases hp
    exact ⟨lee_le rfl, fun _ _ => x_ccmp _ _ _ _ _ _ _ _ _ _⟩
  · cases hp

def c_clone (F : Ch) : Con := fun xs h => match xs, h with
  | [.one (.sl none (.recs (.int .i64 (.int .i64 (.int .i64 (.int .i64 (.bool .nil))))) l))], [] => some ⟨F.h_ok1 l = true, .sa (.one (.own 0)), [(0, .row 176 (.recs (.int .i64 (.int .i64 (.int .i64 (.int .i64 (.bool .nil))))) l))], [Any]⟩
  | _, _ => none
set_option cbv.maxSteps 4000000 in
set_option maxHeartbeats 4000000 in
set_option maxRecDepth 100000 in
theorem x_clone (l : List E) (hC : Ch.std.h_ok1 l = true) : Does [(ownKey 3000, noCon)] Tryz.f245 [.one (.sl none (.recs (.int .i64 (.int .i64 (.int .i64 (.int .i64 (.bool .nil))))) l))] [] ⟨Ch.std.h_ok1 l = true, .sa (.one (.own 0)), [(0, .row 176 (.recs (.int .i64 (.int .i64 (.int .i64 (.int .i64 (.bool .nil))))) l))], [Any]⟩ := by
  intro b gv
  have hk : 0 < l.length ∧ l.length ≤ 1000000 := of_decide_eq_true (show decide (0 < l.length ∧ l.length ≤ 1000000) = true from hC)
  have hfs := (FsOk.own (u := 3000) FsOk.nil)
  generalize hF : Ch.std = F at hC hfs ⊢
  generalize hG0 : ViL.Vl.std = G0 at hC hfs ⊢
  generalize hG1 : ViC.Vc.std = G1 at hC hfs ⊢
  generalize hG2 : EgR.Fs.std = G2 at hC hfs ⊢
  generalize hG3 : ViR.Vs.std = G3 at hC hfs ⊢
  generalize hA : Ar.std = A
  generalize hL : Lp _ _ _ = L
  obtain ⟨Z, zq⟩ := z_all
  refine cd_open (lp_mono hL) zq rfl ?_
  repeat' (first
    | (refine z_open zq ?_; try dsimp only)
    | refine cd_seq zq ?_ (lp_mono hL)
    | refine cd_blk zq ?_
    | refine cd_ret ?_
    | refine cd_skip ?_
    | refine cd_exit ?_
    | refine cd_loop ?_
    | refine cd_cond rfl ?_
    | refine cd_condT rfl ?_
    | refine cd_condF rfl ?_
    | (refine Cd.mk ?_; cbv)
    | (refine Ends1.mk ?_; cbv)
    | (refine Fin1.mk ?_; cbv)
    | exact trivial
    | refine And.intro ?_ ?_
    | refine orf fun _ => ?_
    | refine ort fun _ => ?_)
  all_goals
    clear hL zq Z
    try clear hfs
    subst hA hF hG0 hG1 hG2 hG3
    simp only [Ch.std, Ar.std, List.nil_append] at *
    try (grind [stdCmp])
theorem ok_clone : ConOk Tryz.prog 245 (c_clone Ch.std) := by
  refine con_of (FsOk.own (u := 3000) FsOk.nil) Tryz.func245 rfl rfl fun xs h p hp => ?_
  unfold c_clone at hp
  split at hp
  · cases hp
    exact ⟨lee_le rfl, fun hC _ => x_clone _ hC⟩
  · cases hp

def c_clone0 (_ : Ch) : Con := fun xs h => match xs, h with
  | [.one (.val (.slice none 0 0))], [] => some ⟨True, .sa (.one (.val (.slice none 0 0))), [], [Any]⟩
  | _, _ => none
set_option cbv.maxSteps 4000000 in
set_option maxHeartbeats 4000000 in
set_option maxRecDepth 100000 in
theorem x_clone0  : Does [] Tryz.f245 [.one (.val (.slice none 0 0))] [] ⟨True, .sa (.one (.val (.slice none 0 0))), [], [Any]⟩ := by
  intro b gv
  have hfs := FsOk.nil
  generalize hF : Ch.std = F at hfs ⊢
  generalize hG0 : ViL.Vl.std = G0 at hfs ⊢
  generalize hG1 : ViC.Vc.std = G1 at hfs ⊢
  generalize hG2 : EgR.Fs.std = G2 at hfs ⊢
  generalize hG3 : ViR.Vs.std = G3 at hfs ⊢
  generalize hA : Ar.std = A
  generalize hL : Lp _ _ _ = L
  obtain ⟨Z, zq⟩ := z_all
  refine cd_open (lp_mono hL) zq rfl ?_
  repeat' (first
    | (refine z_open zq ?_; try dsimp only)
    | refine cd_seq zq ?_ (lp_mono hL)
    | refine cd_blk zq ?_
    | refine cd_ret ?_
    | refine cd_skip ?_
    | refine cd_exit ?_
    | refine cd_loop ?_
    | refine cd_cond rfl ?_
    | refine cd_condT rfl ?_
    | refine cd_condF rfl ?_
    | (refine Cd.mk ?_; cbv)
    | (refine Ends1.mk ?_; cbv)
    | (refine Fin1.mk ?_; cbv)
    | exact trivial
    | refine And.intro ?_ ?_
    | refine orf fun _ => ?_
    | refine ort fun _ => ?_)
  all_goals
    clear hL zq Z
    try clear hfs
    subst hA hF hG0 hG1 hG2 hG3
    simp only [Ch.std, ViR.Vs.std, ViL.Vl.std, ViC.Vc.std, EgR.Fs.std, Ar.std, List.nil_append] at *
    try (grind [stdCmp])
theorem ok_clone0 : ConOk Tryz.prog 245 (c_clone0 Ch.std) := by
  refine con_of FsOk.nil Tryz.func245 rfl rfl fun xs h p hp => ?_
  unfold c_clone0 at hp
  split at hp
  · cases hp
    exact ⟨lee_le rfl, fun _ _ => x_clone0 ⟩
  · cases hp

def c_sess (F : Ch) : Con := fun xs h => match xs, h with
  | [.one (.sl none (.recs (.int .i64 (.int .i64 (.int .i64 (.int .i64 (.bool .nil))))) l)), .agg [.val (.int .i64 e_a), .val (.int .i64 e_b), .val (.int .i64 e_w)]], [] => some ⟨F.h_ok l = true, .sa (I (F.h_se l e_a e_b e_w)), [], [Any, Any]⟩
  | _, _ => none
set_option cbv.maxSteps 4000000 in
set_option maxHeartbeats 4000000 in
set_option maxRecDepth 100000 in
theorem x_sess (l : List E) (e_a : Int) (e_b : Int) (e_w : Int) (hC : Ch.std.h_ok l = true) : Does [(242, c_vedge ViL.Vl.std)] Tryz.f248 [.one (.sl none (.recs (.int .i64 (.int .i64 (.int .i64 (.int .i64 (.bool .nil))))) l)), .agg [.val (.int .i64 e_a), .val (.int .i64 e_b), .val (.int .i64 e_w)]] [] ⟨Ch.std.h_ok l = true, .sa (I (Ch.std.h_se l e_a e_b e_w)), [], [Any, Any]⟩ := by
  intro b gv
  have hk : l.length ≤ 1000000 := of_decide_eq_true (show decide (l.length ≤ 1000000) = true from hC)
  have hfs := (FsOk.cons ok_vedge FsOk.nil rfl)
  generalize hF : Ch.std = F at hC hfs ⊢
  generalize hG0 : ViL.Vl.std = G0 at hC hfs ⊢
  generalize hG1 : ViC.Vc.std = G1 at hC hfs ⊢
  generalize hG2 : EgR.Fs.std = G2 at hC hfs ⊢
  generalize hG3 : ViR.Vs.std = G3 at hC hfs ⊢
  generalize hA : Ar.std = A
  generalize hL : Lp _ _ _ = L
  obtain ⟨Z, zq⟩ := z_all
  refine cd_open (lp_mono hL) zq rfl ?_
  repeat' (first
    | (refine z_open zq ?_; try dsimp only)
    | refine cd_seq zq ?_ (lp_mono hL)
    | refine cd_blk zq ?_
    | refine cd_ret ?_
    | refine cd_skip ?_
    | refine cd_exit ?_
    | refine cd_loop ?_
    | refine cd_cond rfl ?_
    | refine cd_condT rfl ?_
    | refine cd_condF rfl ?_
    | (refine Cd.mk ?_; cbv)
    | (refine Ends1.mk ?_; cbv)
    | (refine Fin1.mk ?_; cbv)
    | exact trivial
    | refine And.intro ?_ ?_
    | refine orf fun _ => ?_
    | refine ort fun _ => ?_)
  subst hL
  refine loop_z (cx_ok hfs) (seQ l e_a e_b e_w) (seI A l e_a e_b e_w) (lnM l) (iR 9) ⟨0⟩ ?_ ?_ ?_
  · exact ⟨Int.le_refl 0, Int.natCast_nonneg _, rfl⟩
  · cbv
    repeat' (first | exact trivial | exact rfl | refine And.intro ?_ ?_)
  rintro ⟨i⟩ hq O hO
  have hst := se_step hk hq
  subst hA
  generalize hA : Ar.std = A
  generalize hL : Lp _ _ _ = L
  refine cd_close zq ?_
  repeat' (first
    | (refine z_open zq ?_; try dsimp only)
    | refine cd_seq zq ?_ (lp_mono hL)
    | refine cd_blk zq ?_
    | refine cd_ret ?_
    | refine cd_skip ?_
    | refine cd_exit ?_
    | refine cd_loop ?_
    | refine cd_cond rfl ?_
    | refine cd_condT rfl ?_
    | refine cd_condF rfl ?_
    | (refine Cd.mk ?_; cbv)
    | (refine Ends1.mk ?_; cbv)
    | (refine Fin1.mk ?_; cbv)
    | exact trivial
    | refine And.intro ?_ ?_
    | refine orf fun _ => ?_
    | refine ort fun _ => ?_)
  all_goals (clear hL hfs zq Z hq; subst hA hF hG0 hG1 hG2 hG3 hO; simp only [Ch.std, ViL.Vl.std, Ar.std] at * <;> grind [stdCmp]; done)
theorem ok_sess : ConOk Tryz.prog 248 (c_sess Ch.std) := by
  refine con_of (FsOk.cons ok_vedge FsOk.nil rfl) Tryz.func248 rfl rfl fun xs h p hp => ?_
  unfold c_sess at hp
  split at hp
  · cases hp
    exact ⟨lee_le rfl, fun hC _ => x_sess _ _ _ _ hC⟩
  · cases hp

def c_minf (F : Ch) : Con := fun xs h => match xs, h with
  | [.one (.sl none (.recs (.int .i64 (.int .i64 (.int .i64 (.int .i64 (.bool .nil))))) l)), .one (.val (.func (.func 231) ⟨[]⟩ ⟨[]⟩))], [] => some ⟨F.h_ok1 l = true, .sa (.agg [.val (.int .i64 (F.h_mn l).1), .val (.int .i64 (F.h_mn l).2.1), .val (.int .i64 (F.h_mn l).2.2.1), .val (.int .i64 (F.h_mn l).2.2.2.1), .val (.bool (F.h_mn l).2.2.2.2)]), [], [Any, Any]⟩
  | _, _ => none
set_option cbv.maxSteps 4000000 in
set_option maxHeartbeats 4000000 in
set_option maxRecDepth 100000 in
theorem x_minf (l : List E) (hC : Ch.std.h_ok1 l = true) : Does [(231, c_ccmp Ch.std)] Tryz.f230 [.one (.sl none (.recs (.int .i64 (.int .i64 (.int .i64 (.int .i64 (.bool .nil))))) l)), .one (.val (.func (.func 231) ⟨[]⟩ ⟨[]⟩))] [] ⟨Ch.std.h_ok1 l = true, .sa (.agg [.val (.int .i64 (Ch.std.h_mn l).1), .val (.int .i64 (Ch.std.h_mn l).2.1), .val (.int .i64 (Ch.std.h_mn l).2.2.1), .val (.int .i64 (Ch.std.h_mn l).2.2.2.1), .val (.bool (Ch.std.h_mn l).2.2.2.2)]), [], [Any, Any]⟩ := by
  intro b gv
  have hk : 0 < l.length ∧ l.length ≤ 1000000 := of_decide_eq_true (show decide (0 < l.length ∧ l.length ≤ 1000000) = true from hC)
  have hfs := (FsOk.cons ok_ccmp FsOk.nil rfl)
  generalize hF : Ch.std = F at hC hfs ⊢
  generalize hG0 : ViL.Vl.std = G0 at hC hfs ⊢
  generalize hG1 : ViC.Vc.std = G1 at hC hfs ⊢
  generalize hG2 : EgR.Fs.std = G2 at hC hfs ⊢
  generalize hG3 : ViR.Vs.std = G3 at hC hfs ⊢
  generalize hA : Ar.std = A
  generalize hL : Lp _ _ _ = L
  obtain ⟨Z, zq⟩ := z_all
  refine cd_open (lp_mono hL) zq rfl ?_
  repeat' (first
    | (refine z_open zq ?_; try dsimp only)
    | refine cd_seq zq ?_ (lp_mono hL)
    | refine cd_blk zq ?_
    | refine cd_ret ?_
    | refine cd_skip ?_
    | refine cd_exit ?_
    | refine cd_loop ?_
    | refine cd_cond rfl ?_
    | refine cd_condT rfl ?_
    | refine cd_condF rfl ?_
    | (refine Cd.mk ?_; cbv)
    | (refine Ends1.mk ?_; cbv)
    | (refine Fin1.mk ?_; cbv)
    | exact trivial
    | refine And.intro ?_ ?_
    | refine orf fun _ => ?_
    | refine ort fun _ => ?_)
  all_goals first | (show L _ _ _; skip) | (clear hL hfs zq Z; subst hA hF hG0 hG1 hG2 hG3; simp only [Ch.std, Ar.std] at * <;> grind [stdCmp]; done)
  subst hL
  refine loop_z (cx_ok hfs) (mnQ l) (mnI l) (mnM l) mnR ⟨1, A.ri (A.atE l 0) 0, A.ri (A.atE l 0) 1, A.ri (A.atE l 0) 2, A.ri (A.atE l 0) 3, A.rb (A.atE l 0) 4⟩ ?_ ?_ ?_
  · (subst hA; exact mn_zero hk.1)
  · cbv
    repeat' (first | exact trivial | exact rfl | refine And.intro ?_ ?_)
  rintro ⟨i, n, p, w, s, b⟩ hq O hO
  have hst := mn_step hk.2 hq
  subst hA
  generalize hA : Ar.std = A
  generalize hL : Lp _ _ _ = L
  refine cd_close zq ?_
  repeat' (first
    | (refine z_open zq ?_; try dsimp only)
    | refine cd_seq zq ?_ (lp_mono hL)
    | refine cd_blk zq ?_
    | refine cd_ret ?_
    | refine cd_skip ?_
    | refine cd_exit ?_
    | refine cd_loop ?_
    | refine cd_cond rfl ?_
    | refine cd_condT rfl ?_
    | refine cd_condF rfl ?_
    | (refine Cd.mk ?_; cbv)
    | (refine Ends1.mk ?_; cbv)
    | (refine Fin1.mk ?_; cbv)
    | exact trivial
    | refine And.intro ?_ ?_
    | refine orf fun _ => ?_
    | refine ort fun _ => ?_)
  all_goals (clear hL hfs zq Z hq; subst hA hF hG0 hG1 hG2 hG3 hO; simp only [Ch.std, Ar.std] at * <;> grind [stdCmp]; done)
theorem ok_minf : ConOk Tryz.prog 230 (c_minf Ch.std) := by
  refine con_of (FsOk.cons ok_ccmp FsOk.nil rfl) Tryz.func230 rfl rfl fun xs h p hp => ?_
  unfold c_minf at hp
  split at hp
  · cases hp
    exact ⟨lee_le rfl, fun hC _ => x_minf _ hC⟩
  · cases hp

def c_inner0 (F : Ch) : Con := fun xs h => match xs, h with
  | [.agg [.sl none (.ints .i64 v_n), .sl none (.recs (.int .i64 (.int .i64 (.int .i64 (.int .i64 (.bool .nil))))) v_l)]], [] => some ⟨F.h_in0 v_n v_l = true, .tup [.one (.val (.slice none 0 0)), I (F.h_ch v_n v_l)], [], [Any]⟩
  | _, _ => none
set_option cbv.maxSteps 4000000 in
set_option maxHeartbeats 4000000 in
set_option maxRecDepth 100000 in
theorem x_inner0 (v_n : List Int) (v_l : List E) (hC : Ch.std.h_in0 v_n v_l = true) : Does [(182, c_vcheck ViC.Vc.std), (241, c_known ViL.Vl.std)] Tryz.f225 [.agg [.sl none (.ints .i64 v_n), .sl none (.recs (.int .i64 (.int .i64 (.int .i64 (.int .i64 (.bool .nil))))) v_l)]] [] ⟨Ch.std.h_in0 v_n v_l = true, .tup [.one (.val (.slice none 0 0)), I (Ch.std.h_ch v_n v_l)], [], [Any]⟩ := by
  intro b gv
  have hk : v_n.length ≤ 1000000 ∧ v_l.length ≤ 1000000 ∧ (inV v_n v_l).length = 0 := of_decide_eq_true (show decide (v_n.length ≤ 1000000 ∧ v_l.length ≤ 1000000 ∧ (inV v_n v_l).length = 0) = true from hC)
  have hz : mayV v_n v_l = true → inF v_l = [] := fun h => by have e : inV v_n v_l = inF v_l := if_pos h; rw [← e]; exact List.eq_nil_of_length_eq_zero hk.2.2
  have hfs := (FsOk.cons ok_vcheck (FsOk.cons ok_known FsOk.nil rfl) rfl)
  generalize hF : Ch.std = F at hC hfs ⊢
  generalize hG0 : ViL.Vl.std = G0 at hC hfs ⊢
  generalize hG1 : ViC.Vc.std = G1 at hC hfs ⊢
  generalize hG2 : EgR.Fs.std = G2 at hC hfs ⊢
  generalize hG3 : ViR.Vs.std = G3 at hC hfs ⊢
  generalize hA : Ar.std = A
  generalize hL : Lp _ _ _ = L
  obtain ⟨Z, zq⟩ := z_all
  refine cd_open (lp_mono hL) zq rfl ?_
  repeat' (first
    | (refine z_open zq ?_; try dsimp only)
    | refine cd_seq zq ?_ (lp_mono hL)
    | refine cd_blk zq ?_
    | refine cd_ret ?_
    | refine cd_skip ?_
    | refine cd_exit ?_
    | refine cd_loop ?_
    | refine cd_cond rfl ?_
    | refine cd_condT rfl ?_
    | refine cd_condF rfl ?_
    | (refine Cd.mk ?_; cbv)
    | (refine Ends1.mk ?_; cbv)
    | (refine Fin1.mk ?_; cbv)
    | exact trivial
    | refine And.intro ?_ ?_
    | refine orf fun _ => ?_
    | refine ort fun _ => ?_)
  all_goals first | (show L _ _ _; skip) | (clear hL hfs zq Z; subst hA hF hG0 hG1 hG2 hG3; simp only [Ch.std, ViC.Vc.std, Ar.std] at * <;> grind [stdCmp, chV]; done)
  rename_i hx
  have hv : mayV v_n v_l = true := by
    clear hL hfs zq Z
    subst hA hF hG0 hG1 hG2 hG3
    simp only [ViC.Vc.std, Ar.std] at hx
    grind [stdCmp, chV]
  clear hx
  have hz := hz hv
  subst hL
  refine loop_z (cx_ok hfs) (lnQ v_l) (i0I A v_n v_l) (lnM v_l) (iR 15) ⟨0⟩ ?_ ?_ ?_
  · exact ⟨Int.le_refl 0, Int.natCast_nonneg _⟩
  · cbv
    repeat' (first | exact trivial | exact rfl | refine And.intro ?_ ?_)
  rintro ⟨i⟩ hq O hO
  have hst := ln_step hk.2.1 hq
  have hn := fun h => in_none hz hq.1 h
  dsimp only at hn
  have hin : in1 v_l (v_l.getD i.toNat []) = if ri (v_l.getD i.toNat []) 0 < ri (v_l.getD i.toNat []) 1 ∧ bkB v_l (ri (v_l.getD i.toNat []) 1) (ri (v_l.getD i.toNat []) 0) = true ∧ (knW v_l (ri (v_l.getD i.toNat []) 1) (ri (v_l.getD i.toNat []) 0)).w = ri (v_l.getD i.toNat []) 2 ∧ (knW v_l (ri (v_l.getD i.toNat []) 1) (ri (v_l.getD i.toNat []) 0)).s = ri (v_l.getD i.toNat []) 3 then [[D.int (ri (v_l.getD i.toNat []) 0), D.int (ri (v_l.getD i.toNat []) 1), D.int (ri (v_l.getD i.toNat []) 2), D.int (ri (v_l.getD i.toNat []) 3), D.bool (rb (v_l.getD i.toNat []) 4 && (knW v_l (ri (v_l.getD i.toNat []) 1) (ri (v_l.getD i.toNat []) 0)).m)]] else [] := rfl
  subst hA
  generalize hA : Ar.std = A
  generalize hL : Lp _ _ _ = L
  refine cd_close zq ?_
  repeat' (first
    | (refine z_open zq ?_; try dsimp only)
    | refine cd_seq zq ?_ (lp_mono hL)
    | refine cd_blk zq ?_
    | refine cd_ret ?_
    | refine cd_skip ?_
    | refine cd_exit ?_
    | refine cd_loop ?_
    | refine cd_cond rfl ?_
    | refine cd_condT rfl ?_
    | refine cd_condF rfl ?_
    | (refine Cd.mk ?_; cbv)
    | (refine Ends1.mk ?_; cbv)
    | (refine Fin1.mk ?_; cbv)
    | exact trivial
    | refine And.intro ?_ ?_
    | refine orf fun _ => ?_
    | refine ort fun _ => ?_)
  all_goals (clear hL hfs zq Z hq; subst hA hF hG0 hG1 hG2 hG3 hO; simp only [Ch.std, ViL.Vl.std, Ar.std, List.nil_append] at * <;> grind [stdCmp, chV]; done)
theorem ok_inner0 : ConOk Tryz.prog 225 (c_inner0 Ch.std) := by
  refine con_of (FsOk.cons ok_vcheck (FsOk.cons ok_known FsOk.nil rfl) rfl) Tryz.func225 rfl rfl fun xs h p hp => ?_
  unfold c_inner0 at hp
  split at hp
  · cases hp
    exact ⟨lee_le rfl, fun hC _ => x_inner0 _ _ hC⟩
  · cases hp

def c_ccheck (F : Ch) : Con := fun xs h => match xs, h with
  | [.agg [.val (.int .i64 c_k), .val (.int .i64 c_a), .val (.int .i64 c_b), .val (.int .i64 c_s)]], [] => some ⟨True, .sa (I (F.h_ck c_k c_a c_b c_s)), [], [Any]⟩
  | _, _ => none
set_option cbv.maxSteps 4000000 in
set_option maxHeartbeats 4000000 in
set_option maxRecDepth 100000 in
theorem x_ccheck (c_k : Int) (c_a : Int) (c_b : Int) (c_s : Int) : Does [(108, c_enode ViR.Vs.std)] Tryz.f183 [.agg [.val (.int .i64 c_k), .val (.int .i64 c_a), .val (.int .i64 c_b), .val (.int .i64 c_s)]] [] ⟨True, .sa (I (Ch.std.h_ck c_k c_a c_b c_s)), [], [Any]⟩ := by
  intro b gv
  have hfs := (FsOk.cons ok_enode FsOk.nil rfl)
  generalize hF : Ch.std = F at hfs ⊢
  generalize hG0 : ViL.Vl.std = G0 at hfs ⊢
  generalize hG1 : ViC.Vc.std = G1 at hfs ⊢
  generalize hG2 : EgR.Fs.std = G2 at hfs ⊢
  generalize hG3 : ViR.Vs.std = G3 at hfs ⊢
  generalize hA : Ar.std = A
  generalize hL : Lp _ _ _ = L
  obtain ⟨Z, zq⟩ := z_all
  refine cd_open (lp_mono hL) zq rfl ?_
  repeat' (first
    | (refine z_open zq ?_; try dsimp only)
    | refine cd_seq zq ?_ (lp_mono hL)
    | refine cd_blk zq ?_
    | refine cd_ret ?_
    | refine cd_skip ?_
    | refine cd_exit ?_
    | refine cd_loop ?_
    | refine cd_cond rfl ?_
    | refine cd_condT rfl ?_
    | refine cd_condF rfl ?_
    | (refine Cd.mk ?_; cbv)
    | (refine Ends1.mk ?_; cbv)
    | (refine Fin1.mk ?_; cbv)
    | exact trivial
    | refine And.intro ?_ ?_
    | refine orf fun _ => ?_
    | refine ort fun _ => ?_)
  all_goals
    clear hL zq Z
    try clear hfs
    subst hA hF hG0 hG1 hG2 hG3
    simp only [Ch.std, ViR.Vs.std, Ar.std] at *
    try (grind [stdCmp, ckC])
theorem ok_ccheck : ConOk Tryz.prog 183 (c_ccheck Ch.std) := by
  refine con_of (FsOk.cons ok_enode FsOk.nil rfl) Tryz.func183 rfl rfl fun xs h p hp => ?_
  unfold c_ccheck at hp
  split at hp
  · cases hp
    exact ⟨lee_le rfl, fun _ _ => x_ccheck _ _ _ _⟩
  · cases hp

def c_cmay (F : Ch) : Con := fun xs h => match xs, h with
  | [.agg [.val (.int .i64 c_k), .val (.int .i64 c_a), .val (.int .i64 c_b), .val (.int .i64 c_s)]], [] => some ⟨True, .sa (B (F.h_may c_k c_a c_b c_s)), [], [Any]⟩
  | _, _ => none
end Go.Proofs.YtakebkfhigadiaaGreat.ChR
