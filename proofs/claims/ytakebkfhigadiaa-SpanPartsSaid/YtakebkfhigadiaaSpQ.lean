
/-
  the answer of forests: what is reached. No condition.
-/
import Derived.Test.YtakebkfhigadiaaSpR
namespace Go.Proofs.Ytakebkfhigadiaa.SpQ
open Go Go.Proofs.Ytakebkfhigadiaa.Ry Go.Proofs.Ytakebkfhigadiaa.So Go.Proofs.Ytakebkfhigadiaa.JoS Go.Proofs.Ytakebkfhigadiaa.EgR Go.Proofs.Ytakebkfhigadiaa.SpR

def rSt (M : List E) (y : E) : List E := if rb (M.getD (ri y 0).toNat []) 0 = true ∨ rb (M.getD (ri y 1).toNat []) 0 = true then (M.set (ri y 0).toNat [D.bool true]).set (ri y 1).toNat [D.bool true] else M
def rPs (l : List E) (M : List E) : List E := l.foldl rSt M
def rIt (l : List E) : Nat → List E → List E
  | 0, M => M
  | k + 1, M => rPs l (rIt l k M)
def zer : List E := List.replicate 65 [D.bool false]
def bas (f : Int) : List E := zer.set f.toNat [D.bool true]
def reaB (l : List E) (f : Int) : List E := if nodB f = true then rIt l 64 (bas f) else zer
def in1 (y : E) : Bool := decide (0 ≤ ri y 0 ∧ ri y 0 < 65 ∧ 0 ≤ ri y 1 ∧ ri y 1 < 65)
def inR (l : List E) : Bool := decide (l.length ≤ 1000000) && l.all in1
theorem inR_iff {l : List E} : inR l = true ↔ l.length ≤ 1000000 ∧ ∀ y ∈ l, 0 ≤ ri y 0 ∧ ri y 0 < 65 ∧ 0 ≤ ri y 1 ∧ ri y 1 < 65 := by
  unfold inR in1
  simp only [Bool.and_eq_true, decide_eq_true_eq, List.all_eq_true]
theorem st_len (M : List E) (y : E) : (rSt M y).length = M.length := by
  unfold rSt
  split
  · rw [List.length_set, List.length_set]
  · rfl
theorem ps_len : ∀ (l M : List E), (rPs l M).length = M.length
  | [], _ => rfl
  | y :: l, M => by
    show (rPs l (rSt M y)).length = _
    rw [ps_len l, st_len]
theorem it_len (l : List E) : ∀ (k : Nat) (M : List E), (rIt l k M).length = M.length
  | 0, _ => rfl
  | k + 1, M => by
    unfold rIt
    rw [ps_len, it_len l k]
theorem bas_len (f : Int) : (bas f).length = 65 := by
  unfold bas zer
  rw [List.length_set, List.length_replicate]
structure XK where
  k : Int
  M : List E
def roQ (l : List E) (f : Int) (y : XK) : Prop := 0 ≤ y.k ∧ y.k ≤ 64 ∧ y.M = rIt l y.k.toNat (bas f)
def roM (y : XK) : Nat := (64 - y.k).toNat
def rdA (st : St) (s : Nat) : List E := match hget st.heap (match slotC st s with | .ptr n _ => n | _ => 0) with | some (.row _ c) => ctR c | _ => []
noncomputable def roI (A : Ar) (l : List E) (y : XK) : St := stOf Try.f26.ntmps [(0, .sl none (.recs (.int .i64 (.int .i64 (.int .i64 .nil))) l)), (4, .ptr 1 0), (5, .ptr 2 0), (6, .val (.int .i64 y.k))] [(1, .row 66 (.recs (.bool .nil) (A.repE 65 [D.bool false]))), (2, .row 66 (.recs (.bool .nil) y.M))] [Any, Any]
def roR (st : St) : XK := ⟨slotI st 6, rdA st 5⟩
def riQ (l M0 : List E) (y : XK) : Prop := 0 ≤ y.k ∧ y.k ≤ l.length ∧ y.M = rPs (l.take y.k.toNat) M0
def riM (l : List E) (y : XK) : Nat := l.length - y.k.toNat
noncomputable def riI (A : Ar) (l : List E) (k : Int) (y : XK) : St := stOf Try.f26.ntmps [(0, .sl none (.recs (.int .i64 (.int .i64 (.int .i64 .nil))) l)), (4, .ptr 1 0), (5, .ptr 2 0), (6, .val (.int .i64 k)), (7, .val (.int .i64 y.k))] [(1, .row 66 (.recs (.bool .nil) (A.repE 65 [D.bool false]))), (2, .row 66 (.recs (.bool .nil) y.M))] [Any, Any]
def riR (st : St) : XK := ⟨slotI st 7, rdA st 5⟩
theorem ro_len {l : List E} {f k : Int} {M : List E} (hq : roQ l f ⟨k, M⟩) : M.length = 65 := by
  have h := hq.2.2
  simp only at h
  rw [h, it_len, bas_len]
theorem ro_end {l : List E} {f k : Int} {M : List E} (hq : roQ l f ⟨k, M⟩) (h : ¬ k < 64) (hf : nodB f = true) : M = reaB l f := by
  obtain ⟨h0, h1, h2⟩ := hq
  simp only at h0 h1 h2
  have e : k = 64 := by omega
  subst e
  unfold reaB
  rw [if_pos hf, h2]
  rfl
theorem ri_step {l M0 : List E} (hl : inR l = true) (h65 : M0.length = 65) {i : Int} {M : List E} (hq : riQ l M0 ⟨i, M⟩) (h : i < l.length) :
    stdBin .add .i64 i 1 = i + 1 ∧ M.length = 65 ∧ 0 ≤ ri (l.getD i.toNat []) 0 ∧ ri (l.getD i.toNat []) 0 < 65 ∧ 0 ≤ ri (l.getD i.toNat []) 1 ∧ ri (l.getD i.toNat []) 1 < 65 ∧
    (rb (M.getD (ri (l.getD i.toNat []) 0).toNat []) 0 = true ∨ rb (M.getD (ri (l.getD i.toNat []) 1).toNat []) 0 = true → riQ l M0 ⟨i + 1, (M.set (ri (l.getD i.toNat []) 0).toNat [D.bool true]).set (ri (l.getD i.toNat []) 1).toNat [D.bool true]⟩) ∧
    (¬ (rb (M.getD (ri (l.getD i.toNat []) 0).toNat []) 0 = true ∨ rb (M.getD (ri (l.getD i.toNat []) 1).toNat []) 0 = true) → riQ l M0 ⟨i + 1, M⟩) := by
  obtain ⟨h0, h1, h2⟩ := hq
  simp only at h0 h1 h2
  obtain ⟨k1, k2⟩ := inR_iff.1 hl
  have k3 := k2 _ (pl_mem h0 h)
  have hn : rPs (l.take (i + 1).toNat) M0 = rSt M (l.getD i.toNat []) := by
    rw [take_next l i h0 h]
    unfold rPs at h2 ⊢
    rw [List.foldl_append, ← h2]
    rfl
  refine ⟨by rw [b_add, wr _ (by omega) (by omega)], by rw [h2, ps_len, h65], k3.1, k3.2.1, k3.2.2.1, k3.2.2.2, fun g => ⟨by simp only; omega, by simp only; omega, ?_⟩, fun g => ⟨by simp only; omega, by simp only; omega, ?_⟩⟩
  · simp only
    rw [hn]
    unfold rSt
    rw [if_pos g]
  · simp only
    rw [hn]
    unfold rSt
    rw [if_neg g]
theorem ri_end {l : List E} {f k : Int} {M0 M : List E} (ho : roQ l f ⟨k, M0⟩) (hk : k < 64) {i : Int} (hq : riQ l M0 ⟨i, M⟩) (h : ¬ i < l.length) : stdBin .add .i64 k 1 = k + 1 ∧ roQ l f ⟨k + 1, M⟩ := by
  obtain ⟨h0, h1, h2⟩ := hq
  obtain ⟨p0, p1, p2⟩ := ho
  simp only at h0 h1 h2 p0 p1 p2
  have e : i = l.length := by omega
  rw [e, Int.toNat_natCast, List.take_length] at h2
  have e2 : (k + 1).toNat = k.toNat + 1 := by omega
  refine ⟨by rw [b_add, wr _ (by omega) (by omega)], by simp only; omega, by simp only; omega, ?_⟩
  simp only
  rw [e2, h2, p2]
  rfl
def lkR (l : List E) (a b : Int) : Bool := nodB a && (nodB b && rb ((reaB l a).getD b.toNat []) 0)
theorem rea_len (l : List E) (f : Int) : (reaB l f).length = 65 := by
  unfold reaB
  split
  · rw [it_len, bas_len]
  · simp [zer]
def atR (l : List E) (i : Nat) : Bool := lkR (l.take i) (ri (l.getD i []) 0) (ri (l.getD i []) 1)
def rfB (l : List E) : Bool := (List.range l.length).all fun i => !atR l i
theorem inR_take {l : List E} (h : inR l = true) (k : Nat) : inR (l.take k) = true := by
  obtain ⟨h1, h2⟩ := inR_iff.1 h
  exact inR_iff.2 ⟨by rw [List.length_take]; omega, fun y hy => h2 y (List.mem_of_mem_take hy)⟩
def rfQ (l : List E) (y : XI) : Prop := 0 ≤ y.i ∧ y.i ≤ l.length ∧ ∀ j : Nat, j < y.i → atR l j = false
def rfM (l : List E) (y : XI) : Nat := l.length - y.i.toNat
theorem rf_step {l : List E} {i : Int} (hl : inR l = true) (hq : rfQ l ⟨i⟩) (h : i < l.length) : stdBin .add .i64 i 1 = i + 1 ∧ inR (l.take i.toNat) = true ∧ (l.take i.toNat).length = i ∧ (lkR (l.take i.toNat) (ri (l.getD i.toNat []) 0) (ri (l.getD i.toNat []) 1) = true → rfB l = false) ∧ (lkR (l.take i.toNat) (ri (l.getD i.toNat []) 0) (ri (l.getD i.toNat []) 1) = false → rfQ l ⟨i + 1⟩) := by
  obtain ⟨h0, h1, h2⟩ := hq
  simp only at h0 h1 h2
  have hl1 := (inR_iff.1 hl).1
  refine ⟨by rw [b_add, wr _ (by omega) (by omega)], inR_take hl _, by rw [List.length_take]; omega, fun g => ?_, fun g => ⟨by simp only; omega, by simp only; omega, fun j hj => ?_⟩⟩
  · rw [← Bool.not_eq_true]
    intro w
    have := List.all_eq_true.1 w i.toNat (List.mem_range.2 (by omega))
    unfold atR at this
    rw [g] at this
    cases this
  · simp only at hj
    by_cases e : j = i.toNat
    · rw [e]
      exact g
    · exact h2 j (by omega)
theorem rf_end {l : List E} {i : Int} (hq : rfQ l ⟨i⟩) (h : ¬ i < l.length) : rfB l = true := by
  obtain ⟨h0, h1, h2⟩ := hq
  simp only at h0 h1 h2
  unfold rfB
  rw [List.all_eq_true]
  intro j hj
  rw [h2 j (by have := List.mem_range.1 hj; omega)]
  rfl
def lsW (a b w a' b' w' : Int) : Bool := if ¬ w = w' then decide (w < w') else decide (a < a' ∨ (a = a' ∧ b < b'))
def lsY (x y : E) : Bool := lsW (ri x 0) (ri x 1) (ri x 2) (ri y 0) (ri y 1) (ri y 2)
def e3 (y : E) : E := [D.int (ri y 0), D.int (ri y 1), D.int (ri y 2)]
def swS (s : List E) (j : Nat) : List E := (s.set (j + 1) (e3 (s.getD j []))).set j (e3 (s.getD (j + 1) []))
def inF : Nat → List E → List E
  | 0, s => s
  | j + 1, s => if lsY (s.getD (j + 1) []) (s.getD j []) = true then inF j (swS s j) else s
def ouF (l : List E) : Nat → List E
  | 0 => l
  | i + 1 => inF i (ouF l i)
def rsB (l : List E) : List E := ouF l l.length
theorem sw_len (s : List E) (j : Nat) : (swS s j).length = s.length := by
  unfold swS
  rw [List.length_set, List.length_set]
theorem in_len : ∀ (j : Nat) (s : List E), (inF j s).length = s.length
  | 0, _ => rfl
  | j + 1, s => by
    unfold inF
    split
    · rw [in_len j, sw_len]
    · rfl
theorem ou_len (l : List E) : ∀ i, (ouF l i).length = l.length
  | 0 => rfl
  | i + 1 => by
    unfold ouF
    rw [in_len, ou_len l i]
def soQ (l : List E) (y : XK) : Prop := 0 ≤ y.k ∧ y.k ≤ l.length ∧ y.M = ouF l y.k.toNat
def soM (l : List E) (y : XK) : Nat := l.length - y.k.toNat
def rdO (st : St) (s : Nat) : List E := match hget st.heap (match slotC st s with | .own n => n | _ => 0) with | some (.row _ c) => ctR c | _ => []
def soR (st : St) : XK := ⟨slotI st 4, rdO st 3⟩
def siQ (n : Nat) (i : Int) (S0 : List E) (y : XK) : Prop := 0 ≤ y.k ∧ y.k ≤ i ∧ y.M.length = n ∧ inF y.k.toNat y.M = inF i.toNat S0
def siM (y : XK) : Nat := y.k.toNat
def siR (st : St) : XK := ⟨slotI st 5, rdO st 3⟩
theorem si_step {n : Nat} {i : Int} {S0 : List E} (hn : n ≤ 1000000) (hi : i < n) {j : Int} {s : List E} (hq : siQ n i S0 ⟨j, s⟩) : s.length = n ∧ (j > 0 → stdBin .sub .i64 j 1 = j - 1 ∧
    (lsW (ri (s.getD j.toNat []) 0) (ri (s.getD j.toNat []) 1) (ri (s.getD j.toNat []) 2) (ri (s.getD (j - 1).toNat []) 0) (ri (s.getD (j - 1).toNat []) 1) (ri (s.getD (j - 1).toNat []) 2) = true →
      siQ n i S0 ⟨j - 1, (s.set j.toNat [D.int (ri (s.getD (j - 1).toNat []) 0), D.int (ri (s.getD (j - 1).toNat []) 1), D.int (ri (s.getD (j - 1).toNat []) 2)]).set (j - 1).toNat [D.int (ri (s.getD j.toNat []) 0), D.int (ri (s.getD j.toNat []) 1), D.int (ri (s.getD j.toNat []) 2)]⟩) ∧
    (lsW (ri (s.getD j.toNat []) 0) (ri (s.getD j.toNat []) 1) (ri (s.getD j.toNat []) 2) (ri (s.getD (j - 1).toNat []) 0) (ri (s.getD (j - 1).toNat []) 1) (ri (s.getD (j - 1).toNat []) 2) = false → s = inF i.toNat S0)) ∧ (¬ j > 0 → s = inF i.toNat S0) := by
  obtain ⟨h0, h1, h2, h3⟩ := hq
  simp only at h0 h1 h2 h3
  refine ⟨h2, fun g => ?_, fun g => ?_⟩
  · have e : j.toNat = (j - 1).toNat + 1 := by omega
    rw [e, inF] at h3
    unfold lsY at h3
    rw [← e] at h3
    refine ⟨by rw [b_sub, wr _ (by omega) (by omega)], fun w => ⟨by simp only; omega, by simp only; omega, by simp only [List.length_set]; exact h2, ?_⟩, fun w => ?_⟩
    · simp only
      rw [if_pos w] at h3
      rw [← h3]
      unfold swS e3
      rw [← e]
    · rw [if_neg (by rw [w]; decide)] at h3
      exact h3
  · have e : j.toNat = 0 := by omega
    rw [e] at h3
    exact h3
theorem so_len {l : List E} {i : Int} {S0 : List E} (hq : soQ l ⟨i, S0⟩) : S0.length = l.length := by
  have h := hq.2.2
  simp only at h
  rw [h, ou_len]
theorem so_next {l : List E} {i : Int} {S0 M : List E} (hl : l.length ≤ 1000000) (hq : soQ l ⟨i, S0⟩) (h : i < l.length) (he : M = inF i.toNat S0) : stdBin .add .i64 i 1 = i + 1 ∧ soQ l ⟨i + 1, M⟩ := by
  obtain ⟨h0, h1, h2⟩ := hq
  simp only at h0 h1 h2
  have e2 : (i + 1).toNat = i.toNat + 1 := by omega
  refine ⟨by rw [b_add, wr _ (by omega) (by omega)], by simp only; omega, by simp only; omega, ?_⟩
  simp only
  rw [he, e2, ouF, h2]
theorem so_end {l : List E} {i : Int} {S0 : List E} (hq : soQ l ⟨i, S0⟩) (h : ¬ i < l.length) : S0 = rsB l := by
  obtain ⟨h0, h1, h2⟩ := hq
  simp only at h0 h1 h2
  have e : i = l.length := by omega
  rw [e, Int.toNat_natCast] at h2
  exact h2

structure Sq where
  r_ls : Int → Int → Int → Int → Int → Int → Bool
  r_srt : List E → List E
  r_ok : List E → Bool
  r_lk : List E → Int → Int → Bool
  r_for : List E → Bool
  r_in : List E → Bool
  r_rea : List E → Int → List E
def Sq.std : Sq := ⟨lsW, rsB, fun l => decide (l.length ≤ 1000000), lkR, rfB, inR, reaB⟩

def c_reach (F : Sq) : Con := fun xs h => match xs, h with
  | [.one (.sl none (.recs (.int .i64 (.int .i64 (.int .i64 .nil))) l)), .one (.val (.int .i64 f))], [] => some ⟨F.r_in l = true, .sa (.blob (.recs (.bool .nil) (F.r_rea l f))), [], [Any, Any]⟩
  | _, _ => none
set_option maxHeartbeats 4000000 in
set_option maxRecDepth 100000 in
theorem x_reach (l : List E) (f : Int) (hC : Sq.std.r_in l = true) : Does [(25, c_rnode EgR.Fs.std)] Try.f26 [.one (.sl none (.recs (.int .i64 (.int .i64 (.int .i64 .nil))) l)), .one (.val (.int .i64 f))] [] ⟨Sq.std.r_in l = true, .sa (.blob (.recs (.bool .nil) (Sq.std.r_rea l f))), [], [Any, Any]⟩ := by
  intro b gv
  have hk : inR l = true := hC
  have hfs := (FsOk.cons ok_rnode FsOk.nil rfl)
  generalize hF : Sq.std = F at hC hfs ⊢
  generalize hG0 : EgR.Fs.std = G0 at hC hfs ⊢
  generalize hA : Ar.std = A
  generalize hL : Lp _ _ _ = L
  obtain ⟨Z, zq⟩ := z_all
  refine @cd_open _ _ _ _ _ _ _ (lp_mono hL) _ _ zq rfl ?_
  repeat' (first
    | (refine z_open zq ?_; try dsimp only)
    | refine cd_seq zq ?_ (lp_mono hL)
    | refine cd_blk zq ?_
    | refine cd_ret ?_
    | refine cd_skip ?_
    | refine cd_exit ?_
    | refine cd_loop ?_
    | refine cd_cond rfl ?_
    | refine cd_condT rfl ?_
    | refine cd_condF rfl ?_
    | (refine Cd.mk ?_; cbv)
    | (refine Ends1.mk ?_; cbv)
    | (refine Fin1.mk ?_; cbv)
    | exact trivial
    | refine And.intro ?_ ?_
    | refine orf fun _ => ?_
    | refine ort fun _ => ?_)
  all_goals first | (show L _ _ _; skip) | (clear hfs hL zq Z; subst hA hF hG0; simp only [Sq.std, EgR.Fs.std, Ar.std] at * <;> grind [stdCmp, reaB, zer, nodB]; done)
  rename_i hx
  have hf : nodB f = true := by
    clear hfs hL zq Z
    subst hA hF hG0
    simp only [Sq.std, EgR.Fs.std, Ar.std] at *
    grind [stdCmp]
  clear hx
  subst hL
  refine loop_z (cx_ok hfs) (roQ l f) (roI A l) roM roR ⟨0, A.setE (A.repE 65 [D.bool false]) f [D.bool true]⟩ ?_ ?_ ?_
  · subst hA
    exact ⟨Int.le_refl 0, show (0 : Int) ≤ 64 by decide, rfl⟩
  · cbv
    repeat' (first | exact trivial | exact rfl | refine And.intro ?_ ?_)
  rintro ⟨k, M0⟩ hq O hO
  have q0 := hq.1
  have q1 := hq.2.1
  have q6 := ro_len hq
  have hen := fun h => ro_end hq h hf
  dsimp only at q0 q1
  subst hA
  generalize hA : Ar.std = A
  generalize hL : Lp _ _ _ = L
  refine cd_close zq ?_
  repeat' (first
    | (refine z_open zq ?_; try dsimp only)
    | refine cd_seq zq ?_ (lp_mono hL)
    | refine cd_blk zq ?_
    | refine cd_ret ?_
    | refine cd_skip ?_
    | refine cd_exit ?_
    | refine cd_loop ?_
    | refine cd_cond rfl ?_
    | refine cd_condT rfl ?_
    | refine cd_condF rfl ?_
    | (refine Cd.mk ?_; cbv)
    | (refine Ends1.mk ?_; cbv)
    | (refine Fin1.mk ?_; cbv)
    | exact trivial
    | refine And.intro ?_ ?_
    | refine orf fun _ => ?_
    | refine ort fun _ => ?_)
  all_goals first | (show L _ _ _; skip) | (clear hL hfs zq Z; subst hA hF hG0 hO; simp only [Sq.std, Ar.std] at * <;> grind [stdCmp]; done)
  rename_i hx
  have hi : k < 64 := by
    clear hfs hL zq Z hF hO
    subst hA
    simp only [Ar.std] at hx
    grind [stdCmp]
  clear hx hen
  subst hL
  refine loop_z (cx_ok hfs) (riQ l M0) (riI A l k) (riM l) riR ⟨0, M0⟩ ?_ ?_ ?_
  · exact ⟨Int.le_refl 0, Int.natCast_nonneg _, rfl⟩
  · cbv
    repeat' (first | exact trivial | exact rfl | refine And.intro ?_ ?_)
  rintro ⟨i, M⟩ hq2 O2 hO2
  have hst := ri_step hk q6 hq2
  have hen := ri_end hq hi hq2
  have k0 := hq2.1
  have k1 := hq2.2.1
  dsimp only at k0 k1
  subst hA
  generalize hA : Ar.std = A
  generalize hL : Lp _ _ _ = L
  refine cd_close zq ?_
  repeat' (first
    | (refine z_open zq ?_; try dsimp only)
    | refine cd_seq zq ?_ (lp_mono hL)
    | refine cd_blk zq ?_
    | refine cd_ret ?_
    | refine cd_skip ?_
    | refine cd_exit ?_
    | refine cd_loop ?_
    | refine cd_cond rfl ?_
    | refine cd_condT rfl ?_
    | refine cd_condF rfl ?_
    | (refine Cd.mk ?_; cbv)
    | (refine Ends1.mk ?_; cbv)
    | (refine Fin1.mk ?_; cbv)
    | exact trivial
    | refine And.intro ?_ ?_
    | refine orf fun _ => ?_
    | refine ort fun _ => ?_)
  all_goals (clear hL hfs zq Z hq2; subst hA hF hG0 hO hO2; simp only [Sq.std, Ar.std] at * <;> grind [stdCmp, roM, riM])
theorem ok_reach : ConOk Try.prog 26 (c_reach Sq.std) := by
  refine con_of (FsOk.cons ok_rnode FsOk.nil rfl) Try.func26 rfl rfl fun xs h p hp => ?_
  unfold c_reach at hp
  split at hp
  · cases hp
    exact ⟨lee_le rfl, fun hC _ => @x_reach _ _ hC⟩
  · cases hp

def c_rlinked (F : Sq) : Con := fun xs h => match xs, h with
  | [.one (.sl none (.recs (.int .i64 (.int .i64 (.int .i64 .nil))) l)), .one (.val (.int .i64 a)), .one (.val (.int .i64 d))], [] => some ⟨F.r_in l = true, .sa (B (F.r_lk l a d)), [], [Any, Any, Any]⟩
  | _, _ => none
set_option maxHeartbeats 4000000 in
set_option maxRecDepth 100000 in
theorem x_rlinked (l : List E) (a : Int) (d : Int) (hC : Sq.std.r_in l = true) : Does [(25, c_rnode EgR.Fs.std), (26, c_reach Sq.std)] Try.f9 [.one (.sl none (.recs (.int .i64 (.int .i64 (.int .i64 .nil))) l)), .one (.val (.int .i64 a)), .one (.val (.int .i64 d))] [] ⟨Sq.std.r_in l = true, .sa (B (Sq.std.r_lk l a d)), [], [Any, Any, Any]⟩ := by
  intro b gv
  have hr := rea_len l a
  have hfs := (FsOk.cons ok_rnode (FsOk.cons ok_reach FsOk.nil rfl) rfl)
  generalize hF : Sq.std = F at hC hfs ⊢
  generalize hG0 : EgR.Fs.std = G0 at hC hfs ⊢
  generalize hA : Ar.std = A
  generalize hL : Lp _ _ _ = L
  obtain ⟨Z, zq⟩ := z_all
  refine @cd_open _ _ _ _ _ _ _ (lp_mono hL) _ _ zq rfl ?_
  repeat' (first
    | (refine z_open zq ?_; try dsimp only)
    | refine cd_seq zq ?_ (lp_mono hL)
    | refine cd_blk zq ?_
    | refine cd_ret ?_
    | refine cd_skip ?_
    | refine cd_exit ?_
    | refine cd_loop ?_
    | refine cd_cond rfl ?_
    | refine cd_condT rfl ?_
    | refine cd_condF rfl ?_
    | (refine Cd.mk ?_; cbv)
    | (refine Ends1.mk ?_; cbv)
    | (refine Fin1.mk ?_; cbv)
    | exact trivial
    | refine And.intro ?_ ?_
    | refine orf fun _ => ?_
    | refine ort fun _ => ?_)
  all_goals
    clear hL zq Z hfs
    subst hA hF hG0
    simp only [Sq.std, EgR.Fs.std, Ar.std] at *
    try (grind [stdCmp, lkR, nodB])
theorem ok_rlinked : ConOk Try.prog 9 (c_rlinked Sq.std) := by
  refine con_of (FsOk.cons ok_rnode (FsOk.cons ok_reach FsOk.nil rfl) rfl) Try.func9 rfl rfl fun xs h p hp => ?_
  unfold c_rlinked at hp
  split at hp
  · cases hp
    exact ⟨lee_le rfl, fun hC _ => @x_rlinked _ _ _ hC⟩
  · cases hp

def c_rforest (F : Sq) : Con := fun xs h => match xs, h with
  | [.one (.sl none (.recs (.int .i64 (.int .i64 (.int .i64 .nil))) l))], [] => some ⟨F.r_in l = true, .sa (B (F.r_for l)), [], [Any]⟩
  | _, _ => none
def c_rless (F : Sq) : Con := fun xs h => match xs, h with
  | [.agg [.val (.int .i64 x_a), .val (.int .i64 x_b), .val (.int .i64 x_w)], .agg [.val (.int .i64 y_a), .val (.int .i64 y_b), .val (.int .i64 y_w)]], [] => some ⟨True, .sa (B (F.r_ls x_a x_b x_w y_a y_b y_w)), [], [Any, Any]⟩
  | _, _ => none
end Go.Proofs.Ytakebkfhigadiaa.SpQ
