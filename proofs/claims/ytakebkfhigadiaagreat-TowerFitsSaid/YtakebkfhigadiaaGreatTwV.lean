/-
  which views are alike. No condition.
-/
import Derived.Test.YtakebkfhigadiaaGreatViR
namespace Go.Proofs.YtakebkfhigadiaaGreat.TwV
open Go Go.Proofs.YtakebkfhigadiaaGreat.Ry Go.Proofs.YtakebkfhigadiaaGreat.Cmp Go.Proofs.YtakebkfhigadiaaGreat.ViR

theorem allz_step {n : Nat} {p : Nat → Bool} (_ : n ≤ 1000000000000000) {i : Int} (hq : allQ n p ⟨i⟩) (h : i < n) : allM n ⟨i + 1⟩ < allM n ⟨i⟩ ∧ (p i.toNat = true → allQ n p ⟨i + 1⟩) ∧ (p i.toNat = false → allL n p = false) := by
  obtain ⟨h0, h1, h2⟩ := hq
  simp only at h0 h1 h2
  refine ⟨by simp only [allM]; omega, fun g => ⟨by simp only; omega, by simp only; omega, fun j hj => ?_⟩, fun g => ?_⟩
  · simp only at hj
    by_cases e : j = i.toNat
    · rw [e]
      exact g
    · exact h2 j (by omega)
  · unfold allL
    rw [← Bool.not_eq_true, List.all_eq_true]
    intro w
    rw [w i.toNat (List.mem_range.2 (by omega))] at g
    cases g
theorem allz_num {n : Nat} {p : Nat → Bool} (hn : n ≤ 1000000000000000) {i : Int} (hq : allQ n p ⟨i⟩) : stdBin .add .i64 i 1 = i + 1 ∧ stdBin .sub .i64 i 1 = i - 1 := by
  obtain ⟨h0, h1, _⟩ := hq
  simp only at h0 h1
  exact ⟨by rw [b_add, wr _ (by omega) (by omega)], by rw [b_sub, wr _ (by omega) (by omega)]⟩
def kT (y : E) : Int × Int × Int × Int × Bool := (ri y 0, ri y 1, ri y 2, ri y 3, rb y 4)
def sameK (p q : List E) : Bool := decide (p.map kT = q.map kT)
def sameI (p q : List Int) : Bool := decide (p = q)
def sameV (n : List Int) (l : List E) (n' : List Int) (l' : List E) : Bool := sameI n n' && sameK l l'
def eI (p q : List Int) (j : Nat) : Bool := decide (p.getD j 0 = q.getD j 0)
def eK (p q : List E) (j : Nat) : Bool := decide (kT (p.getD j []) = kT (q.getD j []))
theorem eI_all {p q : List Int} (h : p.length = q.length) : allL p.length (eI p q) = sameI p q := by
  rw [Bool.eq_iff_iff, all_iff]
  unfold eI sameI
  simp only [decide_eq_true_eq]
  constructor
  · intro g
    refine List.ext_getElem h fun i h1 h2 => ?_
    have := g i h1
    rw [at_list _ _ h1, at_list _ _ h2] at this
    exact this
  · intro g
    rw [g]
    exact fun _ _ => rfl
theorem eK_all {p q : List E} (h : p.length = q.length) : allL p.length (eK p q) = sameK p q := by
  rw [Bool.eq_iff_iff, all_iff]
  unfold eK sameK
  simp only [decide_eq_true_eq]
  constructor
  · intro g
    refine List.ext_getElem (by rw [List.length_map, List.length_map, h]) fun i h1 h2 => ?_
    rw [List.length_map] at h1 h2
    have := g i h1
    rw [at_rec _ _ h1, at_rec _ _ h2] at this
    rw [List.getElem_map, List.getElem_map]
    exact this
  · intro g i hi
    have := congrArg (fun l => l[i]?) g
    simp only [List.getElem?_map, List.getElem?_eq_getElem hi, List.getElem?_eq_getElem (show i < q.length by omega), Option.map_some, Option.some.injEq] at this
    rw [at_rec _ _ hi, at_rec _ _ (show i < q.length by omega)]
    exact this
theorem nI {p q : List Int} (h : ¬ p.length = q.length) : sameI p q = false := decide_eq_false fun w => h (by rw [w])
theorem nK {p q : List E} (h : ¬ p.length = q.length) : sameK p q = false := decide_eq_false fun w => h (by have := congrArg List.length w; simpa using this)
theorem eK_is (p q : List E) (j : Nat) : eK p q j = decide (ri (p.getD j []) 0 = ri (q.getD j []) 0 ∧ ri (p.getD j []) 1 = ri (q.getD j []) 1 ∧ ri (p.getD j []) 2 = ri (q.getD j []) 2 ∧ ri (p.getD j []) 3 = ri (q.getD j []) 3 ∧ rb (p.getD j []) 4 = rb (q.getD j []) 4) := by
  unfold eK kT
  simp only [Prod.mk.injEq]
noncomputable def s1I (A : Ar) (p q : List Int) (y : XI) : St := stOf Tryz.f171.ntmps [(0, .sl none (.ints .i64 p)), (1, .sl none (.ints .i64 q)), (12, .val (.int .i64 (A.lenI p))), (13, .val (.int .i64 y.i))] [] [Any, Any]
noncomputable def s2I (A : Ar) (p q : List E) (y : XI) : St := stOf Tryz.f172.ntmps [(0, .sl none (.recs (.int .i64 (.int .i64 (.int .i64 (.int .i64 (.bool .nil))))) p)), (1, .sl none (.recs (.int .i64 (.int .i64 (.int .i64 (.int .i64 (.bool .nil))))) q)), (12, .val (.int .i64 (A.lenE p))), (13, .val (.int .i64 y.i))] [] [Any, Any]
noncomputable def s3I (_ : Ar) (p q : List Int) (y : XI) : St := stOf Tryz.f173.ntmps [(0, .sl none (.ints .i64 p)), (1, .sl none (.ints .i64 q)), (5, .val (.int .i64 y.i))] [] [Any, Any]
noncomputable def s4I (_ : Ar) (p q : List E) (y : XI) : St := stOf Tryz.f174.ntmps [(0, .sl none (.recs (.int .i64 (.int .i64 (.int .i64 (.int .i64 (.bool .nil))))) p)), (1, .sl none (.recs (.int .i64 (.int .i64 (.int .i64 (.int .i64 (.bool .nil))))) q)), (5, .val (.int .i64 y.i))] [] [Any, Any]

structure Vq where
  q_i : List Int → List Int → Bool
  q_k : List E → List E → Bool
  q_v : List Int → List E → List Int → List E → Bool
  q_oi : List Int → List Int → Bool
  q_ok : List E → List E → Bool
  q_ov : List Int → List E → List Int → List E → Bool
def Vq.std : Vq := ⟨sameI, sameK, sameV, fun p q => decide (p.length ≤ 1000000000000000 ∧ q.length ≤ 1000000000000000), fun p q => decide (p.length ≤ 1000000000000000 ∧ q.length ≤ 1000000000000000), fun n l n2 l2 => decide (n.length ≤ 1000000000000000 ∧ n2.length ≤ 1000000000000000 ∧ l.length ≤ 1000000000000000 ∧ l2.length ≤ 1000000000000000)⟩

def c_eqi (F : Vq) : Con := fun xs h => match xs, h with
  | [.one (.sl none (.ints .i64 p)), .one (.sl none (.ints .i64 q))], [] => some ⟨F.q_oi p q = true, .sa (B (F.q_i p q)), [], [Any, Any]⟩
  | _, _ => none
set_option maxHeartbeats 4000000 in
set_option maxRecDepth 100000 in
theorem x_eqi (p : List Int) (q : List Int) (hC : Vq.std.q_oi p q = true) : Does [] Tryz.f171 [.one (.sl none (.ints .i64 p)), .one (.sl none (.ints .i64 q))] [] ⟨Vq.std.q_oi p q = true, .sa (B (Vq.std.q_i p q)), [], [Any, Any]⟩ := by
  intro b gv
  have hk : p.length ≤ 1000000000000000 ∧ q.length ≤ 1000000000000000 := of_decide_eq_true (show decide (p.length ≤ 1000000000000000 ∧ q.length ≤ 1000000000000000) = true from hC)
  have hne := fun h => nI (p := p) (q := q) h
  generalize hF : Vq.std = F at hC ⊢
  generalize hA : Ar.std = A
  generalize hL : Lp _ _ _ = L
  obtain ⟨Z, zq⟩ := z_all
  refine cd_open (lp_mono hL) zq rfl ?_
  repeat' (first
    | (refine z_open zq ?_; try dsimp only)
    | refine cd_seq zq ?_ (lp_mono hL)
    | refine cd_blk zq ?_
    | refine cd_ret ?_
    | refine cd_skip ?_
    | refine cd_exit ?_
    | refine cd_loop ?_
    | refine cd_cond rfl ?_
    | refine cd_condT rfl ?_
    | refine cd_condF rfl ?_
    | (refine Cd.mk ?_; cbv)
    | (refine Ends1.mk ?_; cbv)
    | (refine Fin1.mk ?_; cbv)
    | exact trivial
    | refine And.intro ?_ ?_
    | refine orf fun _ => ?_
    | refine ort fun _ => ?_)
  all_goals first | (show L _ _ _; skip) | (clear hL zq Z; subst hA hF; simp only [Vq.std, Ar.std] at *; grind [stdCmp]; done)
  rename_i hx
  have hl : p.length = q.length := by
    clear hL zq Z hF
    subst hA
    simp only [Ar.std] at hx
    grind [stdCmp]
  clear hx
  have hal := eI_all hl
  subst hL
  refine loop_z (cx_ok FsOk.nil) (allQ p.length (eI p q)) (s1I A p q) (allM p.length) (iR 13) ⟨0⟩ ?_ ?_ ?_
  · exact all_zero _ _
  · cbv
    repeat' (first | exact trivial | exact rfl | refine And.intro ?_ ?_)
  rintro ⟨i⟩ hq O hO
  obtain ⟨e1, _⟩ := allz_num hk.1 hq
  have hst := fun h => allz_step hk.1 hq h
  have hen := fun h => all_end hq h
  have q0 := hq.1
  have q1 := hq.2.1
  dsimp only at q0 q1 hst
  have hz : eI p q i.toNat = decide (p.getD i.toNat 0 = q.getD i.toNat 0) := rfl
  subst hA
  generalize hA : Ar.std = A
  generalize hL : Lp _ _ _ = L
  refine cd_close zq ?_
  repeat' (first
    | (refine z_open zq ?_; try dsimp only)
    | refine cd_seq zq ?_ (lp_mono hL)
    | refine cd_blk zq ?_
    | refine cd_ret ?_
    | refine cd_skip ?_
    | refine cd_exit ?_
    | refine cd_loop ?_
    | refine cd_cond rfl ?_
    | refine cd_condT rfl ?_
    | refine cd_condF rfl ?_
    | (refine Cd.mk ?_; cbv)
    | (refine Ends1.mk ?_; cbv)
    | (refine Fin1.mk ?_; cbv)
    | exact trivial
    | refine And.intro ?_ ?_
    | refine orf fun _ => ?_
    | refine ort fun _ => ?_)
  all_goals (clear hL zq Z hq; subst hA hF hO; simp only [Vq.std, Ar.std] at * <;> grind [stdCmp])
theorem ok_eqi : ConOk Tryz.prog 171 (c_eqi Vq.std) := by
  refine con_of FsOk.nil Tryz.func171 rfl rfl fun xs h p hp => ?_
  unfold c_eqi at hp
  split at hp
  · cases hp
    exact ⟨lee_le rfl, fun hC _ => x_eqi _ _ hC⟩
  · cases hp

def c_eqk (F : Vq) : Con := fun xs h => match xs, h with
  | [.one (.sl none (.recs (.int .i64 (.int .i64 (.int .i64 (.int .i64 (.bool .nil))))) p)), .one (.sl none (.recs (.int .i64 (.int .i64 (.int .i64 (.int .i64 (.bool .nil))))) q))], [] => some ⟨F.q_ok p q = true, .sa (B (F.q_k p q)), [], [Any, Any]⟩
  | _, _ => none
set_option maxHeartbeats 4000000 in
set_option maxRecDepth 100000 in
theorem x_eqk (p : List E) (q : List E) (hC : Vq.std.q_ok p q = true) : Does [] Tryz.f172 [.one (.sl none (.recs (.int .i64 (.int .i64 (.int .i64 (.int .i64 (.bool .nil))))) p)), .one (.sl none (.recs (.int .i64 (.int .i64 (.int .i64 (.int .i64 (.bool .nil))))) q))] [] ⟨Vq.std.q_ok p q = true, .sa (B (Vq.std.q_k p q)), [], [Any, Any]⟩ := by
  intro b gv
  have hk : p.length ≤ 1000000000000000 ∧ q.length ≤ 1000000000000000 := of_decide_eq_true (show decide (p.length ≤ 1000000000000000 ∧ q.length ≤ 1000000000000000) = true from hC)
  have hne := fun h => nK (p := p) (q := q) h
  generalize hF : Vq.std = F at hC ⊢
  generalize hA : Ar.std = A
  generalize hL : Lp _ _ _ = L
  obtain ⟨Z, zq⟩ := z_all
  refine cd_open (lp_mono hL) zq rfl ?_
  repeat' (first
    | (refine z_open zq ?_; try dsimp only)
    | refine cd_seq zq ?_ (lp_mono hL)
    | refine cd_blk zq ?_
    | refine cd_ret ?_
    | refine cd_skip ?_
    | refine cd_exit ?_
    | refine cd_loop ?_
    | refine cd_cond rfl ?_
    | refine cd_condT rfl ?_
    | refine cd_condF rfl ?_
    | (refine Cd.mk ?_; cbv)
    | (refine Ends1.mk ?_; cbv)
    | (refine Fin1.mk ?_; cbv)
    | exact trivial
    | refine And.intro ?_ ?_
    | refine orf fun _ => ?_
    | refine ort fun _ => ?_)
  all_goals first | (show L _ _ _; skip) | (clear hL zq Z; subst hA hF; simp only [Vq.std, Ar.std] at *; grind [stdCmp]; done)
  rename_i hx
  have hl : p.length = q.length := by
    clear hL zq Z hF
    subst hA
    simp only [Ar.std] at hx
    grind [stdCmp]
  clear hx
  have hal := eK_all hl
  subst hL
  refine loop_z (cx_ok FsOk.nil) (allQ p.length (eK p q)) (s2I A p q) (allM p.length) (iR 13) ⟨0⟩ ?_ ?_ ?_
  · exact all_zero _ _
  · cbv
    repeat' (first | exact trivial | exact rfl | refine And.intro ?_ ?_)
  rintro ⟨i⟩ hq O hO
  obtain ⟨e1, _⟩ := allz_num hk.1 hq
  have hst := fun h => allz_step hk.1 hq h
  have hen := fun h => all_end hq h
  have q0 := hq.1
  have q1 := hq.2.1
  dsimp only at q0 q1 hst
  have hz := eK_is p q i.toNat
  subst hA
  generalize hA : Ar.std = A
  generalize hL : Lp _ _ _ = L
  refine cd_close zq ?_
  repeat' (first
    | (refine z_open zq ?_; try dsimp only)
    | refine cd_seq zq ?_ (lp_mono hL)
    | refine cd_blk zq ?_
    | refine cd_ret ?_
    | refine cd_skip ?_
    | refine cd_exit ?_
    | refine cd_loop ?_
    | refine cd_cond rfl ?_
    | refine cd_condT rfl ?_
    | refine cd_condF rfl ?_
    | (refine Cd.mk ?_; cbv)
    | (refine Ends1.mk ?_; cbv)
    | (refine Fin1.mk ?_; cbv)
    | exact trivial
    | refine And.intro ?_ ?_
    | refine orf fun _ => ?_
    | refine ort fun _ => ?_)
  all_goals (clear hL zq Z hq; subst hA hF hO; simp only [Vq.std, Ar.std] at * <;> grind [stdCmp])
theorem ok_eqk : ConOk Tryz.prog 172 (c_eqk Vq.std) := by
  refine con_of FsOk.nil Tryz.func172 rfl rfl fun xs h p hp => ?_
  unfold c_eqk at hp
  split at hp
  · cases hp
    exact ⟨lee_le rfl, fun hC _ => x_eqk _ _ hC⟩
  · cases hp

def c_rints (F : Vq) : Con := fun xs h => match xs, h with
  | [.one (.sl none (.ints .i64 p)), .one (.sl none (.ints .i64 q))], [] => some ⟨F.q_oi p q = true, .sa (B (F.q_i p q)), [], [Any, Any]⟩
  | _, _ => none
set_option maxHeartbeats 4000000 in
set_option maxRecDepth 100000 in
theorem x_rints (p : List Int) (q : List Int) (hC : Vq.std.q_oi p q = true) : Does [] Tryz.f173 [.one (.sl none (.ints .i64 p)), .one (.sl none (.ints .i64 q))] [] ⟨Vq.std.q_oi p q = true, .sa (B (Vq.std.q_i p q)), [], [Any, Any]⟩ := by
  intro b gv
  have hk : p.length ≤ 1000000000000000 ∧ q.length ≤ 1000000000000000 := of_decide_eq_true (show decide (p.length ≤ 1000000000000000 ∧ q.length ≤ 1000000000000000) = true from hC)
  have hne := fun h => nI (p := p) (q := q) h
  generalize hF : Vq.std = F at hC ⊢
  generalize hA : Ar.std = A
  generalize hL : Lp _ _ _ = L
  obtain ⟨Z, zq⟩ := z_all
  refine cd_open (lp_mono hL) zq rfl ?_
  repeat' (first
    | (refine z_open zq ?_; try dsimp only)
    | refine cd_seq zq ?_ (lp_mono hL)
    | refine cd_blk zq ?_
    | refine cd_ret ?_
    | refine cd_skip ?_
    | refine cd_exit ?_
    | refine cd_loop ?_
    | refine cd_cond rfl ?_
    | refine cd_condT rfl ?_
    | refine cd_condF rfl ?_
    | (refine Cd.mk ?_; cbv)
    | (refine Ends1.mk ?_; cbv)
    | (refine Fin1.mk ?_; cbv)
    | exact trivial
    | refine And.intro ?_ ?_
    | refine orf fun _ => ?_
    | refine ort fun _ => ?_)
  all_goals first | (show L _ _ _; skip) | (clear hL zq Z; subst hA hF; simp only [Vq.std, Ar.std] at *; grind [stdCmp]; done)
  rename_i hx
  have hl : p.length = q.length := by
    clear hL zq Z hF
    subst hA
    simp only [Ar.std] at hx
    grind [stdCmp]
  clear hx
  have hal := eI_all hl
  subst hL
  refine loop_z (cx_ok FsOk.nil) (allQ p.length (eI p q)) (s3I A p q) (allM p.length) (iR 5) ⟨0⟩ ?_ ?_ ?_
  · exact all_zero _ _
  · cbv
    repeat' (first | exact trivial | exact rfl | refine And.intro ?_ ?_)
  rintro ⟨i⟩ hq O hO
  obtain ⟨e1, _⟩ := allz_num hk.1 hq
  have hst := fun h => allz_step hk.1 hq h
  have hen := fun h => all_end hq h
  have q0 := hq.1
  have q1 := hq.2.1
  dsimp only at q0 q1 hst
  have hz : eI p q i.toNat = decide (p.getD i.toNat 0 = q.getD i.toNat 0) := rfl
  subst hA
  generalize hA : Ar.std = A
  generalize hL : Lp _ _ _ = L
  refine cd_close zq ?_
  repeat' (first
    | (refine z_open zq ?_; try dsimp only)
    | refine cd_seq zq ?_ (lp_mono hL)
    | refine cd_blk zq ?_
    | refine cd_ret ?_
    | refine cd_skip ?_
    | refine cd_exit ?_
    | refine cd_loop ?_
    | refine cd_cond rfl ?_
    | refine cd_condT rfl ?_
    | refine cd_condF rfl ?_
    | (refine Cd.mk ?_; cbv)
    | (refine Ends1.mk ?_; cbv)
    | (refine Fin1.mk ?_; cbv)
    | exact trivial
    | refine And.intro ?_ ?_
    | refine orf fun _ => ?_
    | refine ort fun _ => ?_)
  all_goals (clear hL zq Z hq; subst hA hF hO; simp only [Vq.std, Ar.std] at * <;> grind [stdCmp])
theorem ok_rints : ConOk Tryz.prog 173 (c_rints Vq.std) := by
  refine con_of FsOk.nil Tryz.func173 rfl rfl fun xs h p hp => ?_
  unfold c_rints at hp
  split at hp
  · cases hp
    exact ⟨lee_le rfl, fun hC _ => x_rints _ _ hC⟩
  · cases hp

def c_rlinks (F : Vq) : Con := fun xs h => match xs, h with
  | [.one (.sl none (.recs (.int .i64 (.int .i64 (.int .i64 (.int .i64 (.bool .nil))))) p)), .one (.sl none (.recs (.int .i64 (.int .i64 (.int .i64 (.int .i64 (.bool .nil))))) q))], [] => some ⟨F.q_ok p q = true, .sa (B (F.q_k p q)), [], [Any, Any]⟩
  | _, _ => none
set_option maxHeartbeats 4000000 in
set_option maxRecDepth 100000 in
theorem x_rlinks (p : List E) (q : List E) (hC : Vq.std.q_ok p q = true) : Does [] Tryz.f174 [.one (.sl none (.recs (.int .i64 (.int .i64 (.int .i64 (.int .i64 (.bool .nil))))) p)), .one (.sl none (.recs (.int .i64 (.int .i64 (.int .i64 (.int .i64 (.bool .nil))))) q))] [] ⟨Vq.std.q_ok p q = true, .sa (B (Vq.std.q_k p q)), [], [Any, Any]⟩ := by
  intro b gv
  have hk : p.length ≤ 1000000000000000 ∧ q.length ≤ 1000000000000000 := of_decide_eq_true (show decide (p.length ≤ 1000000000000000 ∧ q.length ≤ 1000000000000000) = true from hC)
  have hne := fun h => nK (p := p) (q := q) h
  generalize hF : Vq.std = F at hC ⊢
  generalize hA : Ar.std = A
  generalize hL : Lp _ _ _ = L
  obtain ⟨Z, zq⟩ := z_all
  refine cd_open (lp_mono hL) zq rfl ?_
  repeat' (first
    | (refine z_open zq ?_; try dsimp only)
    | refine cd_seq zq ?_ (lp_mono hL)
    | refine cd_blk zq ?_
    | refine cd_ret ?_
    | refine cd_skip ?_
    | refine cd_exit ?_
    | refine cd_loop ?_
    | refine cd_cond rfl ?_
    | refine cd_condT rfl ?_
    | refine cd_condF rfl ?_
    | (refine Cd.mk ?_; cbv)
    | (refine Ends1.mk ?_; cbv)
    | (refine Fin1.mk ?_; cbv)
    | exact trivial
    | refine And.intro ?_ ?_
    | refine orf fun _ => ?_
    | refine ort fun _ => ?_)
  all_goals first | (show L _ _ _; skip) | (clear hL zq Z; subst hA hF; simp only [Vq.std, Ar.std] at *; grind [stdCmp]; done)
  rename_i hx
  have hl : p.length = q.length := by
    clear hL zq Z hF
    subst hA
    simp only [Ar.std] at hx
    grind [stdCmp]
  clear hx
  have hal := eK_all hl
  subst hL
  refine loop_z (cx_ok FsOk.nil) (allQ p.length (eK p q)) (s4I A p q) (allM p.length) (iR 5) ⟨0⟩ ?_ ?_ ?_
  · exact all_zero _ _
  · cbv
    repeat' (first | exact trivial | exact rfl | refine And.intro ?_ ?_)
  rintro ⟨i⟩ hq O hO
  obtain ⟨e1, _⟩ := allz_num hk.1 hq
  have hst := fun h => allz_step hk.1 hq h
  have hen := fun h => all_end hq h
  have q0 := hq.1
  have q1 := hq.2.1
  dsimp only at q0 q1 hst
  have hz := eK_is p q i.toNat
  subst hA
  generalize hA : Ar.std = A
  generalize hL : Lp _ _ _ = L
  refine cd_close zq ?_
  repeat' (first
    | (refine z_open zq ?_; try dsimp only)
    | refine cd_seq zq ?_ (lp_mono hL)
    | refine cd_blk zq ?_
    | refine cd_ret ?_
    | refine cd_skip ?_
    | refine cd_exit ?_
    | refine cd_loop ?_
    | refine cd_cond rfl ?_
    | refine cd_condT rfl ?_
    | refine cd_condF rfl ?_
    | (refine Cd.mk ?_; cbv)
    | (refine Ends1.mk ?_; cbv)
    | (refine Fin1.mk ?_; cbv)
    | exact trivial
    | refine And.intro ?_ ?_
    | refine orf fun _ => ?_
    | refine ort fun _ => ?_)
  all_goals (clear hL zq Z hq; subst hA hF hO; simp only [Vq.std, Ar.std] at * <;> grind [stdCmp])
theorem ok_rlinks : ConOk Tryz.prog 174 (c_rlinks Vq.std) := by
  refine con_of FsOk.nil Tryz.func174 rfl rfl fun xs h p hp => ?_
  unfold c_rlinks at hp
  split at hp
  · cases hp
    exact ⟨lee_le rfl, fun hC _ => x_rlinks _ _ hC⟩
  · cases hp

def c_vsame (F : Vq) : Con := fun xs h => match xs, h with
  | [.agg [.sl none (.ints .i64 v_n), .sl none (.recs (.int .i64 (.int .i64 (.int .i64 (.int .i64 (.bool .nil))))) v_l)], .agg [.sl none (.ints .i64 u_n), .sl none (.recs (.int .i64 (.int .i64 (.int .i64 (.int .i64 (.bool .nil))))) u_l)]], [] => some ⟨F.q_ov v_n v_l u_n u_l = true, .sa (B (F.q_v v_n v_l u_n u_l)), [], [Any, Any]⟩
  | _, _ => none
set_option maxHeartbeats 4000000 in
set_option maxRecDepth 100000 in
theorem x_vsame (v_n : List Int) (v_l : List E) (u_n : List Int) (u_l : List E) (hC : Vq.std.q_ov v_n v_l u_n u_l = true) : Does [(171, c_eqi Vq.std), (172, c_eqk Vq.std)] Tryz.f121 [.agg [.sl none (.ints .i64 v_n), .sl none (.recs (.int .i64 (.int .i64 (.int .i64 (.int .i64 (.bool .nil))))) v_l)], .agg [.sl none (.ints .i64 u_n), .sl none (.recs (.int .i64 (.int .i64 (.int .i64 (.int .i64 (.bool .nil))))) u_l)]] [] ⟨Vq.std.q_ov v_n v_l u_n u_l = true, .sa (B (Vq.std.q_v v_n v_l u_n u_l)), [], [Any, Any]⟩ := by
  intro b gv
  have hfs := (FsOk.cons ok_eqi (FsOk.cons ok_eqk FsOk.nil rfl) rfl)
  generalize hF : Vq.std = F at hC hfs ⊢
  generalize hA : Ar.std = A
  generalize hL : Lp _ _ _ = L
  obtain ⟨Z, zq⟩ := z_all
  refine cd_open (lp_mono hL) zq rfl ?_
  repeat' (first
    | (refine z_open zq ?_; try dsimp only)
    | refine cd_seq zq ?_ (lp_mono hL)
    | refine cd_blk zq ?_
    | refine cd_ret ?_
    | refine cd_skip ?_
    | refine cd_exit ?_
    | refine cd_loop ?_
    | refine cd_cond rfl ?_
    | refine cd_condT rfl ?_
    | refine cd_condF rfl ?_
    | (refine Cd.mk ?_; cbv)
    | (refine Ends1.mk ?_; cbv)
    | (refine Fin1.mk ?_; cbv)
    | exact trivial
    | refine And.intro ?_ ?_
    | refine orf fun _ => ?_
    | refine ort fun _ => ?_)
  all_goals
    clear hL zq Z
    try clear hfs
    subst hA hF
    simp only [Vq.std, Ar.std] at *
    try (grind [stdCmp, sameV])
theorem ok_vsame : ConOk Tryz.prog 121 (c_vsame Vq.std) := by
  refine con_of (FsOk.cons ok_eqi (FsOk.cons ok_eqk FsOk.nil rfl) rfl) Tryz.func121 rfl rfl fun xs h p hp => ?_
  unfold c_vsame at hp
  split at hp
  · cases hp
    exact ⟨lee_le rfl, fun hC _ => x_vsame _ _ _ _ hC⟩
  · cases hp

def c_rvsame (F : Vq) : Con := fun xs h => match xs, h with
  | [.agg [.sl none (.ints .i64 v_n), .sl none (.recs (.int .i64 (.int .i64 (.int .i64 (.int .i64 (.bool .nil))))) v_l)], .agg [.sl none (.ints .i64 u_n), .sl none (.recs (.int .i64 (.int .i64 (.int .i64 (.int .i64 (.bool .nil))))) u_l)]], [] => some ⟨F.q_ov v_n v_l u_n u_l = true, .sa (B (F.q_v v_n v_l u_n u_l)), [], [Any, Any]⟩
  | _, _ => none
set_option maxHeartbeats 4000000 in
set_option maxRecDepth 100000 in
theorem x_rvsame (v_n : List Int) (v_l : List E) (u_n : List Int) (u_l : List E) (hC : Vq.std.q_ov v_n v_l u_n u_l = true) : Does [(173, c_rints Vq.std), (174, c_rlinks Vq.std)] Tryz.f122 [.agg [.sl none (.ints .i64 v_n), .sl none (.recs (.int .i64 (.int .i64 (.int .i64 (.int .i64 (.bool .nil))))) v_l)], .agg [.sl none (.ints .i64 u_n), .sl none (.recs (.int .i64 (.int .i64 (.int .i64 (.int .i64 (.bool .nil))))) u_l)]] [] ⟨Vq.std.q_ov v_n v_l u_n u_l = true, .sa (B (Vq.std.q_v v_n v_l u_n u_l)), [], [Any, Any]⟩ := by
  intro b gv
  have hfs := (FsOk.cons ok_rints (FsOk.cons ok_rlinks FsOk.nil rfl) rfl)
  generalize hF : Vq.std = F at hC hfs ⊢
  generalize hA : Ar.std = A
  generalize hL : Lp _ _ _ = L
  obtain ⟨Z, zq⟩ := z_all
  refine cd_open (lp_mono hL) zq rfl ?_
  repeat' (first
    | (refine z_open zq ?_; try dsimp only)
    | refine cd_seq zq ?_ (lp_mono hL)
    | refine cd_blk zq ?_
    | refine cd_ret ?_
    | refine cd_skip ?_
    | refine cd_exit ?_
    | refine cd_loop ?_
    | refine cd_cond rfl ?_
    | refine cd_condT rfl ?_
    | refine cd_condF rfl ?_
    | (refine Cd.mk ?_; cbv)
    | (refine Ends1.mk ?_; cbv)
    | (refine Fin1.mk ?_; cbv)
    | exact trivial
    | refine And.intro ?_ ?_
    | refine orf fun _ => ?_
    | refine ort fun _ => ?_)
  all_goals
    clear hL zq Z
    try clear hfs
    subst hA hF
    simp only [Vq.std, Ar.std] at *
    try (grind [stdCmp, sameV])
theorem ok_rvsame : ConOk Tryz.prog 122 (c_rvsame Vq.std) := by
  refine con_of (FsOk.cons ok_rints (FsOk.cons ok_rlinks FsOk.nil rfl) rfl) Tryz.func122 rfl rfl fun xs h p hp => ?_
  unfold c_rvsame at hp
  split at hp
  · cases hp
    exact ⟨lee_le rfl, fun hC _ => x_rvsame _ _ _ _ hC⟩
  · cases hp
end Go.Proofs.YtakebkfhigadiaaGreat.TwV
