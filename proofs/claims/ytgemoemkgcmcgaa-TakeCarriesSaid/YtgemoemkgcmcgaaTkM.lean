/-
  what is carried in any weather, by the code. No condition.
-/
import Derived.Test.YtgemoemkgcmcgaaTkR
import Derived.Test.YtgemoemkgcmcgaaRyOp
namespace Go.Proofs.Ytgemoemkgcmcgaa.TkM
open Go Go.Proofs.Ytgemoemkgcmcgaa.Ry Go.Proofs.Ytgemoemkgcmcgaa.SeR Go.Proofs.Ytgemoemkgcmcgaa.SeS Go.Proofs.Ytgemoemkgcmcgaa.SeU Go.Proofs.Ytgemoemkgcmcgaa.SeL Go.Proofs.Ytgemoemkgcmcgaa.SeV Go.Proofs.Ytgemoemkgcmcgaa.TkR

def smB (l : List E) : Bool := decide (l.length ≤ 64 ∧ ∀ y ∈ l, (rl y 0).length ≤ 64)
structure XI where
  i : Int
def tQ (l : List E) (y : XI) : Prop := 0 ≤ y.i ∧ y.i ≤ l.length ∧ ∀ z ∈ l.take y.i.toNat, (rl z 0).length ≤ 64
noncomputable def tI (A : Ar) (l : List E) (y : XI) : St := stOf Try.f70.ntmps [(0, .sl none (.recs (.ints .u8 .nil) l)), (5, .sl none (.recs (.ints .u8 .nil) l)), (6, .val (.int .i64 (A.lenE l))), (7, .val (.int .i64 y.i))] [] [Any]
def tM (l : List E) (y : XI) : Nat := l.length - y.i.toNat
def tR (st : St) : XI := ⟨slotI st 7⟩
theorem t_zero (l : List E) : tQ l ⟨0⟩ := ⟨Int.le_refl 0, Int.natCast_nonneg _, fun y h => by cases h⟩
theorem t_all {l : List E} {i : Int} (hl : l.length ≤ 140737488355328) (hq : tQ l ⟨i⟩) : 0 ≤ i ∧ i ≤ l.length ∧ (i < l.length → stdBin .add .i64 i 1 = i + 1 ∧ tM l ⟨i + 1⟩ < tM l ⟨i⟩ ∧ ((rl (l.getD i.toNat []) 0).length ≤ 64 → tQ l ⟨i + 1⟩) ∧ (¬ (rl (l.getD i.toNat []) 0).length ≤ 64 → smB l = false)) ∧ (¬ i < l.length → smB l = decide (l.length ≤ 64)) := by
  obtain ⟨h0, h1, h2⟩ := hq
  simp only at h0 h1 h2
  refine ⟨h0, h1, fun h => ⟨by rw [b_add, wr _ (by omega) (by omega)], by simp only [tM]; omega, fun g => ⟨by simp only; omega, by simp only; omega, fun y hy => ?_⟩, fun g => decide_eq_false fun w => g (w.2 _ (pl_mem h0 h))⟩, fun h => ?_⟩
  · rw [take_next l i h0 h] at hy
    rcases List.mem_append.1 hy with hy | hy
    · exact h2 y hy
    · rw [List.mem_singleton] at hy
      rw [hy]
      exact g
  · rw [List.take_of_length_le (by omega)] at h2
    unfold smB
    by_cases g : l.length ≤ 64
    · rw [decide_eq_true g, decide_eq_true ⟨g, h2⟩]
    · rw [decide_eq_false g, decide_eq_false (fun w => g w.1)]
/-- What is carried. -/
def c00 (l : List E) : CR := ⟨0, 0, nq l, 0, 0, false, [], [], []⟩
def lgB (l w : List E) : Bool := smB l && decide (w.length ≤ 1000)
def runC (l w : List E) : CR := w.foldl (fun d y => doC (ri y 0) (ri y 1) (ri y 3) d) (c00 l)
def crO (l w : List E) : List E := if lgB l w = true then (runC l w).ou else []
def crN (l w : List E) : Int := if lgB l w = true then (runC l w).q.length else 0
def crE (l w : List E) : Int := if lgB l w = true then 0 else 3
theorem lg_is {l w : List E} (h1 : smB l = true) (h2 : w.length ≤ 1000) : lgB l w = true ∧ crO l w = (runC l w).ou ∧ crN l w = (runC l w).q.length ∧ crE l w = 0 := by
  have h : lgB l w = true := by
    unfold lgB
    rw [h1, decide_eq_true h2]
    rfl
  exact ⟨h, if_pos h, if_pos h, if_pos h⟩
theorem lg_not {l w : List E} (h : smB l = false ∨ ¬ w.length ≤ 1000) : lgB l w = false ∧ crO l w = [] ∧ crN l w = 0 ∧ crE l w = 3 := by
  have g : lgB l w = false := by
    unfold lgB
    rcases h with h | h
    · rw [h]; rfl
    · rw [decide_eq_false h, Bool.and_false]
  have g2 : ¬ lgB l w = true := by rw [g]; decide
  exact ⟨g, if_neg g2, if_neg g2, if_neg g2⟩
structure XP where
  i : Int
  q : List E
def pQ (l : List E) (y : XP) : Prop := 0 ≤ y.i ∧ y.i ≤ l.length ∧ y.q = nq (l.take y.i.toNat)
noncomputable def pI (A : Ar) (l w : List E) (y : XP) : St := stOf Try.f22.ntmps [(1, .sl none (.recs (.int .i64 (.int .i64 (.int .i64 (.int .i64 (.int .i64 .nil))))) w)), (7, .ptr 1 0), (19, .sl none (.recs (.ints .u8 .nil) l)), (20, .val (.int .i64 (A.lenE l))), (21, .val (.int .i64 y.i))] [(1, .cells 147 [.val (.int .i64 0), .val (.int .i64 0), .sl none (.recs (.ints .u8 .nil) y.q), .val (.int .i64 0), .val (.int .i64 0), .val (.bool false), .val (.slice none 0 0), .val (.slice none 0 0), .val (.slice none 0 0)])] [Any, Any]
def pM (l : List E) (y : XP) : Nat := l.length - y.i.toNat
def pR (st : St) : XP := ⟨slotI st 21, valR st.heap (cellC st 7 2)⟩
theorem p_zero (l : List E) : pQ l ⟨0, []⟩ := ⟨Int.le_refl 0, Int.natCast_nonneg _, rfl⟩
theorem sm_is {l : List E} (h : smB l = true) : l.length ≤ 64 ∧ ∀ y ∈ l, (rl y 0).length ≤ 64 := of_decide_eq_true h
theorem may_0 {l : List E} (h : smB l = true) (k : Nat) : maySn 0 0 (nq (l.take k)) 0 = true := by
  obtain ⟨h1, h2⟩ := sm_is h
  have h3 : shQ (nq (l.take k)) = true := decide_eq_true fun y hy => by
    obtain ⟨z, hz, rfl⟩ := List.mem_map.1 hy
    have := h2 z (List.mem_of_mem_take hz)
    show (rl z 0).length ≤ 16384
    omega
  unfold maySn
  rw [h3, nq_len, List.length_take]
  simp only [Bool.true_and, decide_eq_true_eq]
  exact ⟨Int.le_refl 0, by decide, by omega, Int.le_refl 0, by decide, by omega, Int.le_refl 0, by decide, trivial⟩
theorem nq_snoc (l : List E) (y : E) : nq (l ++ [y]) = nq l ++ [[D.ints (rl y 0)]] := by
  unfold nq
  rw [List.map_append]
  rfl
theorem nq_nq (l : List E) : nq (nq l) = nq l := by simp [nq, rl]
theorem p_all {l : List E} (hs : smB l = true) {i : Int} {q : List E} (hq : pQ l ⟨i, q⟩) : 0 ≤ i ∧ i ≤ l.length ∧ q.length ≤ 64 ∧ (i < l.length → stdBin .add .i64 i 1 = i + 1 ∧ (∀ e, pM l ⟨i + 1, e⟩ < pM l ⟨i, q⟩) ∧ (rl (l.getD i.toNat []) 0).length ≤ 64 ∧ pushS 0 0 q 0 (rl (l.getD i.toNat []) 0) 2147483647 = ⟨0, 0, q ++ [[D.ints (rl (l.getD i.toNat []) 0)]], 0, 0⟩ ∧ rpushS 0 0 q 0 (rl (l.getD i.toNat []) 0) 2147483647 = ⟨0, 0, q ++ [[D.ints (rl (l.getD i.toNat []) 0)]], 0, 0⟩ ∧ pQ l ⟨i + 1, q ++ [[D.ints (rl (l.getD i.toNat []) 0)]]⟩) ∧ (¬ i < l.length → q = nq l) := by
  obtain ⟨h0, h1, h2⟩ := hq
  simp only at h0 h1 h2
  obtain ⟨s1, s2⟩ := sm_is hs
  have hl : q.length ≤ 64 := by
    rw [h2, nq_len, List.length_take]
    omega
  refine ⟨h0, h1, hl, fun h => ?_, fun h => ?_⟩
  · have g := s2 _ (pl_mem h0 h)
    have hm := may_0 hs i.toNat
    rw [← h2] at hm
    have hn : nq q = q := by rw [h2, nq_nq]
    refine ⟨by rw [b_add, wr _ (by omega) (by omega)], fun e => by simp only [pM]; omega, g, ?_, ?_, by simp only; omega, by simp only; omega, ?_⟩
    · unfold pushS
      rw [if_neg (by rw [hm]; simp), if_neg (by omega), if_neg (by omega), if_neg (by omega), hn]
    · unfold rpushS
      rw [if_neg (by rw [hm]; simp), if_neg (by omega), if_neg (by omega), if_neg (by omega)]
    · show q ++ _ = nq (l.take (i + 1).toNat)
      rw [take_next l i h0 h, nq_snoc, h2]
  · rw [List.take_of_length_le (by omega)] at h2
    exact h2
structure XW where
  i : Int
  d : CR
def wQ (l w : List E) (y : XW) : Prop := 0 ≤ y.i ∧ y.i ≤ w.length ∧ y.d = runC l (w.take y.i.toNat) ∧ y.d.q.length ≤ 64 ∧ (y.d.wy.length : Int) ≤ 32 * y.i ∧ (y.d.bk.length : Int) ≤ y.i ∧ (y.d.ou.length : Int) ≤ y.i
noncomputable def wI (A : Ar) (w : List E) (y : XW) : St := stOf Try.f22.ntmps [(7, .ptr 1 0), (34, .sl none (.recs (.int .i64 (.int .i64 (.int .i64 (.int .i64 (.int .i64 .nil))))) w)), (35, .val (.int .i64 (A.lenE w))), (36, .val (.int .i64 y.i))] [(1, .cells 147 [.val (.int .i64 y.d.sb), .val (.int .i64 y.d.s), .sl none (.recs (.ints .u8 .nil) y.d.q), .val (.int .i64 y.d.c), .val (.int .i64 y.d.n), .val (.bool y.d.w), .sl (some (2, 157)) (.recs (.int .i64 (.ints .u8 .nil)) y.d.wy), .sl (some (3, 3)) (.ints .i64 y.d.bk), .sl (some (4, 35)) (.recs (.ints .u8 .nil) y.d.ou)]), (2, .tok), (3, .tok), (4, .tok)] [Any, Any]
def wM (w : List E) (y : XW) : Nat := w.length - y.i.toNat
def wayC (st : St) (j : Nat) : List E := ctR (match cellC st 7 j with | .sl _ c => c | _ => .recs .nil [])
def wR (st : St) : XW := ⟨slotI st 36, ⟨valI (cellC st 7 0), valI (cellC st 7 1), valR st.heap (cellC st 7 2), valI (cellC st 7 3), valI (cellC st 7 4), valB (cellC st 7 5), wayC st 6, ctL (match cellC st 7 7 with | .sl _ c => c | _ => .ints .i64 []), wayC st 8⟩⟩
theorem s2_q (d : CR) : (s2C d).q.length ≤ d.q.length := by
  have h := s1_q d
  unfold s2C rdyS zS
  repeat' split
  all_goals simp only [nq_len, List.length_nil] <;> omega
theorem ak_q (d : CR) (k : Int) : (akC d k).q.length ≤ d.q.length := by
  unfold akC ackS zS
  simp only
  repeat' split
  all_goals simp [nq_len]
theorem do_len (k a n : Int) (d : CR) : (doC k a n d).q.length ≤ d.q.length ∧ (doC k a n d).wy.length ≤ d.wy.length + 32 ∧ (doC k a n d).bk.length ≤ d.bk.length + 1 ∧ (doC k a n d).ou.length ≤ d.ou.length + 1 := by
  have b0 := BwN.bl_len d.wy k n
  have b1 := BwI.bl_len d.bk k n
  unfold doC
  split
  · have h1 := tkN_len d.sb d.s d.q d.c
    have h2 := rdyN_len (s1C d).b (s1C d).s (s1C d).q (s1C d).c
    have h3 := s2_q d
    refine ⟨h3, ?_, ?_, Nat.le_succ _⟩
    · unfold tkC
      simp only [List.length_append]
      omega
    · unfold tkC
      simp only
      split <;> simp
  · split
    · split
      · refine ⟨Nat.le_refl _, by show (BwN.bwL d.wy k n).length ≤ _; omega, Nat.le_succ _, ?_⟩
        unfold gtC
        simp only
        split <;> simp
      · exact ⟨Nat.le_refl _, by show (BwN.bwL d.wy k n).length ≤ _; omega, Nat.le_succ _, Nat.le_succ _⟩
    · split
      · split
        · exact ⟨ak_q { d with bk := BwI.bwL d.bk k n } _, Nat.le_add_right _ _, b1, Nat.le_succ _⟩
        · exact ⟨Nat.le_refl _, Nat.le_add_right _ _, b1, Nat.le_succ _⟩
      · exact ⟨Nat.le_refl _, Nat.le_add_right _ _, Nat.le_succ _, Nat.le_succ _⟩
theorem run_next (l w : List E) (i : Int) (h0 : 0 ≤ i) (h : i < w.length) : runC l (w.take (i + 1).toNat) = doC (ri (w.getD i.toNat []) 0) (ri (w.getD i.toNat []) 1) (ri (w.getD i.toNat []) 3) (runC l (w.take i.toNat)) := by
  rw [take_next w i h0 h]
  unfold runC
  rw [List.foldl_append]
  rfl
theorem w_zero {l : List E} (hs : smB l = true) (w : List E) : wQ l w ⟨0, c00 l⟩ := ⟨Int.le_refl 0, Int.natCast_nonneg _, rfl, by
  show (nq l).length ≤ 64
  rw [nq_len]
  exact (sm_is hs).1, Int.le_refl 0, Int.le_refl 0, Int.le_refl 0⟩
theorem w_all {l w : List E} (hw : w.length ≤ 1000) {i : Int} {d : CR} (hq : wQ l w ⟨i, d⟩) : 0 ≤ i ∧ i ≤ w.length ∧ ok2C ⟨d.sb, d.s, d.q, d.c, d.n, d.w, d.wy, d.bk, d.ou⟩ = true ∧ (i < w.length → stdBin .add .i64 i 1 = i + 1 ∧ (∀ e, wM w ⟨i + 1, e⟩ < wM w ⟨i, d⟩) ∧ wQ l w ⟨i + 1, ⟨(doC (ri (w.getD i.toNat []) 0) (ri (w.getD i.toNat []) 1) (ri (w.getD i.toNat []) 3) d).sb, (doC (ri (w.getD i.toNat []) 0) (ri (w.getD i.toNat []) 1) (ri (w.getD i.toNat []) 3) d).s, (doC (ri (w.getD i.toNat []) 0) (ri (w.getD i.toNat []) 1) (ri (w.getD i.toNat []) 3) d).q, (doC (ri (w.getD i.toNat []) 0) (ri (w.getD i.toNat []) 1) (ri (w.getD i.toNat []) 3) d).c, (doC (ri (w.getD i.toNat []) 0) (ri (w.getD i.toNat []) 1) (ri (w.getD i.toNat []) 3) d).n, (doC (ri (w.getD i.toNat []) 0) (ri (w.getD i.toNat []) 1) (ri (w.getD i.toNat []) 3) d).w, (doC (ri (w.getD i.toNat []) 0) (ri (w.getD i.toNat []) 1) (ri (w.getD i.toNat []) 3) d).wy, (doC (ri (w.getD i.toNat []) 0) (ri (w.getD i.toNat []) 1) (ri (w.getD i.toNat []) 3) d).bk, (doC (ri (w.getD i.toNat []) 0) (ri (w.getD i.toNat []) 1) (ri (w.getD i.toNat []) 3) d).ou⟩⟩) ∧ (¬ i < w.length → runC l w = d) := by
  obtain ⟨h0, h1, h2, h3, h4, h5, h6⟩ := hq
  simp only at h0 h1 h2 h3 h4 h5 h6
  refine ⟨h0, h1, decide_eq_true (by simp only; omega), fun h => ?_, fun h => ?_⟩
  · have hn := run_next l w i h0 h
    rw [← h2] at hn
    have hd := do_len (ri (w.getD i.toNat []) 0) (ri (w.getD i.toNat []) 1) (ri (w.getD i.toNat []) 3) d
    exact ⟨by rw [b_add, wr _ (by omega) (by omega)], fun e => by simp only [wM]; omega, by simp only; omega, by simp only; omega, hn.symm, by simp only; omega, by simp only; omega, by simp only; omega, by simp only; omega⟩
  · rw [List.take_of_length_le (by omega)] at h2
    exact h2.symm

structure Tm where
  m_sm : List E → Bool
  m_o : List E → List E → List E
  m_n : List E → List E → Int
  m_e : List E → List E → Int
  m_le : List E → Bool
def Tm.std : Tm := ⟨smB, crO, crN, crE, fun l => decide (l.length ≤ 140737488355328)⟩

def c_tool (F : Tm) : Con := fun xs h => match xs, h with
  | [.one (.sl none (.recs (.ints .u8 .nil) l))], [] => some ⟨F.m_le l = true, .sa (B (!F.m_sm l)), [], [Any]⟩
  | _, _ => none
set_option maxHeartbeats 2000000 in
set_option maxRecDepth 100000 in
theorem x_tool (l : List E) (hC : Tm.std.m_le l = true) : Does [] Try.f70 [.one (.sl none (.recs (.ints .u8 .nil) l))] [] ⟨Tm.std.m_le l = true, .sa (B (!Tm.std.m_sm l)), [], [Any]⟩ := by
  intro b gv
  have hk : l.length ≤ 140737488355328 := of_decide_eq_true (show decide (l.length ≤ 140737488355328) = true from hC)
  have hfs := FsOk.nil
  generalize hF : Tm.std = F at hC hfs ⊢
  generalize hG0 : SeS.Gs.std = G0 at hC hfs ⊢
  generalize hG1 : TkR.Tk.std = G1 at hC hfs ⊢
  generalize hA : Ar.std = A
  generalize hL : Lp _ _ _ = L
  obtain ⟨Z, zq⟩ := z_all
  refine cd_open (lp_mono hL) zq rfl ?_
  repeat' (first
    | (refine z_open zq ?_; try dsimp only)
    | refine cd_seq zq ?_ (lp_mono hL)
    | refine cd_blk zq ?_
    | refine cd_ret ?_
    | refine cd_skip ?_
    | refine cd_exit ?_
    | refine cd_loop ?_
    | refine cd_cond rfl ?_
    | refine cd_condT rfl ?_
    | refine cd_condF rfl ?_
    | (refine Cd.mk ?_; cbv)
    | (refine Ends1.mk ?_; cbv)
    | (refine Fin1.mk ?_; cbv)
    | exact trivial
    | refine And.intro ?_ ?_
    | refine orf fun _ => ?_
    | refine ort fun _ => ?_)
  subst hL
  refine loop_z (cx_ok hfs) (tQ l) (tI A l) (tM l) tR ⟨0⟩ ?_ ?_ ?_
  · exact t_zero l
  · cbv
    repeat' (first | exact trivial | exact rfl | refine And.intro ?_ ?_)
  rintro ⟨i⟩ hqT T hT
  have hst := t_all hk hqT
  try dsimp only at hst
  subst hA
  generalize hA : Ar.std = A
  generalize hL : Lp _ _ _ = L
  refine cd_close zq ?_
  repeat' (first
    | (refine z_open zq ?_; try dsimp only)
    | refine cd_seq zq ?_ (lp_mono hL)
    | refine cd_blk zq ?_
    | refine cd_ret ?_
    | refine cd_skip ?_
    | refine cd_exit ?_
    | refine cd_loop ?_
    | refine cd_cond rfl ?_
    | refine cd_condT rfl ?_
    | refine cd_condF rfl ?_
    | (refine Cd.mk ?_; cbv)
    | (refine Ends1.mk ?_; cbv)
    | (refine Fin1.mk ?_; cbv)
    | exact trivial
    | refine And.intro ?_ ?_
    | refine orf fun _ => ?_
    | refine ort fun _ => ?_)
  all_goals (clear hL zq Z hfs hqT; subst hA hF hG0 hG1 hT; simp only [Tm.std, Ar.std] at * <;> grind [stdCmp]; done)
theorem ok_tool : ConOk Try.prog 70 (c_tool Tm.std) := by
  refine con_of FsOk.nil Try.func70 rfl rfl fun xs h p hp => ?_
  unfold c_tool at hp
  split at hp
  · cases hp
    exact ⟨lee_le rfl, fun hC _ => x_tool _ hC⟩
  · cases hp

def c_carry (F : Tm) : Con := fun xs h => match xs, h with
  | [.one (.sl none (.recs (.ints .u8 .nil) l)), .one (.sl none (.recs (.int .i64 (.int .i64 (.int .i64 (.int .i64 (.int .i64 .nil))))) w))], [] => some ⟨F.m_le l = true, .tup [.one (.sl none (.recs (.ints .u8 .nil) (F.m_o l w))), I (F.m_n l w), I (F.m_e l w)], [], [Any, Any]⟩
  | _, _ => none
set_option maxHeartbeats 4000000 in
set_option maxRecDepth 100000 in
theorem x_carry (l : List E) (w : List E) (hC : Tm.std.m_le l = true) : Does [(70, c_tool Tm.std), (71, c_push SeS.Gs.std), (72, c_cdo TkR.Tk.std)] Try.f22 [.one (.sl none (.recs (.ints .u8 .nil) l)), .one (.sl none (.recs (.int .i64 (.int .i64 (.int .i64 (.int .i64 (.int .i64 .nil))))) w))] [] ⟨Tm.std.m_le l = true, .tup [.one (.sl none (.recs (.ints .u8 .nil) (Tm.std.m_o l w))), I (Tm.std.m_n l w), I (Tm.std.m_e l w)], [], [Any, Any]⟩ := by
  intro b gv
  have hk : l.length ≤ 140737488355328 := of_decide_eq_true (show decide (l.length ≤ 140737488355328) = true from hC)
  have hfs := (FsOk.cons ok_tool (FsOk.cons ok_push (FsOk.cons ok_cdo FsOk.nil rfl) rfl) rfl)
  generalize hF : Tm.std = F at hC hfs ⊢
  generalize hG0 : SeS.Gs.std = G0 at hC hfs ⊢
  generalize hG1 : TkR.Tk.std = G1 at hC hfs ⊢
  generalize hA : Ar.std = A
  generalize hL : Lp _ _ _ = L
  obtain ⟨Z, zq⟩ := z_all
  refine cd_open (lp_mono hL) zq rfl ?_
  repeat' (first
    | (refine z_open zq ?_; try dsimp only)
    | refine cd_seq zq ?_ (lp_mono hL)
    | refine cd_blk zq ?_
    | refine cd_ret ?_
    | refine cd_skip ?_
    | refine cd_exit ?_
    | refine cd_loop ?_
    | refine cd_cond rfl ?_
    | refine cd_condT rfl ?_
    | refine cd_condF rfl ?_
    | (refine Cd.mk ?_; cbv)
    | (refine Ends1.mk ?_; cbv)
    | (refine Fin1.mk ?_; cbv)
    | exact trivial
    | refine And.intro ?_ ?_
    | refine orf fun _ => ?_
    | refine ort fun _ => ?_)
  all_goals first | (show L _ _ _; skip) | (clear hL zq Z hfs; subst hA hF hG0 hG1; have hn := lg_not (l := l) (w := w); simp only [Tm.std, Ar.std] at * <;> grind [stdCmp]; done)
  rename_i hx
  have hin : smB l = true ∧ w.length ≤ 1000 := by
    clear hfs hL zq Z
    subst hA hF hG0 hG1
    simp only [Tm.std, Ar.std] at *
    grind [stdCmp]
  clear hx
  obtain ⟨hs, hw⟩ := hin
  subst hL
  refine loop_z (cx_ok hfs) (pQ l) (pI A l w) (pM l) pR ⟨0, []⟩ ?_ ?_ ?_
  · exact p_zero l
  · cbv
    repeat' (first | exact trivial | exact rfl | refine And.intro ?_ ?_)
  rintro ⟨i, q⟩ hqP P hP
  have hst := p_all hs hqP
  try dsimp only at hst
  subst hA
  generalize hA : Ar.std = A
  generalize hL : Lp _ _ _ = L
  refine cd_close zq ?_
  repeat' (first
    | (refine z_open zq ?_; try dsimp only)
    | refine cd_seq zq ?_ (lp_mono hL)
    | refine cd_blk zq ?_
    | refine cd_ret ?_
    | refine cd_skip ?_
    | refine cd_exit ?_
    | refine cd_loop ?_
    | refine cd_cond rfl ?_
    | refine cd_condT rfl ?_
    | refine cd_condF rfl ?_
    | (refine Cd.mk ?_; cbv)
    | (refine Ends1.mk ?_; cbv)
    | (refine Fin1.mk ?_; cbv)
    | exact trivial
    | refine And.intro ?_ ?_
    | refine orf fun _ => ?_
    | refine ort fun _ => ?_)
  all_goals first | (show L _ _ _; skip) | (clear hL zq Z hfs hqP; subst hA hF hG0 hG1 hP; simp only [Tm.std, SeS.Gs.std, Ar.std] at * <;> grind [stdCmp]; done)
  have hi : q = nq l := by
    rename_i hx
    clear hL hfs zq Z hqP
    subst hA hF hG0 hG1 hP
    simp only [Tm.std, Ar.std] at *
    grind [stdCmp]
  subst hi
  clear hst hqP hP
  subst hL
  refine loop_z (cx_ok hfs) (wQ l w) (wI A w) (wM w) wR ⟨0, c00 l⟩ ?_ ?_ ?_
  · exact w_zero hs w
  · cbv
    repeat' (first | exact trivial | exact rfl | refine And.intro ?_ ?_)
  rintro ⟨j, ⟨sb, s, q, c, n, w, wy, bk, ou⟩⟩ hqW W hW
  have hst := w_all hw hqW
  have hg := lg_is hs hw
  try dsimp only at hst
  subst hA
  generalize hA : Ar.std = A
  generalize hL : Lp _ _ _ = L
  refine cd_close zq ?_
  repeat' (first
    | (refine z_open zq ?_; try dsimp only)
    | refine cd_seq zq ?_ (lp_mono hL)
    | refine cd_blk zq ?_
    | refine cd_ret ?_
    | refine cd_skip ?_
    | refine cd_exit ?_
    | refine cd_loop ?_
    | refine cd_cond rfl ?_
    | refine cd_condT rfl ?_
    | refine cd_condF rfl ?_
    | (refine Cd.mk ?_; cbv)
    | (refine Ends1.mk ?_; cbv)
    | (refine Fin1.mk ?_; cbv)
    | exact trivial
    | refine And.intro ?_ ?_
    | refine orf fun _ => ?_
    | refine ort fun _ => ?_)
  all_goals (clear hL zq Z hfs hqW; subst hA hF hG0 hG1 hW; simp only [Tm.std, TkR.Tk.std, Ar.std] at * <;> grind [stdCmp]; done)
theorem ok_carry : ConOk Try.prog 22 (c_carry Tm.std) := by
  refine con_of (FsOk.cons ok_tool (FsOk.cons ok_push (FsOk.cons ok_cdo FsOk.nil rfl) rfl) rfl) Try.func22 rfl rfl fun xs h p hp => ?_
  unfold c_carry at hp
  split at hp
  · cases hp
    exact ⟨lee_le rfl, fun hC _ => x_carry _ _ hC⟩
  · cases hp
end Go.Proofs.Ytgemoemkgcmcgaa.TkM
