
/-
  new joins, nobody's joins. No condition.
-/
import Derived.Test.YtakebkfhigadiaaJoW
import Derived.Test.YtakebkfhigadiaaRyOr
namespace Go.Proofs.Ytakebkfhigadiaa.JoN
open Go Go.Proofs.Ytakebkfhigadiaa.Ry Go.Proofs.Ytakebkfhigadiaa.JoS Go.Proofs.Ytakebkfhigadiaa.JoR Go.Proofs.Ytakebkfhigadiaa.JoW

def vN (n : Int) : Bool := decide (0 ≤ n ∧ n ≤ 4096)
def nwL (v : Int → Int) (n i : Int) : List Int := (List.range (n + 1).toNat).map fun j : Nat => if (j : Int) < i then v j else 0
theorem nw_set (v : Int → Int) (n i : Int) (h0 : 0 ≤ i) (_ : i ≤ n) : (nwL v n i).set i.toNat (v i) = nwL v n (i + 1) := by
  apply List.ext_getElem
  · simp [nwL]
  · intro k h1 h2
    simp only [nwL, List.getElem_set, List.getElem_map, List.getElem_range]
    by_cases hk : i.toNat = k
    · have e : (k : Int) = i := by omega
      have l : (k : Int) < i + 1 := by omega
      rw [if_pos hk, if_pos l, e]
    · rw [if_neg hk]
      by_cases hl : (k : Int) < i
      · rw [if_pos hl, if_pos (by omega)]
      · rw [if_neg hl, if_neg (by omega)]
theorem nw_zero (v : Int → Int) (n : Int) (h0 : 0 ≤ n) (h : n ≤ 4096) : List.replicate (stdBin .add .i64 n 1).toNat 0 = nwL v n 0 := by
  rw [b_add, wr _ (by omega) (by omega)]
  apply List.ext_getElem
  · simp [nwL]
  · intro k h1 h2
    simp only [nwL, List.getElem_replicate, List.getElem_map, List.getElem_range]
    rw [if_neg (by omega)]
theorem nw_len (v : Int → Int) (n i : Int) : (nwL v n i).length = (n + 1).toNat := by simp [nwL]
theorem nw_end (v : Int → Int) (n : Int) : nwL v n (n + 1) = (List.range (n + 1).toNat).map fun j : Nat => v j := by
  unfold nwL
  apply List.map_congr_left
  intro j hj
  have := List.mem_range.1 hj
  rw [if_pos (by omega)]
theorem nw_iota (n : Int) : nwL id n (n + 1) = iota n := nw_end id n
theorem nw_ones (n : Int) : nwL (fun _ => 1) n (n + 1) = ones n := by
  rw [nw_end]
  unfold ones
  apply List.ext_getElem
  · simp
  · intro k h1 h2
    simp
structure XN where
  i : Int
  u : List Int
  z : List Int
def nwQ (n : Int) (y : XN) : Prop := 0 ≤ y.i ∧ y.i ≤ n + 1 ∧ y.u = nwL id n y.i ∧ y.z = nwL (fun _ => 1) n y.i
noncomputable def nwI (A : Ar) (n : Int) (y : XN) : St := stOf Try.f40.ntmps [(4, .ptr 1 0), (25, .val (.int .i64 (A.lenI (A.repI (A.bin .add .i64 n 1))))), (26, .val (.int .i64 y.i))] [(1, .cells 117 [.own 2, .own 3, .val (.int .i64 n)]), (2, .row 3 (.ints .i64 y.u)), (3, .row 3 (.ints .i64 y.z))] [Any]
def nwM (n : Int) (y : XN) : Nat := (n + 1 - y.i).toNat
def nwR (st : St) : XN := ⟨slotI st 26, valL st.heap (cellC st 4 0), valL st.heap (cellC st 4 1)⟩

structure Ns where
  n_v : Int → Bool
  n_io : Int → List Int
  n_on : Int → List Int
  f : Fs
def Ns.std : Ns := ⟨vN, iota, ones, Fs.std⟩

def c_new (F : Ns) : Con := fun xs h => match xs, h with
  | [.one (.val (.int .i64 n))], [] => some ⟨F.n_v n = true, .tup [.one (.ptr 0 0), I 0], [(0, .cells 117 [.own 1, .own 2, .val (.int .i64 n)]), (1, .row 3 (.ints .i64 (F.n_io n))), (2, .row 3 (.ints .i64 (F.n_on n)))], [Any]⟩
  | _, _ => none
set_option maxHeartbeats 1000000 in
set_option maxRecDepth 100000 in
theorem x_new (n : Int) (hC : Ns.std.n_v n = true) : Does [] Try.f40 [.one (.val (.int .i64 n))] [] ⟨Ns.std.n_v n = true, .tup [.one (.ptr 0 0), I 0], [(0, .cells 117 [.own 1, .own 2, .val (.int .i64 n)]), (1, .row 3 (.ints .i64 (Ns.std.n_io n))), (2, .row 3 (.ints .i64 (Ns.std.n_on n)))], [Any]⟩ := by
  intro b gv
  have hk := of_decide_eq_true (show vN n = true from hC)
  have hfs := FsOk.nil
  generalize hF : Ns.std = F at hC hfs ⊢
  generalize hA : Ar.std = A
  generalize hL : Lp _ _ _ = L
  obtain ⟨Z, zq⟩ := z_all
  refine @cd_open _ _ _ _ _ _ _ (lp_mono hL) _ _ zq rfl ?_
  repeat' (first
    | (refine z_open zq ?_; try dsimp only)
    | refine cd_seq zq ?_ (lp_mono hL)
    | refine cd_blk zq ?_
    | refine cd_ret ?_
    | refine cd_skip ?_
    | refine cd_exit ?_
    | refine cd_loop ?_
    | refine cd_cond rfl ?_
    | refine cd_condT rfl ?_
    | refine cd_condF rfl ?_
    | (refine Cd.mk ?_; cbv)
    | (refine Ends1.mk ?_; cbv)
    | (refine Fin1.mk ?_; cbv)
    | exact trivial
    | refine And.intro ?_ ?_
    | refine orf fun _ => ?_
    | refine ort fun _ => ?_)
  all_goals first | (show L _ _ _; skip) | (clear hfs hL zq Z; subst hF hA; simp only [Ar.std] at * <;> grind [stdCmp, b_add, wr])
  rename_i hx
  clear hx
  subst hL
  refine loop_z (cx_ok hfs) (nwQ n) (nwI A n) (nwM n) nwR ⟨0, A.repI (A.bin .add .i64 n 1), A.repI (A.bin .add .i64 n 1)⟩ ?_ ?_ ?_
  · subst hA
    exact ⟨Int.le_refl 0, show (0 : Int) ≤ n + 1 by omega, nw_zero _ n hk.1 hk.2, nw_zero _ n hk.1 hk.2⟩
  · cbv
    repeat' (first | exact trivial | exact rfl | refine And.intro ?_ ?_)
  rintro ⟨i, u, z⟩ ⟨q0, q1, q2, q3⟩ O hO
  dsimp only at q0 q1 q2 q3
  have g1 : i ≤ n → u.set i.toNat i = nwL id n (i + 1) := fun h => by rw [q2]; exact nw_set id n i q0 h
  have g2 : i ≤ n → z.set i.toNat 1 = nwL (fun _ => 1) n (i + 1) := fun h => by rw [q3]; exact nw_set (fun _ => 1) n i q0 h
  have l1 : u.length = (n + 1).toNat := by rw [q2]; exact nw_len _ _ _
  have l2 : z.length = (n + 1).toNat := by rw [q3]; exact nw_len _ _ _
  have e1 : i = n + 1 → u = iota n ∧ z = ones n := fun h => by rw [q2, q3, h]; exact ⟨nw_iota n, nw_ones n⟩
  have hlen : (List.replicate (stdBin .add .i64 n 1).toNat (0 : Int)).length = (n + 1).toNat := by rw [nw_zero id n hk.1 hk.2]; exact nw_len _ _ _
  subst hA
  generalize hA : Ar.std = A
  generalize hL : Lp _ _ _ = L
  refine cd_close zq ?_
  repeat' (first
    | (refine z_open zq ?_; try dsimp only)
    | refine cd_seq zq ?_ (lp_mono hL)
    | refine cd_blk zq ?_
    | refine cd_ret ?_
    | refine cd_skip ?_
    | refine cd_exit ?_
    | refine cd_loop ?_
    | refine cd_cond rfl ?_
    | refine cd_condT rfl ?_
    | refine cd_condF rfl ?_
    | (refine Cd.mk ?_; cbv)
    | (refine Ends1.mk ?_; cbv)
    | (refine Fin1.mk ?_; cbv)
    | exact trivial
    | refine And.intro ?_ ?_
    | refine orf fun _ => ?_
    | refine ort fun _ => ?_)
  all_goals (clear hL hfs zq Z; subst hA hF hO; simp only [Ns.std, Ar.std] at * <;> grind [stdCmp, b_add, wr, nwQ, nwM])
theorem ok_new : ConOk Try.prog 40 (c_new Ns.std) := by
  refine con_of FsOk.nil Try.func40 rfl rfl fun xs h p hp => ?_
  unfold c_new at hp
  split at hp
  · cases hp
    exact ⟨lee_le rfl, fun hC _ => @x_new _ hC⟩
  · cases hp

def c_least_n (_ : Ns) : Con := fun xs h => match xs, h with
  | [.one (.val (.pointer none)), .one (.val (.int .i64 _))], [] => some ⟨True, .sa (I 0), [], [Any, Any]⟩
  | _, _ => none
set_option maxRecDepth 100000 in
theorem x_least_n (a : Int) : Does [] Try.f39 [.one (.val (.pointer none)), .one (.val (.int .i64 a))] [] ⟨True, .sa (I 0), [], [Any, Any]⟩ := by
  intro b gv
  generalize hF : Ns.std = F
  generalize hA : Ar.std = A
  generalize hL : Lp _ _ _ = L
  obtain ⟨Z, zq⟩ := z_all
  refine @cd_open _ _ _ _ _ _ _ (lp_mono hL) _ _ zq rfl ?_
  repeat' (first
    | (refine z_open zq ?_; try dsimp only)
    | refine cd_seq zq ?_ (lp_mono hL)
    | refine cd_blk zq ?_
    | refine cd_ret ?_
    | refine cd_skip ?_
    | refine cd_exit ?_
    | refine cd_loop ?_
    | refine cd_cond rfl ?_
    | refine cd_condT rfl ?_
    | refine cd_condF rfl ?_
    | (refine Cd.mk ?_; cbv)
    | (refine Ends1.mk ?_; cbv)
    | (refine Fin1.mk ?_; cbv)
    | exact trivial
    | refine And.intro ?_ ?_
    | refine orf fun _ => ?_
    | refine ort fun _ => ?_)
  all_goals first | (show L _ _ _; exfalso; rename_i hx; clear hL zq Z; subst hA; simp only [Ar.std] at hx; grind [stdCmp]; done) | (clear hL zq Z; subst hA; simp only [Ar.std] at *; grind [stdCmp]; done) | (clear hL zq Z; subst hA; grind [stdCmp, Ar.std]; done)
theorem ok_least_n : ConOk Try.prog 39 (c_least_n Ns.std) := by
  refine con_of FsOk.nil Try.func39 rfl rfl fun xs h p hp => ?_
  unfold c_least_n at hp
  split at hp
  · cases hp
    exact ⟨lee_le rfl, fun _ _ => @x_least_n _⟩
  · cases hp
theorem kp_least_n : Keeps (c_least_n Ns.std) := by
  intro xs h p hp
  unfold c_least_n at hp
  split at hp
  · cases hp
    rfl
  · cases hp

def c_least_e (_ : Ns) : Con := fun xs h => match xs, h with
  | [.one (.ptr 0 0), .one (.val (.int .i64 _))], [(0, .cells 117 [.val (.slice none 0 0), .val (.slice none 0 0), .val (.int .i64 s)])] => some ⟨True, .sa (I 0), [(0, .cells 117 [.val (.slice none 0 0), .val (.slice none 0 0), .val (.int .i64 s)])], [.one (.ptr 0 0), Any]⟩
  | _, _ => none
set_option maxRecDepth 100000 in
theorem x_least_e (a : Int) (s : Int) : Does [] Try.f39 [.one (.ptr 0 0), .one (.val (.int .i64 a))] [(0, .cells 117 [.val (.slice none 0 0), .val (.slice none 0 0), .val (.int .i64 s)])] ⟨True, .sa (I 0), [(0, .cells 117 [.val (.slice none 0 0), .val (.slice none 0 0), .val (.int .i64 s)])], [.one (.ptr 0 0), Any]⟩ := by
  intro b gv
  generalize hF : Ns.std = F
  generalize hA : Ar.std = A
  generalize hL : Lp _ _ _ = L
  obtain ⟨Z, zq⟩ := z_all
  refine @cd_open _ _ _ _ _ _ _ (lp_mono hL) _ _ zq rfl ?_
  repeat' (first
    | (refine z_open zq ?_; try dsimp only)
    | refine cd_seq zq ?_ (lp_mono hL)
    | refine cd_blk zq ?_
    | refine cd_ret ?_
    | refine cd_skip ?_
    | refine cd_exit ?_
    | refine cd_loop ?_
    | refine cd_cond rfl ?_
    | refine cd_condT rfl ?_
    | refine cd_condF rfl ?_
    | (refine Cd.mk ?_; cbv)
    | (refine Ends1.mk ?_; cbv)
    | (refine Fin1.mk ?_; cbv)
    | exact trivial
    | refine And.intro ?_ ?_
    | refine orf fun _ => ?_
    | refine ort fun _ => ?_)
  all_goals first | (show L _ _ _; exfalso; rename_i hx; clear hL zq Z; subst hA; simp only [Ar.std] at hx; grind [stdCmp]; done) | (clear hL zq Z; subst hA; simp only [Ar.std] at *; grind [stdCmp]; done) | (clear hL zq Z; subst hA; grind [stdCmp, Ar.std]; done)
theorem ok_least_e : ConOk Try.prog 39 (c_least_e Ns.std) := by
  refine con_of FsOk.nil Try.func39 rfl rfl fun xs h p hp => ?_
  unfold c_least_e at hp
  split at hp
  · cases hp
    exact ⟨lee_le rfl, fun _ _ => @x_least_e _ _⟩
  · cases hp
theorem kp_least_e : Keeps (c_least_e Ns.std) := by
  intro xs h p hp
  unfold c_least_e at hp
  split at hp
  · cases hp
    rfl
  · cases hp

def c_least_ne (F : Ns) : Con := orCon (c_least_n F) (c_least_e F)
theorem ok_least_ne : ConOk Try.prog 39 (c_least_ne Ns.std) := or_ok ok_least_n ok_least_e
theorem kp_least_ne : Keeps (c_least_ne Ns.std) := or_kp kp_least_n kp_least_e

def c_sizef_n (_ : Ns) : Con := fun xs h => match xs, h with
  | [.one (.val (.pointer none)), .one (.val (.int .i64 _))], [] => some ⟨True, .sa (I 0), [], [Any, Any]⟩
  | _, _ => none
theorem kp_sizef_n : Keeps (c_sizef_n Ns.std) := by
  intro xs h p hp
  unfold c_sizef_n at hp
  split at hp
  · cases hp
    rfl
  · cases hp

def c_sizef_e (_ : Ns) : Con := fun xs h => match xs, h with
  | [.one (.ptr 0 0), .one (.val (.int .i64 _))], [(0, .cells 117 [.val (.slice none 0 0), .val (.slice none 0 0), .val (.int .i64 s)])] => some ⟨True, .sa (I 0), [(0, .cells 117 [.val (.slice none 0 0), .val (.slice none 0 0), .val (.int .i64 s)])], [.one (.ptr 0 0), Any]⟩
  | _, _ => none
theorem kp_sizef_e : Keeps (c_sizef_e Ns.std) := by
  intro xs h p hp
  unfold c_sizef_e at hp
  split at hp
  · cases hp
    rfl
  · cases hp

def c_sizef_ne (F : Ns) : Con := orCon (c_sizef_n F) (c_sizef_e F)
theorem kp_sizef_ne : Keeps (c_sizef_ne Ns.std) := or_kp kp_sizef_n kp_sizef_e

def c_same_n (_ : Ns) : Con := fun xs h => match xs, h with
  | [.one (.val (.pointer none)), .one (.val (.int .i64 _)), .one (.val (.int .i64 _))], [] => some ⟨True, .sa (B false), [], [Any, Any, Any]⟩
  | _, _ => none
set_option maxRecDepth 100000 in
theorem x_same_n (a : Int) (d : Int) : Does [(39, c_least_n Ns.std), (keepKey 39, noCon)] Try.f24 [.one (.val (.pointer none)), .one (.val (.int .i64 a)), .one (.val (.int .i64 d))] [] ⟨True, .sa (B false), [], [Any, Any, Any]⟩ := by
  intro b gv
  generalize hF : Ns.std = F
  generalize hA : Ar.std = A
  generalize hL : Lp _ _ _ = L
  obtain ⟨Z, zq⟩ := z_all
  refine @cd_open _ _ _ _ _ _ _ (lp_mono hL) _ _ zq rfl ?_
  repeat' (first
    | (refine z_open zq ?_; try dsimp only)
    | refine cd_seq zq ?_ (lp_mono hL)
    | refine cd_blk zq ?_
    | refine cd_ret ?_
    | refine cd_skip ?_
    | refine cd_exit ?_
    | refine cd_loop ?_
    | refine cd_cond rfl ?_
    | refine cd_condT rfl ?_
    | refine cd_condF rfl ?_
    | (refine Cd.mk ?_; cbv)
    | (refine Ends1.mk ?_; cbv)
    | (refine Fin1.mk ?_; cbv)
    | exact trivial
    | refine And.intro ?_ ?_
    | refine orf fun _ => ?_
    | refine ort fun _ => ?_)
  all_goals first | (show L _ _ _; exfalso; rename_i hx; clear hL zq Z; subst hA; simp only [Ar.std] at hx; grind [stdCmp]; done) | (clear hL zq Z; subst hA; simp only [Ar.std] at *; grind [stdCmp]; done) | (clear hL zq Z; subst hA; grind [stdCmp, Ar.std]; done)
theorem ok_same_n : ConOk Try.prog 24 (c_same_n Ns.std) := by
  refine con_of (FsOk.keeps ok_least_n kp_least_n FsOk.nil) Try.func24 rfl rfl fun xs h p hp => ?_
  unfold c_same_n at hp
  split at hp
  · cases hp
    exact ⟨lee_le rfl, fun _ _ => @x_same_n _ _⟩
  · cases hp
theorem kp_same_n : Keeps (c_same_n Ns.std) := by
  intro xs h p hp
  unfold c_same_n at hp
  split at hp
  · cases hp
    rfl
  · cases hp

def c_same_e (_ : Ns) : Con := fun xs h => match xs, h with
  | [.one (.ptr 0 0), .one (.val (.int .i64 _)), .one (.val (.int .i64 _))], [(0, .cells 117 [.val (.slice none 0 0), .val (.slice none 0 0), .val (.int .i64 s)])] => some ⟨True, .sa (B false), [(0, .cells 117 [.val (.slice none 0 0), .val (.slice none 0 0), .val (.int .i64 s)])], [.one (.ptr 0 0), Any, Any]⟩
  | _, _ => none
set_option maxRecDepth 100000 in
theorem x_same_e (a : Int) (d : Int) (s : Int) : Does [(39, c_least_e Ns.std), (keepKey 39, noCon)] Try.f24 [.one (.ptr 0 0), .one (.val (.int .i64 a)), .one (.val (.int .i64 d))] [(0, .cells 117 [.val (.slice none 0 0), .val (.slice none 0 0), .val (.int .i64 s)])] ⟨True, .sa (B false), [(0, .cells 117 [.val (.slice none 0 0), .val (.slice none 0 0), .val (.int .i64 s)])], [.one (.ptr 0 0), Any, Any]⟩ := by
  intro b gv
  generalize hF : Ns.std = F
  generalize hA : Ar.std = A
  generalize hL : Lp _ _ _ = L
  obtain ⟨Z, zq⟩ := z_all
  refine @cd_open _ _ _ _ _ _ _ (lp_mono hL) _ _ zq rfl ?_
  repeat' (first
    | (refine z_open zq ?_; try dsimp only)
    | refine cd_seq zq ?_ (lp_mono hL)
    | refine cd_blk zq ?_
    | refine cd_ret ?_
    | refine cd_skip ?_
    | refine cd_exit ?_
    | refine cd_loop ?_
    | refine cd_cond rfl ?_
    | refine cd_condT rfl ?_
    | refine cd_condF rfl ?_
    | (refine Cd.mk ?_; cbv)
    | (refine Ends1.mk ?_; cbv)
    | (refine Fin1.mk ?_; cbv)
    | exact trivial
    | refine And.intro ?_ ?_
    | refine orf fun _ => ?_
    | refine ort fun _ => ?_)
  all_goals first | (show L _ _ _; exfalso; rename_i hx; clear hL zq Z; subst hA; simp only [Ar.std] at hx; grind [stdCmp]; done) | (clear hL zq Z; subst hA; simp only [Ar.std] at *; grind [stdCmp]; done) | (clear hL zq Z; subst hA; grind [stdCmp, Ar.std]; done)
theorem ok_same_e : ConOk Try.prog 24 (c_same_e Ns.std) := by
  refine con_of (FsOk.keeps ok_least_e kp_least_e FsOk.nil) Try.func24 rfl rfl fun xs h p hp => ?_
  unfold c_same_e at hp
  split at hp
  · cases hp
    exact ⟨lee_le rfl, fun _ _ => @x_same_e _ _ _⟩
  · cases hp
theorem kp_same_e : Keeps (c_same_e Ns.std) := by
  intro xs h p hp
  unfold c_same_e at hp
  split at hp
  · cases hp
    rfl
  · cases hp

def c_same_ne (F : Ns) : Con := orCon (c_same_n F) (c_same_e F)
theorem ok_same_ne : ConOk Try.prog 24 (c_same_ne Ns.std) := or_ok ok_same_n ok_same_e
theorem kp_same_ne : Keeps (c_same_ne Ns.std) := or_kp kp_same_n kp_same_e

def c_unite_n (_ : Ns) : Con := fun xs h => match xs, h with
  | [.one (.val (.pointer none)), .one (.val (.int .i64 _)), .one (.val (.int .i64 _))], [] => some ⟨True, .sa (B false), [], [Any, Any, Any]⟩
  | _, _ => none
set_option maxRecDepth 100000 in
theorem x_unite_n (a : Int) (d : Int) : Does [(39, c_least_n Ns.std), (keepKey 39, noCon)] Try.f41 [.one (.val (.pointer none)), .one (.val (.int .i64 a)), .one (.val (.int .i64 d))] [] ⟨True, .sa (B false), [], [Any, Any, Any]⟩ := by
  intro b gv
  generalize hF : Ns.std = F
  generalize hA : Ar.std = A
  generalize hL : Lp _ _ _ = L
  obtain ⟨Z, zq⟩ := z_all
  refine @cd_open _ _ _ _ _ _ _ (lp_mono hL) _ _ zq rfl ?_
  repeat' (first
    | (refine z_open zq ?_; try dsimp only)
    | refine cd_seq zq ?_ (lp_mono hL)
    | refine cd_blk zq ?_
    | refine cd_ret ?_
    | refine cd_skip ?_
    | refine cd_exit ?_
    | refine cd_loop ?_
    | refine cd_cond rfl ?_
    | refine cd_condT rfl ?_
    | refine cd_condF rfl ?_
    | (refine Cd.mk ?_; cbv)
    | (refine Ends1.mk ?_; cbv)
    | (refine Fin1.mk ?_; cbv)
    | exact trivial
    | refine And.intro ?_ ?_
    | refine orf fun _ => ?_
    | refine ort fun _ => ?_)
  all_goals first | (show L _ _ _; exfalso; rename_i hx; clear hL zq Z; subst hA; simp only [Ar.std] at hx; grind [stdCmp]; done) | (clear hL zq Z; subst hA; simp only [Ar.std] at *; grind [stdCmp]; done) | (clear hL zq Z; subst hA; grind [stdCmp, Ar.std]; done)
theorem ok_unite_n : ConOk Try.prog 41 (c_unite_n Ns.std) := by
  refine con_of (FsOk.keeps ok_least_n kp_least_n FsOk.nil) Try.func41 rfl rfl fun xs h p hp => ?_
  unfold c_unite_n at hp
  split at hp
  · cases hp
    exact ⟨lee_le rfl, fun _ _ => @x_unite_n _ _⟩
  · cases hp
theorem kp_unite_n : Keeps (c_unite_n Ns.std) := by
  intro xs h p hp
  unfold c_unite_n at hp
  split at hp
  · cases hp
    rfl
  · cases hp

def c_unite_e (_ : Ns) : Con := fun xs h => match xs, h with
  | [.one (.ptr 0 0), .one (.val (.int .i64 _)), .one (.val (.int .i64 _))], [(0, .cells 117 [.val (.slice none 0 0), .val (.slice none 0 0), .val (.int .i64 s)])] => some ⟨True, .sa (B false), [(0, .cells 117 [.val (.slice none 0 0), .val (.slice none 0 0), .val (.int .i64 s)])], [.one (.ptr 0 0), Any, Any]⟩
  | _, _ => none
set_option maxRecDepth 100000 in
theorem x_unite_e (a : Int) (d : Int) (s : Int) : Does [(39, c_least_e Ns.std), (keepKey 39, noCon)] Try.f41 [.one (.ptr 0 0), .one (.val (.int .i64 a)), .one (.val (.int .i64 d))] [(0, .cells 117 [.val (.slice none 0 0), .val (.slice none 0 0), .val (.int .i64 s)])] ⟨True, .sa (B false), [(0, .cells 117 [.val (.slice none 0 0), .val (.slice none 0 0), .val (.int .i64 s)])], [.one (.ptr 0 0), Any, Any]⟩ := by
  intro b gv
  generalize hF : Ns.std = F
  generalize hA : Ar.std = A
  generalize hL : Lp _ _ _ = L
  obtain ⟨Z, zq⟩ := z_all
  refine @cd_open _ _ _ _ _ _ _ (lp_mono hL) _ _ zq rfl ?_
  repeat' (first
    | (refine z_open zq ?_; try dsimp only)
    | refine cd_seq zq ?_ (lp_mono hL)
    | refine cd_blk zq ?_
    | refine cd_ret ?_
    | refine cd_skip ?_
    | refine cd_exit ?_
    | refine cd_loop ?_
    | refine cd_cond rfl ?_
    | refine cd_condT rfl ?_
    | refine cd_condF rfl ?_
    | (refine Cd.mk ?_; cbv)
    | (refine Ends1.mk ?_; cbv)
    | (refine Fin1.mk ?_; cbv)
    | exact trivial
    | refine And.intro ?_ ?_
    | refine orf fun _ => ?_
    | refine ort fun _ => ?_)
  all_goals first | (show L _ _ _; exfalso; rename_i hx; clear hL zq Z; subst hA; simp only [Ar.std] at hx; grind [stdCmp]; done) | (clear hL zq Z; subst hA; simp only [Ar.std] at *; grind [stdCmp]; done) | (clear hL zq Z; subst hA; grind [stdCmp, Ar.std]; done)
theorem ok_unite_e : ConOk Try.prog 41 (c_unite_e Ns.std) := by
  refine con_of (FsOk.keeps ok_least_e kp_least_e FsOk.nil) Try.func41 rfl rfl fun xs h p hp => ?_
  unfold c_unite_e at hp
  split at hp
  · cases hp
    exact ⟨lee_le rfl, fun _ _ => @x_unite_e _ _ _⟩
  · cases hp
theorem kp_unite_e : Keeps (c_unite_e Ns.std) := by
  intro xs h p hp
  unfold c_unite_e at hp
  split at hp
  · cases hp
    rfl
  · cases hp

def c_unite_ne (F : Ns) : Con := orCon (c_unite_n F) (c_unite_e F)
theorem ok_unite_ne : ConOk Try.prog 41 (c_unite_ne Ns.std) := or_ok ok_unite_n ok_unite_e
theorem kp_unite_ne : Keeps (c_unite_ne Ns.std) := or_kp kp_unite_n kp_unite_e

def c_sets_n (_ : Ns) : Con := fun xs h => match xs, h with
  | [.one (.val (.pointer none))], [] => some ⟨True, .sa (I 0), [], [Any]⟩
  | _, _ => none
theorem kp_sets_n : Keeps (c_sets_n Ns.std) := by
  intro xs h p hp
  unfold c_sets_n at hp
  split at hp
  · cases hp
    rfl
  · cases hp

def c_sets_e (_ : Ns) : Con := fun xs h => match xs, h with
  | [.one (.ptr 0 0)], [(0, .cells 117 [.val (.slice none 0 0), .val (.slice none 0 0), .val (.int .i64 s)])] => some ⟨True, .sa (I s), [(0, .cells 117 [.val (.slice none 0 0), .val (.slice none 0 0), .val (.int .i64 s)])], [.one (.ptr 0 0)]⟩
  | _, _ => none
theorem kp_sets_e : Keeps (c_sets_e Ns.std) := by
  intro xs h p hp
  unfold c_sets_e at hp
  split at hp
  · cases hp
    rfl
  · cases hp

def c_sets_ne (F : Ns) : Con := orCon (c_sets_n F) (c_sets_e F)
theorem kp_sets_ne : Keeps (c_sets_ne Ns.std) := or_kp kp_sets_n kp_sets_e

theorem aw1 : unB (iota 4) 1 2 = true ∧ okZ (iota 4) (ones 4) = true := by decide +kernel
theorem aw2 : unB (unU (iota 4) 1 2) 3 4 = true ∧ okZ (unU (iota 4) 1 2) (unZ (iota 4) (ones 4) 1 2) = true := by decide +kernel
theorem aw3 : unB (unU (unU (iota 4) 1 2) 3 4) 4 1 = true ∧ okZ (unU (unU (iota 4) 1 2) 3 4) (unZ (unU (iota 4) 1 2) (unZ (iota 4) (ones 4) 1 2) 3 4) = true := by decide +kernel
theorem aw4 : unB (unU (unU (unU (iota 4) 1 2) 3 4) 4 1) 2 3 = false ∧ okZ (unU (unU (unU (iota 4) 1 2) 3 4) 4 1) (unZ (unU (unU (iota 4) 1 2) 3 4) (unZ (unU (iota 4) 1 2) (unZ (iota 4) (ones 4) 1 2) 3 4) 4 1) = true := by decide +kernel
theorem aw5 : lstI (unU (unU (unU (unU (iota 4) 1 2) 3 4) 4 1) 2 3) 3 = 1 ∧ okU (unU (unU (unU (unU (iota 4) 1 2) 3 4) 4 1) 2 3) = true := by decide +kernel
theorem aw6 : unS (unU (unU (unU (iota 4) 1 2) 3 4) 4 1) (unS (unU (unU (iota 4) 1 2) 3 4) (unS (unU (iota 4) 1 2) (unS (iota 4) 4 1 2) 3 4) 4 1) 2 3 = 1 := by decide +kernel

def c_awake (_ : Ns) : Con := fun xs h => match xs, h with
  | [], [] => some ⟨True, .sa (B true), [], []⟩
  | _, _ => none
end Go.Proofs.Ytakebkfhigadiaa.JoN
