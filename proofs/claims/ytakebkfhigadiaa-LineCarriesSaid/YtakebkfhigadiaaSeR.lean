
/-
  senders over the reckoner. No condition.
-/
import Derived.Test.YtakebkfhigadiaaRyOp
namespace Go.Proofs.Ytakebkfhigadiaa.SeR
open Go Go.Proofs.Ytakebkfhigadiaa.Ry

/-- A sender, and an error. -/
structure SD where
  b : Int
  s : Int
  q : List E
  c : Int
  e : Int
def pl (q : List E) (i : Int) : List Int := rl (q.getD i.toNat []) 0
def pq (q : List E) : List (List Int) := q.map fun y => rl y 0
def nq (q : List E) : List E := q.map fun y => [D.ints (rl y 0)]
def shQ (q : List E) : Bool := decide (∀ y ∈ q, (rl y 0).length ≤ 16384)
def byQ (q : List E) : Bool := decide (∀ y ∈ q, ∀ x ∈ rl y 0, 0 ≤ x ∧ x ≤ 255)
def okQ (q : List E) : Bool := decide (q.length ≤ 100000 ∧ ∀ y ∈ q, (rl y 0).length ≤ 1000000)
def maySn (b s : Int) (q : List E) (c : Int) : Bool := shQ q && decide (0 ≤ b ∧ b ≤ 2147483647 ∧ q.length ≤ 256 ∧ 0 ≤ s ∧ s ≤ 16 ∧ s ≤ q.length ∧ 0 ≤ c ∧ c ≤ 4 ∧ (c = 0 ↔ s = 0))
def chS (b s : Int) (q : List E) (c : Int) : Int := if maySn b s q c = true then 0 else 1
def mbS (q : List E) : Int := if (q.length : Int) < 16 then q.length else 16
def zS (e : Int) : SD := ⟨0, 0, [], 0, e⟩
theorem pq_len (q : List E) : (pq q).length = q.length := by simp [pq]
theorem nq_len (q : List E) : (nq q).length = q.length := by simp [nq]
theorem pq_nq (q : List E) : pq (nq q) = pq q := by simp [pq, nq, rl]
theorem pl_mem {q : List E} {i : Int} (h0 : 0 ≤ i) (h : i < q.length) : q.getD i.toNat [] ∈ q := by
  have hi : i.toNat < q.length := by omega
  rw [List.getD_eq_getElem?_getD, List.getElem?_eq_getElem hi]
  exact List.getElem_mem hi
structure XI where
  i : Int
def shT (q : List E) (i : Int) : Bool := decide (∀ y ∈ q.take i.toNat, (rl y 0).length ≤ 16384)
theorem take_next (l : List E) (i : Int) (h0 : 0 ≤ i) (h : i < l.length) : l.take (i + 1).toNat = l.take i.toNat ++ [l.getD i.toNat []] := by
  have e : (i + 1).toNat = i.toNat + 1 := by omega
  have hi : i.toNat < l.length := by omega
  rw [e, List.take_add_one, List.getD_eq_getElem?_getD, List.getElem?_eq_getElem hi]
  rfl
def shP (q : List E) (y : XI) : Prop := 0 ≤ y.i ∧ y.i ≤ q.length ∧ ∀ y' ∈ q.take y.i.toNat, (rl y' 0).length ≤ 16384
theorem sh_zero (q : List E) : shP q ⟨0⟩ := ⟨Int.le_refl 0, Int.natCast_nonneg _, fun y h => by cases h⟩
theorem sh_step (q : List E) (i : Int) (hq : shP q ⟨i⟩) (h : i < q.length) : ((rl (q.getD i.toNat []) 0).length ≤ 16384 → shP q ⟨i + 1⟩) ∧ (¬ (rl (q.getD i.toNat []) 0).length ≤ 16384 → shQ q = false) := by
  obtain ⟨h0, h1, h2⟩ := hq
  simp only at h0 h1 h2
  refine ⟨fun g => ⟨by simp only; omega, by simp only; omega, fun y hy => ?_⟩, fun g => decide_eq_false fun w => g (w _ (pl_mem h0 h))⟩
  rw [take_next q i h0 h] at hy
  rcases List.mem_append.1 hy with hy | hy
  · exact h2 y hy
  · rw [List.mem_singleton] at hy
    rw [hy]
    exact g
theorem sh_end (q : List E) (i : Int) (hq : shP q ⟨i⟩) (h : i = q.length) : shQ q = true := by
  obtain ⟨h0, h1, h2⟩ := hq
  simp only at h2
  rw [h, Int.toNat_natCast, List.take_length] at h2
  exact decide_eq_true h2
noncomputable def ckI (A : Ar) (b s : Int) (q : List E) (c : Int) (y : XI) : St := stOf Try.f63.ntmps [(1, .ptr 1 0), (20, .sl none (.recs (.ints .u8 .nil) q)), (21, .val (.int .i64 (A.lenE q))), (22, .val (.int .i64 y.i))] [(1, .cells 41 [.val (.int .i64 b), .val (.int .i64 s), .sl none (.recs (.ints .u8 .nil) q), .val (.int .i64 c)])] [Any]
def ckM (q : List E) (y : XI) : Nat := q.length - y.i.toNat
def ckR (st : St) : XI := ⟨slotI st 22⟩
def rmR (st : St) : XI := ⟨slotI st 3⟩

structure Fs where
  f_may : Int → Int → List E → Int → Bool
  f_ch : Int → Int → List E → Int → Int
  f_mb : List E → Int
  f_okQ : List E → Bool
  f_nq : List E → List E
  f_lq : List E → Bool
  f_l : List Int → Bool
  f_by2 : List E → List E → Bool
  f_eqQ : List E → List E → Bool
  f_by : List Int → List Int → Bool
  f_eq : List Int → List Int → Bool
def Fs.std : Fs := ⟨maySn, chS, mbS, okQ, nq, fun q => decide (q.length ≤ 100000), fun l => decide (l.length ≤ 1000000), fun p q => byQ p && byQ q, fun p q => decide (pq p = pq q), fun p q => decide ((∀ x ∈ p, 0 ≤ x ∧ x ≤ 255) ∧ ∀ x ∈ q, 0 ≤ x ∧ x ≤ 255), fun p q => decide (p = q)⟩

def c_mb (F : Fs) : Con := fun xs h => match xs, h with
  | [.agg [.val (.int .i64 _), .val (.int .i64 _), .sl none (.recs (.ints .u8 .nil) v_q), .val (.int .i64 _)]], [] => some ⟨True, .sa (I (F.f_mb v_q)), [], [Any]⟩
  | _, _ => none
set_option maxRecDepth 100000 in
theorem x_mb (v_b : Int) (v_s : Int) (v_q : List E) (v_c : Int) : Does [] Try.f75 [.agg [.val (.int .i64 v_b), .val (.int .i64 v_s), .sl none (.recs (.ints .u8 .nil) v_q), .val (.int .i64 v_c)]] [] ⟨True, .sa (I (Fs.std.f_mb v_q)), [], [Any]⟩ := by
  intro b gv
  generalize hF : Fs.std = F
  generalize hA : Ar.std = A
  generalize hL : Lp _ _ _ = L
  obtain ⟨Z, zq⟩ := z_all
  refine cd_open (lp_mono hL) zq rfl ?_
  repeat' (first
    | (refine z_open zq ?_; try dsimp only)
    | refine cd_seq zq ?_ (lp_mono hL)
    | refine cd_blk zq ?_
    | refine cd_ret ?_
    | refine cd_skip ?_
    | refine cd_exit ?_
    | refine cd_loop ?_
    | refine cd_cond rfl ?_
    | refine cd_condT rfl ?_
    | refine cd_condF rfl ?_
    | (refine Cd.mk ?_; cbv)
    | (refine Ends1.mk ?_; cbv)
    | (refine Fin1.mk ?_; cbv)
    | exact trivial
    | refine And.intro ?_ ?_
    | refine orf fun _ => ?_
    | refine ort fun _ => ?_)
  all_goals
    clear hL zq Z
    subst hF hA
    simp only [Fs.std, Ar.std] at *
    try (grind [stdCmp, mbS])
theorem ok_mb : ConOk Try.prog 75 (c_mb Fs.std) := by
  refine con_of FsOk.nil Try.func75 rfl rfl fun xs h p hp => ?_
  unfold c_mb at hp
  split at hp
  · cases hp
    exact ⟨lee_le rfl, fun _ _ => x_mb _ _ _ _⟩
  · cases hp

def c_check (F : Fs) : Con := fun xs h => match xs, h with
  | [.agg [.val (.int .i64 v_b), .val (.int .i64 v_s), .sl none (.recs (.ints .u8 .nil) v_q), .val (.int .i64 v_c)]], [] => some ⟨F.f_lq v_q = true, .sa (I (F.f_ch v_b v_s v_q v_c)), [], [Any]⟩
  | _, _ => none
set_option maxHeartbeats 2000000 in
set_option maxRecDepth 100000 in
theorem x_check (v_b : Int) (v_s : Int) (v_q : List E) (v_c : Int) (hC : Fs.std.f_lq v_q = true) : Does [(75, c_mb Fs.std)] Try.f63 [.agg [.val (.int .i64 v_b), .val (.int .i64 v_s), .sl none (.recs (.ints .u8 .nil) v_q), .val (.int .i64 v_c)]] [] ⟨Fs.std.f_lq v_q = true, .sa (I (Fs.std.f_ch v_b v_s v_q v_c)), [], [Any]⟩ := by
  intro b gv
  have hlq : v_q.length ≤ 100000 := of_decide_eq_true (show decide (v_q.length ≤ 100000) = true from hC)
  have hfs := (FsOk.cons ok_mb FsOk.nil rfl)
  generalize hF : Fs.std = F at hC hfs ⊢
  generalize hA : Ar.std = A
  generalize hL : Lp _ _ _ = L
  obtain ⟨Z, zq⟩ := z_all
  refine cd_open (lp_mono hL) zq rfl ?_
  repeat' (first
    | (refine z_open zq ?_; try dsimp only)
    | refine cd_seq zq ?_ (lp_mono hL)
    | refine cd_blk zq ?_
    | refine cd_ret ?_
    | refine cd_skip ?_
    | refine cd_exit ?_
    | refine cd_loop ?_
    | refine cd_cond rfl ?_
    | refine cd_condT rfl ?_
    | refine cd_condF rfl ?_
    | (refine Cd.mk ?_; cbv)
    | (refine Ends1.mk ?_; cbv)
    | (refine Fin1.mk ?_; cbv)
    | exact trivial
    | refine And.intro ?_ ?_
    | refine orf fun _ => ?_
    | refine ort fun _ => ?_)
  all_goals first | (show L _ _ _; skip) | (clear hfs hL zq Z; subst hA hF; simp only [Fs.std, Ar.std] at * <;> grind [stdCmp, chS, maySn]; done)
  subst hL
  refine loop_z (cx_ok hfs) (shP v_q) (ckI A v_b v_s v_q v_c) (ckM v_q) ckR ⟨0⟩ ?_ ?_ ?_
  · exact sh_zero v_q
  · cbv
    repeat' (first | exact trivial | exact rfl | refine And.intro ?_ ?_)
  rintro ⟨i⟩ hq O hO
  have hst := sh_step v_q i hq
  have hen := sh_end v_q i hq
  have q0 := hq.1
  have q1 := hq.2.1
  dsimp only at q0 q1
  subst hA
  generalize hA : Ar.std = A
  generalize hL : Lp _ _ _ = L
  refine cd_close zq ?_
  repeat' (first
    | (refine z_open zq ?_; try dsimp only)
    | refine cd_seq zq ?_ (lp_mono hL)
    | refine cd_blk zq ?_
    | refine cd_ret ?_
    | refine cd_skip ?_
    | refine cd_exit ?_
    | refine cd_loop ?_
    | refine cd_cond rfl ?_
    | refine cd_condT rfl ?_
    | refine cd_condF rfl ?_
    | (refine Cd.mk ?_; cbv)
    | (refine Ends1.mk ?_; cbv)
    | (refine Fin1.mk ?_; cbv)
    | exact trivial
    | refine And.intro ?_ ?_
    | refine orf fun _ => ?_
    | refine ort fun _ => ?_)
  all_goals (clear hL hfs zq Z hq; subst hA hF hO; simp only [Fs.std, Ar.std] at * <;> grind [stdCmp, b_add, wr, ckM, chS, maySn, mbS])
theorem ok_check : ConOk Try.prog 63 (c_check Fs.std) := by
  refine con_of (FsOk.cons ok_mb FsOk.nil rfl) Try.func63 rfl rfl fun xs h p hp => ?_
  unfold c_check at hp
  split at hp
  · cases hp
    exact ⟨lee_le rfl, fun hC _ => x_check _ _ _ _ hC⟩
  · cases hp

def c_rmay (F : Fs) : Con := fun xs h => match xs, h with
  | [.agg [.val (.int .i64 v_b), .val (.int .i64 v_s), .sl none (.recs (.ints .u8 .nil) v_q), .val (.int .i64 v_c)]], [] => some ⟨F.f_lq v_q = true, .sa (B (F.f_may v_b v_s v_q v_c)), [], [Any]⟩
  | _, _ => none
def c_flist (F : Fs) : Con := fun xs h => match xs, h with
  | [.one (.sl none (.ints .u8 l))], [] => some ⟨F.f_l l = true, .sa (Bytes l), [], [Any]⟩
  | _, _ => none
set_option maxRecDepth 100000 in
theorem x_flist (l : List Int) (hC : Fs.std.f_l l = true) : Does [] Try.f71 [.one (.sl none (.ints .u8 l))] [] ⟨Fs.std.f_l l = true, .sa (Bytes l), [], [Any]⟩ := by
  intro b gv
  generalize hF : Fs.std = F at hC ⊢
  generalize hA : Ar.std = A
  generalize hL : Lp _ _ _ = L
  obtain ⟨Z, zq⟩ := z_all
  refine cd_open (lp_mono hL) zq rfl ?_
  repeat' (first
    | (refine z_open zq ?_; try dsimp only)
    | refine cd_seq zq ?_ (lp_mono hL)
    | refine cd_blk zq ?_
    | refine cd_ret ?_
    | refine cd_skip ?_
    | refine cd_exit ?_
    | refine cd_loop ?_
    | refine cd_cond rfl ?_
    | refine cd_condT rfl ?_
    | refine cd_condF rfl ?_
    | (refine Cd.mk ?_; cbv)
    | (refine Ends1.mk ?_; cbv)
    | (refine Fin1.mk ?_; cbv)
    | exact trivial
    | refine And.intro ?_ ?_
    | refine orf fun _ => ?_
    | refine ort fun _ => ?_)
  all_goals
    clear hL zq Z
    subst hF hA
    have hk : l.length ≤ 1000000 := of_decide_eq_true (show decide (l.length ≤ 1000000) = true from hC)
    simp only [Ar.std, List.nil_append] at *
    try (grind)
theorem ok_flist : ConOk Try.prog 71 (c_flist Fs.std) := by
  refine con_of FsOk.nil Try.func71 rfl rfl fun xs h p hp => ?_
  unfold c_flist at hp
  split at hp
  · cases hp
    exact ⟨lee_le rfl, fun hC _ => x_flist _ hC⟩
  · cases hp

structure XA where
  i : Int
  o : List E
def alQ (q : List E) (y : XA) : Prop := 0 ≤ y.i ∧ y.i ≤ q.length ∧ y.o = nq (q.take y.i.toNat)
noncomputable def alI (A : Ar) (q : List E) (y : XA) : St := stOf Try.f84.ntmps [(1, .val (.func (.func 71) ⟨[]⟩ ⟨[]⟩)), (5, .sl (some (1, 48)) (.recs (.ints .u8 .nil) y.o)), (8, .sl none (.recs (.ints .u8 .nil) q)), (9, .val (.int .i64 (A.lenE q))), (10, .val (.int .i64 y.i))] [(1, .tok)] [Any, Any]
def alR (st : St) : XA := ⟨slotI st 10, slotR st 5⟩
def alM (q : List E) (y : XA) : Nat := q.length - y.i.toNat
theorem al_step (q : List E) (i : Int) (o : List E) (hk : okQ q = true) (hq : alQ q ⟨i, o⟩) (h : i < q.length) : (rl (q.getD i.toNat []) 0).length ≤ 1000000 ∧ o.length ≤ 100000 ∧ alQ q ⟨i + 1, o ++ [[D.ints (rl (q.getD i.toNat []) 0)]]⟩ := by
  obtain ⟨h0, h1, h2⟩ := hq
  simp only at h0 h1 h2
  have hk := of_decide_eq_true hk
  refine ⟨hk.2 _ (pl_mem h0 h), by rw [h2, nq_len, List.length_take]; omega, by simp only; omega, by simp only; omega, ?_⟩
  simp only
  rw [take_next q i h0 h, h2]
  simp [nq]
theorem al_end (q : List E) (i : Int) (o : List E) (hq : alQ q ⟨i, o⟩) (h : i = q.length) : o = nq q := by
  obtain ⟨h0, h1, h2⟩ := hq
  simp only at h2
  rw [h, Int.toNat_natCast, List.take_length] at h2
  exact h2

def c_all (F : Fs) : Con := fun xs h => match xs, h with
  | [.one (.sl none (.recs (.ints .u8 .nil) q)), .one (.val (.func (.func 71) ⟨[]⟩ ⟨[]⟩))], [] => some ⟨F.f_okQ q = true, .sa (.one (.sl (some (0, 48)) (.recs (.ints .u8 .nil) (F.f_nq q)))), [(0, .tok)], [Any, Any]⟩
  | _, _ => none
set_option maxHeartbeats 1000000 in
set_option maxRecDepth 100000 in
theorem x_all (q : List E) (hC : Fs.std.f_okQ q = true) : Does [(71, c_flist Fs.std)] Try.f84 [.one (.sl none (.recs (.ints .u8 .nil) q)), .one (.val (.func (.func 71) ⟨[]⟩ ⟨[]⟩))] [] ⟨Fs.std.f_okQ q = true, .sa (.one (.sl (some (0, 48)) (.recs (.ints .u8 .nil) (Fs.std.f_nq q)))), [(0, .tok)], [Any, Any]⟩ := by
  intro b gv
  have hk : okQ q = true := hC
  have hlq := (of_decide_eq_true hk).1
  have hfs := (FsOk.cons ok_flist FsOk.nil rfl)
  generalize hF : Fs.std = F at hC hfs ⊢
  generalize hA : Ar.std = A
  generalize hL : Lp _ _ _ = L
  obtain ⟨Z, zq⟩ := z_all
  refine cd_open (lp_mono hL) zq rfl ?_
  repeat' (first
    | (refine z_open zq ?_; try dsimp only)
    | refine cd_seq zq ?_ (lp_mono hL)
    | refine cd_blk zq ?_
    | refine cd_ret ?_
    | refine cd_skip ?_
    | refine cd_exit ?_
    | refine cd_loop ?_
    | refine cd_cond rfl ?_
    | refine cd_condT rfl ?_
    | refine cd_condF rfl ?_
    | (refine Cd.mk ?_; cbv)
    | (refine Ends1.mk ?_; cbv)
    | (refine Fin1.mk ?_; cbv)
    | exact trivial
    | refine And.intro ?_ ?_
    | refine orf fun _ => ?_
    | refine ort fun _ => ?_)
  subst hL
  refine loop_z (cx_ok hfs) (alQ q) (alI A q) (alM q) alR ⟨0, []⟩ ?_ ?_ ?_
  · exact ⟨Int.le_refl 0, Int.natCast_nonneg _, rfl⟩
  · cbv
    repeat' (first | exact trivial | exact rfl | refine And.intro ?_ ?_)
  rintro ⟨i, o⟩ hq O hO
  have hst := al_step q i o hk hq
  have hen := al_end q i o hq
  have q0 := hq.1
  have q1 := hq.2.1
  dsimp only at q0 q1
  subst hA
  generalize hA : Ar.std = A
  generalize hL : Lp _ _ _ = L
  refine cd_close zq ?_
  repeat' (first
    | (refine z_open zq ?_; try dsimp only)
    | refine cd_seq zq ?_ (lp_mono hL)
    | refine cd_blk zq ?_
    | refine cd_ret ?_
    | refine cd_skip ?_
    | refine cd_exit ?_
    | refine cd_loop ?_
    | refine cd_cond rfl ?_
    | refine cd_condT rfl ?_
    | refine cd_condF rfl ?_
    | (refine Cd.mk ?_; cbv)
    | (refine Ends1.mk ?_; cbv)
    | (refine Fin1.mk ?_; cbv)
    | exact trivial
    | refine And.intro ?_ ?_
    | refine orf fun _ => ?_
    | refine ort fun _ => ?_)
  all_goals (clear hL hfs zq Z hq; subst hA hF hO; simp only [Fs.std, Ar.std] at * <;> grind [stdCmp, b_add, wr, alM])
theorem ok_all : ConOk Try.prog 84 (c_all Fs.std) := by
  refine con_of (FsOk.cons ok_flist FsOk.nil rfl) Try.func84 rfl rfl fun xs h p hp => ?_
  unfold c_all at hp
  split at hp
  · cases hp
    exact ⟨lee_le rfl, fun hC _ => x_all _ hC⟩
  · cases hp

def c_lists (F : Fs) : Con := fun xs h => match xs, h with
  | [.one (.sl none (.recs (.ints .u8 .nil) q))], [] => some ⟨F.f_okQ q = true, .sa (.one (.sl (some (0, 48)) (.recs (.ints .u8 .nil) (F.f_nq q)))), [(0, .tok)], [Any]⟩
  | _, _ => none
set_option maxRecDepth 100000 in
theorem x_lists (q : List E) (hC : Fs.std.f_okQ q = true) : Does [(84, c_all Fs.std)] Try.f68 [.one (.sl none (.recs (.ints .u8 .nil) q))] [] ⟨Fs.std.f_okQ q = true, .sa (.one (.sl (some (0, 48)) (.recs (.ints .u8 .nil) (Fs.std.f_nq q)))), [(0, .tok)], [Any]⟩ := by
  intro b gv
  generalize hF : Fs.std = F at hC ⊢
  generalize hA : Ar.std = A
  generalize hL : Lp _ _ _ = L
  obtain ⟨Z, zq⟩ := z_all
  refine cd_open (lp_mono hL) zq rfl ?_
  repeat' (first
    | (refine z_open zq ?_; try dsimp only)
    | refine cd_seq zq ?_ (lp_mono hL)
    | refine cd_blk zq ?_
    | refine cd_ret ?_
    | refine cd_skip ?_
    | refine cd_exit ?_
    | refine cd_loop ?_
    | refine cd_cond rfl ?_
    | refine cd_condT rfl ?_
    | refine cd_condF rfl ?_
    | (refine Cd.mk ?_; cbv)
    | (refine Ends1.mk ?_; cbv)
    | (refine Fin1.mk ?_; cbv)
    | exact trivial
    | refine And.intro ?_ ?_
    | refine orf fun _ => ?_
    | refine ort fun _ => ?_)
  all_goals (clear hL zq Z; subst hF hA; simp only [Fs.std] at * <;> grind)
theorem ok_lists : ConOk Try.prog 68 (c_lists Fs.std) := by
  refine con_of (FsOk.cons ok_all FsOk.nil rfl) Try.func68 rfl rfl fun xs h p hp => ?_
  unfold c_lists at hp
  split at hp
  · cases hp
    exact ⟨lee_le rfl, fun hC _ => x_lists _ hC⟩
  · cases hp

def c_copied (F : Fs) : Con := fun xs h => match xs, h with
  | [.agg [.val (.int .i64 v_b), .val (.int .i64 v_s), .sl none (.recs (.ints .u8 .nil) v_q), .val (.int .i64 v_c)]], [] => some ⟨F.f_okQ v_q = true, .sa (.agg [.val (.int .i64 v_b), .val (.int .i64 v_s), .sl (some (0, 48)) (.recs (.ints .u8 .nil) (F.f_nq v_q)), .val (.int .i64 v_c)]), [(0, .tok)], [Any]⟩
  | _, _ => none
set_option maxRecDepth 100000 in
theorem x_copied (v_b : Int) (v_s : Int) (v_q : List E) (v_c : Int) (hC : Fs.std.f_okQ v_q = true) : Does [(68, c_lists Fs.std)] Try.f73 [.agg [.val (.int .i64 v_b), .val (.int .i64 v_s), .sl none (.recs (.ints .u8 .nil) v_q), .val (.int .i64 v_c)]] [] ⟨Fs.std.f_okQ v_q = true, .sa (.agg [.val (.int .i64 v_b), .val (.int .i64 v_s), .sl (some (0, 48)) (.recs (.ints .u8 .nil) (Fs.std.f_nq v_q)), .val (.int .i64 v_c)]), [(0, .tok)], [Any]⟩ := by
  intro b gv
  generalize hF : Fs.std = F at hC ⊢
  generalize hA : Ar.std = A
  generalize hL : Lp _ _ _ = L
  obtain ⟨Z, zq⟩ := z_all
  refine cd_open (lp_mono hL) zq rfl ?_
  repeat' (first
    | (refine z_open zq ?_; try dsimp only)
    | refine cd_seq zq ?_ (lp_mono hL)
    | refine cd_blk zq ?_
    | refine cd_ret ?_
    | refine cd_skip ?_
    | refine cd_exit ?_
    | refine cd_loop ?_
    | refine cd_cond rfl ?_
    | refine cd_condT rfl ?_
    | refine cd_condF rfl ?_
    | (refine Cd.mk ?_; cbv)
    | (refine Ends1.mk ?_; cbv)
    | (refine Fin1.mk ?_; cbv)
    | exact trivial
    | refine And.intro ?_ ?_
    | refine orf fun _ => ?_
    | refine ort fun _ => ?_)
  all_goals (clear hL zq Z; subst hF hA; simp only [Fs.std] at * <;> grind)
theorem ok_copied : ConOk Try.prog 73 (c_copied Fs.std) := by
  refine con_of (FsOk.cons ok_lists FsOk.nil rfl) Try.func73 rfl rfl fun xs h p hp => ?_
  unfold c_copied at hp
  split at hp
  · cases hp
    exact ⟨lee_le rfl, fun hC _ => x_copied _ _ _ _ hC⟩
  · cases hp
end Go.Proofs.Ytakebkfhigadiaa.SeR
