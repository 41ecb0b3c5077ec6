
/-
  the answer's frames over the reckoner. No condition.
-/
import Derived.Test.YtgemoemkgcmcgaaFrR
namespace Go.Proofs.Ytgemoemkgcmcgaa.FrQ
open Go Go.Proofs.Ytgemoemkgcmcgaa.Ry Go.Proofs.Ytgemoemkgcmcgaa.OctR Go.Proofs.Ytgemoemkgcmcgaa.OctP Go.Proofs.Ytgemoemkgcmcgaa.OctQ Go.Proofs.Ytgemoemkgcmcgaa.FrR

open Go.Proofs.Ytgemoemkgcmcgaa.CrcR (c_rseal ok_rseal c_ropen ok_ropen)
def byt (l : List Int) : List Int := l.map fun n => ((UInt8.ofNat n.toNat).toNat : Int)
structure XM where
  i : Int
def rmQ (s q a : Int) (y : XM) : Prop := 0 ≤ y.i ∧ y.i ≤ 3 ∧ (1 ≤ y.i → isC s = true) ∧ (2 ≤ y.i → isC q = true) ∧ (3 ≤ y.i → isC a = true)
noncomputable def rmI (A : Ar) (k s q a : Int) (p : List Int) (y : XM) : St := stOf Try.f50.ntmps [(1, .ptr 1 0), (11, .sl none (.ints .i64 [s, q, a])), (12, .val (.int .i64 (A.lenI [s, q, a]))), (13, .val (.int .i64 y.i))] [(1, .cells 62 [.val (.int .i64 k), .val (.int .i64 s), .val (.int .i64 q), .val (.int .i64 a), .sl none (.ints .u8 p)])] [Any]
def rmM (y : XM) : Nat := (3 - y.i).toNat
def rmR (st : St) : XM := ⟨slotI st 13⟩
theorem rm_step {k s q a : Int} {p : List Int} {i : Int} (hq : rmQ s q a ⟨i⟩) (h : i < 3) : (isC ([s, q, a].getD i.toNat 0) = true → rmQ s q a ⟨i + 1⟩) ∧ (isC ([s, q, a].getD i.toNat 0) = false → mayF k s q a p = false) := by
  obtain ⟨h0, h1, h2, h3, h4⟩ := hq
  simp only at h0 h1 h2 h3 h4
  have : i = 0 ∨ i = 1 ∨ i = 2 := by omega
  rcases this with rfl | rfl | rfl
  · refine ⟨fun q => ⟨by simp only; omega, by simp only; omega, fun _ => q, fun g => by simp only at g; omega, fun g => by simp only at g; omega⟩, fun q => ?_⟩
    have q : isC s = false := q
    unfold mayF
    rw [q]
    simp
  · refine ⟨fun q => ⟨by simp only; omega, by simp only; omega, fun _ => h2 (by omega), fun _ => q, fun g => by simp only at g; omega⟩, fun q' => ?_⟩
    have q' : isC q = false := q'
    unfold mayF
    rw [q']
    simp
  · refine ⟨fun q => ⟨by simp only; omega, by simp only; omega, fun _ => h2 (by omega), fun _ => h3 (by omega), fun _ => q⟩, fun q' => ?_⟩
    have q' : isC a = false := q'
    unfold mayF
    rw [q']
    simp
theorem rm_end {k s q a : Int} {p : List Int} {i : Int} (hq : rmQ s q a ⟨i⟩) (h : ¬ i < 3) : mayF k s q a p = (decide (1 ≤ k ∧ k ≤ 5) && decide (p.length ≤ 16384) && (decide (k = 3) || decide (p.length = 0))) := by
  obtain ⟨h0, h1, h2, h3, h4⟩ := hq
  simp only at h0 h1 h2 h3 h4
  unfold mayF
  rw [h2 (by omega), h3 (by omega), h4 (by omega)]
  simp
/-- What the answer reads: of all the bytes, and written back. -/
def rrF (l c : List Int) : DF :=
  let r1 := tkR c 0 2
  let e1 := tkE c 0 2
  let k := tkN r1 e1 1
  let r2 := tkR r1 e1 1
  let e2 := tkE r1 e1 1
  let s := tkN r2 e2 4
  let r3 := tkR r2 e2 4
  let e3 := tkE r2 e2 4
  let q := tkN r3 e3 4
  let r4 := tkR r3 e3 4
  let e4 := tkE r3 e3 4
  let a := tkN r4 e4 4
  let p := tkR r4 e4 4
  let e5 := tkE r4 e4 4
  if e5 = 0 ∧ mayF k s q a p = true ∧ byt (CrcR.sealI (bodyF k s q a p)) = byt l then ⟨k, s, q, a, p, 0⟩ else zF 5
def rdecF (l : List Int) : DF := if 16403 < l.length then zF 3 else if l.length < 19 then zF 5 else if CrcR.goodB l = true then rrF l (CrcR.ropenI l) else zF 6
theorem by_tk (r : List Int) (e w : Int) (h : byB r = true) : byB (tkR r e w) = true := by
  unfold tkR
  split
  · simp only [byB, decide_eq_true_eq] at *
    exact fun x hx => h x (List.mem_of_mem_drop hx)
  · exact h
theorem by_open (l : List Int) (h : byB l = true) : byB (CrcR.ropenI l) = true := by
  unfold CrcR.ropenI
  split
  · rfl
  · simp only [byB, decide_eq_true_eq] at *
    exact fun x hx => h x (List.mem_of_mem_take hx)
theorem by_crc {l : List Int} (h : byB l = true) (hl : l.length ≤ 16403) : CrcR.okB l = true := by
  have h := of_decide_eq_true h
  exact decide_eq_true ⟨by omega, fun x hx => (h x hx).1⟩
theorem body_ok {k s q a : Int} {p : List Int} (h : mayF k s q a p = true) (hp : byB p = true) : CrcR.okB (bodyF k s q a p) = true ∧ fits k 1 = true ∧ fits s 4 = true ∧ fits q 4 = true ∧ fits a 4 = true ∧ fits p.length 2 = true ∧ (bodyF k s q a p).length = 15 + p.length ∧ okR (bodyF k s q a p) = true := by
  have h5 := put5 h
  simp only [okP, Bool.and_eq_true] at h5
  have n2 := num_by h5.1.1
  have n1 := num_by h5.2.1.1
  have ns := num_by h5.2.2.1.1
  have nq := num_by h5.2.2.2.1.1
  have na := num_by h5.2.2.2.2.1.1
  have hp := of_decide_eq_true hp
  have hb : ∀ x ∈ bodyF k s q a p, 0 ≤ x ∧ x ≤ 255 := by
    intro x hx
    simp only [bodyF, List.mem_append] at hx
    rcases hx with ((((hx | hx) | hx) | hx) | hx) | hx
    · exact n2 x hx
    · exact n1 x hx
    · exact ns x hx
    · exact nq x hx
    · exact na x hx
    · exact hp x hx
  have hl : (bodyF k s q a p).length ≤ 1000000 := by omega
  refine ⟨decide_eq_true ⟨hl, fun x hx => (hb x hx).1⟩, h5.2.1.1, h5.2.2.1.1, h5.2.2.2.1.1, h5.2.2.2.2.1.1, h5.1.1, h5.2.2.2.2.2.2.1, ?_⟩
  unfold okR byB shB
  rw [decide_eq_true hb, decide_eq_true hl]
  rfl

theorem byt_by {p : List Int} (h : byB p = true) : byt p = p := byt_id (of_decide_eq_true h)
theorem okN_of {n w : Int} (h : fits n w = true) : okN n w = true := by
  have hf := fits_is h
  simp only [fits, Bool.and_eq_true] at h
  unfold okN
  rw [h.2, decide_eq_true (by omega)]
  rfl

structure Qs where
  q_may : Int → Int → Int → Int → List Int → Bool
  q_ok : List Int → Bool
  q_dec : List Int → DF
  q_go : Int → Int → Int → Int → List Int → Bool
  q_seal : Int → Int → Int → Int → List Int → List Int
  q_sm : Int → Int → Int → Int → List Int → Int → Int → Int → Int → List Int → Bool
  q_by : List Int → List Int → Bool
  q_eq : List Int → List Int → Bool
def Qs.std : Qs := ⟨mayF, byB, rdecF, fun k s q a p => mayF k s q a p && byB p, fun k s q a p => CrcR.sealI (bodyF k s q a p), smF, fun p q => byB p && byB q, fun p q => decide (p = q)⟩

def c_rmay (F : Qs) : Con := fun xs h => match xs, h with
  | [.agg [.val (.int .i64 f_k), .val (.int .i64 f_s), .val (.int .i64 f_q), .val (.int .i64 f_a), .sl none (.ints .u8 f_p)]], [] => some ⟨True, .sa (B (F.q_may f_k f_s f_q f_a f_p)), [], [Any]⟩
  | _, _ => none
set_option maxHeartbeats 1000000 in
set_option maxRecDepth 100000 in
theorem x_rmay (f_k : Int) (f_s : Int) (f_q : Int) (f_a : Int) (f_p : List Int) : Does [] Try.f50 [.agg [.val (.int .i64 f_k), .val (.int .i64 f_s), .val (.int .i64 f_q), .val (.int .i64 f_a), .sl none (.ints .u8 f_p)]] [] ⟨True, .sa (B (Qs.std.q_may f_k f_s f_q f_a f_p)), [], [Any]⟩ := by
  intro b gv
  have hfs := FsOk.nil
  generalize hF : Qs.std = F at hfs ⊢
  generalize hA : Ar.std = A
  generalize hL : Lp _ _ _ = L
  obtain ⟨Z, zq⟩ := z_all
  refine cd_open (lp_mono hL) zq rfl ?_
  repeat' (first
    | (refine z_open zq ?_; try dsimp only)
    | refine cd_seq zq ?_ (lp_mono hL)
    | refine cd_blk zq ?_
    | refine cd_ret ?_
    | refine cd_skip ?_
    | refine cd_exit ?_
    | refine cd_loop ?_
    | refine cd_cond rfl ?_
    | refine cd_condT rfl ?_
    | refine cd_condF rfl ?_
    | (refine Cd.mk ?_; cbv)
    | (refine Ends1.mk ?_; cbv)
    | (refine Fin1.mk ?_; cbv)
    | exact trivial
    | refine And.intro ?_ ?_
    | refine orf fun _ => ?_
    | refine ort fun _ => ?_)
  subst hL
  refine loop_z (cx_ok hfs) (rmQ f_s f_q f_a) (rmI A f_k f_s f_q f_a f_p) rmM rmR ⟨0⟩ ?_ ?_ ?_
  · exact ⟨Int.le_refl 0, show (0 : Int) ≤ 3 by decide, fun g => absurd g (by simp only; omega), fun g => absurd g (by simp only; omega), fun g => absurd g (by simp only; omega)⟩
  · cbv
    repeat' (first | exact trivial | exact rfl | refine And.intro ?_ ?_)
  rintro ⟨i⟩ hq O hO
  have hst := rm_step (k := f_k) (p := f_p) hq
  have hen := rm_end (k := f_k) (p := f_p) hq
  have q0 := hq.1
  have q1 := hq.2.1
  dsimp only at q0 q1
  subst hA
  generalize hA : Ar.std = A
  generalize hL : Lp _ _ _ = L
  refine cd_close zq ?_
  repeat' (first
    | (refine z_open zq ?_; try dsimp only)
    | refine cd_seq zq ?_ (lp_mono hL)
    | refine cd_blk zq ?_
    | refine cd_ret ?_
    | refine cd_skip ?_
    | refine cd_exit ?_
    | refine cd_loop ?_
    | refine cd_cond rfl ?_
    | refine cd_condT rfl ?_
    | refine cd_condF rfl ?_
    | (refine Cd.mk ?_; cbv)
    | (refine Ends1.mk ?_; cbv)
    | (refine Fin1.mk ?_; cbv)
    | exact trivial
    | refine And.intro ?_ ?_
    | refine orf fun _ => ?_
    | refine ort fun _ => ?_)
  all_goals (clear hL hfs zq Z hq; subst hA hF hO; simp only [Qs.std, Ar.std] at * <;> grind [stdCmp, b_add, wr, rmM, isC])
theorem ok_rmay : ConOk Try.prog 50 (c_rmay Qs.std) := by
  refine con_of FsOk.nil Try.func50 rfl rfl fun xs h p hp => ?_
  unfold c_rmay at hp
  split at hp
  · cases hp
    exact ⟨lee_le rfl, fun _ _ => x_rmay _ _ _ _ _⟩
  · cases hp

def c_rbytes (F : Qs) : Con := fun xs h => match xs, h with
  | [.agg [.val (.int .i64 f_k), .val (.int .i64 f_s), .val (.int .i64 f_q), .val (.int .i64 f_a), .sl none (.ints .u8 f_p)]], [] => some ⟨F.q_go f_k f_s f_q f_a f_p = true, .sa (Bytes (F.q_seal f_k f_s f_q f_a f_p)), [], [Any]⟩
  | _, _ => none
set_option maxHeartbeats 1000000 in
set_option maxRecDepth 100000 in
theorem x_rbytes (f_k : Int) (f_s : Int) (f_q : Int) (f_a : Int) (f_p : List Int) (hC : Qs.std.q_go f_k f_s f_q f_a f_p = true) : Does [(68, c_rnumc Hs.std), (69, c_rseal CrcR.Fs.std)] Try.f20 [.agg [.val (.int .i64 f_k), .val (.int .i64 f_s), .val (.int .i64 f_q), .val (.int .i64 f_a), .sl none (.ints .u8 f_p)]] [] ⟨Qs.std.q_go f_k f_s f_q f_a f_p = true, .sa (Bytes (Qs.std.q_seal f_k f_s f_q f_a f_p)), [], [Any]⟩ := by
  intro b gv
  have hk : mayF f_k f_s f_q f_a f_p = true ∧ byB f_p = true := by
    have h : (mayF f_k f_s f_q f_a f_p && byB f_p) = true := hC
    simpa using h
  have h5 := put5 hk.1
  have h6 := body_ok hk.1 hk.2
  have n1 := okN_of h6.2.1
  have ns := okN_of h6.2.2.1
  have nq := okN_of h6.2.2.2.1
  have na := okN_of h6.2.2.2.2.1
  have np := okN_of h6.2.2.2.2.2.1
  have hfs := (FsOk.cons ok_rnumc (FsOk.cons ok_rseal FsOk.nil rfl) rfl)
  generalize hF : Qs.std = F at hC hfs ⊢
  generalize hG0 : Hs.std = G0 at hC hfs ⊢
  generalize hG1 : CrcR.Fs.std = G1 at hC hfs ⊢
  generalize hA : Ar.std = A
  generalize hL : Lp _ _ _ = L
  obtain ⟨Z, zq⟩ := z_all
  refine cd_open (lp_mono hL) zq rfl ?_
  repeat' (first
    | (refine z_open zq ?_; try dsimp only)
    | refine cd_seq zq ?_ (lp_mono hL)
    | refine cd_blk zq ?_
    | refine cd_ret ?_
    | refine cd_skip ?_
    | refine cd_exit ?_
    | refine cd_loop ?_
    | refine cd_cond rfl ?_
    | refine cd_condT rfl ?_
    | refine cd_condF rfl ?_
    | (refine Cd.mk ?_; cbv)
    | (refine Ends1.mk ?_; cbv)
    | (refine Fin1.mk ?_; cbv)
    | exact trivial
    | refine And.intro ?_ ?_
    | refine orf fun _ => ?_
    | refine ort fun _ => ?_)
  all_goals
    clear hL zq Z hfs
    subst hF hA hG0 hG1
    simp only [Qs.std, Hs.std, CrcR.Fs.std, Ar.std] at *
    try (grind [stdCmp, bodyF, num_len])
theorem ok_rbytes : ConOk Try.prog 20 (c_rbytes Qs.std) := by
  refine con_of (FsOk.cons ok_rnumc (FsOk.cons ok_rseal FsOk.nil rfl) rfl) Try.func20 rfl rfl fun xs h p hp => ?_
  unfold c_rbytes at hp
  split at hp
  · cases hp
    exact ⟨lee_le rfl, fun hC _ => x_rbytes _ _ _ _ _ hC⟩
  · cases hp

def c_rdecode (F : Qs) : Con := fun xs h => match xs, h with
  | [.one (.sl none (.ints .u8 l))], [] => some ⟨F.q_ok l = true, .tup [.agg [.val (.int .i64 (F.q_dec l).k), .val (.int .i64 (F.q_dec l).s), .val (.int .i64 (F.q_dec l).q), .val (.int .i64 (F.q_dec l).a), .sl none (.ints .u8 (F.q_dec l).p)], I (F.q_dec l).e], [], [Any]⟩
  | _, _ => none
set_option maxHeartbeats 4000000 in
set_option maxRecDepth 100000 in
theorem x_rdecode (l : List Int) (hC : Qs.std.q_ok l = true) : Does [(107, c_ropen CrcR.Fs.std), (108, c_rtake Gs.std), (50, c_rmay Qs.std), (20, c_rbytes Qs.std)] Try.f51 [.one (.sl none (.ints .u8 l))] [] ⟨Qs.std.q_ok l = true, .tup [.agg [.val (.int .i64 (Qs.std.q_dec l).k), .val (.int .i64 (Qs.std.q_dec l).s), .val (.int .i64 (Qs.std.q_dec l).q), .val (.int .i64 (Qs.std.q_dec l).a), .sl none (.ints .u8 (Qs.std.q_dec l).p)], I (Qs.std.q_dec l).e], [], [Any]⟩ := by
  intro b gv
  have hl : byB l = true := hC
  have hcr : l.length ≤ 16403 → CrcR.okB l = true := by_crc hl
  have o0 := by_open l hl
  have o1 := by_tk _ 0 2 o0
  have o2 := by_tk _ (tkE (CrcR.ropenI l) 0 2) 1 o1
  have hfs := (FsOk.cons ok_ropen (FsOk.cons ok_rtake (FsOk.cons ok_rmay (FsOk.cons ok_rbytes FsOk.nil rfl) rfl) rfl) rfl)
  generalize hF : Qs.std = F at hC hfs ⊢
  generalize hG0 : Gs.std = G0 at hC hfs ⊢
  generalize hG1 : CrcR.Fs.std = G1 at hC hfs ⊢
  generalize hA : Ar.std = A
  generalize hL : Lp _ _ _ = L
  obtain ⟨Z, zq⟩ := z_all
  refine cd_open (lp_mono hL) zq rfl ?_
  repeat' (first
    | (refine z_open zq ?_; try dsimp only)
    | refine cd_seq zq ?_ (lp_mono hL)
    | refine cd_blk zq ?_
    | refine cd_ret ?_
    | refine cd_skip ?_
    | refine cd_exit ?_
    | refine cd_loop ?_
    | refine cd_cond rfl ?_
    | refine cd_condT rfl ?_
    | refine cd_condF rfl ?_
    | (refine Cd.mk ?_; cbv)
    | (refine Ends1.mk ?_; cbv)
    | (refine Fin1.mk ?_; cbv)
    | exact trivial
    | refine And.intro ?_ ?_
    | refine orf fun _ => ?_
    | refine ort fun _ => ?_)
  all_goals
    clear hL zq Z hfs
    subst hF hA hG0 hG1
    simp only [Qs.std, Gs.std, Fs.std, CrcR.Fs.std, Ar.std] at *
    try (grind [stdCmp, rdecF, rrF, zF, byt, by_tk])
theorem ok_rdecode : ConOk Try.prog 51 (c_rdecode Qs.std) := by
  refine con_of (FsOk.cons ok_ropen (FsOk.cons ok_rtake (FsOk.cons ok_rmay (FsOk.cons ok_rbytes FsOk.nil rfl) rfl) rfl) rfl) Try.func51 rfl rfl fun xs h p hp => ?_
  unfold c_rdecode at hp
  split at hp
  · cases hp
    exact ⟨lee_le rfl, fun hC _ => x_rdecode _ hC⟩
  · cases hp

def c_beq (F : Qs) : Con := fun xs h => match xs, h with
  | [.one (.sl none (.ints .u8 p)), .one (.sl none (.ints .u8 q))], [] => some ⟨F.q_by p q = true, .sa (B (F.q_eq p q)), [], [Any, Any]⟩
  | _, _ => none
set_option maxRecDepth 100000 in
theorem x_beq (p : List Int) (q : List Int) (hC : Qs.std.q_by p q = true) : Does [] Try.f168 [.one (.sl none (.ints .u8 p)), .one (.sl none (.ints .u8 q))] [] ⟨Qs.std.q_by p q = true, .sa (B (Qs.std.q_eq p q)), [], [Any, Any]⟩ := by
  intro b gv
  have hk : byB p = true ∧ byB q = true := by
    have h : (byB p && byB q) = true := hC
    simpa using h
  have e1 := byt_by hk.1
  have e2 := byt_by hk.2
  generalize hF : Qs.std = F at hC ⊢
  generalize hA : Ar.std = A
  generalize hL : Lp _ _ _ = L
  obtain ⟨Z, zq⟩ := z_all
  refine cd_open (lp_mono hL) zq rfl ?_
  repeat' (first
    | (refine z_open zq ?_; try dsimp only)
    | refine cd_seq zq ?_ (lp_mono hL)
    | refine cd_blk zq ?_
    | refine cd_ret ?_
    | refine cd_skip ?_
    | refine cd_exit ?_
    | refine cd_loop ?_
    | refine cd_cond rfl ?_
    | refine cd_condT rfl ?_
    | refine cd_condF rfl ?_
    | (refine Cd.mk ?_; cbv)
    | (refine Ends1.mk ?_; cbv)
    | (refine Fin1.mk ?_; cbv)
    | exact trivial
    | refine And.intro ?_ ?_
    | refine orf fun _ => ?_
    | refine ort fun _ => ?_)
  all_goals
    clear hL zq Z
    subst hF hA
    simp only [Qs.std, Ar.std] at *
    try (grind [byt])
theorem ok_beq : ConOk Try.prog 168 (c_beq Qs.std) := by
  refine con_of FsOk.nil Try.func168 rfl rfl fun xs h p hp => ?_
  unfold c_beq at hp
  split at hp
  · cases hp
    exact ⟨lee_le rfl, fun hC _ => x_beq _ _ hC⟩
  · cases hp

def c_same (F : Qs) : Con := fun xs h => match xs, h with
  | [.agg [.val (.int .i64 x_k), .val (.int .i64 x_s), .val (.int .i64 x_q), .val (.int .i64 x_a), .sl none (.ints .u8 x_p)], .agg [.val (.int .i64 y_k), .val (.int .i64 y_s), .val (.int .i64 y_q), .val (.int .i64 y_a), .sl none (.ints .u8 y_p)]], [] => some ⟨F.q_by x_p y_p = true, .sa (B (F.q_sm x_k x_s x_q x_a x_p y_k y_s y_q y_a y_p)), [], [Any, Any]⟩
  | _, _ => none
def c_rsame (F : Qs) : Con := fun xs h => match xs, h with
  | [.agg [.val (.int .i64 x_k), .val (.int .i64 x_s), .val (.int .i64 x_q), .val (.int .i64 x_a), .sl none (.ints .u8 x_p)], .agg [.val (.int .i64 y_k), .val (.int .i64 y_s), .val (.int .i64 y_q), .val (.int .i64 y_a), .sl none (.ints .u8 y_p)]], [] => some ⟨F.q_by x_p y_p = true, .sa (B (F.q_sm x_k x_s x_q x_a x_p y_k y_s y_q y_a y_p)), [], [Any, Any]⟩
  | _, _ => none
end Go.Proofs.Ytgemoemkgcmcgaa.FrQ
