
/-
  the answer's frames over the reckoner. No condition.
-/
import Derived.Test.YtakebkfhigadiaaFrR
namespace Go.Proofs.Ytakebkfhigadiaa.FrQ
open Go Go.Proofs.Ytakebkfhigadiaa.Ry Go.Proofs.Ytakebkfhigadiaa.OctR Go.Proofs.Ytakebkfhigadiaa.OctP Go.Proofs.Ytakebkfhigadiaa.OctQ Go.Proofs.Ytakebkfhigadiaa.FrR

open Go.Proofs.Ytakebkfhigadiaa.CrcR (c_rseal c_ropen)
def byt (l : List Int) : List Int := l.map fun n => ((UInt8.ofNat n.toNat).toNat : Int)
structure XM where
  i : Int
def rmQ (s q a : Int) (y : XM) : Prop := 0 ≤ y.i ∧ y.i ≤ 3 ∧ (1 ≤ y.i → isC s = true) ∧ (2 ≤ y.i → isC q = true) ∧ (3 ≤ y.i → isC a = true)
def rmM (y : XM) : Nat := (3 - y.i).toNat
def rmR (st : St) : XM := ⟨slotI st 13⟩
theorem rm_step {k s q a : Int} {p : List Int} {i : Int} (hq : rmQ s q a ⟨i⟩) (h : i < 3) : (isC ([s, q, a].getD i.toNat 0) = true → rmQ s q a ⟨i + 1⟩) ∧ (isC ([s, q, a].getD i.toNat 0) = false → mayF k s q a p = false) := by
  obtain ⟨h0, h1, h2, h3, h4⟩ := hq
  simp only at h0 h1 h2 h3 h4
  have : i = 0 ∨ i = 1 ∨ i = 2 := by omega
  rcases this with rfl | rfl | rfl
  · refine ⟨fun q => ⟨by simp only; omega, by simp only; omega, fun _ => q, fun g => by simp only at g; omega, fun g => by simp only at g; omega⟩, fun q => ?_⟩
    have q : isC s = false := q
    unfold mayF
    rw [q]
    simp
  · refine ⟨fun q => ⟨by simp only; omega, by simp only; omega, fun _ => h2 (by omega), fun _ => q, fun g => by simp only at g; omega⟩, fun q' => ?_⟩
    have q' : isC q = false := q'
    unfold mayF
    rw [q']
    simp
  · refine ⟨fun q => ⟨by simp only; omega, by simp only; omega, fun _ => h2 (by omega), fun _ => h3 (by omega), fun _ => q⟩, fun q' => ?_⟩
    have q' : isC a = false := q'
    unfold mayF
    rw [q']
    simp
theorem rm_end {k s q a : Int} {p : List Int} {i : Int} (hq : rmQ s q a ⟨i⟩) (h : ¬ i < 3) : mayF k s q a p = (decide (1 ≤ k ∧ k ≤ 5) && decide (p.length ≤ 16384) && (decide (k = 3) || decide (p.length = 0))) := by
  obtain ⟨h0, h1, h2, h3, h4⟩ := hq
  simp only at h0 h1 h2 h3 h4
  unfold mayF
  rw [h2 (by omega), h3 (by omega), h4 (by omega)]
  simp
/-- What the answer reads: of all the bytes, and written back. -/
def rrF (l c : List Int) : DF :=
  let r1 := tkR c 0 2
  let e1 := tkE c 0 2
  let k := tkN r1 e1 1
  let r2 := tkR r1 e1 1
  let e2 := tkE r1 e1 1
  let s := tkN r2 e2 4
  let r3 := tkR r2 e2 4
  let e3 := tkE r2 e2 4
  let q := tkN r3 e3 4
  let r4 := tkR r3 e3 4
  let e4 := tkE r3 e3 4
  let a := tkN r4 e4 4
  let p := tkR r4 e4 4
  let e5 := tkE r4 e4 4
  if e5 = 0 ∧ mayF k s q a p = true ∧ byt (CrcR.sealI (bodyF k s q a p)) = byt l then ⟨k, s, q, a, p, 0⟩ else zF 5
def rdecF (l : List Int) : DF := if 16403 < l.length then zF 3 else if l.length < 19 then zF 5 else if CrcR.goodB l = true then rrF l (CrcR.ropenI l) else zF 6
theorem by_tk (r : List Int) (e w : Int) (h : byB r = true) : byB (tkR r e w) = true := by
  unfold tkR
  split
  · simp only [byB, decide_eq_true_eq] at *
    exact fun x hx => h x (List.mem_of_mem_drop hx)
  · exact h
theorem by_open (l : List Int) (h : byB l = true) : byB (CrcR.ropenI l) = true := by
  unfold CrcR.ropenI
  split
  · rfl
  · simp only [byB, decide_eq_true_eq] at *
    exact fun x hx => h x (List.mem_of_mem_take hx)
theorem by_crc {l : List Int} (h : byB l = true) (hl : l.length ≤ 16403) : CrcR.okB l = true := by
  have h := of_decide_eq_true h
  exact decide_eq_true ⟨by omega, fun x hx => (h x hx).1⟩
theorem body_ok {k s q a : Int} {p : List Int} (h : mayF k s q a p = true) (hp : byB p = true) : CrcR.okB (bodyF k s q a p) = true ∧ fits k 1 = true ∧ fits s 4 = true ∧ fits q 4 = true ∧ fits a 4 = true ∧ fits p.length 2 = true ∧ (bodyF k s q a p).length = 15 + p.length ∧ okR (bodyF k s q a p) = true := by
  have h5 := put5 h
  simp only [okP, Bool.and_eq_true] at h5
  have n2 := num_by h5.1.1
  have n1 := num_by h5.2.1.1
  have ns := num_by h5.2.2.1.1
  have nq := num_by h5.2.2.2.1.1
  have na := num_by h5.2.2.2.2.1.1
  have hp := of_decide_eq_true hp
  have hb : ∀ x ∈ bodyF k s q a p, 0 ≤ x ∧ x ≤ 255 := by
    intro x hx
    simp only [bodyF, List.mem_append] at hx
    rcases hx with ((((hx | hx) | hx) | hx) | hx) | hx
    · exact n2 x hx
    · exact n1 x hx
    · exact ns x hx
    · exact nq x hx
    · exact na x hx
    · exact hp x hx
  have hl : (bodyF k s q a p).length ≤ 1000000 := by omega
  refine ⟨decide_eq_true ⟨hl, fun x hx => (hb x hx).1⟩, h5.2.1.1, h5.2.2.1.1, h5.2.2.2.1.1, h5.2.2.2.2.1.1, h5.1.1, h5.2.2.2.2.2.2.1, ?_⟩
  unfold okR byB shB
  rw [decide_eq_true hb, decide_eq_true hl]
  rfl

theorem byt_by {p : List Int} (h : byB p = true) : byt p = p := byt_id (of_decide_eq_true h)
theorem okN_of {n w : Int} (h : fits n w = true) : okN n w = true := by
  have hf := fits_is h
  simp only [fits, Bool.and_eq_true] at h
  unfold okN
  rw [h.2, decide_eq_true (by omega)]
  rfl

structure Qs where
  q_may : Int → Int → Int → Int → List Int → Bool
  q_ok : List Int → Bool
  q_dec : List Int → DF
  q_go : Int → Int → Int → Int → List Int → Bool
  q_seal : Int → Int → Int → Int → List Int → List Int
  q_sm : Int → Int → Int → Int → List Int → Int → Int → Int → Int → List Int → Bool
  q_by : List Int → List Int → Bool
  q_eq : List Int → List Int → Bool
def Qs.std : Qs := ⟨mayF, byB, rdecF, fun k s q a p => mayF k s q a p && byB p, fun k s q a p => CrcR.sealI (bodyF k s q a p), smF, fun p q => byB p && byB q, fun p q => decide (p = q)⟩

def c_rmay (F : Qs) : Con := fun xs h => match xs, h with
  | [.agg [.val (.int .i64 f_k), .val (.int .i64 f_s), .val (.int .i64 f_q), .val (.int .i64 f_a), .sl none (.ints .u8 f_p)]], [] => some ⟨True, .sa (B (F.q_may f_k f_s f_q f_a f_p)), [], [Any]⟩
  | _, _ => none
def c_rbytes (F : Qs) : Con := fun xs h => match xs, h with
  | [.agg [.val (.int .i64 f_k), .val (.int .i64 f_s), .val (.int .i64 f_q), .val (.int .i64 f_a), .sl none (.ints .u8 f_p)]], [] => some ⟨F.q_go f_k f_s f_q f_a f_p = true, .sa (Bytes (F.q_seal f_k f_s f_q f_a f_p)), [], [Any]⟩
  | _, _ => none
def c_rdecode (F : Qs) : Con := fun xs h => match xs, h with
  | [.one (.sl none (.ints .u8 l))], [] => some ⟨F.q_ok l = true, .tup [.agg [.val (.int .i64 (F.q_dec l).k), .val (.int .i64 (F.q_dec l).s), .val (.int .i64 (F.q_dec l).q), .val (.int .i64 (F.q_dec l).a), .sl none (.ints .u8 (F.q_dec l).p)], I (F.q_dec l).e], [], [Any]⟩
  | _, _ => none
def c_beq (F : Qs) : Con := fun xs h => match xs, h with
  | [.one (.sl none (.ints .u8 p)), .one (.sl none (.ints .u8 q))], [] => some ⟨F.q_by p q = true, .sa (B (F.q_eq p q)), [], [Any, Any]⟩
  | _, _ => none
set_option maxRecDepth 100000 in
theorem x_beq (p : List Int) (q : List Int) (hC : Qs.std.q_by p q = true) : Does [] Try.f98 [.one (.sl none (.ints .u8 p)), .one (.sl none (.ints .u8 q))] [] ⟨Qs.std.q_by p q = true, .sa (B (Qs.std.q_eq p q)), [], [Any, Any]⟩ := by
  intro b gv
  have hk : byB p = true ∧ byB q = true := by
    have h : (byB p && byB q) = true := hC
    simpa using h
  have e1 := byt_by hk.1
  have e2 := byt_by hk.2
  generalize hF : Qs.std = F at hC ⊢
  generalize hA : Ar.std = A
  generalize hL : Lp _ _ _ = L
  obtain ⟨Z, zq⟩ := z_all
  refine cd_open (lp_mono hL) zq rfl ?_
  repeat' (first
    | (refine z_open zq ?_; try dsimp only)
    | refine cd_seq zq ?_ (lp_mono hL)
    | refine cd_blk zq ?_
    | refine cd_ret ?_
    | refine cd_skip ?_
    | refine cd_exit ?_
    | refine cd_loop ?_
    | refine cd_cond rfl ?_
    | refine cd_condT rfl ?_
    | refine cd_condF rfl ?_
    | (refine Cd.mk ?_; cbv)
    | (refine Ends1.mk ?_; cbv)
    | (refine Fin1.mk ?_; cbv)
    | exact trivial
    | refine And.intro ?_ ?_
    | refine orf fun _ => ?_
    | refine ort fun _ => ?_)
  all_goals
    clear hL zq Z
    subst hF hA
    simp only [Qs.std, Ar.std] at *
    try (grind [byt])
theorem ok_beq : ConOk Try.prog 98 (c_beq Qs.std) := by
  refine con_of FsOk.nil Try.func98 rfl rfl fun xs h p hp => ?_
  unfold c_beq at hp
  split at hp
  · cases hp
    exact ⟨lee_le rfl, fun hC _ => x_beq _ _ hC⟩
  · cases hp

def c_same (F : Qs) : Con := fun xs h => match xs, h with
  | [.agg [.val (.int .i64 x_k), .val (.int .i64 x_s), .val (.int .i64 x_q), .val (.int .i64 x_a), .sl none (.ints .u8 x_p)], .agg [.val (.int .i64 y_k), .val (.int .i64 y_s), .val (.int .i64 y_q), .val (.int .i64 y_a), .sl none (.ints .u8 y_p)]], [] => some ⟨F.q_by x_p y_p = true, .sa (B (F.q_sm x_k x_s x_q x_a x_p y_k y_s y_q y_a y_p)), [], [Any, Any]⟩
  | _, _ => none
def c_rsame (F : Qs) : Con := fun xs h => match xs, h with
  | [.agg [.val (.int .i64 x_k), .val (.int .i64 x_s), .val (.int .i64 x_q), .val (.int .i64 x_a), .sl none (.ints .u8 x_p)], .agg [.val (.int .i64 y_k), .val (.int .i64 y_s), .val (.int .i64 y_q), .val (.int .i64 y_a), .sl none (.ints .u8 y_p)]], [] => some ⟨F.q_by x_p y_p = true, .sa (B (F.q_sm x_k x_s x_q x_a x_p y_k y_s y_q y_a y_p)), [], [Any, Any]⟩
  | _, _ => none
end Go.Proofs.Ytakebkfhigadiaa.FrQ
