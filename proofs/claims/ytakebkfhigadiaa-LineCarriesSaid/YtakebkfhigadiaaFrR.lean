
/-
  frames over the reckoner. No condition.
-/
import Derived.Test.YtakebkfhigadiaaCrcR
import Derived.Test.YtakebkfhigadiaaOctQ
import Derived.Test.YtakebkfhigadiaaRyOp
namespace Go.Proofs.Ytakebkfhigadiaa.FrR
open Go Go.Proofs.Ytakebkfhigadiaa.Ry Go.Proofs.Ytakebkfhigadiaa.OctR Go.Proofs.Ytakebkfhigadiaa.OctP Go.Proofs.Ytakebkfhigadiaa.OctQ

open Go.Proofs.Ytakebkfhigadiaa.CrcR (c_seal c_open c_rseal c_ropen)
/-- A frame, and an error. -/
structure DF where
  k : Int
  s : Int
  q : Int
  a : Int
  p : List Int
  e : Int
def isC (n : Int) : Bool := decide (0 ≤ n ∧ n ≤ 2147483647)
def mayF (k s q a : Int) (p : List Int) : Bool := decide (1 ≤ k ∧ k ≤ 5) && isC s && isC q && isC a && decide (p.length ≤ 16384) && (decide (k = 3) || decide (p.length = 0))
def chF (k s q a : Int) (p : List Int) : Int := if mayF k s q a p = true then 0 else 1
def bodyF (k s q a : Int) (p : List Int) : List Int := numL p.length 2 ++ numL k 1 ++ numL s 4 ++ numL q 4 ++ numL a 4 ++ p
def encF (k s q a : Int) (p : List Int) : List Int := if mayF k s q a p = true then CrcR.sealI (bodyF k s q a p) else []
def zF (e : Int) : DF := ⟨0, 0, 0, 0, [], e⟩
/-- What is read of so many bytes ahead. -/
def rdF (c : List Int) : DF :=
  let r0 := c.take 15
  let n := tkN r0 0 2
  let r1 := tkR r0 0 2
  let e1 := tkE r0 0 2
  let k := tkN r1 e1 1
  let r2 := tkR r1 e1 1
  let e2 := tkE r1 e1 1
  let s := tkN r2 e2 4
  let r3 := tkR r2 e2 4
  let e3 := tkE r2 e2 4
  let q := tkN r3 e3 4
  let r4 := tkR r3 e3 4
  let e4 := tkE r3 e3 4
  let a := tkN r4 e4 4
  let e5 := tkE r4 e4 4
  if e5 = 0 ∧ n = (c.drop 15).length ∧ mayF k s q a (c.drop 15) = true then ⟨k, s, q, a, c.drop 15, 0⟩ else zF 5
def decF (l : List Int) : DF := if 16403 < l.length then zF 3 else if l.length < 19 then zF 5 else if CrcR.errI l = 0 then rdF (CrcR.openI l) else zF (CrcR.errI l)
def smF (k s q a : Int) (p : List Int) (k' s' q' a' : Int) (p' : List Int) : Bool := decide (k = k' ∧ s = s' ∧ q = q' ∧ a = a' ∧ p = p')
def okP (l : List Int) (n w : Int) : Bool := fits n w && shB l
def l15 (l : List Int) : Bool := decide (15 ≤ l.length ∧ l.length ≤ 1000000)
theorem put_ok {l : List Int} {n w : Int} (h : okP l n w = true) : shB l = true ∧ isW w = true ∧ putE n w = 0 ∧ ¬ n < 0 ∧ ¬ grI w < n ∧ 1 ≤ w ∧ w ≤ 4 ∧ l.length ≤ 1000000 := by
  simp only [okP, Bool.and_eq_true] at h
  have h2 := h.1
  simp only [fits, Bool.and_eq_true, decide_eq_true_eq] at h2
  have hw := of_decide_eq_true h2.2
  have hs := of_decide_eq_true h.2
  exact ⟨h.2, h2.2, (put_num h.1).1, by omega, by omega, hw.1, hw.2, hs⟩

structure Rs where
  f_may : Int → Int → Int → Int → List Int → Bool
  f_ch : Int → Int → Int → Int → List Int → Int
  f_enc : Int → Int → Int → Int → List Int → List Int
  f_body : Int → Int → Int → Int → List Int → List Int
  f_rd : List Int → DF
  f_dec : List Int → DF
  f_sm : Int → Int → Int → Int → List Int → Int → Int → Int → Int → List Int → Bool
  f_okP : List Int → Int → Int → Bool
  f_beh : List Int → Int → Int → List Int
  f_15 : List Int → Bool
  f_by : List Int → Bool
  f_isC : Int → Bool
  f_l : List Int → Bool
  f_by2 : List Int → List Int → Bool
def Rs.std : Rs := ⟨mayF, chF, encF, bodyF, rdF, decF, smF, okP, behI, l15, okR, isC, shB, fun p q => byB p && byB q⟩

def c_isC (F : Rs) : Con := fun xs h => match xs, h with
  | [.one (.val (.int .i64 n))], [] => some ⟨True, .sa (B (F.f_isC n)), [], [Any]⟩
  | _, _ => none
set_option maxRecDepth 100000 in
theorem x_isC (n : Int) : Does [] Try.f66 [.one (.val (.int .i64 n))] [] ⟨True, .sa (B (Rs.std.f_isC n)), [], [Any]⟩ := by
  intro b gv
  generalize hF : Rs.std = F
  generalize hA : Ar.std = A
  generalize hL : Lp _ _ _ = L
  obtain ⟨Z, zq⟩ := z_all
  refine cd_open (lp_mono hL) zq rfl ?_
  repeat' (first
    | (refine z_open zq ?_; try dsimp only)
    | refine cd_seq zq ?_ (lp_mono hL)
    | refine cd_blk zq ?_
    | refine cd_ret ?_
    | refine cd_skip ?_
    | refine cd_exit ?_
    | refine cd_loop ?_
    | refine cd_cond rfl ?_
    | refine cd_condT rfl ?_
    | refine cd_condF rfl ?_
    | (refine Cd.mk ?_; cbv)
    | (refine Ends1.mk ?_; cbv)
    | (refine Fin1.mk ?_; cbv)
    | exact trivial
    | refine And.intro ?_ ?_
    | refine orf fun _ => ?_
    | refine ort fun _ => ?_)
  all_goals (clear hL zq Z; subst hF hA; simp only [Rs.std, Ar.std] at * <;> grind [stdCmp, isC])
theorem ok_isC : ConOk Try.prog 66 (c_isC Rs.std) := by
  refine con_of FsOk.nil Try.func66 rfl rfl fun xs h p hp => ?_
  unfold c_isC at hp
  split at hp
  · cases hp
    exact ⟨lee_le rfl, fun _ _ => x_isC _⟩
  · cases hp

def c_check (F : Rs) : Con := fun xs h => match xs, h with
  | [.agg [.val (.int .i64 f_k), .val (.int .i64 f_s), .val (.int .i64 f_q), .val (.int .i64 f_a), .sl none (.ints .u8 f_p)]], [] => some ⟨True, .sa (I (F.f_ch f_k f_s f_q f_a f_p)), [], [Any]⟩
  | _, _ => none
set_option maxRecDepth 100000 in
theorem x_check (f_k : Int) (f_s : Int) (f_q : Int) (f_a : Int) (f_p : List Int) : Does [(66, c_isC Rs.std)] Try.f44 [.agg [.val (.int .i64 f_k), .val (.int .i64 f_s), .val (.int .i64 f_q), .val (.int .i64 f_a), .sl none (.ints .u8 f_p)]] [] ⟨True, .sa (I (Rs.std.f_ch f_k f_s f_q f_a f_p)), [], [Any]⟩ := by
  intro b gv
  generalize hF : Rs.std = F
  generalize hA : Ar.std = A
  generalize hL : Lp _ _ _ = L
  obtain ⟨Z, zq⟩ := z_all
  refine cd_open (lp_mono hL) zq rfl ?_
  repeat' (first
    | (refine z_open zq ?_; try dsimp only)
    | refine cd_seq zq ?_ (lp_mono hL)
    | refine cd_blk zq ?_
    | refine cd_ret ?_
    | refine cd_skip ?_
    | refine cd_exit ?_
    | refine cd_loop ?_
    | refine cd_cond rfl ?_
    | refine cd_condT rfl ?_
    | refine cd_condF rfl ?_
    | (refine Cd.mk ?_; cbv)
    | (refine Ends1.mk ?_; cbv)
    | (refine Fin1.mk ?_; cbv)
    | exact trivial
    | refine And.intro ?_ ?_
    | refine orf fun _ => ?_
    | refine ort fun _ => ?_)
  all_goals (clear hL zq Z; subst hF hA; simp only [Rs.std, Ar.std] at * <;> grind [stdCmp, isC, chF, mayF])
theorem ok_check : ConOk Try.prog 44 (c_check Rs.std) := by
  refine con_of (FsOk.cons ok_isC FsOk.nil rfl) Try.func44 rfl rfl fun xs h p hp => ?_
  unfold c_check at hp
  split at hp
  · cases hp
    exact ⟨lee_le rfl, fun _ _ => x_check _ _ _ _ _⟩
  · cases hp

def c_oput (F : Rs) : Con := fun xs h => match xs, h with
  | [.one (.sl none (.ints .u8 l)), .one (.val (.int .i64 n)), .one (.val (.int .i64 w))], [] => some ⟨F.f_okP l n w = true, .tup [.one (.sl (some (0, 5)) (.ints .u8 (F.f_beh l n w))), I 0], [(0, .tok)], [Any, Any, Any]⟩
  | _, _ => none
def c_put (F : Rs) : Con := fun xs h => match xs, h with
  | [.one (.sl none (.ints .u8 l)), .one (.val (.int .i64 n)), .one (.val (.int .i64 w))], [] => some ⟨F.f_okP l n w = true, .sa (.one (.sl (some (0, 5)) (.ints .u8 (F.f_beh l n w)))), [(0, .tok)], [Any, Any, Any]⟩
  | _, _ => none
theorem put5 {k s q a : Int} {p : List Int} (h : mayF k s q a p = true) :
    okP [] p.length 2 = true ∧ okP (behI [] p.length 2) k 1 = true ∧ okP (behI (behI [] p.length 2) k 1) s 4 = true ∧ okP (behI (behI (behI [] p.length 2) k 1) s 4) q 4 = true ∧ okP (behI (behI (behI (behI [] p.length 2) k 1) s 4) q 4) a 4 = true ∧
    behI (behI (behI (behI (behI [] p.length 2) k 1) s 4) q 4) a 4 ++ p = bodyF k s q a p ∧ (bodyF k s q a p).length = 15 + p.length ∧ p.length ≤ 16384 ∧ (behI (behI (behI (behI (behI [] p.length 2) k 1) s 4) q 4) a 4).length = 15 := by
  simp only [mayF, isC, Bool.and_eq_true, decide_eq_true_eq] at h
  obtain ⟨⟨⟨⟨⟨h1, h2⟩, h3⟩, h4⟩, h5⟩, h6⟩ := h
  have e1 : isW 1 = true := rfl
  have e2 : isW 2 = true := rfl
  have e4 : isW 4 = true := rfl
  have g1 : grI 1 = 255 := rfl
  have g2 : grI 2 = 65535 := rfl
  have g4 : grI 4 = 2147483647 := rfl
  have t1 : (1 : Int).toNat = 1 := rfl
  have t2 : (2 : Int).toNat = 2 := rfl
  have t4 : (4 : Int).toNat = 4 := rfl
  simp only [okP, fits, e1, e2, e4, g1, g2, g4, Bool.and_true, Bool.and_eq_true, decide_eq_true_eq, shB, behI, List.length_append, num_len, t1, t2, t4, List.length_nil, bodyF, List.nil_append]
  refine ⟨by omega, by omega, by omega, by omega, by omega, trivial, trivial, by omega, trivial⟩

def c_encode (F : Rs) : Con := fun xs h => match xs, h with
  | [.agg [.val (.int .i64 f_k), .val (.int .i64 f_s), .val (.int .i64 f_q), .val (.int .i64 f_a), .sl none (.ints .u8 f_p)]], [] => some ⟨True, .tup [Bytes (F.f_enc f_k f_s f_q f_a f_p), I (F.f_ch f_k f_s f_q f_a f_p)], [], [Any]⟩
  | _, _ => none
def c_flist (F : Rs) : Con := fun xs h => match xs, h with
  | [.one (.sl none (.ints .u8 l))], [] => some ⟨F.f_l l = true, .sa (Bytes l), [], [Any]⟩
  | _, _ => none
set_option maxRecDepth 100000 in
theorem x_flist (l : List Int) (hC : Rs.std.f_l l = true) : Does [] Try.f71 [.one (.sl none (.ints .u8 l))] [] ⟨Rs.std.f_l l = true, .sa (Bytes l), [], [Any]⟩ := by
  intro b gv
  generalize hF : Rs.std = F at hC ⊢
  generalize hA : Ar.std = A
  generalize hL : Lp _ _ _ = L
  obtain ⟨Z, zq⟩ := z_all
  refine cd_open (lp_mono hL) zq rfl ?_
  repeat' (first
    | (refine z_open zq ?_; try dsimp only)
    | refine cd_seq zq ?_ (lp_mono hL)
    | refine cd_blk zq ?_
    | refine cd_ret ?_
    | refine cd_skip ?_
    | refine cd_exit ?_
    | refine cd_loop ?_
    | refine cd_cond rfl ?_
    | refine cd_condT rfl ?_
    | refine cd_condF rfl ?_
    | (refine Cd.mk ?_; cbv)
    | (refine Ends1.mk ?_; cbv)
    | (refine Fin1.mk ?_; cbv)
    | exact trivial
    | refine And.intro ?_ ?_
    | refine orf fun _ => ?_
    | refine ort fun _ => ?_)
  all_goals
    clear hL zq Z
    subst hF hA
    have hk : l.length ≤ 1000000 := of_decide_eq_true (show decide (l.length ≤ 1000000) = true from hC)
    simp only [Ar.std, List.nil_append] at *
    try (grind)
theorem ok_flist : ConOk Try.prog 71 (c_flist Rs.std) := by
  refine con_of FsOk.nil Try.func71 rfl rfl fun xs h p hp => ?_
  unfold c_flist at hp
  split at hp
  · cases hp
    exact ⟨lee_le rfl, fun hC _ => x_flist _ hC⟩
  · cases hp

def c_read (F : Rs) : Con := fun xs h => match xs, h with
  | [.one (.sl none (.ints .u8 c))], [] => some ⟨F.f_15 c = true, .tup [.agg [.val (.int .i64 (F.f_rd c).k), .val (.int .i64 (F.f_rd c).s), .val (.int .i64 (F.f_rd c).q), .val (.int .i64 (F.f_rd c).a), .sl none (.ints .u8 (F.f_rd c).p)], I (F.f_rd c).e], [], [Any]⟩
  | _, _ => none
def c_decode (F : Rs) : Con := fun xs h => match xs, h with
  | [.one (.sl none (.ints .u8 l))], [] => some ⟨True, .tup [.agg [.val (.int .i64 (F.f_dec l).k), .val (.int .i64 (F.f_dec l).s), .val (.int .i64 (F.f_dec l).q), .val (.int .i64 (F.f_dec l).a), .sl none (.ints .u8 (F.f_dec l).p)], I (F.f_dec l).e], [], [Any]⟩
  | _, _ => none
theorem op_len (l : List Int) (h : CrcR.errI l = 0) : (CrcR.openI l).length + 4 = l.length := by
  unfold CrcR.errI at h
  unfold CrcR.openI
  repeat' split at h
  all_goals first | (exfalso; revert h; decide) | skip
  rw [if_neg (by assumption), if_pos (by assumption), List.length_take]
  omega
end Go.Proofs.Ytakebkfhigadiaa.FrR
