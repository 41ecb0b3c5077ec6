/-
  bends: done twice, they are undone; what is bent is no frame. No condition.
-/
import Derived.Test.YtdfknpjlapaadaaBeR
import Derived.Test.YtdfknpjlapaadaaCrcW
import Derived.Test.YtdfknpjlapaadaaFrA
namespace Go.Proofs.Ytdfknpjlapaadaa.BeA
open Go Go.Proofs.Ytdfknpjlapaadaa.Ry Go.Proofs.Ytdfknpjlapaadaa.OctR Go.Proofs.Ytdfknpjlapaadaa.FrR Go.Proofs.Ytdfknpjlapaadaa.FrQ Go.Proofs.Ytdfknpjlapaadaa.FrS Go.Proofs.Ytdfknpjlapaadaa.BeR

open Go.Proofs.Ytdfknpjlapaadaa.CrcB (buL buN one8 pb)
def fl (l : List Int) (k : Int) : List Int := if k < 8 * l.length then l.set (k / 8).toNat (stdBin .xor .u8 (l.getD (k / 8).toNat 0) (one8 k)) else l
theorem fl_len (l : List Int) (k : Int) : (fl l k).length = l.length := by
  unfold fl
  split
  · rw [List.length_set]
  · rfl
theorem bu_fl (l : List Int) (a p : Int) (i : Nat) : buN l a p (i + 1) = if pb p i = true then fl (buN l a p i) (a + i) else buN l a p i := by
  show (if pb p i = true ∧ a + i < 8 * l.length then _ else _) = _
  unfold fl
  rw [CrcB.bu_len]
  by_cases h1 : pb p i = true
  · by_cases h2 : a + (i : Int) < 8 * l.length
    · rw [if_pos ⟨h1, h2⟩, if_pos h1, if_pos h2]
    · rw [if_neg (fun q => h2 q.2), if_pos h1, if_neg h2]
  · rw [if_neg (fun q => h1 q.1), if_neg h1]
theorem fl_out (l : List Int) (k : Int) (h : ¬ k < 8 * l.length) : fl l k = l := by
  unfold fl
  rw [if_neg h]
theorem xor_comm (x m n : Int) : stdBin .xor .u8 (stdBin .xor .u8 x m) n = stdBin .xor .u8 (stdBin .xor .u8 x n) m := by
  simp only [CrcV.xor8, CrcV.of8]
  rw [BitVec.xor_assoc, BitVec.xor_comm (BitVec.ofInt 8 m), ← BitVec.xor_assoc]
theorem xor_self (x m : Int) (h : 0 ≤ x ∧ x ≤ 255) : stdBin .xor .u8 (stdBin .xor .u8 x m) m = x := by
  simp only [CrcV.xor8, CrcV.of8]
  rw [BitVec.xor_assoc, BitVec.xor_self, BitVec.xor_zero]
  rw [BitVec.toNat_ofInt]
  omega
theorem set_get (l : List Int) (i : Nat) (v : Int) (h : i < l.length) : (l.set i v).getD i 0 = v := by
  rw [List.getD_eq_getElem?_getD, List.getElem?_set_self h]
  rfl
theorem set_ne (l : List Int) (i j : Nat) (v : Int) (h : i ≠ j) : (l.set i v).getD j 0 = l.getD j 0 := by
  rw [List.getD_eq_getElem?_getD, List.getElem?_set_ne h, ← List.getD_eq_getElem?_getD]
theorem fl_comm (l : List Int) (j k : Int) (hj : 0 ≤ j) (hk : 0 ≤ k) : fl (fl l j) k = fl (fl l k) j := by
  by_cases h1 : j < 8 * l.length
  · by_cases h2 : k < 8 * l.length
    · have e1 : fl l j = l.set (j / 8).toNat (stdBin .xor .u8 (l.getD (j / 8).toNat 0) (one8 j)) := by unfold fl; rw [if_pos h1]
      have e2 : fl l k = l.set (k / 8).toNat (stdBin .xor .u8 (l.getD (k / 8).toNat 0) (one8 k)) := by unfold fl; rw [if_pos h2]
      rw [e1, e2]
      unfold fl
      rw [List.length_set, List.length_set, if_pos h2, if_pos h1]
      by_cases e : (j / 8).toNat = (k / 8).toNat
      · rw [← e, set_get l _ _ (by omega), set_get l _ _ (by omega), List.set_set, List.set_set, xor_comm]
      · rw [set_ne l _ _ _ e, set_ne l _ _ _ (fun q => e q.symm), List.set_comm _ _ e]
    · have e2 : fl l k = l := by unfold fl; rw [if_neg h2]
      rw [e2]
      unfold fl
      rw [if_pos h1, List.length_set, if_neg h2]
  · have e1 : fl l j = l := by unfold fl; rw [if_neg h1]
    rw [e1]
    rw [fl_out (fl l k) j (by rw [fl_len]; exact h1)]
theorem fl_fl (l : List Int) (k : Int) (h0 : 0 ≤ k) (hl : ∀ x ∈ l, 0 ≤ x ∧ x ≤ 255) : fl (fl l k) k = l := by
  by_cases h : k < 8 * l.length
  · have hi : (k / 8).toNat < l.length := by omega
    have e1 : fl l k = l.set (k / 8).toNat (stdBin .xor .u8 (l.getD (k / 8).toNat 0) (one8 k)) := by unfold fl; rw [if_pos h]
    rw [e1]
    unfold fl
    have hg : l.getD (k / 8).toNat 0 = l[(k / 8).toNat] := by
      rw [List.getD_eq_getElem?_getD, List.getElem?_eq_getElem hi]
      rfl
    rw [List.length_set, if_pos h, set_get l _ _ hi, List.set_set, xor_self _ _ (by rw [hg]; exact hl _ (List.getElem_mem hi)), hg]
    exact List.set_getElem_self hi
  · have e1 : fl l k = l := by unfold fl; rw [if_neg h]
    rw [e1, e1]
theorem bu_comm (l : List Int) (a p k : Int) (ha : 0 ≤ a) (hk : 0 ≤ k) : ∀ n, buN (fl l k) a p n = fl (buN l a p n) k
  | 0 => rfl
  | n + 1 => by
    rw [bu_fl, bu_fl, bu_comm l a p k ha hk n]
    split
    · exact fl_comm _ _ _ hk (by omega)
    · rfl
theorem bu_twice (l : List Int) (a p : Int) (ha : 0 ≤ a) (hl : ∀ x ∈ l, 0 ≤ x ∧ x ≤ 255) : ∀ n, buN (buN l a p n) a p n = l
  | 0 => rfl
  | n + 1 => by
    have ih := bu_twice l a p ha hl n
    rw [bu_fl (buN l a p (n + 1)), bu_fl l a p n]
    split
    · rw [bu_comm _ _ _ _ ha (by omega), ih, fl_fl l _ (by omega) hl]
    · exact ih
theorem br_len (l : List Int) (a p : Int) : (brI l a p).length = l.length := CrcB.bu_len _ _ _ _
theorem br_twice (l : List Int) (a p : Int) (hl : ∀ x ∈ l, 0 ≤ x ∧ x ≤ 255) : brI (brI l a p) a p = l := by
  unfold brI
  have : (buL l (modI a (8 * l.length)) p).length = l.length := CrcB.bu_len _ _ _ _
  rw [this]
  exact bu_twice l _ p (br_mod l a).1 hl 32
theorem br_by (l : List Int) (a p : Int) (hl : ∀ x ∈ l, 0 ≤ x ∧ x ≤ 255) : ∀ x ∈ brI l a p, 0 ≤ x ∧ x ≤ 255 := CrcW.bu_byte l _ p hl 32
theorem cut_by (l : List Int) (n : Int) (hl : ∀ x ∈ l, 0 ≤ x ∧ x ≤ 255) : ∀ x ∈ cutI l n, 0 ≤ x ∧ x ≤ 255 := fun x hx => hl x (List.mem_of_mem_take hx)
theorem err_no {l : List Int} (h : CrcR.errI l = 6) : rdB l = false := by
  unfold rdB decF
  rw [decide_eq_false_iff_not]
  split
  · exact fun q => absurd q (by decide)
  split
  · exact fun q => absurd q (by decide)
  rw [h, if_neg (by decide)]
  show ¬ (6 : Int) = 0
  decide
def eF (k s q a : Int) (p : List Int) : List Int := CrcR.sealI (bodyF k s q a p)
theorem e_is {k s q a : Int} {p : List Int} (h : mayF k s q a p = true) : eF k s q a p = encF k s q a p := (enc_len h).1.symm
/-- What is bent is no frame. -/
theorem spoil {k s q a : Int} {p : List Int} (h : mayF k s q a p = true) (hp : ∀ x ∈ p, 0 ≤ x ∧ x ≤ 255) (n w : Int) :
    (eF k s q a p).length = 19 + p.length ∧ p.length ≤ 16384 ∧ (∀ x ∈ eF k s q a p, 0 ≤ x ∧ x ≤ 255) ∧ rdB (eF k s q a p) = true ∧ (brI (eF k s q a p) n w = eF k s q a p ∨ rdB (brI (eF k s q a p) n w) = false) ∧ ((cutI (eF k s q a p) n).length = (eF k s q a p).length ∨ rdB (cutI (eF k s q a p) n) = false) := by
  have hb := enc_by (k := k) (s := s) (q := q) (a := a) hp
  have hl := enc_len h
  have hd := dec_enc h hp
  rw [e_is h]
  refine ⟨hl.2.1, hl.2.2, hb, ?_, ?_, ?_⟩
  · unfold rdB
    rw [hd]
    rfl
  · unfold brI
    rcases CrcW.bursts (bodyF k s q a p) (modI n (8 * (encF k s q a p).length)) w (br_mod _ n).1 (of_decide_eq_true (okR_by' (body_ok h (decide_eq_true hp)).2.2.2.2.2.2.2)) with g | g
    · rw [← hl.1] at g
      exact .inl g
    · rw [← hl.1] at g
      exact .inr (err_no g)
  · by_cases g : (cutI (encF k s q a p) n).length = (encF k s q a p).length
    · exact .inl g
    · right
      unfold cutI at g ⊢
      rw [List.length_take] at g
      rcases cut h hp (modI n ((encF k s q a p).length + 1)).toNat (by omega) with c | c
      · unfold rdB; rw [c]; rfl
      · unfold rdB; rw [c]; rfl
theorem byt_of (l : List Int) (h : ∀ x ∈ l, 0 ≤ x ∧ x ≤ 255) : l.map (fun n => ((UInt8.ofNat n.toNat).toNat : Int)) = l := OctQ.byt_id h
theorem aw_br : brI [0] 4 2147483648 = [8] := by decide +kernel
theorem aw_un : unI [8] [0] = 1 := by decide +kernel
theorem aw_no : rdB [8] = false := by decide +kernel
theorem aw_yes : rdB (CrcR.sealI (bodyF 1 0 0 0 [])) = true := (spoil (k := 1) (s := 0) (q := 0) (a := 0) (p := []) rfl (fun _ h => by cases h) 0 0).2.2.2.1

structure Ba where
  b : Bd
  q : Qs
def Ba.std : Ba := ⟨Bd.std, Qs.std⟩

def c_awake (_ : Ba) : Con := fun xs h => match xs, h with
  | [], [] => some ⟨True, .sa (B true), [], []⟩
  | _, _ => none
set_option maxRecDepth 100000 in
theorem x_awake  : Does [(24, c_burst2 Bd.std), (29, c_unlike Bd.std), (31, c_reads Bd.std), (19, denil [some (.ints .u8 [])] (c_rbytes Qs.std))] Try.f23 [] [] ⟨True, .sa (B true), [], []⟩ := by
  intro b gv
  generalize hF : Ba.std = F
  generalize hG0 : Bd.std = G0
  generalize hG1 : Qs.std = G1
  generalize hA : Ar.std = A
  generalize hL : Lp _ _ _ = L
  obtain ⟨Z, zq⟩ := z_all
  refine cd_open (lp_mono hL) zq rfl ?_
  repeat' (first
    | (refine z_open zq ?_; try dsimp only)
    | refine cd_seq zq ?_ (lp_mono hL)
    | refine cd_blk zq ?_
    | refine cd_ret ?_
    | refine cd_skip ?_
    | refine cd_exit ?_
    | refine cd_loop ?_
    | refine cd_cond rfl ?_
    | refine cd_condT rfl ?_
    | refine cd_condF rfl ?_
    | (refine Cd.mk ?_; cbv)
    | (refine Ends1.mk ?_; cbv)
    | (refine Fin1.mk ?_; cbv)
    | exact trivial
    | refine And.intro ?_ ?_
    | refine orf fun _ => ?_
    | refine ort fun _ => ?_)
  all_goals
    clear hL zq Z
    subst hF hA hG0 hG1
    have z0 : Int.toNat 0 = 0 := rfl
    have y1 : (mayF 1 0 0 0 [] && byB []) = true := rfl
    simp only [Bd.std, Qs.std, Ar.std, aw_br, aw_un, aw_no, aw_yes] at *
    try (grind [stdCmp, brB, unB, mayF, isC])
theorem ok_awake : ConOk Try.prog 23 (c_awake Ba.std) := by
  refine con_of (FsOk.cons ok_burst2 (FsOk.cons ok_unlike (FsOk.cons ok_reads (FsOk.cons (denil_ok [some (.ints .u8 [])] ok_rbytes) FsOk.nil rfl) rfl) rfl) rfl) Try.func23 rfl rfl fun xs h p hp => ?_
  unfold c_awake at hp
  split at hp
  · cases hp
    exact ⟨lee_le rfl, fun _ _ => x_awake ⟩
  · cases hp
end Go.Proofs.Ytdfknpjlapaadaa.BeA
