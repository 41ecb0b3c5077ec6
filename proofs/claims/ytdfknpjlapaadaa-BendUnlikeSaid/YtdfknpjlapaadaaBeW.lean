/-
  the answer: how far apart bytes are unlike. No condition.
-/
import Derived.Test.YtdfknpjlapaadaaBeU
namespace Go.Proofs.Ytdfknpjlapaadaa.BeW
open Go Go.Proofs.Ytdfknpjlapaadaa.Ry Go.Proofs.Ytdfknpjlapaadaa.OctR Go.Proofs.Ytdfknpjlapaadaa.FrR Go.Proofs.Ytdfknpjlapaadaa.FrQ Go.Proofs.Ytdfknpjlapaadaa.FrS Go.Proofs.Ytdfknpjlapaadaa.BeR Go.Proofs.Ytdfknpjlapaadaa.BeA Go.Proofs.Ytdfknpjlapaadaa.BeT Go.Proofs.Ytdfknpjlapaadaa.BeU

open Go.Proofs.Ytdfknpjlapaadaa.CrcW (bitAt)
theorem if_t {p q : Bool} (h : (if p = true then q else false) = true) : p = true ∧ q = true := by cases p <;> cases q <;> first | exact ⟨rfl, rfl⟩ | exact absurd h (by decide)
theorem if_f {p q : Bool} (h : (if p = true then q else false) = false) : p = false ∨ q = false := by
  cases p
  · exact .inl rfl
  · exact .inr h

structure Bw where
  w_un : List Int → List Int → Int
  w_sh2 : List Int → List Int → Bool
  u : Bu
def Bw.std : Bw := ⟨unI, fun a c => BeU.shB a && BeU.shB c, Bu.std⟩

def c_runlike (F : Bw) : Con := fun xs h => match xs, h with
  | [.one (.sl none (.ints .u8 a)), .one (.sl none (.ints .u8 c))], [] => some ⟨F.w_sh2 a c = true, .sa (I (F.w_un a c)), [], [Any, Any]⟩
  | _, _ => none
set_option maxHeartbeats 1000000 in
set_option maxRecDepth 100000 in
theorem x_runlike (a : List Int) (c : List Int) (hC : Bw.std.w_sh2 a c = true) : Does [(58, c_bits Bu.std)] Try.f30 [.one (.sl none (.ints .u8 a)), .one (.sl none (.ints .u8 c))] [] ⟨Bw.std.w_sh2 a c = true, .sa (I (Bw.std.w_un a c)), [], [Any, Any]⟩ := by
  intro b gv
  have hs : BeU.shB a = true ∧ BeU.shB c = true := by
    have h : (BeU.shB a && BeU.shB c) = true := hC
    simpa using h
  have ha : a.length ≤ 100000 := by
    have h := hs.1
    simp only [BeU.shB, Bool.and_eq_true] at h
    exact of_decide_eq_true h.2
  have la : (bitL a).length = 8 * a.length := bit_len _ _
  have lc : (bitL c).length = 8 * c.length := bit_len _ _
  have hfs := (FsOk.cons ok_bits FsOk.nil rfl)
  generalize hF : Bw.std = F at hC hfs ⊢
  generalize hG0 : Bu.std = G0 at hC hfs ⊢
  generalize hA : Ar.std = A
  generalize hL : Lp _ _ _ = L
  obtain ⟨Z, zq⟩ := z_all
  refine cd_open (lp_mono hL) zq rfl ?_
  repeat' (first
    | (refine z_open zq ?_; try dsimp only)
    | refine cd_seq zq ?_ (lp_mono hL)
    | refine cd_blk zq ?_
    | refine cd_ret ?_
    | refine cd_skip ?_
    | refine cd_exit ?_
    | refine cd_loop ?_
    | refine cd_cond rfl ?_
    | refine cd_condT rfl ?_
    | refine cd_condF rfl ?_
    | (refine Cd.mk ?_; cbv)
    | (refine Ends1.mk ?_; cbv)
    | (refine Fin1.mk ?_; cbv)
    | exact trivial
    | refine And.intro ?_ ?_
    | refine orf fun _ => ?_
    | refine ort fun _ => ?_)
  all_goals first | (show L _ _ _; skip) | (clear hfs hL zq Z; subst hF hA hG0; simp only [Bw.std, Bu.std, Ar.std] at * <;> grind [stdCmp, unI]; done)
  rename_i hx
  have he : a.length = c.length := by
    clear hfs hL zq Z hF
    subst hA
    simp only [Ar.std] at hx
    grind [stdCmp]
  clear hx
  subst hL
  refine loop_z (cx_ok hfs) (ulQ a c) (ulI A (G0.u_bit a) (G0.u_bit c)) (ulM a) ulR ⟨0⟩ ?_ ?_ ?_
  · exact ⟨Int.le_refl 0, show (0 : Int) ≤ 8 * a.length by omega, fun j hj => by simp only at hj; omega⟩
  · cbv
    repeat' (first | exact trivial | exact rfl | refine And.intro ?_ ?_)
  rintro ⟨i⟩ hq O hO
  have hst := ul_step a c he i hq
  have q0 := hq.1
  have q1 := hq.2.1
  dsimp only at q0 q1
  subst hA
  generalize hA : Ar.std = A
  generalize hL : Lp _ _ _ = L
  refine cd_close zq ?_
  repeat' (first
    | (refine z_open zq ?_; try dsimp only)
    | refine cd_seq zq ?_ (lp_mono hL)
    | refine cd_blk zq ?_
    | refine cd_ret ?_
    | refine cd_skip ?_
    | refine cd_exit ?_
    | refine cd_loop ?_
    | refine cd_cond rfl ?_
    | refine cd_condT rfl ?_
    | refine cd_condF rfl ?_
    | (refine Cd.mk ?_; cbv)
    | (refine Ends1.mk ?_; cbv)
    | (refine Fin1.mk ?_; cbv)
    | exact trivial
    | refine And.intro ?_ ?_
    | refine orf fun _ => ?_
    | refine ort fun _ => ?_)
  all_goals first | (show L _ _ _; skip) | (clear hL hfs zq Z hq; subst hA hF hG0 hO; simp only [Bw.std, Bu.std, Ar.std] at * <;> grind [stdCmp, b_add, wr, ulM]; done)
  rename_i hx
  have h1 : i = 8 * a.length ∨ ¬ bitAt a i.toNat = bitAt c i.toNat := by
    clear hfs hL zq Z hO
    subst hA hF hG0
    simp only [Bw.std, Bu.std, Ar.std] at hx
    by_cases g : i < 8 * a.length
    · right
      intro w
      have := (hst g).1.2 w
      grind [stdCmp]
    · left
      exact Int.le_antisymm q1 (Int.not_lt.1 g)
  clear hx hst hO
  subst hL
  refine loop_z (cx_ok hfs) (umQ a c i) (umI (G0.u_bit a) (G0.u_bit c) i) (umM i) umR ⟨A.lenI (G0.u_bit a)⟩ ?_ ?_ ?_
  · subst hA hF hG0
    exact um_zero a c i hq
  · cbv
    repeat' (first | exact trivial | exact rfl | refine And.intro ?_ ?_)
  rintro ⟨k⟩ hq2 U hU
  have hst := um_step a c he i q0 k hq2
  have hen := um_end a c he i k hq hq2 h1
  have hrg := um_rng a c he i k q0 hq2
  have k0 := hq2.1
  have k1 := hq2.2.1
  have e1 : stdBin .sub .i64 k 1 = k - 1 := by
    dsimp only at k0 k1
    rw [b_sub, wr _ (by omega) (by omega)]
  have e2 : stdBin .sub .i64 k i = k - i := by
    dsimp only at k0 k1
    rw [b_sub, wr _ (by omega) (by omega)]
  dsimp only at k0 k1
  subst hA
  generalize hA : Ar.std = A
  generalize hL : Lp _ _ _ = L
  refine cd_close zq ?_
  repeat' (first
    | (refine z_open zq ?_; try dsimp only)
    | refine cd_seq zq ?_ (lp_mono hL)
    | refine cd_blk zq ?_
    | refine cd_ret ?_
    | refine cd_skip ?_
    | refine cd_exit ?_
    | refine cd_loop ?_
    | refine cd_cond rfl ?_
    | refine cd_condT rfl ?_
    | refine cd_condF rfl ?_
    | (refine Cd.mk ?_; cbv)
    | (refine Ends1.mk ?_; cbv)
    | (refine Fin1.mk ?_; cbv)
    | exact trivial
    | refine And.intro ?_ ?_
    | refine orf fun _ => ?_
    | refine ort fun _ => ?_)
  all_goals
    clear hL hfs zq Z hq hq2
    subst hA hF hG0 hU
    simp only [Bw.std, Bu.std, Ar.std, e1, e2] at *
    first
      | assumption
      | (rename_i hx; simp only [stdCmp, decide_eq_true_eq] at hx; first | exact (hrg hx).1 | exact (hrg hx).2.1 | exact (hrg hx).2.2)
      | (rename_i hx; obtain ⟨g1, g2⟩ := if_t hx; simp only [stdCmp, decide_eq_true_eq, beq_iff_eq] at g1 g2; exact (hst g1).2 g2)
      | (rename_i hx; obtain ⟨g1, g2⟩ := if_t hx; simp only [stdCmp, decide_eq_true_eq] at g1; simp only [umM]; omega)
      | (rename_i hx
         refine congrArg (Value.int .i64) (hen ?_)
         by_cases g : k > i
         · rcases if_f hx with w | w
           · simp only [stdCmp, decide_eq_false_iff_not] at w
             exact absurd g w
           · right
             intro v
             have := (hst g).1.2 v
             rw [this] at w
             simp [stdCmp] at w
         · left
           omega)
theorem ok_runlike : ConOk Try.prog 30 (c_runlike Bw.std) := by
  refine con_of (FsOk.cons ok_bits FsOk.nil rfl) Try.func30 rfl rfl fun xs h p hp => ?_
  unfold c_runlike at hp
  split at hp
  · cases hp
    exact ⟨lee_le rfl, fun hC _ => x_runlike _ _ hC⟩
  · cases hp
end Go.Proofs.Ytdfknpjlapaadaa.BeW
