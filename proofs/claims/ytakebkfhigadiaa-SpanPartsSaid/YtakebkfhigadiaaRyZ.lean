/-
  A function's code, reckoned part by part: what is behind a part stays closed until the part is done. No condition.
-/
import Derived.Test.YtakebkfhigadiaaRyN
namespace Go.Proofs.Ytakebkfhigadiaa.Ry
open Go

/-- What is left to show of a part of the code. -/
structure Cd (A : Ar) (cx : Cx) (L : Code → St → (Ex → St → Prop) → Prop) (c : Code) (s : St) (K : Ex → St → Prop) : Prop where
  run : ex A cx L c s K
structure Fin1 (A : Ar) (cx : Cx) (rs : List ResultVar) (p : Post) (e : Ex) (s : St) : Prop where
  run : fin A cx rs p e s
section
variable {A : Ar} {cx : Cx} {L : Code → St → (Ex → St → Prop) → Prop} {Z : (Ex → St → Prop) → Ex → St → Prop}
theorem cd_open {c : Code} {s : St} {K : Ex → St → Prop} (hL : ∀ c s K K', (∀ e s, K e s → K' e s) → L c s K → L c s K') {rs : List ResultVar} {p : Post} (zq : ∀ K, Z K = K) (hK : K = fin A cx rs p) (h : Cd A cx L c s (Z fun e s' => Fin1 A cx rs p e s')) : ex A cx L c s K := by
  subst hK
  rw [zq] at h
  exact ex_mono hL c (fun e s q => q.run) h.run
theorem cd_seq (zq : ∀ K, Z K = K) {x y : Code} {s : St} {K : Ex → St → Prop} (h : Cd A cx L x s (Z fun e s' => match e with
    | .normal => Cd A cx L y s' K
    | e => K e s')) (hL : ∀ c s K K', (∀ e s, K e s → K' e s) → L c s K → L c s K') : Cd A cx L (.seq x y) s K := by
  rw [zq] at h
  refine ⟨?_⟩
  unfold ex
  refine ex_mono hL x (fun e s q => ?_) h.run
  cases e <;> first | exact q.run | exact q
theorem cd_blk (zq : ∀ K, Z K = K) {id : Nat} {c : Code} {s : St} {K : Ex → St → Prop} (h : Cd A cx L c s (Z fun e s' => match e with
    | .exit i => match eqn i id with
      | true => K .normal s'
      | false => K (.exit i) s'
    | e => K e s')) : Cd A cx L (.block id c) s K := by
  rw [zq] at h
  exact ⟨h.run⟩
theorem cd_cond {c : Operand} {x y : Code} {s : St} {K : Ex → St → Prop} {t : Bool} (hc : evalE s c = ⟨none, .sa (.one (.val (.bool t)))⟩) (h : (t = false ∨ Cd A cx L x s K) ∧ (t = true ∨ Cd A cx L y s K)) : Cd A cx L (.cond c x y) s K := by
  refine ⟨?_⟩
  unfold ex
  rw [hc]
  exact ⟨h.1.imp id Cd.run, h.2.imp id Cd.run⟩
theorem cd_condT {c : Operand} {x y : Code} {s : St} {K : Ex → St → Prop} (hc : evalE s c = ⟨none, .sa (.one (.tf true))⟩) (h : Cd A cx L x s K) : Cd A cx L (.cond c x y) s K := by
  refine ⟨?_⟩
  unfold ex
  rw [hc]
  exact h.run
theorem cd_condF {c : Operand} {x y : Code} {s : St} {K : Ex → St → Prop} (hc : evalE s c = ⟨none, .sa (.one (.tf false))⟩) (h : Cd A cx L y s K) : Cd A cx L (.cond c x y) s K := by
  refine ⟨?_⟩
  unfold ex
  rw [hc]
  exact h.run
theorem cd_ret {s : St} {K : Ex → St → Prop} (h : K .ret s) : Cd A cx L .ret s K := ⟨h⟩
theorem cd_skip {s : St} {K : Ex → St → Prop} (h : K .normal s) : Cd A cx L .skip s K := ⟨h⟩
theorem cd_exit {i : Nat} {s : St} {K : Ex → St → Prop} (h : K (.exit i) s) : Cd A cx L (.exit i) s K := ⟨h⟩
theorem cd_loop {c : Code} {s : St} {K : Ex → St → Prop} (h : L c s K) : Cd A cx L (.loop c) s K := ⟨h⟩
theorem z_open (zq : ∀ K, Z K = K) {K : Ex → St → Prop} {e : Ex} {s : St} (h : K e s) : Z K e s := by rwa [zq]
end
/-- What a loop's round has to show at its end. -/
structure Ends1 {α : Type} (O : Ob α) (rd : St → α) (I : α → St) (s : St) : Prop where
  all : O.q (rd s) ∧ O.m (rd s) ∧ s.le (I (rd s))
theorem lp_mono {P : Program} {b : Bs} {gv : List Value} {L : Code → St → (Ex → St → Prop) → Prop} (h : Lp P b gv = L) : ∀ c s K K', (∀ e s, K e s → K' e s) → L c s K → L c s K' := by
  subst h
  exact fun _ _ _ _ => Lp.mono
theorem loop_z {P : Program} {cx : Cx} (hc : CxOk P cx) {b : Bs} {gv : List Value} {c : Code} {st : St} {K : Ex → St → Prop} {α : Type} (Q : α → Prop) (I : α → St) (μ : α → Nat) (rd : St → α) (x0 : α) (hQ : Q x0) (h0 : st.le (I x0))
    (round : ∀ x, Q x → ∀ O : Ob α, (⟨Q, fun y => μ y < μ x⟩ : Ob α) = O → Cd Ar.std cx (Lp P b gv) c (I x) (fun e st' => match e with
      | .normal => Ends1 O rd I st'
      | e => K e st')) : Lp P b gv c st K := by
  refine loop_rd hc Q I μ rd x0 hQ h0 fun x hx O hO => ?_
  refine ex_mono (L := Lp P b gv) (fun _ _ _ _ => Lp.mono) c (fun e s' h => ?_) (round x hx O hO).run
  cases e <;> first | exact h.all | exact h
theorem cd_close {A : Ar} {cx : Cx} {L : Code → St → (Ex → St → Prop) → Prop} {Z : (Ex → St → Prop) → Ex → St → Prop} (zq : ∀ K, Z K = K) {c : Code} {s : St} {K : Ex → St → Prop} (h : Cd A cx L c s (Z K)) : Cd A cx L c s K := by rwa [zq] at h
theorem z_all : ∃ Z : (Ex → St → Prop) → Ex → St → Prop, ∀ K, Z K = K := ⟨id, fun _ => rfl⟩
end Go.Proofs.Ytakebkfhigadiaa.Ry
