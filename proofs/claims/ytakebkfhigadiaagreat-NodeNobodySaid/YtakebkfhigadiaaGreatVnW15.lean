/-
  A function's code,reckoned part by part: what is behind a part stays closed until the part is done. No condition.
-/
import Derived.Test.YtakebkfhigadiaaGreatVnRyU
import Derived.ChangeSame
import Derived.SizedLaws
namespace Go.Proofs.YtakebkfhigadiaaGreat.Ry
open Go Go.ChangeShapes Go.WideShapes Go.ChangeAt Go.Joins Go.RowKit
section
variable {H:Type} {enc:TypeId × Value→H} {P:Program} {W:World}
end
end Go.Proofs.YtakebkfhigadiaaGreat.Ry
namespace Go.Proofs.YtakebkfhigadiaaGreat.Ry
open Go
def mo (c:Ct):SC→SC
 |.val (.slice none 0 0)=>.sl none (eC c)
 |x=>x
def lE (c:Ct):List SC→List SC
 |[]=>[]
 |x :: xs=>mo c x :: lE c xs
def fK:List (Option Ct)→List SA→List SA
 |some c :: ks,.one (.val (.slice none 0 0)) :: xs=>.one (.sl none (eC c)) :: fK ks xs
 |some c :: ks,.agg cs :: xs=>.agg (lE c cs) :: fK ks xs
 |_ :: ks,x :: xs=>x :: fK ks xs
 |_,xs=>xs
def HI (ks:List (Option Ct)) (bJ:aW):aW:=fun args h=>bJ (fK ks args) h
theorem Fm {G:Gm}:∀ (c:Ct),(SC.sl none (eC c)).is G (.slice none 0 0)
 |.ints _ _=>⟨⟨none,0,rfl,Nat.le_refl _,by unfold maxLen;omega,fun h=>absurd rfl h⟩,trivial⟩
 |.ae _ _=>⟨⟨none,0,rfl,Nat.le_refl _,by unfold maxLen;omega,fun h=>absurd rfl h⟩,trivial⟩
theorem sf {G:Gm} {c:Ct} {x:SC} {v:Value} (h:x.is G v):(mo c x).is G v:=by
 unfold mo
 split
 ·have hv:v = .slice none 0 0:=h
  rw [hv]
  exact Fm c
 ·exact h
theorem pc {G:Gm} {c:Ct}:∀ {xs:List SC} {vs:List Value},aO G xs vs→aO G (lE c xs) vs
 |[],[],_=>trivial
 |_ :: _,_ :: _,⟨⟨h1,h2⟩,h3⟩=>⟨⟨sf h1,h2⟩,pc h3⟩
theorem wv {G:Gm}:∀ {ks:List (Option Ct)} {xs:List SA} {vs:List Value},bh G xs vs→bh G (fK ks xs) vs
 |[],xs,_,h=>by
  cases xs <;> exact h
 |k :: _,[],_,h=>by
  cases k <;> exact h
 |k :: ks,x :: xs,[],h=>h.elim
 |k :: ks,x :: xs,v :: vs,⟨h1,h2⟩=>by
  have ih:=wv (ks:=ks) h2
  unfold fK
  split
  ·rename_i heq1 heq2
   cases heq1
   cases heq2
   have hv:v = .slice none 0 0:=h1
   subst hv
   exact⟨Fm _,ih⟩
  ·rename_i heq1 heq2
   cases heq1
   cases heq2
   obtain⟨us,e,hc⟩:=h1
   exact⟨⟨us,e,pc hc⟩,ih⟩
  ·rename_i heq1 heq2
   cases heq1
   cases heq2
   exact⟨h1,ih⟩
  ·rename_i hn
   exact absurd rfl (hn _ _ _ _ rfl)
theorem nu {c:Ct} {x:SC} {l l' : List SC} (h:df l=df l'):df (mo c x :: l)=df (x :: l'):=by
 unfold mo
 split
 ·exact h
 ·cases x <;> first|exact h|exact congrArg (List.cons _) h
theorem lq {c:Ct}:∀ {xs:List SC},df (lE c xs)=df xs
 |[]=>rfl
 |_ :: _=>nu lq
theorem ng:∀ {ks:List (Option Ct)} {xs:List SA},(fK ks xs).flatMap mh=xs.flatMap mh
 |[],xs=>by cases xs <;> rfl
 |k :: _,[]=>by cases k <;> rfl
 |k :: ks,x :: xs=>by
  have ih:=ng (ks:=ks) (xs:=xs)
  unfold fK
  split
  ·rename_i heq1 heq2
   cases heq1
   cases heq2
   exact ih
  ·rename_i heq1 heq2
   cases heq1
   cases heq2
   simp only [List.flatMap_cons,ih]
   show df (lE _ _) ++ _=df _ ++ _
   rw [lq]
  ·rename_i heq1 heq2
   cases heq1
   cases heq2
   simp only [List.flatMap_cons,ih]
  ·rename_i hn
   exact absurd rfl (hn _ _ _ _ rfl)
theorem xP {ks:List (Option Ct)} {xs:List SA} {h:H}:bS (fK ks xs) h=bS xs h:=by
 unfold bS
 rw [ng]
theorem lC {f:FuncId} {bJ:aW} (ks:List (Option Ct)) (h:aC Tryz.prog f bJ):aC Tryz.prog f (HI ks bJ) :=
 ⟨h.1,fun args h0 p hc hC G vs h1 h2 h3 hv=>by
  have:=h.2 (fK ks args) h0 p hc hC G vs h1 h2 h3 (wv hv)
  rw [xP] at this
  exact this⟩
end Go.Proofs.YtakebkfhigadiaaGreat.Ry
namespace Go.Proofs.YtakebkfhigadiaaGreat.Ry
open Go
structure Cd (A:Ar) (cx:Cx) (L:Code→St→(Ex→St→Prop)→Prop) (c:Code) (s:St) (K:Ex→St→Prop):Prop where
 run:ex A cx L c s K
structure aK (A:Ar) (cx:Cx) (rs:List ResultVar) (p:qz) (e:Ex) (s:St):Prop where
 run:fin A cx rs p e s
section
variable {A:Ar} {cx:Cx} {L:Code→St→(Ex→St→Prop)→Prop} {Z:(Ex→St→Prop)→Ex→St→Prop}
theorem aA {c:Code} {s:St} {K:Ex→St→Prop} (hL:∀ c s K K',(∀ e s,K e s→K' e s)→L c s K→L c s K') {rs:List ResultVar} {p:qz} (zq:∀ K,Z K=K) (hK:K=fin A cx rs p) (h:Cd A cx L c s (Z fun e s'=>aK A cx rs p e s')):ex A cx L c s K:=by
 subst hK
 rw [zq] at h
 exact dL hL c (fun e s q=>q.run) h.run
theorem ax (zq:∀ K,Z K=K) {x y:Code} {s:St} {K:Ex→St→Prop} (h:Cd A cx L x s (Z fun e s'=>match e with
  |.normal=>Cd A cx L y s' K
  |e=>K e s')) (hL:∀ c s K K',(∀ e s,K e s→K' e s)→L c s K→L c s K'):Cd A cx L (.seq x y) s K:=by
 rw [zq] at h
 refine⟨?_⟩
 unfold ex
 refine dL hL x (fun e s q=>?_) h.run
 cases e <;> first|exact q.run|exact q
theorem az (zq:∀ K,Z K=K) {id:Nat} {c:Code} {s:St} {K:Ex→St→Prop} (h:Cd A cx L c s (Z fun e s'=>match e with
  |.exit i=>match bF i id with
   |true=>K .normal s'
   |false=>K (.exit i) s'
  |e=>K e s')):Cd A cx L (.block id c) s K:=by
 rw [zq] at h
 exact⟨h.run⟩
theorem al {c:Operand} {x y:Code} {s:St} {K:Ex→St→Prop} {t:Bool} (hc:aG s c=⟨none,.sa (.one (.val (.bool t)))⟩) (h:(t=false∨Cd A cx L x s K)∧(t=true∨Cd A cx L y s K)):Cd A cx L (.cond c x y) s K:=by
 refine⟨?_⟩
 unfold ex
 rw [hc]
 exact⟨h.1.imp id Cd.run,h.2.imp id Cd.run⟩
theorem ai {c:Operand} {x y:Code} {s:St} {K:Ex→St→Prop} (hc:aG s c=⟨none,.sa (.one (.tf true))⟩) (h:Cd A cx L x s K):Cd A cx L (.cond c x y) s K:=by
 refine⟨?_⟩
 unfold ex
 rw [hc]
 exact h.run
theorem aj {c:Operand} {x y:Code} {s:St} {K:Ex→St→Prop} (hc:aG s c=⟨none,.sa (.one (.tf false))⟩) (h:Cd A cx L y s K):Cd A cx L (.cond c x y) s K:=by
 refine⟨?_⟩
 unfold ex
 rw [hc]
 exact h.run
theorem aw {s:St} {K:Ex→St→Prop} (h:K .ret s):Cd A cx L .ret s K:=⟨h⟩
theorem aq {s:St} {K:Ex→St→Prop} (h:K .normal s):Cd A cx L .skip s K:=⟨h⟩
theorem au {i:Nat} {s:St} {K:Ex→St→Prop} (h:K (.exit i) s):Cd A cx L (.exit i) s K:=⟨h⟩
theorem ar {c:Code} {s:St} {K:Ex→St→Prop} (h:L c s K):Cd A cx L (.loop c) s K:=⟨h⟩
theorem ay (zq:∀ K,Z K=K) {K:Ex→St→Prop} {e:Ex} {s:St} (h:K e s):Z K e s:=by rwa [zq]
end
structure aF {α:Type} (O:Ob α) (rd:St→α) (I:α→St) (s:St):Prop where
 all:O.q (rd s)∧O.m (rd s)∧s.le (I (rd s))
theorem aa {P:Program} {b:Bs} {gv:List Value} {L:Code→St→(Ex→St→Prop)→Prop} (h:Lp P b gv=L):∀ c s K K',(∀ e s,K e s→K' e s)→L c s K→L c s K':=by
 subst h
 exact fun _ _ _ _=>Lp.mono
theorem bj {P:Program} {cx:Cx} (hc:cm P cx) {b:Bs} {gv:List Value} {c:Code} {st:St} {K:Ex→St→Prop} {α:Type} (Q:α→Prop) (I:α→St) (μ:α→Nat) (rd:St→α) (x0:α) (hQ:Q x0) (h0:st.le (I x0))
  (round:∀ x,Q x→∀ O:Ob α,(⟨Q,fun y=>μ y < μ x⟩:Ob α)=O→Cd Ar.U cx (Lp P b gv) c (I x) (fun e st'=>match e with
   |.normal=>aF O rd I st'
   |e=>K e st')):Lp P b gv c st K:=by
 refine dA hc Q I μ rd x0 hQ h0 fun x hx O hO=>?_
 refine dL (L:=Lp P b gv) (fun _ _ _ _=>Lp.mono) c (fun e s' h=>?_) (round x hx O hO).run
 cases e <;> first|exact h.all|exact h
theorem aT {A:Ar} {cx:Cx} {L:Code→St→(Ex→St→Prop)→Prop} {Z:(Ex→St→Prop)→Ex→St→Prop} (zq:∀ K,Z K=K) {c:Code} {s:St} {K:Ex→St→Prop} (h:Cd A cx L c s (Z K)):Cd A cx L c s K:=by rwa [zq] at h
theorem aH:∃ Z:(Ex→St→Prop)→Ex→St→Prop,∀ K,Z K=K:=⟨id,fun _=>rfl⟩
end Go.Proofs.YtakebkfhigadiaaGreat.Ry
