/-
  A contract's block may hold a nil slice where it asks for one that may be appended to. No condition.
-/
import Derived.Test.YtelhldgdnlppfaaGreatVdW16
namespace Go.Proofs.YtelhldgdnlppfaaGreat.Ry
open Go
def isNil:SC→Bool
 |.val (.slice none 0 0)=>true
 |_=>false
theorem yR {c:SC} (h:isNil c=true):c = .val (.slice none 0 0):=by
 unfold isNil at h
 split at h
 ·rfl
 ·cases h
def jZ:List SC→Nat→SC→Option (List SC)
 |[],_,_=>none
 |c :: l,0,x=>match isNil c with
  |true=>some (x :: l)
  |false=>none
 |c :: l,j+1,x=>match jZ l j x with
  |some l'=>some (c :: l')
  |none=>none
def dY:H→Nat→eD→H
 |[],_,_=>[]
 |(k,c) :: l,n,b=>match bI k n with
  |true=>(k,b) :: dY l n b
  |false=>(k,c) :: dY l n b
def gA:H→Nat→eD→H
 |[],k,b=>[(k,b)]
 |p :: l,k,b=>p :: gA l k b
def hnS (n j k t:Nat) (s:Sh) (h:H):Option H:=match ak h n,ak h k with
 |some (.cells ty cs),none=>match jZ cs j (.sl (some (k,t)) (.ah s [])) with
  |some cs'=>some (gA (dY h n (.cells ty cs')) k .tok)
  |none=>none
 |_,_=>none
def zd (n j k t:Nat) (s:Sh) (bE:aZ):aZ:=fun args h=>match hnS n j k t s h with
 |some h'=>bE args h'
 |none=>none
theorem ob {G:Gm} {x:SC} (hx:x.is G (.slice none 0 0)):∀ {cs:List SC} {j:Nat} {cs' : List SC} {vs:List Value},jZ cs j x=some cs'→aM G cs vs→aM G cs' vs
 |[],_,_,_,h,_=>by cases h
 |_ :: _,_,_,[],_,hc=>hc.elim
 |c :: l,0,cs',v :: vs,h,⟨⟨h1,h2⟩,h3⟩=>by
  unfold jZ at h
  cases e:isNil c
  ·rw [e] at h
   cases h
  ·rw [e] at h
   cases h
   have e:=yR e
   subst e
   have hv:v = .slice none 0 0:=h1
   subst hv
   exact⟨⟨hx,h2⟩,h3⟩
 |c :: l,j+1,cs',v :: vs,h,⟨⟨h1,h2⟩,h3⟩=>by
  unfold jZ at h
  cases e:jZ l j x with
  |none =>
   rw [e] at h
   cases h
  |some l' =>
   rw [e] at h
   cases h
   exact⟨⟨h1,h2⟩,ob hx e h3⟩
theorem mr {tk:Option (Nat × TypeId)} {c0:Ct}:∀ {cs:List SC} {j:Nat} {cs' : List SC},jZ cs j (.sl tk c0)=some cs'→dx cs' = dx cs
 |[],_,_,h=>by cases h
 |c :: l,0,cs',h=>by
  unfold jZ at h
  cases e:isNil c
  ·rw [e] at h
   cases h
  ·rw [e] at h
   cases h
   have e:=yR e
   subst e
   rfl
 |c :: l,j+1,cs',h=>by
  unfold jZ at h
  cases e:jZ l j (.sl tk c0) with
  |none =>
   rw [e] at h
   cases h
  |some l' =>
   rw [e] at h
   cases h
   have:=mr e
   cases c <;> first|exact this|exact congrArg (List.cons _) this
theorem jM:∀ {h:H} {n:Nat} {b b0:eD} (_:ak h n=some b0) (m:Nat),ak (dY h n b) m=if n=m then some b else ak h m
 |[],_,_,_,e,_=>by cases e
 |(k,c) :: l,n,b,b0,e,m=>by
  have all:∀ (l:H),¬n=m→ak (dY l n b) m=ak l m:=by
   intro l hne
   induction l with
   |nil=>rfl
   |cons p l ih =>
    obtain⟨k,c⟩:=p
    unfold dY
    cases g:bI k n
    ·simp only
     unfold ak
     rw [ih]
    ·have:=aK g
     subst this
     simp only
     unfold ak
     rw [ih,dH hne]
  by_cases hne:n=m
  ·subst hne
   rw [if_pos rfl]
   unfold dY
   unfold ak at e
   cases g:bI k n
   ·rw [g] at e
    simp only
    unfold ak
    rw [g]
    have:=jM (b:=b) e n
    rw [if_pos rfl] at this
    exact this
   ·simp only
    unfold ak
    rw [g]
  ·rw [if_neg hne]
   exact all _ hne
theorem AI:∀ {h:H} {k:Nat} {b:eD} (_:ak h k=none) (m:Nat),ak (gA h k b) m=if k=m then some b else ak h m
 |[],k,b,_,m=>by
  show (match bI k m with|true=>some b|false=>none)=_
  by_cases g:k=m
  ·subst g
   rw [cI,if_pos rfl]
  ·rw [dH g,if_neg g]
   rfl
 |(i,c) :: l,k,b,e,m=>by
  unfold ak at e
  cases g:bI i k
  ·rw [g] at e
   have ih:=AI (b:=b) e m
   show (match bI i m with|true=>some c|false=>ak (gA l k b) m)=if k=m then some b else (match bI i m with|true=>some c|false=>ak l m)
   by_cases q:i=m
   ·subst q
    rw [cI,if_neg (fun q=>by rw [q,cI] at g;cases g)]
   ·rw [dH q,ih]
  ·rw [g] at e
   cases e
theorem py:∀ (h:H) (n:Nat) (b:eD),(dY h n b).map (·.1)=h.map (·.1)
 |[],_,_=>rfl
 |(k,c) :: l,n,b=>by
  unfold dY
  cases g:bI k n <;> simp only [List.map_cons,py l n b]
theorem vh:∀ (h:H) (n:Nat) (b:eD),(gA h n b).map (·.1)=h.map (·.1) ++ [n]
 |[],_,_=>rfl
 |p :: l,n,b=>by
  unfold gA
  simp only [List.map_cons,vh l n b,List.cons_append]
def Hg (h:H) (n:Nat):List Nat:=match ak h n with
 |some (.cells _ cs)=>dx cs
 |_=>[]
theorem gJ (h:H):lU h=(h.map (·.1)).flatMap (Hg h):=by
 rw [List.flatMap_map]
 rfl
theorem wP {α β:Type} {f g:α→List β}:∀ (l:List α),(∀ x,f x=g x)→l.flatMap f=l.flatMap g
 |[],_=>rfl
 |x :: l,h=>by rw [List.flatMap_cons,List.flatMap_cons,h x,wP l h]
theorem BC {h:H} {n k:Nat} {b b0 bk:eD} (hn:ak h n=some b0) (hk:ak h k=none) (m:Nat):ak (gA (dY h n b) k bk) m=if k=m then some bk else if n=m then some b else ak h m:=by
 have nk:¬n=k:=fun q=>by rw [← q,hn] at hk;cases hk
 rw [AI (by rw [jM hn,if_neg nk];exact hk),jM hn]
theorem Iu {n j k t:Nat} {s:Sh} {h h' : H} (e:hnS n j k t s h=some h'):lU h' = lU h∧∀ i,dy h i=true→dy h' i=true∧¬i=k:=by
 unfold hnS at e
 split at e
 ·rename_i ty cs hn hk
  split at e
  ·rename_i cs' hc
   cases e
   have hg:=BC (b:=.cells ty cs') (bk:=.tok) hn hk
   refine⟨?_,fun i hi=>?_⟩
   ·rw [gJ,gJ h,vh,py,List.flatMap_append]
    have hlast:[k].flatMap (Hg (gA (dY h n (.cells ty cs')) k .tok))=[]:=by
     rw [List.flatMap_cons]
     unfold Hg
     rw [hg,if_pos rfl]
     rfl
    rw [hlast,List.append_nil]
    refine wP _ fun m=>?_
    unfold Hg
    rw [hg]
    by_cases c2:k=m
    ·subst c2
     rw [if_pos rfl,hk]
    ·rw [if_neg c2]
     by_cases c1:n=m
     ·subst c1
      rw [if_pos rfl,hn]
      exact mr hc
     ·rw [if_neg c1]
   ·have ik:¬k=i:=fun q=>by
     rw [← q] at hi
     unfold dy at hi
     rw [hk] at hi
     cases hi
    have inn:¬n=i:=fun q=>by
     rw [← q] at hi
     unfold dy at hi
     rw [hn] at hi
     cases hi
    refine⟨?_,fun q=>ik q.symm⟩
    unfold dy at hi ⊢
    rw [hg,if_neg ik,if_neg inn]
    exact hi
  ·cases e
 ·cases e
theorem vB {G G1 G' : Gm}:∀ {ow:List Nat} {ys:List SA},(∀ i,dy G.h i=true→dy G1.h i=true∧G1.o i=G.o i)→eP G1 G' ow ys→eP G G' ow ys
 |[],[],_,_=>trivial
 |[],_ :: _,_,_=>trivial
 |_ :: _,[],_,_=>trivial
 |j :: l,y :: ys,hm,h=>by
  have ih:eP G1 G' l ys→eP G G' l ys:=vB hm
  cases y with
  |one c=>cases c with
   |own i=>exact⟨fun a b=>(h.1 a (hm _ b).1).trans (hm _ b).2,ih h.2⟩
   |_=>exact ih h
  |agg _=>exact ih h
  |dZ _=>exact ih h
theorem pD {G G1 G' : Gm} {ow:List Nat} (hm:∀ i,dy G.h i=true→dy G1.h i=true∧G1.o i=G.o i):∀ {ys:List SA} {vs:List Value},ov G1 G' ow ys vs→ov G G' ow ys vs
 |[],[],_=>trivial
 |[],_ :: _,_=>trivial
 |_ :: _,[],h=>vB hm h
 |_ :: _,_ :: _,⟨h1,h2⟩=>⟨h1,pD hm h2⟩
theorem kS {f:FuncId} {bE:aZ} (n j k t:Nat) (s:Sh) (h:aA Tryz.prog f bE):aA Tryz.prog f (zd n j k t s bE) :=
 ⟨h.1,fun args h0 p hc hC G vs h1 h2 h3 hv=>by
  unfold zd at hc
  split at hc
  ·rename_i h' e
   obtain⟨o1,o2⟩:=Iu e
   have e0:=e
   unfold hnS at e
   split at e
   ·rename_i ty cs hn hk
    split at e
    ·rename_i cs' hcs
     cases e
     have nk:¬k=n:=fun q=>by rw [q,hn] at hk;cases hk
     rw [← h1] at hn hk
     have hg:=BC (h:=G.h) (b:=.cells ty cs') (bk:=.tok) hn hk
     obtain⟨g,us,b1,b2,b3⟩:=h3.ig n _ hn
     have nk2:¬n=k:=fun q=>nk q.symm
     obtain⟨x1,m1⟩:=dh (G':=⟨fun i=>if i=k then none else G.o i,gA (dY G.h n (.cells ty cs')) k .tok,G.bs,G.w⟩) h3 (fun i=>i=n∨i=k) rfl
      (fun i hi=>⟨by rw [hg,if_neg (fun q=>hi (.inr q.symm)),if_neg (fun q=>hi (.inl q.symm))],by show (if i=k then none else G.o i)=_;rw [if_neg (fun q=>hi (.inr q))]⟩)
      rfl rfl rfl (Nat.le_refl _) (fun _ _ _=>rfl) (fun _ _ _ _ _ _ _ _=>rfl)
      (fun i hi _ b m q=>by
       have ik:¬i=k:=fun e=>by
        have q:(if i=k then none else G.o i)=some (b,m):=q
        rw [if_pos e] at q
        cases q
       have hin:i=n:=hi.resolve_right ik
       subst hin
       have q:(if i=k then none else G.o i)=some (b,m):=q
       rw [if_neg ik] at q
       exact⟨(h3.own i ⟨_,hn,rfl⟩ b m q).1,.inr ⟨i,m,.inl rfl,⟨_,hn,rfl⟩,q,Nat.le_refl _⟩⟩)
      (fun i i' hi hi' _ _ b m m' q q'=>by
       have ik:¬i=k:=fun e=>by
        have q:(if i=k then none else G.o i)=some (b,m):=q
        rw [if_pos e] at q
        cases q
       have ik' : ¬i' = k:=fun e=>by
        have q:(if i' = k then none else G.o i')=some (b,m'):=q'
        rw [if_pos e] at q
        cases q
       exact (hi.resolve_right ik).trans (hi'.resolve_right ik').symm)
      (fun i hi b hb=>by
       have ik:¬i=k:=fun e=>by
        rw [e,hk] at hb
        cases hb
       have hin:i=n:=hi.resolve_right ik
       subst hin
       rw [hn] at hb
       cases hb
       refine⟨.cells ty cs',by rw [hg,if_neg nk,if_pos rfl],fun _=>?_⟩
       show (if i=k then none else G.o i)=G.o i
       rw [if_neg ik])
      (fun i hi b hb x=>by
       rw [hg] at hb
       by_cases ik:i=k
       ·rw [if_pos ik.symm] at hb
        cases hb
        trivial
       ·have hin:i=n:=hi.resolve_right ik
        subst hin
        rw [if_neg nk,if_pos rfl] at hb
        cases hb
        refine⟨g,us,?_,b2,?_⟩
        ·show (if i=k then none else G.o i)=_
         rw [if_neg ik]
         exact b1
        ·refine ob ?_ hcs (aM.ext x b3)
         refine⟨⟨none,0,rfl,Nat.le_refl _,by unfold maxLen;omega,fun q=>absurd rfl q⟩,?_⟩
         unfold gk
         simp only
         rw [hg,if_pos rfl]
         exact .inl ⟨none,rfl⟩) (jz.refl _)
     have hh:gA (dY G.h n (.cells ty cs')) k .tok=gA (dY h0 n (.cells ty cs')) k .tok:=by rw [h1]
     have:=h.2 args _ p hc hC ⟨fun i=>if i=k then none else G.o i,gA (dY G.h n (.cells ty cs')) k .tok,G.bs,G.w⟩ vs hh h2 m1 (bg.ext x1 hv)
     refine this.mono fun r w' hr=>?_
     obtain⟨v,G',r1,r2,r3,r4,r5,r6,r7⟩:=hr
     refine⟨v,G',r1,r2,r3,r4,r5,r6,?_⟩
     have ow:bN args (gA (dY h0 n (.cells ty cs')) k .tok)=bN args h0:=by
      unfold bN
      rw [o1]
     rw [ow] at r7
     refine pD (fun i hi=>?_) r7
     rw [h1] at hi
     obtain⟨q1,q2⟩:=o2 i hi
     show dy (gA (dY G.h n (.cells ty cs')) k .tok) i=true∧(if i=k then none else G.o i)=G.o i
     rw [hh]
     exact⟨q1,if_neg q2⟩
    ·cases e
   ·cases e
  ·cases hc⟩
def VE (n j:Nat) (x:SC) (h:H):Option H:=match ak h n with
 |some (.cells ty cs)=>match jZ cs j x with
  |some cs'=>some (dY h n (.cells ty cs'))
  |none=>none
 |_=>none
def rJ (n j:Nat) (c:Ct) (bE:aZ):aZ:=fun args h=>match VE n j (.sl none (eR c)) h with
 |some h'=>bE args h'
 |none=>none
theorem IV {n j:Nat} {c:Ct} {h h' : H} (e:VE n j (.sl none c) h=some h'):lU h' = lU h∧∀ i,dy h i=true→dy h' i=true:=by
 unfold VE at e
 split at e
 ·rename_i ty cs hn
  split at e
  ·rename_i cs' hc
   cases e
   have hg:=jM (b:=.cells ty cs') hn
   refine⟨?_,fun i hi=>?_⟩
   ·rw [gJ,gJ h,py]
    refine wP _ fun m=>?_
    unfold Hg
    rw [hg]
    by_cases c1:n=m
    ·subst c1
     rw [if_pos rfl,hn]
     exact mr hc
    ·rw [if_neg c1]
   ·have inn:¬n=i:=fun q=>by
     rw [← q] at hi
     unfold dy at hi
     rw [hn] at hi
     cases hi
    unfold dy at hi ⊢
    rw [hg,if_neg inn]
    exact hi
  ·cases e
 ·cases e
theorem kg {f:FuncId} {bE:aZ} (n j:Nat) (c:Ct) (h:aA Tryz.prog f bE):aA Tryz.prog f (rJ n j c bE) :=
 ⟨h.1,fun args h0 p hc hC G vs h1 h2 h3 hv=>by
  unfold rJ at hc
  split at hc
  ·rename_i h' e
   obtain⟨o1,o2⟩:=IV e
   unfold VE at e
   split at e
   ·rename_i ty cs hn
    split at e
    ·rename_i cs' hcs
     cases e
     rw [← h1] at hn
     have hg:=jM (h:=G.h) (b:=.cells ty cs') hn
     obtain⟨g,us,b1,b2,b3⟩:=h3.ig n _ hn
     obtain⟨x1,m1⟩:=dh (G':=⟨G.o,dY G.h n (.cells ty cs'),G.bs,G.w⟩) h3 (fun i=>i=n) rfl
      (fun i hi=>⟨by rw [hg,if_neg (fun q=>hi q.symm)],rfl⟩)
      rfl rfl rfl (Nat.le_refl _) (fun _ _ _=>rfl) (fun _ _ _ _ _ _ _ _=>rfl)
      (fun i hi _ b m q=>by
       subst hi
       exact⟨(h3.own i ⟨_,hn,rfl⟩ b m q).1,.inr ⟨i,m,rfl,⟨_,hn,rfl⟩,q,Nat.le_refl _⟩⟩)
      (fun i i' hi hi' _ _ b m m' q q'=>hi.trans hi'.symm)
      (fun i hi b hb=>by
       subst hi
       rw [hn] at hb
       cases hb
       exact⟨.cells ty cs',by rw [hg,if_pos rfl],fun _=>rfl⟩)
      (fun i hi b hb x=>by
       subst hi
       rw [hg,if_pos rfl] at hb
       cases hb
       exact⟨g,us,b1,b2,ob (BR c) hcs (aM.ext x b3)⟩) (jz.refl _)
     have hh:dY G.h n (.cells ty cs')=dY h0 n (.cells ty cs'):=by rw [h1]
     have:=h.2 args _ p hc hC ⟨G.o,dY G.h n (.cells ty cs'),G.bs,G.w⟩ vs hh h2 m1 (bg.ext x1 hv)
     refine this.mono fun r w' hr=>?_
     obtain⟨v,G',r1,r2,r3,r4,r5,r6,r7⟩:=hr
     refine⟨v,G',r1,r2,r3,r4,r5,r6,?_⟩
     have ow:bN args (dY h0 n (.cells ty cs'))=bN args h0:=by
      unfold bN
      rw [o1]
     rw [ow] at r7
     refine pD (fun i hi=>?_) r7
     rw [h1] at hi
     show dy (dY G.h n (.cells ty cs')) i=true∧G.o i=G.o i
     rw [hh]
     exact⟨o2 i hi,rfl⟩
    ·cases e
   ·cases e
  ·cases hc⟩
def SL (n:Nat) (p:qm):qm:=⟨p.C,p.r,p.h,p.as.take n⟩
def KY (n j k t:Nat) (c:Ct) (bE:aZ):aZ:=fun args h=>match ak h k with
 |some _=>none
 |none=>match VE n j (.own k) h with
  |some h'=>match bE args (gA h' k (.row t (eR c))) with
   |some p=>some (SL args.length p)
   |none=>none
  |none=>none
theorem DL {G G1 G' : Gm} {ow ow' : List Nat}:∀ {ys:List SA} {vs:List Value},ov G1 G' ow' ys vs→ov G G' ow (ys.take vs.length) vs
 |[],[],_=>trivial
 |[],_ :: _,_=>trivial
 |_ :: _,[],_=>trivial
 |_ :: _,_ :: _,⟨h1,h2⟩=>⟨h1,DL h2⟩
theorem HH {f:FuncId} {bE:aZ} (n j k t:Nat) (c:Ct) (h:aA Tryz.prog f bE):aA Tryz.prog f (KY n j k t c bE) :=
 ⟨h.1,fun args h0 p hc hC G vs h1 h2 h3 hv=>by
  unfold KY at hc
  split at hc
  ·cases hc
  ·rename_i hk
   split at hc
   ·rename_i h' e
    split at hc
    ·rename_i p0 hp
     cases hc
     unfold VE at e
     split at e
     ·rename_i ty cs hn
      split at e
      ·rename_i cs' hcs
       cases e
       have nk:¬k=n:=fun q=>by rw [q,hn] at hk;cases hk
       rw [← h1] at hn hk
       have hg:=BC (h:=G.h) (b:=.cells ty cs') (bk:=.row t (eR c)) hn hk
       obtain⟨g,us,b1,b2,b3⟩:=h3.ig n _ hn
       obtain⟨x1,m1⟩:=dh (G':=⟨fun i=>if i=k then none else G.o i,gA (dY G.h n (.cells ty cs')) k (.row t (eR c)),G.bs,G.w⟩) h3 (fun i=>i=n∨i=k) rfl
        (fun i hi=>⟨by rw [hg,if_neg (fun q=>hi (.inr q.symm)),if_neg (fun q=>hi (.inl q.symm))],by show (if i=k then none else G.o i)=_;rw [if_neg (fun q=>hi (.inr q))]⟩)
        rfl rfl rfl (Nat.le_refl _) (fun _ _ _=>rfl) (fun _ _ _ _ _ _ _ _=>rfl)
        (fun i hi _ b m q=>by
         have ik:¬i=k:=fun e=>by
          have q:(if i=k then none else G.o i)=some (b,m):=q
          rw [if_pos e] at q
          cases q
         have hin:i=n:=hi.resolve_right ik
         subst hin
         have q:(if i=k then none else G.o i)=some (b,m):=q
         rw [if_neg ik] at q
         exact⟨(h3.own i ⟨_,hn,rfl⟩ b m q).1,.inr ⟨i,m,.inl rfl,⟨_,hn,rfl⟩,q,Nat.le_refl _⟩⟩)
        (fun i i' hi hi' _ _ b m m' q q'=>by
         have ik:¬i=k:=fun e=>by
          have q:(if i=k then none else G.o i)=some (b,m):=q
          rw [if_pos e] at q
          cases q
         have ik' : ¬i' = k:=fun e=>by
          have q:(if i' = k then none else G.o i')=some (b,m'):=q'
          rw [if_pos e] at q
          cases q
         exact (hi.resolve_right ik).trans (hi'.resolve_right ik').symm)
        (fun i hi b hb=>by
         have ik:¬i=k:=fun e=>by
          rw [e,hk] at hb
          cases hb
         have hin:i=n:=hi.resolve_right ik
         subst hin
         rw [hn] at hb
         cases hb
         refine⟨.cells ty cs',by rw [hg,if_neg nk,if_pos rfl],fun _=>?_⟩
         show (if i=k then none else G.o i)=G.o i
         rw [if_neg ik])
        (fun i hi b hb x=>by
         rw [hg] at hb
         by_cases ik:i=k
         ·rw [if_pos ik.symm] at hb
          cases hb
          refine .inl ⟨fP c,?_⟩
          show (if i=k then none else G.o i)=none
          rw [if_pos ik]
         ·have hin:i=n:=hi.resolve_right ik
          subst hin
          rw [if_neg nk,if_pos rfl] at hb
          cases hb
          refine⟨g,us,?_,b2,?_⟩
          ·show (if i=k then none else G.o i)=_
           rw [if_neg ik]
           exact b1
          ·refine ob ?_ hcs (aM.ext x b3)
           refine⟨⟨none,0,0,rfl⟩,?_⟩
           unfold bu
           simp only
           rw [hg,if_pos rfl]
           refine .inl ⟨fP c,?_,none,rfl⟩
           show (if k=k then none else G.o k)=none
           rw [if_pos rfl]) (jz.refl _)
       have hh:gA (dY G.h n (.cells ty cs')) k (.row t (eR c))=gA (dY h0 n (.cells ty cs')) k (.row t (eR c)):=by rw [h1]
       have:=h.2 args _ p0 hp hC ⟨fun i=>if i=k then none else G.o i,gA (dY G.h n (.cells ty cs')) k (.row t (eR c)),G.bs,G.w⟩ vs hh h2 m1 (bg.ext x1 hv)
       refine this.mono fun r w' hr=>?_
       obtain⟨v,G',r1,r2,r3,r4,r5,r6,r7⟩:=hr
       refine⟨v,G',r1,r2,r3,r4,r5,r6,?_⟩
       have:=DL (G:=G) (ow:=bN args h0) r7
       rw [← hv.len] at this
       exact this
      ·cases e
     ·cases e
    ·cases hc
   ·cases hc⟩
end Go.Proofs.YtelhldgdnlppfaaGreat.Ry
