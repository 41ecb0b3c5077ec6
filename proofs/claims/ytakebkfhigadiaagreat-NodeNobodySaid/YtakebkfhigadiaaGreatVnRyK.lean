/-
  A contract's block may hold a nil slice where it asks for one that may be appended to. No condition.
-/
import Derived.Test.YtakebkfhigadiaaGreatVnW17
namespace Go.Proofs.YtakebkfhigadiaaGreat.Ry
open Go
def isNil:SC→Bool
 |.val (.slice none 0 0)=>true
 |_=>false
theorem vD {c:SC} (h:isNil c=true):c = .val (.slice none 0 0):=by
 unfold isNil at h
 split at h
 ·rfl
 ·cases h
def ig:List SC→Nat→SC→Option (List SC)
 |[],_,_=>none
 |c :: l,0,x=>match isNil c with
  |true=>some (x :: l)
  |false=>none
 |c :: l,j+1,x=>match ig l j x with
  |some l'=>some (c :: l')
  |none=>none
def eR:H→Nat→dP→H
 |[],_,_=>[]
 |(k,c) :: l,n,b=>match bF k n with
  |true=>(k,b) :: eR l n b
  |false=>(k,c) :: eR l n b
def fk:H→Nat→dP→H
 |[],k,b=>[(k,b)]
 |p :: l,k,b=>p :: fk l k b
def Vo (n j k t:Nat) (s:Sh) (h:H):Option H:=match ak h n,ak h k with
 |some (.cells ty cs),none=>match ig cs j (.sl (some (k,t)) (.ae s [])) with
  |some cs'=>some (fk (eR h n (.cells ty cs')) k .tok)
  |none=>none
 |_,_=>none
def OY (n j k t:Nat) (s:Sh) (bJ:aW):aW:=fun args h=>match Vo n j k t s h with
 |some h'=>bJ args h'
 |none=>none
theorem qv {G:Gm} {x:SC} (hx:x.is G (.slice none 0 0)):∀ {cs:List SC} {j:Nat} {cs' : List SC} {vs:List Value},ig cs j x=some cs'→aO G cs vs→aO G cs' vs
 |[],_,_,_,h,_=>by cases h
 |_ :: _,_,_,[],_,hc=>hc.elim
 |c :: l,0,cs',v :: vs,h,⟨⟨h1,h2⟩,h3⟩=>by
  unfold ig at h
  cases e:isNil c
  ·rw [e] at h
   cases h
  ·rw [e] at h
   cases h
   have e:=vD e
   subst e
   have hv:v = .slice none 0 0:=h1
   subst hv
   exact⟨⟨hx,h2⟩,h3⟩
 |c :: l,j+1,cs',v :: vs,h,⟨⟨h1,h2⟩,h3⟩=>by
  unfold ig at h
  cases e:ig l j x with
  |none =>
   rw [e] at h
   cases h
  |some l' =>
   rw [e] at h
   cases h
   exact⟨⟨h1,h2⟩,qv hx e h3⟩
theorem pI {tk:Option (Nat × TypeId)} {c0:Ct}:∀ {cs:List SC} {j:Nat} {cs' : List SC},ig cs j (.sl tk c0)=some cs'→df cs' = df cs
 |[],_,_,h=>by cases h
 |c :: l,0,cs',h=>by
  unfold ig at h
  cases e:isNil c
  ·rw [e] at h
   cases h
  ·rw [e] at h
   cases h
   have e:=vD e
   subst e
   rfl
 |c :: l,j+1,cs',h=>by
  unfold ig at h
  cases e:ig l j (.sl tk c0) with
  |none =>
   rw [e] at h
   cases h
  |some l' =>
   rw [e] at h
   cases h
   have:=pI e
   cases c <;> first|exact this|exact congrArg (List.cons _) this
theorem qj:∀ {h:H} {n:Nat} {b b0:dP} (_:ak h n=some b0) (m:Nat),ak (eR h n b) m=if n=m then some b else ak h m
 |[],_,_,_,e,_=>by cases e
 |(k,c) :: l,n,b,b0,e,m=>by
  have all:∀ (l:H),¬n=m→ak (eR l n b) m=ak l m:=by
   intro l hne
   induction l with
   |nil=>rfl
   |cons p l ih =>
    obtain⟨k,c⟩:=p
    unfold eR
    cases g:bF k n
    ·simp only
     unfold ak
     rw [ih]
    ·have:=aL g
     subst this
     simp only
     unfold ak
     rw [ih,dn hne]
  by_cases hne:n=m
  ·subst hne
   rw [if_pos rfl]
   unfold eR
   unfold ak at e
   cases g:bF k n
   ·rw [g] at e
    simp only
    unfold ak
    rw [g]
    have:=qj (b:=b) e n
    rw [if_pos rfl] at this
    exact this
   ·simp only
    unfold ak
    rw [g]
  ·rw [if_neg hne]
   exact all _ hne
theorem wO:∀ {h:H} {k:Nat} {b:dP} (_:ak h k=none) (m:Nat),ak (fk h k b) m=if k=m then some b else ak h m
 |[],k,b,_,m=>by
  show (match bF k m with|true=>some b|false=>none)=_
  by_cases g:k=m
  ·subst g
   rw [cJ,if_pos rfl]
  ·rw [dn g,if_neg g]
   rfl
 |(i,c) :: l,k,b,e,m=>by
  unfold ak at e
  cases g:bF i k
  ·rw [g] at e
   have ih:=wO (b:=b) e m
   show (match bF i m with|true=>some c|false=>ak (fk l k b) m)=if k=m then some b else (match bF i m with|true=>some c|false=>ak l m)
   by_cases q:i=m
   ·subst q
    rw [cJ,if_neg (fun q=>by rw [q,cJ] at g;cases g)]
   ·rw [dn q,ih]
  ·rw [g] at e
   cases e
theorem rm:∀ (h:H) (n:Nat) (b:dP),(eR h n b).map (·.1)=h.map (·.1)
 |[],_,_=>rfl
 |(k,c) :: l,n,b=>by
  unfold eR
  cases g:bF k n <;> simp only [List.map_cons,rm l n b]
theorem sA:∀ (h:H) (n:Nat) (b:dP),(fk h n b).map (·.1)=h.map (·.1) ++ [n]
 |[],_,_=>rfl
 |p :: l,n,b=>by
  unfold fk
  simp only [List.map_cons,sA l n b,List.cons_append]
def Ll (h:H) (n:Nat):List SC:=match ak h n with
 |some (.cells _ cs)=>df cs
 |_=>[]
theorem nB (h:H):pZ h=(h.map (·.1)).flatMap (Ll h):=by
 rw [List.flatMap_map]
 rfl
theorem Bb {α β:Type} {f g:α→List β}:∀ (l:List α),(∀ x,f x=g x)→l.flatMap f=l.flatMap g
 |[],_=>rfl
 |x :: l,h=>by rw [List.flatMap_cons,List.flatMap_cons,h x,Bb l h]
theorem xX {h:H} {n k:Nat} {b b0 bk:dP} (hn:ak h n=some b0) (hk:ak h k=none) (m:Nat):ak (fk (eR h n b) k bk) m=if k=m then some bk else if n=m then some b else ak h m:=by
 have nk:¬n=k:=fun q=>by rw [← q,hn] at hk;cases hk
 rw [wO (by rw [qj hn,if_neg nk];exact hk),qj hn]
theorem GM {n j k t:Nat} {s:Sh} {h h' : H} (e:Vo n j k t s h=some h'):pZ h' = pZ h∧∀ i,(dq h i=true→dq h' i=true∧¬i=k)∧(fp h i=true→fp h' i=true∧¬i=k):=by
 unfold Vo at e
 split at e
 ·rename_i ty cs hn hk
  split at e
  ·rename_i cs' hc
   cases e
   have hg:=xX (b:=.cells ty cs') (bk:=.tok) hn hk
   refine⟨?_,fun i=>⟨fun hi=>?_,fun hi=>?_⟩⟩
   ·rw [nB,nB h,sA,rm,List.flatMap_append]
    have hlast:[k].flatMap (Ll (fk (eR h n (.cells ty cs')) k .tok))=[]:=by
     rw [List.flatMap_cons]
     unfold Ll
     rw [hg,if_pos rfl]
     rfl
    rw [hlast,List.append_nil]
    refine Bb _ fun m=>?_
    unfold Ll
    rw [hg]
    by_cases c2:k=m
    ·subst c2
     rw [if_pos rfl,hk]
    ·rw [if_neg c2]
     by_cases c1:n=m
     ·subst c1
      rw [if_pos rfl,hn]
      exact pI hc
     ·rw [if_neg c1]
   ·have ik:¬k=i:=fun q=>by
     rw [← q] at hi
     unfold dq at hi
     rw [hk] at hi
     cases hi
    have inn:¬n=i:=fun q=>by
     rw [← q] at hi
     unfold dq at hi
     rw [hn] at hi
     cases hi
    refine⟨?_,fun q=>ik q.symm⟩
    unfold dq at hi ⊢
    rw [hg,if_neg ik,if_neg inn]
    exact hi
   ·have ik:¬k=i:=fun q=>by
     rw [← q] at hi
     unfold fp at hi
     rw [hk] at hi
     cases hi
    refine⟨?_,fun q=>ik q.symm⟩
    unfold fp at hi ⊢
    rw [hg,if_neg ik]
    by_cases c1:n=i
    ·rw [if_pos c1]
    ·rw [if_neg c1]
     exact hi
  ·cases e
 ·cases e
theorem ES {h h1 h' : H} (hm:∀ i,(dq h i=true→dq h1 i=true)∧(fp h i=true→fp h1 i=true)):∀ {p:Bool × Nat × Nat},Ji h h' p=true→Ji h1 h' p=true
 |(true,_,j),e=>by
  have e:(dq h j && dq h' _)=true:=e
  rw [Bool.and_eq_true] at e
  show (dq h1 j && dq h' _)=true
  rw [Bool.and_eq_true]
  exact⟨(hm j).1 e.1,e.2⟩
 |(false,_,j),e=>by
  have e:(fp h j && fp h' _)=true:=e
  rw [Bool.and_eq_true] at e
  show (fp h1 j && fp h' _)=true
  rw [Bool.and_eq_true]
  exact⟨(hm j).2 e.1,e.2⟩
theorem KO {h h' : H}:∀ {p:Bool × Nat × Nat},Ji h h' p=true→dq h p.2.2=true∨fp h p.2.2=true
 |(true,_,j),e=>by
  have e:(dq h j && dq h' _)=true:=e
  rw [Bool.and_eq_true] at e
  exact .inl e.1
 |(false,_,j),e=>by
  have e:(fp h j && fp h' _)=true:=e
  rw [Bool.and_eq_true] at e
  exact .inr e.1
theorem rj {G G1 G' : Gm} {ow:List SC} (hm:∀ i,(dq G.h i=true→dq G1.h i=true∧G1.o i=G.o i)∧(fp G.h i=true→fp G1.h i=true∧G1.o i=G.o i)):∀ {ys:List SA} {vs:List Value},mW G1 G' ow ys vs→mW G G' ow ys vs
 |[],[],_=>trivial
 |[],_ :: _,_=>trivial
 |_ :: _,[],h=>fun p hp hk=>(h p hp (ES (fun i=>⟨fun q=>((hm i).1 q).1,fun q=>((hm i).2 q).1⟩) hk)).trans ((KO hk).elim (fun q=>((hm _).1 q).2) fun q=>((hm _).2 q).2)
 |_ :: _,_ :: _,⟨h1,h2⟩=>⟨h1,rj hm h2⟩
theorem JU {f:FuncId} {bJ:aW} (n j k t:Nat) (s:Sh) (h:aC Tryz.prog f bJ):aC Tryz.prog f (OY n j k t s bJ) :=
 ⟨h.1,fun args h0 p hc hC G vs h1 h2 h3 hv=>by
  unfold OY at hc
  split at hc
  ·rename_i h' e
   obtain⟨o1,o2⟩:=GM e
   have e0:=e
   unfold Vo at e
   split at e
   ·rename_i ty cs hn hk
    split at e
    ·rename_i cs' hcs
     cases e
     have nk:¬k=n:=fun q=>by rw [q,hn] at hk;cases hk
     rw [← h1] at hn hk
     have hg:=xX (h:=G.h) (b:=.cells ty cs') (bk:=.tok) hn hk
     obtain⟨g,us,b1,b2,b3⟩:=h3.gm n _ hn
     have nk2:¬n=k:=fun q=>nk q.symm
     obtain⟨x1,m1⟩:=cY (G':=⟨fun i=>if i=k then none else G.o i,fk (eR G.h n (.cells ty cs')) k .tok,G.bs,G.w⟩) h3 (fun i=>i=n∨i=k) rfl
      (fun i hi=>⟨by rw [hg,if_neg (fun q=>hi (.inr q.symm)),if_neg (fun q=>hi (.inl q.symm))],by show (if i=k then none else G.o i)=_;rw [if_neg (fun q=>hi (.inr q))]⟩)
      rfl rfl rfl (Nat.le_refl _) (fun _ _ _=>rfl) (fun _ _ _ _ _ _ _ _=>rfl)
      (fun i hi _ b m q=>by
       have ik:¬i=k:=fun e=>by
        have q:(if i=k then none else G.o i)=some (b,m):=q
        rw [if_pos e] at q
        cases q
       have hin:i=n:=hi.resolve_right ik
       subst hin
       have q:(if i=k then none else G.o i)=some (b,m):=q
       rw [if_neg ik] at q
       exact⟨(h3.own i ⟨_,hn,rfl⟩ b m q).1,.inr ⟨i,m,.inl rfl,⟨_,hn,rfl⟩,q,Nat.le_refl _⟩⟩)
      (fun i i' hi hi' _ _ b m m' q q'=>by
       have ik:¬i=k:=fun e=>by
        have q:(if i=k then none else G.o i)=some (b,m):=q
        rw [if_pos e] at q
        cases q
       have ik' : ¬i' = k:=fun e=>by
        have q:(if i' = k then none else G.o i')=some (b,m'):=q'
        rw [if_pos e] at q
        cases q
       exact (hi.resolve_right ik).trans (hi'.resolve_right ik').symm)
      (fun i hi b hb=>by
       have ik:¬i=k:=fun e=>by
        rw [e,hk] at hb
        cases hb
       have hin:i=n:=hi.resolve_right ik
       subst hin
       rw [hn] at hb
       cases hb
       refine⟨.cells ty cs',by rw [hg,if_neg nk,if_pos rfl],fun _=>?_⟩
       show (if i=k then none else G.o i)=G.o i
       rw [if_neg ik])
      (fun i hi b hb x=>by
       rw [hg] at hb
       by_cases ik:i=k
       ·rw [if_pos ik.symm] at hb
        cases hb
        trivial
       ·have hin:i=n:=hi.resolve_right ik
        subst hin
        rw [if_neg nk,if_pos rfl] at hb
        cases hb
        refine⟨g,us,?_,b2,?_⟩
        ·show (if i=k then none else G.o i)=_
         rw [if_neg ik]
         exact b1
        ·refine qv ?_ hcs (aO.ext x b3)
         refine⟨⟨none,0,rfl,Nat.le_refl _,by unfold maxLen;omega,fun q=>absurd rfl q⟩,?_⟩
         unfold fo
         simp only
         rw [hg,if_pos rfl]
         exact .inl ⟨none,rfl⟩) (hY.refl _)
     have hh:fk (eR G.h n (.cells ty cs')) k .tok=fk (eR h0 n (.cells ty cs')) k .tok:=by rw [h1]
     have:=h.2 args _ p hc hC ⟨fun i=>if i=k then none else G.o i,fk (eR G.h n (.cells ty cs')) k .tok,G.bs,G.w⟩ vs hh h2 m1 (bh.ext x1 hv)
     refine this.mono fun r w' hr=>?_
     obtain⟨v,G',r1,r2,r3,r4,r5,r6,r7⟩:=hr
     refine⟨v,G',r1,r2,r3,r4,r5,r6,?_⟩
     have ow:bS args (fk (eR h0 n (.cells ty cs')) k .tok)=bS args h0:=by
      unfold bS
      rw [o1]
     rw [ow] at r7
     refine rj (fun i=>⟨fun hi=>?_,fun hi=>?_⟩) r7
     ·rw [h1] at hi
      obtain⟨q1,q2⟩:=(o2 i).1 hi
      show dq (fk (eR G.h n (.cells ty cs')) k .tok) i=true∧(if i=k then none else G.o i)=G.o i
      rw [hh]
      exact⟨q1,if_neg q2⟩
     ·rw [h1] at hi
      obtain⟨q1,q2⟩:=(o2 i).2 hi
      show fp (fk (eR G.h n (.cells ty cs')) k .tok) i=true∧(if i=k then none else G.o i)=G.o i
      rw [hh]
      exact⟨q1,if_neg q2⟩
    ·cases e
   ·cases e
  ·cases hc⟩
def YI (n j:Nat) (x:SC) (h:H):Option H:=match ak h n with
 |some (.cells ty cs)=>match ig cs j x with
  |some cs'=>some (eR h n (.cells ty cs'))
  |none=>none
 |_=>none
def RB (n:Nat) (p:qz):qz:=⟨p.C,p.r,p.h,p.as.take n⟩
def EC (n j k t:Nat) (c:Ct) (bJ:aW):aW:=fun args h=>match ak h k with
 |some _=>none
 |none=>match YI n j (.own k) h with
  |some h'=>match bJ args (fk h' k (.row t (eC c))) with
   |some p=>some (RB args.length p)
   |none=>none
  |none=>none
theorem BD {G G1 G' : Gm} {ow ow' : List SC}:∀ {ys:List SA} {vs:List Value},mW G1 G' ow' ys vs→mW G G' ow (ys.take vs.length) vs
 |[],[],_=>trivial
 |[],_ :: _,_=>trivial
 |_ :: _,[],_=>trivial
 |_ :: _,_ :: _,⟨h1,h2⟩=>⟨h1,BD h2⟩
theorem EV {f:FuncId} {bJ:aW} (n j k t:Nat) (c:Ct) (h:aC Tryz.prog f bJ):aC Tryz.prog f (EC n j k t c bJ) :=
 ⟨h.1,fun args h0 p hc hC G vs h1 h2 h3 hv=>by
  unfold EC at hc
  split at hc
  ·cases hc
  ·rename_i hk
   split at hc
   ·rename_i h' e
    split at hc
    ·rename_i p0 hp
     cases hc
     unfold YI at e
     split at e
     ·rename_i ty cs hn
      split at e
      ·rename_i cs' hcs
       cases e
       have nk:¬k=n:=fun q=>by rw [q,hn] at hk;cases hk
       rw [← h1] at hn hk
       have hg:=xX (h:=G.h) (b:=.cells ty cs') (bk:=.row t (eC c)) hn hk
       obtain⟨g,us,b1,b2,b3⟩:=h3.gm n _ hn
       obtain⟨x1,m1⟩:=cY (G':=⟨fun i=>if i=k then none else G.o i,fk (eR G.h n (.cells ty cs')) k (.row t (eC c)),G.bs,G.w⟩) h3 (fun i=>i=n∨i=k) rfl
        (fun i hi=>⟨by rw [hg,if_neg (fun q=>hi (.inr q.symm)),if_neg (fun q=>hi (.inl q.symm))],by show (if i=k then none else G.o i)=_;rw [if_neg (fun q=>hi (.inr q))]⟩)
        rfl rfl rfl (Nat.le_refl _) (fun _ _ _=>rfl) (fun _ _ _ _ _ _ _ _=>rfl)
        (fun i hi _ b m q=>by
         have ik:¬i=k:=fun e=>by
          have q:(if i=k then none else G.o i)=some (b,m):=q
          rw [if_pos e] at q
          cases q
         have hin:i=n:=hi.resolve_right ik
         subst hin
         have q:(if i=k then none else G.o i)=some (b,m):=q
         rw [if_neg ik] at q
         exact⟨(h3.own i ⟨_,hn,rfl⟩ b m q).1,.inr ⟨i,m,.inl rfl,⟨_,hn,rfl⟩,q,Nat.le_refl _⟩⟩)
        (fun i i' hi hi' _ _ b m m' q q'=>by
         have ik:¬i=k:=fun e=>by
          have q:(if i=k then none else G.o i)=some (b,m):=q
          rw [if_pos e] at q
          cases q
         have ik' : ¬i' = k:=fun e=>by
          have q:(if i' = k then none else G.o i')=some (b,m'):=q'
          rw [if_pos e] at q
          cases q
         exact (hi.resolve_right ik).trans (hi'.resolve_right ik').symm)
        (fun i hi b hb=>by
         have ik:¬i=k:=fun e=>by
          rw [e,hk] at hb
          cases hb
         have hin:i=n:=hi.resolve_right ik
         subst hin
         rw [hn] at hb
         cases hb
         refine⟨.cells ty cs',by rw [hg,if_neg nk,if_pos rfl],fun _=>?_⟩
         show (if i=k then none else G.o i)=G.o i
         rw [if_neg ik])
        (fun i hi b hb x=>by
         rw [hg] at hb
         by_cases ik:i=k
         ·rw [if_pos ik.symm] at hb
          cases hb
          refine .inl ⟨eQ c,?_⟩
          show (if i=k then none else G.o i)=none
          rw [if_pos ik]
         ·have hin:i=n:=hi.resolve_right ik
          subst hin
          rw [if_neg nk,if_pos rfl] at hb
          cases hb
          refine⟨g,us,?_,b2,?_⟩
          ·show (if i=k then none else G.o i)=_
           rw [if_neg ik]
           exact b1
          ·refine qv ?_ hcs (aO.ext x b3)
           refine⟨⟨none,0,0,rfl⟩,?_⟩
           unfold br
           simp only
           rw [hg,if_pos rfl]
           refine .inl ⟨eQ c,?_,none,rfl⟩
           show (if k=k then none else G.o k)=none
           rw [if_pos rfl]) (hY.refl _)
       have hh:fk (eR G.h n (.cells ty cs')) k (.row t (eC c))=fk (eR h0 n (.cells ty cs')) k (.row t (eC c)):=by rw [h1]
       have:=h.2 args _ p0 hp hC ⟨fun i=>if i=k then none else G.o i,fk (eR G.h n (.cells ty cs')) k (.row t (eC c)),G.bs,G.w⟩ vs hh h2 m1 (bh.ext x1 hv)
       refine this.mono fun r w' hr=>?_
       obtain⟨v,G',r1,r2,r3,r4,r5,r6,r7⟩:=hr
       refine⟨v,G',r1,r2,r3,r4,r5,r6,?_⟩
       have:=BD (G:=G) (ow:=bS args h0) r7
       rw [← hv.len] at this
       exact this
      ·cases e
     ·cases e
    ·cases hc
   ·cases hc⟩
end Go.Proofs.YtakebkfhigadiaaGreat.Ry
