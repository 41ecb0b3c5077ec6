/-
  A contract's block may hold a nil slice where it asks for one that may be appended to. No condition.
-/
import Derived.Test.YtelhldgdnlppfaaGreatVgKsC
import Derived.Test.YtelhldgdnlppfaaGreatVgW17
namespace Go.Proofs.YtelhldgdnlppfaaGreat.KrS
open Go Ry ViR VoR KsS KsC
def mq (d:CS):List SC:=[.val (.int .i64 d.i),.val (.int .i64 d.ee),.val (.int .i64 d.er),.val (.int .i64 d.t),.val (.int .i64 d.p),.sl none (.ah (.int .i64 (.int .i64 (.int .i64 (.int .i64 (.bool (.bool (.int .i64 .nil))))))) d.aa),.sl none (.ints .i64 d.w),.sl none (.ints .i64 d.gn),.sl none (.ah (.int .i64 (.int .i64 (.int .i64 (.int .i64 (.bool .nil))))) d.gl),.val (.int .i64 d.ph),.sl none (.ints .i64 d.tn),.sl none (.ah (.int .i64 (.int .i64 (.int .i64 (.int .i64 (.bool .nil))))) d.tl),.val (.int .i64 d.l),.val (.bool d.o)]
def abj:List SC→Option CS
 |[.val (.int .i64 i),.val (.int .i64 ee),.val (.int .i64 er),.val (.int .i64 t),.val (.int .i64 p),.sl none (.ah (.int .i64 (.int .i64 (.int .i64 (.int .i64 (.bool (.bool (.int .i64 .nil))))))) aa),.sl none (.ints .i64 w),.sl none (.ints .i64 gn),.sl none (.ah (.int .i64 (.int .i64 (.int .i64 (.int .i64 (.bool .nil))))) gl),.val (.int .i64 ph),.sl none (.ints .i64 tn),.sl none (.ah (.int .i64 (.int .i64 (.int .i64 (.int .i64 (.bool .nil))))) tl),.val (.int .i64 l),.val (.bool o),.sl none (.ah (.int .i64 (.int .i64 (.int .i64 (.int .i64 (.ints .i64 (.ah (.int .i64 (.int .i64 (.int .i64 (.int .i64 (.bool .nil))))) (.int .i64 (.int .i64 (.int .i64 (.int .i64 .nil)))))))))) q)]=>some ⟨i,ee,er,t,p,aa,w,gn,gl,ph,tn,tl,l,o,q⟩
 |_=>none
def xp:List SC→Option CS
 |[.val (.int .i64 i),.val (.int .i64 ee),.val (.int .i64 er),.val (.int .i64 t),.val (.int .i64 p),.sl none (.ah (.int .i64 (.int .i64 (.int .i64 (.int .i64 (.bool (.bool (.int .i64 .nil))))))) aa),.sl none (.ints .i64 w),.sl none (.ints .i64 gn),.sl none (.ah (.int .i64 (.int .i64 (.int .i64 (.int .i64 (.bool .nil))))) gl),.val (.int .i64 ph),.sl none (.ints .i64 tn),.sl none (.ah (.int .i64 (.int .i64 (.int .i64 (.int .i64 (.bool .nil))))) tl),.val (.int .i64 l),.val (.bool o)]=>some ⟨i,ee,er,t,p,aa,w,gn,gl,ph,tn,tl,l,o,[]⟩
 |_=>none
theorem qw {l:List SC} {x:CS} (h:xp l=some x):l=mq x:=by
 unfold xp at h
 split at h
 ·cases h
  rfl
 ·cases h
structure XO where
 i:Int
 o:List E
end Go.Proofs.YtelhldgdnlppfaaGreat.KrS
namespace Go.Proofs.YtelhldgdnlppfaaGreat.Ry
open Go
def isNil:SC→Bool
 |.val (.slice none 0 0)=>true
 |_=>false
theorem yB {c:SC} (h:isNil c=true):c = .val (.slice none 0 0):=by
 unfold isNil at h
 split at h
 ·rfl
 ·cases h
def jU:List SC→Nat→SC→Option (List SC)
 |[],_,_=>none
 |c :: l,0,x=>match isNil c with
  |true=>some (x :: l)
  |false=>none
 |c :: l,j+1,x=>match jU l j x with
  |some l'=>some (c :: l')
  |none=>none
def ed:H→Nat→eH→H
 |[],_,_=>[]
 |(k,c) :: l,n,b=>match bI k n with
  |true=>(k,b) :: ed l n b
  |false=>(k,c) :: ed l n b
def gE:H→Nat→eH→H
 |[],k,b=>[(k,b)]
 |p :: l,k,b=>p :: gE l k b
def Zy (n j k t:Nat) (s:Sh) (h:H):Option H:=match ak h n,ak h k with
 |some (.cells ty cs),none=>match jU cs j (.sl (some (k,t)) (.ah s [])) with
  |some cs'=>some (gE (ed h n (.cells ty cs')) k .tok)
  |none=>none
 |_,_=>none
def yH (n j k t:Nat) (s:Sh) (bE:aY):aY:=fun args h=>match Zy n j k t s h with
 |some h'=>bE args h'
 |none=>none
theorem mF {G:Gm} {x:SC} (hx:x.is G (.slice none 0 0)):∀ {cs:List SC} {j:Nat} {cs' : List SC} {vs:List Value},jU cs j x=some cs'→aN G cs vs→aN G cs' vs
 |[],_,_,_,h,_=>by cases h
 |_ :: _,_,_,[],_,hc=>hc.elim
 |c :: l,0,cs',v :: vs,h,⟨⟨h1,h2⟩,h3⟩=>by
  unfold jU at h
  cases e:isNil c
  ·rw [e] at h
   cases h
  ·rw [e] at h
   cases h
   have e:=yB e
   subst e
   have hv:v = .slice none 0 0:=h1
   subst hv
   exact⟨⟨hx,h2⟩,h3⟩
 |c :: l,j+1,cs',v :: vs,h,⟨⟨h1,h2⟩,h3⟩=>by
  unfold jU at h
  cases e:jU l j x with
  |none =>
   rw [e] at h
   cases h
  |some l' =>
   rw [e] at h
   cases h
   exact⟨⟨h1,h2⟩,mF hx e h3⟩
theorem mb {tk:Option (Nat × TypeId)} {c0:Ct}:∀ {cs:List SC} {j:Nat} {cs' : List SC},jU cs j (.sl tk c0)=some cs'→dB cs' = dB cs
 |[],_,_,h=>by cases h
 |c :: l,0,cs',h=>by
  unfold jU at h
  cases e:isNil c
  ·rw [e] at h
   cases h
  ·rw [e] at h
   cases h
   have e:=yB e
   subst e
   rfl
 |c :: l,j+1,cs',h=>by
  unfold jU at h
  cases e:jU l j (.sl tk c0) with
  |none =>
   rw [e] at h
   cases h
  |some l' =>
   rw [e] at h
   cases h
   have:=mb e
   cases c <;> first|exact this|exact congrArg (List.cons _) this
theorem kz:∀ {h:H} {n:Nat} {b b0:eH} (_:ak h n=some b0) (m:Nat),ak (ed h n b) m=if n=m then some b else ak h m
 |[],_,_,_,e,_=>by cases e
 |(k,c) :: l,n,b,b0,e,m=>by
  have all:∀ (l:H),¬n=m→ak (ed l n b) m=ak l m:=by
   intro l hne
   induction l with
   |nil=>rfl
   |cons p l ih =>
    obtain⟨k,c⟩:=p
    unfold ed
    cases g:bI k n
    ·simp only
     unfold ak
     rw [ih]
    ·have:=aJ g
     subst this
     simp only
     unfold ak
     rw [ih,dH hne]
  by_cases hne:n=m
  ·subst hne
   rw [if_pos rfl]
   unfold ed
   unfold ak at e
   cases g:bI k n
   ·rw [g] at e
    simp only
    unfold ak
    rw [g]
    have:=kz (b:=b) e n
    rw [if_pos rfl] at this
    exact this
   ·simp only
    unfold ak
    rw [g]
  ·rw [if_neg hne]
   exact all _ hne
theorem yK:∀ {h:H} {k:Nat} {b:eH} (_:ak h k=none) (m:Nat),ak (gE h k b) m=if k=m then some b else ak h m
 |[],k,b,_,m=>by
  show (match bI k m with|true=>some b|false=>none)=_
  by_cases g:k=m
  ·subst g
   rw [cL,if_pos rfl]
  ·rw [dH g,if_neg g]
   rfl
 |(i,c) :: l,k,b,e,m=>by
  unfold ak at e
  cases g:bI i k
  ·rw [g] at e
   have ih:=yK (b:=b) e m
   show (match bI i m with|true=>some c|false=>ak (gE l k b) m)=if k=m then some b else (match bI i m with|true=>some c|false=>ak l m)
   by_cases q:i=m
   ·subst q
    rw [cL,if_neg (fun q=>by rw [q,cL] at g;cases g)]
   ·rw [dH q,ih]
  ·rw [g] at e
   cases e
theorem pD:∀ (h:H) (n:Nat) (b:eH),(ed h n b).map (·.1)=h.map (·.1)
 |[],_,_=>rfl
 |(k,c) :: l,n,b=>by
  unfold ed
  cases g:bI k n <;> simp only [List.map_cons,pD l n b]
theorem vh:∀ (h:H) (n:Nat) (b:eH),(gE h n b).map (·.1)=h.map (·.1) ++ [n]
 |[],_,_=>rfl
 |p :: l,n,b=>by
  unfold gE
  simp only [List.map_cons,vh l n b,List.cons_append]
def Kx (h:H) (n:Nat):List Nat:=match ak h n with
 |some (.cells _ cs)=>dB cs
 |_=>[]
theorem gH (h:H):lR h=(h.map (·.1)).flatMap (Kx h):=by
 rw [List.flatMap_map]
 rfl
theorem yb {α β:Type} {f g:α→List β}:∀ (l:List α),(∀ x,f x=g x)→l.flatMap f=l.flatMap g
 |[],_=>rfl
 |x :: l,h=>by rw [List.flatMap_cons,List.flatMap_cons,h x,yb l h]
theorem Bh {h:H} {n k:Nat} {b b0 bk:eH} (hn:ak h n=some b0) (hk:ak h k=none) (m:Nat):ak (gE (ed h n b) k bk) m=if k=m then some bk else if n=m then some b else ak h m:=by
 have nk:¬n=k:=fun q=>by rw [← q,hn] at hk;cases hk
 rw [yK (by rw [kz hn,if_neg nk];exact hk),kz hn]
theorem IH {n j k t:Nat} {s:Sh} {h h' : H} (e:Zy n j k t s h=some h'):lR h' = lR h∧∀ i,dC h i=true→dC h' i=true∧¬i=k:=by
 unfold Zy at e
 split at e
 ·rename_i ty cs hn hk
  split at e
  ·rename_i cs' hc
   cases e
   have hg:=Bh (b:=.cells ty cs') (bk:=.tok) hn hk
   refine⟨?_,fun i hi=>?_⟩
   ·rw [gH,gH h,vh,pD,List.flatMap_append]
    have hlast:[k].flatMap (Kx (gE (ed h n (.cells ty cs')) k .tok))=[]:=by
     rw [List.flatMap_cons]
     unfold Kx
     rw [hg,if_pos rfl]
     rfl
    rw [hlast,List.append_nil]
    refine yb _ fun m=>?_
    unfold Kx
    rw [hg]
    by_cases c2:k=m
    ·subst c2
     rw [if_pos rfl,hk]
    ·rw [if_neg c2]
     by_cases c1:n=m
     ·subst c1
      rw [if_pos rfl,hn]
      exact mb hc
     ·rw [if_neg c1]
   ·have ik:¬k=i:=fun q=>by
     rw [← q] at hi
     unfold dC at hi
     rw [hk] at hi
     cases hi
    have inn:¬n=i:=fun q=>by
     rw [← q] at hi
     unfold dC at hi
     rw [hn] at hi
     cases hi
    refine⟨?_,fun q=>ik q.symm⟩
    unfold dC at hi ⊢
    rw [hg,if_neg ik,if_neg inn]
    exact hi
  ·cases e
 ·cases e
theorem vI {G G1 G' : Gm}:∀ {ow:List Nat} {ys:List SA},(∀ i,dC G.h i=true→dC G1.h i=true∧G1.o i=G.o i)→eT G1 G' ow ys→eT G G' ow ys
 |[],[],_,_=>trivial
 |[],_ :: _,_,_=>trivial
 |_ :: _,[],_,_=>trivial
 |j :: l,y :: ys,hm,h=>by
  have ih:eT G1 G' l ys→eT G G' l ys:=vI hm
  cases y with
  |one c=>cases c with
   |own i=>exact⟨fun a b=>(h.1 a (hm _ b).1).trans (hm _ b).2,ih h.2⟩
   |_=>exact ih h
  |agg _=>exact ih h
  |ef _=>exact ih h
theorem pe {G G1 G' : Gm} {ow:List Nat} (hm:∀ i,dC G.h i=true→dC G1.h i=true∧G1.o i=G.o i):∀ {ys:List SA} {vs:List Value},nC G1 G' ow ys vs→nC G G' ow ys vs
 |[],[],_=>trivial
 |[],_ :: _,_=>trivial
 |_ :: _,[],h=>vI hm h
 |_ :: _,_ :: _,⟨h1,h2⟩=>⟨h1,pe hm h2⟩
theorem kM {f:FuncId} {bE:aY} (n j k t:Nat) (s:Sh) (h:aA Tryz.prog f bE):aA Tryz.prog f (yH n j k t s bE) :=
 ⟨h.1,fun args h0 p hc hC G vs h1 h2 h3 hv=>by
  unfold yH at hc
  split at hc
  ·rename_i h' e
   obtain⟨o1,o2⟩:=IH e
   have e0:=e
   unfold Zy at e
   split at e
   ·rename_i ty cs hn hk
    split at e
    ·rename_i cs' hcs
     cases e
     have nk:¬k=n:=fun q=>by rw [q,hn] at hk;cases hk
     rw [← h1] at hn hk
     have hg:=Bh (h:=G.h) (b:=.cells ty cs') (bk:=.tok) hn hk
     obtain⟨g,us,b1,b2,b3⟩:=h3.iv n _ hn
     have nk2:¬n=k:=fun q=>nk q.symm
     obtain⟨x1,m1⟩:=di (G':=⟨fun i=>if i=k then none else G.o i,gE (ed G.h n (.cells ty cs')) k .tok,G.bs,G.w⟩) h3 (fun i=>i=n∨i=k) rfl
      (fun i hi=>⟨by rw [hg,if_neg (fun q=>hi (.inr q.symm)),if_neg (fun q=>hi (.inl q.symm))],by show (if i=k then none else G.o i)=_;rw [if_neg (fun q=>hi (.inr q))]⟩)
      rfl rfl rfl (Nat.le_refl _) (fun _ _ _=>rfl) (fun _ _ _ _ _ _ _ _=>rfl)
      (fun i hi _ b m q=>by
       have ik:¬i=k:=fun e=>by
        have q:(if i=k then none else G.o i)=some (b,m):=q
        rw [if_pos e] at q
        cases q
       have hin:i=n:=hi.resolve_right ik
       subst hin
       have q:(if i=k then none else G.o i)=some (b,m):=q
       rw [if_neg ik] at q
       exact⟨(h3.own i ⟨_,hn,rfl⟩ b m q).1,.inr ⟨i,m,.inl rfl,⟨_,hn,rfl⟩,q,Nat.le_refl _⟩⟩)
      (fun i i' hi hi' _ _ b m m' q q'=>by
       have ik:¬i=k:=fun e=>by
        have q:(if i=k then none else G.o i)=some (b,m):=q
        rw [if_pos e] at q
        cases q
       have ik' : ¬i' = k:=fun e=>by
        have q:(if i' = k then none else G.o i')=some (b,m'):=q'
        rw [if_pos e] at q
        cases q
       exact (hi.resolve_right ik).trans (hi'.resolve_right ik').symm)
      (fun i hi b hb=>by
       have ik:¬i=k:=fun e=>by
        rw [e,hk] at hb
        cases hb
       have hin:i=n:=hi.resolve_right ik
       subst hin
       rw [hn] at hb
       cases hb
       refine⟨.cells ty cs',by rw [hg,if_neg nk,if_pos rfl],fun _=>?_⟩
       show (if i=k then none else G.o i)=G.o i
       rw [if_neg ik])
      (fun i hi b hb x=>by
       rw [hg] at hb
       by_cases ik:i=k
       ·rw [if_pos ik.symm] at hb
        cases hb
        trivial
       ·have hin:i=n:=hi.resolve_right ik
        subst hin
        rw [if_neg nk,if_pos rfl] at hb
        cases hb
        refine⟨g,us,?_,b2,?_⟩
        ·show (if i=k then none else G.o i)=_
         rw [if_neg ik]
         exact b1
        ·refine mF ?_ hcs (aN.ext x b3)
         refine⟨⟨none,0,rfl,Nat.le_refl _,by unfold maxLen;omega,fun q=>absurd rfl q⟩,?_⟩
         unfold gu
         simp only
         rw [hg,if_pos rfl]
         exact .inl ⟨none,rfl⟩) (jr.refl _)
     have hh:gE (ed G.h n (.cells ty cs')) k .tok=gE (ed h0 n (.cells ty cs')) k .tok:=by rw [h1]
     have:=h.2 args _ p hc hC ⟨fun i=>if i=k then none else G.o i,gE (ed G.h n (.cells ty cs')) k .tok,G.bs,G.w⟩ vs hh h2 m1 (bg.ext x1 hv)
     refine this.mono fun r w' hr=>?_
     obtain⟨v,G',r1,r2,r3,r4,r5,r6,r7⟩:=hr
     refine⟨v,G',r1,r2,r3,r4,r5,r6,?_⟩
     have ow:bO args (gE (ed h0 n (.cells ty cs')) k .tok)=bO args h0:=by
      unfold bO
      rw [o1]
     rw [ow] at r7
     refine pe (fun i hi=>?_) r7
     rw [h1] at hi
     obtain⟨q1,q2⟩:=o2 i hi
     show dC (gE (ed G.h n (.cells ty cs')) k .tok) i=true∧(if i=k then none else G.o i)=G.o i
     rw [hh]
     exact⟨q1,if_neg q2⟩
    ·cases e
   ·cases e
  ·cases hc⟩
def Vu (n j:Nat) (x:SC) (h:H):Option H:=match ak h n with
 |some (.cells ty cs)=>match jU cs j x with
  |some cs'=>some (ed h n (.cells ty cs'))
  |none=>none
 |_=>none
def tH (n j:Nat) (c:Ct) (bE:aY):aY:=fun args h=>match Vu n j (.sl none (eZ c)) h with
 |some h'=>bE args h'
 |none=>none
theorem Io {n j:Nat} {c:Ct} {h h' : H} (e:Vu n j (.sl none c) h=some h'):lR h' = lR h∧∀ i,dC h i=true→dC h' i=true:=by
 unfold Vu at e
 split at e
 ·rename_i ty cs hn
  split at e
  ·rename_i cs' hc
   cases e
   have hg:=kz (b:=.cells ty cs') hn
   refine⟨?_,fun i hi=>?_⟩
   ·rw [gH,gH h,pD]
    refine yb _ fun m=>?_
    unfold Kx
    rw [hg]
    by_cases c1:n=m
    ·subst c1
     rw [if_pos rfl,hn]
     exact mb hc
    ·rw [if_neg c1]
   ·have inn:¬n=i:=fun q=>by
     rw [← q] at hi
     unfold dC at hi
     rw [hn] at hi
     cases hi
    unfold dC at hi ⊢
    rw [hg,if_neg inn]
    exact hi
  ·cases e
 ·cases e
theorem jM {f:FuncId} {bE:aY} (n j:Nat) (c:Ct) (h:aA Tryz.prog f bE):aA Tryz.prog f (tH n j c bE) :=
 ⟨h.1,fun args h0 p hc hC G vs h1 h2 h3 hv=>by
  unfold tH at hc
  split at hc
  ·rename_i h' e
   obtain⟨o1,o2⟩:=Io e
   unfold Vu at e
   split at e
   ·rename_i ty cs hn
    split at e
    ·rename_i cs' hcs
     cases e
     rw [← h1] at hn
     have hg:=kz (h:=G.h) (b:=.cells ty cs') hn
     obtain⟨g,us,b1,b2,b3⟩:=h3.iv n _ hn
     obtain⟨x1,m1⟩:=di (G':=⟨G.o,ed G.h n (.cells ty cs'),G.bs,G.w⟩) h3 (fun i=>i=n) rfl
      (fun i hi=>⟨by rw [hg,if_neg (fun q=>hi q.symm)],rfl⟩)
      rfl rfl rfl (Nat.le_refl _) (fun _ _ _=>rfl) (fun _ _ _ _ _ _ _ _=>rfl)
      (fun i hi _ b m q=>by
       subst hi
       exact⟨(h3.own i ⟨_,hn,rfl⟩ b m q).1,.inr ⟨i,m,rfl,⟨_,hn,rfl⟩,q,Nat.le_refl _⟩⟩)
      (fun i i' hi hi' _ _ b m m' q q'=>hi.trans hi'.symm)
      (fun i hi b hb=>by
       subst hi
       rw [hn] at hb
       cases hb
       exact⟨.cells ty cs',by rw [hg,if_pos rfl],fun _=>rfl⟩)
      (fun i hi b hb x=>by
       subst hi
       rw [hg,if_pos rfl] at hb
       cases hb
       exact⟨g,us,b1,b2,mF (BX c) hcs (aN.ext x b3)⟩) (jr.refl _)
     have hh:ed G.h n (.cells ty cs')=ed h0 n (.cells ty cs'):=by rw [h1]
     have:=h.2 args _ p hc hC ⟨G.o,ed G.h n (.cells ty cs'),G.bs,G.w⟩ vs hh h2 m1 (bg.ext x1 hv)
     refine this.mono fun r w' hr=>?_
     obtain⟨v,G',r1,r2,r3,r4,r5,r6,r7⟩:=hr
     refine⟨v,G',r1,r2,r3,r4,r5,r6,?_⟩
     have ow:bO args (ed h0 n (.cells ty cs'))=bO args h0:=by
      unfold bO
      rw [o1]
     rw [ow] at r7
     refine pe (fun i hi=>?_) r7
     rw [h1] at hi
     show dC (ed G.h n (.cells ty cs')) i=true∧G.o i=G.o i
     rw [hh]
     exact⟨o2 i hi,rfl⟩
    ·cases e
   ·cases e
  ·cases hc⟩
def Ui (n:Nat) (p:qi):qi:=⟨p.C,p.r,p.h,p.as.take n⟩
def Hp (n j k t:Nat) (c:Ct) (bE:aY):aY:=fun args h=>match ak h k with
 |some _=>none
 |none=>match Vu n j (.own k) h with
  |some h'=>match bE args (gE h' k (.row t (eZ c))) with
   |some p=>some (Ui args.length p)
   |none=>none
  |none=>none
theorem CR {G G1 G' : Gm} {ow ow' : List Nat}:∀ {ys:List SA} {vs:List Value},nC G1 G' ow' ys vs→nC G G' ow (ys.take vs.length) vs
 |[],[],_=>trivial
 |[],_ :: _,_=>trivial
 |_ :: _,[],_=>trivial
 |_ :: _,_ :: _,⟨h1,h2⟩=>⟨h1,CR h2⟩
theorem JH {f:FuncId} {bE:aY} (n j k t:Nat) (c:Ct) (h:aA Tryz.prog f bE):aA Tryz.prog f (Hp n j k t c bE) :=
 ⟨h.1,fun args h0 p hc hC G vs h1 h2 h3 hv=>by
  unfold Hp at hc
  split at hc
  ·cases hc
  ·rename_i hk
   split at hc
   ·rename_i h' e
    split at hc
    ·rename_i p0 hp
     cases hc
     unfold Vu at e
     split at e
     ·rename_i ty cs hn
      split at e
      ·rename_i cs' hcs
       cases e
       have nk:¬k=n:=fun q=>by rw [q,hn] at hk;cases hk
       rw [← h1] at hn hk
       have hg:=Bh (h:=G.h) (b:=.cells ty cs') (bk:=.row t (eZ c)) hn hk
       obtain⟨g,us,b1,b2,b3⟩:=h3.iv n _ hn
       obtain⟨x1,m1⟩:=di (G':=⟨fun i=>if i=k then none else G.o i,gE (ed G.h n (.cells ty cs')) k (.row t (eZ c)),G.bs,G.w⟩) h3 (fun i=>i=n∨i=k) rfl
        (fun i hi=>⟨by rw [hg,if_neg (fun q=>hi (.inr q.symm)),if_neg (fun q=>hi (.inl q.symm))],by show (if i=k then none else G.o i)=_;rw [if_neg (fun q=>hi (.inr q))]⟩)
        rfl rfl rfl (Nat.le_refl _) (fun _ _ _=>rfl) (fun _ _ _ _ _ _ _ _=>rfl)
        (fun i hi _ b m q=>by
         have ik:¬i=k:=fun e=>by
          have q:(if i=k then none else G.o i)=some (b,m):=q
          rw [if_pos e] at q
          cases q
         have hin:i=n:=hi.resolve_right ik
         subst hin
         have q:(if i=k then none else G.o i)=some (b,m):=q
         rw [if_neg ik] at q
         exact⟨(h3.own i ⟨_,hn,rfl⟩ b m q).1,.inr ⟨i,m,.inl rfl,⟨_,hn,rfl⟩,q,Nat.le_refl _⟩⟩)
        (fun i i' hi hi' _ _ b m m' q q'=>by
         have ik:¬i=k:=fun e=>by
          have q:(if i=k then none else G.o i)=some (b,m):=q
          rw [if_pos e] at q
          cases q
         have ik' : ¬i' = k:=fun e=>by
          have q:(if i' = k then none else G.o i')=some (b,m'):=q'
          rw [if_pos e] at q
          cases q
         exact (hi.resolve_right ik).trans (hi'.resolve_right ik').symm)
        (fun i hi b hb=>by
         have ik:¬i=k:=fun e=>by
          rw [e,hk] at hb
          cases hb
         have hin:i=n:=hi.resolve_right ik
         subst hin
         rw [hn] at hb
         cases hb
         refine⟨.cells ty cs',by rw [hg,if_neg nk,if_pos rfl],fun _=>?_⟩
         show (if i=k then none else G.o i)=G.o i
         rw [if_neg ik])
        (fun i hi b hb x=>by
         rw [hg] at hb
         by_cases ik:i=k
         ·rw [if_pos ik.symm] at hb
          cases hb
          refine .inl ⟨fN c,?_⟩
          show (if i=k then none else G.o i)=none
          rw [if_pos ik]
         ·have hin:i=n:=hi.resolve_right ik
          subst hin
          rw [if_neg nk,if_pos rfl] at hb
          cases hb
          refine⟨g,us,?_,b2,?_⟩
          ·show (if i=k then none else G.o i)=_
           rw [if_neg ik]
           exact b1
          ·refine mF ?_ hcs (aN.ext x b3)
           refine⟨⟨none,0,0,rfl⟩,?_⟩
           unfold bp
           simp only
           rw [hg,if_pos rfl]
           refine .inl ⟨fN c,?_,none,rfl⟩
           show (if k=k then none else G.o k)=none
           rw [if_pos rfl]) (jr.refl _)
       have hh:gE (ed G.h n (.cells ty cs')) k (.row t (eZ c))=gE (ed h0 n (.cells ty cs')) k (.row t (eZ c)):=by rw [h1]
       have:=h.2 args _ p0 hp hC ⟨fun i=>if i=k then none else G.o i,gE (ed G.h n (.cells ty cs')) k (.row t (eZ c)),G.bs,G.w⟩ vs hh h2 m1 (bg.ext x1 hv)
       refine this.mono fun r w' hr=>?_
       obtain⟨v,G',r1,r2,r3,r4,r5,r6,r7⟩:=hr
       refine⟨v,G',r1,r2,r3,r4,r5,r6,?_⟩
       have:=CR (G:=G) (ow:=bO args h0) r7
       rw [← hv.len] at this
       exact this
      ·cases e
     ·cases e
    ·cases hc
   ·cases hc⟩
end Go.Proofs.YtelhldgdnlppfaaGreat.Ry
