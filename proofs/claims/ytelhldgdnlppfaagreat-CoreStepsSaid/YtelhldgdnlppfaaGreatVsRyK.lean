/-
  A contract's block may hold a nil slice where it asks for one that may be appended to. No condition.
-/
import Derived.Test.YtelhldgdnlppfaaGreatVsW16
namespace Go.Proofs.YtelhldgdnlppfaaGreat.Ry
open Go
def isNil:SC→Bool
 |.val (.slice none 0 0)=>true
 |_=>false
theorem CM {c:SC} (h:isNil c=true):c = .val (.slice none 0 0):=by
 unfold isNil at h;split at h
 ·rfl
 ·cases h
def lG:List SC→Nat→SC→Option (List SC)
 |[],_,_=>none
 |c :: l,0,x=>match isNil c with
  |true=>some (x :: l)
  |false=>none
 |c :: l,j+1,x=>match lG l j x with
  |some l'=>some (c :: l')
  |none=>none
def eU:H→Nat→fk→H
 |[],_,_=>[]
 |(k,c) :: l,n,b=>match bL k n with
  |true=>(k,b) :: eU l n b
  |false=>(k,c) :: eU l n b
def iw:H→Nat→fk→H
 |[],k,b=>[(k,b)]
 |p :: l,k,b=>p :: iw l k b
def hnS (n j k t:Nat) (s:Sh) (h:H):Option H:=match ar h n,ar h k with
 |some (.cells ty cs),none=>match lG cs j (.sl (some (k,t)) (.ae s [])) with
  |some cs'=>some (iw (eU h n (.cells ty cs')) k .tok)
  |none=>none
 |_,_=>none
def AJ (n j k t:Nat) (s:Sh) (bC:aO):aO:=fun args h=>match hnS n j k t s h with
 |some h'=>bC args h'
 |none=>none
theorem oV {G:Gm} {x:SC} (hx:x.is G (.slice none 0 0)):∀ {cs:List SC} {j:Nat} {cs' : List SC} {vs:List Value},lG cs j x=some cs'→aK G cs vs→aK G cs' vs
 |[],_,_,_,h,_=>by cases h
 |_ :: _,_,_,[],_,hc=>hc.elim
 |c :: l,0,cs',v :: vs,h,⟨⟨h1,h2⟩,h3⟩=>by
  unfold lG at h;cases e:isNil c
  ·rw [e] at h;cases h
  ·rw [e] at h;cases h;have e:=CM e;subst e;have hv:v = .slice none 0 0:=h1;subst hv;exact⟨⟨hx,h2⟩,h3⟩
 |c :: l,j+1,cs',v :: vs,h,⟨⟨h1,h2⟩,h3⟩=>by
  unfold lG at h;cases e:lG l j x with
  |none =>
   rw [e] at h;cases h
  |some l' =>
   rw [e] at h;cases h;exact⟨⟨h1,h2⟩,oV hx e h3⟩
theorem mZ {tk:Option (Nat × TypeId)} {c0:Ct}:∀ {cs:List SC} {j:Nat} {cs' : List SC},lG cs j (.sl tk c0)=some cs'→dK cs' = dK cs
 |[],_,_,h=>by cases h
 |c :: l,0,cs',h=>by
  unfold lG at h;cases e:isNil c
  ·rw [e] at h;cases h
  ·rw [e] at h;cases h;have e:=CM e;subst e;rfl
 |c :: l,j+1,cs',h=>by
  unfold lG at h;cases e:lG l j (.sl tk c0) with
  |none =>
   rw [e] at h;cases h
  |some l' =>
   rw [e] at h;cases h;have:=mZ e;cases c <;> first|exact this|exact congrArg (List.cons _) this
theorem kW:∀ {h:H} {n:Nat} {b b0:fk} (_:ar h n=some b0) (m:Nat),ar (eU h n b) m=if n=m then some b else ar h m
 |[],_,_,_,e,_=>by cases e
 |(k,c) :: l,n,b,b0,e,m=>by
  have all:∀ (l:H),¬n=m→ar (eU l n b) m=ar l m:=by
   intro l hne
   induction l with
   |nil=>rfl
   |cons p l ih =>
    obtain⟨k,c⟩:=p;unfold eU;cases g:bL k n
    ·simp only;unfold ar;rw [ih]
    ·have:=aH g;subst this;simp only;unfold ar;rw [ih,dZ hne]
  by_cases hne:n=m
  ·subst hne;rw [if_pos rfl];unfold eU;unfold ar at e;cases g:bL k n
   ·rw [g] at e;simp only;unfold ar;rw [g];have:=kW (b:=b) e n;rw [if_pos rfl] at this;exact this
   ·simp only;unfold ar;rw [g]
  ·rw [if_neg hne];exact all _ hne
theorem CB:∀ {h:H} {k:Nat} {b:fk} (_:ar h k=none) (m:Nat),ar (iw h k b) m=if k=m then some b else ar h m
 |[],k,b,_,m=>by
  show (match bL k m with|true=>some b|false=>none)=_
  by_cases g:k=m
  ·subst g;rw [cO,if_pos rfl]
  ·rw [dZ g,if_neg g];rfl
 |(i,c) :: l,k,b,e,m=>by
  unfold ar at e;cases g:bL i k
  ·rw [g] at e;have ih:=CB (b:=b) e m;show (match bL i m with|true=>some c|false=>ar (iw l k b) m)=if k=m then some b else (match bL i m with|true=>some c|false=>ar l m)
   by_cases q:i=m
   ·subst q;rw [cO,if_neg (fun q=>by rw [q,cO] at g;cases g)]
   ·rw [dZ q,ih]
  ·rw [g] at e;cases e
theorem qW:∀ (h:H) (n:Nat) (b:fk),(eU h n b).map (·.1)=h.map (·.1)
 |[],_,_=>rfl
 |(k,c) :: l,n,b=>by
  unfold eU;cases g:bL k n <;> simp only [List.map_cons,qW l n b]
theorem wx:∀ (h:H) (n:Nat) (b:fk),(iw h n b).map (·.1)=h.map (·.1) ++ [n]
 |[],_,_=>rfl
 |p :: l,n,b=>by
  unfold iw;simp only [List.map_cons,wx l n b,List.cons_append]
def KX (h:H) (n:Nat):List Nat:=match ar h n with
 |some (.cells _ cs)=>dK cs
 |_=>[]
theorem iF (h:H):nQ h=(h.map (·.1)).flatMap (KX h):=by
 rw [List.flatMap_map];rfl
theorem zA {α β:Type} {f g:α→List β}:∀ (l:List α),(∀ x,f x=g x)→l.flatMap f=l.flatMap g
 |[],_=>rfl
 |x :: l,h=>by rw [List.flatMap_cons,List.flatMap_cons,h x,zA l h]
theorem Ey {h:H} {n k:Nat} {b b0 bk:fk} (hn:ar h n=some b0) (hk:ar h k=none) (m:Nat):ar (iw (eU h n b) k bk) m=if k=m then some bk else if n=m then some b else ar h m:=by
 have nk:¬n=k:=fun q=>by rw [← q,hn] at hk;cases hk
 rw [CB (by rw [kW hn,if_neg nk];exact hk),kW hn]
theorem Nl {n j k t:Nat} {s:Sh} {h h' : H} (e:hnS n j k t s h=some h'):nQ h' = nQ h∧∀ i,dL h i=true→dL h' i=true∧¬i=k:=by
 unfold hnS at e;split at e
 ·rename_i ty cs hn hk;split at e
  ·rename_i cs' hc;cases e;have hg:=Ey (b:=.cells ty cs') (bk:=.tok) hn hk;refine⟨?_,fun i hi=>?_⟩
   ·rw [iF,iF h,wx,qW,List.flatMap_append];have hlast:[k].flatMap (KX (iw (eU h n (.cells ty cs')) k .tok))=[]:=by
     rw [List.flatMap_cons];unfold KX;rw [hg,if_pos rfl];rfl
    rw [hlast,List.append_nil];refine zA _ fun m=>?_;unfold KX;rw [hg]
    by_cases c2:k=m
    ·subst c2;rw [if_pos rfl,hk]
    ·rw [if_neg c2]
     by_cases c1:n=m
     ·subst c1;rw [if_pos rfl,hn];exact mZ hc
     ·rw [if_neg c1]
   ·have ik:¬k=i:=fun q=>by
     rw [← q] at hi;unfold dL at hi;rw [hk] at hi;cases hi
    have inn:¬n=i:=fun q=>by
     rw [← q] at hi;unfold dL at hi;rw [hn] at hi;cases hi
    refine⟨?_,fun q=>ik q.symm⟩;unfold dL at hi ⊢;rw [hg,if_neg ik,if_neg inn];exact hi
  ·cases e
 ·cases e
theorem xi {G G1 G' : Gm}:∀ {ow:List Nat} {ys:List SA},(∀ i,dL G.h i=true→dL G1.h i=true∧G1.o i=G.o i)→fD G1 G' ow ys→fD G G' ow ys
 |[],[],_,_=>trivial
 |[],_ :: _,_,_=>trivial
 |_ :: _,[],_,_=>trivial
 |j :: l,y :: ys,hm,h=>by
  have ih:fD G1 G' l ys→fD G G' l ys:=xi hm;cases y with
  |one c=>cases c with
   |own i=>exact⟨fun a b=>(h.1 a (hm _ b).1).trans (hm _ b).2,ih h.2⟩
   |_=>exact ih h
  |agg _=>exact ih h
  |fo _=>exact ih h
theorem qj {G G1 G' : Gm} {ow:List Nat} (hm:∀ i,dL G.h i=true→dL G1.h i=true∧G1.o i=G.o i):∀ {ys:List SA} {vs:List Value},oj G1 G' ow ys vs→oj G G' ow ys vs
 |[],[],_=>trivial
 |[],_ :: _,_=>trivial
 |_ :: _,[],h=>xi hm h
 |_ :: _,_ :: _,⟨h1,h2⟩=>⟨h1,qj hm h2⟩
theorem lK {f:FuncId} {bC:aO} (n j k t:Nat) (s:Sh) (h:au Tryz.prog f bC):au Tryz.prog f (AJ n j k t s bC) :=
 ⟨h.1,fun args h0 p hc hC G vs h1 h2 h3 hv=>by
  unfold AJ at hc;split at hc
  ·rename_i h' e;obtain⟨o1,o2⟩:=Nl e;have e0:=e;unfold hnS at e;split at e
   ·rename_i ty cs hn hk;split at e
    ·rename_i cs' hcs;cases e;have nk:¬k=n:=fun q=>by rw [q,hn] at hk;cases hk
     rw [← h1] at hn hk;have hg:=Ey (h:=G.h) (b:=.cells ty cs') (bk:=.tok) hn hk;obtain⟨g,us,b1,b2,b3⟩:=h3.jq n _ hn;have nk2:¬n=k:=fun q=>nk q.symm;obtain⟨x1,m1⟩:=du (G':=⟨fun i=>if i=k then none else G.o i,iw (eU G.h n (.cells ty cs')) k .tok,G.bs,G.w⟩) h3 (fun i=>i=n∨i=k) rfl
      (fun i hi=>⟨by rw [hg,if_neg (fun q=>hi (.inr q.symm)),if_neg (fun q=>hi (.inl q.symm))],by show (if i=k then none else G.o i)=_;rw [if_neg (fun q=>hi (.inr q))]⟩)
      rfl rfl rfl (Nat.le_refl _) (fun _ _ _=>rfl) (fun _ _ _ _ _ _ _ _=>rfl)
      (fun i hi _ b m q=>by
       have ik:¬i=k:=fun e=>by
        have q:(if i=k then none else G.o i)=some (b,m):=q;rw [if_pos e] at q;cases q
       have hin:i=n:=hi.resolve_right ik;subst hin;have q:(if i=k then none else G.o i)=some (b,m):=q;rw [if_neg ik] at q;exact⟨(h3.own i ⟨_,hn,rfl⟩ b m q).1,.inr ⟨i,m,.inl rfl,⟨_,hn,rfl⟩,q,Nat.le_refl _⟩⟩)
      (fun i i' hi hi' _ _ b m m' q q'=>by
       have ik:¬i=k:=fun e=>by
        have q:(if i=k then none else G.o i)=some (b,m):=q;rw [if_pos e] at q;cases q
       have ik' : ¬i' = k:=fun e=>by
        have q:(if i' = k then none else G.o i')=some (b,m'):=q';rw [if_pos e] at q;cases q
       exact (hi.resolve_right ik).trans (hi'.resolve_right ik').symm)
      (fun i hi b hb=>by
       have ik:¬i=k:=fun e=>by
        rw [e,hk] at hb;cases hb
       have hin:i=n:=hi.resolve_right ik;subst hin;rw [hn] at hb;cases hb;refine⟨.cells ty cs',by rw [hg,if_neg nk,if_pos rfl],fun _=>?_⟩;show (if i=k then none else G.o i)=G.o i;rw [if_neg ik])
      (fun i hi b hb x=>by
       rw [hg] at hb
       by_cases ik:i=k
       ·rw [if_pos ik.symm] at hb;cases hb;trivial
       ·have hin:i=n:=hi.resolve_right ik;subst hin;rw [if_neg nk,if_pos rfl] at hb;cases hb;refine⟨g,us,?_,b2,?_⟩
        ·show (if i=k then none else G.o i)=_;rw [if_neg ik];exact b1
        ·refine oV ?_ hcs (aK.ext x b3);refine⟨⟨none,0,rfl,Nat.le_refl _,by unfold maxLen;omega,fun q=>absurd rfl q⟩,?_⟩;unfold ic;simp only;rw [hg,if_pos rfl];exact .inl ⟨none,rfl⟩) (ku.refl _)
     have hh:iw (eU G.h n (.cells ty cs')) k .tok=iw (eU h0 n (.cells ty cs')) k .tok:=by rw [h1]
     have:=h.2 args _ p hc hC ⟨fun i=>if i=k then none else G.o i,iw (eU G.h n (.cells ty cs')) k .tok,G.bs,G.w⟩ vs hh h2 m1 (bj.ext x1 hv);refine this.mono fun r w' hr=>?_;obtain⟨v,G',r1,r2,r3,r4,r5,r6,r7⟩:=hr;refine⟨v,G',r1,r2,r3,r4,r5,r6,?_⟩;have ow:bP args (iw (eU h0 n (.cells ty cs')) k .tok)=bP args h0:=by
      unfold bP;rw [o1]
     rw [ow] at r7;refine qj (fun i hi=>?_) r7;rw [h1] at hi;obtain⟨q1,q2⟩:=o2 i hi;show dL (iw (eU G.h n (.cells ty cs')) k .tok) i=true∧(if i=k then none else G.o i)=G.o i;rw [hh];exact⟨q1,if_neg q2⟩
    ·cases e
   ·cases e
  ·cases hc⟩
def hnF (n j:Nat) (x:SC) (h:H):Option H:=match ar h n with
 |some (.cells ty cs)=>match lG cs j x with
  |some cs'=>some (eU h n (.cells ty cs'))
  |none=>none
 |_=>none
def tu (n j:Nat) (c:Ct) (bC:aO):aO:=fun args h=>match hnF n j (.sl none (fI c)) h with
 |some h'=>bC args h'
 |none=>none
theorem Oy {n j:Nat} {c:Ct} {h h' : H} (e:hnF n j (.sl none c) h=some h'):nQ h' = nQ h∧∀ i,dL h i=true→dL h' i=true:=by
 unfold hnF at e;split at e
 ·rename_i ty cs hn;split at e
  ·rename_i cs' hc;cases e;have hg:=kW (b:=.cells ty cs') hn;refine⟨?_,fun i hi=>?_⟩
   ·rw [iF,iF h,qW];refine zA _ fun m=>?_;unfold KX;rw [hg]
    by_cases c1:n=m
    ·subst c1;rw [if_pos rfl,hn];exact mZ hc
    ·rw [if_neg c1]
   ·have inn:¬n=i:=fun q=>by
     rw [← q] at hi;unfold dL at hi;rw [hn] at hi;cases hi
    unfold dL at hi ⊢;rw [hg,if_neg inn];exact hi
  ·cases e
 ·cases e
theorem kI {f:FuncId} {bC:aO} (n j:Nat) (c:Ct) (h:au Tryz.prog f bC):au Tryz.prog f (tu n j c bC) :=
 ⟨h.1,fun args h0 p hc hC G vs h1 h2 h3 hv=>by
  unfold tu at hc;split at hc
  ·rename_i h' e;obtain⟨o1,o2⟩:=Oy e;unfold hnF at e;split at e
   ·rename_i ty cs hn;split at e
    ·rename_i cs' hcs;cases e;rw [← h1] at hn;have hg:=kW (h:=G.h) (b:=.cells ty cs') hn;obtain⟨g,us,b1,b2,b3⟩:=h3.jq n _ hn;obtain⟨x1,m1⟩:=du (G':=⟨G.o,eU G.h n (.cells ty cs'),G.bs,G.w⟩) h3 (fun i=>i=n) rfl
      (fun i hi=>⟨by rw [hg,if_neg (fun q=>hi q.symm)],rfl⟩)
      rfl rfl rfl (Nat.le_refl _) (fun _ _ _=>rfl) (fun _ _ _ _ _ _ _ _=>rfl)
      (fun i hi _ b m q=>by
       subst hi;exact⟨(h3.own i ⟨_,hn,rfl⟩ b m q).1,.inr ⟨i,m,rfl,⟨_,hn,rfl⟩,q,Nat.le_refl _⟩⟩)
      (fun i i' hi hi' _ _ b m m' q q'=>hi.trans hi'.symm)
      (fun i hi b hb=>by
       subst hi;rw [hn] at hb;cases hb;exact⟨.cells ty cs',by rw [hg,if_pos rfl],fun _=>rfl⟩)
      (fun i hi b hb x=>by
       subst hi;rw [hg,if_pos rfl] at hb;cases hb;exact⟨g,us,b1,b2,oV (DE c) hcs (aK.ext x b3)⟩) (ku.refl _)
     have hh:eU G.h n (.cells ty cs')=eU h0 n (.cells ty cs'):=by rw [h1]
     have:=h.2 args _ p hc hC ⟨G.o,eU G.h n (.cells ty cs'),G.bs,G.w⟩ vs hh h2 m1 (bj.ext x1 hv);refine this.mono fun r w' hr=>?_;obtain⟨v,G',r1,r2,r3,r4,r5,r6,r7⟩:=hr;refine⟨v,G',r1,r2,r3,r4,r5,r6,?_⟩;have ow:bP args (eU h0 n (.cells ty cs'))=bP args h0:=by
      unfold bP;rw [o1]
     rw [ow] at r7;refine qj (fun i hi=>?_) r7;rw [h1] at hi;show dL (eU G.h n (.cells ty cs')) i=true∧G.o i=G.o i;rw [hh];exact⟨o2 i hi,rfl⟩
    ·cases e
   ·cases e
  ·cases hc⟩
def aaj (n:Nat) (p:qK):qK:=⟨p.C,p.r,p.h,p.as.take n⟩
def LY (n j k t:Nat) (c:Ct) (bC:aO):aO:=fun args h=>match ar h k with
 |some _=>none
 |none=>match hnF n j (.own k) h with
  |some h'=>match bC args (iw h' k (.row t (fI c))) with
   |some p=>some (aaj args.length p)
   |none=>none
  |none=>none
theorem FE {G G1 G' : Gm} {ow ow' : List Nat}:∀ {ys:List SA} {vs:List Value},oj G1 G' ow' ys vs→oj G G' ow (ys.take vs.length) vs
 |[],[],_=>trivial
 |[],_ :: _,_=>trivial
 |_ :: _,[],_=>trivial
 |_ :: _,_ :: _,⟨h1,h2⟩=>⟨h1,FE h2⟩
theorem Lq {f:FuncId} {bC:aO} (n j k t:Nat) (c:Ct) (h:au Tryz.prog f bC):au Tryz.prog f (LY n j k t c bC) :=
 ⟨h.1,fun args h0 p hc hC G vs h1 h2 h3 hv=>by
  unfold LY at hc;split at hc
  ·cases hc
  ·rename_i hk;split at hc
   ·rename_i h' e;split at hc
    ·rename_i p0 hp;cases hc;unfold hnF at e;split at e
     ·rename_i ty cs hn;split at e
      ·rename_i cs' hcs;cases e;have nk:¬k=n:=fun q=>by rw [q,hn] at hk;cases hk
       rw [← h1] at hn hk;have hg:=Ey (h:=G.h) (b:=.cells ty cs') (bk:=.row t (fI c)) hn hk;obtain⟨g,us,b1,b2,b3⟩:=h3.jq n _ hn;obtain⟨x1,m1⟩:=du (G':=⟨fun i=>if i=k then none else G.o i,iw (eU G.h n (.cells ty cs')) k (.row t (fI c)),G.bs,G.w⟩) h3 (fun i=>i=n∨i=k) rfl
        (fun i hi=>⟨by rw [hg,if_neg (fun q=>hi (.inr q.symm)),if_neg (fun q=>hi (.inl q.symm))],by show (if i=k then none else G.o i)=_;rw [if_neg (fun q=>hi (.inr q))]⟩)
        rfl rfl rfl (Nat.le_refl _) (fun _ _ _=>rfl) (fun _ _ _ _ _ _ _ _=>rfl)
        (fun i hi _ b m q=>by
         have ik:¬i=k:=fun e=>by
          have q:(if i=k then none else G.o i)=some (b,m):=q;rw [if_pos e] at q;cases q
         have hin:i=n:=hi.resolve_right ik;subst hin;have q:(if i=k then none else G.o i)=some (b,m):=q;rw [if_neg ik] at q;exact⟨(h3.own i ⟨_,hn,rfl⟩ b m q).1,.inr ⟨i,m,.inl rfl,⟨_,hn,rfl⟩,q,Nat.le_refl _⟩⟩)
        (fun i i' hi hi' _ _ b m m' q q'=>by
         have ik:¬i=k:=fun e=>by
          have q:(if i=k then none else G.o i)=some (b,m):=q;rw [if_pos e] at q;cases q
         have ik' : ¬i' = k:=fun e=>by
          have q:(if i' = k then none else G.o i')=some (b,m'):=q';rw [if_pos e] at q;cases q
         exact (hi.resolve_right ik).trans (hi'.resolve_right ik').symm)
        (fun i hi b hb=>by
         have ik:¬i=k:=fun e=>by
          rw [e,hk] at hb;cases hb
         have hin:i=n:=hi.resolve_right ik;subst hin;rw [hn] at hb;cases hb;refine⟨.cells ty cs',by rw [hg,if_neg nk,if_pos rfl],fun _=>?_⟩;show (if i=k then none else G.o i)=G.o i;rw [if_neg ik])
        (fun i hi b hb x=>by
         rw [hg] at hb
         by_cases ik:i=k
         ·rw [if_pos ik.symm] at hb;cases hb;refine .inl ⟨gA c,?_⟩;show (if i=k then none else G.o i)=none;rw [if_pos ik]
         ·have hin:i=n:=hi.resolve_right ik;subst hin;rw [if_neg nk,if_pos rfl] at hb;cases hb;refine⟨g,us,?_,b2,?_⟩
          ·show (if i=k then none else G.o i)=_;rw [if_neg ik];exact b1
          ·refine oV ?_ hcs (aK.ext x b3);refine⟨⟨none,0,0,rfl⟩,?_⟩;unfold bp;simp only;rw [hg,if_pos rfl];refine .inl ⟨gA c,?_,none,rfl⟩;show (if k=k then none else G.o k)=none;rw [if_pos rfl]) (ku.refl _)
       have hh:iw (eU G.h n (.cells ty cs')) k (.row t (fI c))=iw (eU h0 n (.cells ty cs')) k (.row t (fI c)):=by rw [h1]
       have:=h.2 args _ p0 hp hC ⟨fun i=>if i=k then none else G.o i,iw (eU G.h n (.cells ty cs')) k (.row t (fI c)),G.bs,G.w⟩ vs hh h2 m1 (bj.ext x1 hv);refine this.mono fun r w' hr=>?_;obtain⟨v,G',r1,r2,r3,r4,r5,r6,r7⟩:=hr;refine⟨v,G',r1,r2,r3,r4,r5,r6,?_⟩;have:=FE (G:=G) (ow:=bP args h0) r7;rw [← hv.len] at this;exact this
      ·cases e
     ·cases e
    ·cases hc
   ·cases hc⟩
end Go.Proofs.YtelhldgdnlppfaaGreat.Ry
