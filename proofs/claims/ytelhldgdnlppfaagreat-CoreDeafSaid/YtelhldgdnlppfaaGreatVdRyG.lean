/-
  The reckoner's rules hold in the model: states that say less;calls of functions. No condition.
-/
import Derived.Test.YtelhldgdnlppfaaGreatVdRyF
namespace Go.Proofs.YtelhldgdnlppfaaGreat.Ry
open Go Go.RowKit
section
variable {P:Program} {cx:Cx} {bs:Bs} {gv:List Value} {st:St} {ν:Nat→Option (Nat × Nat)} {a:Act} {w:World} {G G' : Gm}
theorem sD {n:Nat} {l:List Nat}:lO n l=true↔n∈l:=by
 unfold lO
 rw [List.any_eq_true]
 constructor
 ·rintro⟨x,hx,e⟩
  rw [aK e]
  exact hx
 ·intro h
  exact⟨n,h,cI n⟩
theorem fV {m:List (Nat × Nat)} {i k:Nat} (h:mV m i k=true):look m i=some k:=by
 unfold mV at h
 split at h
 ·rename_i n hn
  rw [hn,aK h]
 ·cases h
structure Fj (M:Mt) (G G' : Gm):Prop where
 sub:Sub G G'
 w:G'.w=G.w
 h:M.h=G.h
 h' : M.h' = G'.h
 mem:Mem G
 ids:∀ i k',ak G'.h i=some k'→(∃ k b0,look M.m i=some k∧ak G.h k=some b0∧fR M b0 k'∧G'.o i=G.o k)∨(vX k'∧look M.m i=none∧G'.o i=none)
 free:M.fr=true→∀ k,lO k M.ks=false→alive G.h k→∀ g m,G.o k=some (g,m)→∀ j,G'.ok g j
theorem fT {x y:Ct} (hl:uB x y):y=x:=by
 unfold uB at hl
 split at hl
 ·obtain⟨rfl,rfl⟩:=hl;rfl
 ·obtain⟨rfl,rfl⟩:=hl;rfl
 ·exact hl.elim
theorem Ev {c:Ct} (h:c.wk):c.is G (.slice none 0 0):=by
 cases c with
 |ints k l=>have h:l=[]:=h;subst h;exact iu
 |ah s l=>have h:l=[]:=h;subst h;exact iu
theorem GO {c:Ct} (h:c.wk):c.n=0:=by
 cases c with
 |ints k l=>have h:l=[]:=h;subst h;rfl
 |ah s l=>have h:l=[]:=h;subst h;rfl
theorem bF.le {M:Mt} (s:Fj M G G') {b b' o:Nat} {v:Value} (h1:mV M.m b' b=true) (h2:hasB M.h' b' = true) (hp:bF G b o v):bF G' b' o v:=by
 have h1:=fV h1
 unfold hasB at h2
 rw [s.h'] at h2
 unfold bF at hp ⊢
 have key:∀ k',ak G'.h b' = some k'→∃ b0,ak G.h b=some b0∧fR M b0 k'∧G'.o b' = G.o b:=by
  intro k' hk
  rcases s.ids b' k' hk with ⟨k,b0,q1,q2,q3,q4⟩ | ⟨_,q1,_⟩
  ·rw [h1] at q1
   cases q1
   exact⟨b0,q2,q3,q4⟩
  ·rw [h1] at q1
   cases q1
 split at h2
 ·rename_i t cs hk
  obtain⟨b0,q1,q2,q3⟩:=key _ hk
  rw [q1] at hp
  rw [hk]
  cases b0 with
  |cells t0 c0 =>
   obtain⟨g,g1,g2⟩:=hp
   exact⟨g,q3.trans g1,g2⟩
  |_=>exact q2.elim
 ·rename_i t c hk
  obtain⟨b0,q1,q2,q3⟩:=key _ hk
  rw [q1] at hp
  rw [hk]
  cases b0 with
  |row t0 c0 =>
   obtain⟨g,g1,g2⟩:=hp
   exact⟨g,q3.trans g1,g2⟩
  |_=>exact q2.elim
 ·cases h2
theorem jx.le {M:Mt} (s:Fj M G G') {b b' o q:Nat} (h1:mV M.m b' b=true) (h2:hasB M.h' b' = true) (hp:jx G b o q):jx G' b' o q:=by
 obtain⟨A,e1,e2⟩:=hp
 exact⟨A,e1.sub s.sub,bF.le s h1 h2 e2⟩
theorem SC.fS {M:Mt} {x y:SC} {v:Value} (s:Fj M G G') (hl:x.le M y) (hv:x.is G v):y.is G' v:=by
 unfold SC.le at hl
 split at hl
 ·exact trivial
 ·subst hl;exact hv
 ·obtain⟨rfl,rfl⟩:=hl;exact hv
 ·obtain⟨rfl,rfl⟩:=hl;exact hv
 ·subst hl;exact hv
 ·subst hl;exact hv
 ·have hv:v = .slice none 0 0:=hv
  subst hv
  exact⟨Ev hl,trivial⟩
 ·rename_i i e c
  obtain⟨h1,h2,h3⟩:=hl
  have hv:v = .slice none 0 0:=hv
  subst hv
  refine⟨Ev h1,mj ?_ (.inl ⟨none,rfl⟩)⟩
  unfold kC at h3
  rw [s.h'] at h3
  split at h3
  ·assumption
  ·cases h3
 ·rename_i i
  obtain⟨h1,h2⟩:=hl
  have hv:v = .slice none 0 0:=hv
  subst hv
  refine⟨⟨none,0,0,rfl⟩,?_⟩
  unfold Qw at h2
  rw [s.h'] at h2
  unfold ya at h1
  split at h2
  ·rename_i t c hk
   unfold bu
   rw [hk]
   rcases s.ids i _ hk with ⟨k,b0,q1,_⟩ | ⟨_,_,q3⟩
   ·rw [q1] at h1
    cases h1
   ·exact .inl ⟨GO h2,q3,none,rfl⟩
  ·exact h2.elim
 ·rename_i b o b' o'
  obtain⟨h1,h2,rfl⟩:=hl
  obtain⟨hA,hp⟩:=hv
  refine⟨hA,?_⟩
  have h1:=fV h1
  unfold hasB at h2
  rw [s.h'] at h2
  unfold bF at hp ⊢
  have key:∀ k',ak G'.h b' = some k'→∃ b0,ak G.h b=some b0∧fR M b0 k'∧G'.o b' = G.o b:=by
   intro k' hk
   rcases s.ids b' k' hk with ⟨k,b0,q1,q2,q3,q4⟩ | ⟨_,q1,_⟩
   ·rw [h1] at q1
    cases q1
    exact⟨b0,q2,q3,q4⟩
   ·rw [h1] at q1
    cases q1
  split at h2
  ·rename_i t cs hk
   obtain⟨b0,q1,q2,q3⟩:=key _ hk
   rw [q1] at hp
   rw [hk]
   cases b0 with
   |cells t0 c0 =>
    obtain⟨g,g1,g2⟩:=hp
    exact⟨g,q3.trans g1,g2⟩
   |_=>exact q2.elim
  ·rename_i t c hk
   obtain⟨b0,q1,q2,q3⟩:=key _ hk
   rw [q1] at hp
   rw [hk]
   cases b0 with
   |row t0 c0 =>
    obtain⟨g,g1,g2⟩:=hp
    exact⟨g,q3.trans g1,g2⟩
   |_=>exact q2.elim
  ·cases h2
 ·rename_i g0 b g1 b'
  obtain⟨h1,h2,rfl⟩:=hl
  obtain⟨hA,hp⟩:=hv
  refine⟨hA,?_⟩
  have h1:=fV h1
  unfold hasB at h2
  rw [s.h'] at h2
  unfold uq at hp ⊢
  have key:∀ k',ak G'.h b' = some k'→∃ b0,ak G.h b=some b0∧fR M b0 k'∧G'.o b' = G.o b:=by
   intro k' hk
   rcases s.ids b' k' hk with ⟨k,b0,q1,q2,q3,q4⟩ | ⟨_,q1,_⟩
   ·rw [h1] at q1
    cases q1
    exact⟨b0,q2,q3,q4⟩
   ·rw [h1] at q1
    cases q1
  split at h2
  ·rename_i t cs hk
   obtain⟨b0,q1,q2,q3⟩:=key _ hk
   rw [q1] at hp
   rw [hk]
   cases b0 with
   |cells t0 c0 =>
    obtain⟨g,g1,g2⟩:=hp
    exact⟨g,q3.trans g1,g2⟩
   |_=>exact q2.elim
  ·rename_i t c hk
   obtain⟨b0,q1,q2,q3⟩:=key _ hk
   rw [q1] at hp
   rw [hk]
   cases b0 with
   |row t0 c0 =>
    obtain⟨g,g1,g2⟩:=hp
    exact⟨g,q3.trans g1,g2⟩
   |_=>exact q2.elim
  ·cases h2
 ·rename_i b b'
  obtain⟨h1,h2⟩:=hl
  obtain⟨hA,hp⟩:=hv
  refine⟨hA,?_⟩
  have h1:=fV h1
  unfold dy at h2
  rw [s.h'] at h2
  unfold bu at hp ⊢
  split at h2
  ·rename_i t c hk
   rcases s.ids b' _ hk with ⟨k,b0,q1,q2,q3,q4⟩ | ⟨_,q1,_⟩
   ·rw [h1] at q1
    cases q1
    rw [q2] at hp
    rw [hk]
    cases b0 with
    |row t0 c0 =>
     obtain⟨_,q3⟩:=q3
     have e:=fT q3
     subst e
     rcases hp with ⟨z0,z1,z2⟩ | ⟨g,off,cap,t9,k9,g1,g2,g3,g4,g5,g6⟩
     ·exact .inl ⟨z0,q4.trans z1,z2⟩
     ·exact .inr ⟨g,off,cap,t9,k9,q4.trans g1,g2,g3,g4,by rw [s.w];exact g5,g6⟩
    |_=>exact q3.elim
   ·rw [h1] at q1
    cases q1
  ·cases h2
 ·rename_i b b'
  obtain⟨h1,h2⟩:=hl
  obtain⟨hA,hp⟩:=hv
  refine⟨hA,?_⟩
  have h1:=fV h1
  unfold WX at h2
  rw [s.h'] at h2
  unfold kZ at hp ⊢
  split at h2
  ·rename_i c hk
   rcases s.ids b' _ hk with ⟨k,b0,q1,q2,q3,q4⟩ | ⟨_,q1,_⟩
   ·rw [h1] at q1
    cases q1
    rw [q2] at hp
    rw [hk]
    cases b0 with
    |mp c0 =>
     obtain⟨g,g1,g2⟩:=hp
     exact⟨g,q4.trans g1,g2⟩
    |_=>exact q3.elim
   ·rw [h1] at q1
    cases q1
  ·cases h2
 ·rename_i b i j b' i' j'
  obtain⟨h1,h2,rfl,rfl⟩:=hl
  obtain⟨hA,hp⟩:=hv
  refine⟨hA,?_⟩
  have h1:=fV h1
  unfold dy at h2
  rw [s.h'] at h2
  unfold fA at hp ⊢
  split at h2
  ·rename_i t c hk
   rcases s.ids b' _ hk with ⟨k,b0,q1,q2,q3,q4⟩ | ⟨_,q1,_⟩
   ·rw [h1] at q1
    cases q1
    rw [q2] at hp
    rw [hk]
    cases b0 with
    |row t0 c0 =>
     obtain⟨_,q3⟩:=q3
     have e:=fT q3
     subst e
     obtain⟨g,off,g1,g2⟩:=hp
     exact⟨g,off,q4.trans g1,g2⟩
    |_=>exact q3.elim
   ·rw [h1] at q1
    cases q1
  ·cases h2
 ·rename_i b o b' o'
  obtain⟨h1,h2,rfl⟩:=hl
  obtain⟨b9,e9,hp⟩:=hv
  exact⟨b9,e9,jx.le s h1 h2 hp⟩
 ·rename_i g0 b o g1 b' o'
  obtain⟨h1,h2,rfl,rfl⟩:=hl
  obtain⟨b9,e9,hp⟩:=hv
  exact⟨b9,e9,jx.le s h1 h2 hp⟩
 ·rename_i b c
  obtain⟨hA,hp⟩:=hv
  unfold bu at hp
  rw [s.h] at hl
  split at hl
  ·rename_i t c0 hk
   obtain⟨h1,h2⟩:=hl
   simp only [Bool.and_eq_true,Bool.not_eq_true'] at h1
   have e:=fT h2
   subst e
   rw [hk] at hp
   rcases hp with ⟨z0,_,A0,rfl⟩ | ⟨g,off,cap,_,_,g1,rfl,g3,g4,_⟩
   ·exact⟨tI z0,trivial⟩
   obtain⟨pre,vs,rest,h0,e2,e3,e4⟩:=s.mem.rowAt hk g1
   subst h0
   refine⟨eV (e3.sub s.sub) (fun j u hu=>⟨s.free h1.1 b h1.2 ⟨_,hk,rfl⟩ g _ g1 _,?_,e4 u (List.mem_of_getElem? hu)⟩) g3 g4,trivial⟩
   rw [s.w]
   exact oo e2 hu
  ·rename_i c0 hk
   have e:=fT hl
   subst e
   rw [hk] at hp
   exact⟨Ct.is.sub s.sub hp,trivial⟩
  ·exact hl.elim
 ·subst hl;exact hv
 ·rename_i b e c b' e' c'
  obtain⟨⟨h1,h2,rfl⟩,h3⟩:=hl
  have h1:=fV h1
  have ec:=fT h3
  subst ec
  obtain⟨k1,k2⟩:=hv
  refine⟨Ct.is.sub s.sub k1,?_⟩
  unfold kC at h2
  rw [s.h'] at h2
  split at h2
  ·rename_i hk
   refine mj hk ?_
   rcases s.ids b' _ hk with ⟨k,b0,q1,q2,q3,q4⟩ | ⟨_,q2,_⟩
   ·rw [h1] at q1
    cases q1
    cases b0 with
    |tok =>
     unfold gk at k2
     simp only [q2] at k2
     rcases k2 with k2 | ⟨g,off,n,cap,cur,r1,r2,r3,r⟩
     ·exact .inl k2
     ·exact .inr ⟨g,off,n,cap,cur,r1,q4.trans r2,by rw [s.w];exact r3,r⟩
    |_=>exact q3.elim
   ·rw [h1] at q2
    cases q2
  ·cases h2
 ·have e:=fT hl
  subst e
  exact⟨Ct.is.sub s.sub hv.1,trivial⟩
 ·exact hl.elim
theorem lX {M:Mt} (s:Fj M G G'):∀ {xs ys:List SC} {vs:List Value},kQ M xs ys→aM G xs vs→aM G' ys vs
 |[],[],[],_,_=>trivial
 |_ :: _,_ :: _,_ :: _,⟨a,b⟩,⟨⟨c,d⟩,e⟩=>⟨⟨SC.fS s a c,d⟩,lX s b e⟩
 |[],_ :: _,_,e,_=>e.elim
 |_ :: _,[],_,e,_=>e.elim
 |[],[],_ :: _,_,e=>e.elim
 |_ :: _,_ :: _,[],_,e=>e.elim
theorem SA.fS {M:Mt} {x y:SA} {v:Value} (s:Fj M G G') (hl:x.le M y) (hv:x.is G v):y.is G' v:=by
 unfold SA.le at hl
 split at hl
 ·exact trivial
 ·exact SC.fS s hl hv
 ·obtain⟨vs,e,hc⟩:=hv
  exact⟨vs,e,lX s hl hc⟩
 ·have e:=fT hl
  subst e
  obtain⟨vs,e,hc,h1⟩:=hv
  exact⟨vs,e,hc.sub s.sub,h1⟩
 ·exact hl.elim
theorem zB {M:Mt} (s:Fj M G G'):∀ {xs ys:List SA} {vs:List Value},Hv M xs ys→bg G xs vs→bg G' ys vs
 |[],[],[],_,_=>trivial
 |_ :: _,_ :: _,_ :: _,⟨a,b⟩,⟨c,e⟩=>⟨SA.fS s a c,zB s b e⟩
 |[],_ :: _,_,e,_=>e.elim
 |_ :: _,[],_,e,_=>e.elim
 |[],[],_ :: _,_,e=>e.elim
 |_ :: _,_ :: _,[],_,e=>e.elim
theorem nD {M:Mt} (s:Fj M G G'):∀ {xs ys:List SA} {vs:List Value},yF M xs ys→jq G xs vs→jq G' ys vs
 |_,[],_,_,_=>trivial
 |_ :: _,_ :: _,_ :: _,⟨a,b⟩,⟨c,e⟩=>⟨SA.fS s a c,nD s b e⟩
 |[],_ :: _,_,e,_=>e.elim
 |_ :: _,_ :: _,[],_,e=>e.elim
theorem Co:∀ {xs:List SA} {vs:List Value},bg G xs vs→jq G xs vs
 |[],_,_=>trivial
 |_ :: _,_ :: _,⟨a,b⟩=>⟨a,Co b⟩
 |_ :: _,[],h=>h.elim
theorem Hh:∀ {xs:List SA} {vs:List Value},xs.length=vs.length→jq G xs vs→bg G xs vs
 |[],[],_,_=>trivial
 |[],_ :: _,h,_=>by cases h
 |_ :: _,_ :: _,h,⟨a,b⟩=>⟨a,Hh (by simpa using h) b⟩
 |_ :: _,[],_,h=>h.elim
theorem SV.fS {M:Mt} {x y:SV} {v:Value} (s:Fj M G G') (hl:x.le M y) (hv:x.is G v):y.is G' v:=by
 unfold SV.le at hl
 split at hl
 ·exact trivial
 ·exact SA.fS s hl hv
 ·obtain⟨vs,e,hc⟩:=hv
  exact⟨vs,e,zB s hl hc⟩
 ·exact hl.elim
theorem bB.fS {M:Mt} {x y:bB} {v:Value} (s:Fj M G G') (hl:x.le M y) (hv:x.is G v):y.is G' v:=by
 unfold bB.le at hl
 split at hl
 ·exact trivial
 ·exact SV.fS s hl hv
 ·exact hl.elim
theorem rO {M:Mt}:∀ {xs ys:List bB},iQ M xs ys→∀ (t:Nat) (y:bB),ys[t]? = some y→∃ x,xs[t]? = some x∧x.le M y
 |[],[],_,t,y,h=>by simp at h
 |x :: xs,y :: ys,⟨a,b⟩,0,z,h=>by simp at h;subst h;exact⟨x,rfl,a⟩
 |x :: xs,y :: ys,⟨a,b⟩,t+1,z,h=>by
  obtain⟨x',h1,h2⟩:=rO b t z (by simpa using h)
  exact⟨x',by simpa using h1,h2⟩
 |[],_ :: _,e,_,_,_=>e.elim
 |_ :: _,[],e,_,_,_=>e.elim
theorem rQ {M:Mt}:∀ {xs ys:List bB},iQ M xs ys→xs.length=ys.length
 |[],[],_=>rfl
 |x :: xs,y :: ys,⟨_,b⟩=>by simp [rQ b]
 |[],_ :: _,e=>e.elim
 |_ :: _,[],e=>e.elim
theorem mu {M:Mt}:∀ {h:H},kD M h→∀ i b,ak h i=some b→(∃ k b0,look M.m i=some k∧ak M.h k=some b0∧fR M b0 b)∨(vX b∧look M.m i=none)
 |[],_,i,b,h=>by cases h
 |(j,c) :: l,hl,i,b,h=>by
  simp only [ak] at h
  split at h
  ·rename_i hj
   have hj:=aK hj
   subst hj
   cases h
   have h1:=hl.1
   split at h1
   ·rename_i k hk
    split at h1
    ·rename_i b0 hb
     exact .inl ⟨k,b0,hk,hb,h1⟩
    ·exact h1.elim
   ·rename_i hk
    exact .inr ⟨h1,hk⟩
  ·exact mu hl.2 i b h
theorem tH {m:List (Nat × Nat)}:∀ {h:H} {i k:Nat} {b:eD},ak h i=some b→look m i=some k→k∈kept m h
 |[],i,k,b,h,_=>by cases h
 |(j,c) :: l,i,k,b,h,hk=>by
  simp only [ak] at h
  unfold kept
  split at h
  ·rename_i hj
   have hj:=aK hj
   subst hj
   simp only [hk]
   exact List.mem_cons_self ..
  ·have:=tH h hk
   split
   ·exact List.mem_cons_of_mem _ this
   ·exact this
theorem gU {k:Nat} {l:List Nat} (h:distinct (k :: l)=true):k ∉ l∧distinct l=true:=by
 simp only [distinct,Bool.and_eq_true,Bool.not_eq_true'] at h
 refine⟨fun hm=>?_,h.2⟩
 rw [sD.2 hm] at h
 cases h.1
theorem As {m:List (Nat × Nat)}:∀ {h:H} {i i' k:Nat} {b b' : eD},distinct (kept m h)=true→ak h i=some b→ak h i' = some b'→look m i=some k→look m i' = some k→i=i'
 |[],i,i',k,b,b',_,h,_,_,_=>by cases h
 |(j,c) :: l,i,i',k,b,b',hd,h,h',hk,hk'=>by
  simp only [ak] at h h'
  have rest:∀ {a:Nat} {x:eD},ak l a=some x→look m a=some k→look m j=some k→False:=by
   intro a x ha hka hkj
   unfold kept at hd
   simp only [hkj] at hd
   exact (gU hd).1 (tH ha hka)
  have hd' : distinct (kept m l)=true:=by
   unfold kept at hd
   split at hd
   ·exact (gU hd).2
   ·exact hd
  split at h <;> split at h'
  ·rename_i h1 _ h2
   rw [← aK h1,← aK h2]
  ·rename_i h1 _ h2
   have h1:=aK h1
   subst h1
   exact (rest h' hk' hk).elim
  ·rename_i h1 _ h2
   have h2:=aK h2
   subst h2
   exact (rest h hk hk').elim
  ·exact As hd' h h' hk hk'
theorem zw {M:Mt} {b0 b:eD} (h:fR M b0 b):b0.alive=true∧b.alive=true:=by
 cases b0 <;> cases b <;> first|exact⟨rfl,rfl⟩|exact h.elim
def eJ (m:List (Nat × Nat)) (o:Nat→Option (Nat × Nat)):Nat→Option (Nat × Nat):=fun i =>
 match look m i with
 |some k=>o k
 |none=>none
theorem gV {m:List (Nat × Nat)} {h' : H} {fr:Bool} {bs' : Bs} (hm:Mem G) (hd:distinct (kept m h')=true) (hh:kD ⟨m,G.h,h',kept m h',fr⟩ h') {Gn:Gm} (hGn:Gn=⟨eJ m G.o,h',bs',G.w⟩)
  (hbs:bs' = G.bs∧True∨fr=false∧bs' = ⟨G.w,G.ok,fun g=>∃ k q,k∈kept m h'∧alive G.h k∧G.o k=some (g,q)⟩):Fj ⟨m,G.h,h',kept m h',fr⟩ G Gn∧Mem Gn:=by
 have hbound:∀ i k',ak h' i=some k'→(∃ k b0,look m i=some k∧ak G.h k=some b0∧fR ⟨m,G.h,h',kept m h',fr⟩ b0 k'∧eJ m G.o i=G.o k)∨(vX k'∧look m i=none∧eJ m G.o i=none):=by
  intro i k' hk
  rcases mu hh i k' hk with ⟨k,b0,q1,q2,q3⟩ | ⟨q1,q2⟩
  ·exact .inl ⟨k,b0,q1,q2,q3,by unfold eJ;rw [show look m i=some k from q1]⟩
  ·exact .inr ⟨q1,q2,by unfold eJ;rw [show look m i=none from q2]⟩
 have hown:∀ i,alive h' i→∀ g q,eJ m G.o i=some (g,q)→∃ k,look m i=some k∧alive G.h k∧G.o k=some (g,q)∧k∈kept m h':=by
  rintro i ⟨k',hk,hal⟩ g q ho
  rcases hbound i k' hk with ⟨k,b0,q1,q2,q3,q4⟩ | ⟨_,_,q3⟩
  ·rw [q4] at ho
   exact⟨k,q1,⟨b0,q2,(zw q3).1⟩,ho,tH hk q1⟩
  ·rw [q3] at ho
   cases ho
 subst hGn
 have hsub:Sub G ⟨eJ m G.o,h',bs',G.w⟩:=by
  refine⟨fun b j h=>⟨h.lt,fun hlt=>?_,fun i ha g q ho e=>?_⟩,fun _ _ _=>rfl,jz.refl _⟩
  ·rcases hbs with ⟨rfl,_⟩ | ⟨_,rfl⟩
   ·exact h.old hlt
   ·exact .inl h
  ·obtain⟨k,_,k2,k3,_⟩:=hown i ha g q ho
   exact h.own k k2 g q k3 e
 have hle:Fj ⟨m,G.h,h',kept m h',fr⟩ G ⟨eJ m G.o,h',bs',G.w⟩:=by
  refine⟨hsub,rfl,rfl,rfl,hm,hbound,fun hfr k hk ha g q ho j=>?_⟩
  rcases hbs with ⟨rfl,_⟩ | ⟨hf,_⟩
  ·obtain⟨h1,h2⟩:=hm.own k ha g q ho
   refine⟨h1,fun hlt=>?_,fun i hai g' q' ho' e=>?_⟩
   ·rcases h2 with h2 | ⟨h2,_⟩
    ·exact absurd hlt (by simp only;omega)
    ·exact .inr h2
   ·subst e
    obtain⟨k2,_,k3,k4,k5⟩:=hown i hai g' q' ho'
    have:=hm.inj k2 k k3 ha g' q' q k4 ho
    subst this
    have hk:lO k2 (kept m h')=false:=hk
    rw [sD.2 k5] at hk
    cases hk
  ·have hfr:fr=true:=hfr
   rw [hf] at hfr
   cases hfr
 refine⟨hle,?_⟩
 have hinj:∀ n n',alive h' n→alive h' n'→∀ g q q',eJ m G.o n=some (g,q)→eJ m G.o n' = some (g,q')→n=n':=by
  intro n n' ha ha' g q q' ho ho'
  obtain⟨k,k1,k2,k3,_⟩:=hown n ha g q ho
  obtain⟨k',k1',k2',k3',_⟩:=hown n' ha' g q' ho'
  have:=hm.inj k k' k2 k2' g q q' k3 k3'
  subst this
  obtain⟨b,hb,_⟩:=ha
  obtain⟨b',hb',_⟩:=ha'
  exact As hd hb hb' k1 k1'
 have hblk:∀ n k,ak h' n=some k→qe ⟨eJ m G.o,h',bs',G.w⟩ n k:=by
  intro n k hk
  rcases hbound n k hk with ⟨q,b0,q1,q2,q3,q4⟩ | ⟨hv,_,hq⟩
  ·have hb:=hm.ig q b0 q2
   cases b0 with
   |cells t0 c0=>cases k with
    |cells t c =>
     obtain⟨rfl,q3⟩:=q3
     obtain⟨g,vs,r1,r2,r3⟩:=hb
     exact⟨g,vs,q4.trans r1,r2,lX hle q3 r3⟩
    |_=>exact q3.elim
   |row t0 c0=>cases k with
    |row t c =>
     obtain⟨rfl,q3⟩:=q3
     have e:=fT q3
     subst e
     rcases hb with ⟨z0,z1⟩ | ⟨g,pre,vs,rest,r1,r2,r3,r4⟩
     ·exact .inl ⟨z0,q4.trans z1⟩
     ·exact .inr ⟨g,pre,vs,rest,q4.trans r1,r2,r3.sub hsub,r4⟩
    |_=>exact q3.elim
   |mp c0=>cases k with
    |mp c =>
     have e:c0=c:=q3
     subst e
     obtain⟨g,es,clock,r1,r2,r3⟩:=hb
     exact⟨g,es,clock,q4.trans r1,r2,r3⟩
    |_=>exact q3.elim
   |tok=>cases k with
    |tok=>trivial
    |_=>exact q3.elim
   |_=>cases k <;> exact q3.elim
  ·cases k with
   |tok=>trivial
   |row t c=>exact .inl ⟨GO hv,hq⟩
   |_=>exact hv.elim
 rcases hbs with ⟨rfl,_⟩ | ⟨hf,rfl⟩
 ·refine⟨hm.os,hm.tape,hm.output,hm.size,hm.block,hm.pe,fun n ha g q ho=>?_,hinj,hblk,hm.Et⟩
  obtain⟨k,_,k2,k3,_⟩:=hown n ha g q ho
  exact hm.own k k2 g q k3
 ·refine⟨rfl,rfl,rfl,Nat.le_refl _,fun _ _ _=>rfl,fun _ _ _ _=>rfl,fun n ha g q ho=>?_,hinj,hblk,jz.refl _⟩
  obtain⟨k,k1,k2,k3,k4⟩:=hown n ha g q ho
  refine⟨(hm.own k k2 g q k3).1,.inr ⟨⟨k,q,k4,k2,k3⟩,fun j hj=>?_⟩⟩
  have hj:G.ok g j:=hj
  exact hj.own k k2 g q k3 rfl
theorem CN {fr:Bool} {m:List (Nat × Nat)} {t:St} (hr:dq bs gv st ν a w) (hl:st.RA fr m t):∃ ν',dq bs gv t ν' a w:=by
 obtain⟨h1,h2,h3,h4⟩:=hl
 obtain⟨hle,hm⟩:=gV (G:=gg bs st ν w) (bs':=bs) hr.mem h1 h4 rfl (.inl ⟨rfl,trivial⟩)
 refine⟨_,by rw [hr.size,rQ h2],fun i y hy=>?_,nD hle h3 hr.gs,hr.defers,hm⟩
 obtain⟨x,hx,hxy⟩:=rO h2 i y hy
 exact bB.fS hle hxy (hr.slot i x hx)
theorem eT {h l m:H}:aH h (l ++ m)=aH (aH h l) m:=by
 induction l generalizing h with
 |nil=>rfl
 |cons p l ih=>exact ih
theorem HT {l:H} {n:Nat} (h:n ∉ l.map (·.1)):ak l n=none:=by
 induction l with
 |nil=>rfl
 |cons p l ih =>
  obtain⟨k,b⟩:=p
  simp only [List.map_cons,List.mem_cons,not_or] at h
  simp only [ak,dH (fun e=>h.1 e.symm)]
  exact ih h.2
theorem Hl {l:H} {n:Nat} (h:n∈l.map (·.1)) (hn:ak l n=none):False:=by
 induction l with
 |nil=>cases h
 |cons p l ih =>
  obtain⟨k,b⟩:=p
  simp only [ak] at hn
  split at hn
  ·cases hn
  ·rename_i hk
   simp only [List.map_cons,List.mem_cons] at h
   rcases h with rfl|h
   ·rw [cI] at hk
    cases hk
   ·exact ih h hn
theorem dA:∀ {l h:H} {n:Nat},distinct (l.map (·.1))=true→ak (aH h l) n=match ak l n with
  |some b=>some b
  |none=>ak h n
 |[],h,n,_=>rfl
 |(k,b) :: l,h,n,hd=>by
  obtain⟨h1,h2⟩:=gU hd
  show ak (aH (aS h k b) l) n=_
  rw [dA h2]
  by_cases e:k=n
  ·subst e
   rw [HT h1]
   simp only [ak,cI]
   exact aI _ _ _
  ·simp only [ak,dH e]
   rw [aL _ _ e]
theorem fz {keys:List Nat}:∀ {seen:List Nat} {h:H} {n:Nat},ak (aH h (fG keys seen)) n=if n∈seen∧lO n keys=false then some .dead else ak h n
 |[],h,n=>by simp [fG,aH]
 |k :: seen,h,n=>by
  unfold fG
  split
  ·rename_i hk
   rw [fz]
   by_cases e:n=k
   ·subst e
    simp [hk]
   ·simp [e]
  ·rename_i hk
   show ak (aH (aS h k .dead) (fG keys seen)) n=_
   rw [fz]
   by_cases e:n=k
   ·subst e
    simp [hk,aI]
   ·rw [aL _ _ (Ne.symm e)]
    simp [e]
theorem iz {m:List (Nat × Nat)} {h:H}:∀ {ids:List Nat} {h1:H},mL m h ids=some h1→∀ n b',ak h1 n=some b'→∃ i b,i∈ids∧look m i=some n∧ak h i=some b∧Fk m b=some b'
 |[],h1,hr,n,b',hb=>by cases hr;cases hb
 |i :: ids,h1,hr,n,b',hb=>by
  unfold mL at hr
  split at hr
  ·rename_i k b r e1 e2 e3
   split at hr
   ·rename_i b1 e4
    cases hr
    simp only [ak] at hb
    split at hb
    ·rename_i hk
     have hk:=aK hk
     subst hk
     cases hb
     exact⟨i,b,List.mem_cons_self ..,e1,e2,e4⟩
    ·obtain⟨i',b0,q1,q2⟩:=iz e3 n b' hb
     exact⟨i',b0,List.mem_cons_of_mem _ q1,q2⟩
   ·cases hr
  ·cases hr
theorem fB {α:Type} {m:List (Nat × α)} {i:Nat} {n:α} (h:look m i=some n):(i,n)∈m:=by
 induction m with
 |nil=>cases h
 |cons p m ih =>
  obtain⟨k,a⟩:=p
  simp only [look] at h
  split at h
  ·rename_i hk
   have hk:=aK hk
   subst hk
   cases h
   exact List.mem_cons_self ..
  ·exact List.mem_cons_of_mem _ (ih h)
theorem pE {roots:List (Nat × Nat)}:∀ {h:H} {b i n:Nat},(i,n)∈names roots b h→look roots i=some n∨look roots i=none
 |[],_,_,_,h=>by cases h
 |(j,c) :: l,b,i,n,h=>by
  unfold names at h
  split at h
  ·rename_i k hk
   rcases List.mem_cons.1 h with e|h
   ·cases e
    exact .inl hk
   ·exact pE h
  ·rename_i hk
   rcases List.mem_cons.1 h with e|h
   ·cases e
    exact .inr hk
   ·exact pE h
theorem jE {h:H} {roots:List (Nat × Nat)}:∀ {ns:List (Nat × Nat)},gG h roots ns=true→∀ i n,(i,n)∈ns→look roots i=none→ak h n=none
 |[],_,i,n,hm,_=>by cases hm
 |(j,k) :: l,hf,i,n,hm,hn=>by
  simp only [gG,Bool.and_eq_true] at hf
  rcases List.mem_cons.1 hm with e|hm
  ·cases e
   rw [hn] at hf
   exact cF hf.1
  ·exact jE hf.2 i n hm hn
theorem pX {h h' : H} {roots:List (Nat × Nat)}:∀ {ns:List (Nat × Nat)},kM h h' roots ns→∀ i n k,(i,n)∈ns→look roots i=some k→LQ (ak h n) (ak h' i)
 |[],_,i,n,k,hm,_=>by cases hm
 |(j,q) :: l,hf,i,n,k,hm,hn=>by
  rcases List.mem_cons.1 hm with e|hm
  ·cases e
   have:=hf.1
   simp only [hn] at this
   exact this
  ·exact pX hf.2 i n k hm hn
theorem Gb {x y:SA} {xs ys:List SA} (h:lL (x :: xs) (y :: ys)):lL xs ys:=by
 unfold lL at h
 split at h
 ·rename_i e1 e2
  cases e1
  cases e2
  exact h.2
 ·rename_i e1 e2
  cases e1
  cases e2
  exact h
 ·rename_i h1 h2
  exact absurd rfl (h2 _ _ _ _ rfl)
theorem zU {Gc G' : Gm}:∀ {ow:List Nat} {ys:List SA},eP Gc G' ow ys→∀ i j,(i,j)∈jH ow ys→dy G'.h i=true→dy Gc.h j=true→G'.o i=Gc.o j
 |[],ys,_,i,j,hm=>by cases ys <;> cases hm
 |_ :: _,[],_,i,j,hm=>by cases hm
 |k :: ow,y :: ys,h,i,j,hm=>by
  have ih:=fun h=>zU (Gc:=Gc) (G':=G') (ow:=ow) (ys:=ys) h i j
  unfold eP at h
  unfold jH at hm
  split at h
  ·rename_i e1 e2
   cases e1
   cases e2
   rcases List.mem_cons.1 hm with e|hm
   ·cases e
    exact h.1
   ·exact ih h.2 hm
  ·rename_i hno e1 e2
   cases e1
   cases e2
   split at hm
   ·rename_i e3 e4
    cases e3
    cases e4
    first|exact absurd rfl (hno _ _ _ _ rfl)|exact (hno _ rfl).elim|exact (hno rfl rfl).elim|exact (hno _ _).elim
   ·rename_i e3 e4
    cases e3
    cases e4
    exact ih h hm
   ·cases hm
  ·rename_i e1 e2
   exact absurd rfl (e2 _ _ _ _ rfl)
theorem EH {Gc G' : Gm} {ow:List Nat}:∀ {ys:List SA} {vs:List Value},ov Gc G' ow ys vs→∀ i j,(i,j)∈jH ow (ys.drop vs.length)→dy G'.h i=true→dy Gc.h j=true→G'.o i=Gc.o j
 |[],[],_,i,j,hm=>by
  have hm:(i,j)∈jH ow []:=hm
  cases ow <;> cases hm
 |y :: ys,[],h,i,j,hm=>zU (show eP Gc G' ow (y :: ys) from h) i j hm
 |[],_ :: _,_,i,j,hm=>by
  have hm:(i,j)∈jH ow []:=hm
  cases ow <;> cases hm
 |_ :: ys,_ :: vs,⟨_,h⟩,i,j,hm=>EH h i j hm
theorem pS:∀ (l:List Nat) (k j:Nat),look (bP (bM k l)) (k+j)=l[j]?
 |[],_,_=>rfl
 |n :: l,k,j=>by
  show look ((k,n) :: bP (bM (k+1) l)) (k+j)=_
  unfold look
  cases j with
  |zero =>
   have:bI k (k+0)=true:=cI k
   simp
  |succ j =>
   have e:bI k (k+(j+1))=false:=Ny.2 (by omega)
   have:=pS l (k+1) j
   rw [show k+1+j=k+(j+1) by omega] at this
   simp only [List.getElem?_cons_succ]
   rw [← this]
   simp [e]
theorem Az {Gc G' : Gm} {ow:List Nat} (hcell:∀ b j u,cellAt G b j u→G'.w.cell? ⟨b,j,none⟩=some u):∀ {xs ys:List SA} {vs:List Value},bg G xs vs→ov Gc G' ow ys vs→lL xs ys→∀ i n,(i,n)∈cP xs ys→(∃ off v,bF G n off v∧bF G' i off v)∨(∃ v,bu G n v∧bu G' i v)∨(∃ v,kZ G n v∧kZ G' i v)∨∃ x j v,fA G n x j v∧fA G' i x j v
 |[],ys,_,_,_,_,i,n,h=>by simp [cP] at h
 |_ :: _,[],[],h,_,_,_,_,_=>h.elim
 |_ :: _,[],_ :: _,_,_,_,i,n,h=>by simp [cP] at h
 |x :: xs,y :: ys,v :: vs,⟨hx,h1⟩,⟨hy,h2⟩,hsm,i,n,h=>by
  have ih:=Az hcell h1 h2 (Gb hsm) i n
  have qg:∀ n0 i0 o b b',v=v→jx G n0 o b→jx G' i0 o b'→b=b'→∃ off v,bF G n0 off v∧bF G' i0 off v:=by
   rintro n0 i0 o b _ _ ⟨A1,k1,k2⟩ ⟨A2,k3,k4⟩ rfl
   have k5:=hcell _ _ _ k1
   rw [k3.cell] at k5
   cases k5
   exact⟨o,_,k2,k4⟩
  unfold cP at h
  split at h
  ·rename_i n0 o xs' i0 o' ys' e1 e2
   cases e1
   cases e2
   split at h
   ·rename_i ho
    have ho:=aK ho
    subst ho
    rcases List.mem_cons.1 h with e|h
    ·cases e
     exact .inl ⟨o,v,hx.2,hy.2⟩
    ·exact ih h
   ·exact ih h
  ·rename_i n0 xs' i0 ys' e1 e2
   cases e1
   cases e2
   rcases List.mem_cons.1 h with e|h
   ·cases e
    exact .inr (.inl ⟨v,hx.2,hy.2⟩)
   ·exact ih h
  ·rename_i n0 xs' i0 ys' e1 e2
   cases e1
   cases e2
   rcases List.mem_cons.1 h with e|h
   ·cases e
    exact .inr (.inr (.inl ⟨v,hx.2,hy.2⟩))
   ·exact ih h
  ·rename_i n0 x0 j0 xs' i0 x1 j1 ys' e1 e2
   cases e1
   cases e2
   split at h
   ·rename_i ho
    have ho:=aK ho
    subst ho
    rcases List.mem_cons.1 h with e|h
    ·cases e
     obtain⟨rfl,_⟩:=hsm
     exact .inr (.inr (.inr ⟨_,_,v,hx.2,hy.2⟩))
    ·exact ih h
   ·exact ih h
  ·rename_i n0 o xs' i0 o' ys' e1 e2
   cases e1
   cases e2
   split at h
   ·rename_i ho
    have ho:=aK ho
    subst ho
    rcases List.mem_cons.1 h with e|h
    ·cases e
     obtain⟨b1,z1,z2⟩:=hx
     obtain⟨b2,z3,z4⟩:=hy
     rw [z1] at z3
     simp only [Value.pointer.injEq,Option.some.injEq,Addr.mk.injEq] at z3
     exact .inl (qg _ _ _ _ _ rfl z2 z4 z3.1)
    ·exact ih h
   ·exact ih h
  ·rename_i _ n0 o xs' _ i0 o' ys' e1 e2
   cases e1
   cases e2
   split at h
   ·rename_i ho
    have ho:=aK ho
    subst ho
    rcases List.mem_cons.1 h with e|h
    ·cases e
     obtain⟨b1,z1,z2⟩:=hx
     obtain⟨b2,z3,z4⟩:=hy
     rw [z1] at z3
     simp at z3
     exact .inl (qg _ _ _ _ _ rfl z2 z4 z3.2)
    ·exact ih h
   ·exact ih h
  ·rename_i e1 e2
   cases e1
   cases e2
   exact ih h
  ·cases h
theorem zP (hm:Mem G) {S:Nat→Prop} {Gt:Gm} (hmt:Mem Gt) (hbs:Gt.bs=⟨G.w,G.ok,fun g=>∃ k q,S k∧alive G.h k∧G.o k=some (g,q)⟩) {h'' : H} {D:Nat→Prop}
  (hg1:∀ n b,ak Gt.h n=some b→ak h'' n=some b) (hg2:∀ n,ak Gt.h n=none→D n→ak h'' n=some .dead) (hg3:∀ n,ak Gt.h n=none→¬D n→ak h'' n=ak G.h n)
  (hS:∀ n,S n→ak Gt.h n=none→D n)
  (hroot:∀ n k k',ak G.h n=some k→ak Gt.h n=some k'→match k,k' with
   |.cells _ _,.cells _ _=>Gt.o n=G.o n
   |.row _ c,.row _ c'=>Gt.o n=G.o n∧c'.sz=c.sz∧c'.n=c.n
   |.mp _,.mp _=>Gt.o n=G.o n
   |_,_=>False) {Gn:Gm} (hGn:Gn=⟨fun n=>if (ak Gt.h n).isSome then Gt.o n else G.o n,h'',G.bs,Gt.w⟩) :
  Ext G Gn∧Mem Gn∧Ext Gt Gn:=by
 have hW:Gt.bs.W=G.w:=by rw [hbs]
 have hX:∀ g,Gt.bs.X g↔∃ k q,S k∧alive G.h k∧G.o k=some (g,q):=by intro g;rw [hbs]
 have hK:∀ b j,Gt.bs.K b j↔G.ok b j:=by intro b j;rw [hbs]
 have hsz:G.w.heap.size≤Gt.w.heap.size:=by rw [← hW];exact hmt.size
 have hshp:jz G.w Gt.w:=by rw [← hW];exact hmt.Et
 have hal:∀ n,alive h'' n→(∃ b,ak Gt.h n=some b∧b.alive=true)∨ak Gt.h n=none∧¬D n∧¬S n∧alive G.h n:=by
  rintro n ⟨b,hb,hba⟩
  cases hq:ak Gt.h n with
  |some b' =>
   rw [hg1 n b' hq] at hb
   cases hb
   exact .inl ⟨b,rfl,hba⟩
  |none =>
   by_cases hd:D n
   ·rw [hg2 n hq hd] at hb
    cases hb
    cases hba
   ·rw [hg3 n hq hd] at hb
    exact .inr ⟨rfl,hd,fun hs=>hd (hS n hs hq),b,hb,hba⟩
 have okK:∀ b j,b < G.bs.W.heap.size→G.bs.K b j→G.ok b j:=by
  intro b j hlt hk
  refine⟨Nat.lt_of_lt_of_le hlt hm.size,fun _=>.inl hk,fun n ha g q ho e=>?_⟩
  subst e
  rcases (hm.own n ha g q ho).2 with h | ⟨_,h⟩
  ·omega
  ·exact h j hk
 have hcellK:∀ b j,G.ok b j→Gt.w.cell? ⟨b,j,none⟩=G.w.cell? ⟨b,j,none⟩:=by
  intro b j h
  have:=hmt.pe b j (by rw [hW];exact h.lt) ((hK b j).2 h)
  rwa [hW] at this
 have hblk:∀ k,k < G.w.heap.size→(∀ n q,S n→alive G.h n→G.o n≠some (k,q))→Gt.w.heap[k]? = G.w.heap[k]?:=by
  intro k hlt hno
  have:=hmt.block k (by rw [hW];exact hlt) (fun hx=>by
   obtain⟨n,q,h1,h2,h3⟩:=(hX k).1 hx
   exact hno n q h1 h2 h3)
  rwa [hW] at this
 have hnotS:∀ n,¬S n→alive G.h n→∀ g q,G.o n=some (g,q)→Gt.w.heap[g]? = G.w.heap[g]?:=by
  intro n hs ha g q ho
  refine hblk g (hm.own n ha g q ho).1 fun n' q' hs' ha' ho'=>?_
  have:=hm.inj n n' ha ha' g q q' ho ho'
  subst this
  exact hs hs'
 subst hGn
 have hoT:∀ {n b},ak Gt.h n=some b→(if (ak Gt.h n).isSome then Gt.o n else G.o n)=Gt.o n:=by intro n b h;rw [h];rfl
 have hoN:∀ {n},ak Gt.h n=none→(if (ak Gt.h n).isSome then Gt.o n else G.o n)=G.o n:=by intro n h;rw [h];rfl
 have hsub:Sub G ⟨fun n=>if (ak Gt.h n).isSome then Gt.o n else G.o n,h'',G.bs,Gt.w⟩:=by
  refine⟨fun b j h=>⟨Nat.lt_of_lt_of_le h.lt hsz,h.old,fun n ha g q ho e=>?_⟩,hcellK,hshp⟩
  subst e
  rcases hal n ha with ⟨b',hb',hba⟩ | ⟨hn,_,_,ha'⟩
  ·have ho:Gt.o n=some (g,q):=by rw [← hoT hb'];exact ho
   rcases (hmt.own n ⟨b',hb',hba⟩ g q ho).2 with h' | ⟨_,h'⟩
   ·rw [hW] at h'
    have:=h.lt
    omega
   ·exact h' j ((hK g j).2 h)
  ·have ho:G.o n=some (g,q):=by rw [← hoN hn];exact ho
   exact h.own n ha' g q ho rfl
 have hext:Ext G ⟨fun n=>if (ak Gt.h n).isSome then Gt.o n else G.o n,h'',G.bs,Gt.w⟩:=by
  refine⟨hsub,fun n k hk=>?_⟩
  cases hq:ak Gt.h n with
  |some k' =>
   refine⟨k',hg1 n k' hq,?_⟩
   have h:=hroot n k k' hk hq
   cases k with
   |cells t c=>cases k' with
    |cells t' c'=>exact (hoT hq).trans h
    |_=>exact h.elim
   |row t c=>cases k' with
    |row t' c'=>exact⟨(hoT hq).trans h.1,h.2.1,h.2.2⟩
    |_=>exact h.elim
   |mp c=>cases k' with
    |mp c'=>exact (hoT hq).trans h
    |_=>exact h.elim
   |_=>cases k' <;> exact h.elim
  |none =>
   by_cases hd:D n
   ·exact⟨.dead,hg2 n hq hd,by cases k <;> trivial⟩
   ·refine⟨k,(hg3 n hq hd).trans hk,?_⟩
    have hs:¬S n:=fun hs=>hd (hS n hs hq)
    cases k with
    |cells=>exact hoN hq
    |emp=>exact hoN hq
    |mp=>exact hoN hq
    |row=>exact⟨hoN hq,rfl,rfl⟩
    |fI=>rfl
    |cm=>exact⟨rfl,rfl,rfl⟩
    |tok=>exact⟨hoN hq,fun g q ho=>hnotS n hs ⟨_,hk,rfl⟩ g q ho⟩
    |dead=>trivial
 have hsubT:Sub Gt ⟨fun n=>if (ak Gt.h n).isSome then Gt.o n else G.o n,h'',G.bs,Gt.w⟩:=by
  refine⟨fun b j h=>⟨h.lt,fun hlt=>?_,fun n ha g q ho e=>?_⟩,fun _ _ _=>rfl,jz.refl _⟩
  ·have hlt' : b < G.w.heap.size:=Nat.lt_of_lt_of_le hlt hm.size
   rcases h.old (by rw [hW];exact hlt') with hk|hx
   ·exact ((hK b j).1 hk).old hlt
   ·obtain⟨n,q,_,h2,h3⟩:=(hX b).1 hx
    rcases (hm.own n h2 b q h3).2 with h4 | ⟨h4,_⟩
    ·have hlt:b < G.bs.W.heap.size:=hlt
     omega
    ·exact .inr h4
  ·subst e
   rcases hal n ha with ⟨b',hb',hba⟩ | ⟨hn,_,hs,ha'⟩
   ·have ho:Gt.o n=some (g,q):=by rw [← hoT hb'];exact ho
    exact h.own n ⟨b',hb',hba⟩ g q ho rfl
   ·have ho:G.o n=some (g,q):=by rw [← hoN hn];exact ho
    have hlt:=(hm.own n ha' g q ho).1
    rcases h.old (by rw [hW];exact hlt) with hk|hx
    ·exact ((hK g j).1 hk).own n ha' g q ho rfl
    ·obtain⟨n',q',h1,h2,h3⟩:=(hX g).1 hx
     have:=hm.inj n n' ha' h2 g q q' ho h3
     subst this
     exact absurd h1 hs
 have hextT:Ext Gt ⟨fun n=>if (ak Gt.h n).isSome then Gt.o n else G.o n,h'',G.bs,Gt.w⟩:=by
  refine⟨hsubT,fun n k hk=>⟨k,hg1 n k hk,?_⟩⟩
  cases k with
  |cells=>exact hoT hk
  |emp=>exact hoT hk
  |mp=>exact hoT hk
  |row=>exact⟨hoT hk,rfl,rfl⟩
  |fI=>rfl
  |cm=>exact⟨rfl,rfl,rfl⟩
  |tok=>exact⟨hoT hk,fun _ _ _=>rfl⟩
  |dead=>trivial
 refine⟨hext,⟨?_,?_,?_,Nat.le_trans hm.size hsz,fun k hlt hx=>?_,fun b j hlt hk=>?_,fun n ha g q ho=>?_,fun n n' ha ha' g q q' ho ho'=>?_,fun n k hk=>?_,hm.Et.trans hshp⟩,hextT⟩
 ·have:=hmt.os
  rw [hW] at this
  exact this.trans hm.os
 ·have:=hmt.tape
  rw [hW] at this
  exact this.trans hm.tape
 ·have:=hmt.output
  rw [hW] at this
  exact this.trans hm.output
 ·have hx:¬G.bs.X k:=hx
  have hlt:k < G.bs.W.heap.size:=hlt
  refine Eq.trans (hblk k (Nat.lt_of_lt_of_le hlt hm.size) fun n q _ h2 h3=>?_) (hm.block k hlt hx)
  rcases (hm.own n h2 k q h3).2 with h4 | ⟨h4,_⟩
  ·omega
  ·exact hx h4
 ·exact (hcellK b j (okK b j hlt hk)).trans (hm.pe b j hlt hk)
 ·rcases hal n ha with ⟨b',hb',hba⟩ | ⟨hn,_,hs,ha'⟩
  ·have ho:Gt.o n=some (g,q):=by rw [← hoT hb'];exact ho
   obtain⟨h1,h2⟩:=hmt.own n ⟨b',hb',hba⟩ g q ho
   refine⟨h1,?_⟩
   rcases h2 with h2 | ⟨h2,h3⟩
   ·rw [hW] at h2
    exact .inl (Nat.le_trans hm.size h2)
   ·obtain⟨n',q',k1,k2,k3⟩:=(hX g).1 h2
    rcases (hm.own n' k2 g q' k3).2 with h4 | ⟨h4,_⟩
    ·exact .inl h4
    ·by_cases hlt:g < G.bs.W.heap.size
     ·exact .inr ⟨h4,fun j hj=>h3 j ((hK g j).2 (okK g j hlt hj))⟩
     ·exact .inl (by show G.bs.W.heap.size≤g;omega)
  ·have ho:G.o n=some (g,q):=by rw [← hoN hn];exact ho
   obtain⟨h1,h2⟩:=hm.own n ha' g q ho
   exact⟨Nat.lt_of_lt_of_le h1 hsz,h2⟩
 ·have key:∀ n n' b',ak Gt.h n=some b'→b'.alive=true→ak Gt.h n' = none→¬S n'→alive G.h n'→∀ q q',Gt.o n=some (g,q)→G.o n' = some (g,q')→False:=by
   intro n n' b' hb' hba hn' hs' ha' q q' ho ho'
   have hlt:=(hm.own n' ha' g q' ho').1
   rcases (hmt.own n ⟨b',hb',hba⟩ g q ho).2 with h2 | ⟨h2,_⟩
   ·rw [hW] at h2
    omega
   ·obtain⟨n2,q2,k1,k2,k3⟩:=(hX g).1 h2
    have:=hm.inj n' n2 ha' k2 g q' q2 ho' k3
    subst this
    exact hs' k1
  rcases hal n ha with ⟨b1,nT,hba1⟩ | ⟨hn,_,hs,ha1⟩ <;> rcases hal n' ha' with ⟨b2,uG,hba2⟩ | ⟨hn',_,hs',ha2⟩
  ·exact hmt.inj n n' ⟨b1,nT,hba1⟩ ⟨b2,uG,hba2⟩ g q q' (by rw [← hoT nT];exact ho) (by rw [← hoT uG];exact ho')
  ·exact (key n n' b1 nT hba1 hn' hs' ha2 q q' (by rw [← hoT nT];exact ho) (by rw [← hoN hn'];exact ho')).elim
  ·exact (key n' n b2 uG hba2 hn hs ha1 q' q (by rw [← hoT uG];exact ho') (by rw [← hoN hn];exact ho)).elim
  ·exact hm.inj n n' ha1 ha2 g q q' (by rw [← hoN hn];exact ho) (by rw [← hoN hn'];exact ho')
 ·cases hq:ak Gt.h n with
  |some b' =>
   have hk:ak h'' n=some k:=hk
   rw [hg1 n b' hq] at hk
   cases hk
   have hb:=hmt.ig n _ hq
   cases k with
   |cells t cs =>
    obtain⟨g,vs,e1,e2,e3⟩:=hb
    exact⟨g,vs,(hoT hq).trans e1,e2,e3.ext hextT⟩
   |row t c =>
    rcases hb with ⟨z0,z1⟩ | ⟨g,pre,vs,rest,e1,e2,e3,e4⟩
    ·exact .inl ⟨z0,(hoT hq).trans z1⟩
    ·exact .inr ⟨g,pre,vs,rest,(hoT hq).trans e1,e2,e3.sub hsubT,e4⟩
   |emp t =>
    obtain⟨g,e1,e2⟩:=hb
    exact⟨g,(hoT hq).trans e1,e2⟩
   |mp l =>
    obtain⟨g,es,clock,e1,e2,e3⟩:=hb
    exact⟨g,es,clock,(hoT hq).trans e1,e2,e3⟩
   |_=>trivial
  |none =>
   have hk:ak h'' n=some k:=hk
   by_cases hd:D n
   ·rw [hg2 n hq hd] at hk
    cases hk
    trivial
   ·rw [hg3 n hq hd] at hk
    have hs:¬S n:=fun hs=>hd (hS n hs hq)
    have hb:=hm.ig n k hk
    cases k with
    |cells t cs =>
     obtain⟨g,vs,e1,e2,e3⟩:=hb
     exact⟨g,vs,(hoN hq).trans e1,(hnotS n hs ⟨_,hk,rfl⟩ g 0 e1).trans e2,e3.ext hext⟩
    |row t c =>
     rcases hb with ⟨z0,z1⟩ | ⟨g,pre,vs,rest,e1,e2,e3,e4⟩
     ·exact .inl ⟨z0,(hoN hq).trans z1⟩
     ·exact .inr ⟨g,pre,vs,rest,(hoN hq).trans e1,(hnotS n hs ⟨_,hk,rfl⟩ g _ e1).trans e2,e3.sub hsub,e4⟩
    |emp t =>
     obtain⟨g,e1,e2⟩:=hb
     exact⟨g,(hoN hq).trans e1,(hnotS n hs ⟨_,hk,rfl⟩ g 0 e1).trans e2⟩
    |mp l =>
     obtain⟨g,es,clock,e1,e2,e3⟩:=hb
     exact⟨g,es,clock,(hoN hq).trans e1,(hnotS n hs ⟨_,hk,rfl⟩ g 0 e1).trans e2,e3⟩
    |_=>trivial
def Rk:SV→SV→Prop
 |.sa _,.sa _=>True
 |.bJ _,.bJ _=>True
 |_,_=>False
theorem vi {M:Mt} (s:Fj M G G') {r r' : SV} {v:Value} (hk:Rk r r') (hl:iQ M (fO r) (fO r')) (hv:r.is G v):r'.is G' v:=by
 have tups:∀ {xs ys:List SA} {vs:List Value},iQ M (xs.map fun x=>(⟨none,.sa x⟩:bB)) (ys.map fun x=>(⟨none,.sa x⟩:bB))→bg G xs vs→bg G' ys vs:=by
  intro xs
  induction xs with
  |nil =>
   intro ys vs h hv
   cases ys with
   |nil=>cases vs with
    |nil=>trivial
    |cons _ _=>exact hv.elim
   |cons _ _=>exact h.elim
  |cons x xs ih =>
   intro ys vs h hv
   cases ys with
   |nil=>exact h.elim
   |cons y ys=>cases vs with
    |nil=>exact hv.elim
    |cons u us=>exact⟨bB.fS (x:=⟨none,.sa x⟩) (y:=⟨none,.sa y⟩) s h.1 hv.1,ih h.2 hv.2⟩
 cases r with
 |sa x=>cases r' with
  |sa y=>exact bB.fS (x:=⟨none,.sa x⟩) (y:=⟨none,.sa y⟩) s hl.1 hv
  |bJ _=>exact hk.elim
 |bJ xs=>cases r' with
  |sa _=>exact hk.elim
  |bJ ys =>
   obtain⟨vs,e,hvs⟩:=hv
   exact⟨vs,e,tups hl hvs⟩
theorem vl {m:List (Nat × Nat)} {r r' : SV} (h:Km m r=some r'):Rk r r':=by
 cases r with
 |sa x =>
  simp only [Km] at h
  cases hx:Td m x with
  |none=>simp [hx] at h
  |some y=>simp only [hx] at h;cases h;trivial
 |bJ xs =>
  simp only [Km] at h
  cases hx:yS m xs with
  |none=>simp [hx] at h
  |some y=>simp only [hx] at h;cases h;trivial
theorem nW:∀ {l:List Nat} {i n k:Nat},(n,k)∈bM i l→n∈l
 |[],_,_,_,h=>by cases h
 |x :: l,i,n,k,h=>by
  unfold bM at h
  rcases List.mem_cons.1 h with e|h
  ·cases e
   exact List.mem_cons_self ..
  ·exact List.mem_cons_of_mem _ (nW h)
theorem jR {seen:List Nat}:∀ {h:H} {k:Nat},k∈kept (bP (bM 0 seen)) h→k∈seen
 |[],k,hk=>by cases hk
 |(j,b) :: l,k,hk=>by
  unfold kept at hk
  split at hk
  ·rename_i k0 hk0
   rcases List.mem_cons.1 hk with rfl|hk
   ·have:=fB hk0
    unfold bP at this
    obtain⟨p,hp,e⟩:=List.mem_map.1 this
    cases e
    exact nW hp
   ·exact jR hk
  ·exact jR hk
theorem mQ {h:H}:∀ {l:List Nat} {n:Nat} {b:eD},ak (zG h l) n=some b→ak h n=some b
 |[],n,b,hb=>by cases hb
 |k :: l,n,b,hb=>by
  unfold zG at hb
  split at hb
  ·rename_i b0 hk
   simp only [ak] at hb
   split at hb
   ·rename_i e
    have e:=aK e
    subst e
    cases hb
    exact hk
   ·exact mQ hb
  ·exact mQ hb
section
variable {m:List (Nat × Nat)} {h1 h2 h' : H} {ks:List Nat} {fr:Bool}
theorem SC.qP (hh:∀ n b,ak h1 n=some b→ak h2 n=some b) {x y:SC} (h:x.le ⟨m,h1,h',ks,fr⟩ y):x.le ⟨m,h2,h',ks,fr⟩ y:=by
 unfold SC.le at h
 split at h
 all_goals first|exact h|exact False.elim h|skip
 rename_i b c
 simp only at h
 show (match ak h2 b with
  |some (.row _ c0)=>(fr && !lO b ks)=true∧uB c0 c
  |some (.fI c0)=>uB c0 c
  |_=>False)
 split at h
 ·rename_i hb
  rw [hh _ _ hb]
  exact h
 ·rename_i hb
  rw [hh _ _ hb]
  exact h
 ·exact h.elim
theorem jl (hh:∀ n b,ak h1 n=some b→ak h2 n=some b):∀ {xs ys:List SC},kQ ⟨m,h1,h',ks,fr⟩ xs ys→kQ ⟨m,h2,h',ks,fr⟩ xs ys
 |[],[],_=>trivial
 |[],_ :: _,h=>h.elim
 |_ :: _,[],h=>h.elim
 |_ :: _,_ :: _,⟨a,b⟩=>⟨SC.qP hh a,jl hh b⟩
theorem SA.qP (hh:∀ n b,ak h1 n=some b→ak h2 n=some b) {x y:SA} (h:x.le ⟨m,h1,h',ks,fr⟩ y):x.le ⟨m,h2,h',ks,fr⟩ y:=by
 unfold SA.le at h
 split at h
 ·trivial
 ·unfold SA.le
  split
  ·trivial
  ·rename_i e1 e2
   cases e1
   cases e2
   exact SC.qP hh h
  ·rename_i e1 _;cases e1
  ·rename_i e1 _;cases e1
  ·simp_all
 ·exact jl hh h
 ·exact h
 ·exact h.elim
theorem tT (hh:∀ n b,ak h1 n=some b→ak h2 n=some b):∀ {xs ys:List SA},yF ⟨m,h1,h',ks,fr⟩ xs ys→yF ⟨m,h2,h',ks,fr⟩ xs ys
 |[],[],_=>trivial
 |_ :: _,[],_=>trivial
 |[],_ :: _,h=>h.elim
 |_ :: _,_ :: _,⟨a,b⟩=>⟨SA.qP hh a,tT hh b⟩
theorem Bw (hh:∀ n b,ak h1 n=some b→ak h2 n=some b) {x y:eD} (h:fR ⟨m,h1,h',ks,fr⟩ x y):fR ⟨m,h2,h',ks,fr⟩ x y:=by
 cases x <;> cases y <;> first|exact h|exact⟨h.1,jl hh h.2⟩
theorem pN (hh:∀ n b,ak h1 n=some b→ak h2 n=some b):∀ {l:H},kD ⟨m,h1,h',ks,fr⟩ l→kD ⟨m,h2,h',ks,fr⟩ l
 |[],_=>trivial
 |(i,b) :: l,⟨a,c⟩=>by
  refine⟨?_,pN hh c⟩
  simp only at a ⊢
  split at a
  ·split at a
   ·rename_i hb
    rw [hh _ _ hb]
    exact Bw hh a
   ·exact a.elim
  ·exact a
end
theorem kd:∀ {l:List Nat} {i n k:Nat},(n,k)∈bM i l→i≤k
 |[],_,_,_,h=>by cases h
 |x :: l,i,n,k,h=>by
  unfold bM at h
  rcases List.mem_cons.1 h with e|h
  ·cases e
   exact Nat.le_refl _
  ·exact Nat.le_trans (Nat.le_succ _) (kd h)
theorem nN:∀ {l:List Nat} {i n n' k:Nat},(n,k)∈bM i l→(n',k)∈bM i l→n=n'
 |[],_,_,_,_,h,_=>by cases h
 |x :: l,i,n,n',k,h,h'=>by
  unfold bM at h h'
  rcases List.mem_cons.1 h with e|h <;> rcases List.mem_cons.1 h' with e' | h'
  ·cases e
   cases e'
   rfl
  ·cases e
   have:=kd h'
   omega
  ·cases e'
   have:=kd h
   omega
  ·exact nN h h'
theorem FE {c:SC} {v:Value} (h:c.tG.is G v):c.is G v:=by cases c <;> exact h
theorem tZ:∀ {cs:List SC} {vs:List Value},aM G (cs.map SC.tG) vs→aM G cs vs
 |[],[],_=>trivial
 |_ :: _,_ :: _,⟨⟨a,b⟩,c⟩=>⟨⟨FE a,b⟩,tZ c⟩
def Alike (x y:Option eD):Prop:=x=y∨∃ t cs,x=some (.cells t cs)∧y=some (.cells t (cs.map SC.tG))
theorem FJ {m ns:List (Nat × Nat)} (hb:∀ n i n',look m n=some i→look ns i=some n'→n' = n) {c c1 c2:SC} (h1:lK m c=some c1) (h2:lK ns c1=some c2):c2=c.tG:=by
 unfold lK at h1
 split at h1
 ·split at h1
  ·rename_i hn
   cases h1
   unfold lK at h2
   simp only at h2
   split at h2
   ·rename_i hi
    cases h2
    rw [hb _ _ _ hn hi]
    rfl
   ·cases h2
  ·cases h1
 ·split at h1
  ·rename_i hn
   cases h1
   unfold lK at h2
   simp only at h2
   split at h2
   ·rename_i hi
    cases h2
    rw [hb _ _ _ hn hi]
    rfl
   ·cases h2
  ·cases h1
 ·split at h1
  ·rename_i hn
   cases h1
   unfold lK at h2
   simp only at h2
   split at h2
   ·rename_i hi
    cases h2
    rw [hb _ _ _ hn hi]
    rfl
   ·cases h2
  ·cases h1
 ·split at h1
  ·rename_i hn
   cases h1
   unfold lK at h2
   simp only at h2
   split at h2
   ·rename_i hi
    cases h2
    rw [hb _ _ _ hn hi]
    rfl
   ·cases h2
  ·cases h1
 ·split at h1
  ·rename_i hn
   cases h1
   unfold lK at h2
   simp only at h2
   split at h2
   ·rename_i hi
    cases h2
    rw [hb _ _ _ hn hi]
    rfl
   ·cases h2
  ·cases h1
 ·split at h1
  ·rename_i hn
   cases h1
   unfold lK at h2
   simp only at h2
   split at h2
   ·rename_i hi
    cases h2
    rw [hb _ _ _ hn hi]
    rfl
   ·cases h2
  ·cases h1
 ·split at h1
  ·rename_i hn
   cases h1
   unfold lK at h2
   simp only at h2
   split at h2
   ·rename_i hi
    cases h2
    rw [hb _ _ _ hn hi]
    rfl
   ·cases h2
  ·cases h1
 ·split at h1
  ·rename_i hn
   cases h1
   unfold lK at h2
   simp only at h2
   split at h2
   ·rename_i hi
    cases h2
    rw [hb _ _ _ hn hi]
    rfl
   ·cases h2
  ·cases h1
 ·cases h1
 ·rename_i q1 q0 q2 q5 q3 q4 q6 q7 q8
  cases h1
  cases c with
  |ptr n o=>exact absurd rfl (q1 n o)
  |fn g n=>exact absurd rfl (q0 g n)
  |own n=>exact absurd rfl (q2 n)
  |mp n=>exact absurd rfl (q5 n)
  |rp n i j=>exact absurd rfl (q4 n i j)
  |qg n o=>exact absurd rfl (q6 n o)
  |xK g n o=>exact absurd rfl (q7 g n o)
  |vw n l=>exact absurd rfl (q8 n l)
  |sl tk ct=>cases tk with
   |none=>simp [lK,SC.tG] at h2 ⊢;exact h2.symm
   |some p=>exact absurd rfl (q3 p.1 p.2 ct)
  |_=>simp [lK,SC.tG] at h2 ⊢;exact h2.symm
theorem sy {m ns:List (Nat × Nat)} (hb:∀ n i n',look m n=some i→look ns i=some n'→n' = n):∀ {cs c1 c2:List SC},rV m cs=some c1→rV ns c1=some c2→c2=cs.map SC.tG
 |[],_,_,h1,h2=>by cases h1;cases h2;rfl
 |c :: cs,_,_,h1,h2=>by
  unfold rV at h1
  split at h1
  ·rename_i a b ha hb'
   cases h1
   unfold rV at h2
   split at h2
   ·rename_i a' b' ha' hb''
    cases h2
    rw [FJ hb ha ha',sy hb hb' hb'']
    rfl
   ·cases h2
  ·cases h1
theorem Gq {m ns:List (Nat × Nat)} (hb:∀ n i n',look m n=some i→look ns i=some n'→n' = n) {b b1 b2:eD} (h1:Fk m b=some b1) (h2:Fk ns b1=some b2):Alike (some b) (some b2):=by
 cases b with
 |cells t cs =>
  simp only [Fk] at h1
  split at h1
  ·rename_i xs hx
   cases h1
   simp only [Fk] at h2
   split at h2
   ·rename_i ys hy
    cases h2
    exact .inr ⟨t,cs,rfl,by rw [sy hb hx hy]⟩
   ·cases h2
  ·cases h1
 |_=>cases h1;cases h2;exact .inl rfl
theorem KM {Gn:Gm} (hm:Mem Gn) {h:H} (hal:∀ n,Alike (ak h n) (ak Gn.h n)):Ext Gn ⟨Gn.o,h,Gn.bs,Gn.w⟩∧Mem ⟨Gn.o,h,Gn.bs,Gn.w⟩:=by
 have ha:∀ n,alive h n→alive Gn.h n:=by
  rintro n ⟨k,h1,h2⟩
  rcases hal n with e | ⟨t,cs,e1,e2⟩
  ·exact⟨k,by rw [← e];exact h1,h2⟩
  ·exact⟨_,e2,rfl⟩
 have hsub:Sub Gn ⟨Gn.o,h,Gn.bs,Gn.w⟩:=⟨fun b j hk=>⟨hk.lt,hk.old,fun n hn g m ho e=>hk.own n (ha n hn) g m ho e⟩,fun _ _ _=>rfl,jz.refl _⟩
 have hext:Ext Gn ⟨Gn.o,h,Gn.bs,Gn.w⟩:=by
  refine⟨hsub,fun n k hk=>?_⟩
  rcases hal n with e | ⟨t,cs,e1,e2⟩
  ·refine⟨k,e.trans hk,?_⟩
   cases k with
   |row t c=>exact⟨rfl,rfl,rfl⟩
   |tok=>exact⟨rfl,fun _ _ _=>rfl⟩
   |cells=>rfl
   |emp=>rfl
   |mp=>rfl
   |fI=>rfl
   |cm=>exact⟨rfl,rfl,rfl⟩
   |dead=>trivial
  ·rw [e2] at hk
   cases hk
   exact⟨_,e1,rfl⟩
 refine⟨hext,hm.os,hm.tape,hm.output,hm.size,hm.block,hm.pe,fun n hn=>hm.own n (ha n hn),fun n n' hn hn'=>hm.inj n n' (ha n hn) (ha n' hn'),fun n k hk=>?_,hm.Et⟩
 have hk:ak h n=some k:=hk
 rcases hal n with e | ⟨t,cs,e1,e2⟩
 ·have hb:=hm.ig n k (by rw [← e];exact hk)
  cases k with
  |cells t cs =>
   obtain⟨g,vs,q1,q2,q3⟩:=hb
   exact⟨g,vs,q1,q2,q3.ext hext⟩
  |row t c =>
   rcases hb with hb | ⟨g,pre,vs,rest,q1,q2,q3,q4⟩
   ·exact .inl hb
   ·exact .inr ⟨g,pre,vs,rest,q1,q2,q3.sub hsub,q4⟩
  |emp t=>exact hb
  |_=>trivial
 ·rw [e1] at hk
  cases hk
  obtain⟨g,vs,q1,q2,q3⟩:=hm.ig n _ e2
  exact⟨g,vs,q1,q2,tZ (q3.ext hext)⟩
theorem xP {f : FuncId} (hcon : ∃ fn, P.funcs[f]? = some fn ∧ fn.body.isNone = false ∧ (fn.name == "runtime.NumGoroutine") = false) {o : Oper} {c : Call} (ho : o.op = .call c) {x : Operand} (hf : c.callee = .value x) {cb : Array Value} (hx : a.eval x = .func (.func f) #[] cb) {R : Ending → World → Prop} (hcs : Calls P f (c.args.map a.eval ++ cb) w R)
  {K:Act→World→Prop} {Q:Exit→Act→World→Prop} (hK:∀ e w',R e w'→∃ v,e = .returned v∧K (a.put o.dst v) w'):o.wp P a w K Q:=by
 obtain⟨fn,g1,g2,g3⟩:=hcon
 have hrun:(execOp a.eval o).run P w = .ok (.enter f (c.args.map a.eval ++ cb)) w:=by
  have g2' : ¬fn.body=none:=fun e=>by simp [e] at g2
  have g3' : ¬ fn.name = "runtime.NumGoroutine" := by simpa using g3
  simp [execOp,ho,resolve,hf,hx,Deferred.ofValue,invoke,callFunc,g1,g2',g3']
 unfold Oper.wp
 rw [hrun,Oper.upon_enter]
 refine hcs.mono fun e w' h=>?_
 obtain⟨v,rfl,hk⟩:=hK e w' h
 exact hk
theorem Gg (hr:dq bs gv st ν a w) {o:Oper} {f:Fn} {first cap:Array Operand} (ho:o.op = .makeFunc f first cap) {E:cA} (h:CR f (first.toList.map (aF st)) (cap.toList.map (aF st))=some E) (hs:E.side):cB P o a w (gh bs st ν w E):=by
 unfold CR at h
 split at h
 ·rename_i g gd n h1 h2
  obtain⟨y,hy,he⟩:∃ y,cap.toList=[y]∧aF st y=⟨gd,.sa (.one (.ptr n 0))⟩:=by
   cases hc:cap.toList with
   |nil=>rw [hc] at h2;cases h2
   |cons y l =>
    rw [hc] at h2
    simp only [List.map_cons,List.cons.injEq,List.map_eq_nil_iff] at h2
    exact⟨y,by rw [h2.2],h2.1⟩
  have hf:first = #[]:=by
   have:first.toList=[]:=List.map_eq_nil_iff.1 h1
   exact Array.toList_eq_nil_iff.1 this
  have hcap:cap = #[y]:=by
   apply Array.ext'
   simpa using hy
  have hv:=aQ hr y
  rw [he] at hv
  refine bw hr.mem h (v:=.func (.func g) #[] #[a.eval y]) (fun _=>?_) (fun hs=>?_) hs
  ·subst hf hcap
   simp [execOp,ho,Instr.makeFunc]
  ·unfold bZ at h
   cases h
   obtain⟨⟨A,hA⟩,hp⟩:=hv.of hs
   rw [hA] at hp ⊢
   refine⟨⟨A,rfl⟩,?_⟩
   unfold bF at hp
   unfold uq
   cases hk:ak (gg bs st ν w).h n with
   |none=>rw [hk] at hp;exact hp.elim
   |some k =>
    rw [hk] at hp
    cases k with
    |cells t cs =>
     obtain⟨b,g1,g2⟩:=hp
     exact⟨b,g1,by rw [g2]⟩
    |row t c =>
     obtain⟨b,g1,g2⟩:=hp
     exact⟨b,g1,by rw [g2]⟩
    |fI c=>trivial
    |cm _ _ _=>trivial
    |dead=>trivial
    |_=>exact hp.elim
 ·rename_i g gd n o9 h1 h2
  obtain⟨y,hy,he⟩:∃ y,cap.toList=[y]∧aF st y=⟨gd,.sa (.one (.qg n o9))⟩:=by
   cases hc:cap.toList with
   |nil=>rw [hc] at h2;cases h2
   |cons y l =>
    rw [hc] at h2
    simp only [List.map_cons,List.cons.injEq,List.map_eq_nil_iff] at h2
    exact⟨y,by rw [h2.2],h2.1⟩
  have hf:first = #[]:=by
   have:first.toList=[]:=List.map_eq_nil_iff.1 h1
   exact Array.toList_eq_nil_iff.1 this
  have hcap:cap = #[y]:=by
   apply Array.ext'
   simpa using hy
  have hv:=aQ hr y
  rw [he] at hv
  refine bw hr.mem h (v:=.func (.func g) #[] #[a.eval y]) (fun _=>?_) (fun hs=>?_) hs
  ·subst hf hcap
   simp [execOp,ho,Instr.makeFunc]
  ·unfold bZ at h
   cases h
   obtain⟨b,e,hp⟩:=hv.of hs
   exact⟨b,by rw [e],hp⟩
 ·cases h
theorem CQ {e:bB} {s:Prop}:ndF e s↔need e.g∧s:=by
 unfold ndF need
 cases e.g with
 |none=>exact⟨fun h=>⟨trivial,h⟩,fun h=>h.2⟩
 |some b=>exact Iff.rfl
theorem RY {e:bB} {s:Prop} (h:need e.g):ndF e s=s:=propext (CQ.trans ⟨fun q=>q.2,fun q=>⟨h,q⟩⟩)
theorem Cb (hr:dq bs gv st ν a w) {x:Operand} {f:Nat} (h:Yd (aF st x)=some f) (hg:need (aF st x).g):a.eval x = .func (.func f) #[] #[]:=by
 have hv:=aQ hr x
 unfold Yd at h
 split at h
 ·rename_i g f' heq
  cases h
  rw [heq] at hv hg
  cases g with
  |none=>exact hv
  |some b =>
   have hb:b=true:=hg
   subst hb
   exact hv
 ·cases h
theorem yr {kp:Bool} {h:H} {u:Nat} {bE:aZ} {s:Prop} {vs:List SA} {E:cA} (hE:fe kp h u bE s vs=some E) (hs:E.side):s:=by
 unfold fe at hE
 dsimp only at hE
 split at hE
 ·split at hE
  ·split at hE
   ·split at hE
    ·cases hE
     exact hs.1
    ·cases hE
   ·cases hE
  ·cases hE
 ·cases hE
theorem zK {kp:Bool} {h:H} {u:Nat} {bE:aZ} {s:Prop} {vs:List SA} {E:cA} (hE:gX kp h u bE s vs=some E) (hs:E.side):s:=by
 unfold gX at hE
 split at hE
 ·rename_i E' hE'
  cases hE
  exact yr hE' hs
 ·unfold fq at hE
  dsimp only at hE
  split at hE
  ·split at hE
   ·split at hE
    ·split at hE
     ·split at hE
      ·cases hE
       exact hs.1
      ·cases hE
       exact hs.1
     ·cases hE
    ·cases hE
   ·cases hE
  ·cases hE
theorem Th (hr:dq bs gv st ν a w) {x:Operand} {f:Nat} {n:SC} (h:ZZ (aF st x)=some (f,n)):∃ u,a.eval x = .func (.func f) #[] #[u]∧n.is (gg bs st ν w) u:=by
 have hv:=aQ hr x
 unfold ZZ at h
 split at h
 ·rename_i g m heq
  cases h
  rw [heq] at hv
  obtain⟨⟨A,hA⟩,hp⟩:=hv
  refine⟨_,hA,⟨A,rfl⟩,?_⟩
  unfold uq at hp
  unfold bF
  rw [hA] at hp
  cases hk:ak (gg bs st ν w).h m with
  |none=>rw [hk] at hp;exact hp.elim
  |some k =>
   rw [hk] at hp
   cases k with
   |cells t cs =>
    obtain⟨b,g1,g2⟩:=hp
    simp at g2
    exact⟨b,g1,by rw [g2]⟩
   |row t c =>
    obtain⟨b,g1,g2⟩:=hp
    simp at g2
    exact⟨b,g1,by rw [g2]⟩
   |fI c=>trivial
   |cm _ _ _=>trivial
   |dead=>trivial
   |_=>exact hp.elim
 ·rename_i g m o heq
  cases h
  rw [heq] at hv
  obtain⟨b,e,hp⟩:=hv
  exact⟨_,e,b,rfl,hp⟩
 ·cases h
theorem pH {G:Gm}:∀ {xs ys:List SA} {us vs:List Value},bg G xs us→bg G ys vs→bg G (xs ++ ys) (us ++ vs)
 |[],_,[],_,_,h=>h
 |[],_,_ :: _,_,h,_=>h.elim
 |_ :: _,_,[],_,h,_=>h.elim
 |_ :: _,_,_ :: _,_,⟨a,b⟩,h=>⟨a,pH b h⟩
theorem DU (hc:cz P cx) (hr:dq bs gv st ν a w) {o:Oper} {c:Call} {f:FuncId} {u:Nat} (ho:o.op = .call c) {x:Operand} (hf:c.callee = .value x) {cb:List Value} (hx:a.eval x = .func (.func f) #[] cb.toArray) {bE:aZ} (hf6:dM f 999999=true) (hcon:look cx.fs f=some bE) {kp:Bool} (hkp:kp=true→iv bE) {vs:List SA} {Nd:Prop} (hv:Nd→bg (gg bs st ν w) vs (c.args.toList.map a.eval ++ cb))
  {E:cA} (h:fe kp st.heap u bE Nd vs=some E) (hs:E.side) {K:Act→World→Prop} {Q:Exit→Act→World→Prop} (hK:∀ v w',gh bs st ν w E v w'→K (a.put o.dst v) w'):o.wp P a w K Q:=by
 obtain⟨hfn,hcall⟩:=hc.fs f bE hf6 hcon
 unfold fe at h
 simp only at h
 generalize hseen:reach 200 st.heap (vs.flatMap ba) []=seen at h
 split at h
 ·rename_i args h0 hargs hh0
  split at h
  ·rename_i p hp
   split at h
   ·rename_i r h1 hr1 hh1
    split at h
    ·rename_i hchk
     cases h
     simp only [Bool.and_eq_true] at hchk
     obtain⟨c1,c2,c3,c4⟩:=hchk
     obtain⟨n1,hC,⟨l1,_,l3,l4⟩,⟨m1,m2,_,m4⟩,hcomp,hrps⟩:=hs
     have hargv:=hv n1
     have l3:=tT (fun n b=>mQ (h:=st.heap) (n:=n) (b:=b)) l3
     have l4:=pN (fun n b=>mQ (h:=st.heap) (n:=n) (b:=b)) l4
     obtain⟨hle,hmc⟩:=gV (G:=gg bs st ν w) (fr:=false) (Gn:=⟨eJ (bP (bM 0 seen)) ν,h0,⟨w,(gg bs st ν w).ok,fun g=>∃ k q,k∈kept (bP (bM 0 seen)) h0∧alive st.heap k∧ν k=some (g,q)⟩,w⟩) hr.mem l1 l4 rfl (.inr ⟨rfl,rfl⟩)
     have hcs:=hcall args h0 p hp hC _ (c.args.toList.map a.eval ++ cb) rfl rfl hmc (Hh (by rw [aK c4];exact hargv.len) (nD hle l3 (Co hargv)))
     have hargs' : (c.args.toList.map a.eval ++ cb).toArray=c.args.map a.eval ++ cb.toArray:=by
      apply Array.ext'
      simp
     rw [hargs'] at hcs
     refine xP hfn ho hf hx hcs ?_
     rintro e w' ⟨v,G',rfl,rfl,hb',hh',hm',hrv,hasv⟩
     refine⟨v,rfl,hK _ _ ?_⟩
     have m4:kD ⟨bP (names (bS seen args h0 p.h vs p.as) (bR u) p.h),G'.h,h1,kept (bP (names (bS seen args h0 p.h vs p.as) (bR u) p.h)) h1,false⟩ h1:=by rw [hh'];exact m4
     have m2:iQ ⟨bP (names (bS seen args h0 p.h vs p.as) (bR u) p.h),G'.h,h1,kept (bP (names (bS seen args h0 p.h vs p.as) (bR u) p.h)) h1,false⟩ (fO p.r) (fO r):=by rw [hh'];exact m2
     obtain⟨hle2,hmt⟩:=gV (G:=G') (fr:=false) (bs':=G'.bs) hm' m1 m4 rfl (.inl ⟨rfl,trivial⟩)
     have hrt:=vi hle2 (vl hr1) m2 hrv
     have hroot:∀ n k k',ak st.heap n=some k→ak h1 n=some k'→match k,k' with
       |.cells _ _,.cells _ _=>eJ (bP (names (bS seen args h0 p.h vs p.as) (bR u) p.h)) G'.o n=ν n
       |.row _ c,.row _ c'=>eJ (bP (names (bS seen args h0 p.h vs p.as) (bR u) p.h)) G'.o n=ν n∧c'.sz=c.sz∧c'.n=c.n
       |.mp _,.mp _=>eJ (bP (names (bS seen args h0 p.h vs p.as) (bR u) p.h)) G'.o n=ν n
       |_,_=>False:=by
      intro n k k' hk hk'
      obtain⟨i,b,_,q1,q2,q3⟩:=iz hh1 n k' hk'
      have q4:=fB q1
      have hro:look (bS seen args h0 p.h vs p.as) i=some n:=by
       rcases pE q4 with q|q
       ·exact q
       ·have:=jE c1 i n q4 q
        rw [hk] at this
        cases this
      have hcmp:=pX hcomp i n n q4 hro
      rw [hk,q2] at hcmp
      have hback:look (bP (names (bS seen args h0 p.h vs p.as) (bR u) p.h)) n=some i:=fV (List.all_eq_true.1 c3 (i,n) q4)
      have hoeq:eJ (bP (names (bS seen args h0 p.h vs p.as) (bR u) p.h)) G'.o n=G'.o i:=by unfold eJ;rw [hback]
      have hkk:fR ⟨bP (names (bS seen args h0 p.h vs p.as) (bR u) p.h),G'.h,h1,kept (bP (names (bS seen args h0 p.h vs p.as) (bR u) p.h)) h1,false⟩ b k':=by
       rcases mu m4 n k' hk' with ⟨i2,b0,z1,z2,z3⟩ | ⟨_,z2⟩
       ·have z1:look (bP (names (bS seen args h0 p.h vs p.as) (bR u) p.h)) n=some i2:=z1
        rw [hback] at z1
        cases z1
        have z2:ak G'.h i=some b0:=z2
        rw [hh',q2] at z2
        cases z2
        exact z3
       ·have z2:look (bP (names (bS seen args h0 p.h vs p.as) (bR u) p.h)) n=none:=z2
        rw [hback] at z2
        cases z2
      have hq2' : ak G'.h i=some b:=by rw [hh'];exact q2
      have hsame:(match k,b with
        |.cells _ _,.cells _ _=>True
        |.row _ _,.row _ _=>True
        |.mp _,.mp _=>True
        |_,_=>False)→G'.o i=ν n:=by
       intro hkinds
       have hkeepc:∀ b j u,cellAt (gg bs st ν w) b j u→G'.w.cell? ⟨b,j,none⟩=some u:=fun b j u hcu=>by
        have h9:=hm'.pe b j (by rw [hb'];exact hcu.ok.lt) (by rw [hb'];exact hcu.ok)
        rw [h9,hb']
        exact hcu.cell
       rcases List.mem_append.1 (fB hro) with hro|hro
       rotate_left
       ·obtain⟨⟨i3,j3⟩,hj3,he3⟩:=List.mem_filterMap.1 hro
        simp only at he3
        split at he3
        ·rename_i hr3 hs3
         cases he3
         have hlen3:(c.args.toList.map a.eval ++ cb).length=vs.length:=hargv.len.symm
         have hz:=EH hasv i j3 (by rw [hlen3];exact hj3)
         rw [Bool.and_eq_true] at hr3
         refine (hz (by rw [hh'];exact hr3.2) hr3.1).trans ?_
         ·show eJ (bP (bM 0 seen)) ν j3=ν n
          unfold eJ
          have:=pS seen 0 j3
          rw [Nat.zero_add] at this
          rw [this,hs3]
        ·cases he3
       rcases Az hkeepc hargv hasv hrps i n hro with ⟨off,v0,z1,z2⟩ | ⟨v0,z1,z2⟩ | ⟨v0,z1,z2⟩ | ⟨x9,j9,v0,z1,z2⟩
       ·unfold bF at z1 z2
        have hk' : ak (gg bs st ν w).h n=some k:=hk
        rw [hk'] at z1
        rw [hq2'] at z2
        cases k <;> cases b <;> first|exact hkinds.elim|exact z1.elim|skip
        all_goals
         obtain⟨g1,y1,y2⟩:=z1
         obtain⟨g2,y3,y4⟩:=z2
         rw [y2] at y4
         cases y4
         exact y3.trans y1.symm
       ·unfold bu at z1 z2
        have hk' : ak (gg bs st ν w).h n=some k:=hk
        rw [hk'] at z1
        rw [hq2'] at z2
        cases k <;> cases b <;> first|exact hkinds.elim|exact z1.elim|skip
        rcases z1 with ⟨_,y1,A1,y2⟩ | ⟨g1,o1,cap1,_,_,y1,y2,_,_,_,_,y5⟩ <;> rcases z2 with ⟨_,y3,A2,y4⟩ | ⟨g2,o2,cap2,_,_,y3,y4,_,_,_,_,y6⟩ <;> rw [y2] at y4
        ·exact y3.trans y1.symm
        ·have:=(Value.slice.inj y4).2.2
         omega
        ·have:=(Value.slice.inj y4).2.2
         omega
        ·simp only [Value.slice.injEq,Option.some.injEq,Addr.mk.injEq] at y4
         rw [y3,← y4.1.1,← y4.1.2.1]
         exact y1.symm
       ·unfold kZ at z1 z2
        have hk' : ak (gg bs st ν w).h n=some k:=hk
        rw [hk'] at z1
        rw [hq2'] at z2
        cases k <;> cases b <;> first|exact hkinds.elim|exact z1.elim|skip
        obtain⟨g1,y1,y2⟩:=z1
        obtain⟨g2,y3,y4⟩:=z2
        rw [y2] at y4
        cases y4
        exact y3.trans y1.symm
       ·unfold fA at z1 z2
        have hk' : ak (gg bs st ν w).h n=some k:=hk
        rw [hk'] at z1
        rw [hq2'] at z2
        cases k <;> cases b <;> first|exact hkinds.elim|exact z1.elim|skip
        obtain⟨g1,o1,y1,_,y2⟩:=z1
        obtain⟨g2,o2,y3,_,y4⟩:=z2
        rw [y2,hcmp.2] at y4
        simp only [Value.pointer.injEq,Option.some.injEq,Addr.mk.injEq] at y4
        have e9:o2=o1:=by omega
        have y1:ν n=some (g1,o1):=y1
        rw [y3,y1,e9,y4.1]
      cases k with
      |cells t0 c0=>cases b with
       |cells t c=>cases k' with
        |cells t' c'=>exact hoeq.trans (hsame trivial)
        |_=>exact hkk.elim
       |_=>exact hcmp.elim
      |row t0 c0=>cases b with
       |row t c=>cases k' with
        |row t' c' =>
         have e:=fT hkk.2
         subst e
         refine⟨hoeq.trans (hsame trivial),hcmp.2,?_⟩
         have:=hcmp.1
         rw [Ct.cU,Ct.cU] at this
         exact_mod_cast this
        |_=>exact hkk.elim
       |_=>exact hcmp.elim
      |mp c0=>cases b with
       |mp c=>cases k' with
        |mp c'=>exact hoeq.trans (hsame trivial)
        |_=>exact hkk.elim
       |_=>exact hcmp.elim
      |_=>cases b <;> exact hcmp.elim
     obtain⟨hx,hmm,hxt⟩:=zP (G:=gg bs st ν w) hr.mem (S:=fun k=>k∈kept (bP (bM 0 seen)) h0) hmt (by show G'.bs=_;rw [hb'];rfl) (h'':=aH st.heap (fG (h1.map (·.1)) seen ++ h1)) (D:=fun n=>n∈seen∧lO n (h1.map (·.1))=false)
      (fun n b hb=>by
       have hb:ak h1 n=some b:=hb
       rw [eT,dA c2,hb])
      (fun n hn hd=>by
       have hn:ak h1 n=none:=hn
       rw [eT,dA c2,hn]
       simp only
       rw [fz,if_pos hd])
      (fun n hn hd=>by
       have hn:ak h1 n=none:=hn
       rw [eT,dA c2,hn]
       simp only
       rw [fz,if_neg hd]
       rfl)
      (fun n hS hn=>by
       refine⟨jR hS,?_⟩
       cases hq:lO n (h1.map (·.1)) with
       |false=>rfl
       |true =>
        have hn:ak h1 n=none:=hn
        have hmem:=sD.1 hq
        exfalso
        exact Hl hmem hn)
      hroot rfl
     have plain:gh bs st ν w ⟨True,⟨none,r⟩,fG (h1.map (·.1)) seen ++ h1⟩ v G'.w:=⟨_,hx,SV.is.ext hxt hrt,hmm⟩
     show ∃ ν',_∧_∧_
     dsimp only
     split
     ·rename_i hchk2
      simp only [Bool.and_eq_true] at hchk2
      obtain⟨k1,k2,k3⟩:=hchk2
      have hkeep:p.h=h0:=hkp k1 args h0 p hp
      obtain⟨x2,m2'⟩:=KM (Gn:=⟨_,_,_,_⟩) hmm (h:=st.heap) (fun n=>by
       show Alike (ak st.heap n) (ak (aH st.heap (fG (h1.map (·.1)) seen ++ h1)) n)
       rw [eT,dA c2]
       have hback:∀ n i n',look (bM 0 seen) n=some i→look (names (bS seen args h0 p.h vs p.as) (bR u) p.h) i=some n'→n' = n:=by
        intro n i n' z1 z2
        have z3:=fV (List.all_eq_true.1 k2 (i,n') (fB z2))
        exact nN (fB z3) (fB z1)
       cases hq:ak h1 n with
       |some b' =>
        simp only
        obtain⟨i,b,_,q1,q2,q3⟩:=iz hh1 n b' hq
        rw [hkeep] at q2
        obtain⟨n2,b2,_,q4,q5,q6⟩:=iz hh0 i b q2
        have:=hback n2 i n q4 q1
        subst this
        rw [q5]
        exact Gq hback q6 q3
       |none =>
        simp only
        rw [fz]
        split
        ·rename_i hd
         have:=List.all_eq_true.1 k3 n hd.1
         rw [hd.2] at this
         cases this
        ·exact .inl rfl)
      exact⟨_,Ext.trans hx x2,SV.is.ext x2 (SV.is.ext hxt hrt),m2'⟩
     ·exact plain
    ·cases h
   ·cases h
  ·cases h
 ·cases h
theorem vT {x y:SC} {v:Value} {ids:List Nat} (h:me G.h x=some y) (hv:x.is G v) (hids:∀ n∈bq x,n∈ids) {Gf Gc:Gm} (hx:Ext G Gf) (hh:Gf.h=aH G.h (rowsOf G.h ids)) (hs:Sub Gf Gc):y.is Gc v:=by
 unfold me at h
 split at h
 ·cases h
 ·cases h
 ·cases h
 ·cases h
 ·cases h
 ·cases h
 ·cases h
 ·rename_i n
  have key:∀ c,kb G.h (.own n)=some c→(SC.sl none c).is Gc v:=fun c hc=>⟨Ct.is.sub hs (wg (x:=.own n) hc hv hids hx hh),trivial⟩
  split at h
  ·rename_i hk
   cases h
   exact key _ (by simp [kb,hk])
  ·rename_i hk
   cases h
   exact key _ (by simp [kb,hk])
  ·cases h
 ·cases h
  exact⟨Ct.is.sub (hx.toSub.trans hs) hv.1,trivial⟩
 ·cases h
  have hv2:=Pa hv
  have key:∀ c:SC,(∀ n o,c≠.ptr n o)→(∀ n i j,c≠.rp n i j)→(∀ n,c≠.own n)→(∀ tk ct,c≠.sl tk ct)→(∀ g n,c≠.fn g n)→(∀ n,c≠.mp n)→(∀ n o,c≠.qg n o)→(∀ g n o,c≠.xK g n o)→(∀ n l,c≠.vw n l)→c.is G v→c.is Gc v:=by
   intro c h1 h2 h3 h4 h5 h6 h7 h8 h9 hc
   cases c with
   |qg n o=>exact absurd rfl (h7 n o)
   |xK g n o=>exact absurd rfl (h8 g n o)
   |vw n l=>exact absurd rfl (h9 n l)
   |fn g n=>exact absurd rfl (h5 g n)
   |mp n=>exact absurd rfl (h6 n)
   |ptr n o=>exact absurd rfl (h1 n o)
   |rp n i j=>exact absurd rfl (h2 n i j)
   |own n=>exact absurd rfl (h3 n)
   |sl tk ct=>exact absurd rfl (h4 tk ct)
   |Qc k n =>
    obtain⟨b,o,e,hc⟩:=hc
    exact⟨b,o,e,hc.sub (hx.toSub.trans hs)⟩
   |Gy s x j =>
    obtain⟨b,o,us,e,hc,hcs⟩:=hc
    exact⟨b,o,us,e,hc.sub (hx.toSub.trans hs),fun i u hu=>(hcs i u hu).sub (hx.toSub.trans hs)⟩
   |_=>exact hc
  refine key _ ?_ ?_ ?_ ?_ ?_ ?_ ?_ ?_ ?_ hv2
  all_goals
   intros
   unfold SC.tG
   split <;> simp_all
theorem sW {ids:List Nat} {Gf Gc:Gm} (hx:Ext G Gf) (hh:Gf.h=aH G.h (rowsOf G.h ids)) (hs:Sub Gf Gc):∀ {xs ys:List SC} {vs:List Value},iO G.h xs=some ys→aM G xs vs→(∀ n∈xs.flatMap bq,n∈ids)→aM Gc ys vs
 |[],ys,[],h,_,_=>by cases h;trivial
 |[],_,_ :: _,_,hv,_=>hv.elim
 |_ :: _,_,[],_,hv,_=>hv.elim
 |x :: xs,ys,v :: vs,h,⟨⟨h1,h2⟩,h3⟩,hids=>by
  unfold iO at h
  split at h
  ·rename_i y ys' e1 e2
   cases h
   exact⟨⟨vT e1 h1 (fun n hn=>hids n (by simp [hn])) hx hh hs,h2⟩,sW hx hh hs e2 h3 fun n hn=>hids n (by simp only [List.flatMap_cons,List.mem_append];exact .inr hn)⟩
  ·cases h
theorem Gw {x y:SA} {v:Value} {ids:List Nat} (h:jX G.h x=some y) (hv:x.is G v) (hids:∀ n∈ba x,n∈ids) {Gf Gc:Gm} (hx:Ext G Gf) (hh:Gf.h=aH G.h (rowsOf G.h ids)) (hs:Sub Gf Gc):y.is Gc v:=by
 cases x with
 |one c =>
  simp only [jX] at h
  split at h
  ·rename_i z hz
   cases h
   exact vT hz hv hids hx hh hs
  ·cases h
 |agg cs =>
  simp only [jX] at h
  split at h
  ·rename_i z hz
   cases h
   obtain⟨vs,e,hc⟩:=hv
   exact⟨vs,e,sW hx hh hs hz hc hids⟩
  ·cases h
 |dZ c =>
  cases h
  obtain⟨vs,e,hc,h1⟩:=hv
  exact⟨vs,e,hc.sub (hx.toSub.trans hs),h1⟩
theorem rT {ids:List Nat} {Gf Gc:Gm} (hx:Ext G Gf) (hh:Gf.h=aH G.h (rowsOf G.h ids)) (hs:Sub Gf Gc):∀ {xs ys:List SA} {vs:List Value},fg G.h xs=some ys→bg G xs vs→(∀ n∈xs.flatMap ba,n∈ids)→bg Gc ys vs
 |[],ys,[],h,_,_=>by cases h;trivial
 |[],_,_ :: _,_,hv,_=>hv.elim
 |_ :: _,_,[],_,hv,_=>hv.elim
 |x :: xs,ys,v :: vs,h,⟨h1,h3⟩,hids=>by
  unfold fg at h
  split at h
  ·rename_i y ys' e1 e2
   cases h
   exact⟨Gw e1 h1 (fun n hn=>hids n (by simp [hn])) hx hh hs,rT hx hh hs e2 h3 fun n hn=>hids n (by simp only [List.flatMap_cons,List.mem_append];exact .inr hn)⟩
  ·cases h
theorem Ax {c:SC} {v:Value} (hp:DW c=true) (h:c.is G v):c.is G' v:=by
 cases c <;> first|exact h|cases hp
theorem vj:∀ {cs:List SC} {vs:List Value},cs.all DW=true→aM G cs vs→aM G' cs vs
 |[],[],_,_=>trivial
 |[],_ :: _,_,h=>h.elim
 |_ :: _,[],_,h=>h.elim
 |_ :: _,_ :: _,hp,⟨⟨a,b⟩,c⟩=>by
  simp only [List.all_cons,Bool.and_eq_true] at hp
  exact⟨⟨Ax hp.1 a,b⟩,vj hp.2 c⟩
theorem zx {x:SA} {v:Value} (hp:Em x=true) (h:x.is G v):x.is G' v:=by
 cases x with
 |one c=>exact Ax hp h
 |agg cs =>
  obtain⟨vs,e,hc⟩:=h
  exact⟨vs,e,vj hp hc⟩
 |dZ c=>cases hp
theorem vO:∀ {xs:List SA} {vs:List Value},xs.all Em=true→bg G xs vs→bg G' xs vs
 |[],[],_,_=>trivial
 |[],_ :: _,_,h=>h.elim
 |_ :: _,[],_,h=>h.elim
 |_ :: _,_ :: _,hp,⟨a,c⟩=>by
  simp only [List.all_cons,Bool.and_eq_true] at hp
  exact⟨zx hp.1 a,vO hp.2 c⟩
theorem JR {r:SV} {v:Value} (hp:Rl r=true) (h:r.is G v):r.is G' v:=by
 cases r with
 |sa x=>exact zx hp h
 |bJ xs =>
  obtain⟨vs,e,hc⟩:=h
  exact⟨vs,e,vO hp hc⟩
theorem JU (hc:cz P cx) (hr:dq bs gv st ν a w) {o:Oper} {c:Call} {f:FuncId} {u:Nat} (ho:o.op = .call c) {x:Operand} (hf:c.callee = .value x) (hx:Yd (aF st x)=some f) (hg:need (aF st x).g) {bE:aZ} (hf6:dM f 999999=true) (hcon:look cx.fs f=some bE) {vs:List SA} (hv:AS (c.args.toList.map (aF st))=some vs)
  {E:cA} (h:fq st.heap u bE (dW (c.args.toList.map (aF st))) vs=some E) (hs:E.side) {K:Act→World→Prop} {Q:Exit→Act→World→Prop} (hK:∀ v w',gh bs st ν w E v w'→K (a.put o.dst v) w'):o.wp P a w K Q:=by
 obtain⟨hfn,hcall⟩:=hc.fs f bE hf6 hcon
 unfold fq at h
 simp only at h
 split at h
 ·rename_i args hargs
  split at h
  ·rename_i p hp
   split at h
   ·rename_i r h1 hr1 hh1
    split at h
    ·rename_i hchk
     simp only [Bool.and_eq_true] at hchk
     obtain⟨c1,c2,c3⟩:=hchk
     obtain⟨νf,xf,mf⟩:=AD (G:=gg bs st ν w) hr.mem (vs.flatMap ba)
     have mf:Mem ⟨νf,aH st.heap (rowsOf st.heap (vs.flatMap ba)),bs,w⟩:=mf
     obtain⟨hle,hmc⟩:=gV (m:=[]) (h':=[]) (fr:=false) (Gn:=⟨eJ [] νf,[],⟨w,Gm.ok ⟨νf,aH st.heap (rowsOf st.heap (vs.flatMap ba)),bs,w⟩,fun g=>∃ k q,k∈kept [] []∧alive (aH st.heap (rowsOf st.heap (vs.flatMap ba))) k∧νf k=some (g,q)⟩,w⟩) mf rfl trivial rfl (.inr ⟨rfl,rfl⟩)
     have call:dW (c.args.toList.map (aF st))→p.C→Calls P f (c.args.map a.eval) w fun e w'=>∃ v G',e = .returned v∧G'.w=w'∧G'.bs=⟨w,Gm.ok ⟨νf,aH st.heap (rowsOf st.heap (vs.flatMap ba)),bs,w⟩,fun g=>∃ k q,k∈kept [] []∧alive (aH st.heap (rowsOf st.heap (vs.flatMap ba))) k∧νf k=some (g,q)⟩∧G'.h=p.h∧Mem G'∧p.r.is G' v:=by
      intro n1 hC
      have hargv:=hG hr hv n1
      have hcs:=hcall args [] p hp hC _ (c.args.toList.map a.eval) rfl rfl hmc (rT (G:=gg bs st ν w) xf rfl hle.sub hargs hargv fun n hn=>hn)
      have hargs' : (c.args.toList.map a.eval).toArray=c.args.map a.eval:=by
       apply Array.ext'
       simp
      rw [hargs'] at hcs
      refine hcs.mono ?_
      rintro e w' ⟨v,G',q1,q2,q3,q4,q5,q6,_⟩
      exact⟨v,G',q1,q2,q3,q4,q5,q6⟩
     split at h
     ·rename_i hpu
      simp only [Bool.and_eq_true] at hpu
      cases h
      refine xP hfn ho hf (Cb hr hx hg) (call hs.1 hs.2) ?_
      rintro e w' ⟨v,G',rfl,rfl,hb',hh',hm',hrv⟩
      have hW:G'.bs.W=w:=by rw [hb']
      have hbelow:Below w.heap.size w G'.w:=by
       refine⟨?_,?_,?_,?_,fun k hk=>?_⟩
       ·have:=hm'.os;rwa [hW] at this
       ·have:=hm'.tape;rwa [hW] at this
       ·have:=hm'.output;rwa [hW] at this
       ·have:=hm'.size;rwa [hW] at this
       ·have:=hm'.block k (by rw [hW];exact hk) (by
         rw [hb']
         rintro⟨_,_,h,_⟩
         cases h)
        rwa [hW] at this
      obtain⟨hx,hmm⟩:=oQ (G:=gg bs st ν w) hr.mem hbelow
      exact⟨v,rfl,hK _ _ ⟨ν,hx,JR hpu.1 hrv,hmm⟩⟩
     ·cases h
      obtain⟨n1,hC,m1,m2,_,m4⟩:=hs
      refine xP hfn ho hf (Cb hr hx hg) (call n1 hC) ?_
      rintro e w' ⟨v,G',rfl,rfl,hb',hh',hm',hrv⟩
      refine⟨v,rfl,hK _ _ ?_⟩
      have m4:kD ⟨bP (names [] (bR u) p.h),G'.h,h1,kept (bP (names [] (bR u) p.h)) h1,false⟩ h1:=by rw [hh'];exact m4
      have m2:iQ ⟨bP (names [] (bR u) p.h),G'.h,h1,kept (bP (names [] (bR u) p.h)) h1,false⟩ (fO p.r) (fO r):=by rw [hh'];exact m2
      obtain⟨hle2,hmt⟩:=gV (G:=G') (fr:=false) (bs':=G'.bs) hm' m1 m4 rfl (.inl ⟨rfl,trivial⟩)
      have hrt:=vi hle2 (vl hr1) m2 hrv
      have hnew:∀ n b,ak h1 n=some b→ak st.heap n=none:=by
       intro n b hb
       obtain⟨i,b0,_,q1,q2,q3⟩:=iz hh1 n b hb
       exact jE c1 i n (fB q1) rfl
      have hrowsn:∀ {l:H},(∀ q∈l,ak st.heap q.1≠none)→∀ {h:H} {n:Nat},ak st.heap n=none→ak (aH h l) n=ak h n:=by
       intro l
       induction l with
       |nil=>intro _ h n _;rfl
       |cons q l ih =>
        intro hq h n hn
        show ak (aH (aS h q.1 q.2) l) n=_
        rw [ih (fun r hr=>hq r (List.mem_cons_of_mem _ hr)) hn,aL _ _ (fun e=>hq q (List.mem_cons_self ..) (by rw [e];exact hn))]
      have hrn:∀ n,ak st.heap n=none→ak (aH st.heap (rowsOf st.heap (vs.flatMap ba))) n=none:=by
       intro n hn
       rw [hrowsn (fun q hq=>by
        obtain⟨c0,t0,_,e2⟩:=dX q hq
        rw [e2]
        simp) hn]
       exact hn
      obtain⟨hx,hmm,hxt⟩:=zP (G:=⟨νf,aH st.heap (rowsOf st.heap (vs.flatMap ba)),bs,w⟩) mf (S:=fun k=>k∈kept [] []) hmt (by show G'.bs=_;rw [hb']) (h'':=aH st.heap (rowsOf st.heap (vs.flatMap ba) ++ h1)) (D:=fun _=>False)
       (fun n b hb=>by
        have hb:ak h1 n=some b:=hb
        rw [eT,dA c2,hb])
       (fun n hn hd=>hd.elim)
       (fun n hn hd=>by
        have hn:ak h1 n=none:=hn
        rw [eT,dA c2,hn])
       (fun n hS hn=>by cases hS)
       (fun n k k' hk hk'=>by
        have:=hrn n (hnew n k' hk')
        rw [this] at hk
        cases hk) rfl
      exact⟨_,xf.trans hx,SV.is.ext hxt hrt,hmm⟩
    ·cases h
   ·cases h
  ·cases h
 ·cases h
theorem Bm (hc:cz P cx) (hr:dq bs gv st ν a w) {o:Oper} {u:Nat} {E:cA} (h:dC Ar.U cx st u o.op=some E) (hs:E.side) {K:Act→World→Prop} {Q:Exit→Act→World→Prop}
  (hK:∀ v w',gh bs st ν w E v w'→K (a.put o.dst v) w'):o.wp P a w K Q:=by
 cases ho:o.op with
 |move x=>rw [ho] at h;simp only [dC] at h;cases h;exact (Eu hr (.inl ho)).wp hK
 |assign x=>rw [ho] at h;simp only [dC] at h;cases h;exact (Eu hr (.inr ho)).wp hK
 |pick c x y=>rw [ho] at h;exact (Ph hr ho h hs).wp hK
 |binOp op t x y t'=>rw [ho] at h;exact (UD hc hr ho h hs).wp hK
 |unOp op t x=>rw [ho] at h;exact (WO hr ho h hs).wp hK
 |convert t u' x=>rw [ho] at h;exact (OS hc hr ho h hs).wp hK
 |nilCheck x=>rw [ho] at h;exact (TU hr ho h hs).wp hK
 |alloc t=>rw [ho] at h;exact (Je hc hr ho h hs).wp hK
 |box t x =>
  rw [ho] at h
  simp only [dC] at h
  split at h
  ·exact (Oj hr ho h hs).wp hK
  ·exact (Uk hr ho h hs).wp hK
 |load t x=>rw [ho] at h;exact (NJ hc hr ho h hs).wp hK
 |store t x y=>rw [ho] at h;exact (Kj hc hr ho h hs).wp hK
 |fieldAddr t x f=>rw [ho] at h;exact (xm hc hr ho h hs).wp hK
 |field t x f=>rw [ho] at h;exact (Jm hc hr ho h hs).wp hK
 |build t ps=>rw [ho] at h;exact (Im hc hr ho h hs).wp hK
 |buildSlice t n ps=>rw [ho] at h;exact (uu hc hr ho h hs).wp hK
 |makeSlice t l c=>rw [ho] at h;exact (Oq hc hr ho h hs).wp hK
 |indexAddr t x y=>rw [ho] at h;exact (yx hc hr ho h hs).wp hK
 |index t x y=>rw [ho] at h;exact (Jy hc hr ho h hs).wp hK
 |slice t x lo hi mx =>
  rw [ho] at h
  simp only [dC] at h
  split at h
  ·split at h
   ·exact (NF hc hr ho h hs).wp hK
   ·exact (MD hc hr ho h hs).wp hK
  ·split at h
   ·exact (OK hc hr ho h hs).wp hK
   ·exact (HY hc hr ho h hs).wp hK
 |extract x i=>rw [ho] at h;exact (Ba hr ho h hs).wp hK
 |makeMap t hint=>rw [ho] at h;exact (JN hr ho h).wp hK
 |lookup t m x k=>rw [ho] at h;exact (look_ok hc hr ho h hs).wp hK
 |mapUpdate t m x y=>rw [ho] at h;exact (RP hc hr ho h hs).wp hK
 |makeFunc f first cap =>
  rw [ho] at h
  simp only [dC] at h
  exact (Gg hr ho h hs).wp hK
 |call c =>
  rw [ho] at h
  simp only [dC] at h
  unfold rA at h
  split at h
  ·rename_i x hf
   split at h
   ·rename_i f hx
    split at h
    ·rename_i bE vs hf6 hcon hv
     have hg:=(CQ.1 (zK h hs)).1
     rw [RY hg] at h
     unfold gX at h
     split at h
     ·rename_i E' hE
      cases h
      refine DU (cb:=[]) hc hr ho hf (Cb hr hx hg) hf6 hcon (fun hk=>?_) (fun n1=>by rw [List.append_nil];exact hG hr hv n1) hE hs hK
      split at hk
      ·rename_i q hq
       exact hc.kp f bE hf6 ⟨q,hq⟩ hcon
      ·cases hk
     ·exact JU hc hr ho hf hx hg hf6 hcon hv h hs hK
    ·cases h
   ·split at h
    ·rename_i f n hx
     split at h
     ·rename_i bE vs hf6 hcon hv
      obtain⟨A,hA,hp⟩:=Th hr hx
      have hz:bg (gg bs st ν w) [.one n] [A]:=⟨hp,trivial⟩
      refine DU (cb:=[A]) (vs:=vs ++ [.one n]) hc hr ho hf hA hf6 hcon (fun hk=>?_) (fun n1=>pH (hG hr hv n1) hz) h hs hK
      split at hk
      ·rename_i q hq
       exact hc.kp f bE hf6 ⟨q,hq⟩ hcon
      ·cases hk
     ·cases h
    ·cases h
  ·rename_i hf
   split at h
   ·rename_i t x ht hv
    exact (Uy hc hr ho hf ht hv h hs).wp hK
   ·cases h
  ·rename_i hf
   split at h
   ·rename_i t t' x y ht hv
    split at h
    ·rename_i g0 q e0 sz0 n0 zz bb ff hl0
     split at h
     ·rename_i n hq
      exact (Of hc hr ho hf ht hv rfl hl0 hq h hs).wp hK
     ·split at h
      ·rename_i n c1 hq
       exact (Pz hc hr ho hf ht hv rfl hl0 hq h hs).wp hK
      ·split at h
       ·exact (PZ hc hr ho hf ht hv h hs).wp hK
       ·exact (TC hc hr ho hf ht hv h hs).wp hK
    ·cases h
   ·cases h
  ·rename_i hf
   split at h
   ·rename_i t ts x y ht hv
    exact (OG hc hr ho hf ht hv h hs).wp hK
   ·cases h
  ·rename_i hf
   split at h
   ·rename_i t x ht hv
    exact (Ho hc hr ho hf ht hv h hs).wp hK
   ·cases h
  ·rename_i hf
   split at h
   ·rename_i x l hv
    split at h
    ·rename_i k m hx
     split at h
     ·rename_i n hn
      refine cB.wp (bw hr.mem h (v:=.int k n) (fun hs=>?_) (fun hs=>rfl) hs) hK
      cases h
      have hvs:=hG hr hv hs
      generalize hu:c.args.toList.map a.eval=us at hvs
      cases us with
      |nil=>exact hvs.elim
      |cons u us =>
       obtain⟨h1,h2⟩:=hvs
       have e:=aW hx h1
       subst e
       have:=Lc (P:=P) (w:=w) hn h2
       simp [execOp,ho,resolve,hf,invoke,builtin,Builtin.min_,hu,this]
     ·cases h
    ·cases h
   ·cases h
  ·rename_i hf
   split at h
   ·rename_i x l hv
    split at h
    ·rename_i k m hx
     split at h
     ·rename_i n hn
      refine cB.wp (bw hr.mem h (v:=.int k n) (fun hs=>?_) (fun hs=>rfl) hs) hK
      cases h
      have hvs:=hG hr hv hs
      generalize hu:c.args.toList.map a.eval=us at hvs
      cases us with
      |nil=>exact hvs.elim
      |cons u us =>
       obtain⟨h1,h2⟩:=hvs
       have e:=aW hx h1
       subst e
       have:=Kv (P:=P) (w:=w) hn h2
       simp [execOp,ho,resolve,hf,invoke,builtin,Builtin.max_,hu,this]
     ·cases h
    ·cases h
   ·cases h
  ·cases h
 |_=>rw [ho] at h;simp [dC] at h
end
end Go.Proofs.YtelhldgdnlppfaaGreat.Ry
