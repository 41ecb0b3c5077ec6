/-
  The reckoner's rules hold in the model: states that say less;calls of functions. No condition.
-/
import Derived.Test.YtakebkfhigadiaaGreatVnRyF
namespace Go.Proofs.YtakebkfhigadiaaGreat.Ry
open Go Go.RowKit
section
variable {P:Program} {cx:Cx} {bs:Bs} {gv:List Value} {st:St} {ν:Nat→Option (Nat × Nat)} {a:Act} {w:World} {G G' : Gm}
theorem pA {n:Nat} {l:List Nat}:kg n l=true↔n∈l:=by
 unfold kg
 rw [List.any_eq_true]
 constructor
 ·rintro⟨x,hx,e⟩
  rw [aL e]
  exact hx
 ·intro h
  exact⟨n,h,cJ n⟩
theorem eV {m:List (Nat × Nat)} {i k:Nat} (h:jM m i k=true):look m i=some k:=by
 unfold jM at h
 split at h
 ·rename_i n hn
  rw [hn,aL h]
 ·cases h
structure Dj (M:Mt) (G G' : Gm):Prop where
 sub:Sub G G'
 w:G'.w=G.w
 h:M.h=G.h
 h' : M.h' = G'.h
 mem:Mem G
 ids:∀ i k',ak G'.h i=some k'→(∃ k b0,look M.m i=some k∧ak G.h k=some b0∧eU M b0 k'∧G'.o i=G.o k)∨(rz k'∧look M.m i=none∧G'.o i=none)
 free:M.fr=true→∀ k,kg k M.ks=false→alive G.h k→∀ g m,G.o k=some (g,m)→∀ j,G'.ok g j
theorem eY {x y:Ct} (hl:qS x y):y=x:=by
 unfold qS at hl
 split at hl
 ·obtain⟨rfl,rfl⟩:=hl;rfl
 ·obtain⟨rfl,rfl⟩:=hl;rfl
 ·exact hl.elim
theorem zU {c:Ct} (h:c.sm):c.is G (.slice none 0 0):=by
 cases c with
 |ints k l=>have h:l=[]:=h;subst h;exact fX
 |ae s l=>have h:l=[]:=h;subst h;exact fX
theorem Gu {c:Ct} (h:c.sm):c.n=0:=by
 cases c with
 |ints k l=>have h:l=[]:=h;subst h;rfl
 |ae s l=>have h:l=[]:=h;subst h;rfl
theorem bu.le {M:Mt} (s:Dj M G G') {b b' o:Nat} {v:Value} (h1:jM M.m b' b=true) (h2:hasB M.h' b' = true) (hp:bu G b o v):bu G' b' o v:=by
 have h1:=eV h1
 unfold hasB at h2
 rw [s.h'] at h2
 unfold bu at hp ⊢
 have key:∀ k',ak G'.h b' = some k'→∃ b0,ak G.h b=some b0∧eU M b0 k'∧G'.o b' = G.o b:=by
  intro k' hk
  rcases s.ids b' k' hk with ⟨k,b0,q1,q2,q3,q4⟩ | ⟨_,q1,_⟩
  ·rw [h1] at q1
   cases q1
   exact⟨b0,q2,q3,q4⟩
  ·rw [h1] at q1
   cases q1
 split at h2
 ·rename_i t cs hk
  obtain⟨b0,q1,q2,q3⟩:=key _ hk
  rw [q1] at hp
  rw [hk]
  cases b0 with
  |cells t0 c0 =>
   obtain⟨g,g1,g2⟩:=hp
   exact⟨g,q3.trans g1,g2⟩
  |_=>exact q2.elim
 ·rename_i t c hk
  obtain⟨b0,q1,q2,q3⟩:=key _ hk
  rw [q1] at hp
  rw [hk]
  cases b0 with
  |row t0 c0 =>
   obtain⟨g,g1,g2⟩:=hp
   exact⟨g,q3.trans g1,g2⟩
  |_=>exact q2.elim
 ·cases h2
theorem gZ.le {M:Mt} (s:Dj M G G') {b b' o q:Nat} (h1:jM M.m b' b=true) (h2:hasB M.h' b' = true) (hp:gZ G b o q):gZ G' b' o q:=by
 obtain⟨A,e1,e2⟩:=hp
 exact⟨A,e1.sub s.sub,bu.le s h1 h2 e2⟩
theorem SC.fe {M:Mt} {x y:SC} {v:Value} (s:Dj M G G') (hl:x.le M y) (hv:x.is G v):y.is G' v:=by
 unfold SC.le at hl
 split at hl
 ·exact trivial
 ·subst hl;exact hv
 ·obtain⟨rfl,rfl⟩:=hl;exact hv
 ·obtain⟨rfl,rfl⟩:=hl;exact hv
 ·subst hl;exact hv
 ·subst hl;exact hv
 ·have hv:v = .slice none 0 0:=hv
  subst hv
  exact⟨zU hl,trivial⟩
 ·rename_i i e c
  obtain⟨h1,h2,h3⟩:=hl
  have hv:v = .slice none 0 0:=hv
  subst hv
  refine⟨zU h1,ky ?_ (.inl ⟨none,rfl⟩)⟩
  unfold iC at h3
  rw [s.h'] at h3
  split at h3
  ·assumption
  ·cases h3
 ·rename_i i
  obtain⟨h1,h2⟩:=hl
  have hv:v = .slice none 0 0:=hv
  subst hv
  refine⟨⟨none,0,0,rfl⟩,?_⟩
  unfold Nw at h2
  rw [s.h'] at h2
  unfold tW at h1
  split at h2
  ·rename_i t c hk
   unfold br
   rw [hk]
   rcases s.ids i _ hk with ⟨k,b0,q1,_⟩ | ⟨_,_,q3⟩
   ·rw [q1] at h1
    cases h1
   ·exact .inl ⟨Gu h2,q3,none,rfl⟩
  ·exact h2.elim
 ·rename_i b o b' o'
  obtain⟨h1,h2,rfl⟩:=hl
  obtain⟨hA,hp⟩:=hv
  refine⟨hA,?_⟩
  have h1:=eV h1
  unfold hasB at h2
  rw [s.h'] at h2
  unfold bu at hp ⊢
  have key:∀ k',ak G'.h b' = some k'→∃ b0,ak G.h b=some b0∧eU M b0 k'∧G'.o b' = G.o b:=by
   intro k' hk
   rcases s.ids b' k' hk with ⟨k,b0,q1,q2,q3,q4⟩ | ⟨_,q1,_⟩
   ·rw [h1] at q1
    cases q1
    exact⟨b0,q2,q3,q4⟩
   ·rw [h1] at q1
    cases q1
  split at h2
  ·rename_i t cs hk
   obtain⟨b0,q1,q2,q3⟩:=key _ hk
   rw [q1] at hp
   rw [hk]
   cases b0 with
   |cells t0 c0 =>
    obtain⟨g,g1,g2⟩:=hp
    exact⟨g,q3.trans g1,g2⟩
   |_=>exact q2.elim
  ·rename_i t c hk
   obtain⟨b0,q1,q2,q3⟩:=key _ hk
   rw [q1] at hp
   rw [hk]
   cases b0 with
   |row t0 c0 =>
    obtain⟨g,g1,g2⟩:=hp
    exact⟨g,q3.trans g1,g2⟩
   |_=>exact q2.elim
  ·cases h2
 ·rename_i g0 b g1 b'
  obtain⟨h1,h2,rfl⟩:=hl
  obtain⟨hA,hp⟩:=hv
  refine⟨hA,?_⟩
  have h1:=eV h1
  unfold hasB at h2
  rw [s.h'] at h2
  unfold qZ at hp ⊢
  have key:∀ k',ak G'.h b' = some k'→∃ b0,ak G.h b=some b0∧eU M b0 k'∧G'.o b' = G.o b:=by
   intro k' hk
   rcases s.ids b' k' hk with ⟨k,b0,q1,q2,q3,q4⟩ | ⟨_,q1,_⟩
   ·rw [h1] at q1
    cases q1
    exact⟨b0,q2,q3,q4⟩
   ·rw [h1] at q1
    cases q1
  split at h2
  ·rename_i t cs hk
   obtain⟨b0,q1,q2,q3⟩:=key _ hk
   rw [q1] at hp
   rw [hk]
   cases b0 with
   |cells t0 c0 =>
    obtain⟨g,g1,g2⟩:=hp
    exact⟨g,q3.trans g1,g2⟩
   |_=>exact q2.elim
  ·rename_i t c hk
   obtain⟨b0,q1,q2,q3⟩:=key _ hk
   rw [q1] at hp
   rw [hk]
   cases b0 with
   |row t0 c0 =>
    obtain⟨g,g1,g2⟩:=hp
    exact⟨g,q3.trans g1,g2⟩
   |_=>exact q2.elim
  ·cases h2
 ·rename_i b b'
  obtain⟨h1,h2⟩:=hl
  obtain⟨hA,hp⟩:=hv
  refine⟨hA,?_⟩
  have h1:=eV h1
  unfold dq at h2
  rw [s.h'] at h2
  unfold br at hp ⊢
  split at h2
  ·rename_i t c hk
   rcases s.ids b' _ hk with ⟨k,b0,q1,q2,q3,q4⟩ | ⟨_,q1,_⟩
   ·rw [h1] at q1
    cases q1
    rw [q2] at hp
    rw [hk]
    cases b0 with
    |row t0 c0 =>
     obtain⟨_,q3⟩:=q3
     have e:=eY q3
     subst e
     rcases hp with ⟨z0,z1,z2⟩ | ⟨g,off,cap,t9,k9,g1,g2,g3,g4,g5,g6⟩
     ·exact .inl ⟨z0,q4.trans z1,z2⟩
     ·exact .inr ⟨g,off,cap,t9,k9,q4.trans g1,g2,g3,g4,by rw [s.w];exact g5,g6⟩
    |_=>exact q3.elim
   ·rw [h1] at q1
    cases q1
  ·cases h2
 ·rename_i b b'
  obtain⟨h1,h2⟩:=hl
  obtain⟨hA,hp⟩:=hv
  refine⟨hA,?_⟩
  have h1:=eV h1
  unfold Sq at h2
  rw [s.h'] at h2
  unfold jP at hp ⊢
  split at h2
  ·rename_i c hk
   rcases s.ids b' _ hk with ⟨k,b0,q1,q2,q3,q4⟩ | ⟨_,q1,_⟩
   ·rw [h1] at q1
    cases q1
    rw [q2] at hp
    rw [hk]
    cases b0 with
    |mp c0 =>
     obtain⟨g,g1,g2⟩:=hp
     exact⟨g,q4.trans g1,g2⟩
    |_=>exact q3.elim
   ·rw [h1] at q1
    cases q1
  ·cases h2
 ·rename_i b i j b' i' j'
  obtain⟨h1,h2,rfl,rfl⟩:=hl
  obtain⟨hA,hp⟩:=hv
  refine⟨hA,?_⟩
  have h1:=eV h1
  unfold dq at h2
  rw [s.h'] at h2
  unfold eH at hp ⊢
  split at h2
  ·rename_i t c hk
   rcases s.ids b' _ hk with ⟨k,b0,q1,q2,q3,q4⟩ | ⟨_,q1,_⟩
   ·rw [h1] at q1
    cases q1
    rw [q2] at hp
    rw [hk]
    cases b0 with
    |row t0 c0 =>
     obtain⟨_,q3⟩:=q3
     have e:=eY q3
     subst e
     obtain⟨g,off,g1,g2⟩:=hp
     exact⟨g,off,q4.trans g1,g2⟩
    |_=>exact q3.elim
   ·rw [h1] at q1
    cases q1
  ·cases h2
 ·rename_i b o b' o'
  obtain⟨h1,h2,rfl⟩:=hl
  obtain⟨b9,e9,hp⟩:=hv
  exact⟨b9,e9,gZ.le s h1 h2 hp⟩
 ·rename_i g0 b o g1 b' o'
  obtain⟨h1,h2,rfl,rfl⟩:=hl
  obtain⟨b9,e9,hp⟩:=hv
  exact⟨b9,e9,gZ.le s h1 h2 hp⟩
 ·rename_i g0 b c g1 b' c'
  obtain⟨h1,h2,h3,h4,rfl⟩:=hl
  obtain⟨p,q,e,p1,p2⟩:=hv
  exact⟨p,q,e,⟨p1.1,bu.le s h1 h2 p1.2⟩,p2.1,bu.le s h3 h4 p2.2⟩
 ·rename_i b c
  obtain⟨hA,hp⟩:=hv
  unfold br at hp
  rw [s.h] at hl
  split at hl
  ·rename_i t c0 hk
   obtain⟨h1,h2⟩:=hl
   simp only [Bool.and_eq_true,Bool.not_eq_true'] at h1
   have e:=eY h2
   subst e
   rw [hk] at hp
   rcases hp with ⟨z0,_,A0,rfl⟩ | ⟨g,off,cap,_,_,g1,rfl,g3,g4,_⟩
   ·exact⟨po z0,trivial⟩
   obtain⟨pre,vs,rest,h0,e2,e3,e4⟩:=s.mem.rowAt hk g1
   subst h0
   refine⟨dW (e3.sub s.sub) (fun j u hu=>⟨s.free h1.1 b h1.2 ⟨_,hk,rfl⟩ g _ g1 _,?_,e4 u (List.mem_of_getElem? hu)⟩) g3 g4,trivial⟩
   rw [s.w]
   exact ll e2 hu
  ·rename_i c0 hk
   have e:=eY hl
   subst e
   rw [hk] at hp
   exact⟨Ct.is.sub s.sub hp,trivial⟩
  ·exact hl.elim
 ·subst hl;exact hv
 ·rename_i b e c b' e' c'
  obtain⟨⟨h1,h2,rfl⟩,h3⟩:=hl
  have h1:=eV h1
  have ec:=eY h3
  subst ec
  obtain⟨k1,k2⟩:=hv
  refine⟨Ct.is.sub s.sub k1,?_⟩
  unfold iC at h2
  rw [s.h'] at h2
  split at h2
  ·rename_i hk
   refine ky hk ?_
   rcases s.ids b' _ hk with ⟨k,b0,q1,q2,q3,q4⟩ | ⟨_,q2,_⟩
   ·rw [h1] at q1
    cases q1
    cases b0 with
    |tok =>
     unfold fo at k2
     simp only [q2] at k2
     rcases k2 with k2 | ⟨g,off,n,cap,cur,r1,r2,r3,r⟩
     ·exact .inl k2
     ·exact .inr ⟨g,off,n,cap,cur,r1,q4.trans r2,by rw [s.w];exact r3,r⟩
    |_=>exact q3.elim
   ·rw [h1] at q2
    cases q2
  ·cases h2
 ·have e:=eY hl
  subst e
  exact⟨Ct.is.sub s.sub hv.1,trivial⟩
 ·exact hl.elim
theorem kf {M:Mt} (s:Dj M G G'):∀ {xs ys:List SC} {vs:List Value},jC M xs ys→aO G xs vs→aO G' ys vs
 |[],[],[],_,_=>trivial
 |_ :: _,_ :: _,_ :: _,⟨a,b⟩,⟨⟨c,d⟩,e⟩=>⟨⟨SC.fe s a c,d⟩,kf s b e⟩
 |[],_ :: _,_,e,_=>e.elim
 |_ :: _,[],_,e,_=>e.elim
 |[],[],_ :: _,_,e=>e.elim
 |_ :: _,_ :: _,[],_,e=>e.elim
theorem SA.fe {M:Mt} {x y:SA} {v:Value} (s:Dj M G G') (hl:x.le M y) (hv:x.is G v):y.is G' v:=by
 unfold SA.le at hl
 split at hl
 ·exact trivial
 ·exact SC.fe s hl hv
 ·obtain⟨vs,e,hc⟩:=hv
  exact⟨vs,e,kf s hl hc⟩
 ·have e:=eY hl
  subst e
  obtain⟨vs,e,hc,h1⟩:=hv
  exact⟨vs,e,hc.sub s.sub,h1⟩
 ·exact hl.elim
theorem wB {M:Mt} (s:Dj M G G'):∀ {xs ys:List SA} {vs:List Value},Io M xs ys→bh G xs vs→bh G' ys vs
 |[],[],[],_,_=>trivial
 |_ :: _,_ :: _,_ :: _,⟨a,b⟩,⟨c,e⟩=>⟨SA.fe s a c,wB s b e⟩
 |[],_ :: _,_,e,_=>e.elim
 |_ :: _,[],_,e,_=>e.elim
 |[],[],_ :: _,_,e=>e.elim
 |_ :: _,_ :: _,[],_,e=>e.elim
theorem kZ {M:Mt} (s:Dj M G G'):∀ {xs ys:List SA} {vs:List Value},wL M xs ys→hN G xs vs→hN G' ys vs
 |_,[],_,_,_=>trivial
 |_ :: _,_ :: _,_ :: _,⟨a,b⟩,⟨c,e⟩=>⟨SA.fe s a c,kZ s b e⟩
 |[],_ :: _,_,e,_=>e.elim
 |_ :: _,_ :: _,[],_,e=>e.elim
theorem yQ:∀ {xs:List SA} {vs:List Value},bh G xs vs→hN G xs vs
 |[],_,_=>trivial
 |_ :: _,_ :: _,⟨a,b⟩=>⟨a,yQ b⟩
 |_ :: _,[],h=>h.elim
theorem ET:∀ {xs:List SA} {vs:List Value},xs.length=vs.length→hN G xs vs→bh G xs vs
 |[],[],_,_=>trivial
 |[],_ :: _,h,_=>by cases h
 |_ :: _,_ :: _,h,⟨a,b⟩=>⟨a,ET (by simpa using h) b⟩
 |_ :: _,[],_,h=>h.elim
theorem SV.fe {M:Mt} {x y:SV} {v:Value} (s:Dj M G G') (hl:x.le M y) (hv:x.is G v):y.is G' v:=by
 unfold SV.le at hl
 split at hl
 ·exact trivial
 ·exact SA.fe s hl hv
 ·obtain⟨vs,e,hc⟩:=hv
  exact⟨vs,e,wB s hl hc⟩
 ·exact hl.elim
theorem bz.fe {M:Mt} {x y:bz} {v:Value} (s:Dj M G G') (hl:x.le M y) (hv:x.is G v):y.is G' v:=by
 unfold bz.le at hl
 split at hl
 ·exact trivial
 ·exact SV.fe s hl hv
 ·exact hl.elim
theorem pS {M:Mt}:∀ {xs ys:List bz},gV M xs ys→∀ (t:Nat) (y:bz),ys[t]? = some y→∃ x,xs[t]? = some x∧x.le M y
 |[],[],_,t,y,h=>by simp at h
 |x :: xs,y :: ys,⟨a,b⟩,0,z,h=>by simp at h;subst h;exact⟨x,rfl,a⟩
 |x :: xs,y :: ys,⟨a,b⟩,t+1,z,h=>by
  obtain⟨x',h1,h2⟩:=pS b t z (by simpa using h)
  exact⟨x',by simpa using h1,h2⟩
 |[],_ :: _,e,_,_,_=>e.elim
 |_ :: _,[],e,_,_,_=>e.elim
theorem pM {M:Mt}:∀ {xs ys:List bz},gV M xs ys→xs.length=ys.length
 |[],[],_=>rfl
 |x :: xs,y :: ys,⟨_,b⟩=>by simp [pM b]
 |[],_ :: _,e=>e.elim
 |_ :: _,[],e=>e.elim
theorem kh {M:Mt}:∀ {h:H},iN M h→∀ i b,ak h i=some b→(∃ k b0,look M.m i=some k∧ak M.h k=some b0∧eU M b0 b)∨(rz b∧look M.m i=none)
 |[],_,i,b,h=>by cases h
 |(j,c) :: l,hl,i,b,h=>by
  simp only [ak] at h
  split at h
  ·rename_i hj
   have hj:=aL hj
   subst hj
   cases h
   have h1:=hl.1
   split at h1
   ·rename_i k hk
    split at h1
    ·rename_i b0 hb
     exact .inl ⟨k,b0,hk,hb,h1⟩
    ·exact h1.elim
   ·rename_i hk
    exact .inr ⟨h1,hk⟩
  ·exact kh hl.2 i b h
theorem pj {m:List (Nat × Nat)}:∀ {h:H} {i k:Nat} {b:dP},ak h i=some b→look m i=some k→k∈kept m h
 |[],i,k,b,h,_=>by cases h
 |(j,c) :: l,i,k,b,h,hk=>by
  simp only [ak] at h
  unfold kept
  split at h
  ·rename_i hj
   have hj:=aL hj
   subst hj
   simp only [hk]
   exact List.mem_cons_self ..
  ·have:=pj h hk
   split
   ·exact List.mem_cons_of_mem _ this
   ·exact this
theorem fT {k:Nat} {l:List Nat} (h:distinct (k :: l)=true):k ∉ l∧distinct l=true:=by
 simp only [distinct,Bool.and_eq_true,Bool.not_eq_true'] at h
 refine⟨fun hm=>?_,h.2⟩
 rw [pA.2 hm] at h
 cases h.1
theorem xx {m:List (Nat × Nat)}:∀ {h:H} {i i' k:Nat} {b b' : dP},distinct (kept m h)=true→ak h i=some b→ak h i' = some b'→look m i=some k→look m i' = some k→i=i'
 |[],i,i',k,b,b',_,h,_,_,_=>by cases h
 |(j,c) :: l,i,i',k,b,b',hd,h,h',hk,hk'=>by
  simp only [ak] at h h'
  have rest:∀ {a:Nat} {x:dP},ak l a=some x→look m a=some k→look m j=some k→False:=by
   intro a x ha hka hkj
   unfold kept at hd
   simp only [hkj] at hd
   exact (fT hd).1 (pj ha hka)
  have hd' : distinct (kept m l)=true:=by
   unfold kept at hd
   split at hd
   ·exact (fT hd).2
   ·exact hd
  split at h <;> split at h'
  ·rename_i h1 _ h2
   rw [← aL h1,← aL h2]
  ·rename_i h1 _ h2
   have h1:=aL h1
   subst h1
   exact (rest h' hk' hk).elim
  ·rename_i h1 _ h2
   have h2:=aL h2
   subst h2
   exact (rest h hk hk').elim
  ·exact xx hd' h h' hk hk'
theorem wV {M:Mt} {b0 b:dP} (h:eU M b0 b):b0.alive=true∧b.alive=true:=by
 cases b0 <;> cases b <;> first|exact⟨rfl,rfl⟩|exact h.elim
def eL (m:List (Nat × Nat)) (o:Nat→Option (Nat × Nat)):Nat→Option (Nat × Nat):=fun i =>
 match look m i with
 |some k=>o k
 |none=>none
theorem gA {m:List (Nat × Nat)} {h' : H} {fr:Bool} {bs' : Bs} (hm:Mem G) (hd:distinct (kept m h')=true) (hh:iN ⟨m,G.h,h',kept m h',fr⟩ h') {Gn:Gm} (hGn:Gn=⟨eL m G.o,h',bs',G.w⟩)
  (hbs:bs' = G.bs∧True∨fr=false∧bs' = ⟨G.w,G.ok,fun g=>∃ k q,k∈kept m h'∧alive G.h k∧G.o k=some (g,q)⟩):Dj ⟨m,G.h,h',kept m h',fr⟩ G Gn∧Mem Gn:=by
 have hbound:∀ i k',ak h' i=some k'→(∃ k b0,look m i=some k∧ak G.h k=some b0∧eU ⟨m,G.h,h',kept m h',fr⟩ b0 k'∧eL m G.o i=G.o k)∨(rz k'∧look m i=none∧eL m G.o i=none):=by
  intro i k' hk
  rcases kh hh i k' hk with ⟨k,b0,q1,q2,q3⟩ | ⟨q1,q2⟩
  ·exact .inl ⟨k,b0,q1,q2,q3,by unfold eL;rw [show look m i=some k from q1]⟩
  ·exact .inr ⟨q1,q2,by unfold eL;rw [show look m i=none from q2]⟩
 have hown:∀ i,alive h' i→∀ g q,eL m G.o i=some (g,q)→∃ k,look m i=some k∧alive G.h k∧G.o k=some (g,q)∧k∈kept m h':=by
  rintro i ⟨k',hk,hal⟩ g q ho
  rcases hbound i k' hk with ⟨k,b0,q1,q2,q3,q4⟩ | ⟨_,_,q3⟩
  ·rw [q4] at ho
   exact⟨k,q1,⟨b0,q2,(wV q3).1⟩,ho,pj hk q1⟩
  ·rw [q3] at ho
   cases ho
 subst hGn
 have hsub:Sub G ⟨eL m G.o,h',bs',G.w⟩:=by
  refine⟨fun b j h=>⟨h.lt,fun hlt=>?_,fun i ha g q ho e=>?_⟩,fun _ _ _=>rfl,hY.refl _⟩
  ·rcases hbs with ⟨rfl,_⟩ | ⟨_,rfl⟩
   ·exact h.old hlt
   ·exact .inl h
  ·obtain⟨k,_,k2,k3,_⟩:=hown i ha g q ho
   exact h.own k k2 g q k3 e
 have hle:Dj ⟨m,G.h,h',kept m h',fr⟩ G ⟨eL m G.o,h',bs',G.w⟩:=by
  refine⟨hsub,rfl,rfl,rfl,hm,hbound,fun hfr k hk ha g q ho j=>?_⟩
  rcases hbs with ⟨rfl,_⟩ | ⟨hf,_⟩
  ·obtain⟨h1,h2⟩:=hm.own k ha g q ho
   refine⟨h1,fun hlt=>?_,fun i hai g' q' ho' e=>?_⟩
   ·rcases h2 with h2 | ⟨h2,_⟩
    ·exact absurd hlt (by simp only;omega)
    ·exact .inr h2
   ·subst e
    obtain⟨k2,_,k3,k4,k5⟩:=hown i hai g' q' ho'
    have:=hm.inj k2 k k3 ha g' q' q k4 ho
    subst this
    have hk:kg k2 (kept m h')=false:=hk
    rw [pA.2 k5] at hk
    cases hk
  ·have hfr:fr=true:=hfr
   rw [hf] at hfr
   cases hfr
 refine⟨hle,?_⟩
 have hinj:∀ n n',alive h' n→alive h' n'→∀ g q q',eL m G.o n=some (g,q)→eL m G.o n' = some (g,q')→n=n':=by
  intro n n' ha ha' g q q' ho ho'
  obtain⟨k,k1,k2,k3,_⟩:=hown n ha g q ho
  obtain⟨k',k1',k2',k3',_⟩:=hown n' ha' g q' ho'
  have:=hm.inj k k' k2 k2' g q q' k3 k3'
  subst this
  obtain⟨b,hb,_⟩:=ha
  obtain⟨b',hb',_⟩:=ha'
  exact xx hd hb hb' k1 k1'
 have hblk:∀ n k,ak h' n=some k→nA ⟨eL m G.o,h',bs',G.w⟩ n k:=by
  intro n k hk
  rcases hbound n k hk with ⟨q,b0,q1,q2,q3,q4⟩ | ⟨hv,_,hq⟩
  ·have hb:=hm.gm q b0 q2
   cases b0 with
   |cells t0 c0=>cases k with
    |cells t c =>
     obtain⟨rfl,q3⟩:=q3
     obtain⟨g,vs,r1,r2,r3⟩:=hb
     exact⟨g,vs,q4.trans r1,r2,kf hle q3 r3⟩
    |_=>exact q3.elim
   |row t0 c0=>cases k with
    |row t c =>
     obtain⟨rfl,q3⟩:=q3
     have e:=eY q3
     subst e
     rcases hb with ⟨z0,z1⟩ | ⟨g,pre,vs,rest,r1,r2,r3,r4⟩
     ·exact .inl ⟨z0,q4.trans z1⟩
     ·exact .inr ⟨g,pre,vs,rest,q4.trans r1,r2,r3.sub hsub,r4⟩
    |_=>exact q3.elim
   |mp c0=>cases k with
    |mp c =>
     have e:c0=c:=q3
     subst e
     obtain⟨g,es,clock,r1,r2,r3⟩:=hb
     exact⟨g,es,clock,q4.trans r1,r2,r3⟩
    |_=>exact q3.elim
   |tok=>cases k with
    |tok=>trivial
    |_=>exact q3.elim
   |_=>cases k <;> exact q3.elim
  ·cases k with
   |tok=>trivial
   |row t c=>exact .inl ⟨Gu hv,hq⟩
   |_=>exact hv.elim
 rcases hbs with ⟨rfl,_⟩ | ⟨hf,rfl⟩
 ·refine⟨hm.os,hm.tape,hm.output,hm.size,hm.block,hm.mI,fun n ha g q ho=>?_,hinj,hblk,hm.AS⟩
  obtain⟨k,_,k2,k3,_⟩:=hown n ha g q ho
  exact hm.own k k2 g q k3
 ·refine⟨rfl,rfl,rfl,Nat.le_refl _,fun _ _ _=>rfl,fun _ _ _ _=>rfl,fun n ha g q ho=>?_,hinj,hblk,hY.refl _⟩
  obtain⟨k,k1,k2,k3,k4⟩:=hown n ha g q ho
  refine⟨(hm.own k k2 g q k3).1,.inr ⟨⟨k,q,k4,k2,k3⟩,fun j hj=>?_⟩⟩
  have hj:G.ok g j:=hj
  exact hj.own k k2 g q k3 rfl
theorem BA {fr:Bool} {m:List (Nat × Nat)} {t:St} (hr:cU bs gv st ν a w) (hl:st.NA fr m t):∃ ν',cU bs gv t ν' a w:=by
 obtain⟨h1,h2,h3,h4⟩:=hl
 obtain⟨hle,hm⟩:=gA (G:=gg bs st ν w) (bs':=bs) hr.mem h1 h4 rfl (.inl ⟨rfl,trivial⟩)
 refine⟨_,by rw [hr.size,pM h2],fun i y hy=>?_,kZ hle h3 hr.gs,hr.defers,hm⟩
 obtain⟨x,hx,hxy⟩:=pS h2 i y hy
 exact bz.fe hle hxy (hr.slot i x hx)
theorem dR {h l m:H}:aI h (l ++ m)=aI (aI h l) m:=by
 induction l generalizing h with
 |nil=>rfl
 |cons p l ih=>exact ih
theorem Hu {l:H} {n:Nat} (h:n ∉ l.map (·.1)):ak l n=none:=by
 induction l with
 |nil=>rfl
 |cons p l ih =>
  obtain⟨k,b⟩:=p
  simp only [List.map_cons,List.mem_cons,not_or] at h
  simp only [ak,dn (fun e=>h.1 e.symm)]
  exact ih h.2
theorem Hd {l:H} {n:Nat} (h:n∈l.map (·.1)) (hn:ak l n=none):False:=by
 induction l with
 |nil=>cases h
 |cons p l ih =>
  obtain⟨k,b⟩:=p
  simp only [ak] at hn
  split at hn
  ·cases hn
  ·rename_i hk
   simp only [List.map_cons,List.mem_cons] at h
   rcases h with rfl|h
   ·rw [cJ] at hk
    cases hk
   ·exact ih h hn
theorem da:∀ {l h:H} {n:Nat},distinct (l.map (·.1))=true→ak (aI h l) n=match ak l n with
  |some b=>some b
  |none=>ak h n
 |[],h,n,_=>rfl
 |(k,b) :: l,h,n,hd=>by
  obtain⟨h1,h2⟩:=fT hd
  show ak (aI (aS h k b) l) n=_
  rw [da h2]
  by_cases e:k=n
  ·subst e
   rw [Hu h1]
   simp only [ak,cJ]
   exact aJ _ _ _
  ·simp only [ak,dn e]
   rw [aN _ _ e]
theorem eJ {keys:List Nat}:∀ {seen:List Nat} {h:H} {n:Nat},ak (aI h (eN keys seen)) n=if n∈seen∧kg n keys=false then some .dead else ak h n
 |[],h,n=>by simp [eN,aI]
 |k :: seen,h,n=>by
  unfold eN
  split
  ·rename_i hk
   rw [eJ]
   by_cases e:n=k
   ·subst e
    simp [hk]
   ·simp [e]
  ·rename_i hk
   show ak (aI (aS h k .dead) (eN keys seen)) n=_
   rw [eJ]
   by_cases e:n=k
   ·subst e
    simp [hk,aJ]
   ·rw [aN _ _ (Ne.symm e)]
    simp [e]
theorem fY {m:List (Nat × Nat)} {h:H}:∀ {ids:List Nat} {h1:H},lg m h ids=some h1→∀ n b',ak h1 n=some b'→∃ i b,i∈ids∧look m i=some n∧ak h i=some b∧Cl m b=some b'
 |[],h1,hr,n,b',hb=>by cases hr;cases hb
 |i :: ids,h1,hr,n,b',hb=>by
  unfold lg at hr
  split at hr
  ·rename_i k b r e1 e2 e3
   split at hr
   ·rename_i b1 e4
    cases hr
    simp only [ak] at hb
    split at hb
    ·rename_i hk
     have hk:=aL hk
     subst hk
     cases hb
     exact⟨i,b,List.mem_cons_self ..,e1,e2,e4⟩
    ·obtain⟨i',b0,q1,q2⟩:=fY e3 n b' hb
     exact⟨i',b0,List.mem_cons_of_mem _ q1,q2⟩
   ·cases hr
  ·cases hr
theorem eE {α:Type} {m:List (Nat × α)} {i:Nat} {n:α} (h:look m i=some n):(i,n)∈m:=by
 induction m with
 |nil=>cases h
 |cons p m ih =>
  obtain⟨k,a⟩:=p
  simp only [look] at h
  split at h
  ·rename_i hk
   have hk:=aL hk
   subst hk
   cases h
   exact List.mem_cons_self ..
  ·exact List.mem_cons_of_mem _ (ih h)
theorem mF {roots:List (Nat × Nat)}:∀ {h:H} {b i n:Nat},(i,n)∈names roots b h→look roots i=some n∨look roots i=none
 |[],_,_,_,h=>by cases h
 |(j,c) :: l,b,i,n,h=>by
  unfold names at h
  split at h
  ·rename_i k hk
   rcases List.mem_cons.1 h with e|h
   ·cases e
    exact .inl hk
   ·exact mF h
  ·rename_i hk
   rcases List.mem_cons.1 h with e|h
   ·cases e
    exact .inr hk
   ·exact mF h
theorem iI {h:H} {roots:List (Nat × Nat)}:∀ {ns:List (Nat × Nat)},fC h roots ns=true→∀ i n,(i,n)∈ns→look roots i=none→ak h n=none
 |[],_,i,n,hm,_=>by cases hm
 |(j,k) :: l,hf,i,n,hm,hn=>by
  simp only [fC,Bool.and_eq_true] at hf
  rcases List.mem_cons.1 hm with e|hm
  ·cases e
   rw [hn] at hf
   exact cz hf.1
  ·exact iI hf.2 i n hm hn
theorem nx {h h' : H} {roots:List (Nat × Nat)}:∀ {ns:List (Nat × Nat)},jA h h' roots ns→∀ i n k,(i,n)∈ns→look roots i=some k→IG (ak h n) (ak h' i)
 |[],_,i,n,k,hm,_=>by cases hm
 |(j,q) :: l,hf,i,n,k,hm,hn=>by
  rcases List.mem_cons.1 hm with e|hm
  ·cases e
   have:=hf.1
   simp only [hn] at this
   exact this
  ·exact nx hf.2 i n k hm hn
theorem CW {x y:SA} {xs ys:List SA} (h:kq (x :: xs) (y :: ys)):kq xs ys:=by
 unfold kq at h
 split at h
 ·rename_i e1 e2
  cases e1
  cases e2
  exact h.2
 ·rename_i e1 e2
  cases e1
  cases e2
  exact h
 ·rename_i h1 h2
  exact absurd rfl (h2 _ _ _ _ rfl)
theorem oW (ow:List SC):fJ ow []=[]:=by
 cases ow with
 |nil=>rfl
 |cons x l=>cases x <;> rfl
theorem BC {Gc G' : Gm} {ow:List SC}:∀ {ys:List SA} {vs:List Value},mW Gc G' ow ys vs→∀ p∈fJ ow (ys.drop vs.length),Ji Gc.h G'.h p=true→G'.o p.2.1=Gc.o p.2.2
 |[],[],_,p,hm=>by
  have hm:p∈fJ ow []:=hm
  rw [oW] at hm
  cases hm
 |y :: ys,[],h,p,hm=>(show xT Gc G' ow (y :: ys) from h) p hm
 |[],_ :: _,_,p,hm=>by
  have hm:p∈fJ ow []:=hm
  rw [oW] at hm
  cases hm
 |_ :: ys,_ :: vs,⟨_,h⟩,p,hm=>BC h p hm
theorem nC:∀ (l:List Nat) (k j:Nat),look (bI (bG k l)) (k+j)=l[j]?
 |[],_,_=>rfl
 |n :: l,k,j=>by
  show look ((k,n) :: bI (bG (k+1) l)) (k+j)=_
  unfold look
  cases j with
  |zero =>
   have:bF k (k+0)=true:=cJ k
   simp
  |succ j =>
   have e:bF k (k+(j+1))=false:=LU.2 (by omega)
   have:=nC l (k+1) j
   rw [show k+1+j=k+(j+1) by omega] at this
   simp only [List.getElem?_cons_succ]
   rw [← this]
   simp [e]
theorem vA {Gc G' : Gm} {ow:List SC} (hcell:∀ b j u,cellAt G b j u→G'.w.cell? ⟨b,j,none⟩=some u):∀ {xs ys:List SA} {vs:List Value},bh G xs vs→mW Gc G' ow ys vs→kq xs ys→∀ i n,(i,n)∈cD xs ys→(∃ off v,bu G n off v∧bu G' i off v)∨(∃ v,br G n v∧br G' i v)∨(∃ v,jP G n v∧jP G' i v)∨∃ x j v,eH G n x j v∧eH G' i x j v
 |[],ys,_,_,_,_,i,n,h=>by simp [cD] at h
 |_ :: _,[],[],h,_,_,_,_,_=>h.elim
 |_ :: _,[],_ :: _,_,_,_,i,n,h=>by simp [cD] at h
 |x :: xs,y :: ys,v :: vs,⟨hx,h1⟩,⟨hy,h2⟩,hsm,i,n,h=>by
  have ih:=vA hcell h1 h2 (CW hsm) i n
  have nw:∀ n0 i0 o b b',v=v→gZ G n0 o b→gZ G' i0 o b'→b=b'→∃ off v,bu G n0 off v∧bu G' i0 off v:=by
   rintro n0 i0 o b _ _ ⟨A1,k1,k2⟩ ⟨A2,k3,k4⟩ rfl
   have k5:=hcell _ _ _ k1
   rw [k3.cell] at k5
   cases k5
   exact⟨o,_,k2,k4⟩
  unfold cD at h
  split at h
  ·rename_i n0 o xs' i0 o' ys' e1 e2
   cases e1
   cases e2
   split at h
   ·rename_i ho
    have ho:=aL ho
    subst ho
    rcases List.mem_cons.1 h with e|h
    ·cases e
     exact .inl ⟨o,v,hx.2,hy.2⟩
    ·exact ih h
   ·exact ih h
  ·rename_i n0 xs' i0 ys' e1 e2
   cases e1
   cases e2
   rcases List.mem_cons.1 h with e|h
   ·cases e
    exact .inr (.inl ⟨v,hx.2,hy.2⟩)
   ·exact ih h
  ·rename_i n0 xs' i0 ys' e1 e2
   cases e1
   cases e2
   rcases List.mem_cons.1 h with e|h
   ·cases e
    exact .inr (.inr (.inl ⟨v,hx.2,hy.2⟩))
   ·exact ih h
  ·rename_i n0 x0 j0 xs' i0 x1 j1 ys' e1 e2
   cases e1
   cases e2
   split at h
   ·rename_i ho
    have ho:=aL ho
    subst ho
    rcases List.mem_cons.1 h with e|h
    ·cases e
     obtain⟨rfl,_⟩:=hsm
     exact .inr (.inr (.inr ⟨_,_,v,hx.2,hy.2⟩))
    ·exact ih h
   ·exact ih h
  ·rename_i n0 o xs' i0 o' ys' e1 e2
   cases e1
   cases e2
   split at h
   ·rename_i ho
    have ho:=aL ho
    subst ho
    rcases List.mem_cons.1 h with e|h
    ·cases e
     obtain⟨b1,z1,z2⟩:=hx
     obtain⟨b2,z3,z4⟩:=hy
     rw [z1] at z3
     simp only [Value.pointer.injEq,Option.some.injEq,Addr.mk.injEq] at z3
     exact .inl (nw _ _ _ _ _ rfl z2 z4 z3.1)
    ·exact ih h
   ·exact ih h
  ·rename_i _ n0 o xs' _ i0 o' ys' e1 e2
   cases e1
   cases e2
   split at h
   ·rename_i ho
    have ho:=aL ho
    subst ho
    rcases List.mem_cons.1 h with e|h
    ·cases e
     obtain⟨b1,z1,z2⟩:=hx
     obtain⟨b2,z3,z4⟩:=hy
     rw [z1] at z3
     simp at z3
     exact .inl (nw _ _ _ _ _ rfl z2 z4 z3.2)
    ·exact ih h
   ·exact ih h
  ·rename_i _ n0 k0 xs' _ i0 j0 ys' e1 e2
   cases e1
   cases e2
   obtain⟨p,q,z1,z2,z3⟩:=hx
   obtain⟨p',q',z4,z5,z6⟩:=hy
   rw [z1] at z4
   injection z4 with _ _ a3
   simp only [Array.mk.injEq,List.cons.injEq,and_true] at a3
   obtain⟨rfl,rfl⟩:=a3
   rcases List.mem_cons.1 h with e|h
   ·cases e
    exact .inl ⟨0,p,z2.2,z5.2⟩
   ·rcases List.mem_cons.1 h with e|h
    ·cases e
     exact .inl ⟨0,q,z3.2,z6.2⟩
    ·exact ih h
  ·rename_i e1 e2
   cases e1
   cases e2
   exact ih h
  ·cases h
theorem xn (hm:Mem G) {S:Nat→Prop} {Gt:Gm} (hmt:Mem Gt) (hbs:Gt.bs=⟨G.w,G.ok,fun g=>∃ k q,S k∧alive G.h k∧G.o k=some (g,q)⟩) {h'' : H} {D:Nat→Prop}
  (hg1:∀ n b,ak Gt.h n=some b→ak h'' n=some b) (hg2:∀ n,ak Gt.h n=none→D n→ak h'' n=some .dead) (hg3:∀ n,ak Gt.h n=none→¬D n→ak h'' n=ak G.h n)
  (hS:∀ n,S n→ak Gt.h n=none→D n)
  (hroot:∀ n k k',ak G.h n=some k→ak Gt.h n=some k'→match k,k' with
   |.cells _ _,.cells _ _=>Gt.o n=G.o n
   |.row _ c,.row _ c'=>Gt.o n=G.o n∧c'.sz=c.sz∧c'.n=c.n
   |.mp _,.mp _=>Gt.o n=G.o n
   |_,_=>False) {Gn:Gm} (hGn:Gn=⟨fun n=>if (ak Gt.h n).isSome then Gt.o n else G.o n,h'',G.bs,Gt.w⟩) :
  Ext G Gn∧Mem Gn∧Ext Gt Gn:=by
 have hW:Gt.bs.W=G.w:=by rw [hbs]
 have hX:∀ g,Gt.bs.X g↔∃ k q,S k∧alive G.h k∧G.o k=some (g,q):=by intro g;rw [hbs]
 have hK:∀ b j,Gt.bs.K b j↔G.ok b j:=by intro b j;rw [hbs]
 have hsz:G.w.heap.size≤Gt.w.heap.size:=by rw [← hW];exact hmt.size
 have hshp:hY G.w Gt.w:=by rw [← hW];exact hmt.AS
 have hal:∀ n,alive h'' n→(∃ b,ak Gt.h n=some b∧b.alive=true)∨ak Gt.h n=none∧¬D n∧¬S n∧alive G.h n:=by
  rintro n ⟨b,hb,hba⟩
  cases hq:ak Gt.h n with
  |some b' =>
   rw [hg1 n b' hq] at hb
   cases hb
   exact .inl ⟨b,rfl,hba⟩
  |none =>
   by_cases hd:D n
   ·rw [hg2 n hq hd] at hb
    cases hb
    cases hba
   ·rw [hg3 n hq hd] at hb
    exact .inr ⟨rfl,hd,fun hs=>hd (hS n hs hq),b,hb,hba⟩
 have Ji:∀ b j,b < G.bs.W.heap.size→G.bs.K b j→G.ok b j:=by
  intro b j hlt hk
  refine⟨Nat.lt_of_lt_of_le hlt hm.size,fun _=>.inl hk,fun n ha g q ho e=>?_⟩
  subst e
  rcases (hm.own n ha g q ho).2 with h | ⟨_,h⟩
  ·omega
  ·exact h j hk
 have hcellK:∀ b j,G.ok b j→Gt.w.cell? ⟨b,j,none⟩=G.w.cell? ⟨b,j,none⟩:=by
  intro b j h
  have:=hmt.mI b j (by rw [hW];exact h.lt) ((hK b j).2 h)
  rwa [hW] at this
 have hblk:∀ k,k < G.w.heap.size→(∀ n q,S n→alive G.h n→G.o n≠some (k,q))→Gt.w.heap[k]? = G.w.heap[k]?:=by
  intro k hlt hno
  have:=hmt.block k (by rw [hW];exact hlt) (fun hx=>by
   obtain⟨n,q,h1,h2,h3⟩:=(hX k).1 hx
   exact hno n q h1 h2 h3)
  rwa [hW] at this
 have hnotS:∀ n,¬S n→alive G.h n→∀ g q,G.o n=some (g,q)→Gt.w.heap[g]? = G.w.heap[g]?:=by
  intro n hs ha g q ho
  refine hblk g (hm.own n ha g q ho).1 fun n' q' hs' ha' ho'=>?_
  have:=hm.inj n n' ha ha' g q q' ho ho'
  subst this
  exact hs hs'
 subst hGn
 have hoT:∀ {n b},ak Gt.h n=some b→(if (ak Gt.h n).isSome then Gt.o n else G.o n)=Gt.o n:=by intro n b h;rw [h];rfl
 have hoN:∀ {n},ak Gt.h n=none→(if (ak Gt.h n).isSome then Gt.o n else G.o n)=G.o n:=by intro n h;rw [h];rfl
 have hsub:Sub G ⟨fun n=>if (ak Gt.h n).isSome then Gt.o n else G.o n,h'',G.bs,Gt.w⟩:=by
  refine⟨fun b j h=>⟨Nat.lt_of_lt_of_le h.lt hsz,h.old,fun n ha g q ho e=>?_⟩,hcellK,hshp⟩
  subst e
  rcases hal n ha with ⟨b',hb',hba⟩ | ⟨hn,_,_,ha'⟩
  ·have ho:Gt.o n=some (g,q):=by rw [← hoT hb'];exact ho
   rcases (hmt.own n ⟨b',hb',hba⟩ g q ho).2 with h' | ⟨_,h'⟩
   ·rw [hW] at h'
    have:=h.lt
    omega
   ·exact h' j ((hK g j).2 h)
  ·have ho:G.o n=some (g,q):=by rw [← hoN hn];exact ho
   exact h.own n ha' g q ho rfl
 have hext:Ext G ⟨fun n=>if (ak Gt.h n).isSome then Gt.o n else G.o n,h'',G.bs,Gt.w⟩:=by
  refine⟨hsub,fun n k hk=>?_⟩
  cases hq:ak Gt.h n with
  |some k' =>
   refine⟨k',hg1 n k' hq,?_⟩
   have h:=hroot n k k' hk hq
   cases k with
   |cells t c=>cases k' with
    |cells t' c'=>exact (hoT hq).trans h
    |_=>exact h.elim
   |row t c=>cases k' with
    |row t' c'=>exact⟨(hoT hq).trans h.1,h.2.1,h.2.2⟩
    |_=>exact h.elim
   |mp c=>cases k' with
    |mp c'=>exact (hoT hq).trans h
    |_=>exact h.elim
   |_=>cases k' <;> exact h.elim
  |none =>
   by_cases hd:D n
   ·exact⟨.dead,hg2 n hq hd,by cases k <;> trivial⟩
   ·refine⟨k,(hg3 n hq hd).trans hk,?_⟩
    have hs:¬S n:=fun hs=>hd (hS n hs hq)
    cases k with
    |cells=>exact hoN hq
    |emp=>exact hoN hq
    |mp=>exact hoN hq
    |row=>exact⟨hoN hq,rfl,rfl⟩
    |eK=>rfl
    |cg=>exact⟨rfl,rfl,rfl⟩
    |tok=>exact⟨hoN hq,fun g q ho=>hnotS n hs ⟨_,hk,rfl⟩ g q ho⟩
    |dead=>trivial
 have hsubT:Sub Gt ⟨fun n=>if (ak Gt.h n).isSome then Gt.o n else G.o n,h'',G.bs,Gt.w⟩:=by
  refine⟨fun b j h=>⟨h.lt,fun hlt=>?_,fun n ha g q ho e=>?_⟩,fun _ _ _=>rfl,hY.refl _⟩
  ·have hlt' : b < G.w.heap.size:=Nat.lt_of_lt_of_le hlt hm.size
   rcases h.old (by rw [hW];exact hlt') with hk|hx
   ·exact ((hK b j).1 hk).old hlt
   ·obtain⟨n,q,_,h2,h3⟩:=(hX b).1 hx
    rcases (hm.own n h2 b q h3).2 with h4 | ⟨h4,_⟩
    ·have hlt:b < G.bs.W.heap.size:=hlt
     omega
    ·exact .inr h4
  ·subst e
   rcases hal n ha with ⟨b',hb',hba⟩ | ⟨hn,_,hs,ha'⟩
   ·have ho:Gt.o n=some (g,q):=by rw [← hoT hb'];exact ho
    exact h.own n ⟨b',hb',hba⟩ g q ho rfl
   ·have ho:G.o n=some (g,q):=by rw [← hoN hn];exact ho
    have hlt:=(hm.own n ha' g q ho).1
    rcases h.old (by rw [hW];exact hlt) with hk|hx
    ·exact ((hK g j).1 hk).own n ha' g q ho rfl
    ·obtain⟨n',q',h1,h2,h3⟩:=(hX g).1 hx
     have:=hm.inj n n' ha' h2 g q q' ho h3
     subst this
     exact absurd h1 hs
 have hextT:Ext Gt ⟨fun n=>if (ak Gt.h n).isSome then Gt.o n else G.o n,h'',G.bs,Gt.w⟩:=by
  refine⟨hsubT,fun n k hk=>⟨k,hg1 n k hk,?_⟩⟩
  cases k with
  |cells=>exact hoT hk
  |emp=>exact hoT hk
  |mp=>exact hoT hk
  |row=>exact⟨hoT hk,rfl,rfl⟩
  |eK=>rfl
  |cg=>exact⟨rfl,rfl,rfl⟩
  |tok=>exact⟨hoT hk,fun _ _ _=>rfl⟩
  |dead=>trivial
 refine⟨hext,⟨?_,?_,?_,Nat.le_trans hm.size hsz,fun k hlt hx=>?_,fun b j hlt hk=>?_,fun n ha g q ho=>?_,fun n n' ha ha' g q q' ho ho'=>?_,fun n k hk=>?_,hm.AS.trans hshp⟩,hextT⟩
 ·have:=hmt.os
  rw [hW] at this
  exact this.trans hm.os
 ·have:=hmt.tape
  rw [hW] at this
  exact this.trans hm.tape
 ·have:=hmt.output
  rw [hW] at this
  exact this.trans hm.output
 ·have hx:¬G.bs.X k:=hx
  have hlt:k < G.bs.W.heap.size:=hlt
  refine Eq.trans (hblk k (Nat.lt_of_lt_of_le hlt hm.size) fun n q _ h2 h3=>?_) (hm.block k hlt hx)
  rcases (hm.own n h2 k q h3).2 with h4 | ⟨h4,_⟩
  ·omega
  ·exact hx h4
 ·exact (hcellK b j (Ji b j hlt hk)).trans (hm.mI b j hlt hk)
 ·rcases hal n ha with ⟨b',hb',hba⟩ | ⟨hn,_,hs,ha'⟩
  ·have ho:Gt.o n=some (g,q):=by rw [← hoT hb'];exact ho
   obtain⟨h1,h2⟩:=hmt.own n ⟨b',hb',hba⟩ g q ho
   refine⟨h1,?_⟩
   rcases h2 with h2 | ⟨h2,h3⟩
   ·rw [hW] at h2
    exact .inl (Nat.le_trans hm.size h2)
   ·obtain⟨n',q',k1,k2,k3⟩:=(hX g).1 h2
    rcases (hm.own n' k2 g q' k3).2 with h4 | ⟨h4,_⟩
    ·exact .inl h4
    ·by_cases hlt:g < G.bs.W.heap.size
     ·exact .inr ⟨h4,fun j hj=>h3 j ((hK g j).2 (Ji g j hlt hj))⟩
     ·exact .inl (by show G.bs.W.heap.size≤g;omega)
  ·have ho:G.o n=some (g,q):=by rw [← hoN hn];exact ho
   obtain⟨h1,h2⟩:=hm.own n ha' g q ho
   exact⟨Nat.lt_of_lt_of_le h1 hsz,h2⟩
 ·have key:∀ n n' b',ak Gt.h n=some b'→b'.alive=true→ak Gt.h n' = none→¬S n'→alive G.h n'→∀ q q',Gt.o n=some (g,q)→G.o n' = some (g,q')→False:=by
   intro n n' b' hb' hba hn' hs' ha' q q' ho ho'
   have hlt:=(hm.own n' ha' g q' ho').1
   rcases (hmt.own n ⟨b',hb',hba⟩ g q ho).2 with h2 | ⟨h2,_⟩
   ·rw [hW] at h2
    omega
   ·obtain⟨n2,q2,k1,k2,k3⟩:=(hX g).1 h2
    have:=hm.inj n' n2 ha' k2 g q' q2 ho' k3
    subst this
    exact hs' k1
  rcases hal n ha with ⟨b1,hb1,hba1⟩ | ⟨hn,_,hs,ha1⟩ <;> rcases hal n' ha' with ⟨b2,hb2,hba2⟩ | ⟨hn',_,hs',ha2⟩
  ·exact hmt.inj n n' ⟨b1,hb1,hba1⟩ ⟨b2,hb2,hba2⟩ g q q' (by rw [← hoT hb1];exact ho) (by rw [← hoT hb2];exact ho')
  ·exact (key n n' b1 hb1 hba1 hn' hs' ha2 q q' (by rw [← hoT hb1];exact ho) (by rw [← hoN hn'];exact ho')).elim
  ·exact (key n' n b2 hb2 hba2 hn hs ha1 q' q (by rw [← hoT hb2];exact ho') (by rw [← hoN hn];exact ho)).elim
  ·exact hm.inj n n' ha1 ha2 g q q' (by rw [← hoN hn];exact ho) (by rw [← hoN hn'];exact ho')
 ·cases hq:ak Gt.h n with
  |some b' =>
   have hk:ak h'' n=some k:=hk
   rw [hg1 n b' hq] at hk
   cases hk
   have hb:=hmt.gm n _ hq
   cases k with
   |cells t cs =>
    obtain⟨g,vs,e1,e2,e3⟩:=hb
    exact⟨g,vs,(hoT hq).trans e1,e2,e3.ext hextT⟩
   |row t c =>
    rcases hb with ⟨z0,z1⟩ | ⟨g,pre,vs,rest,e1,e2,e3,e4⟩
    ·exact .inl ⟨z0,(hoT hq).trans z1⟩
    ·exact .inr ⟨g,pre,vs,rest,(hoT hq).trans e1,e2,e3.sub hsubT,e4⟩
   |emp t =>
    obtain⟨g,e1,e2⟩:=hb
    exact⟨g,(hoT hq).trans e1,e2⟩
   |mp l =>
    obtain⟨g,es,clock,e1,e2,e3⟩:=hb
    exact⟨g,es,clock,(hoT hq).trans e1,e2,e3⟩
   |_=>trivial
  |none =>
   have hk:ak h'' n=some k:=hk
   by_cases hd:D n
   ·rw [hg2 n hq hd] at hk
    cases hk
    trivial
   ·rw [hg3 n hq hd] at hk
    have hs:¬S n:=fun hs=>hd (hS n hs hq)
    have hb:=hm.gm n k hk
    cases k with
    |cells t cs =>
     obtain⟨g,vs,e1,e2,e3⟩:=hb
     exact⟨g,vs,(hoN hq).trans e1,(hnotS n hs ⟨_,hk,rfl⟩ g 0 e1).trans e2,e3.ext hext⟩
    |row t c =>
     rcases hb with ⟨z0,z1⟩ | ⟨g,pre,vs,rest,e1,e2,e3,e4⟩
     ·exact .inl ⟨z0,(hoN hq).trans z1⟩
     ·exact .inr ⟨g,pre,vs,rest,(hoN hq).trans e1,(hnotS n hs ⟨_,hk,rfl⟩ g _ e1).trans e2,e3.sub hsub,e4⟩
    |emp t =>
     obtain⟨g,e1,e2⟩:=hb
     exact⟨g,(hoN hq).trans e1,(hnotS n hs ⟨_,hk,rfl⟩ g 0 e1).trans e2⟩
    |mp l =>
     obtain⟨g,es,clock,e1,e2,e3⟩:=hb
     exact⟨g,es,clock,(hoN hq).trans e1,(hnotS n hs ⟨_,hk,rfl⟩ g 0 e1).trans e2,e3⟩
    |_=>trivial
def Oh:SV→SV→Prop
 |.sa _,.sa _=>True
 |.bB _,.bB _=>True
 |_,_=>False
theorem sD {M:Mt} (s:Dj M G G') {r r' : SV} {v:Value} (hk:Oh r r') (hl:gV M (eP r) (eP r')) (hv:r.is G v):r'.is G' v:=by
 have tups:∀ {xs ys:List SA} {vs:List Value},gV M (xs.map fun x=>(⟨none,.sa x⟩:bz)) (ys.map fun x=>(⟨none,.sa x⟩:bz))→bh G xs vs→bh G' ys vs:=by
  intro xs
  induction xs with
  |nil =>
   intro ys vs h hv
   cases ys with
   |nil=>cases vs with
    |nil=>trivial
    |cons _ _=>exact hv.elim
   |cons _ _=>exact h.elim
  |cons x xs ih =>
   intro ys vs h hv
   cases ys with
   |nil=>exact h.elim
   |cons y ys=>cases vs with
    |nil=>exact hv.elim
    |cons u us=>exact⟨bz.fe (x:=⟨none,.sa x⟩) (y:=⟨none,.sa y⟩) s h.1 hv.1,ih h.2 hv.2⟩
 cases r with
 |sa x=>cases r' with
  |sa y=>exact bz.fe (x:=⟨none,.sa x⟩) (y:=⟨none,.sa y⟩) s hl.1 hv
  |bB _=>exact hk.elim
 |bB xs=>cases r' with
  |sa _=>exact hk.elim
  |bB ys =>
   obtain⟨vs,e,hvs⟩:=hv
   exact⟨vs,e,tups hl hvs⟩
theorem rJ {m:List (Nat × Nat)} {r r' : SV} (h:GO m r=some r'):Oh r r':=by
 cases r with
 |sa x =>
  simp only [GO] at h
  cases hx:OG m x with
  |none=>simp [hx] at h
  |some y=>simp only [hx] at h;cases h;trivial
 |bB xs =>
  simp only [GO] at h
  cases hx:wR m xs with
  |none=>simp [hx] at h
  |some y=>simp only [hx] at h;cases h;trivial
theorem kV:∀ {l:List Nat} {i n k:Nat},(n,k)∈bG i l→n∈l
 |[],_,_,_,h=>by cases h
 |x :: l,i,n,k,h=>by
  unfold bG at h
  rcases List.mem_cons.1 h with e|h
  ·cases e
   exact List.mem_cons_self ..
  ·exact List.mem_cons_of_mem _ (kV h)
theorem iX {seen:List Nat}:∀ {h:H} {k:Nat},k∈kept (bI (bG 0 seen)) h→k∈seen
 |[],k,hk=>by cases hk
 |(j,b) :: l,k,hk=>by
  unfold kept at hk
  split at hk
  ·rename_i k0 hk0
   rcases List.mem_cons.1 hk with rfl|hk
   ·have:=eE hk0
    unfold bI at this
    obtain⟨p,hp,e⟩:=List.mem_map.1 this
    cases e
    exact kV hp
   ·exact iX hk
  ·exact iX hk
theorem kO {h:H}:∀ {l:List Nat} {n:Nat} {b:dP},ak (vg h l) n=some b→ak h n=some b
 |[],n,b,hb=>by cases hb
 |k :: l,n,b,hb=>by
  unfold vg at hb
  split at hb
  ·rename_i b0 hk
   simp only [ak] at hb
   split at hb
   ·rename_i e
    have e:=aL e
    subst e
    cases hb
    exact hk
   ·exact kO hb
  ·exact kO hb
section
variable {m:List (Nat × Nat)} {h1 h2 h' : H} {ks:List Nat} {fr:Bool}
theorem SC.od (hh:∀ n b,ak h1 n=some b→ak h2 n=some b) {x y:SC} (h:x.le ⟨m,h1,h',ks,fr⟩ y):x.le ⟨m,h2,h',ks,fr⟩ y:=by
 unfold SC.le at h
 split at h
 all_goals first|exact h|exact False.elim h|skip
 rename_i b c
 simp only at h
 show (match ak h2 b with
  |some (.row _ c0)=>(fr && !kg b ks)=true∧qS c0 c
  |some (.eK c0)=>qS c0 c
  |_=>False)
 split at h
 ·rename_i hb
  rw [hh _ _ hb]
  exact h
 ·rename_i hb
  rw [hh _ _ hb]
  exact h
 ·exact h.elim
theorem gO (hh:∀ n b,ak h1 n=some b→ak h2 n=some b):∀ {xs ys:List SC},jC ⟨m,h1,h',ks,fr⟩ xs ys→jC ⟨m,h2,h',ks,fr⟩ xs ys
 |[],[],_=>trivial
 |[],_ :: _,h=>h.elim
 |_ :: _,[],h=>h.elim
 |_ :: _,_ :: _,⟨a,b⟩=>⟨SC.od hh a,gO hh b⟩
theorem SA.od (hh:∀ n b,ak h1 n=some b→ak h2 n=some b) {x y:SA} (h:x.le ⟨m,h1,h',ks,fr⟩ y):x.le ⟨m,h2,h',ks,fr⟩ y:=by
 unfold SA.le at h
 split at h
 ·trivial
 ·unfold SA.le
  split
  ·trivial
  ·rename_i e1 e2
   cases e1
   cases e2
   exact SC.od hh h
  ·rename_i e1 _;cases e1
  ·rename_i e1 _;cases e1
  ·simp_all
 ·exact gO hh h
 ·exact h
 ·exact h.elim
theorem qi (hh:∀ n b,ak h1 n=some b→ak h2 n=some b):∀ {xs ys:List SA},wL ⟨m,h1,h',ks,fr⟩ xs ys→wL ⟨m,h2,h',ks,fr⟩ xs ys
 |[],[],_=>trivial
 |_ :: _,[],_=>trivial
 |[],_ :: _,h=>h.elim
 |_ :: _,_ :: _,⟨a,b⟩=>⟨SA.od hh a,qi hh b⟩
theorem zw (hh:∀ n b,ak h1 n=some b→ak h2 n=some b) {x y:dP} (h:eU ⟨m,h1,h',ks,fr⟩ x y):eU ⟨m,h2,h',ks,fr⟩ x y:=by
 cases x <;> cases y <;> first|exact h|exact⟨h.1,gO hh h.2⟩
theorem ny (hh:∀ n b,ak h1 n=some b→ak h2 n=some b):∀ {l:H},iN ⟨m,h1,h',ks,fr⟩ l→iN ⟨m,h2,h',ks,fr⟩ l
 |[],_=>trivial
 |(i,b) :: l,⟨a,c⟩=>by
  refine⟨?_,ny hh c⟩
  simp only at a ⊢
  split at a
  ·split at a
   ·rename_i hb
    rw [hh _ _ hb]
    exact zw hh a
   ·exact a.elim
  ·exact a
end
theorem jb:∀ {l:List Nat} {i n k:Nat},(n,k)∈bG i l→i≤k
 |[],_,_,_,h=>by cases h
 |x :: l,i,n,k,h=>by
  unfold bG at h
  rcases List.mem_cons.1 h with e|h
  ·cases e
   exact Nat.le_refl _
  ·exact Nat.le_trans (Nat.le_succ _) (jb h)
theorem lW:∀ {l:List Nat} {i n n' k:Nat},(n,k)∈bG i l→(n',k)∈bG i l→n=n'
 |[],_,_,_,_,h,_=>by cases h
 |x :: l,i,n,n',k,h,h'=>by
  unfold bG at h h'
  rcases List.mem_cons.1 h with e|h <;> rcases List.mem_cons.1 h' with e' | h'
  ·cases e
   cases e'
   rfl
  ·cases e
   have:=jb h'
   omega
  ·cases e'
   have:=jb h
   omega
  ·exact lW h h'
theorem Du {c:SC} {v:Value} (h:c.qe.is G v):c.is G v:=by cases c <;> exact h
theorem oY:∀ {cs:List SC} {vs:List Value},aO G (cs.map SC.qe) vs→aO G cs vs
 |[],[],_=>trivial
 |_ :: _,_ :: _,⟨⟨a,b⟩,c⟩=>⟨⟨Du a,b⟩,oY c⟩
def Alike (x y:Option dP):Prop:=x=y∨∃ t cs,x=some (.cells t cs)∧y=some (.cells t (cs.map SC.qe))
theorem Df {m ns:List (Nat × Nat)} (hb:∀ n i n',look m n=some i→look ns i=some n'→n' = n) {c c1 c2:SC} (h1:jN m c=some c1) (h2:jN ns c1=some c2):c2=c.qe:=by
 unfold jN at h1
 split at h1
 ·split at h1
  ·rename_i hn
   cases h1
   unfold jN at h2
   simp only at h2
   split at h2
   ·rename_i hi
    cases h2
    rw [hb _ _ _ hn hi]
    rfl
   ·cases h2
  ·cases h1
 ·split at h1
  ·rename_i hn
   cases h1
   unfold jN at h2
   simp only at h2
   split at h2
   ·rename_i hi
    cases h2
    rw [hb _ _ _ hn hi]
    rfl
   ·cases h2
  ·cases h1
 ·split at h1
  ·rename_i hn
   cases h1
   unfold jN at h2
   simp only at h2
   split at h2
   ·rename_i hi
    cases h2
    rw [hb _ _ _ hn hi]
    rfl
   ·cases h2
  ·cases h1
 ·split at h1
  ·rename_i hn
   cases h1
   unfold jN at h2
   simp only at h2
   split at h2
   ·rename_i hi
    cases h2
    rw [hb _ _ _ hn hi]
    rfl
   ·cases h2
  ·cases h1
 ·split at h1
  ·rename_i hn
   cases h1
   unfold jN at h2
   simp only at h2
   split at h2
   ·rename_i hi
    cases h2
    rw [hb _ _ _ hn hi]
    rfl
   ·cases h2
  ·cases h1
 ·split at h1
  ·rename_i hn
   cases h1
   unfold jN at h2
   simp only at h2
   split at h2
   ·rename_i hi
    cases h2
    rw [hb _ _ _ hn hi]
    rfl
   ·cases h2
  ·cases h1
 ·split at h1
  ·rename_i hn
   cases h1
   unfold jN at h2
   simp only at h2
   split at h2
   ·rename_i hi
    cases h2
    rw [hb _ _ _ hn hi]
    rfl
   ·cases h2
  ·cases h1
 ·split at h1
  ·rename_i hn
   cases h1
   unfold jN at h2
   simp only at h2
   split at h2
   ·rename_i hi
    cases h2
    rw [hb _ _ _ hn hi]
    rfl
   ·cases h2
  ·cases h1
 ·split at h1
  ·rename_i hn hm
   cases h1
   unfold jN at h2
   simp only at h2
   split at h2
   ·rename_i hi hj
    cases h2
    rw [hb _ _ _ hn hi,hb _ _ _ hm hj]
    rfl
   ·cases h2
  ·cases h1
 ·cases h1
 ·rename_i q1 q0 q2 q5 q3 q4 q6 q7 q9 q8
  cases h1
  cases c with
  |tr g n k=>exact absurd rfl (q9 g n k)
  |ptr n o=>exact absurd rfl (q1 n o)
  |fn g n=>exact absurd rfl (q0 g n)
  |own n=>exact absurd rfl (q2 n)
  |mp n=>exact absurd rfl (q5 n)
  |rp n i j=>exact absurd rfl (q4 n i j)
  |nw n o=>exact absurd rfl (q6 n o)
  |ux g n o=>exact absurd rfl (q7 g n o)
  |vw n l=>exact absurd rfl (q8 n l)
  |sl tk ct=>cases tk with
   |none=>simp [jN,SC.qe] at h2 ⊢;exact h2.symm
   |some p=>exact absurd rfl (q3 p.1 p.2 ct)
  |_=>simp [jN,SC.qe] at h2 ⊢;exact h2.symm
theorem qx {m ns:List (Nat × Nat)} (hb:∀ n i n',look m n=some i→look ns i=some n'→n' = n):∀ {cs c1 c2:List SC},oH m cs=some c1→oH ns c1=some c2→c2=cs.map SC.qe
 |[],_,_,h1,h2=>by cases h1;cases h2;rfl
 |c :: cs,_,_,h1,h2=>by
  unfold oH at h1
  split at h1
  ·rename_i a b ha hb'
   cases h1
   unfold oH at h2
   split at h2
   ·rename_i a' b' ha' hb''
    cases h2
    rw [Df hb ha ha',qx hb hb' hb'']
    rfl
   ·cases h2
  ·cases h1
theorem Dg {m ns:List (Nat × Nat)} (hb:∀ n i n',look m n=some i→look ns i=some n'→n' = n) {b b1 b2:dP} (h1:Cl m b=some b1) (h2:Cl ns b1=some b2):Alike (some b) (some b2):=by
 cases b with
 |cells t cs =>
  simp only [Cl] at h1
  split at h1
  ·rename_i xs hx
   cases h1
   simp only [Cl] at h2
   split at h2
   ·rename_i ys hy
    cases h2
    exact .inr ⟨t,cs,rfl,by rw [qx hb hx hy]⟩
   ·cases h2
  ·cases h1
 |_=>cases h1;cases h2;exact .inl rfl
theorem EW {Gn:Gm} (hm:Mem Gn) {h:H} (hal:∀ n,Alike (ak h n) (ak Gn.h n)):Ext Gn ⟨Gn.o,h,Gn.bs,Gn.w⟩∧Mem ⟨Gn.o,h,Gn.bs,Gn.w⟩:=by
 have ha:∀ n,alive h n→alive Gn.h n:=by
  rintro n ⟨k,h1,h2⟩
  rcases hal n with e | ⟨t,cs,e1,e2⟩
  ·exact⟨k,by rw [← e];exact h1,h2⟩
  ·exact⟨_,e2,rfl⟩
 have hsub:Sub Gn ⟨Gn.o,h,Gn.bs,Gn.w⟩:=⟨fun b j hk=>⟨hk.lt,hk.old,fun n hn g m ho e=>hk.own n (ha n hn) g m ho e⟩,fun _ _ _=>rfl,hY.refl _⟩
 have hext:Ext Gn ⟨Gn.o,h,Gn.bs,Gn.w⟩:=by
  refine⟨hsub,fun n k hk=>?_⟩
  rcases hal n with e | ⟨t,cs,e1,e2⟩
  ·refine⟨k,e.trans hk,?_⟩
   cases k with
   |row t c=>exact⟨rfl,rfl,rfl⟩
   |tok=>exact⟨rfl,fun _ _ _=>rfl⟩
   |cells=>rfl
   |emp=>rfl
   |mp=>rfl
   |eK=>rfl
   |cg=>exact⟨rfl,rfl,rfl⟩
   |dead=>trivial
  ·rw [e2] at hk
   cases hk
   exact⟨_,e1,rfl⟩
 refine⟨hext,hm.os,hm.tape,hm.output,hm.size,hm.block,hm.mI,fun n hn=>hm.own n (ha n hn),fun n n' hn hn'=>hm.inj n n' (ha n hn) (ha n' hn'),fun n k hk=>?_,hm.AS⟩
 have hk:ak h n=some k:=hk
 rcases hal n with e | ⟨t,cs,e1,e2⟩
 ·have hb:=hm.gm n k (by rw [← e];exact hk)
  cases k with
  |cells t cs =>
   obtain⟨g,vs,q1,q2,q3⟩:=hb
   exact⟨g,vs,q1,q2,q3.ext hext⟩
  |row t c =>
   rcases hb with hb | ⟨g,pre,vs,rest,q1,q2,q3,q4⟩
   ·exact .inl hb
   ·exact .inr ⟨g,pre,vs,rest,q1,q2,q3.sub hsub,q4⟩
  |emp t=>exact hb
  |_=>trivial
 ·rw [e1] at hk
  cases hk
  obtain⟨g,vs,q1,q2,q3⟩:=hm.gm n _ e2
  exact⟨g,vs,q1,q2,oY (q3.ext hext)⟩
theorem ta {f : FuncId} (hcon : ∃ fn, P.funcs[f]? = some fn ∧ fn.body.isNone = false ∧ (fn.name == "runtime.NumGoroutine") = false) {o : Oper} {c : Call} (ho : o.op = .call c) {x : Operand} (hf : c.callee = .value x) {cb : Array Value} (hx : a.eval x = .func (.func f) #[] cb) {R : Ending → World → Prop} (hcs : Calls P f (c.args.map a.eval ++ cb) w R)
  {K:Act→World→Prop} {Q:Exit→Act→World→Prop} (hK:∀ e w',R e w'→∃ v,e = .returned v∧K (a.put o.dst v) w'):o.wp P a w K Q:=by
 obtain⟨fn,g1,g2,g3⟩:=hcon
 have hrun:(execOp a.eval o).run P w = .ok (.enter f (c.args.map a.eval ++ cb)) w:=by
  have g2' : ¬fn.body=none:=fun e=>by simp [e] at g2
  have g3' : ¬ fn.name = "runtime.NumGoroutine" := by simpa using g3
  simp [execOp,ho,resolve,hf,hx,Deferred.ofValue,invoke,callFunc,g1,g2',g3']
 unfold Oper.wp
 rw [hrun,Oper.upon_enter]
 refine hcs.mono fun e w' h=>?_
 obtain⟨v,rfl,hk⟩:=hK e w' h
 exact hk
theorem Cu (hr:cU bs gv st ν a w) {o:Oper} {f:Fn} {first cap:Array Operand} (ho:o.op = .makeFunc f first cap) {E:cr} (h:BK f (first.toList.map (aG st)) (cap.toList.map (aG st))=some E) (hs:E.side):cq P o a w (eZ bs st ν w E):=by
 unfold BK at h
 split at h
 ·rename_i g gd n h1 h2
  obtain⟨y,hy,he⟩:∃ y,cap.toList=[y]∧aG st y=⟨gd,.sa (.one (.ptr n 0))⟩:=by
   cases hc:cap.toList with
   |nil=>rw [hc] at h2;cases h2
   |cons y l =>
    rw [hc] at h2
    simp only [List.map_cons,List.cons.injEq,List.map_eq_nil_iff] at h2
    exact⟨y,by rw [h2.2],h2.1⟩
  have hf:first = #[]:=by
   have:first.toList=[]:=List.map_eq_nil_iff.1 h1
   exact Array.toList_eq_nil_iff.1 this
  have hcap:cap = #[y]:=by
   apply Array.ext'
   simpa using hy
  have hv:=aP hr y
  rw [he] at hv
  refine bq hr.mem h (v:=.func (.func g) #[] #[a.eval y]) (fun _=>?_) (fun hs=>?_) hs
  ·subst hf hcap
   simp [execOp,ho,Instr.makeFunc]
  ·unfold bV at h
   cases h
   obtain⟨⟨A,hA⟩,hp⟩:=hv.of hs
   rw [hA] at hp ⊢
   refine⟨⟨A,rfl⟩,?_⟩
   unfold bu at hp
   unfold qZ
   cases hk:ak (gg bs st ν w).h n with
   |none=>rw [hk] at hp;exact hp.elim
   |some k =>
    rw [hk] at hp
    cases k with
    |cells t cs =>
     obtain⟨b,g1,g2⟩:=hp
     exact⟨b,g1,by rw [g2]⟩
    |row t c =>
     obtain⟨b,g1,g2⟩:=hp
     exact⟨b,g1,by rw [g2]⟩
    |eK c=>trivial
    |cg _ _ _=>trivial
    |dead=>trivial
    |_=>exact hp.elim
 ·rename_i g gd n o9 h1 h2
  obtain⟨y,hy,he⟩:∃ y,cap.toList=[y]∧aG st y=⟨gd,.sa (.one (.nw n o9))⟩:=by
   cases hc:cap.toList with
   |nil=>rw [hc] at h2;cases h2
   |cons y l =>
    rw [hc] at h2
    simp only [List.map_cons,List.cons.injEq,List.map_eq_nil_iff] at h2
    exact⟨y,by rw [h2.2],h2.1⟩
  have hf:first = #[]:=by
   have:first.toList=[]:=List.map_eq_nil_iff.1 h1
   exact Array.toList_eq_nil_iff.1 this
  have hcap:cap = #[y]:=by
   apply Array.ext'
   simpa using hy
  have hv:=aP hr y
  rw [he] at hv
  refine bq hr.mem h (v:=.func (.func g) #[] #[a.eval y]) (fun _=>?_) (fun hs=>?_) hs
  ·subst hf hcap
   simp [execOp,ho,Instr.makeFunc]
  ·unfold bV at h
   cases h
   obtain⟨b,e,hp⟩:=hv.of hs
   exact⟨b,by rw [e],hp⟩
 ·rename_i g gd n gd' k h1 h2
  obtain⟨y,z,hy,he,he'⟩:∃ y z,cap.toList=[y,z]∧aG st y=⟨gd,.sa (.one (.ptr n 0))⟩∧aG st z=⟨gd',.sa (.one (.ptr k 0))⟩:=by
   cases hc:cap.toList with
   |nil=>rw [hc] at h2;cases h2
   |cons y l =>
    rw [hc] at h2
    cases l with
    |nil=>simp at h2
    |cons z l =>
     simp only [List.map_cons,List.cons.injEq,List.map_eq_nil_iff] at h2
     exact⟨y,z,by rw [h2.2.2],h2.1,h2.2.1⟩
  have hf:first = #[]:=by
   have:first.toList=[]:=List.map_eq_nil_iff.1 h1
   exact Array.toList_eq_nil_iff.1 this
  have hcap:cap = #[y,z]:=by
   apply Array.ext'
   simpa using hy
  have hv:=aP hr y
  rw [he] at hv
  have hv':=aP hr z
  rw [he'] at hv'
  refine bq hr.mem h (v:=.func (.func g) #[] #[a.eval y,a.eval z]) (fun _=>?_) (fun hs=>?_) hs
  ·subst hf hcap
   simp [execOp,ho,Instr.makeFunc]
  ·unfold bV at h
   cases h
   exact⟨_,_,rfl,hv.of hs.1,hv'.of hs.2⟩
 ·cases h
theorem Bl {e:bz} {s:Prop}:Vn e s↔need e.g∧s:=by
 unfold Vn need
 cases e.g with
 |none=>exact⟨fun h=>⟨trivial,h⟩,fun h=>h.2⟩
 |some b=>exact Iff.rfl
theorem PW {e:bz} {s:Prop} (h:need e.g):Vn e s=s:=propext (Bl.trans ⟨fun q=>q.2,fun q=>⟨h,q⟩⟩)
theorem zy (hr:cU bs gv st ν a w) {x:Operand} {f:Nat} (h:SX (aG st x)=some f) (hg:need (aG st x).g):a.eval x = .func (.func f) #[] #[]:=by
 have hv:=aP hr x
 unfold SX at h
 split at h
 ·rename_i g f' heq
  cases h
  rw [heq] at hv hg
  cases g with
  |none=>exact hv
  |some b =>
   have hb:b=true:=hg
   subst hb
   exact hv
 ·cases h
theorem uT {kp:Bool} {h:H} {u:Nat} {bJ:aW} {s:Prop} {vs:List SA} {E:cr} (hE:en kp h u bJ s vs=some E) (hs:E.side):s:=by
 unfold en at hE
 dsimp only at hE
 split at hE
 ·split at hE
  ·split at hE
   ·split at hE
    ·cases hE
     exact hs.1
    ·cases hE
   ·cases hE
  ·cases hE
 ·cases hE
theorem vP {kp:Bool} {h:H} {u:Nat} {bJ:aW} {s:Prop} {vs:List SA} {E:cr} (hE:fQ kp h u bJ s vs=some E) (hs:E.side):s:=by
 unfold fQ at hE
 split at hE
 ·rename_i E' hE'
  cases hE
  exact uT hE' hs
 ·unfold eB at hE
  dsimp only at hE
  split at hE
  ·split at hE
   ·split at hE
    ·split at hE
     ·split at hE
      ·cases hE
       exact hs.1
      ·cases hE
       exact hs.1
     ·cases hE
    ·cases hE
   ·cases hE
  ·cases hE
theorem QW (hr:cU bs gv st ν a w) {x:Operand} {f:Nat} {n:List SA} (h:Vy (aG st x)=some (f,n)):∃ u:List Value,a.eval x = .func (.func f) #[] u.toArray∧bh (gg bs st ν w) n u:=by
 have hv:=aP hr x
 unfold Vy at h
 split at h
 ·rename_i g m heq
  cases h
  rw [heq] at hv
  obtain⟨⟨A,hA⟩,hp⟩:=hv
  refine⟨[_],hA,⟨⟨A,rfl⟩,?_⟩,trivial⟩
  unfold qZ at hp
  unfold bu
  rw [hA] at hp
  cases hk:ak (gg bs st ν w).h m with
  |none=>rw [hk] at hp;exact hp.elim
  |some k =>
   rw [hk] at hp
   cases k with
   |cells t cs =>
    obtain⟨b,g1,g2⟩:=hp
    simp at g2
    exact⟨b,g1,by rw [g2]⟩
   |row t c =>
    obtain⟨b,g1,g2⟩:=hp
    simp at g2
    exact⟨b,g1,by rw [g2]⟩
   |eK c=>trivial
   |cg _ _ _=>trivial
   |dead=>trivial
   |_=>exact hp.elim
 ·rename_i g m o heq
  cases h
  rw [heq] at hv
  obtain⟨b,e,hp⟩:=hv
  exact⟨[_],e,⟨b,rfl,hp⟩,trivial⟩
 ·rename_i g m k heq
  cases h
  rw [heq] at hv
  obtain⟨p,q,e,h1,h2⟩:=hv
  exact⟨[p,q],e,h1,h2,trivial⟩
 ·cases h
theorem mz {G:Gm}:∀ {xs ys:List SA} {us vs:List Value},bh G xs us→bh G ys vs→bh G (xs ++ ys) (us ++ vs)
 |[],_,[],_,_,h=>h
 |[],_,_ :: _,_,h,_=>h.elim
 |_ :: _,_,[],_,h,_=>h.elim
 |_ :: _,_,_ :: _,_,⟨a,b⟩,h=>⟨a,mz b h⟩
theorem AJ (hc:cm P cx) (hr:cU bs gv st ν a w) {o:Oper} {c:Call} {f:FuncId} {u:Nat} (ho:o.op = .call c) {x:Operand} (hf:c.callee = .value x) {cb:List Value} (hx:a.eval x = .func (.func f) #[] cb.toArray) {bJ:aW} (hf6:dr f 999999=true) (hcon:look cx.fs f=some bJ) {kp:Bool} (hkp:kp=true→bY bJ) {vs:List SA} {Nd:Prop} (hv:Nd→bh (gg bs st ν w) vs (c.args.toList.map a.eval ++ cb))
  {E:cr} (h:en kp st.heap u bJ Nd vs=some E) (hs:E.side) {K:Act→World→Prop} {Q:Exit→Act→World→Prop} (hK:∀ v w',eZ bs st ν w E v w'→K (a.put o.dst v) w'):o.wp P a w K Q:=by
 obtain⟨hfn,hcall⟩:=hc.fs f bJ hf6 hcon
 unfold en at h
 simp only at h
 generalize hseen:reach 200 st.heap (vs.flatMap bg) []=seen at h
 split at h
 ·rename_i args h0 hargs hh0
  split at h
  ·rename_i p hp
   split at h
   ·rename_i r h1 hr1 hh1
    split at h
    ·rename_i hchk
     cases h
     simp only [Bool.and_eq_true] at hchk
     obtain⟨c1,c2,c3,c4⟩:=hchk
     obtain⟨n1,hC,⟨l1,_,l3,l4⟩,⟨m1,m2,_,m4⟩,hcomp,hrps⟩:=hs
     have hargv:=hv n1
     have l3:=qi (fun n b=>kO (h:=st.heap) (n:=n) (b:=b)) l3
     have l4:=ny (fun n b=>kO (h:=st.heap) (n:=n) (b:=b)) l4
     obtain⟨hle,hmc⟩:=gA (G:=gg bs st ν w) (fr:=false) (Gn:=⟨eL (bI (bG 0 seen)) ν,h0,⟨w,(gg bs st ν w).ok,fun g=>∃ k q,k∈kept (bI (bG 0 seen)) h0∧alive st.heap k∧ν k=some (g,q)⟩,w⟩) hr.mem l1 l4 rfl (.inr ⟨rfl,rfl⟩)
     have hcs:=hcall args h0 p hp hC _ (c.args.toList.map a.eval ++ cb) rfl rfl hmc (ET (by rw [aL c4];exact hargv.len) (kZ hle l3 (yQ hargv)))
     have hargs' : (c.args.toList.map a.eval ++ cb).toArray=c.args.map a.eval ++ cb.toArray:=by
      apply Array.ext'
      simp
     rw [hargs'] at hcs
     refine ta hfn ho hf hx hcs ?_
     rintro e w' ⟨v,G',rfl,rfl,hb',hh',hm',hrv,hasv⟩
     refine⟨v,rfl,hK _ _ ?_⟩
     have m4:iN ⟨bI (names (bO seen args h0 p.h vs p.as) (bM u) p.h),G'.h,h1,kept (bI (names (bO seen args h0 p.h vs p.as) (bM u) p.h)) h1,false⟩ h1:=by rw [hh'];exact m4
     have m2:gV ⟨bI (names (bO seen args h0 p.h vs p.as) (bM u) p.h),G'.h,h1,kept (bI (names (bO seen args h0 p.h vs p.as) (bM u) p.h)) h1,false⟩ (eP p.r) (eP r):=by rw [hh'];exact m2
     obtain⟨hle2,hmt⟩:=gA (G:=G') (fr:=false) (bs':=G'.bs) hm' m1 m4 rfl (.inl ⟨rfl,trivial⟩)
     have hrt:=sD hle2 (rJ hr1) m2 hrv
     have hroot:∀ n k k',ak st.heap n=some k→ak h1 n=some k'→match k,k' with
       |.cells _ _,.cells _ _=>eL (bI (names (bO seen args h0 p.h vs p.as) (bM u) p.h)) G'.o n=ν n
       |.row _ c,.row _ c'=>eL (bI (names (bO seen args h0 p.h vs p.as) (bM u) p.h)) G'.o n=ν n∧c'.sz=c.sz∧c'.n=c.n
       |.mp _,.mp _=>eL (bI (names (bO seen args h0 p.h vs p.as) (bM u) p.h)) G'.o n=ν n
       |_,_=>False:=by
      intro n k k' hk hk'
      obtain⟨i,b,_,q1,q2,q3⟩:=fY hh1 n k' hk'
      have q4:=eE q1
      have hro:look (bO seen args h0 p.h vs p.as) i=some n:=by
       rcases mF q4 with q|q
       ·exact q
       ·have:=iI c1 i n q4 q
        rw [hk] at this
        cases this
      have hcmp:=nx hcomp i n n q4 hro
      rw [hk,q2] at hcmp
      have hback:look (bI (names (bO seen args h0 p.h vs p.as) (bM u) p.h)) n=some i:=eV (List.all_eq_true.1 c3 (i,n) q4)
      have hoeq:eL (bI (names (bO seen args h0 p.h vs p.as) (bM u) p.h)) G'.o n=G'.o i:=by unfold eL;rw [hback]
      have hkk:eU ⟨bI (names (bO seen args h0 p.h vs p.as) (bM u) p.h),G'.h,h1,kept (bI (names (bO seen args h0 p.h vs p.as) (bM u) p.h)) h1,false⟩ b k':=by
       rcases kh m4 n k' hk' with ⟨i2,b0,z1,z2,z3⟩ | ⟨_,z2⟩
       ·have z1:look (bI (names (bO seen args h0 p.h vs p.as) (bM u) p.h)) n=some i2:=z1
        rw [hback] at z1
        cases z1
        have z2:ak G'.h i=some b0:=z2
        rw [hh',q2] at z2
        cases z2
        exact z3
       ·have z2:look (bI (names (bO seen args h0 p.h vs p.as) (bM u) p.h)) n=none:=z2
        rw [hback] at z2
        cases z2
      have hq2' : ak G'.h i=some b:=by rw [hh'];exact q2
      have hsame:(match k,b with
        |.cells _ _,.cells _ _=>True
        |.row _ _,.row _ _=>True
        |.mp _,.mp _=>True
        |_,_=>False)→G'.o i=ν n:=by
       intro hkinds
       have hkeepc:∀ b j u,cellAt (gg bs st ν w) b j u→G'.w.cell? ⟨b,j,none⟩=some u:=fun b j u hcu=>by
        have h9:=hm'.mI b j (by rw [hb'];exact hcu.ok.lt) (by rw [hb'];exact hcu.ok)
        rw [h9,hb']
        exact hcu.cell
       rcases List.mem_append.1 (eE hro) with hro|hro
       rotate_left
       ·obtain⟨⟨k3,i3,j3⟩,hj3,he3⟩:=List.mem_filterMap.1 hro
        simp only at he3
        split at he3
        ·rename_i hr3 hs3
         cases he3
         have hlen3:(c.args.toList.map a.eval ++ cb).length=vs.length:=hargv.len.symm
         have hz:=BC hasv (k3,i,j3) (by rw [hlen3];exact hj3)
         refine (hz (by rw [hh'];exact hr3)).trans ?_
         ·show eL (bI (bG 0 seen)) ν j3=ν n
          unfold eL
          have:=nC seen 0 j3
          rw [Nat.zero_add] at this
          rw [this,hs3]
        ·cases he3
       rcases vA hkeepc hargv hasv hrps i n hro with ⟨off,v0,z1,z2⟩ | ⟨v0,z1,z2⟩ | ⟨v0,z1,z2⟩ | ⟨x9,j9,v0,z1,z2⟩
       ·unfold bu at z1 z2
        have hk' : ak (gg bs st ν w).h n=some k:=hk
        rw [hk'] at z1
        rw [hq2'] at z2
        cases k <;> cases b <;> first|exact hkinds.elim|exact z1.elim|skip
        all_goals
         obtain⟨g1,y1,y2⟩:=z1
         obtain⟨g2,y3,y4⟩:=z2
         rw [y2] at y4
         cases y4
         exact y3.trans y1.symm
       ·unfold br at z1 z2
        have hk' : ak (gg bs st ν w).h n=some k:=hk
        rw [hk'] at z1
        rw [hq2'] at z2
        cases k <;> cases b <;> first|exact hkinds.elim|exact z1.elim|skip
        rcases z1 with ⟨_,y1,A1,y2⟩ | ⟨g1,o1,cap1,_,_,y1,y2,_,_,_,_,y5⟩ <;> rcases z2 with ⟨_,y3,A2,y4⟩ | ⟨g2,o2,cap2,_,_,y3,y4,_,_,_,_,y6⟩ <;> rw [y2] at y4
        ·exact y3.trans y1.symm
        ·have:=(Value.slice.inj y4).2.2
         omega
        ·have:=(Value.slice.inj y4).2.2
         omega
        ·simp only [Value.slice.injEq,Option.some.injEq,Addr.mk.injEq] at y4
         rw [y3,← y4.1.1,← y4.1.2.1]
         exact y1.symm
       ·unfold jP at z1 z2
        have hk' : ak (gg bs st ν w).h n=some k:=hk
        rw [hk'] at z1
        rw [hq2'] at z2
        cases k <;> cases b <;> first|exact hkinds.elim|exact z1.elim|skip
        obtain⟨g1,y1,y2⟩:=z1
        obtain⟨g2,y3,y4⟩:=z2
        rw [y2] at y4
        cases y4
        exact y3.trans y1.symm
       ·unfold eH at z1 z2
        have hk' : ak (gg bs st ν w).h n=some k:=hk
        rw [hk'] at z1
        rw [hq2'] at z2
        cases k <;> cases b <;> first|exact hkinds.elim|exact z1.elim|skip
        obtain⟨g1,o1,y1,_,y2⟩:=z1
        obtain⟨g2,o2,y3,_,y4⟩:=z2
        rw [y2,hcmp.2] at y4
        simp only [Value.pointer.injEq,Option.some.injEq,Addr.mk.injEq] at y4
        have e9:o2=o1:=by omega
        have y1:ν n=some (g1,o1):=y1
        rw [y3,y1,e9,y4.1]
      cases k with
      |cells t0 c0=>cases b with
       |cells t c=>cases k' with
        |cells t' c'=>exact hoeq.trans (hsame trivial)
        |_=>exact hkk.elim
       |_=>exact hcmp.elim
      |row t0 c0=>cases b with
       |row t c=>cases k' with
        |row t' c' =>
         have e:=eY hkk.2
         subst e
         refine⟨hoeq.trans (hsame trivial),hcmp.2,?_⟩
         have:=hcmp.1
         rw [Ct.cI,Ct.cI] at this
         exact_mod_cast this
        |_=>exact hkk.elim
       |_=>exact hcmp.elim
      |mp c0=>cases b with
       |mp c=>cases k' with
        |mp c'=>exact hoeq.trans (hsame trivial)
        |_=>exact hkk.elim
       |_=>exact hcmp.elim
      |_=>cases b <;> exact hcmp.elim
     obtain⟨hx,hmm,hxt⟩:=xn (G:=gg bs st ν w) hr.mem (S:=fun k=>k∈kept (bI (bG 0 seen)) h0) hmt (by show G'.bs=_;rw [hb'];rfl) (h'':=aI st.heap (eN (h1.map (·.1)) seen ++ h1)) (D:=fun n=>n∈seen∧kg n (h1.map (·.1))=false)
      (fun n b hb=>by
       have hb:ak h1 n=some b:=hb
       rw [dR,da c2,hb])
      (fun n hn hd=>by
       have hn:ak h1 n=none:=hn
       rw [dR,da c2,hn]
       simp only
       rw [eJ,if_pos hd])
      (fun n hn hd=>by
       have hn:ak h1 n=none:=hn
       rw [dR,da c2,hn]
       simp only
       rw [eJ,if_neg hd]
       rfl)
      (fun n hS hn=>by
       refine⟨iX hS,?_⟩
       cases hq:kg n (h1.map (·.1)) with
       |false=>rfl
       |true =>
        have hn:ak h1 n=none:=hn
        have hmem:=pA.1 hq
        exfalso
        exact Hd hmem hn)
      hroot rfl
     have plain:eZ bs st ν w ⟨True,⟨none,r⟩,eN (h1.map (·.1)) seen ++ h1⟩ v G'.w:=⟨_,hx,SV.is.ext hxt hrt,hmm⟩
     show ∃ ν',_∧_∧_
     dsimp only
     split
     ·rename_i hchk2
      simp only [Bool.and_eq_true] at hchk2
      obtain⟨k1,k2,k3⟩:=hchk2
      have hkeep:p.h=h0:=hkp k1 args h0 p hp
      obtain⟨x2,m2'⟩:=EW (Gn:=⟨_,_,_,_⟩) hmm (h:=st.heap) (fun n=>by
       show Alike (ak st.heap n) (ak (aI st.heap (eN (h1.map (·.1)) seen ++ h1)) n)
       rw [dR,da c2]
       have hback:∀ n i n',look (bG 0 seen) n=some i→look (names (bO seen args h0 p.h vs p.as) (bM u) p.h) i=some n'→n' = n:=by
        intro n i n' z1 z2
        have z3:=eV (List.all_eq_true.1 k2 (i,n') (eE z2))
        exact lW (eE z3) (eE z1)
       cases hq:ak h1 n with
       |some b' =>
        simp only
        obtain⟨i,b,_,q1,q2,q3⟩:=fY hh1 n b' hq
        rw [hkeep] at q2
        obtain⟨n2,b2,_,q4,q5,q6⟩:=fY hh0 i b q2
        have:=hback n2 i n q4 q1
        subst this
        rw [q5]
        exact Dg hback q6 q3
       |none =>
        simp only
        rw [eJ]
        split
        ·rename_i hd
         have:=List.all_eq_true.1 k3 n hd.1
         rw [hd.2] at this
         cases this
        ·exact .inl rfl)
      exact⟨_,Ext.trans hx x2,SV.is.ext x2 (SV.is.ext hxt hrt),m2'⟩
     ·exact plain
    ·cases h
   ·cases h
  ·cases h
 ·cases h
theorem ra {x y:SC} {v:Value} {ids:List Nat} (h:ki G.h x=some y) (hv:x.is G v) (hids:∀ n∈bp x,n∈ids) {Gf Gc:Gm} (hx:Ext G Gf) (hh:Gf.h=aI G.h (rowsOf G.h ids)) (hs:Sub Gf Gc):y.is Gc v:=by
 unfold ki at h
 split at h
 ·cases h
 ·cases h
 ·cases h
 ·cases h
 ·cases h
 ·cases h
 ·cases h
 ·cases h
 ·rename_i n
  have key:∀ c,jd G.h (.own n)=some c→(SC.sl none c).is Gc v:=fun c hc=>⟨Ct.is.sub hs (sy (x:=.own n) hc hv hids hx hh),trivial⟩
  split at h
  ·rename_i hk
   cases h
   exact key _ (by simp [jd,hk])
  ·rename_i hk
   cases h
   exact key _ (by simp [jd,hk])
  ·cases h
 ·cases h
  exact⟨Ct.is.sub (hx.toSub.trans hs) hv.1,trivial⟩
 ·cases h
  have hv2:=Mx hv
  have key:∀ c:SC,(∀ n o,c≠.ptr n o)→(∀ n i j,c≠.rp n i j)→(∀ n,c≠.own n)→(∀ tk ct,c≠.sl tk ct)→(∀ g n,c≠.fn g n)→(∀ n,c≠.mp n)→(∀ n o,c≠.nw n o)→(∀ g n o,c≠.ux g n o)→(∀ g n k,c≠.tr g n k)→(∀ n l,c≠.vw n l)→c.is G v→c.is Gc v:=by
   intro c h1 h2 h3 h4 h5 h6 h7 h8 h10 h9 hc
   cases c with
   |tr g n k=>exact absurd rfl (h10 g n k)
   |nw n o=>exact absurd rfl (h7 n o)
   |ux g n o=>exact absurd rfl (h8 g n o)
   |vw n l=>exact absurd rfl (h9 n l)
   |fn g n=>exact absurd rfl (h5 g n)
   |mp n=>exact absurd rfl (h6 n)
   |ptr n o=>exact absurd rfl (h1 n o)
   |rp n i j=>exact absurd rfl (h2 n i j)
   |own n=>exact absurd rfl (h3 n)
   |sl tk ct=>exact absurd rfl (h4 tk ct)
   |Mr k n =>
    obtain⟨b,o,e,hc⟩:=hc
    exact⟨b,o,e,hc.sub (hx.toSub.trans hs)⟩
   |CE s x j =>
    obtain⟨b,o,us,e,hc,hcs⟩:=hc
    exact⟨b,o,us,e,hc.sub (hx.toSub.trans hs),fun i u hu=>(hcs i u hu).sub (hx.toSub.trans hs)⟩
   |_=>exact hc
  refine key _ ?_ ?_ ?_ ?_ ?_ ?_ ?_ ?_ ?_ ?_ hv2
  all_goals
   intros
   unfold SC.qe
   split <;> simp_all
theorem pB {ids:List Nat} {Gf Gc:Gm} (hx:Ext G Gf) (hh:Gf.h=aI G.h (rowsOf G.h ids)) (hs:Sub Gf Gc):∀ {xs ys:List SC} {vs:List Value},gD G.h xs=some ys→aO G xs vs→(∀ n∈xs.flatMap bp,n∈ids)→aO Gc ys vs
 |[],ys,[],h,_,_=>by cases h;trivial
 |[],_,_ :: _,_,hv,_=>hv.elim
 |_ :: _,_,[],_,hv,_=>hv.elim
 |x :: xs,ys,v :: vs,h,⟨⟨h1,h2⟩,h3⟩,hids=>by
  unfold gD at h
  split at h
  ·rename_i y ys' e1 e2
   cases h
   exact⟨⟨ra e1 h1 (fun n hn=>hids n (by simp [hn])) hx hh hs,h2⟩,pB hx hh hs e2 h3 fun n hn=>hids n (by simp only [List.flatMap_cons,List.mem_append];exact .inr hn)⟩
  ·cases h
theorem CJ {x y:SA} {v:Value} {ids:List Nat} (h:iF G.h x=some y) (hv:x.is G v) (hids:∀ n∈bg x,n∈ids) {Gf Gc:Gm} (hx:Ext G Gf) (hh:Gf.h=aI G.h (rowsOf G.h ids)) (hs:Sub Gf Gc):y.is Gc v:=by
 cases x with
 |one c =>
  simp only [iF] at h
  split at h
  ·rename_i z hz
   cases h
   exact ra hz hv hids hx hh hs
  ·cases h
 |agg cs =>
  simp only [iF] at h
  split at h
  ·rename_i z hz
   cases h
   obtain⟨vs,e,hc⟩:=hv
   exact⟨vs,e,pB hx hh hs hz hc hids⟩
  ·cases h
 |fb c =>
  cases h
  obtain⟨vs,e,hc,h1⟩:=hv
  exact⟨vs,e,hc.sub (hx.toSub.trans hs),h1⟩
theorem pP {ids:List Nat} {Gf Gc:Gm} (hx:Ext G Gf) (hh:Gf.h=aI G.h (rowsOf G.h ids)) (hs:Sub Gf Gc):∀ {xs ys:List SA} {vs:List Value},ek G.h xs=some ys→bh G xs vs→(∀ n∈xs.flatMap bg,n∈ids)→bh Gc ys vs
 |[],ys,[],h,_,_=>by cases h;trivial
 |[],_,_ :: _,_,hv,_=>hv.elim
 |_ :: _,_,[],_,hv,_=>hv.elim
 |x :: xs,ys,v :: vs,h,⟨h1,h3⟩,hids=>by
  unfold ek at h
  split at h
  ·rename_i y ys' e1 e2
   cases h
   exact⟨CJ e1 h1 (fun n hn=>hids n (by simp [hn])) hx hh hs,pP hx hh hs e2 h3 fun n hn=>hids n (by simp only [List.flatMap_cons,List.mem_append];exact .inr hn)⟩
  ·cases h
theorem vR {c:SC} {v:Value} (hp:By c=true) (h:c.is G v):c.is G' v:=by
 cases c <;> first|exact h|cases hp
theorem sj:∀ {cs:List SC} {vs:List Value},cs.all By=true→aO G cs vs→aO G' cs vs
 |[],[],_,_=>trivial
 |[],_ :: _,_,h=>h.elim
 |_ :: _,[],_,h=>h.elim
 |_ :: _,_ :: _,hp,⟨⟨a,b⟩,c⟩=>by
  simp only [List.all_cons,Bool.and_eq_true] at hp
  exact⟨⟨vR hp.1 a,b⟩,sj hp.2 c⟩
theorem xp {x:SA} {v:Value} (hp:BU x=true) (h:x.is G v):x.is G' v:=by
 cases x with
 |one c=>exact vR hp h
 |agg cs =>
  obtain⟨vs,e,hc⟩:=h
  exact⟨vs,e,sj hp hc⟩
 |fb c=>cases hp
theorem rL:∀ {xs:List SA} {vs:List Value},xs.all BU=true→bh G xs vs→bh G' xs vs
 |[],[],_,_=>trivial
 |[],_ :: _,_,h=>h.elim
 |_ :: _,[],_,h=>h.elim
 |_ :: _,_ :: _,hp,⟨a,c⟩=>by
  simp only [List.all_cons,Bool.and_eq_true] at hp
  exact⟨xp hp.1 a,rL hp.2 c⟩
theorem GP {r:SV} {v:Value} (hp:Nb r=true) (h:r.is G v):r.is G' v:=by
 cases r with
 |sa x=>exact xp hp h
 |bB xs =>
  obtain⟨vs,e,hc⟩:=h
  exact⟨vs,e,rL hp hc⟩
theorem Ig (hc:cm P cx) (hr:cU bs gv st ν a w) {o:Oper} {c:Call} {f:FuncId} {u:Nat} (ho:o.op = .call c) {x:Operand} (hf:c.callee = .value x) (hx:SX (aG st x)=some f) (hg:need (aG st x).g) {bJ:aW} (hf6:dr f 999999=true) (hcon:look cx.fs f=some bJ) {vs:List SA} (hv:xG (c.args.toList.map (aG st))=some vs)
  {E:cr} (h:eB st.heap u bJ (dE (c.args.toList.map (aG st))) vs=some E) (hs:E.side) {K:Act→World→Prop} {Q:Exit→Act→World→Prop} (hK:∀ v w',eZ bs st ν w E v w'→K (a.put o.dst v) w'):o.wp P a w K Q:=by
 obtain⟨hfn,hcall⟩:=hc.fs f bJ hf6 hcon
 unfold eB at h
 simp only at h
 split at h
 ·rename_i args hargs
  split at h
  ·rename_i p hp
   split at h
   ·rename_i r h1 hr1 hh1
    split at h
    ·rename_i hchk
     simp only [Bool.and_eq_true] at hchk
     obtain⟨c1,c2,c3⟩:=hchk
     obtain⟨νf,xf,mf⟩:=vC (G:=gg bs st ν w) hr.mem (vs.flatMap bg)
     have mf:Mem ⟨νf,aI st.heap (rowsOf st.heap (vs.flatMap bg)),bs,w⟩:=mf
     obtain⟨hle,hmc⟩:=gA (m:=[]) (h':=[]) (fr:=false) (Gn:=⟨eL [] νf,[],⟨w,Gm.ok ⟨νf,aI st.heap (rowsOf st.heap (vs.flatMap bg)),bs,w⟩,fun g=>∃ k q,k∈kept [] []∧alive (aI st.heap (rowsOf st.heap (vs.flatMap bg))) k∧νf k=some (g,q)⟩,w⟩) mf rfl trivial rfl (.inr ⟨rfl,rfl⟩)
     have call:dE (c.args.toList.map (aG st))→p.C→Calls P f (c.args.map a.eval) w fun e w'=>∃ v G',e = .returned v∧G'.w=w'∧G'.bs=⟨w,Gm.ok ⟨νf,aI st.heap (rowsOf st.heap (vs.flatMap bg)),bs,w⟩,fun g=>∃ k q,k∈kept [] []∧alive (aI st.heap (rowsOf st.heap (vs.flatMap bg))) k∧νf k=some (g,q)⟩∧G'.h=p.h∧Mem G'∧p.r.is G' v:=by
      intro n1 hC
      have hargv:=fO hr hv n1
      have hcs:=hcall args [] p hp hC _ (c.args.toList.map a.eval) rfl rfl hmc (pP (G:=gg bs st ν w) xf rfl hle.sub hargs hargv fun n hn=>hn)
      have hargs' : (c.args.toList.map a.eval).toArray=c.args.map a.eval:=by
       apply Array.ext'
       simp
      rw [hargs'] at hcs
      refine hcs.mono ?_
      rintro e w' ⟨v,G',q1,q2,q3,q4,q5,q6,_⟩
      exact⟨v,G',q1,q2,q3,q4,q5,q6⟩
     split at h
     ·rename_i hpu
      simp only [Bool.and_eq_true] at hpu
      cases h
      refine ta hfn ho hf (zy hr hx hg) (call hs.1 hs.2) ?_
      rintro e w' ⟨v,G',rfl,rfl,hb',hh',hm',hrv⟩
      have hW:G'.bs.W=w:=by rw [hb']
      have hbelow:Below w.heap.size w G'.w:=by
       refine⟨?_,?_,?_,?_,fun k hk=>?_⟩
       ·have:=hm'.os;rwa [hW] at this
       ·have:=hm'.tape;rwa [hW] at this
       ·have:=hm'.output;rwa [hW] at this
       ·have:=hm'.size;rwa [hW] at this
       ·have:=hm'.block k (by rw [hW];exact hk) (by
         rw [hb']
         rintro⟨_,_,h,_⟩
         cases h)
        rwa [hW] at this
      obtain⟨hx,hmm⟩:=mq (G:=gg bs st ν w) hr.mem hbelow
      exact⟨v,rfl,hK _ _ ⟨ν,hx,GP hpu.1 hrv,hmm⟩⟩
     ·cases h
      obtain⟨n1,hC,m1,m2,_,m4⟩:=hs
      refine ta hfn ho hf (zy hr hx hg) (call n1 hC) ?_
      rintro e w' ⟨v,G',rfl,rfl,hb',hh',hm',hrv⟩
      refine⟨v,rfl,hK _ _ ?_⟩
      have m4:iN ⟨bI (names [] (bM u) p.h),G'.h,h1,kept (bI (names [] (bM u) p.h)) h1,false⟩ h1:=by rw [hh'];exact m4
      have m2:gV ⟨bI (names [] (bM u) p.h),G'.h,h1,kept (bI (names [] (bM u) p.h)) h1,false⟩ (eP p.r) (eP r):=by rw [hh'];exact m2
      obtain⟨hle2,hmt⟩:=gA (G:=G') (fr:=false) (bs':=G'.bs) hm' m1 m4 rfl (.inl ⟨rfl,trivial⟩)
      have hrt:=sD hle2 (rJ hr1) m2 hrv
      have hnew:∀ n b,ak h1 n=some b→ak st.heap n=none:=by
       intro n b hb
       obtain⟨i,b0,_,q1,q2,q3⟩:=fY hh1 n b hb
       exact iI c1 i n (eE q1) rfl
      have hrowsn:∀ {l:H},(∀ q∈l,ak st.heap q.1≠none)→∀ {h:H} {n:Nat},ak st.heap n=none→ak (aI h l) n=ak h n:=by
       intro l
       induction l with
       |nil=>intro _ h n _;rfl
       |cons q l ih =>
        intro hq h n hn
        show ak (aI (aS h q.1 q.2) l) n=_
        rw [ih (fun r hr=>hq r (List.mem_cons_of_mem _ hr)) hn,aN _ _ (fun e=>hq q (List.mem_cons_self ..) (by rw [e];exact hn))]
      have hrn:∀ n,ak st.heap n=none→ak (aI st.heap (rowsOf st.heap (vs.flatMap bg))) n=none:=by
       intro n hn
       rw [hrowsn (fun q hq=>by
        obtain⟨c0,t0,_,e2⟩:=dF q hq
        rw [e2]
        simp) hn]
       exact hn
      obtain⟨hx,hmm,hxt⟩:=xn (G:=⟨νf,aI st.heap (rowsOf st.heap (vs.flatMap bg)),bs,w⟩) mf (S:=fun k=>k∈kept [] []) hmt (by show G'.bs=_;rw [hb']) (h'':=aI st.heap (rowsOf st.heap (vs.flatMap bg) ++ h1)) (D:=fun _=>False)
       (fun n b hb=>by
        have hb:ak h1 n=some b:=hb
        rw [dR,da c2,hb])
       (fun n hn hd=>hd.elim)
       (fun n hn hd=>by
        have hn:ak h1 n=none:=hn
        rw [dR,da c2,hn])
       (fun n hS hn=>by cases hS)
       (fun n k k' hk hk'=>by
        have:=hrn n (hnew n k' hk')
        rw [this] at hk
        cases hk) rfl
      exact⟨_,xf.trans hx,SV.is.ext hxt hrt,hmm⟩
    ·cases h
   ·cases h
  ·cases h
 ·cases h
theorem yx (hc:cm P cx) (hr:cU bs gv st ν a w) {o:Oper} {u:Nat} {E:cr} (h:dm Ar.U cx st u o.op=some E) (hs:E.side) {K:Act→World→Prop} {Q:Exit→Act→World→Prop}
  (hK:∀ v w',eZ bs st ν w E v w'→K (a.put o.dst v) w'):o.wp P a w K Q:=by
 cases ho:o.op with
 |move x=>rw [ho] at h;simp only [dm] at h;cases h;exact (Au hr (.inl ho)).wp hK
 |assign x=>rw [ho] at h;simp only [dm] at h;cases h;exact (Au hr (.inr ho)).wp hK
 |pick c x y=>rw [ho] at h;exact (MC hr ho h hs).wp hK
 |binOp op t x y t'=>rw [ho] at h;exact (Pz hc hr ho h hs).wp hK
 |unOp op t x=>rw [ho] at h;exact (SR hr ho h hs).wp hK
 |convert t u' x=>rw [ho] at h;exact (Jw hc hr ho h hs).wp hK
 |nilCheck x=>rw [ho] at h;exact (QU hr ho h hs).wp hK
 |alloc t=>rw [ho] at h;exact (Ed hc hr ho h hs).wp hK
 |box t x =>
  rw [ho] at h
  simp only [dm] at h
  split at h
  ·exact (LB hr ho h hs).wp hK
  ·exact (OX hr ho h hs).wp hK
 |load t x=>rw [ho] at h;exact (Lj hc hr ho h hs).wp hK
 |store t x y=>rw [ho] at h;exact (Ei hc hr ho h hs).wp hK
 |fieldAddr t x f=>rw [ho] at h;exact (uF hc hr ho h hs).wp hK
 |field t x f=>rw [ho] at h;exact (Gi hc hr ho h hs).wp hK
 |build t ps=>rw [ho] at h;exact (Ij hc hr ho h hs).wp hK
 |buildSlice t n ps=>rw [ho] at h;exact (qK hc hr ho h hs).wp hK
 |makeSlice t l c=>rw [ho] at h;exact (Jr hc hr ho h hs).wp hK
 |indexAddr t x y=>rw [ho] at h;exact (tv hc hr ho h hs).wp hK
 |index t x y=>rw [ho] at h;exact (IJ hc hr ho h hs).wp hK
 |slice t x lo hi mx =>
  rw [ho] at h
  simp only [dm] at h
  split at h
  ·split at h
   ·exact (JY hc hr ho h hs).wp hK
   ·exact (Jh hc hr ho h hs).wp hK
  ·split at h
   ·exact (KY hc hr ho h hs).wp hK
   ·exact (Ir hc hr ho h hs).wp hK
 |extract x i=>rw [ho] at h;exact (zd hr ho h hs).wp hK
 |makeMap t hint=>rw [ho] at h;exact (EJ hr ho h).wp hK
 |lookup t m x k=>rw [ho] at h;exact (look_ok hc hr ho h hs).wp hK
 |mapUpdate t m x y=>rw [ho] at h;exact (Oq hc hr ho h hs).wp hK
 |makeFunc f first cap =>
  rw [ho] at h
  simp only [dm] at h
  exact (Cu hr ho h hs).wp hK
 |call c =>
  rw [ho] at h
  simp only [dm] at h
  unfold nU at h
  split at h
  ·rename_i x hf
   split at h
   ·rename_i f hx
    split at h
    ·rename_i bJ vs hf6 hcon hv
     have hg:=(Bl.1 (vP h hs)).1
     rw [PW hg] at h
     unfold fQ at h
     split at h
     ·rename_i E' hE
      cases h
      refine AJ (cb:=[]) hc hr ho hf (zy hr hx hg) hf6 hcon (fun hk=>?_) (fun n1=>by rw [List.append_nil];exact fO hr hv n1) hE hs hK
      split at hk
      ·rename_i q hq
       exact hc.kp f bJ hf6 ⟨q,hq⟩ hcon
      ·cases hk
     ·exact Ig hc hr ho hf hx hg hf6 hcon hv h hs hK
    ·cases h
   ·split at h
    ·rename_i f n hx
     split at h
     ·rename_i bJ vs hf6 hcon hv
      obtain⟨A,hA,hp⟩:=QW hr hx
      refine AJ (cb:=A) (vs:=vs ++ n) hc hr ho hf hA hf6 hcon (fun hk=>?_) (fun n1=>mz (fO hr hv n1) hp) h hs hK
      split at hk
      ·rename_i q hq
       exact hc.kp f bJ hf6 ⟨q,hq⟩ hcon
      ·cases hk
     ·cases h
    ·cases h
  ·rename_i hf
   split at h
   ·rename_i t x ht hv
    exact (Pt hc hr ho hf ht hv h hs).wp hK
   ·cases h
  ·rename_i hf
   split at h
   ·rename_i t t' x y ht hv
    split at h
    ·rename_i g0 q e0 sz0 n0 zz bb ff hl0
     split at h
     ·rename_i n hq
      exact (Kb hc hr ho hf ht hv rfl hl0 hq h hs).wp hK
     ·split at h
      ·rename_i n c1 hq
       exact (LW hc hr ho hf ht hv rfl hl0 hq h hs).wp hK
      ·split at h
       ·exact (LA hc hr ho hf ht hv h hs).wp hK
       ·exact (Om hc hr ho hf ht hv h hs).wp hK
    ·cases h
   ·cases h
  ·rename_i hf
   split at h
   ·rename_i t ts x y ht hv
    exact (JL hc hr ho hf ht hv h hs).wp hK
   ·cases h
  ·rename_i hf
   split at h
   ·rename_i t x ht hv
    exact (Ek hc hr ho hf ht hv h hs).wp hK
   ·cases h
  ·rename_i hf
   split at h
   ·rename_i x l hv
    split at h
    ·rename_i k m hx
     split at h
     ·rename_i n hn
      refine cq.wp (bq hr.mem h (v:=.int k n) (fun hs=>?_) (fun hs=>rfl) hs) hK
      cases h
      have hvs:=fO hr hv hs
      generalize hu:c.args.toList.map a.eval=us at hvs
      cases us with
      |nil=>exact hvs.elim
      |cons u us =>
       obtain⟨h1,h2⟩:=hvs
       have e:=aV hx h1
       subst e
       have:=Fc (P:=P) (w:=w) hn h2
       simp [execOp,ho,resolve,hf,invoke,builtin,Builtin.min_,hu,this]
     ·cases h
    ·cases h
   ·cases h
  ·rename_i hf
   split at h
   ·rename_i x l hv
    split at h
    ·rename_i k m hx
     split at h
     ·rename_i n hn
      refine cq.wp (bq hr.mem h (v:=.int k n) (fun hs=>?_) (fun hs=>rfl) hs) hK
      cases h
      have hvs:=fO hr hv hs
      generalize hu:c.args.toList.map a.eval=us at hvs
      cases us with
      |nil=>exact hvs.elim
      |cons u us =>
       obtain⟨h1,h2⟩:=hvs
       have e:=aV hx h1
       subst e
       have:=Gb (P:=P) (w:=w) hn h2
       simp [execOp,ho,resolve,hf,invoke,builtin,Builtin.max_,hu,this]
     ·cases h
    ·cases h
   ·cases h
  ·cases h
 |_=>rw [ho] at h;simp [dm] at h
end
end Go.Proofs.YtakebkfhigadiaaGreat.Ry
