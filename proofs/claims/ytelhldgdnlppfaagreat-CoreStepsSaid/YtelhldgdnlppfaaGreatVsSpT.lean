/-
  The code's forests,and the answer's,are those of the theory. No condition.
-/
import Derived.Test.YtelhldgdnlppfaaGreatVsRy
import Derived.Test.YtelhldgdnlppfaaGreatVsW27
import Derived.Test.YtelhldgdnlppfaaGreatVsW27
namespace Go.Proofs.YtelhldgdnlppfaaGreat.SpK
abbrev T:=Int × Int × Int
inductive Cn (l:List T) (a:Int):Int→Prop
 |refl:Cn l a a
 |one {b c:Int} {y:T}:Cn l a b→y∈l→(y.1=b∧y.2.1=c∨y.2.1=b∧y.1=c)→Cn l a c
theorem bN {l:List T} {a b c:Int} (h:Cn l a b) (g:Cn l b c):Cn l a c:=by
 induction g with
 |refl=>exact h
 |one _ hy e ih=>exact .one ih hy e
theorem pf {l:List T} {y:T} (h:y∈l):Cn l y.1 y.2.1:=.one .refl h (.inl ⟨rfl,rfl⟩)
theorem Gu {l:List T} {y:T} (h:y∈l):Cn l y.2.1 y.1:=.one .refl h (.inr ⟨rfl,rfl⟩)
theorem fM {l:List T} {a b:Int} (h:Cn l a b):Cn l b a:=by
 induction h with
 |refl=>exact .refl
 |one _ hy e ih =>
  rcases e with ⟨rfl,rfl⟩ | ⟨rfl,rfl⟩
  ·exact bN (Gu hy) ih
  ·exact bN (pf hy) ih
theorem NM {l k:List T} (h:∀ y∈l,Cn k y.1 y.2.1) {a b:Int} (g:Cn l a b):Cn k a b:=by
 induction g with
 |refl=>exact .refl
 |one _ hy e ih =>
  rcases e with ⟨rfl,rfl⟩ | ⟨rfl,rfl⟩
  ·exact bN ih (h _ hy)
  ·exact bN ih (fM (h _ hy))
theorem lP {l k:List T} (h:∀ y∈l,y∈k) {a b:Int} (g:Cn l a b):Cn k a b:=NM (fun y hy=>pf (h y hy)) g
theorem RO {l k:List T} (h:∀ y,y∈l↔y∈k) (a b:Int):Cn l a b↔Cn k a b:=⟨lP fun y hy=>(h y).1 hy,lP fun y hy=>(h y).2 hy⟩
theorem yN {l:List T} {y:T} {a b:Int}:Cn (y :: l) a b↔Cn l a b∨(Cn l a y.1∧Cn l y.2.1 b)∨(Cn l a y.2.1∧Cn l y.1 b):=by
 constructor
 ·intro h
  induction h with
  |refl=>exact .inl .refl
  |one _ hy e ih =>
   rcases List.mem_cons.1 hy with rfl|hy
   ·rcases e with ⟨rfl,rfl⟩ | ⟨rfl,rfl⟩
    ·rcases ih with ih | ⟨i,j⟩ | ⟨i,j⟩
     ·exact .inr (.inl ⟨ih,.refl⟩)
     ·exact .inr (.inl ⟨i,.refl⟩)
     ·exact .inl i
    ·rcases ih with ih | ⟨i,j⟩ | ⟨i,j⟩
     ·exact .inr (.inr ⟨ih,.refl⟩)
     ·exact .inl i
     ·exact .inr (.inr ⟨i,.refl⟩)
   ·have st:∀ {z:Int},Cn l z _→Cn l z _:=fun q=>.one q hy e;rcases ih with ih | ⟨i,j⟩ | ⟨i,j⟩
    ·exact .inl (st ih)
    ·exact .inr (.inl ⟨i,st j⟩)
    ·exact .inr (.inr ⟨i,st j⟩)
 ·have up:∀ {c d:Int},Cn l c d→Cn (y :: l) c d:=fun q=>lP (fun z hz=>List.mem_cons_of_mem _ hz) q;rintro (h | ⟨i,j⟩ | ⟨i,j⟩)
  ·exact up h
  ·exact bN (up i) (bN (pf (List.mem_cons_self ..)) (up j))
  ·exact bN (up i) (bN (Gu (List.mem_cons_self ..)) (up j))
def lt (x y:T):Prop:=x.2.2 < y.2.2∨x.2.2=y.2.2∧(x.1 < y.1∨x.1=y.1∧x.2.1 < y.2.1)
theorem aaE (x:T):¬lt x x:=by unfold lt;omega
theorem Gj {x y z:T} (h:lt x y) (g:lt y z):lt x z:=by unfold lt at *;omega
theorem aef {x y:T} (h:x≠y):lt x y∨lt y x:=by
 obtain⟨a,b,c⟩:=x;obtain⟨d,e,f⟩:=y;unfold lt;simp only [ne_eq,Prod.mk.injEq] at h ⊢;omega
def Ax:List T→List T→Prop
 |_,[]=>True
 |c,y :: l=>¬Cn c y.1 y.2.1∧Ax (y :: c) l
theorem BN:∀ (l c d:List T),(∀ a b,Cn d a b→Cn c a b)→Ax c l→Ax d l
 |[],_,_,_,_=>trivial
 |y :: l,c,d,h,g=>⟨fun q=>g.1 (h _ _ q),BN l (y :: c) (y :: d) (fun a b q=>by
   rw [yN] at q ⊢;rcases q with q | ⟨q1,q2⟩ | ⟨q1,q2⟩
   ·exact .inl (h _ _ q)
   ·exact .inr (.inl ⟨h _ _ q1,h _ _ q2⟩)
   ·exact .inr (.inr ⟨h _ _ q1,h _ _ q2⟩)) g.2⟩
theorem xO:∀ {l k:List T} (c:List T),k.Sublist l→Ax c l→Ax c k
 |_,_,_,.slnil,_=>trivial
 |_,_,c,.cons y h,g=>xO c h (BN _ _ _ (fun _ _ q=>lP (fun _ hw=>List.mem_cons_of_mem _ hw) q) g.2)
 |_,_,c,.cons_cons y h,g=>⟨g.1,xO (y :: c) h g.2⟩
theorem GS (yg:List T→Nat) (ok:T→Prop) (h1:∀ c y,(∀ z∈c,ok z)→ok y→¬Cn c y.1 y.2.1→yg (y :: c)+1=yg c):∀ (l c:List T),(∀ z∈c,ok z)→(∀ z∈l,ok z)→Ax c l→yg (l.reverse ++ c)+l.length=yg c
 |[],c,_,_,_=>rfl
 |y :: l,c,hc,hl,g=>by
  have hy:=hl y (List.mem_cons_self ..);have:=GS yg ok h1 l (y :: c) (fun z hz=>by rcases List.mem_cons.1 hz with rfl|hz;exact hy;exact hc z hz) (fun z hz=>hl z (List.mem_cons_of_mem _ hz)) g.2;have e:=h1 c y hc hy g.1;rw [List.reverse_cons,List.append_assoc,List.length_cons];show yg (l.reverse ++ (y :: c))+_=_;omega
structure KW (yg:List T→Nat) (ok:T→Prop):Prop where
 less:∀ c y,(∀ z∈c,ok z)→ok y→¬Cn c y.1 y.2.1→yg (y :: c)+1=yg c
 mono:∀ c d,(∀ z∈c,ok z)→(∀ z∈d,ok z)→(∀ a b,Cn c a b→Cn d a b)→yg d≤yg c
theorem wO {yg:List T→Nat} {ok:T→Prop} (P:KW yg ok) {l:List T} (hl:∀ z∈l,ok z) (g:Ax [] l):yg l+l.length=yg []:=by
 have h:=GS yg ok P.less l [] (fun z hz=>by cases hz) hl g;rw [List.append_nil] at h;have hr:∀ z∈l.reverse,ok z:=fun z hz=>hl z (List.mem_reverse.1 hz);have a:=P.mono l l.reverse hl hr (fun a b q=>lP (fun w hw=>List.mem_reverse.2 hw) q);have b:=P.mono l.reverse l hr hl (fun a b q=>lP (fun w hw=>List.mem_reverse.1 hw) q);omega
theorem Ux {yg:List T→Nat} {ok:T→Prop} (P:KW yg ok) {l k:List T} {y:T} (hl:∀ z∈l,ok z) (g:Ax [] l) (hy:y∈l) (hk:k.Sublist l) (hn:k.length < l.length) (hm:∀ z∈l,z=y∨z∈k):¬Cn k y.1 y.2.1:=by
 intro q;have hkl:∀ z∈k,ok z:=fun z hz=>hl z (hk.subset hz);have a:=wO P hl g;have b:=wO P hkl (xO [] hk g);have c:=P.mono l k hl hkl (fun a b r=>NM (fun z hz=>by
  rcases hm z hz with rfl|hz
  ·exact q
  ·exact pf hz) r)
 omega
end Go.Proofs.YtelhldgdnlppfaaGreat.SpK
namespace Go.Proofs.YtelhldgdnlppfaaGreat.SpT
open Go Ry Go.Proofs.YtelhldgdnlppfaaGreat.So JoS JoR JoW EgR EgL SpR SpQ SpK
def cZ (a:Int):Prop:=1≤a∧a≤64
def qp (y:T):Prop:=cZ y.1∧cZ y.2.1
structure Rel (W:List Int) (c:List T):Prop where
 len:W.length=65
 ok:Vv W
 cn:∀ a b,cZ a→cZ b→(ix W a=ix W b↔Cn c a b)
theorem Yo {a b:Int} (h:Cn [] a b):a=b:=by
 cases h with
 |refl=>rfl
 |one _ hy _=>cases hy
theorem OK:Rel (iota 64) []:=⟨by rw [Bo];rfl,(AQ 64 (by omega)).ok,fun a b ha hb=>by
 unfold cZ at ha hb;rw [zp 64 a (by omega) (by omega),zp 64 b (by omega) (by omega)];exact⟨fun e=>e ▸ .refl,Yo⟩⟩
theorem qy {W:List Int} (h:W.length=65) {a:Int} (ha:cZ a):lw W a=ix W a:=by
 unfold lw;unfold cZ at ha;rw [if_pos (by omega)]
theorem wQ {W:List Int} {c:List T} (h:Rel W c) {a:Int} (ha:cZ a):1≤ix W a∧ix W a≤a∧ix W (ix W a)=ix W a:=by
 have l:=h.len;unfold cZ at ha;exact⟨h.ok.lo a ha.1 (by omega),h.ok.hi a ha.1 (by omega),h.ok.fix a ha.1 (by omega)⟩
theorem Rk {W:List Int} (h:Vv W):Up W W:=⟨rfl,h.lo,h.hi,h.fix,fun _ _ _=>Iff.rfl⟩
theorem QM {W:List Int} {c:List T} (h:Rel W c) {y:T} (hy:qp y) (hc:ix W y.1=ix W y.2.1):oK W y.1 y.2.1=W:=by
 unfold oK;rw [qy h.len hy.1,qy h.len hy.2,if_neg (by rw [hc];omega)]
theorem NI {W:List Int} {c:List T} (h:Rel W c) {y:T} (hy:qp y) (hc:ix W y.1≠ix W y.2.1):∃ lo hi,oK W y.1 y.2.1=join W lo hi∧1≤lo∧lo < hi∧hi < W.length∧ix W lo=lo∧ix W hi=hi∧(lo=ix W y.1∧hi=ix W y.2.1∨lo=ix W y.2.1∧hi=ix W y.1):=by
 obtain⟨a1,a2,a3⟩:=wQ h hy.1;obtain⟨b1,b2,b3⟩:=wQ h hy.2;have l:=h.len;have n1:=hy.1;have n2:=hy.2;unfold cZ at n1 n2;unfold oK;rw [qy h.len hy.1,qy h.len hy.2,if_pos ⟨by omega,by omega,hc⟩]
 by_cases q:ix W y.1 < ix W y.2.1
 ·rw [if_neg (by omega),if_pos q];exact⟨_,_,rfl,a1,q,by omega,a3,b3,.inl ⟨rfl,rfl⟩⟩
 ·rw [if_pos (by omega),if_neg q];exact⟨_,_,rfl,b1,by omega,by omega,b3,a3,.inr ⟨rfl,rfl⟩⟩
theorem HE {W:List Int} {c:List T} (h:Rel W c) {y:T} (hy:qp y):Rel (oK W y.1 y.2.1) (y :: c):=by
 have l:=h.len
 by_cases hc:ix W y.1=ix W y.2.1
 ·rw [QM h hy hc];refine⟨l,h.ok,fun a b ha hb=>?_⟩;have k:=(h.cn _ _ hy.1 hy.2).1 hc;rw [h.cn a b ha hb,yN];constructor
  ·exact .inl
  ·rintro (q | ⟨q1,q2⟩ | ⟨q1,q2⟩)
   ·exact q
   ·exact bN q1 (bN k q2)
   ·exact bN q1 (bN (fM k) q2)
 ·obtain⟨lo,hi,e,h1,h2,h3,h4,h5,h6⟩:=NI h hy hc;obtain⟨_,j2⟩:=He (Rk h.ok) h.ok h1 h2 h3 h4 h5;have hlen:(join W lo hi).length=W.length:=by unfold join;rw [List.length_map]
  rw [e];refine⟨by rw [hlen,l],j2,fun a b ha hb=>?_⟩;have hix:∀ i:Int,cZ i→ix (join W lo hi) i=if ix W i=hi then lo else ix W i:=fun i hn=>by
   unfold cZ at hn;exact qA W _ i (by omega) (by omega)
  rw [hix a ha,hix b hb,yN,← h.cn a b ha hb,← h.cn a y.1 ha hy.1,← h.cn y.2.1 b hy.2 hb,← h.cn a y.2.1 ha hy.2,← h.cn y.1 b hy.1 hb];split <;> split <;> omega
theorem Zk {W:List Int} {J:JT} {c:List T} (hJ:KQ W J) (h:Rel W c) {a b:Int} (ha:cZ a) (hb:cZ b):Ak J.u a b=true↔¬Cn c a b:=by
 have l:=h.len;have a1:=(wQ h ha).1;have b1:=(wQ h hb).1;rw [(um hJ.2 (by omega) a b).2.1,decide_eq_true_eq,qy h.len ha,qy h.len hb,← h.cn a b ha hb];omega
theorem Zo {W:List Int} {J:JT} {c:List T} (hJ:KQ W J) (h:Rel W c) {y:E} (hy:qp (bM y)):KQ (oK W (ri y 0) (ri y 1)) (jF J y)∧Rel (oK W (ri y 0) (ri y 1)) (bM y :: c):=⟨Nz hJ y,HE h hy⟩
theorem yA:∀ (s:List E) {W:List Int} {J:JT} {c:List T},KQ W J→Rel W c→(∀ y∈s,qp (bM y))→(vk J s=true↔Ax c (s.map bM))
 |[],_,_,_,_,_,_=>⟨fun _=>trivial,fun _=>rfl⟩
 |y :: s,W,J,c,hJ,h,hs=>by
  have hy:=hs y (List.mem_cons_self ..);have ht:=fun z hz=>hs z (List.mem_cons_of_mem _ hz);obtain⟨k1,k2⟩:=Zo hJ h hy;have hu:Ak J.u (ri y 0) (ri y 1)=true↔¬Cn c (bM y).1 (bM y).2.1:=Zk hJ h hy.1 hy.2;have ih:=yA s k1 k2 ht;rw [List.map_cons];unfold Ax vk
  by_cases q:Cn c (bM y).1 (bM y).2.1
  ·rw [if_neg (by rw [hu];exact fun g=>g q)];exact⟨fun g=>(by cases g),fun g=>absurd q g.1⟩
  ·rw [if_pos (hu.2 q),ih];exact⟨fun g=>⟨q,g⟩,fun g=>g.2⟩
def Wq (c:List T):List Int:=c.foldr (fun y W=>oK W y.1 y.2.1) (iota 64)
theorem sR:∀ c:List T,(∀ z∈c,qp z)→Rel (Wq c) c
 |[],_=>OK
 |y :: c,h=>HE (sR c fun z hz=>h z (List.mem_cons_of_mem _ hz)) (h y (List.mem_cons_self ..))
theorem parts:SpK.KW (fun c=>rK (Wq c)) qp:=by
 refine⟨fun c y hc hy hn=>?_,fun c d hc hd h=>?_⟩
 ·have r:=sR c hc;obtain⟨lo,hi,e,h1,h2,h3,h4,h5,h6⟩:=NI r hy (fun q=>hn ((r.cn _ _ hy.1 hy.2).1 q));have e2:Wq (y :: c)=join (Wq c) lo hi:=e;show rK (Wq (y :: c))+1=_;rw [e2];exact xq r.ok h1 h2 h3 h5
 ·have rc:=sR c hc;have rd:=sR d hd;show rK (Wq d)≤rK (Wq c);unfold rK;rw [rc.len,rd.len];refine List.countP_mono_left fun i hi q=>?_;have hi:=List.mem_range.1 hi;simp only [decide_eq_true_eq] at q ⊢;have ni:cZ i:=⟨q.1,by omega⟩;obtain⟨a1,a2,a3⟩:=wQ rc ni;have nr:cZ (ix (Wq c) i):=by unfold cZ at *;omega
  have g:=(rd.cn _ _ nr ni).2 (h _ _ ((rc.cn _ _ nr ni).1 a3));have b2:=(wQ rd nr).2.1;omega
abbrev mk (M:List E) (i:Nat):Bool:=rb (M.getD i []) 0
def num (M:List E):Nat:=(List.range 65).countP (mk M)
theorem mK {α:Type} {p q:α→Bool}:∀ {l:List α},(∀ x∈l,p x=true→q x=true)→l.countP q≤l.countP p→∀ x∈l,q x=true→p x=true
 |[],_,_,x,hx,_=>by cases hx
 |y :: l,h,e,x,hx,hq=>by
  have hl:=fun z hz=>h z (List.mem_cons_of_mem _ hz);have m:l.countP p≤l.countP q:=List.countP_mono_left hl;rw [List.countP_cons,List.countP_cons] at e;have hy:=h y (List.mem_cons_self ..);have e2:l.countP q≤l.countP p∧(q y=true→p y=true):=by
   cases hp:p y <;> cases hq2:q y <;> simp_all <;> omega
  rcases List.mem_cons.1 hx with rfl|hx
  ·exact e2.2 hq
  ·exact mK hl e2.1 x hx hq
theorem xm {M:List E} (hM:M.length=65) {y:E} (hy:qp (bM y)) (i:Nat):mk (Ah M y) i=true↔mk M i=true∨((mk M (ri y 0).toNat=true∨mk M (ri y 1).toNat=true)∧(i=(ri y 0).toNat∨i=(ri y 1).toNat)):=by
 obtain⟨h1,h2⟩:=hy;have h1:cZ (ri y 0):=h1;have h2:cZ (ri y 1):=h2;unfold cZ at h1 h2;unfold Ah;split
 ·rename_i q;show rb _ 0=true↔_;rw [xA _ _ _ (by rw [List.length_set];omega),xA _ _ _ (by omega)];constructor
  ·rintro (e|e|e)
   ·exact .inr ⟨q,.inr e⟩
   ·exact .inr ⟨q,.inl e⟩
   ·exact .inl e
  ·rintro (e | ⟨_,e|e⟩)
   ·exact .inr (.inr e)
   ·exact .inr (.inl e)
   ·exact .inl e
 ·rename_i q;exact⟨.inl,fun e=>e.elim id fun e=>absurd e.1 q⟩
theorem yZ:∀ (l:List E) {M:List E},M.length=65→(∀ y∈l,qp (bM y))→∀ i,mk M i=true→mk (KP l M) i=true
 |[],_,_,_,_,h=>h
 |y :: l,M,hM,hl,i,h=>yZ l (by rw [qL,hM]) (fun z hz=>hl z (List.mem_cons_of_mem _ hz)) i ((xm hM (hl y (List.mem_cons_self ..)) i).2 (.inl h))
def shut (l:List E) (M:List E):Prop:=∀ y∈l,(mk M (ri y 0).toNat=true↔mk M (ri y 1).toNat=true)
theorem As {M K:List E} (h:∀ i,mk M i=true→mk K i=true):num M≤num K:=List.countP_mono_left fun i _=>h i
theorem HL:∀ (l:List E) {M:List E},M.length=65→(∀ y∈l,qp (bM y))→num (KP l M)≤num M→shut l M
 |[],_,_,_,_=>fun _ h=>by cases h
 |y :: l,M,hM,hl,h=>by
  have hy:=hl y (List.mem_cons_self ..);have ht:=fun z hz=>hl z (List.mem_cons_of_mem _ hz);have m1:=yZ l (M:=Ah M y) (by rw [qL,hM]) ht;have m0:∀ i,mk M i=true→mk (Ah M y) i=true:=fun i k=>(xm hM hy i).2 (.inl k);have n1:=As m1;have n0:=As m0;have h:num (KP l (Ah M y))≤num M:=h;have same:∀ i,i < 65→(mk (Ah M y) i=true↔mk M i=true):=fun i hi=>⟨mK (fun x _=>m0 x) (show num (Ah M y)≤num M by omega) i (List.mem_range.2 hi),m0 i⟩;have ih:=HL l (M:=Ah M y) (by rw [qL,hM]) ht (by omega);intro z hz;rcases List.mem_cons.1 hz with rfl|hz
  ·have k1:=hy.1;have k2:=hy.2;have k1:cZ (ri z 0):=k1;have k2:cZ (ri z 1):=k2;unfold cZ at k1 k2;constructor
   ·exact fun g=>(same _ (by omega)).1 ((xm hM hy _).2 (.inr ⟨.inl g,.inr rfl⟩))
   ·exact fun g=>(same _ (by omega)).1 ((xm hM hy _).2 (.inr ⟨.inr g,.inl rfl⟩))
  ·have k1:=(ht z hz).1;have k2:=(ht z hz).2;have k1:cZ (ri z 0):=k1;have k2:cZ (ri z 1):=k2;unfold cZ at k1 k2;rw [← same _ (by omega),← same (ri z 1).toNat (by omega)];exact ih z hz
theorem Sa {M:List E} (hM:M.length=65) {y:E} (hy:qp (bM y)) (h:mk M (ri y 0).toNat=true↔mk M (ri y 1).toNat=true) (i:Nat):mk (Ah M y) i=true↔mk M i=true:=by
 rw [xm hM hy];constructor
 ·rintro (e | ⟨e,rfl|rfl⟩)
  ·exact e
  ·exact e.elim id h.2
  ·exact e.elim h.1 id
 ·exact .inl
theorem Hb:∀ (l:List E) {M:List E},M.length=65→(∀ y∈l,qp (bM y))→shut l M→∀ i,mk (KP l M) i=true↔mk M i=true
 |[],_,_,_,_,_=>Iff.rfl
 |y :: l,M,hM,hl,h,i=>by
  have e:=Sa hM (hl y (List.mem_cons_self ..)) (h y (List.mem_cons_self ..));have ih:=Hb l (M:=Ah M y) (by rw [qL,hM]) (fun z hz=>hl z (List.mem_cons_of_mem _ hz)) (fun z hz=>by rw [e,e];exact h z (List.mem_cons_of_mem _ hz)) i;exact ih.trans (e i)
theorem Fg {f:Int} (hf:cZ f) (i:Nat):mk (vt f) i=true↔i=f.toNat:=by
 unfold vt xY;unfold cZ at hf;show rb _ 0=true↔_;rw [xA _ _ _ (by rw [List.length_replicate];omega)];constructor
 ·rintro (e|e)
  ·exact e
  ·rw [List.getD_eq_getElem?_getD,List.getElem?_replicate] at e;split at e <;> simp [rb] at e
 ·exact .inl
theorem VR (l:List E) (hl:∀ y∈l,qp (bM y)) {f:Int} (hf:cZ f):∀ k,shut l (vQ l k (vt f))∨k+1≤num (vQ l k (vt f))
 |0=>by
  right;show 0 < List.countP _ _;rw [List.countP_pos_iff];unfold cZ at hf;exact⟨f.toNat,List.mem_range.2 (by omega),(Fg hf _).2 rfl⟩
 |k+1=>by
  have hM:(vQ l k (vt f)).length=65:=by rw [mW,lM]
  have s:=fun q=>Hb l hM hl q;unfold vQ
  by_cases q:shut l (vQ l k (vt f))
  ·left;intro z hz;rw [s q,s q];exact q z hz
  ·right;have ih:=(VR l hl hf k).resolve_left q;have n:¬num (KP l (vQ l k (vt f)))≤num (vQ l k (vt f)):=fun g=>q (HL l hM hl g);omega
theorem AI (l:List E) (hl:∀ y∈l,qp (bM y)) {f:Int}:∀ (k:List E),(∀ y∈k,y∈l)→∀ {M:List E},M.length=65→(∀ i:Nat,mk M i=true→Cn (l.map bM) f i)→∀ i:Nat,mk (KP k M) i=true→Cn (l.map bM) f i
 |[],_,_,_,h=>h
 |y :: k,hk,M,hM,h=>by
  have my:=hk y (List.mem_cons_self ..);have hy:=hl y my;refine AI l hl k (fun z hz=>hk z (List.mem_cons_of_mem _ hz)) (M:=Ah M y) (by rw [qL,hM]) fun i q=>?_;have k1:cZ (ri y 0):=hy.1;have k2:cZ (ri y 1):=hy.2;have c1:Cn (l.map bM) (ri y 0) (ri y 1):=pf (y:=bM y) (List.mem_map_of_mem my);unfold cZ at k1 k2;have t1:(((ri y 0).toNat:Nat):Int)=ri y 0:=by omega
  have t2:(((ri y 1).toNat:Nat):Int)=ri y 1:=by omega
  rcases (xm hM hy i).1 q with q | ⟨q|q,e|e⟩
  ·exact h i q
  ·rw [e,t1];have:=h _ q;rw [t1] at this;exact this
  ·rw [e,t2];have:=h _ q;rw [t1] at this;exact bN this c1
  ·rw [e,t1];have:=h _ q;rw [t2] at this;exact bN this (fM c1)
  ·rw [e,t2];have:=h _ q;rw [t2] at this;exact this
theorem wv (l:List E) (hl:∀ y∈l,qp (bM y)) {f:Int} (hf:cZ f):∀ (k i:Nat),mk (vQ l k (vt f)) i=true→Cn (l.map bM) f i
 |0,i,q=>by
  have e:=(Fg hf i).1 q;unfold cZ at hf;have:(i:Int)=f:=by omega
  rw [this];exact .refl
 |k+1,i,q=>AI l hl l (fun _ h=>h) (by rw [mW,lM]) (wv l hl hf k) i q
theorem HO {l:List E} (hl:∀ y∈l,qp (bM y)) {f b:Int} (hf:cZ f) (hb:cZ b):rb ((vO l f).getD b.toNat []) 0=true↔Cn (l.map bM) f b:=by
 have e:vO l f=vQ l 64 (vt f):=by
  unfold vO;rw [if_pos (show bG f=true from decide_eq_true (show 1≤f∧f≤64 from hf))]
 have hM:(vQ l 64 (vt f)).length=65:=by rw [mW,lM]
 rw [e];unfold cZ at hb;constructor
 ·intro q;have:=wv l hl hf 64 b.toNat q;rw [show ((b.toNat:Nat):Int)=b by omega] at this;exact this
 ·have hs:shut l (vQ l 64 (vt f)):=by
   rcases VR l hl hf 64 with q|q
   ·exact q
   ·have all:∀ i,i < 65→mk (vQ l 64 (vt f)) i=true:=fun i hi=>by
     have:=List.countP_eq_length (p:=mk (vQ l 64 (vt f))) (l:=List.range 65);have hle:=List.countP_le_length (p:=mk (vQ l 64 (vt f))) (l:=List.range 65);unfold num at q;rw [List.length_range] at this hle;exact this.1 (by omega) i (List.mem_range.2 hi)
    intro z hz;have k1:cZ (ri z 0):=(hl z hz).1;have k2:cZ (ri z 1):=(hl z hz).2;unfold cZ at k1 k2;exact⟨fun _=>all _ (by omega),fun _=>all _ (by omega)⟩
  have hbase:∀ k,mk (vQ l k (vt f)) f.toNat=true:=by
   intro k
   induction k with
   |zero=>exact (Fg hf _).2 rfl
   |succ k ih=>exact yZ l (by rw [mW,lM]) hl _ ih
  intro q
  suffices h:∀ c,Cn (l.map bM) f c→mk (vQ l 64 (vt f)) c.toNat=true from h b q
  intro c q
  induction q with
  |refl=>exact hbase 64
  |one _ hy e ih =>
   obtain⟨z,hz,rfl⟩:=List.mem_map.1 hy;rcases e with ⟨e1,e2⟩ | ⟨e1,e2⟩
   ·have e1:ri z 0=_:=e1;have e2:ri z 1=_:=e2;rw [← e2];rw [← e1] at ih;exact (hs z hz).1 ih
   ·have e1:ri z 1=_:=e1;have e2:ri z 0=_:=e2;rw [← e2];rw [← e1] at ih;exact (hs z hz).2 ih
theorem EA {l:List E} (hl:∀ y∈l,qp (bM y)) (a b:Int):rJ l a b=true↔cZ a∧cZ b∧Cn (l.map bM) a b:=by
 unfold rJ;rw [Bool.and_eq_true,Bool.and_eq_true];constructor
 ·rintro⟨h1,h2,h3⟩;have ha:cZ a:=(of_decide_eq_true h1:1≤a∧a≤64);have hb:cZ b:=(of_decide_eq_true h2:1≤b∧b≤64);exact⟨ha,hb,(HO hl ha hb).1 h3⟩
 ·rintro⟨ha,hb,h⟩;exact⟨decide_eq_true (show 1≤a∧a≤64 from ha),decide_eq_true (show 1≤b∧b≤64 from hb),(HO hl ha hb).2 h⟩
theorem GW:∀ (l c:List T),Ax c l↔∀ i (h:i < l.length),¬Cn (l.take i ++ c) l[i].1 l[i].2.1
 |[],_=>⟨fun _ _ h=>absurd h (Nat.not_lt_zero _),fun _=>trivial⟩
 |y :: l,c=>by
  unfold Ax;rw [GW l (y :: c)];have e:∀ i a b,Cn ((y :: l).take (i+1) ++ c) a b↔Cn (l.take i ++ (y :: c)) a b:=fun i a b=>RO (fun w=>by
   simp only [List.take_succ_cons,List.mem_append,List.mem_cons];constructor
   ·rintro ((h|h)|h)
    ·exact .inr (.inl h)
    ·exact .inl h
    ·exact .inr (.inr h)
   ·rintro (h|h|h)
    ·exact .inl (.inr h)
    ·exact .inl (.inl h)
    ·exact .inr h) a b
  constructor
  ·rintro⟨h1,h2⟩ i hi;cases i with
   |zero=>exact h1
   |succ i =>
    rw [e];exact h2 i (by simpa using hi)
  ·intro h;refine⟨h 0 (Nat.zero_lt_succ _),fun i hi=>?_⟩;rw [← e];exact h (i+1) (by simpa using hi)
theorem aaK {l:List E} (hl:∀ y∈l,qp (bM y)):JJ l=true↔Ax [] (l.map bM):=by
 rw [GW];unfold JJ;rw [List.all_eq_true];have key:∀ i (h:i < l.length),(!atR l i)=true↔¬Cn ((l.map bM).take i ++ []) ((l.map bM)[i]'(by rw [List.length_map];exact h)).1 ((l.map bM)[i]'(by rw [List.length_map];exact h)).2.1:=by
  intro i h;have eg:l.getD i []=l[i]:=by rw [List.getD_eq_getElem?_getD,List.getElem?_eq_getElem h];rfl
  have hi:=hl l[i] (List.getElem_mem h);unfold atR;rw [eg,List.append_nil,List.getElem_map,← List.map_take,Bool.not_eq_true',← Bool.not_eq_true,EA fun y hy=>hl y (List.mem_of_mem_take hy)];exact⟨fun g q=>g ⟨hi.1,hi.2,q⟩,fun g q=>g q.2.2⟩
 exact⟨fun g i h=>(key i (by rw [List.length_map] at h;exact h)).1 (g i (List.mem_range.2 (by rw [List.length_map] at h;exact h))),fun g i h=>(key i (List.mem_range.1 h)).2 (g i (by rw [List.length_map];exact List.mem_range.1 h))⟩
end Go.Proofs.YtelhldgdnlppfaaGreat.SpT
