/-
  A core's name only grows,till it is sj;then it has none,and no tie that is bound. No condition.
-/
import Derived.Test.YtelhldgdnlppfaaGreatVgW54
namespace Go.Proofs.YtelhldgdnlppfaaGreat.KrG
open Go Ry ViR VoR KsS KsC KsT KsE KsF KrV KrW KrX KrY KrZ KrQ
open ChQ (mh kO CH)
def Yf (a b:CS):Prop:=a.ee < b.ee∨a.ee=b.ee∧a.er≤b.er
def nb (l:List E):Prop:=∀ y∈l,rb y 5=false
def Ov (d:CS):Prop:=d.o=true→nb d.aa∧d.ee=0∧d.er=0
structure GO (d x:CS):Prop where
 t:d.t≤x.t
 o:d.o=true→x.o=true
 n:x.o=false→Yf d x
 v:Ov d→Ov x
theorem fW (d:CS):Yf d d:=.inr ⟨rfl,Int.le_refl _⟩
theorem GO.refl (d:CS):GO d d:=⟨Int.le_refl _,id,fun _=>fW d,id⟩
theorem GO.trans {a b c:CS} (h:GO a b) (g:GO b c):GO a c:=by
 refine⟨Int.le_trans h.t g.t,fun e=>g.o (h.o e),fun e=>?_,fun e=>g.v (h.v e)⟩
 have hb:b.o=false:=by
  cases q:b.o
  ·rfl
  ·rw [g.o q] at e
   cases e
 have h1:=h.n hb
 have h2:=g.n e
 unfold Yf at *
 omega
theorem sw {d x:CS} (ho:d.o=false) (hx:x.o=false) (ht:d.t≤x.t) (hn:Yf d x):GO d x:=⟨ht,fun e=>(by rw [ho] at e;cases e),fun _=>hn,fun _ e=>(by rw [hx] at e;cases e)⟩
theorem HU {d x:CS} (ho:d.o=false) (h:tq d x):GO d x:=by
 unfold tq at h
 rw [h]
 exact sw ho ho (Int.le_refl _) (fW d)
def BG (L:Lv):Prop:=∀ x,Vd x→GO x (L.B x)
theorem OV {d:CS} (ho:d.o=false) (c:CH) (v:List Int) (l:List E):GO d (fU d c v l)∧(fU d c v l).o=false:=by
 unfold fU
 split
 ·exact⟨sw ho ho (Int.le_refl _) (fW d),ho⟩
 ·exact⟨sw ho ho (Int.le_refl _) (fW d),ho⟩
theorem Md {L:Lv} (hB:BG L) {d:CS} (h:Vd d) (ho:d.o=false) (k:Int) {a:Int} (h0:0≤a) (h1:a < d.aa.length):GO d (jY L d k a):=by
 have hv:=(h.t _ (bQ h0 h1)).v
 unfold jY
 split
 ·have g:=(cu h h0 h1 (EW hv)).1
  have t:=HU ho (gQ d a (qN (tie d a)))
  split
  ·exact t.trans (hB _ g)
  ·exact t
 ·split
  ·have g:=(cu h h0 h1 (uI hv)).1
   have t:=HU ho (gQ d a (kY (tie d a)))
   split
   ·exact t.trans (hB _ g)
   ·exact t
  ·exact GO.refl d
theorem DC {L:Lv} (hB:BG L) {d:CS} (h:Vd d) (ho:d.o=false) (c:CH) {v:List Int} {l:List E} (hv:v.length≤500) (hl:l.length≤500):GO d (wQ L d c v l):=by
 obtain⟨g,_,t⟩:=rQ h ho c hv hl
 obtain⟨c1,c2⟩:=OV ho c v l
 unfold wQ
 split
 ·rename_i e
  obtain⟨m1,m2⟩:=nR e
  exact c1.trans (Md hB g c2 c.k m1 (by rw [t];exact m2))
 ·exact c1
theorem nO {L:Lv} (hB:BG L) {d:CS} (h:Vd d):GO d (fH L d):=by
 have hs:=jC h
 unfold fH
 split
 ·exact GO.refl d
 ·rename_i e
  have ho:=(gD e).1
  split
  ·exact sw ho ho (Int.le_refl _) (fW d)
  ·split
   ·exact sw ho ho (Int.le_refl _) (fW d)
   ·exact DC hB h ho _ (by omega) (by omega)
theorem Hi (a b:Int):a≤dV a b∧b≤dV a b:=by
 unfold dV
 split <;> omega
theorem EG {d:CS} (h:Vd d) (ho:d.o=false) {e r:Int} (p:Int) (hn:d.ee < e∨d.ee=e∧d.er≤r):GO d (fP d e r p):=by
 have g:=(fI h ho e r p).2.2.2
 unfold tq at g
 rw [g]
 exact sw ho ho (Hi d.t e).1 hn
theorem Gl {l:List E} {a:Int} (h0:0≤a) (x:E) {k:Nat} (hk:(k:Int) < a):(l.set a.toNat x)[k]? = l[k]?:=by
 rw [List.getElem?_set_ne (by omega)]
theorem Kq {d:CS} (h:Vd d):∀ n:Nat,n≤d.aa.length→∀ k:Nat,k < n→∀ y,(cU d n).aa[k]? = some y→rb y 5=false
 |0,_,k,hk,_,_=>by omega
 |n+1,hn,k,hk,y,hy=>by
  have g:=wS h n (by omega)
  have h1:(n:Int) < (cU d n).aa.length:=by rw [g.l];omega
  have hm:=(g.v.t _ (bQ (Int.natCast_nonneg n) h1)).v
  have step:∀ r,jt r→r.b=false→(aL (cU d n) (n:Int) r).aa[k]? = some y→rb y 5=false:=fun r gr hr e=>by
   rw [kK gr.1] at e
   simp only at e
   by_cases c:k=n
   ·subst c
    rw [show ((k:Nat):Int).toNat=k from rfl,List.getElem?_set_self (by omega)] at e
    cases e
    exact hr
   ·rw [Gl (Int.natCast_nonneg n) _ (by omega)] at e
    exact Kq h n (by omega) k (by omega) y e
  have hy:(aL (cU d n) (n:Int) (if rb (tie (cU d n) (n:Int)) 5=true then kY (tie (cU d n) (n:Int)) else zY (tie (cU d n) (n:Int)))).aa[k]? = some y:=hy
  by_cases c:rb (tie (cU d n) (n:Int)) 5=true
  ·rw [if_pos c] at hy
   refine step _ (uI hm) ?_ hy
   unfold kY oD
   rw [c,if_neg (by
    have:ew (ri (tie (cU d n) (n:Int)) 3) (rb (tie (cU d n) (n:Int)) 4) (rb (tie (cU d n) (n:Int)) 5) (ri (tie (cU d n) (n:Int)) 6)=true:=hm
    rw [c] at this
    rw [this]
    decide),if_neg (by decide)]
  ·rw [if_neg c] at hy
   refine step _ (TO hm) ?_ hy
   unfold zY
   rw [YO hm]
   simpa using c
theorem KL {d:CS} (h:Vd d):GO d (kW d):=by
 unfold kW
 split
 ·exact GO.refl d
 ·rename_i e
  have g:=wS h _ (Nat.le_refl d.aa.length)
  have f:=g.f
  have ho:d.o=false:=by simpa using e
  refine⟨?_,fun q=>rfl,fun q=>(by cases q),fun _ _=>⟨fun y hy=>?_,rfl,rfl⟩⟩
  ·have:(ovS (cU d d.aa.length)).t=(cU d d.aa.length).t:=rfl
   unfold tq at f
   rw [this,f]
   exact Int.le_refl _
  ·have hy:y∈(cU d d.aa.length).aa:=hy
   obtain⟨k,hk,rfl⟩:=List.getElem_of_mem hy
   exact Kq h _ (Nat.le_refl _) k (by rw [← g.l];exact hk) _ (List.getElem?_eq_getElem hk)
theorem DB {L:Lv} (hB:BG L) {d:CS} (h:Vd d):GO d (kR L d):=by
 unfold kR
 split
 ·exact GO.refl d
 ·rename_i e
  have ho:d.o=false:=by simpa using e
  split
  ·refine (EG h ho 0 ?_).trans (nO hB (fI h ho _ _ _).1)
   have:=(Hi d.t d.ee).2
   omega
  ·exact KL h
theorem tT:BG VV:=fun _ h=>DB (L:=Ey.up) (fun _ h=>DB (L:=Ey) (fun _ _=>GO.refl _) h) h
theorem Yz {m o k:Int} {t:Bool} (h:ew m t false o=true):(oE m t false o k).tp=false∧((oE m t false o k).tb=false→(oE m t false o k).b=false):=by
 unfold oE
 rw [if_neg (by rw [h];decide)]
 split
 ·unfold CX
  split <;> exact⟨rfl,fun e=>by first|rfl|cases e⟩
 ·split
  ·exact⟨rfl,fun _=>rfl⟩
  ·split
   ·unfold DU same
    split
    ·exact⟨rfl,fun _=>rfl⟩
    ·split <;> exact⟨rfl,fun _=>rfl⟩
   ·split <;> exact⟨rfl,fun _=>rfl⟩
theorem Rw {l:List E} (h:nb l) (k:Nat) {x:E} (hx:rb x 5=false):nb (l.set k x):=DV h hx
theorem DO {d:CS} (h:nb d.aa) {a:Int} {r:VT} (hr:r.b=false):nb (aL d a r).aa:=by
 unfold aL
 split
 ·exact Rw h _ hr
 ·exact h
theorem Sd {L:Lv} (hB:BG L) {d:CS} (h:Vd d) {a:Int} (h0:0≤a) (h1:a < d.aa.length) (k:Int):GO d (yq L d a k):=by
 have hv:=(h.t _ (bQ h0 h1)).v
 have gd:=Jo k hv
 obtain⟨g,_,l⟩:=cu h h0 h1 gd
 cases ho:d.o
 ·have t:=HU ho (gQ d a (dx k (tie d a)))
  unfold yq
  rw [ho]
  split
  ·rename_i e
   cases e.2
  ·split
   ·exact t.trans (hB _ g)
   ·split
    ·exact t.trans (nO hB g)
    ·exact t
 ·have tf:∀ x,tq d x→x.o=true∧x.t=d.t∧x.ee=d.ee∧x.er=d.er:=fun x e=>by
   unfold tq at e
   rw [e]
   exact⟨ho,rfl,rfl,rfl⟩
  have fin:∀ x,tq d x→(nb d.aa→nb x.aa)→GO d x:=fun x e n=>by
   obtain⟨f1,f2,f3,f4⟩:=tf x e
   refine⟨by omega,fun _=>f1,fun q=>(by rw [f1] at q;cases q),fun v _=>?_⟩
   obtain⟨v1,v2,v3⟩:=v ho
   exact⟨n v1,by omega,by omega⟩
  have t1:=gQ d a (dx k (tie d a))
  have hb:nb d.aa→(dx k (tie d a)).tp=false∧((dx k (tie d a)).tb=false→(dx k (tie d a)).b=false):=fun n=>by
   have:=n _ (bQ h0 h1)
   have hm:ew (ri (tie d a) 3) (rb (tie d a) 4) (rb (tie d a) 5) (ri (tie d a) 6)=true:=hv
   rw [this] at hm
   have:=Yz (k:=k) hm
   unfold dx
   rw [n _ (bQ h0 h1)]
   exact this
  unfold yq
  rw [ho]
  split
  ·refine fin _ (zJ t1 (gQ _ _ _)) fun n=>?_
   have h2:a < (aL d a (dx k (tie d a))).aa.length:=by rw [l];exact h1
   have hm2:=(g.t _ (bQ h0 h2)).v
   have gp:=uI hm2
   have hpb:(kY (tie (aL d a (dx k (tie d a))) a)).b=false:=by
    have hm3:ew (ri (tie (aL d a (dx k (tie d a))) a) 3) (rb (tie (aL d a (dx k (tie d a))) a) 4) (rb (tie (aL d a (dx k (tie d a))) a) 5) (ri (tie (aL d a (dx k (tie d a))) a) 6)=true:=hm2
    unfold kY oD
    rw [if_neg (by rw [hm3];decide)]
    split
    ·rename_i e
     exact e
    ·rfl
   rw [kK gp.1]
   simp only
   intro y hy
   rw [kK gd.1] at hy
   simp only [List.set_set] at hy
   rcases List.mem_or_eq_of_mem_set hy with q|q
   ·exact n y q
   ·rw [q]
    have e2:=hpb
    rw [kK gd.1] at e2
    exact e2
  ·rename_i e1
   split
   ·rename_i e2
    have tb:(dx k (tie d a)).tb=false:=by
     cases q:(dx k (tie d a)).tb
     ·rfl
     ·exact absurd ⟨q,rfl⟩ e1
    have b1:=hB _ g
    obtain⟨f1,f2,f3,f4⟩:=tf _ t1
    have key:GO d (aL d a (dx k (tie d a))):=fin _ t1 fun n=>DO n ((hb n).2 tb)
    exact key.trans b1
   ·rename_i e2
    have tb:(dx k (tie d a)).tb=false:=by
     cases q:(dx k (tie d a)).tb
     ·rfl
     ·exact absurd ⟨q,rfl⟩ e1
    have key:GO d (aL d a (dx k (tie d a))):=fin _ t1 fun n=>DO n ((hb n).2 tb)
    split
    ·exact key.trans (nO hB g)
    ·exact key
theorem Sy {d:CS} (h:Vd d) (p w s:Int):GO d (MD d p w s):=by
 refine⟨Int.le_refl _,id,fun _=>fW _,fun v e=>?_⟩
 obtain⟨v1,v2,v3⟩:=v e
 refine⟨fun y hy=>?_,v2,v3⟩
 have hy:y∈Rb d.aa p w s:=hy
 rw [GZ h.s] at hy
 unfold Vh at hy
 rcases List.mem_append.1 hy with g|g
 ·exact v1 y (List.mem_of_mem_take g)
 ·rcases List.mem_cons.1 g with g|g
  ·rw [g]
   rfl
  ·exact v1 y (List.mem_of_mem_drop (List.mem_filter.1 g).1)
theorem TG {d:CS} (a:Int):GO d { d with aa:=Gz d.aa a }:=by
 refine⟨Int.le_refl _,id,fun _=>fW _,fun v e=>?_⟩
 obtain⟨v1,v2,v3⟩:=v e
 refine⟨fun y hy=>?_,v2,v3⟩
 have hy:y∈Gz d.aa a:=hy
 unfold Gz at hy
 rcases List.mem_append.1 hy with g|g
 ·exact v1 y (List.mem_of_mem_take g)
 ·exact v1 y (List.mem_of_mem_drop g)
theorem SR {d:CS} (h:Vd d) (hg:d.gl.length≤100) {v:EV} (hc:fC d.i v=true) (hx:Lt v.x):GO d (mW VV d v):=by
 have n1:=hx.n.1
 have n2:=hx.n.2
 unfold mW
 split
 ·rename_i e
  obtain⟨c1,c2,c3⟩:=xH hc e
  exact (Sy h _ _ _).trans (tT _ (DD h c1 c2 c3))
 ·split
  ·unfold MW
   split
   ·exact GO.refl d
   ·exact (TG (dw d.aa v.p)).trans (tT _ (Ec h (dw d.aa v.p)))
  ·split
   ·rename_i e
    have mw:=tD hc e
    unfold ku
    split
    ·rename_i e2
     split
     ·exact GO.refl d
     ·split
      ·exact GO.refl d
      ·rename_i ho
       have ho:d.o=false:=by simpa using ho
       unfold qf
       split
       ·obtain⟨v2,q2,e1,e2⟩:=xb h hg ⟨mw,hx.n,hx.c⟩ e2 v.p
        have:GO d (nY d v.p v.x):=sw ho ho (Int.le_refl _) (fW d)
        exact this.trans (nO tT v2)
       ·exact GO.refl d
    ·unfold fS
     split
     ·exact GO.refl d
     ·rename_i na
      have at2:=(lf d.aa v.p).2
      split
      ·exact Sd tT h (by omega) at2 _
      ·split
       ·exact GO.refl d
       ·rename_i ho
        have ho:d.o=false:=by simpa using ho
        split
        ·split
         ·rename_i q
          have:=OM.1 q.2
          exact (EG h ho _ (by omega)).trans (nO tT (fI h ho _ _ _).1)
         ·exact GO.refl d
        ·split
         ·split
          ·exact DC tT h ho _ (by omega) (by omega)
          ·exact GO.refl d
         ·exact GO.refl d
   ·exact KL h
theorem KD {d:CS} (h:Vd d) (ov:Ov d) (hg:d.gl.length≤100) {v:EV} (hx:Lt v.x) (hc:fC d.i v=true) :
  ¬(cJ VV d v).t < d.t∧(d.o=true→(cJ VV d v).o=true)∧((cJ VV d v).o=false→¬((cJ VV d v).ee < d.ee∨(cJ VV d v).ee=d.ee∧(cJ VV d v).er < d.er))∧Ov (GA (cJ VV d v)) ∧
  ((cJ VV d v).o=true→(cJ VV d v).ee=0∧(cJ VV d v).er=0∧∀ k:Int,0≤k→k < (cJ VV d v).aa.length→rb ((cJ VV d v).aa.getD k.toNat []) 5=false):=by
 have s:cJ VV d v=mW VV d v:=if_pos (if_pos hc)
 have g:=SR h hg hc hx
 rw [s]
 refine⟨by have:=g.t;omega,g.o,fun e=>?_,fun e=>g.v ov e,fun e=>?_⟩
 ·have:=g.n e
  unfold Yf at this
  omega
 ·obtain⟨a,b,c⟩:=g.v ov e
  exact⟨b,c,fun k k0 k1=>a _ (tO k0 k1)⟩
theorem TV (i l:Int) (h:cm i=true):Ov (GA (Gj i l)):=fun e=>by
 have g:=tT _ (xT h l)
 exact g.v (fun q=>by cases q) e
end Go.Proofs.YtelhldgdnlppfaaGreat.KrG
