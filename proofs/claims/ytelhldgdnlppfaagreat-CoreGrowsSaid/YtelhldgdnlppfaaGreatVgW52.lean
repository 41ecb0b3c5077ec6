/-
  What the document's steps of a core mean: theory of its loops and choices. No condition.
-/
import Derived.Test.YtelhldgdnlppfaaGreatVgKrV
import Derived.Test.YtelhldgdnlppfaaGreatVgKsC
import Derived.Test.YtelhldgdnlppfaaGreatVgTrQ
import Derived.Test.YtelhldgdnlppfaaGreatVgW50
import Derived.Test.YtelhldgdnlppfaaGreatVgChQ
import Derived.Test.YtelhldgdnlppfaaGreatVgW48
namespace Go.Proofs.YtelhldgdnlppfaaGreat.KrW
open Go Ry ViR VoR KsS KsC KsT ViT ViM MgT KrV
open MgR (nB my mD dU qh)
open ChQ (mh kO CH)
structure Lk (L:Lv) (n:Nat):Prop where
 ok:∀ x,Vd x→x.q.length≤n→L.ok x=true
 v:∀ x,Vd x→Vd (L.B x)
def Lb (L:Lv) (n:Nat):Prop:=∀ x,Vd x→x.q.length≤n→(∃ z∈x.aa,rb z 5=true)→L.ok x=true
theorem Lk.lb {L:Lv} {n:Nat} (h:Lk L n):Lb L n:=fun x h1 h2 _=>h.ok x h1 h2
theorem Hh {d:CS} (h:Vd d) {a:Int} (h0:0≤a) (h1:a < d.aa.length) (h2:(qN (tie d a)).tb=true):∃ z∈(aL d a (qN (tie d a))).aa,rb z 5=true:=by
 have g:=EW (h.t _ (bQ h0 h1)).v
 rw [kK g.1]
 refine⟨jf (tie d a) (qN (tie d a)),?_,?_⟩
 ·simp only
  exact List.mem_set (by omega) _
 ·rw [show rb (jf (tie d a) (qN (tie d a))) 5=(qN (tie d a)).b from rfl]
  exact Xj h2
theorem Sv {L:Lv} {n:Nat} (hL:Lb L (n+1)) (hn:n≤90000) {d:CS} (h:Vd d) {k a:Int} (h0:0≤a) (h1:a < d.aa.length) (hq:d.q.length≤n) (h3:k=3→rb (tie d a) 5=true→L.ok (aL d a (kY (tie d a)))=true):pF L d k a=true:=by
 have hl:=h.len
 unfold pF VS
 simp only [Bool.and_eq_true,Bool.or_eq_true,Bool.not_eq_true',decide_eq_true_eq,decide_eq_false_iff_not]
 refine⟨⟨h0,h1,by omega,by omega⟩,?_,?_⟩
 ·by_cases k2:k=2
  ·right
   cases e:(qN (tie d a)).tb
   ·exact .inl rfl
   ·right
    obtain⟨v,q,_⟩:=cu h h0 h1 (EW (h.t _ (bQ h0 h1)).v)
    exact hL _ v (by omega) (Hh h h0 h1 e)
  ·exact .inl k2
 ·by_cases k3:k=3
  ·right
   cases e:(kY (tie d a)).tp
   ·exact .inl rfl
   ·right
    exact h3 k3 (WO e)
  ·exact .inl k3
theorem rQ {d:CS} (h:Vd d) (ho:d.o=false) (c:CH) {v:List Int} {l:List E} (hv:v.length≤500) (hl:l.length≤500):Vd (fU d c v l)∧(fU d c v l).q.length≤d.q.length+64∧(fU d c v l).aa=d.aa:=by
 have hk:=(Jk h d.p).2
 have e:(dG d (cw d.aa d.p) (uK d c v l)).q.length≤d.q.length+64:=by
  unfold dG
  rw [List.length_append,List.length_map]
  omega
 unfold fU
 split
 ·exact⟨⟨h.i,h.t,h.s,h.g,h.c,fun g=>(by rw [show ({ dG d (cw d.aa d.p) (uK d c v l) with ph:=4,tn:=v,tl:=l }:CS).o=d.o from rfl,ho] at g;cases g),h.w,h.z.1,hv,hl⟩,e,rfl⟩
 ·exact⟨⟨h.i,h.t,h.s,h.g,h.c,fun g=>(by rw [show ({ dG d (cw d.aa d.p) (uK d c v l) with ph:=3 }:CS).o=d.o from rfl,ho] at g;cases g),h.w,h.z⟩,e,rfl⟩
theorem nR {d:CS} {c:CH} (h:mL d c=true):0≤dw d.aa c.b∧dw d.aa c.b < d.aa.length:=by
 have:=(of_decide_eq_true h).2.2.1
 exact⟨this,(lf _ _).2⟩
theorem Ri {L:Lv} {n:Nat} (hL:Lb L (n+65)) (hn:n≤80000) {d:CS} (h:Vd d) (ho:d.o=false) (hq:d.q.length≤n) {c:CH} {v:List Int} {l:List E} (hv:v.length≤500) (hl:l.length≤500)
  (h3:c.k=3→0≤dw d.aa c.b→rb (tie d (dw d.aa c.b)) 5=true→∀ x,Vd x→x.q.length≤n+65→L.ok x=true):sH L d c v l=true:=by
 have hl6:=h.len
 unfold sH
 rw [Bool.and_eq_true,decide_eq_true_eq]
 refine⟨⟨by omega,by omega,by omega,by omega⟩,?_⟩
 cases e:mL d c
 ·rfl
 ·obtain⟨v1,q1,t1⟩:=rQ h ho c hv hl
  obtain⟨m1,m2⟩:=nR e
  have m2' : dw d.aa c.b < (fU d c v l).aa.length:=by rw [t1];exact m2
  refine Sv (n:=n+64) hL (by omega) v1 m1 m2' (by omega) fun k3 hb=>?_
  obtain⟨v2,q2,_⟩:=cu v1 m1 m2' (uI (v1.t _ (bQ m1 m2')).v)
  have:tie (fU d c v l) (dw d.aa c.b)=tie d (dw d.aa c.b):=by unfold tie;rw [t1]
  rw [this] at hb
  exact h3 k3 m1 hb _ v2 (by omega)
theorem jC {d:CS} (h:Vd d):(eU d).length≤65∧(eV d).length≤364:=by
 have:=Dg d
 have:=h.len
 have:=h.US
 have:=h.z.1
 omega
theorem gD {d:CS} (h:¬stops d=true):d.o=false∧d.ph=1∧d.w=[]∧ue d.aa=false:=by
 unfold stops at h
 simp only [Bool.or_eq_true,Bool.not_eq_true',decide_eq_true_eq,decide_eq_false_iff_not,not_or,Decidable.not_not] at h
 obtain⟨h1,h2,h3,h4⟩:=h
 refine⟨by simpa using h1,h2,List.length_eq_zero_iff.1 (by omega),by simpa using h4⟩
theorem HI {L:Lv} {n:Nat} (hL:Lb L (n+65)) (hn:n≤80000) {d:CS} (h:Vd d) (hq:d.q.length≤n)
  (h3:¬stops d=true→d.p=0→(∃ z∈d.aa,rb z 5=true)→∀ x,Vd x→x.q.length≤n+65→L.ok x=true):gO L d=true:=by
 have hl6:=h.len
 have hg6:=h.US
 have hs:=jC h
 unfold gO ZR
 rw [Bool.and_eq_true,decide_eq_true_eq]
 have hz:=h.z.1
 refine⟨⟨by omega,by omega,by omega,by omega⟩,?_⟩
 by_cases e1:stops d=true
 ·rw [e1]
  rfl
 by_cases e2:d.p=0
 ·by_cases e3:mh (eU d) (eV d)=0
  ·rw [Ri hL hn h (gD e1).1 hq (c:=kO (eU d) (eV d)) (v:=eU d) (l:=eV d) (by omega) (by omega) fun _ g0 hb=>h3 e1 e2 ⟨_,bQ g0 (lf _ _).2,hb⟩]
   simp
  ·rw [decide_eq_false e3]
   simp
 ·rw [decide_eq_false e2]
  simp
theorem zx {d:CS} (h:Vd d) (hb:∃ z∈d.aa,rb z 5=true):cw d.aa 0≠[]:=by
 obtain⟨z,hz,e⟩:=hb
 intro g
 have:ri z 0∈cw d.aa 0:=by
  unfold cw
  refine List.mem_map.2 ⟨z,List.mem_filter.2 ⟨hz,?_⟩,rfl⟩
  unfold uz
  rw [e,decide_eq_false (by have:=Ip (h.t z hz).n;omega)]
  rfl
 rw [g] at this
 cases this
theorem QJ (d:CS) (h:Vd d) (ho:d.o=false) (e r p:Int):(fP d e r p).w=cw d.aa p∧(fP d e r p).p=p∧(fP d e r p).o=false∧(fP d e r p).aa.map fl=d.aa.map fl:=by
 have g:=(fI h ho e r p).2.2.2
 unfold tq at g
 refine⟨by rw [g];rfl,by rw [g];rfl,by rw [g];exact ho,?_⟩
 unfold fP
 exact He (KF (CY h ho e r p) _ _) _ (Nat.le_refl _)
theorem EO (L:Lv) {d:CS} (h:Vd d) (hq:d.q.length≤79000) (hb:∃ z∈d.aa,rb z 5=true):nj L d=true:=by
 have hl6:=h.len
 unfold nj mS
 rw [Bool.and_eq_true,decide_eq_true_eq]
 refine⟨⟨by omega,by omega⟩,?_⟩
 cases ho:d.o
 ·obtain⟨v,q,_,_⟩:=fI h ho (dV d.t d.ee+1) d.i 0
  have w:=(QJ d h ho (dV d.t d.ee+1) d.i 0).1
  have:gG L d (dV d.t d.ee+1) d.i 0=true:=by
   unfold gG gO ZR
   have hz:=v.z.1
   have hg:=v.US
   have hl:=v.len
   have st:stops (fP d (dV d.t d.ee+1) d.i 0)=true:=by
    by_cases g:stops (fP d (dV d.t d.ee+1) d.i 0)=true
    ·exact g
    ·have:=(gD g).2.2.1
     rw [w] at this
     exact absurd this (zx h hb)
   rw [st]
   simp only [Bool.and_eq_true,decide_eq_true_eq,Bool.true_or,and_true]
   exact⟨⟨by omega,by omega⟩,by omega,by omega,by omega,by omega⟩
  rw [this]
  simp
 ·rfl
theorem Tn {L:Lv} {n:Nat} (hL:Lb L (n+300)) (hn:n≤70000) {d:CS} (h:Vd d) (hq:d.q.length≤n):nj L d=true:=by
 have hl6:=h.len
 unfold nj mS
 rw [Bool.and_eq_true,decide_eq_true_eq]
 refine⟨⟨by omega,by omega⟩,?_⟩
 cases ho:d.o
 ·obtain⟨v,q,l1,_⟩:=fI h ho (dV d.t d.ee+1) d.i 0
  obtain⟨w,p,o,f⟩:=QJ d h ho (dV d.t d.ee+1) d.i 0
  have:gG L d (dV d.t d.ee+1) d.i 0=true:=by
   unfold gG
   rw [Bool.and_eq_true,decide_eq_true_eq]
   refine⟨⟨by omega,by omega⟩,HI (n:=n+128) (fun x h1 h2 h3=>hL x h1 (by omega) h3) (by omega) v (by omega) fun g _ hb=>?_⟩
   have:=(gD g).2.2.1
   rw [w,RW f.symm 0] at this
   exact absurd this (zx v hb)
  rw [this]
  simp
 ·rfl
theorem UI {L:Lv} (hB:∀ x,Vd x→Vd (L.B x)) {d:CS} (h:Vd d) (k:Int) {a:Int} (h0:0≤a) (h1:a < d.aa.length):Vd (jY L d k a):=by
 have hv:=(h.t _ (bQ h0 h1)).v
 unfold jY
 split
 ·have g:=(cu h h0 h1 (EW hv)).1
  split
  ·exact hB _ g
  ·exact g
 ·split
  ·have g:=(cu h h0 h1 (uI hv)).1
   split
   ·exact hB _ g
   ·exact g
  ·exact h
theorem Qa {L:Lv} (hB:∀ x,Vd x→Vd (L.B x)) {d:CS} (h:Vd d) (ho:d.o=false) (c:CH) {v:List Int} {l:List E} (hv:v.length≤500) (hl:l.length≤500):Vd (wQ L d c v l):=by
 obtain⟨g,_,t⟩:=rQ h ho c hv hl
 unfold wQ
 split
 ·rename_i e
  obtain⟨m1,m2⟩:=nR e
  exact UI hB g _ m1 (by rw [t];exact m2)
 ·exact g
theorem xK {L:Lv} (hB:∀ x,Vd x→Vd (L.B x)) {d:CS} (h:Vd d):Vd (fH L d):=by
 have hs:=jC h
 unfold fH
 split
 ·exact h
 ·rename_i e
  have ho:=(gD e).1
  split
  ·exact⟨h.i,h.t,h.s,h.g,h.c,fun g=>(by rw [show ({ oX d d.p (ecW d (eU d) (eV d)) with ph:=2 }:CS).o=d.o from rfl,ho] at g;cases g),h.w,h.z⟩
  ·split
   ·exact⟨h.i,h.t,h.s,h.g,h.c,fun g=>(by rw [show ({ d with ph:=3 }:CS).o=d.o from rfl,ho] at g;cases g),h.w,h.z⟩
   ·exact Qa hB h ho _ (by omega) (by omega)
theorem Ji {L:Lv} (hB:∀ x,Vd x→Vd (L.B x)) {d:CS} (h:Vd d):Vd (kR L d):=by
 unfold kR
 split
 ·exact h
 ·rename_i e
  split
  ·exact xK hB (fI h (by simpa using e) _ _ _).1
  ·exact (wC h).1
theorem aaw {L:Lv} (hB:∀ x,Vd x→Vd (L.B x)) (hL:Lb L 79000):Lk L.up 70000:=⟨fun _ h q=>Tn (n:=70000) (fun x h1 h2 h3=>hL x h1 (by omega) h3) (Nat.le_refl _) h q,fun _ h=>Ji hB h⟩
theorem ZT {L:Lv}:Lb L.up 79000:=fun _ h q b=>EO L h q b
theorem XR:∀ x,Vd x→Vd (Ey.B x):=fun _ h=>h
def VV:Lv:=Ey.up.up
theorem CJ:Lk VV 70000:=aaw (L:=Ey.up) (fun _ h=>Ji XR h) ZT
end Go.Proofs.YtelhldgdnlppfaaGreat.KrW
namespace Go.Proofs.YtelhldgdnlppfaaGreat.TrW
open Go Ry Go.Proofs.YtelhldgdnlppfaaGreat.So JoS EcX EgR EgL SpR SpQ SpK SpT SpL SpN TrK TrB TrR TrC TrQ
end Go.Proofs.YtelhldgdnlppfaaGreat.TrW
namespace Go.Proofs.YtelhldgdnlppfaaGreat.TrX
open Go Ry Go.Proofs.YtelhldgdnlppfaaGreat.So JoS EcX EgR EgL SpR SpQ SpK SpT SpL SpN TrK TrB TrR TrC TrQ
end Go.Proofs.YtelhldgdnlppfaaGreat.TrX
namespace Go.Proofs.YtelhldgdnlppfaaGreat.RoV
open Go Ry Cmp ViR ViC ViL ViT ViQ
end Go.Proofs.YtelhldgdnlppfaaGreat.RoV
namespace Go.Proofs.YtelhldgdnlppfaaGreat.ChT
open Go Ry ViR ViL ViT ChR ChQ
open EcX (hG)
open SpR (kU)
open SpQ (Wo WJ WX)
open EgR (gi)
open TrC (onR mxT)
open TrR (xc JW)
open TrQ (Oa ua)
open SoC (dn jV)
section
open Go.Proofs.YtelhldgdnlppfaaGreat.So JoS EcX EgR EgL SpR SpQ SpK SpT SpL SpN
end
end Go.Proofs.YtelhldgdnlppfaaGreat.ChT
namespace Go.Proofs.YtelhldgdnlppfaaGreat.ChA
open Go Ry Cmp ViR ViL ViT ChR ChQ ChT
open SpQ (Wo WJ WX)
open TrQ (ua)
open TrC (onR mxT)
open SpR (kU)
open EgR (gi)
end Go.Proofs.YtelhldgdnlppfaaGreat.ChA
namespace Go.Proofs.YtelhldgdnlppfaaGreat.KrX
open Go Ry ViR VoR KsS KsC KsT ViT ViM MgT KrV KrW
open ViL (boF)
open SpR (kU)
open SpQ (rfB WX)
open ChQ (mh kO CH)
noncomputable def vdB (d:CS):Bool:=@decide (Vd d) (Classical.propDecidable _)
theorem Ta {d:CS}:vdB d=true↔Vd d:=by
 unfold vdB
 exact @decide_eq_true_iff _ (Classical.propDecidable _)
structure XV where
 i:Int
 t:List E
 q:List E
end Go.Proofs.YtelhldgdnlppfaaGreat.KrX
