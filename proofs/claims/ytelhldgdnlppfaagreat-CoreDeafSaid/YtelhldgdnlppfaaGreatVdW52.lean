/-
  What the document's steps of a core mean: theory of its loops and choices. No condition.
-/
import Derived.Test.YtelhldgdnlppfaaGreatVdKrV
import Derived.Test.YtelhldgdnlppfaaGreatVdKsC
import Derived.Test.YtelhldgdnlppfaaGreatVdTrQ
import Derived.Test.YtelhldgdnlppfaaGreatVdW49
import Derived.Test.YtelhldgdnlppfaaGreatVdChQ
import Derived.Test.YtelhldgdnlppfaaGreatVdKrS
namespace Go.Proofs.YtelhldgdnlppfaaGreat.KrW
open Go Ry ViR VoR KsS KsC KsT ViT ViM MgT KrV
open MgR (nJ mD oE dU qy)
open ChQ (my la CH)
structure Lk (L:Lv) (n:Nat):Prop where
 ok:∀ x,Vd x→x.q.length≤n→L.ok x=true
 v:∀ x,Vd x→Vd (L.B x)
def Lb (L:Lv) (n:Nat):Prop:=∀ x,Vd x→x.q.length≤n→(∃ z∈x.ae,rb z 5=true)→L.ok x=true
theorem Lk.lb {L:Lv} {n:Nat} (h:Lk L n):Lb L n:=fun x h1 h2 _=>h.ok x h1 h2
theorem Hr {d:CS} (h:Vd d) {a:Int} (h0:0≤a) (h1:a < d.ae.length) (h2:(ue (tie d a)).tb=true):∃ z∈(aR d a (ue (tie d a))).ae,rb z 5=true:=by
 have g:=JG (h.t _ (cM h0 h1)).v
 rw [DF g.1]
 refine⟨jb (tie d a) (ue (tie d a)),?_,?_⟩
 ·simp only
  exact List.mem_set (by omega) _
 ·rw [show rb (jb (tie d a) (ue (tie d a))) 5=(ue (tie d a)).b from rfl]
  exact VZ h2
theorem UC {L:Lv} {n:Nat} (hL:Lb L (n+1)) (hn:n≤90000) {d:CS} (h:Vd d) {k a:Int} (h0:0≤a) (h1:a < d.ae.length) (hq:d.q.length≤n) (h3:k=3→rb (tie d a) 5=true→L.ok (aR d a (oL (tie d a)))=true):qa L d k a=true:=by
 have hl:=h.len
 unfold qa Xd
 simp only [Bool.and_eq_true,Bool.or_eq_true,Bool.not_eq_true',decide_eq_true_eq,decide_eq_false_iff_not]
 refine⟨⟨h0,h1,by omega,by omega⟩,?_,?_⟩
 ·by_cases k2:k=2
  ·right
   cases e:(ue (tie d a)).tb
   ·exact .inl rfl
   ·right
    obtain⟨v,q,_⟩:=cX h h0 h1 (JG (h.t _ (cM h0 h1)).v)
    exact hL _ v (by omega) (Hr h h0 h1 e)
  ·exact .inl k2
 ·by_cases k3:k=3
  ·right
   cases e:(oL (tie d a)).tp
   ·exact .inl rfl
   ·right
    exact h3 k3 (YK e)
  ·exact .inl k3
theorem xQ {d:CS} (h:Vd d) (ho:d.o=false) (c:CH) {v:List Int} {l:List E} (hv:v.length≤500) (hl:l.length≤500):Vd (gY d c v l)∧(gY d c v l).q.length≤d.q.length+64∧(gY d c v l).ae=d.ae:=by
 have hk:=(Jp h d.p).2
 have e:(dF d (cw d.ae d.p) (uN d c v l)).q.length≤d.q.length+64:=by
  unfold dF
  rw [List.length_append,List.length_map]
  omega
 unfold gY
 split
 ·exact⟨⟨h.i,h.t,h.s,h.g,h.c,fun g=>(by rw [show ({ dF d (cw d.ae d.p) (uN d c v l) with ph:=4,tn:=v,tl:=l }:CS).o=d.o from rfl,ho] at g;cases g),h.w,h.z.1,hv,hl⟩,e,rfl⟩
 ·exact⟨⟨h.i,h.t,h.s,h.g,h.c,fun g=>(by rw [show ({ dF d (cw d.ae d.p) (uN d c v l) with ph:=3 }:CS).o=d.o from rfl,ho] at g;cases g),h.w,h.z⟩,e,rfl⟩
theorem qY {d:CS} {c:CH} (h:nj d c=true):0≤dn d.ae c.b∧dn d.ae c.b < d.ae.length:=by
 have:=(of_decide_eq_true h).2.2.1
 exact⟨this,(lI _ _).2⟩
theorem Qz {L:Lv} {n:Nat} (hL:Lb L (n+65)) (hn:n≤80000) {d:CS} (h:Vd d) (ho:d.o=false) (hq:d.q.length≤n) {c:CH} {v:List Int} {l:List E} (hv:v.length≤500) (hl:l.length≤500)
  (h3:c.k=3→0≤dn d.ae c.b→rb (tie d (dn d.ae c.b)) 5=true→∀ x,Vd x→x.q.length≤n+65→L.ok x=true):sM L d c v l=true:=by
 have hl6:=h.len
 unfold sM
 rw [Bool.and_eq_true,decide_eq_true_eq]
 refine⟨⟨by omega,by omega,by omega,by omega⟩,?_⟩
 cases e:nj d c
 ·rfl
 ·obtain⟨v1,q1,t1⟩:=xQ h ho c hv hl
  obtain⟨m1,m2⟩:=qY e
  have m2' : dn d.ae c.b < (gY d c v l).ae.length:=by rw [t1];exact m2
  refine UC (n:=n+64) hL (by omega) v1 m1 m2' (by omega) fun k3 hb=>?_
  obtain⟨v2,q2,_⟩:=cX v1 m1 m2' (BD (v1.t _ (cM m1 m2')).v)
  have:tie (gY d c v l) (dn d.ae c.b)=tie d (dn d.ae c.b):=by unfold tie;rw [t1]
  rw [this] at hb
  exact h3 k3 m1 hb _ v2 (by omega)
theorem mW {d:CS} (h:Vd d):(eU d).length≤65∧(eS d).length≤364:=by
 have:=DX d
 have:=h.len
 have:=h.Vn
 have:=h.z.1
 omega
theorem iy {d:CS} (h:¬stops d=true):d.o=false∧d.ph=1∧d.w=[]∧uO d.ae=false:=by
 unfold stops at h
 simp only [Bool.or_eq_true,Bool.not_eq_true',decide_eq_true_eq,decide_eq_false_iff_not,not_or,Decidable.not_not] at h
 obtain⟨h1,h2,h3,h4⟩:=h
 refine⟨by simpa using h1,h2,List.length_eq_zero_iff.1 (by omega),by simpa using h4⟩
theorem HV {L:Lv} {n:Nat} (hL:Lb L (n+65)) (hn:n≤80000) {d:CS} (h:Vd d) (hq:d.q.length≤n)
  (h3:¬stops d=true→d.p=0→(∃ z∈d.ae,rb z 5=true)→∀ x,Vd x→x.q.length≤n+65→L.ok x=true):gL L d=true:=by
 have hl6:=h.len
 have hg6:=h.Vn
 have hs:=mW h
 unfold gL szD
 rw [Bool.and_eq_true,decide_eq_true_eq]
 have hz:=h.z.1
 refine⟨⟨by omega,by omega,by omega,by omega⟩,?_⟩
 by_cases e1:stops d=true
 ·rw [e1]
  rfl
 by_cases e2:d.p=0
 ·by_cases e3:my (eU d) (eS d)=0
  ·rw [Qz hL hn h (iy e1).1 hq (c:=la (eU d) (eS d)) (v:=eU d) (l:=eS d) (by omega) (by omega) fun _ g0 hb=>h3 e1 e2 ⟨_,cM g0 (lI _ _).2,hb⟩]
   simp
  ·rw [decide_eq_false e3]
   simp
 ·rw [decide_eq_false e2]
  simp
theorem zW {d:CS} (h:Vd d) (hb:∃ z∈d.ae,rb z 5=true):cw d.ae 0≠[]:=by
 obtain⟨z,hz,e⟩:=hb
 intro g
 have:ri z 0∈cw d.ae 0:=by
  unfold cw
  refine List.mem_map.2 ⟨z,List.mem_filter.2 ⟨hz,?_⟩,rfl⟩
  unfold uJ
  rw [e,decide_eq_false (by have:=LN (h.t z hz).n;omega)]
  rfl
 rw [g] at this
 cases this
theorem RE (d:CS) (h:Vd d) (ho:d.o=false) (e r p:Int):(fY d e r p).w=cw d.ae p∧(fY d e r p).p=p∧(fY d e r p).o=false∧(fY d e r p).ae.map fl=d.ae.map fl:=by
 have g:=(iV h ho e r p).2.2.2
 unfold tq at g
 refine⟨by rw [g];rfl,by rw [g];rfl,by rw [g];exact ho,?_⟩
 unfold fY
 exact Hb (Ks (EA h ho e r p) _ _) _ (Nat.le_refl _)
theorem FV (L:Lv) {d:CS} (h:Vd d) (hq:d.q.length≤79000) (hb:∃ z∈d.ae,rb z 5=true):oh L d=true:=by
 have hl6:=h.len
 unfold oh nF
 rw [Bool.and_eq_true,decide_eq_true_eq]
 refine⟨⟨by omega,by omega⟩,?_⟩
 cases ho:d.o
 ·obtain⟨v,q,_,_⟩:=iV h ho (eF d.t d.ee+1) d.i 0
  have w:=(RE d h ho (eF d.t d.ee+1) d.i 0).1
  have:gC L d (eF d.t d.ee+1) d.i 0=true:=by
   unfold gC gL szD
   have hz:=v.z.1
   have hg:=v.Vn
   have hl:=v.len
   have st:stops (fY d (eF d.t d.ee+1) d.i 0)=true:=by
    by_cases g:stops (fY d (eF d.t d.ee+1) d.i 0)=true
    ·exact g
    ·have:=(iy g).2.2.1
     rw [w] at this
     exact absurd this (zW h hb)
   rw [st]
   simp only [Bool.and_eq_true,decide_eq_true_eq,Bool.true_or,and_true]
   exact⟨⟨by omega,by omega⟩,by omega,by omega,by omega,by omega⟩
  rw [this]
  simp
 ·rfl
theorem Vp {L:Lv} {n:Nat} (hL:Lb L (n+300)) (hn:n≤70000) {d:CS} (h:Vd d) (hq:d.q.length≤n):oh L d=true:=by
 have hl6:=h.len
 unfold oh nF
 rw [Bool.and_eq_true,decide_eq_true_eq]
 refine⟨⟨by omega,by omega⟩,?_⟩
 cases ho:d.o
 ·obtain⟨v,q,l1,_⟩:=iV h ho (eF d.t d.ee+1) d.i 0
  obtain⟨w,p,o,f⟩:=RE d h ho (eF d.t d.ee+1) d.i 0
  have:gC L d (eF d.t d.ee+1) d.i 0=true:=by
   unfold gC
   rw [Bool.and_eq_true,decide_eq_true_eq]
   refine⟨⟨by omega,by omega⟩,HV (n:=n+128) (fun x h1 h2 h3=>hL x h1 (by omega) h3) (by omega) v (by omega) fun g _ hb=>?_⟩
   have:=(iy g).2.2.1
   rw [w,Ui f.symm 0] at this
   exact absurd this (zW v hb)
  rw [this]
  simp
 ·rfl
theorem Tg {L:Lv} (hB:∀ x,Vd x→Vd (L.B x)) {d:CS} (h:Vd d) (k:Int) {a:Int} (h0:0≤a) (h1:a < d.ae.length):Vd (lV L d k a):=by
 have hv:=(h.t _ (cM h0 h1)).v
 unfold lV
 split
 ·have g:=(cX h h0 h1 (JG hv)).1
  split
  ·exact hB _ g
  ·exact g
 ·split
  ·have g:=(cX h h0 h1 (BD hv)).1
   split
   ·exact hB _ g
   ·exact g
  ·exact h
theorem Qi {L:Lv} (hB:∀ x,Vd x→Vd (L.B x)) {d:CS} (h:Vd d) (ho:d.o=false) (c:CH) {v:List Int} {l:List E} (hv:v.length≤500) (hl:l.length≤500):Vd (AO L d c v l):=by
 obtain⟨g,_,t⟩:=xQ h ho c hv hl
 unfold AO
 split
 ·rename_i e
  obtain⟨m1,m2⟩:=qY e
  exact Tg hB g _ m1 (by rw [t];exact m2)
 ·exact g
theorem xw {L:Lv} (hB:∀ x,Vd x→Vd (L.B x)) {d:CS} (h:Vd d):Vd (gu L d):=by
 have hs:=mW h
 unfold gu
 split
 ·exact h
 ·rename_i e
  have ho:=(iy e).1
  split
  ·exact⟨h.i,h.t,h.s,h.g,h.c,fun g=>(by rw [show ({ kY d d.p (ecW d (eU d) (eS d)) with ph:=2 }:CS).o=d.o from rfl,ho] at g;cases g),h.w,h.z⟩
  ·split
   ·exact⟨h.i,h.t,h.s,h.g,h.c,fun g=>(by rw [show ({ d with ph:=3 }:CS).o=d.o from rfl,ho] at g;cases g),h.w,h.z⟩
   ·exact Qi hB h ho _ (by omega) (by omega)
theorem Ja {L:Lv} (hB:∀ x,Vd x→Vd (L.B x)) {d:CS} (h:Vd d):Vd (oj L d):=by
 unfold oj
 split
 ·exact h
 ·rename_i e
  split
  ·exact xw hB (iV h (by simpa using e) _ _ _).1
  ·exact (xF h).1
theorem aaM {L:Lv} (hB:∀ x,Vd x→Vd (L.B x)) (hL:Lb L 79000):Lk L.up 70000:=⟨fun _ h q=>Vp (n:=70000) (fun x h1 h2 h3=>hL x h1 (by omega) h3) (Nat.le_refl _) h q,fun _ h=>Ja hB h⟩
theorem aad {L:Lv}:Lb L.up 79000:=fun _ h q b=>FV L h q b
theorem Zt:∀ x,Vd x→Vd (GH.B x):=fun _ h=>h
def VV:Lv:=GH.up.up
theorem Ez:Lk VV 70000:=aaM (L:=GH.up) (fun _ h=>Ja Zt h) aad
end Go.Proofs.YtelhldgdnlppfaaGreat.KrW
namespace Go.Proofs.YtelhldgdnlppfaaGreat.TrW
open Go Ry Go.Proofs.YtelhldgdnlppfaaGreat.So JoS EcX EgR EgL SpR SpQ SpK SpT SpL SpN TrK TrB TrR TrC TrQ
end Go.Proofs.YtelhldgdnlppfaaGreat.TrW
namespace Go.Proofs.YtelhldgdnlppfaaGreat.TrX
open Go Ry Go.Proofs.YtelhldgdnlppfaaGreat.So JoS EcX EgR EgL SpR SpQ SpK SpT SpL SpN TrK TrB TrR TrC TrQ
end Go.Proofs.YtelhldgdnlppfaaGreat.TrX
namespace Go.Proofs.YtelhldgdnlppfaaGreat.RoV
open Go Ry Cmp ViR ViC ViL ViT ViQ
end Go.Proofs.YtelhldgdnlppfaaGreat.RoV
namespace Go.Proofs.YtelhldgdnlppfaaGreat.ChT
open Go Ry ViR ViL ViT ChR ChQ
open EcX (gZ)
open SpR (kV)
open SpQ (Yc YG Xv)
open EgR (fZ)
open TrC (onR mxT)
open TrR (xS Ha)
open TrQ (OE uh)
open SoC (dj kq)
section
open Go.Proofs.YtelhldgdnlppfaaGreat.So JoS EcX EgR EgL SpR SpQ SpK SpT SpL SpN
end
end Go.Proofs.YtelhldgdnlppfaaGreat.ChT
namespace Go.Proofs.YtelhldgdnlppfaaGreat.ChA
open Go Ry Cmp ViR ViL ViT ChR ChQ ChT
open SpQ (Yc YG Xv)
open TrQ (uh)
open TrC (onR mxT)
open SpR (kV)
open EgR (fZ)
end Go.Proofs.YtelhldgdnlppfaaGreat.ChA
namespace Go.Proofs.YtelhldgdnlppfaaGreat.KrX
open Go Ry ViR VoR KsS KsC KsT ViT ViM MgT KrV KrW
open KrS (Jj Yv)
open ViL (boF)
open SpR (kV)
open SpQ (rfB Xv)
open ChQ (my la CH)
noncomputable def vdB (d:CS):Bool:=@decide (Vd d) (Classical.propDecidable _)
theorem Uu {d:CS}:vdB d=true↔Vd d:=by
 unfold vdB
 exact @decide_eq_true_iff _ (Classical.propDecidable _)
structure XV where
 i:Int
 t:List E
 q:List E
end Go.Proofs.YtelhldgdnlppfaaGreat.KrX
