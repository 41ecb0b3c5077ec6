/-
  A core that may be: what each step leaves of it,and that code and document then mean the same. No condition.
-/
import Derived.Test.YtelhldgdnlppfaaGreatVdKsT
import Derived.Test.YtelhldgdnlppfaaGreatVdMgT
namespace Go.Proofs.YtelhldgdnlppfaaGreat.KrV
open Go Ry ViR VoR KsS KsT ViT ViM MgT
open MgR (nJ mD oE dU qy)
open ViS (kT gw ju gI)
open ChQ (my la CH)
def GV (y:E):Bool:=fM (ri y 3) (rb y 4) (rb y 5) (ri y 6)
theorem Al {m o:Int} {t b:Bool}:fM m t b o=true↔(0≤m∧m≤2∧0≤o∧o≤2147483647)∧(b=true→m=0∧t=false)∧(b=false→m=0∨t=false):=by
 unfold fM
 rw [Bool.and_eq_true,decide_eq_true_eq]
 cases b <;> cases t <;> simp
def jC (r:VT):Prop:=r.e=0∧fM r.m r.t r.b r.o=true∧r.w.length≤1
theorem Ro {m o:Int} (h:0≤o∧o≤2147483647):0≤Dh m o∧Dh m o≤2147483647:=by
 unfold Dh
 split <;> omega
theorem fh {m o:Int} {t b tb tp tf:Bool} {w:List Int} (h1:0≤m∧m≤2∧0≤o∧o≤2147483647) (h2:b=true→m=0∧t=false) (h3:b=false→m=0∨t=false) (h4:w.length≤1):jC ⟨m,t,b,o,w,tb,tp,tf,0⟩:=⟨rfl,Al.2 ⟨h1,h2,h3⟩,h4⟩
theorem iw {m o:Int} {t b:Bool} (h:fM m t b o=true):jC (same m t b o):=⟨rfl,h,Nat.zero_le _⟩
theorem MH {m o:Int} {t b:Bool} (h:fM m t b o=true):jC (oS m t b o):=by
 have hb:=Al.1 h
 unfold oS
 rw [if_neg (by rw [h];decide)]
 split
 ·exact iw h
 ·rename_i g1
  split
  ·have:=Ro (m:=m) ⟨hb.1.2.2.1,hb.1.2.2.2⟩
   exact fh (by omega) (fun _=>⟨rfl,rfl⟩) (fun e=>by cases e) (Nat.le_refl _)
  ·rename_i g2
   have ht:t=false:=by
    cases t
    ·rfl
    ·exact absurd rfl g2
   exact fh (by omega) (fun e=>absurd (Or.inr e) g1) (fun _=>.inr ht) (Nat.le_refl _)
theorem MP {m o:Int} {t b:Bool} (h:fM m t b o=true):jC (pP m t b o):=by
 have hb:=Al.1 h
 unfold pP
 rw [if_neg (by rw [h];decide)]
 split
 ·exact iw h
 ·rename_i g
  refine fh (by omega) (fun e=>?_) (fun e=>?_) (Nat.le_refl _)
  ·have:=(hb.2.1 e).1
   omega
  ·rcases hb.2.2 e with q|q
   ·omega
   ·exact .inr q
theorem Od {m o:Int} {t b:Bool} (h:fM m t b o=true):jC (pW m t b o):=by
 have hb:=Al.1 h
 unfold pW
 rw [if_neg (by rw [h];decide)]
 split
 ·exact iw h
 ·rename_i g
  have hbt:b=true:=by
   cases b
   ·exact absurd rfl g
   ·rfl
  exact fh hb.1 (fun e=>by cases e) (fun _=>.inl (hb.2.1 hbt).1) (Nat.le_refl _)
theorem NU {m o k:Int} {t b:Bool} (h:fM m t b o=true):jC (qW m t b o k):=by
 have hb:=Al.1 h
 unfold qW
 rw [if_neg (by rw [h];decide)]
 split
 ·unfold Fw
  split
  ·have:=Ro (m:=m) ⟨hb.1.2.2.1,hb.1.2.2.2⟩
   exact fh (by omega) (fun _=>⟨rfl,rfl⟩) (fun e=>by cases e) (Nat.zero_le _)
  ·rename_i g
   have hm:m=0:=by omega
   exact fh hb.1 (fun e=>⟨hm,by rw [e];rfl⟩) (fun _=>.inl hm) (Nat.zero_le _)
 ·split
  ·exact fh hb.1 (fun e=>⟨(hb.2.1 e).1,rfl⟩) (fun _=>.inr rfl) (Nat.le_refl _)
  ·split
   ·unfold FW
    split
    ·exact fh (by omega) hb.2.1 hb.2.2 (Nat.zero_le _)
    ·split
     ·exact iw h
     ·exact fh (by omega) (fun e=>by
       have:=(hb.2.1 e).1
       omega) (fun _=>.inl rfl) (Nat.zero_le _)
   ·split
    ·refine fh hb.1 (fun e=>by cases e) (fun _=>?_) (Nat.zero_le _)
     cases hx:b
     ·exact hb.2.2 hx
     ·exact .inl (hb.2.1 hx).1
    ·exact iw h
theorem VZ {m o:Int} {t b:Bool} (h:(oS m t b o).tb=true):(oS m t b o).b=true:=by
 unfold oS at *
 split
 ·rename_i g
  rw [if_pos g] at h
  cases h
 ·rename_i g
  rw [if_neg g] at h
  split
  ·rename_i g2
   rw [if_pos g2] at h
   cases h
  ·rename_i g2
   rw [if_neg g2] at h
   split
   ·rfl
   ·rename_i g3
    rw [if_neg g3] at h
    cases h
theorem YK {m o:Int} {t b:Bool} (h:(pW m t b o).tp=true):b=true:=by
 unfold pW at h
 split at h
 ·cases h
 ·split at h
  ·cases h
  ·rename_i g
   cases b
   ·exact absurd rfl g
   ·rfl
theorem aaE {m o:Int} {t b:Bool} (h:fM m t b o=true):(pP m t b o).b=b:=by
 unfold pP
 rw [if_neg (by rw [h];decide)]
 split <;> rfl
def t7 (y:E):E:=[.int (ri y 0),.int (ri y 1),.int (ri y 2),.int (ri y 3),.bool (rb y 4),.bool (rb y 5),.int (ri y 6)]
def pr (y:E):Int:=ri y 0
structure Il (i:Int) (y:E):Prop where
 c:y=t7 y
 n:cq (ri y 0)=true
 d:ri y 0≠i
 r:0≤ri y 1∧ri y 1≤2147483647∧1≤ri y 2∧ri y 2≤2147483647
 v:GV y=true
structure Vd (d:CS):Prop where
 i:cq d.i=true
 t:∀ y∈d.ae,Il d.i y
 s:(d.ae.map pr).Pairwise (· < ·)
 g:bf d.gn d.gl=true
 c:∀ y∈d.gl,y=e5 y
 o:d.o=true→d.ph=0
 w:d.w.Nodup∧d.w.length≤64
 z:d.gl.length≤300∧d.tn.length≤500∧d.tl.length≤500
theorem Px {i:Int} {y:E} {r:VT} (h:Il i y) (g:jC r):Il i (jb y r)∧pr (jb y r)=pr y∧rb (jb y r) 5=r.b :=
 ⟨⟨rfl,h.n,h.d,h.r,g.2.1⟩,rfl,rfl⟩
theorem cM {d:CS} {a:Int} (h0:0≤a) (h1:a < d.ae.length):tie d a∈d.ae:=wC h0 h1
theorem Le {d:CS} {a:Int} (h0:0≤a) (h1:a < d.ae.length):∃ h:a.toNat < d.ae.length,tie d a=d.ae[a.toNat]:=by
 refine⟨by omega,?_⟩
 unfold tie
 rw [List.getD_eq_getElem?_getD,List.getElem?_eq_getElem (by omega)]
 rfl
theorem yv {hi:Int}:∀ {l:List Int} (lo:Int),lo≤hi+1→l.Pairwise (· < ·)→(∀ x∈l,lo≤x∧x≤hi)→(l.length:Int)≤hi - lo+1
 |[],lo,h0,_,_=>by
  simp only [List.length_nil]
  omega
 |x :: l,lo,h0,hp,hx=>by
  rw [List.pairwise_cons] at hp
  have g:=hx x (List.mem_cons_self ..)
  have:=yv (x+1) (by omega) hp.2 fun y hy=>⟨by have:=hp.1 y hy;omega,(hx y (List.mem_cons_of_mem _ hy)).2⟩
  rw [List.length_cons]
  omega
theorem LN {t:Int} (h:cq t=true):1≤t∧t≤64:=qI.1 h
theorem Vd.len {d:CS} (h:Vd d):d.ae.length≤64:=by
 have:=yv (hi:=64) (l:=d.ae.map pr) 1 (by omega) h.s fun x hx=>by
  obtain⟨y,hy,rfl⟩:=List.mem_map.1 hx
  exact LN (h.t y hy).n
 rw [List.length_map] at this
 omega
theorem KG {n:List Int} (h:dJ n=true):n.length≤64:=by
 have:=yv (hi:=64) (l:=n) 1 (by omega) (yu h) fun x hx=>iq h hx
 omega
theorem Vd.Vn {d:CS} (h:Vd d):d.gn.length≤64:=KG (oB h.g)
def tq (d x:CS):Prop:=x={ d with ae:=x.ae,q:=x.q }
theorem IK {a b c:CS} (h:tq a b) (g:tq b c):tq a c:=by
 unfold tq at *
 rw [g]
 show ({ b with ae:=c.ae,q:=c.q }:CS)={ a with ae:=c.ae,q:=c.q }
 rw [h]
theorem yn (d:CS) (a:Int) (r:VT):tq d (aR d a r):=by
 unfold aR tq
 split <;> rfl
theorem DF {d:CS} {a:Int} {r:VT} (h:r.e=0):aR d a r={ d with ae:=d.ae.set a.toNat (jb (tie d a) r),q:=d.q ++ r.w.map fun k=>dI (ri (tie d a) 0) (AR k) }:=if_pos h
theorem Nq {P:E→Prop} {l:List E} {k:Nat} {z:E} (h:∀ y∈l,P y) (hz:P z):∀ y∈l.set k z,P y:=fun y hy=>by
 rcases List.mem_or_eq_of_mem_set hy with g|g
 ·exact h y g
 ·rw [g]
  exact hz
theorem rF {d:CS} {a:Int} {r:VT} (h0:0≤a) (h1:a < d.ae.length):(aR d a r).ae.map pr=d.ae.map pr:=by
 unfold aR
 split
 ·obtain⟨h,e⟩:=Le h0 h1
  simp only
  rw [List.map_set,show pr (jb (tie d a) r)=pr (tie d a) from rfl,e]
  have:pr d.ae[a.toNat]=(d.ae.map pr)[a.toNat]'(by rw [List.length_map];exact h):=by rw [List.getElem_map]
  rw [this,List.set_getElem_self]
 ·rfl
theorem cX {d:CS} (h:Vd d) {a:Int} (h0:0≤a) (h1:a < d.ae.length) {r:VT} (g:jC r):Vd (aR d a r)∧(aR d a r).q.length≤d.q.length+1∧(aR d a r).ae.length=d.ae.length:=by
 have hp:=rF (r:=r) h0 h1
 have hm:=h.t _ (cM h0 h1)
 rw [DF g.1] at *
 refine⟨⟨h.i,Nq h.t (Px hm g).1,?_,h.g,h.c,h.o,h.w,h.z⟩,?_,List.length_set⟩
 ·rw [hp]
  exact h.s
 ·simp only [List.length_append,List.length_map]
  have:=g.2.2
  omega
theorem JG {y:E} (h:GV y=true):jC (ue y):=MH h
theorem Yh {y:E} (h:GV y=true):jC (Cl y):=MP h
theorem BD {y:E} (h:GV y=true):jC (oL y):=Od h
theorem Pu {y:E} (k:Int) (h:GV y=true):jC (fv k y):=NU h
def fl (y:E):Int × Bool:=(ri y 0,rb y 5)
theorem Ui {l q:List E} (h:l.map fl=q.map fl) (p:Int):cw l p=cw q p:=by
 have e:∀ l:List E,cw l p=((l.map fl).filter fun x=>x.2 && !decide (x.1=p)).map (·.1):=fun l=>by
  unfold cw
  rw [List.filter_map,List.map_map]
  rfl
 rw [e,e,h]
structure Ok (d x:CS) (n:Nat):Prop where
 v:Vd x
 f:tq d x
 p:x.ae.map pr=d.ae.map pr
 q:x.q.length≤d.q.length+n
 l:x.ae.length=d.ae.length
theorem iL {d x:CS} {n:Nat} (h:Ok d x n) {a:Int} (h0:0≤a) (h1:a < x.ae.length) {r:VT} (g:jC r):Ok d (aR x a r) (n+1):=by
 obtain⟨v,q,l⟩:=cX h.v h0 h1 g
 refine⟨v,IK h.f (yn _ _ _),(rF h0 h1).trans h.p,?_,l.trans h.l⟩
 have:=h.q
 omega
theorem Ea {d:CS} (h:Vd d):Ok d d 0:=⟨h,rfl,rfl,Nat.le_refl _,rfl⟩
theorem BP {d:CS} (h:Vd d):∀ n:Nat,n≤d.ae.length→Ok d (jv d n) n
 |0,_=>Ea h
 |n+1,hn=>by
  have g:=BP h n (by omega)
  have h1:(n:Int) < (jv d n).ae.length:=by rw [g.l];omega
  exact iL g (Int.natCast_nonneg n) h1 (Yh (g.v.t _ (cM (Int.natCast_nonneg n) h1)).v)
theorem Ic {d:CS} (h:Vd d):∀ n:Nat,n≤d.ae.length→Ok d (jw d n) n
 |0,_=>Ea h
 |n+1,hn=>by
  have g:=Ic h n (by omega)
  have h1:(n:Int) < (jw d n).ae.length:=by rw [g.l];omega
  have hv:=(g.v.t _ (cM (Int.natCast_nonneg n) h1)).v
  refine iL g (Int.natCast_nonneg n) h1 ?_
  split
  ·exact BD hv
  ·exact Yh hv
theorem NQ {d:CS} {a:Int} {r:VT} (h0:0≤a) (h1:a < d.ae.length) (h:r.b=rb (tie d a) 5):(aR d a r).ae.map fl=d.ae.map fl:=by
 unfold aR
 split
 ·obtain⟨h2,e⟩:=Le h0 h1
  simp only
  rw [List.map_set,show fl (jb (tie d a) r)=fl (tie d a) from by unfold fl;rw [show rb (jb (tie d a) r) 5=r.b from rfl,h];rfl,e]
  have:fl d.ae[a.toNat]=(d.ae.map fl)[a.toNat]'(by rw [List.length_map];exact h2):=by rw [List.getElem_map]
  rw [this,List.set_getElem_self]
 ·rfl
theorem Hb {d:CS} (h:Vd d):∀ n:Nat,n≤d.ae.length→(jv d n).ae.map fl=d.ae.map fl
 |0,_=>rfl
 |n+1,hn=>by
  have g:=BP h n (by omega)
  have h1:(n:Int) < (jv d n).ae.length:=by rw [g.l];omega
  exact (NQ (Int.natCast_nonneg n) h1 (aaE (g.v.t _ (cM (Int.natCast_nonneg n) h1)).v)).trans (Hb h n (by omega))
theorem Pq {d:CS} (h:Vd d):Ok d (ZN d) d.ae.length:=BP h _ (Nat.le_refl _)
theorem Vi {l:List E} (h:(l.map pr).Pairwise (· < ·)) (p:Int):(cw l p).Pairwise (· < ·):=by
 unfold cw
 have:(l.filter (uJ p)).map (fun y=>ri y 0)=(l.filter (uJ p)).map pr:=rfl
 rw [this]
 exact h.sublist (List.Sublist.map _ List.filter_sublist)
theorem Jp {d:CS} (h:Vd d) (p:Int):(cw d.ae p).Nodup∧(cw d.ae p).length≤64:=⟨(Vi h.s p).imp fun g e=>by omega,Nat.le_trans (qO _ _) h.len⟩
theorem ye:bf [] []=true:=by decide
theorem EA {d:CS} (h:Vd d) (ho:d.o=false) (e r p:Int):Vd (ki d e r p) :=
 ⟨h.i,h.t,h.s,ye,fun y hy=>(by cases hy),fun g=>(by rw [show (ki d e r p).o=d.o from rfl,ho] at g;cases g),Jp h p,Nat.zero_le _,Nat.zero_le _,Nat.zero_le _⟩
theorem Ks {d:CS} (h:Vd d) (l:List Int) (w:WK):Vd (dF d l w):=⟨h.i,h.t,h.s,h.g,h.c,h.o,h.w,h.z⟩
theorem iV {d:CS} (h:Vd d) (ho:d.o=false) (e r p:Int):Vd (fY d e r p)∧(fY d e r p).q.length≤d.q.length+2 * d.ae.length∧(fY d e r p).ae.length=d.ae.length∧tq (dF (ki d e r p) (cw d.ae p) (HE (ki d e r p))) (fY d e r p):=by
 have v:=Ks (EA h ho e r p) (cw d.ae p) (HE (ki d e r p))
 have g:=Pq v
 refine⟨g.v,?_,g.l,g.f⟩
 have:=g.q
 have e1:(dF (ki d e r p) (cw d.ae p) (HE (ki d e r p))).q.length=d.q.length+(cw d.ae p).length:=by
  unfold dF
  rw [List.length_append,List.length_map]
  rfl
 have e2:(dF (ki d e r p) (cw d.ae p) (HE (ki d e r p))).ae.length=d.ae.length:=rfl
 have e3:=qO d.ae p
 rw [e1,e2] at this
 unfold fY
 omega
theorem Zm {d:CS} (h:Vd d):Vd (ovS d):=⟨h.i,h.t,h.s,ye,fun y hy=>(by cases hy),fun _=>rfl,⟨List.nodup_nil,Nat.zero_le _⟩,Nat.zero_le _,Nat.zero_le _,Nat.zero_le _⟩
theorem xF {d:CS} (h:Vd d):Vd (nH d)∧(nH d).q.length≤d.q.length+d.ae.length∧(nH d).ae.length=d.ae.length:=by
 unfold nH
 split
 ·exact⟨h,by omega,rfl⟩
 ·have g:=Ic h _ (Nat.le_refl _)
  exact⟨Zm g.v,g.q,g.l⟩
theorem Tx {p q:List E} (hp:∀ y∈p,y=e5 y) (hq:∀ y∈q,y=e5 y) (h:p.map kT=q.map kT):p=q:=by
 have key:∀ x y:E,kT x=kT y→e5 x=e5 y:=fun x y g=>by
  unfold kT at g
  unfold e5
  simp only [Prod.mk.injEq] at g
  obtain⟨g1,g2,g3,g4,g5⟩:=g
  rw [g1,g2,g3,g4,g5]
 induction p generalizing q with
 |nil =>
  cases q with
  |nil=>rfl
  |cons=>cases h
 |cons x p ih =>
  cases q with
  |nil=>cases h
  |cons y q =>
   rw [List.map_cons,List.map_cons,List.cons.injEq] at h
   rw [hp x (List.mem_cons_self ..),hq y (List.mem_cons_self ..),key x y h.1,ih (fun z hz=>hp z (List.mem_cons_of_mem _ hz)) (fun z hz=>hq z (List.mem_cons_of_mem _ hz)) h.2]
theorem WV {n k:List Int} {l q:List E} (h1:bf n l=true) (h2:bf k q=true) (c1:∀ y∈l,y=e5 y) (c2:∀ y∈q,y=e5 y) :
  (Mb n k=true→¬oE n l k q=0)∧(Mb n k=false→oE n l k q=0∧nJ n l k q=TZ n k∧mD n l k q=Mh n k l q∧bf (TZ n k) (Mh n k l q)=true∧(∀ y∈Mh n k l q,y=e5 y)):=by
 obtain⟨s,e⟩:=DR h1 h2
 refine⟨fun c=>by rw [e,if_pos c];decide,fun c=>?_⟩
 have hc:dU n k=false:=by rw [Ka (oB h1)];exact c
 have e0:oE n l k q=0:=by rw [e,if_neg (by rw [c];decide)]
 have ok:qy n l k q=true:=aax.1 e0
 have sn:nJ n l k q=SoI.fu (n ++ k):=if_pos ok
 have sl:mD n l k q=SoK.kz (l ++ q):=if_pos ok
 unfold gw gI ju at s
 rw [Bool.and_eq_true,decide_eq_true_eq,decide_eq_true_eq] at s
 have cl:∀ y∈mD n l k q,y=e5 y:=fun y hy=>by
  rw [sl,oC,List.mem_append] at hy
  rcases hy with g|g
  ·exact c1 y g
  ·exact c2 y g
 have cr:∀ y∈Mh n k l q,y=e5 y:=fun y hy=>by
  have hx:Mh n k l q=Ti l q 64:=if_neg (by rw [c];decide)
  rw [hx] at hy
  obtain⟨z,_,hz⟩:=(xd (fun y hy=>pF (dr h1 hy).1) (fun y hy=>pF (dr h2 hy).1) y).1 hy
  rw [hz]
  rfl
 have eL:=Tx cl cr s.2
 refine⟨e0,s.1,eL,?_,cr⟩
 rw [← s.1,← eL,sn,sl]
 exact Uh h1 h2 hc
end Go.Proofs.YtelhldgdnlppfaaGreat.KrV
