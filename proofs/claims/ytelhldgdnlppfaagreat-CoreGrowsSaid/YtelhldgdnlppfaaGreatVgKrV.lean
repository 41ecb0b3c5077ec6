/-
  A core that may be: what each step leaves of it,and that code and document then mean the same. No condition.
-/
import Derived.Test.YtelhldgdnlppfaaGreatVgKsT
import Derived.Test.YtelhldgdnlppfaaGreatVgW50
namespace Go.Proofs.YtelhldgdnlppfaaGreat.KrV
open Go Ry ViR VoR KsS KsT ViT ViM MgT
open MgR (nB my mD dU qh)
open ViS (kT vT rH As)
open ChQ (mh kO CH)
def HS (y:E):Bool:=ew (ri y 3) (rb y 4) (rb y 5) (ri y 6)
theorem Ax {m o:Int} {t b:Bool}:ew m t b o=true↔(0≤m∧m≤2∧0≤o∧o≤2147483647)∧(b=true→m=0∧t=false)∧(b=false→m=0∨t=false):=by
 unfold ew
 rw [Bool.and_eq_true,decide_eq_true_eq]
 cases b <;> cases t <;> simp
def jt (r:VT):Prop:=r.e=0∧ew r.m r.t r.b r.o=true∧r.w.length≤1
theorem PS {m o:Int} (h:0≤o∧o≤2147483647):0≤CB m o∧CB m o≤2147483647:=by
 unfold CB
 split <;> omega
theorem fh {m o:Int} {t b tb tp tf:Bool} {w:List Int} (h1:0≤m∧m≤2∧0≤o∧o≤2147483647) (h2:b=true→m=0∧t=false) (h3:b=false→m=0∨t=false) (h4:w.length≤1):jt ⟨m,t,b,o,w,tb,tp,tf,0⟩:=⟨rfl,Ax.2 ⟨h1,h2,h3⟩,h4⟩
theorem iy {m o:Int} {t b:Bool} (h:ew m t b o=true):jt (same m t b o):=⟨rfl,h,Nat.zero_le _⟩
theorem OA {m o:Int} {t b:Bool} (h:ew m t b o=true):jt (oZ m t b o):=by
 have hb:=Ax.1 h
 unfold oZ
 rw [if_neg (by rw [h];decide)]
 split
 ·exact iy h
 ·rename_i g1
  split
  ·have:=PS (m:=m) ⟨hb.1.2.2.1,hb.1.2.2.2⟩
   exact fh (by omega) (fun _=>⟨rfl,rfl⟩) (fun e=>by cases e) (Nat.le_refl _)
  ·rename_i g2
   have ht:t=false:=by
    cases t
    ·rfl
    ·exact absurd rfl g2
   exact fh (by omega) (fun e=>absurd (Or.inr e) g1) (fun _=>.inr ht) (Nat.le_refl _)
theorem MV {m o:Int} {t b:Bool} (h:ew m t b o=true):jt (pN m t b o):=by
 have hb:=Ax.1 h
 unfold pN
 rw [if_neg (by rw [h];decide)]
 split
 ·exact iy h
 ·rename_i g
  refine fh (by omega) (fun e=>?_) (fun e=>?_) (Nat.le_refl _)
  ·have:=(hb.2.1 e).1
   omega
  ·rcases hb.2.2 e with q|q
   ·omega
   ·exact .inr q
theorem LY {m o:Int} {t b:Bool} (h:ew m t b o=true):jt (oD m t b o):=by
 have hb:=Ax.1 h
 unfold oD
 rw [if_neg (by rw [h];decide)]
 split
 ·exact iy h
 ·rename_i g
  have hbt:b=true:=by
   cases b
   ·exact absurd rfl g
   ·rfl
  exact fh hb.1 (fun e=>by cases e) (fun _=>.inl (hb.2.1 hbt).1) (Nat.le_refl _)
theorem NU {m o k:Int} {t b:Bool} (h:ew m t b o=true):jt (oE m t b o k):=by
 have hb:=Ax.1 h
 unfold oE
 rw [if_neg (by rw [h];decide)]
 split
 ·unfold CX
  split
  ·have:=PS (m:=m) ⟨hb.1.2.2.1,hb.1.2.2.2⟩
   exact fh (by omega) (fun _=>⟨rfl,rfl⟩) (fun e=>by cases e) (Nat.zero_le _)
  ·rename_i g
   have hm:m=0:=by omega
   exact fh hb.1 (fun e=>⟨hm,by rw [e];rfl⟩) (fun _=>.inl hm) (Nat.zero_le _)
 ·split
  ·exact fh hb.1 (fun e=>⟨(hb.2.1 e).1,rfl⟩) (fun _=>.inr rfl) (Nat.le_refl _)
  ·split
   ·unfold DU
    split
    ·exact fh (by omega) hb.2.1 hb.2.2 (Nat.zero_le _)
    ·split
     ·exact iy h
     ·exact fh (by omega) (fun e=>by
       have:=(hb.2.1 e).1
       omega) (fun _=>.inl rfl) (Nat.zero_le _)
   ·split
    ·refine fh hb.1 (fun e=>by cases e) (fun _=>?_) (Nat.zero_le _)
     cases hx:b
     ·exact hb.2.2 hx
     ·exact .inl (hb.2.1 hx).1
    ·exact iy h
theorem Xj {m o:Int} {t b:Bool} (h:(oZ m t b o).tb=true):(oZ m t b o).b=true:=by
 unfold oZ at *
 split
 ·rename_i g
  rw [if_pos g] at h
  cases h
 ·rename_i g
  rw [if_neg g] at h
  split
  ·rename_i g2
   rw [if_pos g2] at h
   cases h
  ·rename_i g2
   rw [if_neg g2] at h
   split
   ·rfl
   ·rename_i g3
    rw [if_neg g3] at h
    cases h
theorem WO {m o:Int} {t b:Bool} (h:(oD m t b o).tp=true):b=true:=by
 unfold oD at h
 split at h
 ·cases h
 ·split at h
  ·cases h
  ·rename_i g
   cases b
   ·exact absurd rfl g
   ·rfl
theorem YO {m o:Int} {t b:Bool} (h:ew m t b o=true):(pN m t b o).b=b:=by
 unfold pN
 rw [if_neg (by rw [h];decide)]
 split <;> rfl
def t7 (y:E):E:=[.int (ri y 0),.int (ri y 1),.int (ri y 2),.int (ri y 3),.bool (rb y 4),.bool (rb y 5),.int (ri y 6)]
def pr (y:E):Int:=ri y 0
structure Ha (i:Int) (y:E):Prop where
 c:y=t7 y
 n:cm (ri y 0)=true
 d:ri y 0≠i
 r:0≤ri y 1∧ri y 1≤2147483647∧1≤ri y 2∧ri y 2≤2147483647
 v:HS y=true
structure Vd (d:CS):Prop where
 i:cm d.i=true
 t:∀ y∈d.aa,Ha d.i y
 s:(d.aa.map pr).Pairwise (· < ·)
 g:bf d.gn d.gl=true
 c:∀ y∈d.gl,y=e5 y
 o:d.o=true→d.ph=0
 w:d.w.Nodup∧d.w.length≤64
 z:d.gl.length≤300∧d.tn.length≤500∧d.tl.length≤500
theorem Od {i:Int} {y:E} {r:VT} (h:Ha i y) (g:jt r):Ha i (jf y r)∧pr (jf y r)=pr y∧rb (jf y r) 5=r.b :=
 ⟨⟨rfl,h.n,h.d,h.r,g.2.1⟩,rfl,rfl⟩
theorem bQ {d:CS} {a:Int} (h0:0≤a) (h1:a < d.aa.length):tie d a∈d.aa:=tO h0 h1
theorem Hk {d:CS} {a:Int} (h0:0≤a) (h1:a < d.aa.length):∃ h:a.toNat < d.aa.length,tie d a=d.aa[a.toNat]:=by
 refine⟨by omega,?_⟩
 unfold tie
 rw [List.getD_eq_getElem?_getD,List.getElem?_eq_getElem (by omega)]
 rfl
theorem wg {hi:Int}:∀ {l:List Int} (lo:Int),lo≤hi+1→l.Pairwise (· < ·)→(∀ x∈l,lo≤x∧x≤hi)→(l.length:Int)≤hi - lo+1
 |[],lo,h0,_,_=>by
  simp only [List.length_nil]
  omega
 |x :: l,lo,h0,hp,hx=>by
  rw [List.pairwise_cons] at hp
  have g:=hx x (List.mem_cons_self ..)
  have:=wg (x+1) (by omega) hp.2 fun y hy=>⟨by have:=hp.1 y hy;omega,(hx y (List.mem_cons_of_mem _ hy)).2⟩
  rw [List.length_cons]
  omega
theorem Ip {t:Int} (h:cm t=true):1≤t∧t≤64:=qI.1 h
theorem Vd.len {d:CS} (h:Vd d):d.aa.length≤64:=by
 have:=wg (hi:=64) (l:=d.aa.map pr) 1 (by omega) h.s fun x hx=>by
  obtain⟨y,hy,rfl⟩:=List.mem_map.1 hx
  exact Ip (h.t y hy).n
 rw [List.length_map] at this
 omega
theorem JL {n:List Int} (h:dL n=true):n.length≤64:=by
 have:=wg (hi:=64) (l:=n) 1 (by omega) (xI h) fun x hx=>il h hx
 omega
theorem Vd.US {d:CS} (h:Vd d):d.gn.length≤64:=JL (nW h.g)
def tq (d x:CS):Prop:=x={ d with aa:=x.aa,q:=x.q }
theorem zJ {a b c:CS} (h:tq a b) (g:tq b c):tq a c:=by
 unfold tq at *
 rw [g]
 show ({ b with aa:=c.aa,q:=c.q }:CS)={ a with aa:=c.aa,q:=c.q }
 rw [h]
theorem gQ (d:CS) (a:Int) (r:VT):tq d (aL d a r):=by
 unfold aL tq
 split <;> rfl
theorem kK {d:CS} {a:Int} {r:VT} (h:r.e=0):aL d a r={ d with aa:=d.aa.set a.toNat (jf (tie d a) r),q:=d.q ++ r.w.map fun k=>eF (ri (tie d a) 0) (ED k) }:=if_pos h
theorem DV {P:E→Prop} {l:List E} {k:Nat} {z:E} (h:∀ y∈l,P y) (hz:P z):∀ y∈l.set k z,P y:=fun y hy=>by
 rcases List.mem_or_eq_of_mem_set hy with g|g
 ·exact h y g
 ·rw [g]
  exact hz
theorem rN {d:CS} {a:Int} {r:VT} (h0:0≤a) (h1:a < d.aa.length):(aL d a r).aa.map pr=d.aa.map pr:=by
 unfold aL
 split
 ·obtain⟨h,e⟩:=Hk h0 h1
  simp only
  rw [List.map_set,show pr (jf (tie d a) r)=pr (tie d a) from rfl,e]
  have:pr d.aa[a.toNat]=(d.aa.map pr)[a.toNat]'(by rw [List.length_map];exact h):=by rw [List.getElem_map]
  rw [this,List.set_getElem_self]
 ·rfl
theorem cu {d:CS} (h:Vd d) {a:Int} (h0:0≤a) (h1:a < d.aa.length) {r:VT} (g:jt r):Vd (aL d a r)∧(aL d a r).q.length≤d.q.length+1∧(aL d a r).aa.length=d.aa.length:=by
 have hp:=rN (r:=r) h0 h1
 have hm:=h.t _ (bQ h0 h1)
 rw [kK g.1] at *
 refine⟨⟨h.i,DV h.t (Od hm g).1,?_,h.g,h.c,h.o,h.w,h.z⟩,?_,List.length_set⟩
 ·rw [hp]
  exact h.s
 ·simp only [List.length_append,List.length_map]
  have:=g.2.2
  omega
theorem EW {y:E} (h:HS y=true):jt (qN y):=OA h
theorem TO {y:E} (h:HS y=true):jt (zY y):=MV h
theorem uI {y:E} (h:HS y=true):jt (kY y):=LY h
theorem Jo {y:E} (k:Int) (h:HS y=true):jt (dx k y):=NU h
def fl (y:E):Int × Bool:=(ri y 0,rb y 5)
theorem RW {l q:List E} (h:l.map fl=q.map fl) (p:Int):cw l p=cw q p:=by
 have e:∀ l:List E,cw l p=((l.map fl).filter fun x=>x.2 && !decide (x.1=p)).map (·.1):=fun l=>by
  unfold cw
  rw [List.filter_map,List.map_map]
  rfl
 rw [e,e,h]
structure Ok (d x:CS) (n:Nat):Prop where
 v:Vd x
 f:tq d x
 p:x.aa.map pr=d.aa.map pr
 q:x.q.length≤d.q.length+n
 l:x.aa.length=d.aa.length
theorem iL {d x:CS} {n:Nat} (h:Ok d x n) {a:Int} (h0:0≤a) (h1:a < x.aa.length) {r:VT} (g:jt r):Ok d (aL x a r) (n+1):=by
 obtain⟨v,q,l⟩:=cu h.v h0 h1 g
 refine⟨v,zJ h.f (gQ _ _ _),(rN h0 h1).trans h.p,?_,l.trans h.l⟩
 have:=h.q
 omega
theorem DZ {d:CS} (h:Vd d):Ok d d 0:=⟨h,rfl,rfl,Nat.le_refl _,rfl⟩
theorem BM {d:CS} (h:Vd d):∀ n:Nat,n≤d.aa.length→Ok d (jl d n) n
 |0,_=>DZ h
 |n+1,hn=>by
  have g:=BM h n (by omega)
  have h1:(n:Int) < (jl d n).aa.length:=by rw [g.l];omega
  exact iL g (Int.natCast_nonneg n) h1 (TO (g.v.t _ (bQ (Int.natCast_nonneg n) h1)).v)
theorem wS {d:CS} (h:Vd d):∀ n:Nat,n≤d.aa.length→Ok d (cU d n) n
 |0,_=>DZ h
 |n+1,hn=>by
  have g:=wS h n (by omega)
  have h1:(n:Int) < (cU d n).aa.length:=by rw [g.l];omega
  have hv:=(g.v.t _ (bQ (Int.natCast_nonneg n) h1)).v
  refine iL g (Int.natCast_nonneg n) h1 ?_
  split
  ·exact uI hv
  ·exact TO hv
theorem Om {d:CS} {a:Int} {r:VT} (h0:0≤a) (h1:a < d.aa.length) (h:r.b=rb (tie d a) 5):(aL d a r).aa.map fl=d.aa.map fl:=by
 unfold aL
 split
 ·obtain⟨h2,e⟩:=Hk h0 h1
  simp only
  rw [List.map_set,show fl (jf (tie d a) r)=fl (tie d a) from by unfold fl;rw [show rb (jf (tie d a) r) 5=r.b from rfl,h];rfl,e]
  have:fl d.aa[a.toNat]=(d.aa.map fl)[a.toNat]'(by rw [List.length_map];exact h2):=by rw [List.getElem_map]
  rw [this,List.set_getElem_self]
 ·rfl
theorem He {d:CS} (h:Vd d):∀ n:Nat,n≤d.aa.length→(jl d n).aa.map fl=d.aa.map fl
 |0,_=>rfl
 |n+1,hn=>by
  have g:=BM h n (by omega)
  have h1:(n:Int) < (jl d n).aa.length:=by rw [g.l];omega
  exact (Om (Int.natCast_nonneg n) h1 (YO (g.v.t _ (bQ (Int.natCast_nonneg n) h1)).v)).trans (He h n (by omega))
theorem Pt {d:CS} (h:Vd d):Ok d (WT d) d.aa.length:=BM h _ (Nat.le_refl _)
theorem RA {l:List E} (h:(l.map pr).Pairwise (· < ·)) (p:Int):(cw l p).Pairwise (· < ·):=by
 unfold cw
 have:(l.filter (uz p)).map (fun y=>ri y 0)=(l.filter (uz p)).map pr:=rfl
 rw [this]
 exact h.sublist (List.Sublist.map _ List.filter_sublist)
theorem Jk {d:CS} (h:Vd d) (p:Int):(cw d.aa p).Nodup∧(cw d.aa p).length≤64:=⟨(RA h.s p).imp fun g e=>by omega,Nat.le_trans (qJ _ _) h.len⟩
theorem wc:bf [] []=true:=by decide
theorem CY {d:CS} (h:Vd d) (ho:d.o=false) (e r p:Int):Vd (jD d e r p) :=
 ⟨h.i,h.t,h.s,wc,fun y hy=>(by cases hy),fun g=>(by rw [show (jD d e r p).o=d.o from rfl,ho] at g;cases g),Jk h p,Nat.zero_le _,Nat.zero_le _,Nat.zero_le _⟩
theorem KF {d:CS} (h:Vd d) (l:List Int) (w:WK):Vd (dG d l w):=⟨h.i,h.t,h.s,h.g,h.c,h.o,h.w,h.z⟩
theorem fI {d:CS} (h:Vd d) (ho:d.o=false) (e r p:Int):Vd (fP d e r p)∧(fP d e r p).q.length≤d.q.length+2 * d.aa.length∧(fP d e r p).aa.length=d.aa.length∧tq (dG (jD d e r p) (cw d.aa p) (JP (jD d e r p))) (fP d e r p):=by
 have v:=KF (CY h ho e r p) (cw d.aa p) (JP (jD d e r p))
 have g:=Pt v
 refine⟨g.v,?_,g.l,g.f⟩
 have:=g.q
 have e1:(dG (jD d e r p) (cw d.aa p) (JP (jD d e r p))).q.length=d.q.length+(cw d.aa p).length:=by
  unfold dG
  rw [List.length_append,List.length_map]
  rfl
 have e2:(dG (jD d e r p) (cw d.aa p) (JP (jD d e r p))).aa.length=d.aa.length:=rfl
 have e3:=qJ d.aa p
 rw [e1,e2] at this
 unfold fP
 omega
theorem VX {d:CS} (h:Vd d):Vd (ovS d):=⟨h.i,h.t,h.s,wc,fun y hy=>(by cases hy),fun _=>rfl,⟨List.nodup_nil,Nat.zero_le _⟩,Nat.zero_le _,Nat.zero_le _,Nat.zero_le _⟩
theorem wC {d:CS} (h:Vd d):Vd (kW d)∧(kW d).q.length≤d.q.length+d.aa.length∧(kW d).aa.length=d.aa.length:=by
 unfold kW
 split
 ·exact⟨h,by omega,rfl⟩
 ·have g:=wS h _ (Nat.le_refl _)
  exact⟨VX g.v,g.q,g.l⟩
theorem TA {p q:List E} (hp:∀ y∈p,y=e5 y) (hq:∀ y∈q,y=e5 y) (h:p.map kT=q.map kT):p=q:=by
 have key:∀ x y:E,kT x=kT y→e5 x=e5 y:=fun x y g=>by
  unfold kT at g
  unfold e5
  simp only [Prod.mk.injEq] at g
  obtain⟨g1,g2,g3,g4,g5⟩:=g
  rw [g1,g2,g3,g4,g5]
 induction p generalizing q with
 |nil =>
  cases q with
  |nil=>rfl
  |cons=>cases h
 |cons x p ih =>
  cases q with
  |nil=>cases h
  |cons y q =>
   rw [List.map_cons,List.map_cons,List.cons.injEq] at h
   rw [hp x (List.mem_cons_self ..),hq y (List.mem_cons_self ..),key x y h.1,ih (fun z hz=>hp z (List.mem_cons_of_mem _ hz)) (fun z hz=>hq z (List.mem_cons_of_mem _ hz)) h.2]
theorem Xh {n k:List Int} {l q:List E} (h1:bf n l=true) (h2:bf k q=true) (c1:∀ y∈l,y=e5 y) (c2:∀ y∈q,y=e5 y) :
  (LJ n k=true→¬mD n l k q=0)∧(LJ n k=false→mD n l k q=0∧nB n l k q=Su n k∧my n l k q=LP n k l q∧bf (Su n k) (LP n k l q)=true∧(∀ y∈LP n k l q,y=e5 y)):=by
 obtain⟨s,e⟩:=CW h1 h2
 refine⟨fun c=>by rw [e,if_pos c];decide,fun c=>?_⟩
 have hc:dU n k=false:=by rw [LA (nW h1)];exact c
 have e0:mD n l k q=0:=by rw [e,if_neg (by rw [c];decide)]
 have ok:qh n l k q=true:=aaj.1 e0
 have sn:nB n l k q=SoI.fB (n ++ k):=if_pos ok
 have sl:my n l k q=SoK.km (l ++ q):=if_pos ok
 unfold vT As rH at s
 rw [Bool.and_eq_true,decide_eq_true_eq,decide_eq_true_eq] at s
 have cl:∀ y∈my n l k q,y=e5 y:=fun y hy=>by
  rw [sl,oA,List.mem_append] at hy
  rcases hy with g|g
  ·exact c1 y g
  ·exact c2 y g
 have cr:∀ y∈LP n k l q,y=e5 y:=fun y hy=>by
  have hx:LP n k l q=RI l q 64:=if_neg (by rw [c];decide)
  rw [hx] at hy
  obtain⟨z,_,hz⟩:=(wq (fun y hy=>pA (du h1 hy).1) (fun y hy=>pA (du h2 hy).1) y).1 hy
  rw [hz]
  rfl
 have eL:=TA cl cr s.2
 refine⟨e0,s.1,eL,?_,cr⟩
 rw [← s.1,← eL,sn,sl]
 exact UJ h1 h2 hc
end Go.Proofs.YtelhldgdnlppfaaGreat.KrV
