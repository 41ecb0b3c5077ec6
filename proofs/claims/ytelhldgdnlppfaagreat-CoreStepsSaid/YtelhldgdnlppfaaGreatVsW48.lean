
/-
  the answer of what some nodes know of a graph. No condition.
-/
import Derived.Test.YtelhldgdnlppfaaGreatVsW35
import Derived.Test.YtelhldgdnlppfaaGreatVsW47
import Derived.Test.YtelhldgdnlppfaaGreatVsKsC
import Derived.Test.YtelhldgdnlppfaaGreatVsTrQ
import Derived.Test.YtelhldgdnlppfaaGreatVsW46
namespace Go.Proofs.YtelhldgdnlppfaaGreat.KrV
open Go Ry ViR VoR KsS KsT ViT ViM MgT
open MgR (oO nY oo eH rO)
open ViS (kT dV kg gE)
open ChQ (jt ef CH)
def Nn (y:E):Bool:=df (ri y 3) (rb y 4) (rb y 5) (ri y 6)
theorem BH {m o:Int} {t b:Bool}:df m t b o=true↔(0≤m∧m≤2∧0≤o∧o≤2147483647)∧(b=true→m=0∧t=false)∧(b=false→m=0∨t=false):=by
 unfold df;rw [Bool.and_eq_true,decide_eq_true_eq];cases b <;> cases t <;> simp
def ji (r:VT):Prop:=r.e=0∧df r.m r.t r.b r.o=true∧r.w.length≤1
theorem UP {m o:Int} (h:0≤o∧o≤2147483647):0≤zo m o∧zo m o≤2147483647:=by
 unfold zo;split <;> omega
theorem fJ {m o:Int} {t b tb tp tf:Bool} {w:List Int} (h1:0≤m∧m≤2∧0≤o∧o≤2147483647) (h2:b=true→m=0∧t=false) (h3:b=false→m=0∨t=false) (h4:w.length≤1):ji ⟨m,t,b,o,w,tb,tp,tf,0⟩:=⟨rfl,BH.2 ⟨h1,h2,h3⟩,h4⟩
theorem jk {m o:Int} {t b:Bool} (h:df m t b o=true):ji (same m t b o):=⟨rfl,h,Nat.zero_le _⟩
theorem Fm {m o:Int} {t b:Bool} (h:df m t b o=true):ji (ki m t b o):=by
 have hb:=BH.1 h;unfold ki;rw [if_neg (by rw [h];decide)];split
 ·exact jk h
 ·rename_i g1;split
  ·have:=UP (m:=m) ⟨hb.1.2.2.1,hb.1.2.2.2⟩;exact fJ (by omega) (fun _=>⟨rfl,rfl⟩) (fun e=>by cases e) (Nat.le_refl _)
  ·rename_i g2;have ht:t=false:=by
    cases t
    ·rfl
    ·exact absurd rfl g2
   exact fJ (by omega) (fun e=>absurd (Or.inr e) g1) (fun _=>.inr ht) (Nat.le_refl _)
theorem Um {m o:Int} {t b:Bool} (h:df m t b o=true):ji (iN m t b o):=by
 have hb:=BH.1 h;unfold iN;rw [if_neg (by rw [h];decide)];split
 ·exact jk h
 ·rename_i g;refine fJ (by omega) (fun e=>?_) (fun e=>?_) (Nat.le_refl _)
  ·have:=(hb.2.1 e).1;omega
  ·rcases hb.2.2 e with q|q
   ·omega
   ·exact .inr q
theorem yD {m o:Int} {t b:Bool} (h:df m t b o=true):ji (gm m t b o):=by
 have hb:=BH.1 h;unfold gm;rw [if_neg (by rw [h];decide)];split
 ·exact jk h
 ·rename_i g;have hbt:b=true:=by
   cases b
   ·exact absurd rfl g
   ·rfl
  exact fJ hb.1 (fun e=>by cases e) (fun _=>.inl (hb.2.1 hbt).1) (Nat.le_refl _)
theorem QX {m o k:Int} {t b:Bool} (h:df m t b o=true):ji (mH m t b o k):=by
 have hb:=BH.1 h;unfold mH;rw [if_neg (by rw [h];decide)];split
 ·unfold Aj;split
  ·have:=UP (m:=m) ⟨hb.1.2.2.1,hb.1.2.2.2⟩;exact fJ (by omega) (fun _=>⟨rfl,rfl⟩) (fun e=>by cases e) (Nat.zero_le _)
  ·rename_i g;have hm:m=0:=by omega
   exact fJ hb.1 (fun e=>⟨hm,by rw [e];rfl⟩) (fun _=>.inl hm) (Nat.zero_le _)
 ·split
  ·exact fJ hb.1 (fun e=>⟨(hb.2.1 e).1,rfl⟩) (fun _=>.inr rfl) (Nat.le_refl _)
  ·split
   ·unfold An;split
    ·exact fJ (by omega) hb.2.1 hb.2.2 (Nat.zero_le _)
    ·split
     ·exact jk h
     ·exact fJ (by omega) (fun e=>by
       have:=(hb.2.1 e).1;omega) (fun _=>.inl rfl) (Nat.zero_le _)
   ·split
    ·refine fJ hb.1 (fun e=>by cases e) (fun _=>?_) (Nat.zero_le _);cases hx:b
     ·exact hb.2.2 hx
     ·exact .inl (hb.2.1 hx).1
    ·exact jk h
theorem abR {m o:Int} {t b:Bool} (h:(ki m t b o).tb=true):(ki m t b o).b=true:=by
 unfold ki at *;split
 ·rename_i g;rw [if_pos g] at h;cases h
 ·rename_i g;rw [if_neg g] at h;split
  ·rename_i g2;rw [if_pos g2] at h;cases h
  ·rename_i g2;rw [if_neg g2] at h;split
   ·rfl
   ·rename_i g3;rw [if_neg g3] at h;cases h
theorem abk {m o:Int} {t b:Bool} (h:(gm m t b o).tp=true):b=true:=by
 unfold gm at h;split at h
 ·cases h
 ·split at h
  ·cases h
  ·rename_i g;cases b
   ·exact absurd rfl g
   ·rfl
theorem afv {m o:Int} {t b:Bool} (h:df m t b o=true):(iN m t b o).b=b:=by
 unfold iN;rw [if_neg (by rw [h];decide)];split <;> rfl
def t7 (y:E):E:=[.int (ri y 0),.int (ri y 1),.int (ri y 2),.int (ri y 3),.bool (rb y 4),.bool (rb y 5),.int (ri y 6)]
def pr (y:E):Int:=ri y 0
structure GB (i:Int) (y:E):Prop where
 c:y=t7 y
 n:bG (ri y 0)=true
 d:ri y 0≠i
 r:0≤ri y 1∧ri y 1≤2147483647∧1≤ri y 2∧ri y 2≤2147483647
 v:Nn y=true
structure Vd (d:CS):Prop where
 i:bG d.i=true
 t:∀ y∈d.U,GB d.i y
 s:(d.U.map pr).Pairwise (· < ·)
 g:aX d.gn d.gl=true
 c:∀ y∈d.gl,y=e5 y
 o:d.o=true→d.ph=0
 w:d.w.Nodup∧d.w.length≤64
 z:d.gl.length≤300∧d.tn.length≤500∧d.tl.length≤500
theorem Ug {i:Int} {y:E} {r:VT} (h:GB i y) (g:ji r):GB i (jN y r)∧pr (jN y r)=pr y∧rb (jN y r) 5=r.b :=
 ⟨⟨rfl,h.n,h.d,h.r,g.2.1⟩,rfl,rfl⟩
theorem bT {d:CS} {a:Int} (h0:0≤a) (h1:a < d.U.length):tie d a∈d.U:=nh h0 h1
theorem Qo {d:CS} {a:Int} (h0:0≤a) (h1:a < d.U.length):∃ h:a.toNat < d.U.length,tie d a=d.U[a.toNat]:=by
 refine⟨by omega,?_⟩;unfold tie;rw [List.getD_eq_getElem?_getD,List.getElem?_eq_getElem (by omega)];rfl
theorem yc {hi:Int}:∀ {l:List Int} (lo:Int),lo≤hi+1→l.Pairwise (· < ·)→(∀ x∈l,lo≤x∧x≤hi)→(l.length:Int)≤hi - lo+1
 |[],lo,h0,_,_=>by
  simp only [List.length_nil];omega
 |x :: l,lo,h0,hp,hx=>by
  rw [List.pairwise_cons] at hp;have g:=hx x (List.mem_cons_self ..);have:=yc (x+1) (by omega) hp.2 fun y hy=>⟨by have:=hp.1 y hy;omega,(hx y (List.mem_cons_of_mem _ hy)).2⟩;rw [List.length_cons];omega
theorem Du {t:Int} (h:bG t=true):1≤t∧t≤64:=rZ.1 h
theorem Vd.len {d:CS} (h:Vd d):d.U.length≤64:=by
 have:=yc (hi:=64) (l:=d.U.map pr) 1 (by omega) h.s fun x hx=>by
  obtain⟨y,hy,rfl⟩:=List.mem_map.1 hx;exact Du (h.t y hy).n
 rw [List.length_map] at this;omega
theorem ON {n:List Int} (h:dM n=true):n.length≤64:=by
 have:=yc (hi:=64) (l:=n) 1 (by omega) (zU h) fun x hx=>jj h hx;omega
theorem Vd.VQ {d:CS} (h:Vd d):d.gn.length≤64:=ON (oR h.g)
def tq (d x:CS):Prop:=x={ d with U:=x.U,q:=x.q }
theorem OU {a b c:CS} (h:tq a b) (g:tq b c):tq a c:=by
 unfold tq at *;rw [g];show ({ b with U:=c.U,q:=c.q }:CS)={ a with U:=c.U,q:=c.q };rw [h]
theorem zx (d:CS) (a:Int) (r:VT):tq d (aE d a r):=by
 unfold aE tq;split <;> rfl
theorem lX {d:CS} {a:Int} {r:VT} (h:r.e=0):aE d a r={ d with U:=d.U.set a.toNat (jN (tie d a) r),q:=d.q ++ r.w.map fun k=>cB (ri (tie d a) 0) (xc k) }:=if_pos h
theorem RK {P:E→Prop} {l:List E} {k:Nat} {z:E} (h:∀ y∈l,P y) (hz:P z):∀ y∈l.set k z,P y:=fun y hy=>by
 rcases List.mem_or_eq_of_mem_set hy with g|g
 ·exact h y g
 ·rw [g];exact hz
theorem tm {d:CS} {a:Int} {r:VT} (h0:0≤a) (h1:a < d.U.length):(aE d a r).U.map pr=d.U.map pr:=by
 unfold aE;split
 ·obtain⟨h,e⟩:=Qo h0 h1;simp only;rw [List.map_set,show pr (jN (tie d a) r)=pr (tie d a) from rfl,e];have:pr d.U[a.toNat]=(d.U.map pr)[a.toNat]'(by rw [List.length_map];exact h):=by rw [List.getElem_map]
  rw [this,List.set_getElem_self]
 ·rfl
theorem cP {d:CS} (h:Vd d) {a:Int} (h0:0≤a) (h1:a < d.U.length) {r:VT} (g:ji r):Vd (aE d a r)∧(aE d a r).q.length≤d.q.length+1∧(aE d a r).U.length=d.U.length:=by
 have hp:=tm (r:=r) h0 h1;have hm:=h.t _ (bT h0 h1);rw [lX g.1] at *;refine⟨⟨h.i,RK h.t (Ug hm g).1,?_,h.g,h.c,h.o,h.w,h.z⟩,?_,List.length_set⟩
 ·rw [hp];exact h.s
 ·simp only [List.length_append,List.length_map];have:=g.2.2;omega
theorem Kp {y:E} (h:Nn y=true):ji (pE y):=Fm h
theorem MD {y:E} (h:Nn y=true):ji (zg y):=Um h
theorem xP {y:E} (h:Nn y=true):ji (kq y):=yD h
theorem IZ {y:E} (k:Int) (h:Nn y=true):ji (eT k y):=QX h
def fl (y:E):Int × Bool:=(ri y 0,rb y 5)
theorem Xx {l q:List E} (h:l.map fl=q.map fl) (p:Int):bJ l p=bJ q p:=by
 have e:∀ l:List E,bJ l p=((l.map fl).filter fun x=>x.2 && !decide (x.1=p)).map (·.1):=fun l=>by
  unfold bJ;rw [List.filter_map,List.map_map];rfl
 rw [e,e,h]
structure Ok (d x:CS) (n:Nat):Prop where
 v:Vd x
 f:tq d x
 p:x.U.map pr=d.U.map pr
 q:x.q.length≤d.q.length+n
 l:x.U.length=d.U.length
theorem jQ {d x:CS} {n:Nat} (h:Ok d x n) {a:Int} (h0:0≤a) (h1:a < x.U.length) {r:VT} (g:ji r):Ok d (aE x a r) (n+1):=by
 obtain⟨v,q,l⟩:=cP h.v h0 h1 g;refine⟨v,OU h.f (zx _ _ _),(tm h0 h1).trans h.p,?_,l.trans h.l⟩;have:=h.q;omega
theorem Gk {d:CS} (h:Vd d):Ok d d 0:=⟨h,rfl,rfl,Nat.le_refl _,rfl⟩
theorem tI {d:CS} (h:Vd d):∀ n:Nat,n≤d.U.length→Ok d (eh d n) n
 |0,_=>Gk h
 |n+1,hn=>by
  have g:=tI h n (by omega);have h1:(n:Int) < (eh d n).U.length:=by rw [g.l];omega
  exact jQ g (Int.natCast_nonneg n) h1 (MD (g.v.t _ (bT (Int.natCast_nonneg n) h1)).v)
theorem yY {d:CS} (h:Vd d):∀ n:Nat,n≤d.U.length→Ok d (cD d n) n
 |0,_=>Gk h
 |n+1,hn=>by
  have g:=yY h n (by omega);have h1:(n:Int) < (cD d n).U.length:=by rw [g.l];omega
  have hv:=(g.v.t _ (bT (Int.natCast_nonneg n) h1)).v;refine jQ g (Int.natCast_nonneg n) h1 ?_;split
  ·exact xP hv
  ·exact MD hv
theorem QV {d:CS} {a:Int} {r:VT} (h0:0≤a) (h1:a < d.U.length) (h:r.b=rb (tie d a) 5):(aE d a r).U.map fl=d.U.map fl:=by
 unfold aE;split
 ·obtain⟨h2,e⟩:=Qo h0 h1;simp only;rw [List.map_set,show fl (jN (tie d a) r)=fl (tie d a) from by unfold fl;rw [show rb (jN (tie d a) r) 5=r.b from rfl,h];rfl,e];have:fl d.U[a.toNat]=(d.U.map fl)[a.toNat]'(by rw [List.length_map];exact h2):=by rw [List.getElem_map]
  rw [this,List.set_getElem_self]
 ·rfl
theorem Lz {d:CS} (h:Vd d):∀ n:Nat,n≤d.U.length→(eh d n).U.map fl=d.U.map fl
 |0,_=>rfl
 |n+1,hn=>by
  have g:=tI h n (by omega);have h1:(n:Int) < (eh d n).U.length:=by rw [g.l];omega
  exact (QV (Int.natCast_nonneg n) h1 (afv (g.v.t _ (bT (Int.natCast_nonneg n) h1)).v)).trans (Lz h n (by omega))
theorem SY {d:CS} (h:Vd d):Ok d (Ju d) d.U.length:=tI h _ (Nat.le_refl _)
theorem Yk {l:List E} (h:(l.map pr).Pairwise (· < ·)) (p:Int):(bJ l p).Pairwise (· < ·):=by
 unfold bJ;have:(l.filter (vW p)).map (fun y=>ri y 0)=(l.filter (vW p)).map pr:=rfl;rw [this];exact h.sublist (List.Sublist.map _ List.filter_sublist)
theorem zX {d:CS} (h:Vd d) (p:Int):(bJ d.U p).Nodup∧(bJ d.U p).length≤64:=⟨(Yk h.s p).imp fun g e=>by omega,Nat.le_trans (sL _ _) h.len⟩
theorem ye:aX [] []=true:=by decide
theorem zC {d:CS} (h:Vd d) (ho:d.o=false) (e r p:Int):Vd (kP d e r p) :=
 ⟨h.i,h.t,h.s,ye,fun y hy=>(by cases hy),fun g=>(by rw [show (kP d e r p).o=d.o from rfl,ho] at g;cases g),zX h p,Nat.zero_le _,Nat.zero_le _,Nat.zero_le _⟩
theorem Qd {d:CS} (h:Vd d) (l:List Int) (w:WK):Vd (ed d l w):=⟨h.i,h.t,h.s,h.g,h.c,h.o,h.w,h.z⟩
theorem iU {d:CS} (h:Vd d) (ho:d.o=false) (e r p:Int):Vd (eR d e r p)∧(eR d e r p).q.length≤d.q.length+2 * d.U.length∧(eR d e r p).U.length=d.U.length∧tq (ed (kP d e r p) (bJ d.U p) (Oz (kP d e r p))) (eR d e r p):=by
 have v:=Qd (zC h ho e r p) (bJ d.U p) (Oz (kP d e r p));have g:=SY v;refine⟨g.v,?_,g.l,g.f⟩;have:=g.q;have e1:(ed (kP d e r p) (bJ d.U p) (Oz (kP d e r p))).q.length=d.q.length+(bJ d.U p).length:=by
  unfold ed;rw [List.length_append,List.length_map];rfl
 have e2:(ed (kP d e r p) (bJ d.U p) (Oz (kP d e r p))).U.length=d.U.length:=rfl;have e3:=sL d.U p;rw [e1,e2] at this;unfold eR;omega
theorem aes {d:CS} (h:Vd d):Vd (Qr d):=⟨h.i,h.t,h.s,ye,fun y hy=>(by cases hy),fun _=>rfl,⟨List.nodup_nil,Nat.zero_le _⟩,Nat.zero_le _,Nat.zero_le _,Nat.zero_le _⟩
theorem yH {d:CS} (h:Vd d):Vd (mj d)∧(mj d).q.length≤d.q.length+d.U.length∧(mj d).U.length=d.U.length:=by
 unfold mj;split
 ·exact⟨h,by omega,rfl⟩
 ·have g:=yY h _ (Nat.le_refl _);exact⟨aes g.v,g.q,g.l⟩
theorem Xs {p q:List E} (hp:∀ y∈p,y=e5 y) (hq:∀ y∈q,y=e5 y) (h:p.map kT=q.map kT):p=q:=by
 have key:∀ x y:E,kT x=kT y→e5 x=e5 y:=fun x y g=>by
  unfold kT at g;unfold e5;simp only [Prod.mk.injEq] at g;obtain⟨g1,g2,g3,g4,g5⟩:=g;rw [g1,g2,g3,g4,g5]
 induction p generalizing q with
 |nil =>
  cases q with
  |nil=>rfl
  |cons=>cases h
 |cons x p ih =>
  cases q with
  |nil=>cases h
  |cons y q =>
   rw [List.map_cons,List.map_cons,List.cons.injEq] at h;rw [hp x (List.mem_cons_self ..),hq y (List.mem_cons_self ..),key x y h.1,ih (fun z hz=>hp z (List.mem_cons_of_mem _ hz)) (fun z hz=>hq z (List.mem_cons_of_mem _ hz)) h.2]
theorem Wg {n k:List Int} {l q:List E} (h1:aX n l=true) (h2:aX k q=true) (c1:∀ y∈l,y=e5 y) (c2:∀ y∈q,y=e5 y) :
  (oL n k=true→¬oo n l k q=0)∧(oL n k=false→oo n l k q=0∧oO n l k q=Dv n k∧nY n l k q=Al n k l q∧aX (Dv n k) (Al n k l q)=true∧(∀ y∈Al n k l q,y=e5 y)):=by
 obtain⟨s,e⟩:=HF h1 h2;refine⟨fun c=>by rw [e,if_pos c];decide,fun c=>?_⟩;have hc:eH n k=false:=by rw [OO (oR h1)];exact c
 have e0:oo n l k q=0:=by rw [e,if_neg (by rw [c];decide)]
 have ok:rO n l k q=true:=agv.1 e0;have sn:oO n l k q=SoI.fR (n ++ k):=if_pos ok;have sl:nY n l k q=SoK.kM (l ++ q):=if_pos ok;unfold dV gE kg at s;rw [Bool.and_eq_true,decide_eq_true_eq,decide_eq_true_eq] at s;have cl:∀ y∈nY n l k q,y=e5 y:=fun y hy=>by
  rw [sl,oS,List.mem_append] at hy;rcases hy with g|g
  ·exact c1 y g
  ·exact c2 y g
 have cr:∀ y∈Al n k l q,y=e5 y:=fun y hy=>by
  have hx:Al n k l q=GH l q 64:=if_neg (by rw [c];decide);rw [hx] at hy;obtain⟨z,_,hz⟩:=(Ac (fun y hy=>qS (cw h1 hy).1) (fun y hy=>qS (cw h2 hy).1) y).1 hy;rw [hz];rfl
 have eL:=Xs cl cr s.2;refine⟨e0,s.1,eL,?_,cr⟩;rw [← s.1,← eL,sn,sl];exact Zb h1 h2 hc
theorem TY {i:Int} (hi:bG i=true) {l:List E} (ht:∀ y∈l,GB i y) (hs:(l.map pr).Pairwise (· < ·)):aX [i] (dx i l)=true∧∀ y∈dx i l,y=e5 y:=by
 refine⟨PM (Gv (List.pairwise_singleton _ _) fun t h=>by rw [List.mem_singleton] at h;rw [h];exact Du hi) ?_ fun y hy=>?_,fun y hy=>?_⟩
 ·unfold dx;rw [List.pairwise_map] at hs ⊢;exact hs.imp fun g=>.inr ⟨rfl,g⟩
 ·unfold dx at hy;obtain⟨z,hz,rfl⟩:=List.mem_map.1 hy;have g:=ht z hz;refine⟨?_,?_⟩
  ·show QF i (ri z 0) (ri z 1) (ri z 2)=true;unfold QF;exact decide_eq_true ⟨hi,g.n,fun e=>g.d e.symm,g.r⟩
  ·rw [List.contains_iff_mem];exact List.mem_singleton.2 rfl
 ·unfold dx at hy;obtain⟨z,hz,rfl⟩:=List.mem_map.1 hy;rfl
theorem YX {d:CS} (h:Vd d):aX [d.i] (dx d.i d.U)=true∧(oL [d.i] d.gn=true→cW d=[d.i]∧cT d=dx d.i d.U)∧(oL [d.i] d.gn=false→cW d=Dv [d.i] d.gn∧cT d=Al [d.i] d.gn (dx d.i d.U) d.gl)∧aX (cW d) (cT d)=true∧(∀ y∈cT d,y=e5 y):=by
 obtain⟨hm,hc⟩:=TY h.i h.t h.s;obtain⟨e1,e2⟩:=Wg hm h.g hc h.c;unfold cW cT;refine⟨hm,fun c=>⟨if_neg (e1 c),if_neg (e1 c)⟩,fun c=>?_,?_,?_⟩
 ·obtain⟨g1,g2,g3,_,_⟩:=e2 c;rw [if_pos g1,if_pos g1];exact⟨g2,g3⟩
 ·cases c:oL [d.i] d.gn
  ·obtain⟨g1,g2,g3,g4,g5⟩:=e2 c;rw [if_pos g1,if_pos g1,g2,g3];exact g4
  ·rw [if_neg (e1 c),if_neg (e1 c)];exact hm
 ·cases c:oL [d.i] d.gn
  ·obtain⟨g1,g2,g3,g4,g5⟩:=e2 c;rw [if_pos g1,g3];exact g5
  ·rw [if_neg (e1 c)];exact hc
end Go.Proofs.YtelhldgdnlppfaaGreat.KrV
namespace Go.Proofs.YtelhldgdnlppfaaGreat.KrW
open Go Ry ViR VoR KsS KsC KsT ViT ViM MgT KrV
open MgR (oO nY oo eH rO)
open ChQ (jt ef CH)
structure Lk (L:Lv) (n:Nat):Prop where
 ok:∀ x,Vd x→x.q.length≤n→L.ok x=true
 v:∀ x,Vd x→Vd (L.B x)
def Lb (L:Lv) (n:Nat):Prop:=∀ x,Vd x→x.q.length≤n→(∃ z∈x.U,rb z 5=true)→L.ok x=true
theorem Lk.lb {L:Lv} {n:Nat} (h:Lk L n):Lb L n:=fun x h1 h2 _=>h.ok x h1 h2
theorem Pr {d:CS} (h:Vd d) {a:Int} (h0:0≤a) (h1:a < d.U.length) (h2:(pE (tie d a)).tb=true):∃ z∈(aE d a (pE (tie d a))).U,rb z 5=true:=by
 have g:=Kp (h.t _ (bT h0 h1)).v;rw [lX g.1];refine⟨jN (tie d a) (pE (tie d a)),?_,?_⟩
 ·simp only;exact List.mem_set (by omega) _
 ·rw [show rb (jN (tie d a) (pE (tie d a))) 5=(pE (tie d a)).b from rfl];exact abR h2
theorem Yu {L:Lv} {n:Nat} (hL:Lb L (n+1)) (hn:n≤90000) {d:CS} (h:Vd d) {k a:Int} (h0:0≤a) (h1:a < d.U.length) (hq:d.q.length≤n) (h3:k=3→rb (tie d a) 5=true→L.ok (aE d a (kq (tie d a)))=true):kK L d k a=true:=by
 have hl:=h.len;unfold kK szI;simp only [Bool.and_eq_true,Bool.or_eq_true,Bool.not_eq_true',decide_eq_true_eq,decide_eq_false_iff_not];refine⟨⟨h0,h1,by omega,by omega⟩,?_,?_⟩
 ·by_cases k2:k=2
  ·right;cases e:(pE (tie d a)).tb
   ·exact .inl rfl
   ·right;obtain⟨v,q,_⟩:=cP h h0 h1 (Kp (h.t _ (bT h0 h1)).v);exact hL _ v (by omega) (Pr h h0 h1 e)
  ·exact .inl k2
 ·by_cases k3:k=3
  ·right;cases e:(kq (tie d a)).tp
   ·exact .inl rfl
   ·right;exact h3 k3 (abk e)
  ·exact .inl k3
theorem tz {d:CS} (h:Vd d) (ho:d.o=false) (c:CH) {v:List Int} {l:List E} (hv:v.length≤500) (hl:l.length≤500):Vd (dH d c v l)∧(dH d c v l).q.length≤d.q.length+64∧(dH d c v l).U=d.U:=by
 have hk:=(zX h d.p).2;have e:(ed d (bJ d.U d.p) (rM d c v l)).q.length≤d.q.length+64:=by
  unfold ed;rw [List.length_append,List.length_map];omega
 unfold dH;split
 ·exact⟨⟨h.i,h.t,h.s,h.g,h.c,fun g=>(by rw [show ({ ed d (bJ d.U d.p) (rM d c v l) with ph:=4,tn:=v,tl:=l }:CS).o=d.o from rfl,ho] at g;cases g),h.w,h.z.1,hv,hl⟩,e,rfl⟩
 ·exact⟨⟨h.i,h.t,h.s,h.g,h.c,fun g=>(by rw [show ({ ed d (bJ d.U d.p) (rM d c v l) with ph:=3 }:CS).o=d.o from rfl,ho] at g;cases g),h.w,h.z⟩,e,rfl⟩
theorem rU {d:CS} {c:CH} (h:ja d c=true):0≤bA d.U c.b∧bA d.U c.b < d.U.length:=by
 have:=(of_decide_eq_true h).2.2.1;exact⟨this,(jd _ _).2⟩
theorem Vf {L:Lv} {n:Nat} (hL:Lb L (n+65)) (hn:n≤80000) {d:CS} (h:Vd d) (ho:d.o=false) (hq:d.q.length≤n) {c:CH} {v:List Int} {l:List E} (hv:v.length≤500) (hl:l.length≤500)
  (h3:c.k=3→0≤bA d.U c.b→rb (tie d (bA d.U c.b)) 5=true→∀ x,Vd x→x.q.length≤n+65→L.ok x=true):qP L d c v l=true:=by
 have hl6:=h.len;unfold qP;rw [Bool.and_eq_true,decide_eq_true_eq];refine⟨⟨by omega,by omega,by omega,by omega⟩,?_⟩;cases e:ja d c
 ·rfl
 ·obtain⟨v1,q1,t1⟩:=tz h ho c hv hl;obtain⟨m1,m2⟩:=rU e;have m2' : bA d.U c.b < (dH d c v l).U.length:=by rw [t1];exact m2
  refine Yu (n:=n+64) hL (by omega) v1 m1 m2' (by omega) fun k3 hb=>?_;obtain⟨v2,q2,_⟩:=cP v1 m1 m2' (xP (v1.t _ (bT m1 m2')).v);have:tie (dH d c v l) (bA d.U c.b)=tie d (bA d.U c.b):=by unfold tie;rw [t1]
  rw [this] at hb;exact h3 k3 m1 hb _ v2 (by omega)
theorem lz {d:CS} (h:Vd d):(cW d).length≤65∧(cT d).length≤364:=by
 have:=IB d;have:=h.len;have:=h.VQ;have:=h.z.1;omega
theorem jc {d:CS} (h:¬stops d=true):d.o=false∧d.ph=1∧d.w=[]∧qo d.U=false:=by
 unfold stops at h;simp only [Bool.or_eq_true,Bool.not_eq_true',decide_eq_true_eq,decide_eq_false_iff_not,not_or,Decidable.not_not] at h;obtain⟨h1,h2,h3,h4⟩:=h;refine⟨by simpa using h1,h2,List.length_eq_zero_iff.1 (by omega),by simpa using h4⟩
theorem MP {L:Lv} {n:Nat} (hL:Lb L (n+65)) (hn:n≤80000) {d:CS} (h:Vd d) (hq:d.q.length≤n)
  (h3:¬stops d=true→d.p=0→(∃ z∈d.U,rb z 5=true)→∀ x,Vd x→x.q.length≤n+65→L.ok x=true):eN L d=true:=by
 have hl6:=h.len;have hg6:=h.VQ;have hs:=lz h;unfold eN szD;rw [Bool.and_eq_true,decide_eq_true_eq];have hz:=h.z.1;refine⟨⟨by omega,by omega,by omega,by omega⟩,?_⟩
 by_cases e1:stops d=true
 ·rw [e1];rfl
 by_cases e2:d.p=0
 ·by_cases e3:jt (cW d) (cT d)=0
  ·rw [Vf hL hn h (jc e1).1 hq (c:=ef (cW d) (cT d)) (v:=cW d) (l:=cT d) (by omega) (by omega) fun _ g0 hb=>h3 e1 e2 ⟨_,bT g0 (jd _ _).2,hb⟩];simp
  ·rw [decide_eq_false e3];simp
 ·rw [decide_eq_false e2];simp
theorem BA {d:CS} (h:Vd d) (hb:∃ z∈d.U,rb z 5=true):bJ d.U 0≠[]:=by
 obtain⟨z,hz,e⟩:=hb;intro g;have:ri z 0∈bJ d.U 0:=by
  unfold bJ;refine List.mem_map.2 ⟨z,List.mem_filter.2 ⟨hz,?_⟩,rfl⟩;unfold vW;rw [e,decide_eq_false (by have:=Du (h.t z hz).n;omega)];rfl
 rw [g] at this;cases this
theorem Vk (d:CS) (h:Vd d) (ho:d.o=false) (e r p:Int):(eR d e r p).w=bJ d.U p∧(eR d e r p).p=p∧(eR d e r p).o=false∧(eR d e r p).U.map fl=d.U.map fl:=by
 have g:=(iU h ho e r p).2.2.2;unfold tq at g;refine⟨by rw [g];rfl,by rw [g];rfl,by rw [g];exact ho,?_⟩;unfold eR;exact Lz (Qd (zC h ho e r p) _ _) _ (Nat.le_refl _)
theorem wm (L:Lv) {d:CS} (h:Vd d) (hq:d.q.length≤79000) (hb:∃ z∈d.U,rb z 5=true):kY L d=true:=by
 have hl6:=h.len;unfold kY nZ;rw [Bool.and_eq_true,decide_eq_true_eq];refine⟨⟨by omega,by omega⟩,?_⟩;cases ho:d.o
 ·obtain⟨v,q,_,_⟩:=iU h ho (dz d.t d.ee+1) d.i 0;have w:=(Vk d h ho (dz d.t d.ee+1) d.i 0).1;have:gG L d (dz d.t d.ee+1) d.i 0=true:=by
   unfold gG eN szD;have hz:=v.z.1;have hg:=v.VQ;have hl:=v.len;have st:stops (eR d (dz d.t d.ee+1) d.i 0)=true:=by
    by_cases g:stops (eR d (dz d.t d.ee+1) d.i 0)=true
    ·exact g
    ·have:=(jc g).2.2.1;rw [w] at this;exact absurd this (BA h hb)
   rw [st];simp only [Bool.and_eq_true,decide_eq_true_eq,Bool.true_or,and_true];exact⟨⟨by omega,by omega⟩,by omega,by omega,by omega,by omega⟩
  rw [this];simp
 ·rfl
theorem Pu {L:Lv} {n:Nat} (hL:Lb L (n+300)) (hn:n≤70000) {d:CS} (h:Vd d) (hq:d.q.length≤n):kY L d=true:=by
 have hl6:=h.len;unfold kY nZ;rw [Bool.and_eq_true,decide_eq_true_eq];refine⟨⟨by omega,by omega⟩,?_⟩;cases ho:d.o
 ·obtain⟨v,q,l1,_⟩:=iU h ho (dz d.t d.ee+1) d.i 0;obtain⟨w,p,o,f⟩:=Vk d h ho (dz d.t d.ee+1) d.i 0;have:gG L d (dz d.t d.ee+1) d.i 0=true:=by
   unfold gG;rw [Bool.and_eq_true,decide_eq_true_eq];refine⟨⟨by omega,by omega⟩,MP (n:=n+128) (fun x h1 h2 h3=>hL x h1 (by omega) h3) (by omega) v (by omega) fun g _ hb=>?_⟩;have:=(jc g).2.2.1;rw [w,Xx f.symm 0] at this;exact absurd this (BA v hb)
  rw [this];simp
 ·rfl
theorem Xp {L:Lv} (hB:∀ x,Vd x→Vd (L.B x)) {d:CS} (h:Vd d) (k:Int) {a:Int} (h0:0≤a) (h1:a < d.U.length):Vd (jh L d k a):=by
 have hv:=(h.t _ (bT h0 h1)).v;unfold jh;split
 ·have g:=(cP h h0 h1 (Kp hv)).1;split
  ·exact hB _ g
  ·exact g
 ·split
  ·have g:=(cP h h0 h1 (xP hv)).1;split
   ·exact hB _ g
   ·exact g
  ·exact h
theorem UL {L:Lv} (hB:∀ x,Vd x→Vd (L.B x)) {d:CS} (h:Vd d) (ho:d.o=false) (c:CH) {v:List Int} {l:List E} (hv:v.length≤500) (hl:l.length≤500):Vd (mh L d c v l):=by
 obtain⟨g,_,t⟩:=tz h ho c hv hl;unfold mh;split
 ·rename_i e;obtain⟨m1,m2⟩:=rU e;exact Xp hB g _ m1 (by rw [t];exact m2)
 ·exact g
theorem Ae {L:Lv} (hB:∀ x,Vd x→Vd (L.B x)) {d:CS} (h:Vd d):Vd (cy L d):=by
 have hs:=lz h;unfold cy;split
 ·exact h
 ·rename_i e;have ho:=(jc e).1;split
  ·exact⟨h.i,h.t,h.s,h.g,h.c,fun g=>(by rw [show ({ jz d d.p (ecW d (cW d) (cT d)) with ph:=2 }:CS).o=d.o from rfl,ho] at g;cases g),h.w,h.z⟩
  ·split
   ·exact⟨h.i,h.t,h.s,h.g,h.c,fun g=>(by rw [show ({ d with ph:=3 }:CS).o=d.o from rfl,ho] at g;cases g),h.w,h.z⟩
   ·exact UL hB h ho _ (by omega) (by omega)
theorem zV {L:Lv} (hB:∀ x,Vd x→Vd (L.B x)) {d:CS} (h:Vd d):Vd (gu L d):=by
 unfold gu;split
 ·exact h
 ·rename_i e;split
  ·exact Ae hB (iU h (by simpa using e) _ _ _).1
  ·exact (yH h).1
theorem agr {L:Lv} (hB:∀ x,Vd x→Vd (L.B x)) (hL:Lb L 79000):Lk L.up 70000:=⟨fun _ h q=>Pu (n:=70000) (fun x h1 h2 h3=>hL x h1 (by omega) h3) (Nat.le_refl _) h q,fun _ h=>zV hB h⟩
theorem afd {L:Lv}:Lb L.up 79000:=fun _ h q b=>wm L h q b
theorem Wo:∀ x,Vd x→Vd (vF.B x):=fun _ h=>h
def VV:Lv:=vF.up.up
theorem Ce:Lk VV 70000:=agr (L:=vF.up) (fun _ h=>zV Wo h) afd
end Go.Proofs.YtelhldgdnlppfaaGreat.KrW
namespace Go.Proofs.YtelhldgdnlppfaaGreat.TrW
open Go Ry Go.Proofs.YtelhldgdnlppfaaGreat.So JoS EcX EgR EgL SpR SpQ SpK SpT SpL SpN TrK TrB TrR TrC TrQ
end Go.Proofs.YtelhldgdnlppfaaGreat.TrW
namespace Go.Proofs.YtelhldgdnlppfaaGreat.TrX
open Go Ry Go.Proofs.YtelhldgdnlppfaaGreat.So JoS EcX EgR EgL SpR SpQ SpK SpT SpL SpN TrK TrB TrR TrC TrQ
theorem EL {l:List E} {a b:Int}:Ks l a b=true↔De l a b=0:=by
 unfold Ks De;rw [Bool.and_eq_true,Bool.and_eq_true,Bool.and_eq_true,decide_eq_true_eq];constructor
 ·rintro⟨h1,h2,h3,h4⟩;rw [if_pos ⟨h3,h4,by rw [tO h1];exact h2⟩]
 ·intro h;split at h
  ·rename_i q;have h1:=(qn q.2.2).1;exact⟨h1,by rw [← tO h1];exact q.2.2,q.1,q.2.1⟩
  ·cases h
theorem GA {l:List E} {a b:Int} (h:De l a b=0):qc l a b=0↔rJ l a b=true:=by
 obtain⟨h1,h2,h3⟩:=WT h;obtain⟨f1,f2,f3⟩:=qn h3;have na:=(gZ a).1 h1;have nb:=(gZ b).1 h2;have k:=HT f2 nb na;rw [EA (fun y hy=>f2.ok _ (List.mem_map_of_mem hy))];unfold qc;rw [if_pos h];constructor
 ·intro g;split at g
  ·cases g
  ·rename_i q;exact⟨na,nb,fM (k.1 q)⟩
 ·rintro⟨_,_,c⟩;rw [if_neg (k.2 (fM c))]
theorem adK {l:List E} {a b:Int}:qc l a b=0∨qc l a b=1∨qc l a b=9:=by
 unfold qc;split
 ·split
  ·exact .inr (.inr rfl)
  ·exact .inl rfl
 ·exact .inr (.inl rfl)
theorem aaO {l:List E} {a b:Int}:qc l a b=1↔¬De l a b=0:=by
 unfold qc;split
 ·rename_i h;split <;> exact⟨fun q=>by omega,fun q=>absurd h q⟩
 ·rename_i h;exact⟨fun _=>h,fun _=>rfl⟩
theorem CR (l:List E) (a b:Int):(Ks l a b=false→qc l a b=1)∧(Ks l a b=true→rJ l a b=false→qc l a b=9)∧(Ks l a b=true→rJ l a b=true→qc l a b=0) ∧
  (¬qc l a b=0→Zy l a b=[]∧nxB l a b=0∧Ai l a b=qc l a b∧lW l a b=(0,0,0)) ∧
  (qc l a b=0→(Zy l a b).length≤64∧(a=b→nxB l a b=b∧Ai l a b=4∧lW l a b=(0,0,0))∧(¬a=b→1 < (Zy l a b).length∧nxB l a b=(Zy l a b).getD 1 0∧Ai l a b=0∧0 < (kC l a b).length∧lW l a b=mP (kC l a b))):=by
 refine⟨fun h=>aaO.2 fun k=>?_,fun h g=>?_,fun h g=>(GA (EL.1 h)).2 g,fun h=>⟨if_neg h,if_neg h,if_neg h,?_⟩,fun h=>?_⟩
 ·rw [EL.2 k] at h;cases h
 ·have k:=EL.1 h;have n0:¬qc l a b=0:=fun q=>by
   rw [(GA k).1 q] at g;cases g
  rcases @adK l a b with q|q|q
  ·exact absurd q n0
  ·exact absurd k (aaO.1 q)
  ·exact q
 ·unfold lW;rw [if_neg];unfold Ai;rw [if_neg h];exact h
 ·obtain⟨na,nb,h1,f,c,w,g,_,lw,_⟩:=aaq h;have e:Zy l a b=wF 65 (qQ l b) a:=if_pos h;have ex:nxB l a b=ix (qQ l b) a:=if_pos h;refine⟨by rw [e];exact lw,fun q=>?_,fun q=>?_⟩
  ·subst q;obtain⟨e1,_⟩:=acf w g;have hv:Ai l a a=4:=by
    unfold Ai;rw [if_pos h,if_pos rfl]
   refine⟨by rw [ex];exact e1,hv,?_⟩;unfold lW;rw [hv];rfl
  ·obtain⟨e1,e2,_⟩:=abT w g q;have hv:Ai l a b=0:=by
    unfold Ai;rw [if_pos h,if_neg q]
   have on:=aby f na nb w;have ne:=aer f w q;refine⟨by rw [e];exact e1,by rw [ex,e,e2],hv,?_,?_⟩
   ·rw [on];exact List.length_pos_iff.2 ne
   ·unfold lW;rw [if_pos hv,on];refine WQ l (fun y hy=>?_) ne;have:=(CO (f.ji.1 _ (List.mem_map_of_mem hy))).1;unfold cZ bM at this;simp only at this;omega
theorem Pc {α β:Type} {k:α→β}:∀ {l:List α},(l.map k).Nodup→∀ {x y:α},x∈l→y∈l→k x=k y→x=y
 |[],_,_,_,hx,_,_=>by cases hx
 |z :: l,nd,x,y,hx,hy,e=>by
  rw [List.map_cons,List.nodup_cons] at nd;rcases List.mem_cons.1 hx with e1|hx2
  ·rcases List.mem_cons.1 hy with e2|hy2
   ·rw [e1,e2]
   ·exact (nd.1 (List.mem_map.2 ⟨y,hy2,by rw [← e,e1]⟩)).elim
  ·rcases List.mem_cons.1 hy with e2|hy2
   ·exact (nd.1 (List.mem_map.2 ⟨x,hx2,by rw [e,e2]⟩)).elim
   ·exact Pc nd.2 hx2 hy2 e
end Go.Proofs.YtelhldgdnlppfaaGreat.TrX
namespace Go.Proofs.YtelhldgdnlppfaaGreat.RoV
open Go Ry Cmp ViR ViC ViL ViT ViQ
def afJ (b:List E) (e:E):Bool:=b.any fun z=>decide (ri z 0=ri e 0∧ri z 1=ri e 1∧ri z 2=ri e 2)
def vw1 (b:List E) (a p:Int) (e:E):List E:=if ri e 0=a∧ri e 1=p∨ri e 1=a∧ri e 0=p then [[D.int a,D.int p,D.int (ri e 2),D.int 1,D.bool (afJ b e)]] else []
def vw2 (l b:List E) (a p:Int):List E:=l.flatMap (vw1 b a p)
def vw3 (l b:List E) (a:Int) (k:Nat):List E:=(List.range k).flatMap fun p:Nat=>vw2 l b a ((p:Int)+1)
def vw4 (l b:List E) (n:List Int):List E:=n.flatMap fun a=>vw3 l b a 64
structure XM where
 i:Int
 b:Bool
structure Rv where
 ahk:List E→List E→List Int→List E
 Lw:List E→List E→List Int→Bool
def Rv.aa:Rv:=⟨vw4,fun l b n=>decide (n.length≤100∧l.length≤1000∧b.length≤1000)⟩
end Go.Proofs.YtelhldgdnlppfaaGreat.RoV
