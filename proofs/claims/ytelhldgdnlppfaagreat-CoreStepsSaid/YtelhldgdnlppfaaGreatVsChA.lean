
/-
  What a root does,by the code and by the document. No condition.
-/
import Derived.Test.YtelhldgdnlppfaaGreatVsChQ
import Derived.Test.YtelhldgdnlppfaaGreatVsW48
import Derived.Test.YtelhldgdnlppfaaGreatVsW48
set_option cbv.maxSteps 4000000
set_option maxHeartbeats 4000000
set_option maxRecDepth 100000
namespace Go.Proofs.YtelhldgdnlppfaaGreat.ChT
open Go Ry ViR ViL ViT ChR ChQ
open EcX (fX sZ)
open SpR (gw)
open SpQ (rJ vC rQ eD)
open EgR (bM)
open TrC (kC mP Vo yX)
open TrR (qn De)
open TrQ (Ai lW)
open TrX (GA CR)
open SoC (dC jr)
section
open Go.Proofs.YtelhldgdnlppfaaGreat.So JoS EcX EgR EgL SpR SpQ SpK SpT SpL SpN
theorem cw {n:List Int} {l:List E} (h:aX n l=true) {y:E} (hy:y∈l):JY y=true∧n.contains (ri y 0)=true:=by
 obtain⟨k,hk,e⟩:=List.getElem_of_mem hy;have:=MK h k hk;rw [ViR.fF l k hk,e] at this;exact⟨this.1,this.2.1⟩
def key (y:E):Int × Int:=(ri y 0,ri y 1)
theorem yo (l0:List E):∀ l:List E,((l.flatMap (ViL.Dd l0)).map key).Sublist (l.map key)
 |[]=>.slnil
 |y :: l=>by
  rw [List.flatMap_cons,List.map_append,List.map_cons];unfold ViL.Dd;split
  ·exact (yo l0 l).cons_cons _
  ·exact (yo l0 l).cons _
theorem MW:∀ l:List E,(∀ y∈l,ri y 0 < ri y 1)→(((fz l).map bM).map fun y=>(y.1,y.2.1)).Sublist (l.map key)
 |[],_=>.slnil
 |y :: l,h=>by
  have ih:=MW l fun z hz=>h z (List.mem_cons_of_mem _ hz);have hy:=h y (List.mem_cons_self ..);unfold fz at ih ⊢;rw [List.flatMap_cons,List.map_append,List.map_append,List.map_cons];unfold Uu;split
  ·have e:([[D.int (eW (ri y 0) (ri y 1)),D.int (eX (ri y 0) (ri y 1)),D.int (ri y 2)]].map bM).map (fun y=>(y.1,y.2.1))=[key y]:=by
    show [(eW (ri y 0) (ri y 1),eX (ri y 0) (ri y 1))]=_;unfold eW eX key;rw [if_neg (by omega),if_neg (by omega)]
   rw [e];exact ih.cons_cons _
  ·exact ih.cons _
theorem MV {l:List E} {e:T} (h:e∈(fz l).map bM):∃ y∈l,e=(eW (ri y 0) (ri y 1),eX (ri y 0) (ri y 1),ri y 2):=by
 obtain⟨z,hz,rfl⟩:=List.mem_map.1 h;unfold fz at hz;obtain⟨y,hy,hz⟩:=List.mem_flatMap.1 hz;unfold Uu at hz;split at hz
 ·rw [List.mem_singleton.1 hz];exact⟨y,hy,rfl⟩
 ·cases hz
theorem fe {n:List Int} {l:List E} (h:aX n l=true):CJ ((fz (eO l)).map bM)∧∀ e∈(fz (eO l)).map bM,n.contains e.1=true∧n.contains e.2.1=true:=by
 have pw:=lA h;have one:∀ e∈(fz (eO l)).map bM,ky e.1 e.2.1 e.2.2=true∧n.contains e.1=true∧n.contains e.2.1=true:=fun e he=>by
  obtain⟨a,ha,rfl⟩:=MV he;obtain⟨y,hy,z,hz,c0,c1,c2,c3,c4,rfl⟩:=Dj h ha;obtain⟨m1,m2⟩:=cw h hy;obtain⟨_,m4⟩:=cw h hz;rw [c1] at m4;unfold JY ViR.QF ViR.bG at m1;rw [decide_eq_true_eq,decide_eq_true_eq,decide_eq_true_eq] at m1;show ky (eW (ri y 0) (ri y 1)) (eX (ri y 0) (ri y 1)) (ri y 2)=true∧n.contains (eW (ri y 0) (ri y 1))=true∧n.contains (eX (ri y 0) (ri y 1))=true;unfold eW eX ky;rw [if_neg (by omega),if_neg (by omega),decide_eq_true_eq];exact⟨by omega,m2,m4⟩
 refine⟨⟨fun e he=>(one e he).1,?_⟩,fun e he=>(one e he).2⟩;have nd:(l.map key).Nodup:=by
  refine List.pairwise_map.2 (pw.imp fun {x y} k e=>?_);unfold key at e;rw [Prod.mk.injEq] at e;unfold ln at k;omega
 refine nd.sublist ((MW (eO l) fun y hy=>?_).trans (yo l l));obtain⟨y,_,z,_,c0,_,_,_,_,rfl⟩:=Dj h hy;exact c0
theorem pz {n:List Int} {l:List E} (h:aX n l=true) (hl:l.length≤512):kS (gC n l)=0∧gC n l=fz (ba l)∧(gC n l).length≤512:=by
 have e:gC n l=fz (eO l):=if_pos h;have a:=Zx (eO l);have b:=nN l;rw [e,CZ h];exact⟨(gK _).2 ⟨(fe h).1,by omega⟩,rfl,by omega⟩
end
theorem zh (a b c x y z:Int):fX a b c x y z < 0↔vC a b c x y z=true:=by
 rw [← yX,sZ a b c x y z];omega
def Yd (x y:K5):Bool:=vC (eW x.1 x.2.1) (eX x.1 x.2.1) x.2.2.1 (eW y.1 y.2.1) (eX y.1 y.2.1) y.2.2.1
def fi1 (l:List E) (b:Int) (i:Nat):Int:=if b < 0∨Yd (k5 (l.getD i [])) (k5 (l.getD b.toNat []))=true then (i:Int) else b
def dw (l:List E) (k:Nat):Int:=(List.range k).foldl (fi1 l) (-1)
theorem FX (l:List E) (k:Nat):dw l (k+1)=fi1 l (dw l k) k:=by
 unfold dw;rw [List.range_succ,List.foldl_append];rfl
theorem aex (c:K5) (y:E):TZ c y=if Yd (k5 y) c=true then k5 y else c:=by
 have e:(cK (ri y 0) (ri y 1) (ri y 2) c.1 c.2.1 c.2.2.1 < 0)↔Yd (k5 y) c=true:=zh _ _ _ _ _ _;unfold TZ
 by_cases h:Yd (k5 y) c=true
 ·rw [if_pos h,if_pos (e.2 h)]
 ·rw [if_neg h,if_neg (fun g=>h (e.1 g))]
theorem Nt (l:List E):∀ k:Nat,k+1≤l.length→0≤dw l (k+1)∧dw l (k+1) < (k:Int)+1∧k5 (l.getD (dw l (k+1)).toNat [])=qY (l.take (k+1))
 |0,h=>by
  have e:dw l 1=0:=rfl;rw [e];refine⟨Int.le_refl 0,by omega,?_⟩;cases l with
  |nil=>exact absurd h (by decide)
  |cons y l=>exact (GK y).symm
 |k+1,h=>by
  obtain⟨h0,h1,h2⟩:=Nt l k (by omega);have hn:=yf (l:=l) (i:=(k:Int)+1) (by omega) (by omega);rw [show ((k:Int)+1+1).toNat=k+1+1 by omega,show ((k:Int)+1).toNat=k+1 by omega,aex,← h2] at hn;rw [FX];unfold fi1
  by_cases c:Yd (k5 (l.getD (k+1) [])) (k5 (l.getD (dw l (k+1)).toNat []))=true
  ·rw [if_pos (.inr c)];rw [if_pos c] at hn;refine⟨by omega,by omega,?_⟩;rw [hn];rfl
  ·rw [if_neg (by rintro (g|g) <;> first|omega|exact c g)];rw [if_neg c] at hn;exact⟨h0,by omega,hn.symm⟩
theorem ve (l:List E):(l.length=0→dw l l.length = -1)∧(0 < l.length→0≤dw l l.length∧dw l l.length < l.length∧k5 (l.getD (dw l l.length).toNat [])=qY l):=by
 constructor
 ·intro h;rw [h];rfl
 ·intro h;have g:=Nt l (l.length - 1) (by omega);rw [show l.length - 1+1=l.length by omega,List.take_length] at g;exact⟨g.1,by omega,g.2.2⟩
theorem Of (x y:E):Yd (k5 x) (k5 y)=true↔SoC.vj x y:=by
 have ea:∀ n p:Int,eW n p=min n p:=fun n p=>by unfold eW;split <;> omega
 have eb:∀ n p:Int,eX n p=max n p:=fun n p=>by unfold eX;split <;> omega
 show vC (eW (ri x 0) (ri x 1)) (eX (ri x 0) (ri x 1)) (ri x 2) (eW (ri y 0) (ri y 1)) (eX (ri y 0) (ri y 1)) (ri y 2)=true↔_;rw [← zh,ea,eb,ea,eb];exact EcX.xN _ _ _ _ _ _
theorem Gj {x y z:E} (h:SoC.vj x y) (g:SoC.vj y z):SoC.vj x z:=by unfold SoC.vj at *;omega
theorem Dy:∀ (l:List E) (y:E),∃ z,(z=y∨z∈l)∧l.foldl TZ (k5 y)=k5 z∧¬SoC.vj y z∧∀ w∈l,¬SoC.vj w z
 |[],y=>⟨y,.inl rfl,rfl,fun h=>by unfold SoC.vj at h;omega,fun w hw=>by cases hw⟩
 |x :: l,y=>by
  rw [List.foldl_cons,aex]
  by_cases c:Yd (k5 x) (k5 y)=true
  ·rw [if_pos c];obtain⟨z,h1,h2,h3,h4⟩:=Dy l x;have c':=(Of x y).1 c;refine⟨z,.inr (h1.elim (fun e=>by rw [e];exact List.mem_cons_self ..) fun e=>List.mem_cons_of_mem _ e),h2,fun k=>h3 (Gj c' k),fun w hw=>?_⟩;rcases List.mem_cons.1 hw with rfl|hw
   ·exact h3
   ·exact h4 w hw
  ·rw [if_neg c];obtain⟨z,h1,h2,h3,h4⟩:=Dy l y;have c' : ¬SoC.vj x y:=fun k=>c ((Of x y).2 k);refine⟨z,h1.elim .inl fun e=>.inr (List.mem_cons_of_mem _ e),h2,h3,fun w hw=>?_⟩;rcases List.mem_cons.1 hw with rfl|hw
   ·intro k;unfold SoC.vj at *;omega
   ·exact h4 w hw
theorem Mp {l:List E} (h:0 < l.length):∃ z∈l,qY l=k5 z∧∀ w∈l,¬SoC.vj w z:=by
 cases l with
 |nil=>exact absurd h (by decide)
 |cons y l =>
  obtain⟨z,h1,h2,h3,h4⟩:=Dy (y :: l) y;refine⟨z,h1.elim (fun e=>by rw [e];exact List.mem_cons_self ..) id,h2,h4⟩
theorem iC {n:List Int} {l:List E} (h:aX n l=true) {y:E} (hy:y∈eO l):ri y 0 < ri y 1∧bG (ri y 0)=true∧bG (ri y 1)=true∧1≤ri y 3∧ri y 3≤2147483647:=by
 obtain⟨x,hx,z,hz,c0,_,_,_,_,rfl⟩:=Dj h hy;have m:=(cw h hx).1;unfold JY QF at m;rw [decide_eq_true_eq] at m;exact⟨c0,m.1,m.2.1,m.2.2.2.2.2.1,m.2.2.2.2.2.2⟩
theorem aaX {n:List Int} {l:List E} (h:aX n l=true):((eO l).map key).Nodup:=by
 refine List.Nodup.sublist (yo l l) ?_;refine List.pairwise_map.2 ((lA h).imp fun {x y} k e=>?_);unfold key at e;rw [Prod.mk.injEq] at e;unfold ln at k;omega
theorem aax {n:List Int} {l:List E} (h:aX n l=true) {y z:E} (hy:y∈eO l) (hz:z∈eO l) (e0:ri y 0=ri z 0) (e1:ri y 1=ri z 1):y=z :=
 TrX.Pc (aaX h) hy hz (by unfold key;rw [e0,e1])
theorem adx {n:List Int} {l:List E} (h:aX n l=true) {y z:E} (hy:y∈eO l) (hz:z∈eO l) (g1:¬SoC.vj y z) (g2:¬SoC.vj z y):y=z:=by
 have a:=(iC h hy).1;have b:=(iC h hz).1;refine aax h hy hz ?_ ?_ <;> (unfold SoC.vj at g1 g2;omega)
def e5 (y:E):E:=[D.int (ri y 0),D.int (ri y 1),D.int (ri y 2),D.int (ri y 3),D.bool (rb y 4)]
def QN (d:List E) (y:E):Bool:=!rb y 4 && (rJ d (eW (ri y 0) (ri y 1)) (eX (ri y 0) (ri y 1)) && vC (eW (ri y 0) (ri y 1)) (eX (ri y 0) (ri y 1)) (ri y 2) (mP (kC d (eW (ri y 0) (ri y 1)) (eX (ri y 0) (ri y 1)))).1 (mP (kC d (eW (ri y 0) (ri y 1)) (eX (ri y 0) (ri y 1)))).2.1 (mP (kC d (eW (ri y 0) (ri y 1)) (eX (ri y 0) (ri y 1)))).2.2)
def li1 (d:List E) (y:E):List E:=if QN d y=true then [e5 y] else []
def KM (d l:List E):List E:=l.flatMap (li1 d)
theorem TQ (d:List E) (y:E):(li1 d y).length≤1:=by unfold li1;split <;> simp
theorem EU {d:List E} (hd:gw d=true) {a b:Int} (ha:bG a=true) (hb:bG b=true) (ne:a≠b):(Ai d a b=0↔rJ d a b=true)∧(rJ d a b=true→0 < (kC d a b).length∧lW d a b=mP (kC d a b)):=by
 have hc:De d a b=0:=if_pos ⟨ha,hb,hd⟩;have hm:=GA hc;obtain⟨_,_,_,w4,w5⟩:=CR d a b;constructor
 ·constructor
  ·intro h;refine hm.1 (Decidable.byContradiction fun g=>?_);have:=(w4 g).2.2.1;rw [h] at this;exact g this.symm
  ·intro h;exact ((w5 (hm.2 h)).2.2 ne).2.2.1
 ·intro h;have:=((w5 (hm.2 h)).2.2 ne).2.2.2;exact this
theorem IA {n p:Int} (h:n < p):eW n p=n∧eX n p=p:=by
 unfold eW eX;rw [if_neg (by omega),if_neg (by omega)];exact⟨rfl,rfl⟩
theorem NT {n:List Int} {l d:List E} (h:aX n l=true) (hd:gw d=true) {y:E} (hy:y∈eO l):Xd d y=QN d y:=by
 obtain⟨h1,h2,h3,_⟩:=iC h hy;obtain⟨ea,eb⟩:=IA h1;obtain⟨v1,v2⟩:=EU hd h2 h3 (by omega);unfold Xd QN;rw [ea,eb]
 congr 1
 rw [Bool.eq_iff_iff,Bool.and_eq_true,Bool.and_eq_true,decide_eq_true_eq,decide_eq_true_eq,v1];constructor
 ·rintro⟨g1,g2⟩;rw [(v2 g1).2,zh] at g2;exact⟨g1,g2⟩
 ·rintro⟨g1,g2⟩;rw [(v2 g1).2,zh];exact⟨g1,g2⟩
theorem DW {d l:List E} {t:E}:t∈KM d l↔∃ y∈l,QN d y=true∧t=e5 y:=by
 unfold KM li1;rw [List.mem_flatMap];constructor
 ·rintro⟨y,hy,g⟩;split at g
  ·rename_i c;exact⟨y,hy,c,List.mem_singleton.1 g⟩
  ·cases g
 ·rintro⟨y,hy,c,rfl⟩;exact⟨y,hy,by rw [if_pos c];exact List.mem_singleton.2 rfl⟩
theorem EX {n:List Int} {l d:List E} (h:aX n l=true) (hd:gw d=true) :
  (ju (eO l) d=none→(KM d (eO l)).length=0)∧∀ y,ju (eO l) d=some y→y∈eO l∧QN d y=true∧0 < (KM d (eO l)).length∧qY (KM d (eO l))=k5 y:=by
 obtain⟨_,hp,hs⟩:=jr (eO l);constructor
 ·intro g;unfold ju at g;rw [List.find?_eq_none] at g;cases e:KM d (eO l) with
  |nil=>rfl
  |cons t r =>
   have ht:t∈KM d (eO l):=by rw [e];exact List.mem_cons_self ..
   obtain⟨y,hy,c,_⟩:=DW.1 ht;exact absurd (by rw [NT h hd hy];exact c) (g y (hp.mem_iff.2 hy))
 ·intro y g;unfold ju at g;obtain⟨gp,us,bs,e,gn⟩:=List.find?_eq_some_iff_append.1 g;have hy:y∈eO l:=hp.mem_iff.1 (by rw [e];simp);rw [NT h hd hy] at gp;have hm:e5 y∈KM d (eO l):=DW.2 ⟨y,hy,gp,rfl⟩;have hl:0 < (KM d (eO l)).length:=List.length_pos_of_mem hm;refine⟨hy,gp,hl,?_⟩;obtain⟨t,ht,e1,e2⟩:=Mp hl;obtain⟨z,hz,cz,rfl⟩:=DW.1 ht;have a1:¬SoC.vj y z:=e2 (e5 y) hm;have a2:¬SoC.vj z y:=by
   have hz' : z∈us ++ y :: bs:=by rw [← e];exact hp.mem_iff.2 hz
   rcases List.mem_append.1 hz' with q|q
   ·have:=gn z q;rw [NT h hd hz,cz] at this;cases this
   ·rcases List.mem_cons.1 q with rfl|q
    ·exact a1
    ·rw [e,List.pairwise_append] at hs;exact (List.pairwise_cons.1 hs.2.1).1 z q
  rw [e1,adx h hy hz a1 a2];rfl
theorem Wp {n:List Int} {l:List E} (h:aX n l=true) (hd:gw (gC n l)=true) {y:E} (hy:y∈eO l) (hl:QN (gC n l) y=true) :
  rJ (gC n l) (ri y 0) (ri y 1)=true∧eW (ri y 0) (ri y 1)=ri y 0∧eX (ri y 0) (ri y 1)=ri y 1∧0 < (kC (gC n l) (ri y 0) (ri y 1)).length∧lW (gC n l) (ri y 0) (ri y 1)=mP (kC (gC n l) (ri y 0) (ri y 1)) ∧
  ∃ z∈eO l,lW (gC n l) (ri y 0) (ri y 1)=(ri z 0,ri z 1,ri z 2)∧Bh (lW (gC n l) (ri y 0) (ri y 1)).1 (lW (gC n l) (ri y 0) (ri y 1)).2.1 (lW (gC n l) (ri y 0) (ri y 1)).2.2 z=true:=by
 obtain⟨h1,h2,h3,_⟩:=iC h hy;obtain⟨ea,eb⟩:=IA h1;unfold QN at hl;rw [ea,eb,Bool.and_eq_true,Bool.and_eq_true] at hl;obtain⟨v1,v2⟩:=(EU hd h2 h3 (by omega)).2 hl.2.1;refine⟨hl.2.1,ea,eb,v1,v2,?_⟩;have hne:kC (gC n l) (ri y 0) (ri y 1)≠[]:=fun e=>by rw [e] at v1;exact absurd v1 (by decide)
 have hm:=(Vo hne).1;rw [← v2] at hm;obtain⟨w,hw,e⟩:=List.mem_map.1 hm;unfold kC at hw;obtain⟨x,hx,rfl⟩:=List.mem_map.1 hw;have hx2:=(List.mem_filter.1 hx).1;have ex:bM (SpQ.e3 x)=bM x:=rfl;rw [ex] at e;have hb:gC n l=fz (eO l):=if_pos h;rw [hb] at hx2;obtain⟨z,hz,ez⟩:=MV (List.mem_map_of_mem (f:=bM) hx2);obtain⟨f1,f2⟩:=IA (iC h hz).1;rw [f1,f2,e] at ez;refine⟨z,hz,ez,?_⟩;unfold Bh;rw [decide_eq_true_eq,f1,f2,ez];exact⟨rfl,rfl,rfl⟩
theorem aey {l:List E} {a b w:Int} (h:∃ z∈l,Bh a b w z=true):∃ z∈l,Bh a b w z=true∧ET l a b w=ri z 3:=by
 unfold ET;cases e:l.find? (Bh a b w) with
 |none =>
  obtain⟨z,hz,g⟩:=h;rw [List.find?_eq_none] at e;exact absurd g (e z hz)
 |some z=>exact⟨z,List.mem_of_find?_eq_some e,List.find?_some e,rfl⟩
theorem ZB {n:List Int} {l:List E} (h0:jt n l=0):vq (ef n l).k (ef n l).a (ef n l).b (ef n l).s=true:=by
 have hm:aX n l=true∧gw (gC n l)=true:=by
  unfold jt at h0;split at h0
  ·split at h0
   ·exact⟨‹_›,‹_›⟩
   ·cases h0
  ·cases h0
 obtain⟨h,hd⟩:=hm;have ei:mM n l=eO l:=if_pos h;unfold ef;rw [if_neg (fun k=>k h0)];split
 ·rename_i c;rw [ei] at c ⊢;unfold xh at c;unfold vH;cases e:ju (eO l) (gC n l) with
  |none=>rw [e] at c;cases c
  |some y =>
   obtain⟨hy,hp,_⟩:=(EX h hd).2 y e;obtain⟨_,_,_,_,_,z,hz,e1,e2⟩:=Wp h hd hy hp;obtain⟨x,hx,_,e3⟩:=aey ⟨z,hz,e2⟩;obtain⟨a1,a2,a3,_⟩:=iC h hz;obtain⟨_,_,_,b4,b5⟩:=iC h hx;unfold vq;rw [decide_eq_true_eq];right;simp only;rw [e3,e1];exact⟨.inr trivial,a2,a3,by simp only;omega,b4,b5,.inr a1⟩
 ·split
  ·rename_i c;obtain⟨z,hz,e1,_⟩:=Mp c;have eo:rR n l=kz n l:=if_pos h;rw [eo] at hz;unfold kz at hz;obtain⟨y,hy,g⟩:=List.mem_flatMap.1 hz;unfold VZ at g;split at g
   ·cases g
   ·rw [List.mem_singleton.1 g] at e1;have m:=(cw h hy).1;unfold JY QF at m;rw [decide_eq_true_eq] at m;unfold vq;rw [decide_eq_true_eq,e1];right;exact⟨.inl rfl,m.1,m.2.1,m.2.2.1,m.2.2.2.2.2.1,m.2.2.2.2.2.2,.inl rfl⟩
  ·rfl
end Go.Proofs.YtelhldgdnlppfaaGreat.ChT
namespace Go.Proofs.YtelhldgdnlppfaaGreat.ChA
open Go Ry Cmp ViR ViL ViT ChR ChQ ChT
open ViQ (tC qB oF lN ue xu zH pF)
open SpQ (qN jE zf pJ rJ vC rQ eD)
open TrQ (aae Wv mY rA lW ME)
open TrC (kC mP)
open SpR (gw)
open EgR (bM)
structure XF where
 i:Int
 b:Int
def fiQ (l:List E) (y:XF):Prop:=0≤y.i∧y.i≤l.length∧y.b=dw l y.i.toNat
def WB (l:List E) (y:XF):Nat:=l.length - y.i.toNat
noncomputable def fiI (l:List E) (y:XF):St:=br Tryz.f148.ntmps [(0,.sl none (.ae .bg l)),(3,.ay y.b),(4,.ay y.i)] [] [Any]
def fiR (st:St):XF:=⟨bw st 4,bw st 3⟩
theorem adg (l:List E):∀ k:Nat,k≤l.length→-1≤dw l k∧dw l k < k
 |0,_=>⟨Int.le_refl _,by show (-1:Int) < 0;decide⟩
 |k+1,h=>by
  obtain⟨h0,h1,_⟩:=Nt l k (by omega);omega
theorem RI {l:List E} (hl:l.length≤1000000) {i b:Int} (hq:fiQ l ⟨i,b⟩):0≤i∧i≤l.length∧-1≤b∧b < i+1∧(¬b < 0→b < i)∧(i < l.length→aD .add .i64 i 1=i+1∧(∀ b',WB l ⟨i+1,b'⟩ < WB l ⟨i,b⟩) ∧
  ((b < 0∨vC (eW (ri (l.getD i.toNat []) 0) (ri (l.getD i.toNat []) 1)) (eX (ri (l.getD i.toNat []) 0) (ri (l.getD i.toNat []) 1)) (ri (l.getD i.toNat []) 2) (eW (ri (l.getD b.toNat []) 0) (ri (l.getD b.toNat []) 1)) (eX (ri (l.getD b.toNat []) 0) (ri (l.getD b.toNat []) 1)) (ri (l.getD b.toNat []) 2)=true)→fiQ l ⟨i+1,i⟩) ∧
  (¬(b < 0∨vC (eW (ri (l.getD i.toNat []) 0) (ri (l.getD i.toNat []) 1)) (eX (ri (l.getD i.toNat []) 0) (ri (l.getD i.toNat []) 1)) (ri (l.getD i.toNat []) 2) (eW (ri (l.getD b.toNat []) 0) (ri (l.getD b.toNat []) 1)) (eX (ri (l.getD b.toNat []) 0) (ri (l.getD b.toNat []) 1)) (ri (l.getD b.toNat []) 2)=true)→fiQ l ⟨i+1,b⟩))∧(¬i < l.length→b=dw l l.length):=by
 obtain⟨h0,h1,h2⟩:=hq;simp only at h0 h1 h2;obtain⟨b0,b1⟩:=adg l i.toNat (by omega);have en:(i+1).toNat=i.toNat+1:=by omega
 have ei:((i.toNat:Nat):Int)=i:=by omega
 have nx:=FX l i.toNat;rw [← h2] at nx b0 b1;unfold fi1 at nx;rw [ei] at nx;refine⟨h0,h1,b0,by omega,fun _=>by omega,fun h=>⟨by rw [aW,wr _ (by omega) (by omega)],fun _=>by simp only [WB];omega,fun g=>⟨by simp only;omega,by simp only;omega,?_⟩,fun g=>⟨by simp only;omega,by simp only;omega,?_⟩⟩,fun h=>?_⟩
 ·simp only;rw [en,nx];exact (if_pos g).symm
 ·simp only;rw [en,nx];exact (if_neg g).symm
 ·rw [h2,show i.toNat=l.length by omega]
noncomputable def l1I (n:List Int) (l q d:List E) (y:XC):St:=br Tryz.f121.ntmps [(1,.ptr 1 0),(2,.ptr 2 0),(3,.sl none (.ae .bg q)),(4,.sl none (.ae .pY d)),(5,.sl (some (3,94)) (.ae .bg y.o)),(6,.ay y.i)] [(1,.cells 29 [.sl none (.ints .i64 n),.sl none (.ae .bg l)]),(2,.cells 38 [.num .i64 0,.num .i64 0,.num .i64 0,.num .i64 0]),(3,.tok)] [Any]
def l1R (st:St):XC:=⟨bw st 6,ZC (match fW st 5 with | .sl _ c=>c|_=>.ae .nil [])⟩
noncomputable def l2I (n:List Int) (l q:List E) (a b w:Int) (y:XF):St:=br Tryz.f121.ntmps [(1,.ptr 1 0),(2,.ptr 2 0),(3,.sl none (.ae .bg q)),(10,.ptr 3 0),(11,.ay y.i)] [(1,.cells 29 [.sl none (.ints .i64 n),.sl none (.ae .bg l)]),(2,.cells 38 [.num .i64 0,.num .i64 0,.num .i64 0,.num .i64 0]),(3,.cells 183 [.ay a,.ay b,.ay w])] [Any]
def l2R (st:St):XF:=⟨bw st 11,0⟩
def Nx (l:List E) (a b w:Int) (y:XF):Prop:=0≤y.i∧y.i≤l.length∧ET l a b w=ET (l.drop y.i.toNat) a b w∧(∃ z∈l.drop y.i.toNat,Bh a b w z=true)
theorem yd {l:List E} (hl:l.length≤1000000) {a b w i c:Int} (hq:Nx l a b w ⟨i,c⟩):0≤i∧i≤l.length∧i < l.length∧aD .add .i64 i 1=i+1∧(∀ c',WB l ⟨i+1,c'⟩ < WB l ⟨i,c⟩) ∧
  ((eW (ri (l.getD i.toNat []) 0) (ri (l.getD i.toNat []) 1)=a∧eX (ri (l.getD i.toNat []) 0) (ri (l.getD i.toNat []) 1)=b∧ri (l.getD i.toNat []) 2=w)→ET l a b w=ri (l.getD i.toNat []) 3) ∧
  (¬(eW (ri (l.getD i.toNat []) 0) (ri (l.getD i.toNat []) 1)=a∧eX (ri (l.getD i.toNat []) 0) (ri (l.getD i.toNat []) 1)=b∧ri (l.getD i.toNat []) 2=w)→∀ c',Nx l a b w ⟨i+1,c'⟩):=by
 obtain⟨h0,h1,h2,z,hz,h3⟩:=hq;simp only at h0 h1 h2 hz;have hi:i < l.length:=by
  refine Decidable.byContradiction fun k=>?_;rw [List.drop_of_length_le (by omega)] at hz;cases hz
 have hs:=FR hl (a:=a) (b:=b) (w:=w) (i:=i) ⟨h0,h1,h2⟩;obtain⟨_,_,g,_⟩:=hs;obtain⟨g1,_,g3,g4⟩:=g hi;refine⟨h0,h1,hi,g1,fun _=>by simp only [WB];omega,g3,fun k c'=>?_⟩;obtain⟨k0,k1,k2⟩:=g4 k;refine⟨k0,k1,k2,z,?_,h3⟩;rw [om l i h0 hi] at hz;rcases List.mem_cons.1 hz with e|hz
 ·rw [e] at h3;unfold Bh at h3;rw [decide_eq_true_eq] at h3;exact absurd h3 k
 ·exact hz
def JW (n:List Int) (l:List E):Bool:=decide (aX n l=true∧gw (gC n l)=true∧n.length≤70∧l.length≤400)
theorem acJ {l:List E} {i:Int} (h0:0≤i) (h:i < l.length):l.getD i.toNat []∈l:=by
 rw [List.getD_eq_getElem?_getD,List.getElem?_eq_getElem (show i.toNat < l.length by omega)];exact List.getElem_mem _
theorem VN {n:List Int} {l:List E} (h:aX n l=true) (hl:l.length≤400):rQ (gC n l)=true:=by
 have:=pz h (by omega);exact SpL.agj (SpL.AN this.1) (by omega)
theorem Uc {n:List Int} {l:List E} (h:JW n l=true):aX n l=true∧n.length≤70∧l.length≤400∧rQ (fz (ba l))=true∧(ba l).length≤400∧(fz (ba l)).length≤400∧(kz n l).length≤400∧(∀ a b,(kC (fz (ba l)) a b).length≤400) ∧
  (∀ y∈ba l,rJ (fz (ba l)) (eW (ri y 0) (ri y 1)) (eX (ri y 0) (ri y 1))=true→0 < (kC (fz (ba l)) (eW (ri y 0) (ri y 1)) (eX (ri y 0) (ri y 1))).length):=by
 have h:=of_decide_eq_true h;obtain⟨hm,hf,hn,hl⟩:=h;have hb:=pz hm (by omega);have eb:fz (ba l)=gC n l:=hb.2.1.symm;have e:=CZ hm;have h1:=nN l;have h2:=PA n l;have h3:(kz n l).length≤l.length:=ij (sG n) l;rw [eb,e];refine⟨hm,hn,hl,VN hm hl,by omega,by omega,by omega,fun a b=>?_,fun y hy g=>?_⟩
 ·have:=ME (gC n l) a b;omega
 ·obtain⟨g1,g2,g3,_⟩:=iC hm hy;obtain⟨ea,eb'⟩:=IA g1;rw [ea,eb'] at g ⊢;exact ((EU hf g2 g3 (by omega)).2 g).1
theorem VD {n:List Int} {l:List E} (h:JW n l=true):jt n l=0:=by
 have h:=of_decide_eq_true h;unfold jt;rw [if_pos h.1,if_pos h.2.1]
theorem Tn {n:List Int} {l:List E} (h:JW n l=true) {o:List E} (ho:o=KM (fz (ba l)) (ba l)) (k:0≤dw o o.length) :
  dw o o.length < o.length∧0 < (kC (fz (ba l)) (eW (ri (o.getD (dw o o.length).toNat []) 0) (ri (o.getD (dw o o.length).toNat []) 1)) (eX (ri (o.getD (dw o o.length).toNat []) 0) (ri (o.getD (dw o o.length).toNat []) 1))).length ∧
  Nx (ba l) (mP (kC (fz (ba l)) (eW (ri (o.getD (dw o o.length).toNat []) 0) (ri (o.getD (dw o o.length).toNat []) 1)) (eX (ri (o.getD (dw o o.length).toNat []) 0) (ri (o.getD (dw o o.length).toNat []) 1)))).1 (mP (kC (fz (ba l)) (eW (ri (o.getD (dw o o.length).toNat []) 0) (ri (o.getD (dw o o.length).toNat []) 1)) (eX (ri (o.getD (dw o o.length).toNat []) 0) (ri (o.getD (dw o o.length).toNat []) 1)))).2.1 (mP (kC (fz (ba l)) (eW (ri (o.getD (dw o o.length).toNat []) 0) (ri (o.getD (dw o o.length).toNat []) 1)) (eX (ri (o.getD (dw o o.length).toNat []) 0) (ri (o.getD (dw o o.length).toNat []) 1)))).2.2 ⟨0,0⟩ ∧
  ef n l=⟨3,(mP (kC (fz (ba l)) (eW (ri (o.getD (dw o o.length).toNat []) 0) (ri (o.getD (dw o o.length).toNat []) 1)) (eX (ri (o.getD (dw o o.length).toNat []) 0) (ri (o.getD (dw o o.length).toNat []) 1)))).1,(mP (kC (fz (ba l)) (eW (ri (o.getD (dw o o.length).toNat []) 0) (ri (o.getD (dw o o.length).toNat []) 1)) (eX (ri (o.getD (dw o o.length).toNat []) 0) (ri (o.getD (dw o o.length).toNat []) 1)))).2.1,ET (ba l) (mP (kC (fz (ba l)) (eW (ri (o.getD (dw o o.length).toNat []) 0) (ri (o.getD (dw o o.length).toNat []) 1)) (eX (ri (o.getD (dw o o.length).toNat []) 0) (ri (o.getD (dw o o.length).toNat []) 1)))).1 (mP (kC (fz (ba l)) (eW (ri (o.getD (dw o o.length).toNat []) 0) (ri (o.getD (dw o o.length).toNat []) 1)) (eX (ri (o.getD (dw o o.length).toNat []) 0) (ri (o.getD (dw o o.length).toNat []) 1)))).2.1 (mP (kC (fz (ba l)) (eW (ri (o.getD (dw o o.length).toNat []) 0) (ri (o.getD (dw o o.length).toNat []) 1)) (eX (ri (o.getD (dw o o.length).toNat []) 0) (ri (o.getD (dw o o.length).toNat []) 1)))).2.2⟩:=by
 have h0:=VD h;have hh:=of_decide_eq_true h;obtain⟨hm,hf,_,hl⟩:=hh;have eb:fz (ba l)=gC n l:=(pz hm (by omega)).2.1.symm;have ei:mM n l=eO l:=if_pos hm;rw [eb,CZ hm] at ho ⊢;have pos:0 < o.length:=by
  refine Nat.pos_of_ne_zero fun z=>?_;rw [(ve o).1 z] at k;omega
 obtain⟨f0,f1,f2⟩:=(ve o).2 pos;obtain⟨a0,a1⟩:=EX hm hf;cases e:ju (eO l) (gC n l) with
 |none =>
  rw [ho,a0 e] at pos;exact absurd pos (by decide)
 |some y =>
  obtain⟨y1,y2,_,y4⟩:=a1 y e;rw [← ho] at y4;rw [y4] at f2;have g0:ri (o.getD (dw o o.length).toNat []) 0=ri y 0:=congrArg (fun c:K5=>c.1) f2;have g1:ri (o.getD (dw o o.length).toNat []) 1=ri y 1:=congrArg (fun c:K5=>c.2.1) f2;obtain⟨_,v2,v3,v4,v5,z,z1,_,z3⟩:=Wp hm hf y1 y2;rw [g0,g1,v2,v3,← v5];refine⟨f1,v4,⟨Int.le_refl 0,Int.natCast_nonneg _,rfl,z,z1,z3⟩,?_⟩;unfold ef;rw [if_neg (fun w=>w h0),ei,if_pos (by unfold xh;rw [e];rfl)];unfold vH;rw [e]
theorem Za {n:List Int} {l:List E} (h:JW n l=true) {o:List E} (ho:o=KM (fz (ba l)) (ba l)) (k:¬0≤dw o o.length) :
  (0≤dw (kz n l) (kz n l).length→dw (kz n l) (kz n l).length < (kz n l).length∧ef n l=⟨2,ri ((kz n l).getD (dw (kz n l) (kz n l).length).toNat []) 0,ri ((kz n l).getD (dw (kz n l) (kz n l).length).toNat []) 1,ri ((kz n l).getD (dw (kz n l) (kz n l).length).toNat []) 3⟩) ∧
  (¬0≤dw (kz n l) (kz n l).length→ef n l=⟨1,0,0,0⟩):=by
 have h0:=VD h;have hh:=of_decide_eq_true h;obtain⟨hm,hf,_,hl⟩:=hh;have eb:fz (ba l)=gC n l:=(pz hm (by omega)).2.1.symm;have ei:mM n l=eO l:=if_pos hm;have eo:rR n l=kz n l:=if_pos hm;rw [eb,CZ hm] at ho;obtain⟨_,a1⟩:=EX hm hf;have e:ju (eO l) (gC n l)=none:=by
  cases e:ju (eO l) (gC n l) with
  |none=>rfl
  |some y =>
   obtain⟨_,_,y3,_⟩:=a1 y e;rw [← ho] at y3;exact absurd ((ve o).2 y3).1 k
 have ec:ef n l=if 0 < (kz n l).length then ⟨2,(qY (kz n l)).1,(qY (kz n l)).2.1,(qY (kz n l)).2.2.2.1⟩ else ⟨1,0,0,0⟩:=by
  unfold ef;rw [if_neg (fun w=>w h0),ei,if_neg (by unfold xh;rw [e];decide),eo]
 rw [ec]
 by_cases p:0 < (kz n l).length
 ·obtain⟨f0,f1,f2⟩:=(ve (kz n l)).2 p;rw [if_pos p,← f2];exact⟨fun _=>⟨f1,rfl⟩,fun w=>absurd f0 w⟩
 ·rw [if_neg p,(ve (kz n l)).1 (by omega)];exact⟨fun w=>absurd w (by decide),fun _=>rfl⟩
structure Ca where
 f_k:List Int→List E→Int
 f_a:List Int→List E→Int
 f_b:List Int→List E→Int
 f_s:List Int→List E→Int
 aeP:List Int→List E→Bool
 qx:List E→Int
 adR:List E→Bool
def Ca.aa:Ca:=⟨fun n l=>(ef n l).k,fun n l=>(ef n l).a,fun n l=>(ef n l).b,fun n l=>(ef n l).s,JW,fun l=>dw l l.length,fun l=>decide (l.length≤1000000)⟩
def Hp (F:Ca):aO:=fun xs h=>match xs,h with
 |[.one (.sl none (.ae (.int .i64 (.int .i64 (.int .i64 (.int .i64 (.bool .nil))))) l))],[]=>some ⟨F.adR l=true,.sa (I (F.qx l)),[],[Any]⟩
 |_,_=>none
theorem ML:au Tryz.prog 148 (Hp Ca.aa):=by
 have hfs:=(ak.cons pF (ak.cons pJ ak.nil rfl) rfl);refine aw hfs Tryz.func148 rfl rfl fun xs h p hp=>?_;unfold Hp at hp;split at hp
 ·rename_i l;cases hp;refine⟨av rfl,fun hC _=>?_⟩;dsimp only at hC;intro b gv;have hk:l.length≤1000000:=of_decide_eq_true hC;generalize hF:Ca.aa=F,hG0:ViQ.Vm.aa=G0,hG1:SpQ.Sq.aa=G1,hG2:TrQ.Tq.aa=G2,hG3:ChQ.Cq.aa=G3,hG4:RoV.Rv.aa=G4 at hC hfs ⊢;refine bu fun Z zq A hA L hL=>?_
  repeat' (first|(apply al zq;try dsimp only)|apply aS zq (af hL)|apply aq zq|refine aT rfl ?_|apply ai|refine ah rfl ?_|refine aR rfl ?_|exact aA|apply aB|refine aP fun _=>?_|refine aQ fun _=>?_|(constructor;cbv))
  subst hL;refine aJ (aN hfs) (fiQ l) (fiI l) (WB l) fiR ⟨0,-1⟩ ?_ ?_ ?_
  ·exact⟨Int.le_refl 0,Int.natCast_nonneg _,rfl⟩
  ·cbv
   repeat' (first|exact trivial|exact rfl|refine And.intro ?_ ?_)
  rintro⟨i,b⟩ hq O hO;have hst:=RI hk hq;subst hA;generalize hA:Ar.aa=A;generalize hL:Lp _ _ _=L;refine az zq ?_
  repeat' (first|(apply al zq;try dsimp only)|apply aS zq (af hL)|apply aq zq|refine aT rfl ?_|apply ai|refine ah rfl ?_|refine aR rfl ?_|exact aA|apply aB|refine aP fun _=>?_|refine aQ fun _=>?_|(constructor;cbv))
  all_goals (clear hL hfs zq Z hq;subst hA hF hG0 hG1 hG2 hG3 hG4 hO;simp only [Ca.aa,ViQ.Vm.aa,SpQ.Sq.aa,Ar.aa] at * <;> grind [aj];done)
 ·cases hp
def Dn (F:Ca):aO:=fun xs h=>match xs,h with
 |[.agg [.sl none (.ints .i64 v_n),.sl none (.ae (.int .i64 (.int .i64 (.int .i64 (.int .i64 (.bool .nil))))) v_l)]],[]=>some ⟨F.aeP v_n v_l=true,.sa (.agg [.ay (F.f_k v_n v_l),.ay (F.f_a v_n v_l),.ay (F.f_b v_n v_l),.ay (F.f_s v_n v_l)]),[],[Any]⟩
 |_,_=>none
theorem GG:au Tryz.prog 121 (Dn Ca.aa):=by
 have hfs:=(ak.cons qB (ak.cons lN (ak.cons pF (ak.cons jE (ak.cons Wv (ak.cons rA (ak.cons pJ (ak.cons ML (ak.cons xu ak.nil rfl) rfl) rfl) rfl) rfl) rfl) rfl) rfl) rfl);refine aw hfs Tryz.func121 rfl rfl fun xs h p hp=>?_;unfold Dn at hp;split at hp
 ·rename_i v_n v_l;cases hp;refine⟨av rfl,fun hC _=>?_⟩;dsimp only at hC;intro b gv;have hCC:JW v_n v_l=true:=hC;obtain⟨hm,hn,hl,hR,hq1,hd1,ho1,hon,hH⟩:=Uc hCC;generalize hF:Ca.aa=F,hG0:ViQ.Vm.aa=G0,hG1:SpQ.Sq.aa=G1,hG2:TrQ.Tq.aa=G2,hG3:ChQ.Cq.aa=G3,hG4:RoV.Rv.aa=G4 at hC hfs ⊢;refine bu fun Z zq A hA L hL=>?_
  repeat' (first|(apply al zq;try dsimp only)|apply aS zq (af hL)|apply aq zq|refine aT rfl ?_|apply ai|refine ah rfl ?_|refine aR rfl ?_|exact aA|apply aB|refine aP fun _=>?_|refine aQ fun _=>?_|(constructor;cbv))
  all_goals first|(show L _ _ _;skip)|(clear hL hfs zq Z;subst hA hF hG0 hG1 hG2 hG3 hG4;simp only [Ca.aa,ViQ.Vm.aa] at * <;> grind [aj];done)
  subst hL;refine aJ (aN hfs) (Dh (ba v_l) (li1 (fz (ba v_l)))) (l1I v_n v_l (G0.Sm v_l) (G0.PN v_l)) (vn (ba v_l)) l1R ⟨0,[]⟩ ?_ ?_ ?_
  ·exact jA _ _
  ·cbv
   repeat' (first|exact trivial|exact rfl|refine And.intro ?_ ?_)
  rintro⟨i,o⟩ hq O hO;have hst:=fun h=>lI (by omega) hq h;have hol:=qO (TQ _) hq;have hen:¬i < (ba v_l).length→o=KM (fz (ba v_l)) (ba v_l):=fun h=>nC hq h;have q0:=hq.1;have q1:=hq.2.1;dsimp only at q0 q1 hst;have hHi:=fun h=>hH _ (acJ q0 h);have hli:li1 (fz (ba v_l)) ((ba v_l).getD i.toNat [])=if QN (fz (ba v_l)) ((ba v_l).getD i.toNat [])=true then [[D.int (ri ((ba v_l).getD i.toNat []) 0),D.int (ri ((ba v_l).getD i.toNat []) 1),D.int (ri ((ba v_l).getD i.toNat []) 2),D.int (ri ((ba v_l).getD i.toNat []) 3),D.bool (rb ((ba v_l).getD i.toNat []) 4)]] else []:=rfl
  have hlp:QN (fz (ba v_l)) ((ba v_l).getD i.toNat [])=(!rb ((ba v_l).getD i.toNat []) 4 && (rJ (fz (ba v_l)) (eW (ri ((ba v_l).getD i.toNat []) 0) (ri ((ba v_l).getD i.toNat []) 1)) (eX (ri ((ba v_l).getD i.toNat []) 0) (ri ((ba v_l).getD i.toNat []) 1)) && vC (eW (ri ((ba v_l).getD i.toNat []) 0) (ri ((ba v_l).getD i.toNat []) 1)) (eX (ri ((ba v_l).getD i.toNat []) 0) (ri ((ba v_l).getD i.toNat []) 1)) (ri ((ba v_l).getD i.toNat []) 2) (mP (kC (fz (ba v_l)) (eW (ri ((ba v_l).getD i.toNat []) 0) (ri ((ba v_l).getD i.toNat []) 1)) (eX (ri ((ba v_l).getD i.toNat []) 0) (ri ((ba v_l).getD i.toNat []) 1)))).1 (mP (kC (fz (ba v_l)) (eW (ri ((ba v_l).getD i.toNat []) 0) (ri ((ba v_l).getD i.toNat []) 1)) (eX (ri ((ba v_l).getD i.toNat []) 0) (ri ((ba v_l).getD i.toNat []) 1)))).2.1 (mP (kC (fz (ba v_l)) (eW (ri ((ba v_l).getD i.toNat []) 0) (ri ((ba v_l).getD i.toNat []) 1)) (eX (ri ((ba v_l).getD i.toNat []) 0) (ri ((ba v_l).getD i.toNat []) 1)))).2.2)):=rfl;have hyes:=fun g k=>Tn hCC (hen g) k;have hno:=fun g k=>Za hCC (hen g) k;subst hA;generalize hA:Ar.aa=A;generalize hL:Lp _ _ _=L;refine az zq ?_
  repeat' (first|(apply al zq;try dsimp only)|apply aS zq (af hL)|apply aq zq|refine aT rfl ?_|apply ai|refine ah rfl ?_|refine aR rfl ?_|exact aA|apply aB|refine aP fun _=>?_|refine aQ fun _=>?_|(constructor;cbv))
  all_goals first|(show L _ _ _;skip)|(clear hL hfs zq Z hq hH;subst hA hF hG0 hG1 hG2 hG3 hG4 hO;simp only [Ca.aa,ViQ.Vm.aa,SpQ.Sq.aa,TrQ.Tq.aa,Ar.aa] at * <;> grind [aj];done)
  rename_i hx1 hx2;have hg:¬i < (ba v_l).length∧0≤dw o o.length:=by
   clear hL hfs zq Z hq hH hyes hno hst hHi;subst hA hF hG0 hG1 hG2 hG3 hG4 hO;simp only [Ca.aa,ViQ.Vm.aa,Ar.aa] at *
   grind [aj]
  clear hx1 hx2;obtain⟨y1,y2,y3,y4⟩:=hyes hg.1 hg.2;clear hyes hno hst hHi hli hlp;subst hL;refine aJ (aN hfs) (Nx (ba v_l) (mP (kC (fz (ba v_l)) (eW (ri (o.getD (dw o o.length).toNat []) 0) (ri (o.getD (dw o o.length).toNat []) 1)) (eX (ri (o.getD (dw o o.length).toNat []) 0) (ri (o.getD (dw o o.length).toNat []) 1)))).1 (mP (kC (fz (ba v_l)) (eW (ri (o.getD (dw o o.length).toNat []) 0) (ri (o.getD (dw o o.length).toNat []) 1)) (eX (ri (o.getD (dw o o.length).toNat []) 0) (ri (o.getD (dw o o.length).toNat []) 1)))).2.1 (mP (kC (fz (ba v_l)) (eW (ri (o.getD (dw o o.length).toNat []) 0) (ri (o.getD (dw o o.length).toNat []) 1)) (eX (ri (o.getD (dw o o.length).toNat []) 0) (ri (o.getD (dw o o.length).toNat []) 1)))).2.2) (l2I v_n v_l (G0.Sm v_l) (G2.JZ (G2.Ss (G0.PN v_l) (G0.m_a (A.ri (A.bh o (F.qx o)) 0) (A.ri (A.bh o (F.qx o)) 1)) (G0.m_b (A.ri (A.bh o (F.qx o)) 0) (A.ri (A.bh o (F.qx o)) 1)))).1 (G2.JZ (G2.Ss (G0.PN v_l) (G0.m_a (A.ri (A.bh o (F.qx o)) 0) (A.ri (A.bh o (F.qx o)) 1)) (G0.m_b (A.ri (A.bh o (F.qx o)) 0) (A.ri (A.bh o (F.qx o)) 1)))).2.1 (G2.JZ (G2.Ss (G0.PN v_l) (G0.m_a (A.ri (A.bh o (F.qx o)) 0) (A.ri (A.bh o (F.qx o)) 1)) (G0.m_b (A.ri (A.bh o (F.qx o)) 0) (A.ri (A.bh o (F.qx o)) 1)))).2.2) (WB (ba v_l)) l2R ⟨0,0⟩ ?_ ?_ ?_
  ·exact y3
  ·cbv
   repeat' (first|exact trivial|exact rfl|refine And.intro ?_ ?_)
  rintro⟨k,c⟩ hq2 O2 hO2;have hs2:=yd (by omega) hq2;subst hA;generalize hA:Ar.aa=A;generalize hL:Lp _ _ _=L;refine az zq ?_
  repeat' (first|(apply al zq;try dsimp only)|apply aS zq (af hL)|apply aq zq|refine aT rfl ?_|apply ai|refine ah rfl ?_|refine aR rfl ?_|exact aA|apply aB|refine aP fun _=>?_|refine aQ fun _=>?_|(constructor;cbv))
  all_goals (clear hL hfs zq Z hq hq2 hH;subst hA hF hG0 hG1 hG2 hG3 hG4 hO hO2;simp only [Ca.aa,ViQ.Vm.aa,TrQ.Tq.aa,Ar.aa] at * <;> grind [aj];done)
 ·cases hp
end Go.Proofs.YtelhldgdnlppfaaGreat.ChA
