/-
  which cores are alike,by the document. No condition but size.
-/
import Derived.Test.YtelhldgdnlppfaaGreatVsKrZ
import Derived.Test.YtelhldgdnlppfaaGreatVsW14
import Derived.Test.YtelhldgdnlppfaaGreatVsW45
set_option maxHeartbeats 4000000
set_option cbv.maxSteps 4000000
set_option maxRecDepth 100000
namespace Go.Proofs.YtelhldgdnlppfaaGreat.KrQ
open Go Ry ViR VoR KsS KsC KsT KsE KsF KrV KrW KrX KrY KrZ
open ViM (e5)
open ChQ (jt ef CH)
open KsG (iW eJ rN Kb)
def Qb (L:Lv) (n:Nat):Prop:=∀ x,Vd x→(L.B x).q.length≤x.q.length+n
theorem acD {L:Lv} {n:Nat} (hB:Qb L n) {d:CS} (h:Vd d) (k:Int) {a:Int} (h0:0≤a) (h1:a < d.U.length):(jh L d k a).q.length≤d.q.length+1+n:=by
 have hv:=(h.t _ (bT h0 h1)).v;obtain⟨g,q,_⟩:=cP h h0 h1 (Kp hv);obtain⟨g2,q2,_⟩:=cP h h0 h1 (xP hv);have b:=hB _ g;have b2:=hB _ g2;unfold jh;split
 ·split <;> omega
 ·split
  ·split <;> omega
  ·omega
theorem adn {L:Lv} {n:Nat} (hB:Qb L n) {d:CS} (h:Vd d) (ho:d.o=false) (c:CH) {v:List Int} {l:List E} (hv:v.length≤500) (hl:l.length≤500):(mh L d c v l).q.length≤d.q.length+65+n:=by
 obtain⟨g,q,t⟩:=tz h ho c hv hl;unfold mh;split
 ·rename_i e;obtain⟨m1,m2⟩:=rU e;have:=acD hB g c.k m1 (by rw [t];exact m2);omega
 ·omega
theorem Hc {L:Lv} {n:Nat} (hB:Qb L n) {d:CS} (h:Vd d):(cy L d).q.length≤d.q.length+65+n:=by
 have hs:=lz h;unfold cy;split
 ·omega
 ·rename_i e;have ho:=(jc e).1;split
  ·show (d.q ++ [_]).length≤_;rw [List.length_append,List.length_singleton];omega
  ·split
   ·show d.q.length≤_;omega
   ·exact adn hB h ho _ (by omega) (by omega)
theorem Vw {L:Lv} {n:Nat} (hB:Qb L n) {d:CS} (h:Vd d):(gu L d).q.length≤d.q.length+193+n:=by
 have hl:=h.len;have e2:=(yH h).2.1;unfold gu;split
 ·omega
 ·rename_i e;split
  ·obtain⟨v,q,_,_⟩:=iU h (by simpa using e) (dz d.t d.ee+1) d.i 0;have:=Hc hB v;omega
  ·omega
theorem Km:Qb VV 386:=fun _ h=>Vw (L:=vF.up) (n:=193) (fun _ h=>Vw (L:=vF) (n:=0) (fun _ _=>Nat.le_refl _) h) h
theorem afo {L:Lv} {n:Nat} (hB:Qb L n) {d:CS} (h:Vd d) {a:Int} (h0:0≤a) (h1:a < d.U.length) (k:Int):(AP L d a k).q.length≤d.q.length+66+n:=by
 have hv:=(h.t _ (bT h0 h1)).v;obtain⟨g,q,l⟩:=cP h h0 h1 (IZ k hv);have h2:a < (aE d a (eT k (tie d a))).U.length:=by rw [l];exact h1
 have q2:=(cP g h0 h2 (xP (g.t _ (bT h0 h2)).v)).2.1;have b:=hB _ g;have s:=Hc hB g;unfold AP;split
 ·omega
 ·split
  ·omega
  ·split <;> omega
theorem aeU {d:CS} (h:Vd d) (hq:d.q=[]) (hg:d.gl.length≤100) {v:EV} (hc:dy d.i v=true) (hx:Lt v.x):(ju VV d v).q.length≤1000:=by
 have n1:=hx.n.1;have n2:=hx.n.2;have hl:=h.len;have hq0:d.q.length=0:=by rw [hq];rfl
 unfold ju;split
 ·rename_i e;obtain⟨c1,c2,c3⟩:=xQ hc e;have:=Km _ (GD h c1 c2 c3);have e2:(Jl d v.p v.w v.s).q=d.q:=rfl;rw [e2] at this;omega
 ·split
  ·unfold QC;split
   ·omega
   ·have:=Km _ (HP h (bA d.U v.p));have e2:(dnS d v.p).q=d.q:=rfl;have e3:VV.B (dnS d v.p)=VV.B { d with U:=PG d.U (bA d.U v.p) }:=rfl;rw [e3];have e4:({ d with U:=PG d.U (bA d.U v.p) }:CS).q=d.q:=rfl;rw [e4] at this;omega
  ·split
   ·rename_i e;have mw:=uS hc e;unfold iD;split
    ·rename_i e2;split
     ·omega
     ·split
      ·omega
      ·unfold nX;split
       ·obtain⟨v2,q2,_,_⟩:=vd h hg ⟨mw,hx.n,hx.c⟩ e2 v.p;have:=Hc Km v2;rw [q2] at this;omega
       ·omega
    ·unfold dG;split
     ·omega
     ·rename_i na;have at2:=(jd d.U v.p).2;split
      ·have:=afo Km h (show 0≤bA d.U v.p by omega) at2 v.x.k;omega
      ·split
       ·omega
       ·rename_i ho;have ho:d.o=false:=by simpa using ho
        split
        ·split
         ·obtain⟨g,q,_,_⟩:=iU h ho v.x.e v.x.r v.p;have:=Hc Km g;omega
         ·omega
        ·split
         ·split
          ·have:=adn Km h ho (chx v.x) (show v.x.n.length≤500 by omega) (show v.x.l.length≤500 by omega);omega
          ·omega
         ·omega
   ·have:=(yH h).2.1;omega
def Qx (d:CS):CS:=⟨d.i,d.ee,d.er,d.t,d.p,d.U,d.w,d.gn,d.gl,d.ph,d.tn,d.tl,d.l,d.o,[]⟩
theorem Vz {d:CS} (h:Vd d):Vd (Qx d):=⟨h.i,h.t,h.s,h.g,h.c,h.o,h.w,h.z⟩
theorem NN {d:CS} (h:Vd d):rP d=true:=by
 have h1:=h.len;have h2:=h.VQ;have h3:=h.w.2;have h4:=h.z;exact decide_eq_true ⟨by omega,by omega,by omega,by omega,by omega,by omega⟩
theorem Ml {d:CS} (h:Vd d) (hq:d.q=[]) {v:EV} (hg:d.gl.length≤100) (hx:Lt v.x) :
  Kb VV d v=true∧Jz d v=true∧(dy d.i v=true→eV d.i v=0)∧(dy d.i v=false→eV d.i v=1)∧rP d=true ∧
  (dy d.i v=false→dg VV d v=⟨0,0,0,0,0,[],[],[],[],0,[],[],0,false,[]⟩) ∧
  (dy d.i v=true→Vd (Qx (dg VV d v))∧rP (dg VV d v)=true∧Ze (dg VV d v).q=true∧(dg VV d v).U.length≤64):=by
 have hl:=h.len;have hgn:=h.VQ;have hw6:=h.w.2;have hz:=h.z;have n1:=hx.n.1;have n2:=hx.n.2;have hq0:d.q.length=0:=by rw [hq];rfl
 have c1:dy d.i v=true→eV d.i v=0:=fun e=>if_pos e;have c2:dy d.i v=false→eV d.i v=1:=fun e=>if_neg (by rw [e];decide);have s1:dy d.i v=true→dg VV d v=ju VV d v:=fun e=>if_pos (c1 e);refine⟨?_,?_,c1,c2,NN h,fun e=>if_neg (by rw [c2 e];decide),fun e=>?_⟩
 ·unfold KsG.Kb;rw [show IU d v.x=true from decide_eq_true ⟨by omega,by omega,by omega,by omega,by omega,by omega,by omega⟩,decide_eq_true (show d.tn.length≤1000∧d.tl.length≤1000∧d.q=[] from ⟨by omega,by omega,hq⟩)];cases e:dy d.i v
  ·rw [c2 e];simp
  ·rw [aaH (Lk.mono Ce (by omega)) h (by omega) hg e hx];simp
 ·unfold Jz;rw [dA.2 h,lt_iff.2 hx,decide_eq_true (show d.q=[]∧d.gl.length≤100 from ⟨hq,hg⟩)];rfl
 ·rw [s1 e];obtain⟨a,b⟩:=acS Ce.v agk h (fun y hy=>by rw [hq] at hy;cases hy) hg e hx;exact⟨Vz a,NN a,yx.2 ⟨by have:=aeU h hq hg e hx;omega,b⟩,a.len⟩
theorem qG {i l:Int} (h:eJ i l=true):rN VV i l=CI i l∧Vd (Qx (CI i l))∧(!eJ i l || VV.ok (iW i l))=true:=by
 have hn:bG i=true:=by
  unfold KsG.eJ at h;exact (Bool.and_eq_true_iff.1 h).1
 refine⟨if_pos h,Vz (aai hn l),?_⟩;rw [Ce.ok _ (zZ hn l) (Nat.zero_le _)];simp
theorem ZS {i l:Int} (h:eJ i l=false):rN VV i l=⟨0,0,0,0,0,[],[],[],[],0,[],[],0,false,[]⟩∧(!eJ i l || VV.ok (iW i l))=true:=⟨if_neg (by rw [h];decide),by rw [h];rfl⟩
theorem aee {a:Int} (h0:0≤a) (_:a≤255):aD .rem .u8 a 4=a % 4∧IntKind.i64.wrap (a % 4)=a % 4∧aD .add .i64 1 (a % 4)=1+a % 4∧bG (1+a % 4)=true:=by
 refine⟨?_,wr _ (by omega) (by omega),by rw [aW,wr _ (by omega) (by omega)],?_⟩
 ·show a.tmod 4=a % 4;rw [Int.tmod_eq_emod_of_nonneg h0]
 ·unfold ViR.bG;exact decide_eq_true (by omega)
theorem Wf {α:Type} {l:List α} (h:l.length=0):l=[]:=List.length_eq_zero_iff.1 h
theorem OA:SoK.kM []=[]:=Wf (SoK.fg []).1
theorem LF (i:Int):SoI.fR [i]=[i]:=List.perm_singleton.1 (SoI.cM [i]).2.1
theorem LB:SoC.dC []=[]:=Wf (SoC.jr []).1
theorem Xj:eR (iW 3 9) 1 3 0=⟨3,1,3,1,0,[],[],[],[],1,[],[],9,false,[]⟩:=rfl
theorem VA:MgR.rO [3] [] [] []=true:=by decide +kernel
theorem OJ:cW ⟨3,1,3,1,0,[],[],[],[],1,[],[],9,false,[]⟩=[3]∧cT ⟨3,1,3,1,0,[],[],[],[],1,[],[],9,false,[]⟩=[]:=by
 have e0:MgR.oo [3] [] [] []=0:=by decide +kernel
 have e1:MgR.oO [3] [] [] []=[3]:=by
  unfold MgR.oO;rw [if_pos VA];exact LF 3
 have e2:MgR.nY [3] [] [] []=[]:=by
  unfold MgR.nY;rw [if_pos VA];exact OA
 unfold cW cT;show (if MgR.oo [3] [] [] []=0 then MgR.oO [3] [] [] [] else [3])=[3]∧(if MgR.oo [3] [] [] []=0 then MgR.nY [3] [] [] [] else [])=[];rw [if_pos e0,if_pos e0];exact⟨e1,e2⟩
theorem Mw:jt [3] []=0:=by decide +kernel
theorem aak:ef [3] []=⟨1,0,0,0⟩:=by
 have e1:ViL.mM [3] []=[]:=by decide +kernel
 have e2:ViL.gC [3] []=[]:=by decide +kernel
 have e3:ViL.rR [3] []=[]:=by decide +kernel
 have e4:ChQ.xh [] []=false:=by
  unfold ChQ.xh ChQ.ju;rw [LB];rfl
 unfold ChQ.ef;rw [if_neg (fun q=>q Mw),e1,e2,e3,e4];rfl
theorem YG:rN VV 3 9=⟨3,1,3,1,0,[],[],[],[],4,[3],[],9,false,[]⟩:=by
 rw [(qG (show eJ 3 9=true by decide +kernel)).1];show gu vF.up (iW 3 9)=_;unfold gu;rw [if_neg (by decide),if_pos (show zy (dz (iW 3 9).t (iW 3 9).ee) (iW 3 9).l (iW 3 9).i=0 by decide +kernel)];show cy vF.up (eR (iW 3 9) 1 3 0)=_;rw [Xj];unfold cy;rw [OJ.1,OJ.2,Mw,aak];rfl
def evE (y:E):EV:=⟨ri y 0,ri y 1,ri y 2,ri y 3,⟨ri y 4,ri y 5,ri y 6,rl y 7,rr y 8,ri y 9,ri y 10,ri y 11,ri y 12⟩⟩
def nE (y:E):E:=[.int (ri y 0),.int (ri y 1),.int (ri y 2),.int (ri y 3),.int (ri y 4),.int (ri y 5),.int (ri y 6),.ints (rl y 7),.ae ((rr y 8).map e5),.int (ri y 9),.int (ri y 10),.int (ri y 11),.int (ri y 12)]
def nH (l:List E):Prop:=∀ y∈l,∀ z∈rr y 8,z=e5 z
theorem Ru (l:List E):nH (l.map nE):=fun y hy z hz=>by
 obtain⟨x,_,rfl⟩:=List.mem_map.1 hy;have hz:z∈(rr x 8).map e5:=hz;obtain⟨u,_,rfl⟩:=List.mem_map.1 hz;rfl
theorem Ht {G:Gm} {sz:Nat} {P P' : E→List Value→Prop} {f:E→E} (hf:∀ y us,P y us→P' (f y) us) {l:List E} {v:Value} (h:dh G sz P l v):dh G sz P' (l.map f) v:=by
 obtain⟨A,c,e,h1,h2,h3⟩:=h;refine⟨A,c,by rw [List.length_map];exact e,by rw [List.length_map];exact h1,h2,fun hne=>?_⟩;obtain⟨b,o,ha,hc⟩:=h3 (fun q=>hne (by rw [q];rfl));refine⟨b,o,ha,fun i x hx=>?_⟩;rw [List.getElem?_map] at hx;cases hy:l[i]? with
 |none=>rw [hy] at hx;cases hx
 |some y =>
  rw [hy] at hx;cases hx;obtain⟨us,u1,u2,u3⟩:=hc i y hy;exact⟨us,u1,hf _ _ u2,u3⟩
theorem RG {G:Gm} {y:E} {us:List Value} (h:aZ G (.int .i64 (.int .i64 (.int .i64 (.int .i64 (.int .i64 (.int .i64 (.int .i64 (.ints .i64 (.ae (.int .i64 (.int .i64 (.int .i64 (.int .i64 (.bool .nil))))) (.int .i64 (.int .i64 (.int .i64 (.int .i64 .nil))))))))))))) y 0 us) :
  aZ G (.int .i64 (.int .i64 (.int .i64 (.int .i64 (.int .i64 (.int .i64 (.int .i64 (.ints .i64 (.ae (.int .i64 (.int .i64 (.int .i64 (.int .i64 (.bool .nil))))) (.int .i64 (.int .i64 (.int .i64 (.int .i64 .nil))))))))))))) (nE y) 0 us:=by
 obtain⟨_,rfl,_,rfl,_,rfl,_,rfl,_,rfl,_,rfl,_,rfl,u1,_,rfl,h1,u2,_,rfl,h2,_,rfl,_,rfl,_,rfl,_,rfl,h3⟩:=h;have h2' : dh G (Sh.size (.int .i64 (.int .i64 (.int .i64 (.int .i64 (.bool .nil)))))) (fun y us=>aZ G (.int .i64 (.int .i64 (.int .i64 (.int .i64 (.bool .nil))))) y 0 us) ((rr y 8).map e5) u2:=Ht (P:=fun y us=>aZ G (.int .i64 (.int .i64 (.int .i64 (.int .i64 (.bool .nil))))) y 0 us) (f:=e5) (fun _ _ q=>q) h2;exact⟨_,rfl,_,rfl,_,rfl,_,rfl,_,rfl,_,rfl,_,rfl,u1,_,rfl,h1,u2,_,rfl,h2',_,rfl,_,rfl,_,rfl,_,rfl,h3⟩
theorem ado {G:Gm} {l:List E} {v:Value} (h:(SC.sl none (.ae (.int .i64 (.int .i64 (.int .i64 (.int .i64 (.int .i64 (.int .i64 (.int .i64 (.ints .i64 (.ae (.int .i64 (.int .i64 (.int .i64 (.int .i64 (.bool .nil))))) (.int .i64 (.int .i64 (.int .i64 (.int .i64 .nil))))))))))))) l)).is G v) :
  (SC.sl none (.ae (.int .i64 (.int .i64 (.int .i64 (.int .i64 (.int .i64 (.int .i64 (.int .i64 (.ints .i64 (.ae (.int .i64 (.int .i64 (.int .i64 (.int .i64 (.bool .nil))))) (.int .i64 (.int .i64 (.int .i64 (.int .i64 .nil))))))))))))) (l.map nE))).is G v:=⟨Ht (fun _ _ q=>RG q) h.1,trivial⟩
def lgB (y:E):Bool:=decide ((rl y 7).length≤70∧(rr y 8).length≤60)
theorem acZ {l:List E} (hp:nH l) {i:Int} (h0:0≤i) (h1:i < l.length) (h:lgB (l.getD i.toNat [])=true):Lt (evE (l.getD i.toNat [])).x:=⟨of_decide_eq_true h,hp _ (nh h0 h1)⟩
end Go.Proofs.YtelhldgdnlppfaaGreat.KrQ
namespace Go.Proofs.YtelhldgdnlppfaaGreat.KrL
open Go Ry ViR KsS KsT KrV KrW KrX KrY KrZ KrQ
open KsF (EV eV dy dg Bh)
open KsG (oa Kb eJ rN iW aaB vS jP lJ AL rS sy uQ Av tR sv)
open KrS (jB pj dF)
theorem afi:au Tryz.prog 33 (KsD.bX (KsD.db vF)):=by
 refine aw ak.nil Tryz.func33 rfl rfl fun xs h p hp=>?_;unfold KsD.bX at hp;split at hp
 ·split at hp
  ·cases hp;exact⟨av rfl,fun hC _=>absurd (show false=true from hC) Bool.false_ne_true⟩
  ·cases hp
 ·cases hp
theorem hbC:au Tryz.prog 33 (KsD.bX (KsD.db VV)):=KsD.sO (V:=vF.up) (KsD.sO (V:=vF) afi)
structure Kl where
 agz:List Int→List E→Bool
 aco:CS→EV→Bool
 adv:CS→EV→CS
 acT:Int→EV→Int
 Yz:Int→Int→Int→Int→Bool
def Kl.aa:Kl:=⟨fun n l=>decide (n.length≤70∧l.length≤60),Kb VV,dg VV,eV,fun e r e2 r2=>decide (e < e2∨e=e2∧r < r2)⟩
noncomputable def qT (F:Kl):aO:=fun xs h=>match xs,h with
 |[.agg [.val (.int .i64 a_e),.val (.int .i64 a_r)],.agg [.val (.int .i64 d_e),.val (.int .i64 d_r)]],[]=>some ⟨True,.sa (B (F.Yz a_e a_r d_e d_r)),[],[Any,Any]⟩
 |_,_=>none
noncomputable def yv (F:Kl):aO:=fun xs h=>match xs,h with
 |[.agg v_],[]=>(match vS v_ with
  |some v=>some ⟨True,.sa (B (F.agz v.x.n v.x.l)),[],[Any]⟩
  |_=>none)
 |_,_=>none
theorem CA:au Tryz.prog 10 (yv Kl.aa):=by
 refine aw ak.nil Tryz.func10 rfl rfl fun xs h p hp=>?_;unfold yv at hp;split at hp
 ·split at hp
  ·rename_i v e0;cases hp;have g0:=jP e0;subst g0;refine⟨av rfl,fun _ _=>?_⟩;intro b gv;generalize hF:Kl.aa=F;generalize hG0:(oa VV)=G0;refine bu fun Z zq A hA L hL=>?_
   repeat' (first|(apply al zq;try dsimp only)|apply aS zq (af hL)|apply aq zq|refine aT rfl ?_|apply ai|refine ah rfl ?_|refine aR rfl ?_|exact aA|apply aB|refine aP fun _=>?_|refine aQ fun _=>?_|(constructor;cbv))
   all_goals first|(show L _ _ _;skip)|(clear hL zq Z;subst hA hF hG0;simp only [Kl.aa,Ar.aa] at * <;> grind [aj];done)
  ·cases hp
 ·cases hp
noncomputable def zw (F:Kl):aO:=fun xs h=>match xs,h with
 |[.agg c_,.agg v_],[]=>(match jB c_,vS v_ with
  |some c,some v=>some ⟨F.aco c v=true,.cN [.agg (pj (F.adv c v)),.one (.sl none (.ae .iY (F.adv c v).q)),I (F.acT c.i v)],[],[Any,Any]⟩
  |_,_=>none)
 |_,_=>none
theorem Be:au Tryz.prog 11 (zw Kl.aa):=by
 refine⟨(uQ hbC).1,fun args h p hc hC=>?_⟩;unfold zw at hc;split at hc
 ·split at hc
  ·rename_i c v e0 e1;cases hc;cases e:Bh v
   ·exact (uQ hbC).2 _ _ ⟨(oa VV).Ba c v=true∧(oa VV).Bd v=false,.cN [.agg (pj ((oa VV).yM c v)),.one (.sl none (.ae .iY ((oa VV).yM c v).q)),I ((oa VV).wc c.i v)],[],[Any,Any]⟩ (by unfold rS;simp only [e0,e1]) ⟨hC,e⟩
   ·exact (Av hbC).2 _ _ ⟨(oa VV).Ba c v=true∧(oa VV).Bd v=true,.cN [.agg (pj ((oa VV).yM c v)),.one (.sl none (.ae .iY ((oa VV).yM c v).q)),I ((oa VV).wc c.i v)],[],[Any,Any]⟩ (by unfold sy;simp only [e0,e1]) ⟨hC,e⟩
  ·cases hc
 ·cases hc
noncomputable def NG (_:Kl):aO:=fun xs h=>match xs,h with
 |[],[]=>some ⟨True,.sa (B true),[],[]⟩
 |_,_=>none
theorem MC:au Tryz.prog 19 (NG Kl.aa):=by
 have hfs:=(ak.cons (sv hbC) ak.nil rfl);refine aw hfs Tryz.func19 rfl rfl fun xs h p hp=>?_;unfold NG at hp;split at hp
 ·cases hp;refine⟨av rfl,fun _ _=>?_⟩;intro b gv;have hn:=YG;have hk:=(qG (show eJ 3 9=true by decide +kernel)).2.2;have hw:eJ 3 9=true:=by decide +kernel
  generalize hF:Kl.aa=F,hG0:(oa VV)=G0 at hfs ⊢;refine bu fun Z zq A hA L hL=>?_
  repeat' (first|(apply al zq;try dsimp only)|apply aS zq (af hL)|apply aq zq|refine aT rfl ?_|apply ai|refine ah rfl ?_|refine aR rfl ?_|exact aA|apply aB|refine aP fun _=>?_|refine aQ fun _=>?_|(constructor;cbv))
  all_goals first|(show L _ _ _;skip)|(clear hL hfs zq Z;subst hA hF hG0;simp only [oa,Ar.aa] at * <;> grind [aj];done)
 ·cases hp
structure XK where
 i:Int
 d:CS
def zS:CS:=⟨0,0,0,0,0,[],[],[],[],0,[],[],0,false,[]⟩
def rdC (st:St) (k:Nat):CS:=match fW st k with
 |.ptr n _=>(match ar st.heap n with
  |some (.cells _ cs)=>(match jB cs with
   |some d=>d
   |none=>zS)
  |_=>zS)
 |_=>zS
def xkR (k j:Nat) (st:St):XK:=⟨bw st k,rdC st j⟩
def xkQ (n:Int) (y:XK):Prop:=0≤y.i∧y.i≤n∧Vd y.d∧y.d.q=[]
def xkM (n:Int) (y:XK):Nat:=(n - y.i).toNat
end Go.Proofs.YtelhldgdnlppfaaGreat.KrL
namespace Go.Proofs.YtelhldgdnlppfaaGreat.KrE
open Go Ry ViR VoR KsS KsT KrZ
open KsC (XI XQ XL KO Qt xlR mF mJ slL jd)
open KrS (jB pj dF)
open ViS (sd pC jf fy gE dV kT)
structure Kx where
 YV:CS→CS→Bool
 acz:CS→CS→Bool
noncomputable def Kx.aa:Kx:=⟨wN,CE⟩
noncomputable def sQ (F:Kx):aO:=fun xs h=>match xs,h with
 |[.agg a_,.agg d_],[]=>(match jB a_,jB d_ with
  |some a,some d=>some ⟨F.acz a d=true,.sa (B (F.YV a d)),[],[Any,Any]⟩
  |_,_=>none)
 |_,_=>none
theorem uI:au Tryz.prog 13 (sQ Kx.aa):=by
 have hfs:=(ak.cons pC (ak.cons fy ak.nil rfl) rfl);refine aw hfs Tryz.func13 rfl rfl fun xs h p hp=>?_;unfold sQ at hp;split at hp
 ·split at hp
  ·rename_i a d e0 e1;cases hp;have g0:=dF e0;have g1:=dF e1;subst g0 g1;refine⟨av rfl,fun hC _=>?_⟩;dsimp only at hC;intro b gv;have hk:(a.U.length≤1000∧a.w.length≤1000∧a.gn.length≤1000∧a.gl.length≤1000∧a.tn.length≤1000∧a.tl.length≤1000)∧(d.U.length≤1000∧d.w.length≤1000∧d.gn.length≤1000∧d.gl.length≤1000∧d.tn.length≤1000∧d.tl.length≤1000):=by
    have h:CE a d=true:=hC;unfold CE rP at h;simp only [Bool.and_eq_true,decide_eq_true_eq] at h;exact h
   have hk6:a.U.length≤1000000:=by omega
   have ht1:=fun h=>wK (p:=a.U) (q:=d.U) h;have ht2:=fun h=>BP (p:=a.U) (q:=d.U) h;have hsc:wN a d=(decide (a.i=d.i∧a.ee=d.ee∧a.er=d.er∧a.t=d.t∧a.p=d.p∧a.ph=d.ph∧a.l=d.l∧a.o=d.o) && (lB a.U d.U && (gE a.w d.w && (dV a.gn a.gl d.gn d.gl && dV a.tn a.tl d.tn d.tl)))):=rfl;generalize hF:Kx.aa=F,hG0:ViS.Vq.aa=G0 at hC hfs ⊢;refine bu fun Z zq A hA L hL=>?_
   repeat' (first|(apply al zq;try dsimp only)|apply aS zq (af hL)|apply aq zq|refine aT rfl ?_|apply ai|refine ah rfl ?_|refine aR rfl ?_|exact aA|apply aB|refine aP fun _=>?_|refine aQ fun _=>?_|(constructor;cbv))
   all_goals first|(show L _ _ _;skip)|(clear hL hfs zq Z;subst hA hF hG0;simp only [Kx.aa,Ar.aa] at * <;> (try simp only [Bool.if_true_left,Bool.decide_eq_true,Bool.or_eq_false_iff,Bool.or_eq_true] at *) <;> grind [aj];done)
   subst hL;refine aJ (aN hfs) (YO a.U d.U f7) (fun y=>br Tryz.f13.ntmps [(2,.ptr 1 0),(3,.ptr 2 0),(5,.ay y.i)] [(1,.cells 31 [.ay a.i,.ay a.ee,.ay a.er,.ay a.t,.ay a.p,.sl none (.ae .eC a.U),.sl none (.ints .i64 a.w),.sl none (.ints .i64 a.gn),.sl none (.ae .bg a.gl),.ay a.ph,.sl none (.ints .i64 a.tn),.sl none (.ae .bg a.tl),.ay a.l,.bK a.o]),(2,.cells 31 [.ay d.i,.ay d.ee,.ay d.er,.ay d.t,.ay d.p,.sl none (.ae .eC d.U),.sl none (.ints .i64 d.w),.sl none (.ints .i64 d.gn),.sl none (.ae .bg d.gl),.ay d.ph,.sl none (.ints .i64 d.tn),.sl none (.ae .bg d.tl),.ay d.l,.bK d.o])] [Any,Any]) (mF a.U.length) (Qt 5) ⟨0⟩ ?_ ?_ ?_
   ·exact xR _ _ _
   ·cbv
    repeat' (first|exact trivial|exact rfl|refine And.intro ?_ ?_)
   rintro⟨i⟩ hq O hO;have hst:=fun h=>Ab hk6 hq h;have hen:=fun h=>DN hq h;have hf7:=WA (a.U.getD i.toNat []) (d.U.getD i.toNat []);have q0:=hq.1;have q1:=hq.2.1;dsimp only at q0 q1;subst hA;generalize hA:Ar.aa=A;generalize hL:Lp _ _ _=L;refine az zq ?_
   repeat' (first|(apply al zq;try dsimp only)|apply aS zq (af hL)|apply aq zq|refine aT rfl ?_|apply ai|refine ah rfl ?_|refine aR rfl ?_|exact aA|apply aB|refine aP fun _=>?_|refine aQ fun _=>?_|(constructor;cbv))
   all_goals first|(show L _ _ _;skip)|(clear hL hfs zq Z hq;subst hA hF hG0 hO;simp only [Kx.aa,ViS.Vq.aa,Ar.aa] at * <;> (try simp only [Bool.if_true_left,Bool.if_false_right,Bool.decide_eq_true,Bool.or_eq_false_iff,Bool.or_eq_true] at *) <;> grind [aj];done)
  ·cases hp
 ·cases hp
end Go.Proofs.YtelhldgdnlppfaaGreat.KrE
