/-
  what the laws of a core call. No condition but that the core may be.
-/
import Derived.Test.YtelhldgdnlppfaaGreatVgW53
import Derived.Test.YtelhldgdnlppfaaGreatVgW14
import Derived.Test.YtelhldgdnlppfaaGreatVgKsG
set_option maxHeartbeats 4000000
set_option cbv.maxSteps 4000000
set_option maxRecDepth 100000
namespace Go.Proofs.YtelhldgdnlppfaaGreat.KrQ
open Go Ry ViR VoR KsS KsC KsT KsE KsF KrV KrW KrX KrY KrZ
open ViM (e5)
open ChQ (mh kO CH)
open KsG (iz fJ tr FG)
def Qb (L:Lv) (n:Nat):Prop:=∀ x,Vd x→(L.B x).q.length≤x.q.length+n
theorem YB {L:Lv} {n:Nat} (hB:Qb L n) {d:CS} (h:Vd d) (k:Int) {a:Int} (h0:0≤a) (h1:a < d.aa.length):(jY L d k a).q.length≤d.q.length+1+n:=by
 have hv:=(h.t _ (bQ h0 h1)).v
 obtain⟨g,q,_⟩:=cu h h0 h1 (EW hv)
 obtain⟨g2,q2,_⟩:=cu h h0 h1 (uI hv)
 have b:=hB _ g
 have b2:=hB _ g2
 unfold jY
 split
 ·split <;> omega
 ·split
  ·split <;> omega
  ·omega
theorem Wm {L:Lv} {n:Nat} (hB:Qb L n) {d:CS} (h:Vd d) (ho:d.o=false) (c:CH) {v:List Int} {l:List E} (hv:v.length≤500) (hl:l.length≤500):(wQ L d c v l).q.length≤d.q.length+65+n:=by
 obtain⟨g,q,t⟩:=rQ h ho c hv hl
 unfold wQ
 split
 ·rename_i e
  obtain⟨m1,m2⟩:=nR e
  have:=YB hB g c.k m1 (by rw [t];exact m2)
  omega
 ·omega
theorem CU {L:Lv} {n:Nat} (hB:Qb L n) {d:CS} (h:Vd d):(fH L d).q.length≤d.q.length+65+n:=by
 have hs:=jC h
 unfold fH
 split
 ·omega
 ·rename_i e
  have ho:=(gD e).1
  split
  ·show (d.q ++ [_]).length≤_
   rw [List.length_append,List.length_singleton]
   omega
  ·split
   ·show d.q.length≤_
    omega
   ·exact Wm hB h ho _ (by omega) (by omega)
theorem PO {L:Lv} {n:Nat} (hB:Qb L n) {d:CS} (h:Vd d):(kR L d).q.length≤d.q.length+193+n:=by
 have hl:=h.len
 have e2:=(wC h).2.1
 unfold kR
 split
 ·omega
 ·rename_i e
  split
  ·obtain⟨v,q,_,_⟩:=fI h (by simpa using e) (dV d.t d.ee+1) d.i 0
   have:=CU hB v
   omega
  ·omega
theorem EP:Qb VV 386:=fun _ h=>PO (L:=Ey.up) (n:=193) (fun _ h=>PO (L:=Ey) (n:=0) (fun _ _=>Nat.le_refl _) h) h
theorem aao {L:Lv} {n:Nat} (hB:Qb L n) {d:CS} (h:Vd d) {a:Int} (h0:0≤a) (h1:a < d.aa.length) (k:Int):(yq L d a k).q.length≤d.q.length+66+n:=by
 have hv:=(h.t _ (bQ h0 h1)).v
 obtain⟨g,q,l⟩:=cu h h0 h1 (Jo k hv)
 have h2:a < (aL d a (dx k (tie d a))).aa.length:=by rw [l];exact h1
 have q2:=(cu g h0 h2 (uI (g.t _ (bQ h0 h2)).v)).2.1
 have b:=hB _ g
 have s:=CU hB g
 unfold yq
 split
 ·omega
 ·split
  ·omega
  ·split <;> omega
theorem aaH {d:CS} (h:Vd d) (hq:d.q=[]) (hg:d.gl.length≤100) {v:EV} (hc:fC d.i v=true) (hx:Lt v.x):(mW VV d v).q.length≤1000:=by
 have n1:=hx.n.1
 have n2:=hx.n.2
 have hl:=h.len
 have hq0:d.q.length=0:=by rw [hq];rfl
 unfold mW
 split
 ·rename_i e
  obtain⟨c1,c2,c3⟩:=xH hc e
  have:=EP _ (DD h c1 c2 c3)
  have e2:(MD d v.p v.w v.s).q=d.q:=rfl
  rw [e2] at this
  omega
 ·split
  ·unfold MW
   split
   ·omega
   ·have:=EP _ (Ec h (dw d.aa v.p))
    have e2:(YF d v.p).q=d.q:=rfl
    have e3:VV.B (YF d v.p)=VV.B { d with aa:=Gz d.aa (dw d.aa v.p) }:=rfl
    rw [e3]
    have e4:({ d with aa:=Gz d.aa (dw d.aa v.p) }:CS).q=d.q:=rfl
    rw [e4] at this
    omega
  ·split
   ·rename_i e
    have mw:=tD hc e
    unfold ku
    split
    ·rename_i e2
     split
     ·omega
     ·split
      ·omega
      ·unfold qf
       split
       ·obtain⟨v2,q2,_,_⟩:=xb h hg ⟨mw,hx.n,hx.c⟩ e2 v.p
        have:=CU EP v2
        rw [q2] at this
        omega
       ·omega
    ·unfold fS
     split
     ·omega
     ·rename_i na
      have at2:=(lf d.aa v.p).2
      split
      ·have:=aao EP h (show 0≤dw d.aa v.p by omega) at2 v.x.k
       omega
      ·split
       ·omega
       ·rename_i ho
        have ho:d.o=false:=by simpa using ho
        split
        ·split
         ·obtain⟨g,q,_,_⟩:=fI h ho v.x.e v.x.r v.p
          have:=CU EP g
          omega
         ·omega
        ·split
         ·split
          ·have:=Wm EP h ho (Vt v.x) (show v.x.n.length≤500 by omega) (show v.x.l.length≤500 by omega)
           omega
          ·omega
         ·omega
   ·have:=(wC h).2.1
    omega
def GA (d:CS):CS:=⟨d.i,d.ee,d.er,d.t,d.p,d.aa,d.w,d.gn,d.gl,d.ph,d.tn,d.tl,d.l,d.o,[]⟩
theorem Rn {d:CS} (h:Vd d):Vd (GA d):=⟨h.i,h.t,h.s,h.g,h.c,h.o,h.w,h.z⟩
theorem Qg {d:CS} (h:Vd d):RL d=true:=by
 have h1:=h.len
 have h2:=h.US
 have h3:=h.w.2
 have h4:=h.z
 exact decide_eq_true ⟨by omega,by omega,by omega,by omega,by omega,by omega⟩
theorem GM {d:CS} (h:Vd d) (hq:d.q=[]) {v:EV} (hg:d.gl.length≤100) (hx:Lt v.x) :
  FG VV d v=true∧VF d v=true∧(fC d.i v=true→eJ d.i v=0)∧(fC d.i v=false→eJ d.i v=1)∧RL d=true ∧
  (fC d.i v=false→cJ VV d v=⟨0,0,0,0,0,[],[],[],[],0,[],[],0,false,[]⟩) ∧
  (fC d.i v=true→Vd (GA (cJ VV d v))∧RL (cJ VV d v)=true∧ZZ (cJ VV d v).q=true∧(cJ VV d v).aa.length≤64):=by
 have hl:=h.len
 have hgn:=h.US
 have hw6:=h.w.2
 have hz:=h.z
 have n1:=hx.n.1
 have n2:=hx.n.2
 have hq0:d.q.length=0:=by rw [hq];rfl
 have c1:fC d.i v=true→eJ d.i v=0:=fun e=>if_pos e
 have c2:fC d.i v=false→eJ d.i v=1:=fun e=>if_neg (by rw [e];decide)
 have s1:fC d.i v=true→cJ VV d v=mW VV d v:=fun e=>if_pos (c1 e)
 refine⟨?_,?_,c1,c2,Qg h,fun e=>if_neg (by rw [c2 e];decide),fun e=>?_⟩
 ·unfold KsG.FG
  rw [show Fw d v.x=true from decide_eq_true ⟨by omega,by omega,by omega,by omega,by omega,by omega,by omega⟩,decide_eq_true (show d.tn.length≤1000∧d.tl.length≤1000∧d.q=[] from ⟨by omega,by omega,hq⟩)]
  cases e:fC d.i v
  ·rw [c2 e]
   simp
  ·rw [Uh (Lk.mono CJ (by omega)) h (by omega) hg e hx]
   simp
 ·unfold VF
  rw [Ta.2 h,lt_iff.2 hx,decide_eq_true (show d.q=[]∧d.gl.length≤100 from ⟨hq,hg⟩)]
  rfl
 ·rw [s1 e]
  obtain⟨a,b⟩:=Za CJ.v aak h (fun y hy=>by rw [hq] at hy;cases hy) hg e hx
  exact⟨Rn a,Qg a,Ni.2 ⟨by have:=aaH h hq hg e hx;omega,b⟩,a.len⟩
theorem rR {i l:Int} (h:fJ i l=true):tr VV i l=Gj i l∧Vd (GA (Gj i l))∧(!fJ i l || VV.ok (iz i l))=true:=by
 have hn:cm i=true:=by
  unfold KsG.fJ at h
  exact (Bool.and_eq_true_iff.1 h).1
 refine⟨if_pos h,Rn (TH hn l),?_⟩
 rw [CJ.ok _ (xT hn l) (Nat.zero_le _)]
 simp
theorem SD {i l:Int} (h:fJ i l=false):tr VV i l=⟨0,0,0,0,0,[],[],[],[],0,[],[],0,false,[]⟩∧(!fJ i l || VV.ok (iz i l))=true:=⟨if_neg (by rw [h];decide),by rw [h];rfl⟩
theorem WR {a:Int} (h0:0≤a) (_:a≤255):aO .rem .u8 a 4=a % 4∧IntKind.i64.wrap (a % 4)=a % 4∧aO .add .i64 1 (a % 4)=1+a % 4∧cm (1+a % 4)=true:=by
 refine⟨?_,wr _ (by omega) (by omega),by rw [bo,wr _ (by omega) (by omega)],?_⟩
 ·show a.tmod 4=a % 4
  rw [Int.tmod_eq_emod_of_nonneg h0]
 ·unfold ViR.cm
  exact decide_eq_true (by omega)
theorem QB {α:Type} {l:List α} (h:l.length=0):l=[]:=List.length_eq_zero_iff.1 h
theorem Ig:SoK.km []=[]:=QB (SoK.ei []).1
theorem JN (i:Int):SoI.fB [i]=[i]:=List.perm_singleton.1 (SoI.cH [i]).2.1
theorem IZ:SoC.dn []=[]:=QB (SoC.jV []).1
theorem Ul:fP (iz 3 9) 1 3 0=⟨3,1,3,1,0,[],[],[],[],1,[],[],9,false,[]⟩:=rfl
theorem Qj:MgR.qh [3] [] [] []=true:=by decide +kernel
theorem HF:eU ⟨3,1,3,1,0,[],[],[],[],1,[],[],9,false,[]⟩=[3]∧eV ⟨3,1,3,1,0,[],[],[],[],1,[],[],9,false,[]⟩=[]:=by
 have e0:MgR.mD [3] [] [] []=0:=by decide +kernel
 have e1:MgR.nB [3] [] [] []=[3]:=by
  unfold MgR.nB
  rw [if_pos Qj]
  exact JN 3
 have e2:MgR.my [3] [] [] []=[]:=by
  unfold MgR.my
  rw [if_pos Qj]
  exact Ig
 unfold eU eV
 show (if MgR.mD [3] [] [] []=0 then MgR.nB [3] [] [] [] else [3])=[3]∧(if MgR.mD [3] [] [] []=0 then MgR.my [3] [] [] [] else [])=[]
 rw [if_pos e0,if_pos e0]
 exact⟨e1,e2⟩
theorem Jz:mh [3] []=0:=by decide +kernel
theorem Tx:kO [3] []=⟨1,0,0,0⟩:=by
 have e1:ViL.lF [3] []=[]:=by decide +kernel
 have e2:ViL.vC [3] []=[]:=by decide +kernel
 have e3:ViL.tZ [3] []=[]:=by decide +kernel
 have e4:ChQ.Ai [] []=false:=by
  unfold ChQ.Ai ChQ.mW
  rw [IZ]
  rfl
 unfold ChQ.kO
 rw [if_neg (fun q=>q Jz),e1,e2,e3,e4]
 rfl
theorem RB:tr VV 3 9=⟨3,1,3,1,0,[],[],[],[],4,[3],[],9,false,[]⟩:=by
 rw [(rR (show fJ 3 9=true by decide +kernel)).1]
 show kR Ey.up (iz 3 9)=_
 unfold kR
 rw [if_neg (by decide),if_pos (show Hm (dV (iz 3 9).t (iz 3 9).ee) (iz 3 9).l (iz 3 9).i=0 by decide +kernel)]
 show fH Ey.up (fP (iz 3 9) 1 3 0)=_
 rw [Ul]
 unfold fH
 rw [HF.1,HF.2,Jz,Tx]
 rfl
def YE (y:E):EV:=⟨ri y 0,ri y 1,ri y 2,ri y 3,⟨ri y 4,ri y 5,ri y 6,rl y 7,rr y 8,ri y 9,ri y 10,ri y 11,ri y 12⟩⟩
def nE (y:E):E:=[.int (ri y 0),.int (ri y 1),.int (ri y 2),.int (ri y 3),.int (ri y 4),.int (ri y 5),.int (ri y 6),.ints (rl y 7),.ah ((rr y 8).map e5),.int (ri y 9),.int (ri y 10),.int (ri y 11),.int (ri y 12)]
def lQ (l:List E):Prop:=∀ y∈l,∀ z∈rr y 8,z=e5 z
theorem OS (l:List E):lQ (l.map nE):=fun y hy z hz=>by
 obtain⟨x,_,rfl⟩:=List.mem_map.1 hy
 have hz:z∈(rr x 8).map e5:=hz
 obtain⟨u,_,rfl⟩:=List.mem_map.1 hz
 rfl
theorem DY {G:Gm} {sz:Nat} {P P' : E→List Value→Prop} {f:E→E} (hf:∀ y us,P y us→P' (f y) us) {l:List E} {v:Value} (h:cX G sz P l v):cX G sz P' (l.map f) v:=by
 obtain⟨A,c,e,h1,h2,h3⟩:=h
 refine⟨A,c,by rw [List.length_map];exact e,by rw [List.length_map];exact h1,h2,fun hne=>?_⟩
 obtain⟨b,o,ha,hc⟩:=h3 (fun q=>hne (by rw [q];rfl))
 refine⟨b,o,ha,fun i x hx=>?_⟩
 rw [List.getElem?_map] at hx
 cases hy:l[i]? with
 |none=>rw [hy] at hx;cases hx
 |some y =>
  rw [hy] at hx
  cases hx
  obtain⟨us,u1,u2,u3⟩:=hc i y hy
  exact⟨us,u1,hf _ _ u2,u3⟩
theorem Pf {G:Gm} {y:E} {us:List Value} (h:aX G (.int .i64 (.int .i64 (.int .i64 (.int .i64 (.int .i64 (.int .i64 (.int .i64 (.ints .i64 (.ah (.int .i64 (.int .i64 (.int .i64 (.int .i64 (.bool .nil))))) (.int .i64 (.int .i64 (.int .i64 (.int .i64 .nil))))))))))))) y 0 us) :
  aX G (.int .i64 (.int .i64 (.int .i64 (.int .i64 (.int .i64 (.int .i64 (.int .i64 (.ints .i64 (.ah (.int .i64 (.int .i64 (.int .i64 (.int .i64 (.bool .nil))))) (.int .i64 (.int .i64 (.int .i64 (.int .i64 .nil))))))))))))) (nE y) 0 us:=by
 obtain⟨_,rfl,_,rfl,_,rfl,_,rfl,_,rfl,_,rfl,_,rfl,u1,_,rfl,h1,u2,_,rfl,h2,_,rfl,_,rfl,_,rfl,_,rfl,h3⟩:=h
 have h2' : cX G (Sh.size (.int .i64 (.int .i64 (.int .i64 (.int .i64 (.bool .nil)))))) (fun y us=>aX G (.int .i64 (.int .i64 (.int .i64 (.int .i64 (.bool .nil))))) y 0 us) ((rr y 8).map e5) u2:=DY (P:=fun y us=>aX G (.int .i64 (.int .i64 (.int .i64 (.int .i64 (.bool .nil))))) y 0 us) (f:=e5) (fun _ _ q=>q) h2
 exact⟨_,rfl,_,rfl,_,rfl,_,rfl,_,rfl,_,rfl,_,rfl,u1,_,rfl,h1,u2,_,rfl,h2',_,rfl,_,rfl,_,rfl,_,rfl,h3⟩
theorem WI {G:Gm} {l:List E} {v:Value} (h:(SC.sl none (.ah (.int .i64 (.int .i64 (.int .i64 (.int .i64 (.int .i64 (.int .i64 (.int .i64 (.ints .i64 (.ah (.int .i64 (.int .i64 (.int .i64 (.int .i64 (.bool .nil))))) (.int .i64 (.int .i64 (.int .i64 (.int .i64 .nil))))))))))))) l)).is G v) :
  (SC.sl none (.ah (.int .i64 (.int .i64 (.int .i64 (.int .i64 (.int .i64 (.int .i64 (.int .i64 (.ints .i64 (.ah (.int .i64 (.int .i64 (.int .i64 (.int .i64 (.bool .nil))))) (.int .i64 (.int .i64 (.int .i64 (.int .i64 .nil))))))))))))) (l.map nE))).is G v:=⟨DY (fun _ _ q=>Pf q) h.1,trivial⟩
def RZ (y:E):Bool:=decide ((rl y 7).length≤70∧(rr y 8).length≤60)
theorem Re {l:List E} (hp:lQ l) {i:Int} (h0:0≤i) (h1:i < l.length) (h:RZ (l.getD i.toNat [])=true):Lt (YE (l.getD i.toNat [])).x:=⟨of_decide_eq_true h,hp _ (tO h0 h1)⟩
end Go.Proofs.YtelhldgdnlppfaaGreat.KrQ
namespace Go.Proofs.YtelhldgdnlppfaaGreat.KrL
open Go Ry ViR KsS KsT KrV KrW KrX KrY KrZ KrQ
open KsF (EV eJ fC cJ LH)
open KsG (fD FG fJ tr iz HL Ba qU qW GS qG qA sN zH po mO)
open KrS (xp mq qw)
theorem aal:aA Tryz.prog 33 (KsD.bH (KsD.bJ Ey)):=by
 refine aG af.nil Tryz.func33 rfl rfl fun xs h p hp=>?_
 unfold KsD.bH at hp
 split at hp
 ·split at hp
  ·cases hp
   exact⟨aB rfl,fun hC _=>absurd (show false=true from hC) Bool.false_ne_true⟩
  ·cases hp
 ·cases hp
theorem Vm:aA Tryz.prog 33 (KsD.bH (KsD.bJ VV)):=KsD.Dr (V:=Ey.up) (KsD.Dr (V:=Ey) aal)
structure Kl where
 Yh:List Int→List E→Bool
 XX:CS→EV→Bool
 Zq:CS→EV→CS
 YA:Int→EV→Int
 Hv:Int→Int→Int→Int→Bool
def Kl.U:Kl:=⟨fun n l=>decide (n.length≤70∧l.length≤60),FG VV,cJ VV,eJ,fun e r e2 r2=>decide (e < e2∨e=e2∧r < r2)⟩
noncomputable def lY (F:Kl):aY:=fun xs h=>match xs,h with
 |[.agg [.val (.int .i64 a_e),.val (.int .i64 a_r)],.agg [.val (.int .i64 d_e),.val (.int .i64 d_r)]],[]=>some ⟨True,.sa (B (F.Hv a_e a_r d_e d_r)),[],[Any,Any]⟩
 |_,_=>none
theorem BY (a_e:Int) (a_r:Int) (d_e:Int) (d_r:Int):aV [] Tryz.f20 [.agg [.val (.int .i64 a_e),.val (.int .i64 a_r)],.agg [.val (.int .i64 d_e),.val (.int .i64 d_r)]] [] ⟨True,.sa (B (Kl.U.Hv a_e a_r d_e d_r)),[],[Any,Any]⟩:=by
 intro b gv
 generalize hF:Kl.U=F
 generalize hG0:(fD VV)=G0
 generalize hA:Ar.U=A
 generalize hL:Lp _ _ _=L
 obtain⟨Z,zq⟩:=aQ
 refine @aD _ _ _ _ _ _ _ (ae hL) _ _ zq rfl ?_
 repeat' (first|(refine aw zq ?_;try dsimp only)|refine ax zq ?_ (ae hL)|refine az zq ?_|refine ay ?_|refine aq ?_|refine ar ?_|refine av ?_|refine au rfl ?_|refine ai rfl ?_|refine aj rfl ?_|(refine Cd.mk ?_;cbv)|(refine aE.mk ?_;cbv)|(refine aM.mk ?_;cbv)|exact trivial|refine And.intro ?_ ?_|refine bu fun _=>?_|refine br fun _=>?_)
 all_goals first|(show L _ _ _;skip)|(clear hL zq Z;subst hA hF hG0;simp only [Kl.U,Ar.U] at * <;> grind [al];done)
theorem nM:aA Tryz.prog 20 (lY Kl.U):=by
 refine aG af.nil Tryz.func20 rfl rfl fun xs h p hp=>?_
 unfold lY at hp
 split at hp
 ·cases hp
  exact⟨aB rfl,fun _ _=>@BY _ _ _ _ ⟩
 ·cases hp
noncomputable def yo (F:Kl):aY:=fun xs h=>match xs,h with
 |[.agg v_],[]=>(match Ba v_ with
  |some v=>some ⟨True,.sa (B (F.Yh v.x.n v.x.l)),[],[Any]⟩
  |_=>none)
 |_,_=>none
theorem PJ (v:EV):aV [] Tryz.f10 [.agg (HL v)] [] ⟨True,.sa (B (Kl.U.Yh v.x.n v.x.l)),[],[Any]⟩:=by
 intro b gv
 generalize hF:Kl.U=F
 generalize hG0:(fD VV)=G0
 generalize hA:Ar.U=A
 generalize hL:Lp _ _ _=L
 obtain⟨Z,zq⟩:=aQ
 refine @aD _ _ _ _ _ _ _ (ae hL) _ _ zq rfl ?_
 repeat' (first|(refine aw zq ?_;try dsimp only)|refine ax zq ?_ (ae hL)|refine az zq ?_|refine ay ?_|refine aq ?_|refine ar ?_|refine av ?_|refine au rfl ?_|refine ai rfl ?_|refine aj rfl ?_|(refine Cd.mk ?_;cbv)|(refine aE.mk ?_;cbv)|(refine aM.mk ?_;cbv)|exact trivial|refine And.intro ?_ ?_|refine bu fun _=>?_|refine br fun _=>?_)
 all_goals first|(show L _ _ _;skip)|(clear hL zq Z;subst hA hF hG0;simp only [Kl.U,Ar.U] at * <;> grind [al];done)
theorem AD:aA Tryz.prog 10 (yo Kl.U):=by
 refine aG af.nil Tryz.func10 rfl rfl fun xs h p hp=>?_
 unfold yo at hp
 split at hp
 ·split at hp
  ·rename_i e0
   cases hp
   have g0:=qU e0
   subst g0
   exact⟨aB rfl,fun _ _=>@PJ _ ⟩
  ·cases hp
 ·cases hp
noncomputable def wZ (F:Kl):aY:=fun xs h=>match xs,h with
 |[.agg c_,.agg v_],[]=>(match xp c_,Ba v_ with
  |some c,some v=>some ⟨F.XX c v=true,.bK [.agg (mq (F.Zq c v)),.one (.sl none (.ah (.int .i64 (.int .i64 (.int .i64 (.int .i64 (.ints .i64 (.ah (.int .i64 (.int .i64 (.int .i64 (.int .i64 (.bool .nil))))) (.int .i64 (.int .i64 (.int .i64 (.int .i64 .nil)))))))))) (F.Zq c v).q)),I (F.YA c.i v)],[],[Any,Any]⟩
  |_,_=>none)
 |_,_=>none
theorem yP:aA Tryz.prog 11 (wZ Kl.U):=by
 refine⟨(sN Vm).1,fun args h p hc hC=>?_⟩
 unfold wZ at hc
 split at hc
 ·split at hc
  ·rename_i c v e0 e1
   cases hc
   cases e:LH v
   ·exact (sN Vm).2 _ _ ⟨(fD VV).oe c v=true∧(fD VV).mP v=false,.bK [.agg (mq ((fD VV).oG c v)),.one (.sl none (.ah (.int .i64 (.int .i64 (.int .i64 (.int .i64 (.ints .i64 (.ah (.int .i64 (.int .i64 (.int .i64 (.int .i64 (.bool .nil))))) (.int .i64 (.int .i64 (.int .i64 (.int .i64 .nil)))))))))) ((fD VV).oG c v).q)),I ((fD VV).nw c.i v)],[],[Any,Any]⟩ (by unfold qG;simp only [e0,e1]) ⟨hC,e⟩
   ·exact (zH Vm).2 _ _ ⟨(fD VV).oe c v=true∧(fD VV).mP v=true,.bK [.agg (mq ((fD VV).oG c v)),.one (.sl none (.ah (.int .i64 (.int .i64 (.int .i64 (.int .i64 (.ints .i64 (.ah (.int .i64 (.int .i64 (.int .i64 (.int .i64 (.bool .nil))))) (.int .i64 (.int .i64 (.int .i64 (.int .i64 .nil)))))))))) ((fD VV).oG c v).q)),I ((fD VV).nw c.i v)],[],[Any,Any]⟩ (by unfold qA;simp only [e0,e1]) ⟨hC,e⟩
  ·cases hc
 ·cases hc
noncomputable def KM (_:Kl):aY:=fun xs h=>match xs,h with
 |[],[]=>some ⟨True,.sa (B true),[],[]⟩
 |_,_=>none
theorem Ye:aV [(8,po (fD VV))] Tryz.f19 [] [] ⟨True,.sa (B true),[],[]⟩:=by
 intro b gv
 have hn:=RB
 have hk:=(rR (show fJ 3 9=true by decide +kernel)).2.2
 have hw:fJ 3 9=true:=by decide +kernel
 have hfs:=(af.cons (mO Vm) af.nil rfl)
 generalize hF:Kl.U=F at hfs ⊢
 generalize hG0:(fD VV)=G0 at hfs ⊢
 generalize hA:Ar.U=A
 generalize hL:Lp _ _ _=L
 obtain⟨Z,zq⟩:=aQ
 refine @aD _ _ _ _ _ _ _ (ae hL) _ _ zq rfl ?_
 repeat' (first|(refine aw zq ?_;try dsimp only)|refine ax zq ?_ (ae hL)|refine az zq ?_|refine ay ?_|refine aq ?_|refine ar ?_|refine av ?_|refine au rfl ?_|refine ai rfl ?_|refine aj rfl ?_|(refine Cd.mk ?_;cbv)|(refine aE.mk ?_;cbv)|(refine aM.mk ?_;cbv)|exact trivial|refine And.intro ?_ ?_|refine bu fun _=>?_|refine br fun _=>?_)
 all_goals first|(show L _ _ _;skip)|(clear hL hfs zq Z;subst hA hF hG0;simp only [fD,Ar.U] at * <;> grind [al];done)
theorem Lw:aA Tryz.prog 19 (KM Kl.U):=by
 refine aG (af.cons (mO Vm) af.nil rfl) Tryz.func19 rfl rfl fun xs h p hp=>?_
 unfold KM at hp
 split at hp
 ·cases hp
  exact⟨aB rfl,fun _ _=>@Ye ⟩
 ·cases hp
structure XK where
 i:Int
 d:CS
def zS:CS:=⟨0,0,0,0,0,[],[],[],[],0,[],[],0,false,[]⟩
def rdC (st:St) (k:Nat):CS:=match jA st k with
 |.ptr n _=>(match ak st.heap n with
  |some (.cells _ cs)=>(match xp cs with
   |some d=>d
   |none=>zS)
  |_=>zS)
 |_=>zS
def xkR (k j:Nat) (st:St):XK:=⟨bR st k,rdC st j⟩
def xkQ (n:Int) (y:XK):Prop:=0≤y.i∧y.i≤n∧Vd y.d∧y.d.q=[]
def xkM (n:Int) (y:XK):Nat:=(n - y.i).toNat
end Go.Proofs.YtelhldgdnlppfaaGreat.KrL
