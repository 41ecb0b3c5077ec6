/-
  a whole step of a core. No condition but size.
-/
import Derived.Test.YtelhldgdnlppfaaGreatVgKsF
import Derived.Test.YtelhldgdnlppfaaGreatVgW48
import Derived.Test.YtelhldgdnlppfaaGreatVgW48
set_option maxHeartbeats 4000000
set_option cbv.maxSteps 4000000
set_option maxRecDepth 100000
namespace Go.Proofs.YtelhldgdnlppfaaGreat.KsG
open Go Ry ViR VoR KsS KsC KsT KsE KsF
open KrS (mq xp qw)
open KsD (bJ bH yY xv)
def HL (v:EV):List SC:=[.val (.int .i64 v.k),.val (.int .i64 v.p),.val (.int .i64 v.w),.val (.int .i64 v.s),.val (.int .i64 v.x.k),.val (.int .i64 v.x.e),.val (.int .i64 v.x.r),.sl none (.ints .i64 v.x.n),.sl none (.ah (.int .i64 (.int .i64 (.int .i64 (.int .i64 (.bool .nil))))) v.x.l),.val (.int .i64 v.x.ck),.val (.int .i64 v.x.ca),.val (.int .i64 v.x.cb),.val (.int .i64 v.x.cs)]
def Ba:List SC→Option EV
 |[.val (.int .i64 k),.val (.int .i64 p),.val (.int .i64 w),.val (.int .i64 s),.val (.int .i64 xk),.val (.int .i64 xe),.val (.int .i64 xr),.sl none (.ints .i64 xn),.sl none (.ah (.int .i64 (.int .i64 (.int .i64 (.int .i64 (.bool .nil))))) xl),.val (.int .i64 xck),.val (.int .i64 xca),.val (.int .i64 xcb),.val (.int .i64 xcs)]=>some ⟨k,p,w,s,⟨xk,xe,xr,xn,xl,xck,xca,xcb,xcs⟩⟩
 |_=>none
theorem qU {l:List SC} {x:EV} (h:Ba l=some x):l=HL x:=by
 unfold Ba at h
 split at h
 ·cases h
  rfl
 ·cases h
variable {V:Lv}
theorem qW (v:EV):(⟨v.k,v.p,v.w,v.s,v.x⟩:EV)=v:=rfl
theorem KJ (w:WK):(⟨w.k,w.e,w.r,w.n,w.l,w.ck,w.ca,w.cb,w.cs⟩:WK)=w:=rfl
theorem GS {c:CS} (h:c.q=[]):(⟨c.i,c.ee,c.er,c.t,c.p,c.aa,c.w,c.gn,c.gl,c.ph,c.tn,c.tl,c.l,c.o,[]⟩:CS)=c:=by rw [← h]
def FG (L:Lv) (d:CS) (v:EV):Bool:=Fw d v.x && ((!decide (eJ d.i v=0) || uk L d v) && decide (d.tn.length≤1000∧d.tl.length≤1000∧d.q=[]))
def iz (i l:Int):CS:=⟨i,0,0,0,0,[],[],[],[],0,[],[],l,false,[]⟩
def fJ (i l:Int):Bool:=cm i && decide (1≤l∧l≤2147483647)
def tr (L:Lv) (i l:Int):CS:=if fJ i l=true then L.B (iz i l) else ⟨0,0,0,0,0,[],[],[],[],0,[],[],0,false,[]⟩
structure Kg where
 HM:Int→Int→Bool
 Xo:Int→Int→CS
 Xx:Int→Int→Int
 oe:CS→EV→Bool
 oG:CS→EV→CS
 nw:Int→EV→Int
 mP:EV→Bool
def fD (L:Lv):Kg:=⟨fun i l=>!fJ i l || L.ok (iz i l),tr L,fun i l=>if fJ i l=true then 0 else 1,FG L,cJ L,eJ,LH⟩
noncomputable def QF (F:KsE.Ke):aY:=yH 0 14 2 89 (.int .i64 (.int .i64 (.int .i64 (.int .i64 (.ints .i64 (.ah (.int .i64 (.int .i64 (.int .i64 (.int .i64 (.bool .nil))))) (.int .i64 (.int .i64 (.int .i64 (.int .i64 .nil)))))))))) (Si F)
theorem IJ (hb:aA Tryz.prog 33 (bH (bJ V))):aA Tryz.prog 37 (QF (eG V)):=kM _ _ _ _ _ (Zm hb)
noncomputable def CG (F:KsE.Ke):aY:=yH 0 14 2 89 (.int .i64 (.int .i64 (.int .i64 (.int .i64 (.ints .i64 (.ah (.int .i64 (.int .i64 (.int .i64 (.int .i64 (.bool .nil))))) (.int .i64 (.int .i64 (.int .i64 (.int .i64 .nil)))))))))) (Cb F)
theorem zX (hb:aA Tryz.prog 33 (bH (bJ V))):aA Tryz.prog 38 (CG (eG V)):=kM _ _ _ _ _ (Oo hb)
noncomputable def Ek (F:KsE.Ke):aY:=yH 0 14 2 89 (.int .i64 (.int .i64 (.int .i64 (.int .i64 (.ints .i64 (.ah (.int .i64 (.int .i64 (.int .i64 (.int .i64 (.bool .nil))))) (.int .i64 (.int .i64 (.int .i64 (.int .i64 .nil)))))))))) (lS F)
theorem Aa (hb:aA Tryz.prog 33 (bH (bJ V))):aA Tryz.prog 39 (Ek (eG V)):=kM _ _ _ _ _ (qC hb)
noncomputable def Am (F:KsF.Kf):aY:=yH 0 14 3 89 (.int .i64 (.int .i64 (.int .i64 (.int .i64 (.ints .i64 (.ah (.int .i64 (.int .i64 (.int .i64 (.int .i64 (.bool .nil))))) (.int .i64 (.int .i64 (.int .i64 (.int .i64 .nil)))))))))) (yk F)
theorem vV (hb:aA Tryz.prog 33 (bH (bJ V))):aA Tryz.prog 39 (Am (iD V)):=kM _ _ _ _ _ (JB hb)
noncomputable def Ln (F:KsD.Kd):aY:=yH 0 14 2 89 (.int .i64 (.int .i64 (.int .i64 (.int .i64 (.ints .i64 (.ah (.int .i64 (.int .i64 (.int .i64 (.int .i64 (.bool .nil))))) (.int .i64 (.int .i64 (.int .i64 (.int .i64 .nil)))))))))) (yY F)
theorem Eh:aA Tryz.prog 40 (Ln (bJ V)):=kM _ _ _ _ _ xv
noncomputable def qG (F:Kg):aY:=fun xs h=>match xs,h with
 |[.agg c_,.agg v_],[]=>(match xp c_,Ba v_ with
  |some c,some v=>some ⟨F.oe c v=true∧F.mP v=false,.bK [.agg (mq (F.oG c v)),.one (.sl none (.ah (.int .i64 (.int .i64 (.int .i64 (.int .i64 (.ints .i64 (.ah (.int .i64 (.int .i64 (.int .i64 (.int .i64 (.bool .nil))))) (.int .i64 (.int .i64 (.int .i64 (.int .i64 .nil)))))))))) (F.oG c v).q)),I (F.nw c.i v)],[],[Any,Any]⟩
  |_,_=>none)
 |_,_=>none
theorem Pn (hb:aA Tryz.prog 33 (bH (bJ V))) (c:CS) (v:EV) (hC:(fD V).oe c v=true∧(fD V).mP v=false):aV [(35,eC (iD V)),(36,KP (iD V)),(37,QF (eG V)),(38,CG (eG V)),(39,Ek (eG V)),(40,Ln (bJ V))] Tryz.f11 [.agg (mq c),.agg (HL v)] [] ⟨(fD V).oe c v=true∧(fD V).mP v=false,.bK [.agg (mq ((fD V).oG c v)),.one (.sl none (.ah (.int .i64 (.int .i64 (.int .i64 (.int .i64 (.ints .i64 (.ah (.int .i64 (.int .i64 (.int .i64 (.int .i64 (.bool .nil))))) (.int .i64 (.int .i64 (.int .i64 (.int .i64 .nil)))))))))) ((fD V).oG c v).q)),I ((fD V).nw c.i v)],[],[Any,Any]⟩:=by
 intro b gv
 have hc2:(c.aa.length≤300∧c.q.length≤70000∧c.w.length≤1000∧c.gn.length≤500∧c.gl.length≤500∧v.x.n.length≤1000∧v.x.l.length≤1000)∧(eJ c.i v=0→uk V c v=true)∧(c.tn.length≤1000∧c.tl.length≤1000∧c.q=[]):=by
  have h:=(show (Fw c v.x && ((!decide (eJ c.i v=0) || uk V c v) && decide (c.tn.length≤1000∧c.tl.length≤1000∧c.q=[])))=true from hC.1)
  unfold Fw at h
  simp only [Bool.and_eq_true,decide_eq_true_eq,Bool.or_eq_true,Bool.not_eq_true',decide_eq_false_iff_not] at h
  exact⟨h.1,fun e=>h.2.1.resolve_left fun q=>q e,h.2.2⟩
 have hsz:=hc2.1
 have hsz2:=hc2.2.2
 have hq0:c.q=[]:=hc2.2.2.2.2
 have hgo:=fun e=>(QP (hc2.2.1 e)).2
 have hze:mS c=true:=decide_eq_true ⟨by omega,by omega⟩
 have hc01:eJ c.i v=0∨eJ c.i v=1:=by
  unfold eJ
  split
  ·exact .inl rfl
  ·exact .inr rfl
 have hck:=fun h=>Qe (i:=c.i) (v:=v) h
 have hs1:eJ c.i v=0→cJ V c v=mW V c v:=fun h=>if_pos h
 have hs2:¬eJ c.i v=0→cJ V c v=⟨0,0,0,0,0,[],[],[],[],0,[],[],0,false,[]⟩:=fun h=>if_neg h
 have heC:=GS hq0
 have hk2:=hC.2
 have hkE:LH v=decide (v.k=3∧v.x.k=2):=rfl
 have hfs:=(af.cons (eE (V:=V)) (af.cons (Ju (V:=V)) (af.cons (IJ hb) (af.cons (zX hb) (af.cons (Aa hb) (af.cons (Eh (V:=V)) af.nil rfl) rfl) rfl) rfl) rfl) rfl)
 generalize hF:(fD V)=F at hC hfs ⊢
 generalize hG0:(bJ V)=G0 at hC hfs ⊢
 generalize hG1:(eG V)=G1 at hC hfs ⊢
 generalize hG2:(iD V)=G2 at hC hfs ⊢
 generalize hG3:ViR.Vs.U=G3 at hC hfs ⊢
 generalize hA:Ar.U=A
 generalize hL:Lp _ _ _=L
 obtain⟨Z,zq⟩:=aQ
 refine @aD _ _ _ _ _ _ _ (ae hL) _ _ zq rfl ?_
 repeat' (first|(refine aw zq ?_;try dsimp only)|refine ax zq ?_ (ae hL)|refine az zq ?_|refine ay ?_|refine aq ?_|refine ar ?_|refine av ?_|refine au rfl ?_|refine ai rfl ?_|refine aj rfl ?_|(refine Cd.mk ?_;cbv)|(refine aE.mk ?_;cbv)|(refine aM.mk ?_;cbv)|exact trivial|refine And.intro ?_ ?_|refine bu fun _=>?_|refine br fun _=>?_)
 all_goals first|(show L _ _ _;skip)|(clear hL hfs zq Z hc2;subst hA hF hG0 hG1 hG2 hG3;simp only [fD,iD,eG,bJ,Ar.U,qW,KJ] at * <;> (try simp only [heC] at *) <;> grind [al];done)
theorem sN (hb:aA Tryz.prog 33 (bH (bJ V))):aA Tryz.prog 11 (qG (fD V)):=by
 refine aG (af.cons (eE (V:=V)) (af.cons (Ju (V:=V)) (af.cons (IJ hb) (af.cons (zX hb) (af.cons (Aa hb) (af.cons (Eh (V:=V)) af.nil rfl) rfl) rfl) rfl) rfl) rfl) Tryz.func11 rfl rfl fun xs h p hp=>?_
 unfold qG at hp
 split at hp
 ·split at hp
  ·rename_i e0 e1
   cases hp
   have g0:=qw e0
   have g1:=qU e1
   subst g0 g1
   exact⟨aB rfl,fun hC _=>@Pn V hb _ _ hC⟩
  ·cases hp
 ·cases hp
noncomputable def qA (F:Kg):aY:=fun xs h=>match xs,h with
 |[.agg c_,.agg v_],[]=>(match xp c_,Ba v_ with
  |some c,some v=>some ⟨F.oe c v=true∧F.mP v=true,.bK [.agg (mq (F.oG c v)),.one (.sl none (.ah (.int .i64 (.int .i64 (.int .i64 (.int .i64 (.ints .i64 (.ah (.int .i64 (.int .i64 (.int .i64 (.int .i64 (.bool .nil))))) (.int .i64 (.int .i64 (.int .i64 (.int .i64 .nil)))))))))) (F.oG c v).q)),I (F.nw c.i v)],[],[Any,Any]⟩
  |_,_=>none)
 |_,_=>none
theorem Ou (hb:aA Tryz.prog 33 (bH (bJ V))) (c:CS) (v:EV) (hC:(fD V).oe c v=true∧(fD V).mP v=true):aV [(35,eC (iD V)),(36,JC (iD V)),(39,Am (iD V))] Tryz.f11 [.agg (mq c),.agg (HL v)] [] ⟨(fD V).oe c v=true∧(fD V).mP v=true,.bK [.agg (mq ((fD V).oG c v)),.one (.sl none (.ah (.int .i64 (.int .i64 (.int .i64 (.int .i64 (.ints .i64 (.ah (.int .i64 (.int .i64 (.int .i64 (.int .i64 (.bool .nil))))) (.int .i64 (.int .i64 (.int .i64 (.int .i64 .nil)))))))))) ((fD V).oG c v).q)),I ((fD V).nw c.i v)],[],[Any,Any]⟩:=by
 intro b gv
 have hc2:(c.aa.length≤300∧c.q.length≤70000∧c.w.length≤1000∧c.gn.length≤500∧c.gl.length≤500∧v.x.n.length≤1000∧v.x.l.length≤1000)∧(eJ c.i v=0→uk V c v=true)∧(c.tn.length≤1000∧c.tl.length≤1000∧c.q=[]):=by
  have h:=(show (Fw c v.x && ((!decide (eJ c.i v=0) || uk V c v) && decide (c.tn.length≤1000∧c.tl.length≤1000∧c.q=[])))=true from hC.1)
  unfold Fw at h
  simp only [Bool.and_eq_true,decide_eq_true_eq,Bool.or_eq_true,Bool.not_eq_true',decide_eq_false_iff_not] at h
  exact⟨h.1,fun e=>h.2.1.resolve_left fun q=>q e,h.2.2⟩
 have hsz:=hc2.1
 have hsz2:=hc2.2.2
 have hq0:c.q=[]:=hc2.2.2.2.2
 have hgo:=fun e=>(QP (hc2.2.1 e)).2
 have hze:mS c=true:=decide_eq_true ⟨by omega,by omega⟩
 have hc01:eJ c.i v=0∨eJ c.i v=1:=by
  unfold eJ
  split
  ·exact .inl rfl
  ·exact .inr rfl
 have hck:=fun h=>Qe (i:=c.i) (v:=v) h
 have hs1:eJ c.i v=0→cJ V c v=mW V c v:=fun h=>if_pos h
 have hs2:¬eJ c.i v=0→cJ V c v=⟨0,0,0,0,0,[],[],[],[],0,[],[],0,false,[]⟩:=fun h=>if_neg h
 have heC:=GS hq0
 have hk2:=hC.2
 have hkE:LH v=decide (v.k=3∧v.x.k=2):=rfl
 have hfs:=(af.cons (eE (V:=V)) (af.cons (Lu (V:=V)) (af.cons (vV hb) af.nil rfl) rfl) rfl)
 generalize hF:(fD V)=F at hC hfs ⊢
 generalize hG0:(bJ V)=G0 at hC hfs ⊢
 generalize hG1:(eG V)=G1 at hC hfs ⊢
 generalize hG2:(iD V)=G2 at hC hfs ⊢
 generalize hG3:ViR.Vs.U=G3 at hC hfs ⊢
 generalize hA:Ar.U=A
 generalize hL:Lp _ _ _=L
 obtain⟨Z,zq⟩:=aQ
 refine @aD _ _ _ _ _ _ _ (ae hL) _ _ zq rfl ?_
 repeat' (first|(refine aw zq ?_;try dsimp only)|refine ax zq ?_ (ae hL)|refine az zq ?_|refine ay ?_|refine aq ?_|refine ar ?_|refine av ?_|refine au rfl ?_|refine ai rfl ?_|refine aj rfl ?_|(refine Cd.mk ?_;cbv)|(refine aE.mk ?_;cbv)|(refine aM.mk ?_;cbv)|exact trivial|refine And.intro ?_ ?_|refine bu fun _=>?_|refine br fun _=>?_)
 all_goals first|(show L _ _ _;skip)|(clear hL hfs zq Z hc2;subst hA hF hG0 hG1 hG2 hG3;simp only [fD,iD,bJ,Ar.U,qW,KJ] at * <;> (try simp only [heC] at *) <;> grind [al];done)
theorem zH (hb:aA Tryz.prog 33 (bH (bJ V))):aA Tryz.prog 11 (qA (fD V)):=by
 refine aG (af.cons (eE (V:=V)) (af.cons (Lu (V:=V)) (af.cons (vV hb) af.nil rfl) rfl) rfl) Tryz.func11 rfl rfl fun xs h p hp=>?_
 unfold qA at hp
 split at hp
 ·split at hp
  ·rename_i e0 e1
   cases hp
   have g0:=qw e0
   have g1:=qU e1
   subst g0 g1
   exact⟨aB rfl,fun hC _=>@Ou V hb _ _ hC⟩
  ·cases hp
 ·cases hp
noncomputable def Iq (F:KsD.Kd):aY:=Hp 0 5 1 58 (.ah (.int .i64 (.int .i64 (.int .i64 (.int .i64 (.bool (.bool (.int .i64 .nil))))))) []) (tH 0 6 (.ints .i64 []) (tH 0 7 (.ints .i64 []) (tH 0 8 (.ah (.int .i64 (.int .i64 (.int .i64 (.int .i64 (.bool .nil))))) []) (tH 0 10 (.ints .i64 []) (tH 0 11 (.ah (.int .i64 (.int .i64 (.int .i64 (.int .i64 (.bool .nil))))) []) (yH 0 14 2 89 (.int .i64 (.int .i64 (.int .i64 (.int .i64 (.ints .i64 (.ah (.int .i64 (.int .i64 (.int .i64 (.int .i64 (.bool .nil))))) (.int .i64 (.int .i64 (.int .i64 (.int .i64 .nil)))))))))) (bH F)))))))
theorem DR (hb:aA Tryz.prog 33 (bH (bJ V))):aA Tryz.prog 33 (Iq (bJ V)):=JH _ _ _ _ _ (jM _ _ _ (jM _ _ _ (jM _ _ _ (jM _ _ _ (jM _ _ _ (kM _ _ _ _ _ hb))))))
noncomputable def po (F:Kg):aY:=fun xs h=>match xs,h with
 |[.one (.val (.int .i64 i)),.one (.val (.int .i64 l))],[]=>some ⟨F.HM i l=true,.bK [.agg (mq (F.Xo i l)),I (F.Xx i l)],[],[Any,Any]⟩
 |_,_=>none
theorem Un (hb:aA Tryz.prog 33 (bH (bJ V))) (i:Int) (l:Int) (hC:(fD V).HM i l=true):aV [(32,gf ViR.Vs.U),(33,Iq (bJ V))] Tryz.f8 [.one (.val (.int .i64 i)),.one (.val (.int .i64 l))] [] ⟨(fD V).HM i l=true,.bK [.agg (mq ((fD V).Xo i l)),I ((fD V).Xx i l)],[],[Any,Any]⟩:=by
 intro b gv
 have hn1:fJ i l=true→V.ok ⟨i,0,0,0,0,[],[],[],[],0,[],[],l,false,[]⟩=true∧tr V i l=V.B ⟨i,0,0,0,0,[],[],[],[],0,[],[],l,false,[]⟩:=fun h=>by
  have hC2:(!fJ i l || V.ok (iz i l))=true:=hC
  rw [h] at hC2
  exact⟨by simpa [iz] using hC2,if_pos h⟩
 have hn2:¬fJ i l=true→tr V i l=⟨0,0,0,0,0,[],[],[],[],0,[],[],0,false,[]⟩:=fun h=>if_neg h
 have hn3:fJ i l=true↔cm i=true∧1≤l∧l≤2147483647:=by
  unfold fJ
  rw [Bool.and_eq_true,decide_eq_true_eq]
 have hfs:=(af.cons cN (af.cons (DR hb) af.nil rfl) rfl)
 generalize hF:(fD V)=F at hC hfs ⊢
 generalize hG0:(bJ V)=G0 at hC hfs ⊢
 generalize hG1:(eG V)=G1 at hC hfs ⊢
 generalize hG2:(iD V)=G2 at hC hfs ⊢
 generalize hG3:ViR.Vs.U=G3 at hC hfs ⊢
 generalize hA:Ar.U=A
 generalize hL:Lp _ _ _=L
 obtain⟨Z,zq⟩:=aQ
 refine @aD _ _ _ _ _ _ _ (ae hL) _ _ zq rfl ?_
 repeat' (first|(refine aw zq ?_;try dsimp only)|refine ax zq ?_ (ae hL)|refine az zq ?_|refine ay ?_|refine aq ?_|refine ar ?_|refine av ?_|refine au rfl ?_|refine ai rfl ?_|refine aj rfl ?_|(refine Cd.mk ?_;cbv)|(refine aE.mk ?_;cbv)|(refine aM.mk ?_;cbv)|exact trivial|refine And.intro ?_ ?_|refine bu fun _=>?_|refine br fun _=>?_)
 all_goals first|(show L _ _ _;skip)|(clear hL hfs zq Z;subst hA hF hG0 hG1 hG2 hG3;simp only [fD,bJ,ViR.Vs.U,Ar.U] at * <;> grind [al];done)
theorem mO (hb:aA Tryz.prog 33 (bH (bJ V))):aA Tryz.prog 8 (po (fD V)):=by
 refine aG (af.cons cN (af.cons (DR hb) af.nil rfl) rfl) Tryz.func8 rfl rfl fun xs h p hp=>?_
 unfold po at hp
 split at hp
 ·cases hp
  exact⟨aB rfl,fun hC _=>@Un V hb _ _ hC⟩
 ·cases hp
end Go.Proofs.YtelhldgdnlppfaaGreat.KsG
