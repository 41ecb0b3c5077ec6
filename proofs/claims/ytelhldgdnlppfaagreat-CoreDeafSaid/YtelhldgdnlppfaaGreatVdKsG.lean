/-
  a whole step of a core. No condition but size.
-/
import Derived.Test.YtelhldgdnlppfaaGreatVdKsF
import Derived.Test.YtelhldgdnlppfaaGreatVdKrS
import Derived.Test.YtelhldgdnlppfaaGreatVdRyK
set_option maxHeartbeats 4000000
set_option cbv.maxSteps 4000000
set_option maxRecDepth 100000
namespace Go.Proofs.YtelhldgdnlppfaaGreat.KsG
open Go Ry ViR VoR KsS KsC KsT KsE KsF
open KrS (zp je pJ gM)
open KsD (bK bH Ah wY)
def LJ (v:EV):List SC:=[.val (.int .i64 v.k),.val (.int .i64 v.p),.val (.int .i64 v.w),.val (.int .i64 v.s),.val (.int .i64 v.x.k),.val (.int .i64 v.x.e),.val (.int .i64 v.x.r),.sl none (.ints .i64 v.x.n),.sl none (.ah (.int .i64 (.int .i64 (.int .i64 (.int .i64 (.bool .nil))))) v.x.l),.val (.int .i64 v.x.ck),.val (.int .i64 v.x.ca),.val (.int .i64 v.x.cb),.val (.int .i64 v.x.cs)]
def Bh:List SC→Option EV
 |[.val (.int .i64 k),.val (.int .i64 p),.val (.int .i64 w),.val (.int .i64 s),.val (.int .i64 xk),.val (.int .i64 xe),.val (.int .i64 xr),.sl none (.ints .i64 xn),.sl none (.ah (.int .i64 (.int .i64 (.int .i64 (.int .i64 (.bool .nil))))) xl),.val (.int .i64 xck),.val (.int .i64 xca),.val (.int .i64 xcb),.val (.int .i64 xcs)]=>some ⟨k,p,w,s,⟨xk,xe,xr,xn,xl,xck,xca,xcb,xcs⟩⟩
 |_=>none
theorem rC {l:List SC} {x:EV} (h:Bh l=some x):l=LJ x:=by
 unfold Bh at h
 split at h
 ·cases h
  rfl
 ·cases h
variable {V:Lv}
theorem yb (v:EV):(⟨v.k,v.p,v.w,v.s,⟨v.x.k,v.x.e,v.x.r,v.x.n,v.x.l,v.x.ck,v.x.ca,v.x.cb,v.x.cs⟩⟩:EV)=v:=rfl
theorem kG (v:EV):(⟨v.k,v.p,v.w,v.s,v.x⟩:EV)=v:=rfl
theorem HA (w:WK):(⟨w.k,w.e,w.r,w.n,w.l,w.ck,w.ca,w.cb,w.cs⟩:WK)=w:=rfl
theorem JS {c:CS} (h:c.q=[]):(⟨c.i,c.ee,c.er,c.t,c.p,c.ae,c.w,c.gn,c.gl,c.ph,c.tn,c.tl,c.l,c.o,[]⟩:CS)=c:=by rw [← h]
def AF (L:Lv) (d:CS) (v:EV):Bool:=ER d v.x && ((!decide (dD d.i v=0) || qn L d v) && decide (d.tn.length≤1000∧d.tl.length≤1000∧d.q=[]))
def iD (i l:Int):CS:=⟨i,0,0,0,0,[],[],[],[],0,[],[],l,false,[]⟩
def fL (i l:Int):Bool:=cq i && decide (1≤l∧l≤2147483647)
def tw (L:Lv) (i l:Int):CS:=if fL i l=true then L.B (iD i l) else ⟨0,0,0,0,0,[],[],[],[],0,[],[],0,false,[]⟩
structure Kg where
 KR:Int→Int→Bool
 Wr:Int→Int→CS
 WE:Int→Int→Int
 mX:CS→EV→Bool
 pd:CS→EV→CS
 nt:Int→EV→Int
 nC:EV→Bool
def fo (L:Lv):Kg:=⟨fun i l=>!fL i l || L.ok (iD i l),tw L,fun i l=>if fL i l=true then 0 else 1,AF L,fx L,dD,LZ⟩
noncomputable def Rb (F:KsE.Ke):aZ:=zd 0 14 2 89 (.int .i64 (.int .i64 (.int .i64 (.int .i64 (.ints .i64 (.ah (.int .i64 (.int .i64 (.int .i64 (.int .i64 (.bool .nil))))) (.int .i64 (.int .i64 (.int .i64 (.int .i64 .nil)))))))))) (UY F)
theorem Kb (hb:aA Tryz.prog 33 (bH (bK V))):aA Tryz.prog 37 (Rb (eE V)):=kS _ _ _ _ _ (YV hb)
noncomputable def Du (F:KsE.Ke):aZ:=zd 0 14 2 89 (.int .i64 (.int .i64 (.int .i64 (.int .i64 (.ints .i64 (.ah (.int .i64 (.int .i64 (.int .i64 (.int .i64 (.bool .nil))))) (.int .i64 (.int .i64 (.int .i64 (.int .i64 .nil)))))))))) (BA F)
theorem yZ (hb:aA Tryz.prog 33 (bH (bK V))):aA Tryz.prog 38 (Du (eE V)):=kS _ _ _ _ _ (NX hb)
noncomputable def EL (F:KsE.Ke):aZ:=zd 0 14 2 89 (.int .i64 (.int .i64 (.int .i64 (.int .i64 (.ints .i64 (.ah (.int .i64 (.int .i64 (.int .i64 (.int .i64 (.bool .nil))))) (.int .i64 (.int .i64 (.int .i64 (.int .i64 .nil)))))))))) (mc F)
theorem yW (hb:aA Tryz.prog 33 (bH (bK V))):aA Tryz.prog 39 (EL (eE V)):=kS _ _ _ _ _ (qD hb)
noncomputable def Ac (F:KsF.Kf):aZ:=zd 0 14 3 89 (.int .i64 (.int .i64 (.int .i64 (.int .i64 (.ints .i64 (.ah (.int .i64 (.int .i64 (.int .i64 (.int .i64 (.bool .nil))))) (.int .i64 (.int .i64 (.int .i64 (.int .i64 .nil)))))))))) (yh F)
theorem vv (hb:aA Tryz.prog 33 (bH (bK V))):aA Tryz.prog 39 (Ac (iE V)):=kS _ _ _ _ _ (GW hb)
noncomputable def Ll (F:KsD.Kd):aZ:=zd 0 14 2 89 (.int .i64 (.int .i64 (.int .i64 (.int .i64 (.ints .i64 (.ah (.int .i64 (.int .i64 (.int .i64 (.int .i64 (.bool .nil))))) (.int .i64 (.int .i64 (.int .i64 (.int .i64 .nil)))))))))) (Ah F)
theorem EO:aA Tryz.prog 40 (Ll (bK V)):=kS _ _ _ _ _ wY
noncomputable def qX (F:Kg):aZ:=fun xs h=>match xs,h with
 |[.agg c_,.agg v_],[]=>(match pJ c_,Bh v_ with
  |some c,some v=>some ⟨F.mX c v=true∧F.nC v=false,.bJ [.agg (je (F.pd c v)),.one (.sl none (.ah (.int .i64 (.int .i64 (.int .i64 (.int .i64 (.ints .i64 (.ah (.int .i64 (.int .i64 (.int .i64 (.int .i64 (.bool .nil))))) (.int .i64 (.int .i64 (.int .i64 (.int .i64 .nil)))))))))) (F.pd c v).q)),I (F.nt c.i v)],[],[Any,Any]⟩
  |_,_=>none)
 |_,_=>none
theorem MQ (hb:aA Tryz.prog 33 (bH (bK V))) (c:CS) (v:EV) (hC:(fo V).mX c v=true∧(fo V).nC v=false):aU [(35,ew (iE V)),(36,KX (iE V)),(37,Rb (eE V)),(38,Du (eE V)),(39,EL (eE V)),(40,Ll (bK V))] Tryz.f11 [.agg (je c),.agg (LJ v)] [] ⟨(fo V).mX c v=true∧(fo V).nC v=false,.bJ [.agg (je ((fo V).pd c v)),.one (.sl none (.ah (.int .i64 (.int .i64 (.int .i64 (.int .i64 (.ints .i64 (.ah (.int .i64 (.int .i64 (.int .i64 (.int .i64 (.bool .nil))))) (.int .i64 (.int .i64 (.int .i64 (.int .i64 .nil)))))))))) ((fo V).pd c v).q)),I ((fo V).nt c.i v)],[],[Any,Any]⟩:=by
 intro b gv
 have hc2:(c.ae.length≤300∧c.q.length≤70000∧c.w.length≤1000∧c.gn.length≤500∧c.gl.length≤500∧v.x.n.length≤1000∧v.x.l.length≤1000)∧(dD c.i v=0→qn V c v=true)∧(c.tn.length≤1000∧c.tl.length≤1000∧c.q=[]):=by
  have h:=(show (ER c v.x && ((!decide (dD c.i v=0) || qn V c v) && decide (c.tn.length≤1000∧c.tl.length≤1000∧c.q=[])))=true from hC.1)
  unfold ER at h
  simp only [Bool.and_eq_true,decide_eq_true_eq,Bool.or_eq_true,Bool.not_eq_true',decide_eq_false_iff_not] at h
  exact⟨h.1,fun e=>h.2.1.resolve_left fun q=>q e,h.2.2⟩
 have hsz:=hc2.1
 have hsz2:=hc2.2.2
 have hq0:c.q=[]:=hc2.2.2.2.2
 have hgo:=fun e=>(QV (hc2.2.1 e)).2
 have hze:nF c=true:=decide_eq_true ⟨by omega,by omega⟩
 have hc01:dD c.i v=0∨dD c.i v=1:=by
  unfold dD
  split
  ·exact .inl rfl
  ·exact .inr rfl
 have hck:=fun h=>RI (i:=c.i) (v:=v) h
 have hs1:dD c.i v=0→fx V c v=oK V c v:=fun h=>if_pos h
 have hs2:¬dD c.i v=0→fx V c v=⟨0,0,0,0,0,[],[],[],[],0,[],[],0,false,[]⟩:=fun h=>if_neg h
 have heC:=JS hq0
 have hk2:=hC.2
 have hkE:LZ v=decide (v.k=3∧v.x.k=2):=rfl
 have hfs:=(af.cons (eC (V:=V)) (af.cons (Lq (V:=V)) (af.cons (Kb hb) (af.cons (yZ hb) (af.cons (yW hb) (af.cons (EO (V:=V)) af.nil rfl) rfl) rfl) rfl) rfl) rfl)
 generalize hF:(fo V)=F at hC hfs ⊢
 generalize hG0:(bK V)=G0 at hC hfs ⊢
 generalize hG1:(eE V)=G1 at hC hfs ⊢
 generalize hG2:(iE V)=G2 at hC hfs ⊢
 generalize hG3:ViR.Vs.U=G3 at hC hfs ⊢
 generalize hA:Ar.U=A
 generalize hL:Lp _ _ _=L
 obtain⟨Z,zq⟩:=aP
 refine @aD _ _ _ _ _ _ _ (aa hL) _ _ zq rfl ?_
 repeat' (first|(refine ay zq ?_;try dsimp only)|refine ax zq ?_ (aa hL)|refine aw zq ?_|refine az ?_|refine av ?_|refine au ?_|refine aq ?_|refine ar rfl ?_|refine ai rfl ?_|refine aj rfl ?_|(refine Cd.mk ?_;cbv)|(refine aE.mk ?_;cbv)|(refine aJ.mk ?_;cbv)|exact trivial|refine And.intro ?_ ?_|refine bn fun _=>?_|refine bo fun _=>?_)
 all_goals first|(show L _ _ _;skip)|(clear hL hfs zq Z hc2;subst hA hF hG0 hG1 hG2 hG3;simp only [fo,iE,eE,bK,Ar.U,kG,HA] at * <;> (try simp only [heC] at *) <;> grind [al];done)
theorem tN (hb:aA Tryz.prog 33 (bH (bK V))):aA Tryz.prog 11 (qX (fo V)):=by
 refine aG (af.cons (eC (V:=V)) (af.cons (Lq (V:=V)) (af.cons (Kb hb) (af.cons (yZ hb) (af.cons (yW hb) (af.cons (EO (V:=V)) af.nil rfl) rfl) rfl) rfl) rfl) rfl) Tryz.func11 rfl rfl fun xs h p hp=>?_
 unfold qX at hp
 split at hp
 ·split at hp
  ·rename_i e0 e1
   cases hp
   have g0:=gM e0
   have g1:=rC e1
   subst g0 g1
   exact⟨aB rfl,fun hC _=>@MQ V hb _ _ hC⟩
  ·cases hp
 ·cases hp
noncomputable def qG (F:Kg):aZ:=fun xs h=>match xs,h with
 |[.agg c_,.agg v_],[]=>(match pJ c_,Bh v_ with
  |some c,some v=>some ⟨F.mX c v=true∧F.nC v=true,.bJ [.agg (je (F.pd c v)),.one (.sl none (.ah (.int .i64 (.int .i64 (.int .i64 (.int .i64 (.ints .i64 (.ah (.int .i64 (.int .i64 (.int .i64 (.int .i64 (.bool .nil))))) (.int .i64 (.int .i64 (.int .i64 (.int .i64 .nil)))))))))) (F.pd c v).q)),I (F.nt c.i v)],[],[Any,Any]⟩
  |_,_=>none)
 |_,_=>none
theorem PL (hb:aA Tryz.prog 33 (bH (bK V))) (c:CS) (v:EV) (hC:(fo V).mX c v=true∧(fo V).nC v=true):aU [(35,ew (iE V)),(36,Ht (iE V)),(39,Ac (iE V))] Tryz.f11 [.agg (je c),.agg (LJ v)] [] ⟨(fo V).mX c v=true∧(fo V).nC v=true,.bJ [.agg (je ((fo V).pd c v)),.one (.sl none (.ah (.int .i64 (.int .i64 (.int .i64 (.int .i64 (.ints .i64 (.ah (.int .i64 (.int .i64 (.int .i64 (.int .i64 (.bool .nil))))) (.int .i64 (.int .i64 (.int .i64 (.int .i64 .nil)))))))))) ((fo V).pd c v).q)),I ((fo V).nt c.i v)],[],[Any,Any]⟩:=by
 intro b gv
 have hc2:(c.ae.length≤300∧c.q.length≤70000∧c.w.length≤1000∧c.gn.length≤500∧c.gl.length≤500∧v.x.n.length≤1000∧v.x.l.length≤1000)∧(dD c.i v=0→qn V c v=true)∧(c.tn.length≤1000∧c.tl.length≤1000∧c.q=[]):=by
  have h:=(show (ER c v.x && ((!decide (dD c.i v=0) || qn V c v) && decide (c.tn.length≤1000∧c.tl.length≤1000∧c.q=[])))=true from hC.1)
  unfold ER at h
  simp only [Bool.and_eq_true,decide_eq_true_eq,Bool.or_eq_true,Bool.not_eq_true',decide_eq_false_iff_not] at h
  exact⟨h.1,fun e=>h.2.1.resolve_left fun q=>q e,h.2.2⟩
 have hsz:=hc2.1
 have hsz2:=hc2.2.2
 have hq0:c.q=[]:=hc2.2.2.2.2
 have hgo:=fun e=>(QV (hc2.2.1 e)).2
 have hze:nF c=true:=decide_eq_true ⟨by omega,by omega⟩
 have hc01:dD c.i v=0∨dD c.i v=1:=by
  unfold dD
  split
  ·exact .inl rfl
  ·exact .inr rfl
 have hck:=fun h=>RI (i:=c.i) (v:=v) h
 have hs1:dD c.i v=0→fx V c v=oK V c v:=fun h=>if_pos h
 have hs2:¬dD c.i v=0→fx V c v=⟨0,0,0,0,0,[],[],[],[],0,[],[],0,false,[]⟩:=fun h=>if_neg h
 have heC:=JS hq0
 have hk2:=hC.2
 have hkE:LZ v=decide (v.k=3∧v.x.k=2):=rfl
 have hfs:=(af.cons (eC (V:=V)) (af.cons (Lg (V:=V)) (af.cons (vv hb) af.nil rfl) rfl) rfl)
 generalize hF:(fo V)=F at hC hfs ⊢
 generalize hG0:(bK V)=G0 at hC hfs ⊢
 generalize hG1:(eE V)=G1 at hC hfs ⊢
 generalize hG2:(iE V)=G2 at hC hfs ⊢
 generalize hG3:ViR.Vs.U=G3 at hC hfs ⊢
 generalize hA:Ar.U=A
 generalize hL:Lp _ _ _=L
 obtain⟨Z,zq⟩:=aP
 refine @aD _ _ _ _ _ _ _ (aa hL) _ _ zq rfl ?_
 repeat' (first|(refine ay zq ?_;try dsimp only)|refine ax zq ?_ (aa hL)|refine aw zq ?_|refine az ?_|refine av ?_|refine au ?_|refine aq ?_|refine ar rfl ?_|refine ai rfl ?_|refine aj rfl ?_|(refine Cd.mk ?_;cbv)|(refine aE.mk ?_;cbv)|(refine aJ.mk ?_;cbv)|exact trivial|refine And.intro ?_ ?_|refine bn fun _=>?_|refine bo fun _=>?_)
 all_goals first|(show L _ _ _;skip)|(clear hL hfs zq Z hc2;subst hA hF hG0 hG1 hG2 hG3;simp only [fo,iE,bK,Ar.U,kG,HA] at * <;> (try simp only [heC] at *) <;> grind [al];done)
theorem zE (hb:aA Tryz.prog 33 (bH (bK V))):aA Tryz.prog 11 (qG (fo V)):=by
 refine aG (af.cons (eC (V:=V)) (af.cons (Lg (V:=V)) (af.cons (vv hb) af.nil rfl) rfl) rfl) Tryz.func11 rfl rfl fun xs h p hp=>?_
 unfold qG at hp
 split at hp
 ·split at hp
  ·rename_i e0 e1
   cases hp
   have g0:=gM e0
   have g1:=rC e1
   subst g0 g1
   exact⟨aB rfl,fun hC _=>@PL V hb _ _ hC⟩
  ·cases hp
 ·cases hp
noncomputable def IM (F:KsD.Kd):aZ:=KY 0 5 1 58 (.ah (.int .i64 (.int .i64 (.int .i64 (.int .i64 (.bool (.bool (.int .i64 .nil))))))) []) (rJ 0 6 (.ints .i64 []) (rJ 0 7 (.ints .i64 []) (rJ 0 8 (.ah (.int .i64 (.int .i64 (.int .i64 (.int .i64 (.bool .nil))))) []) (rJ 0 10 (.ints .i64 []) (rJ 0 11 (.ah (.int .i64 (.int .i64 (.int .i64 (.int .i64 (.bool .nil))))) []) (zd 0 14 2 89 (.int .i64 (.int .i64 (.int .i64 (.int .i64 (.ints .i64 (.ah (.int .i64 (.int .i64 (.int .i64 (.int .i64 (.bool .nil))))) (.int .i64 (.int .i64 (.int .i64 (.int .i64 .nil)))))))))) (bH F)))))))
theorem EC (hb:aA Tryz.prog 33 (bH (bK V))):aA Tryz.prog 33 (IM (bK V)):=HH _ _ _ _ _ (kg _ _ _ (kg _ _ _ (kg _ _ _ (kg _ _ _ (kg _ _ _ (kS _ _ _ _ _ hb))))))
noncomputable def oZ (F:Kg):aZ:=fun xs h=>match xs,h with
 |[.one (.val (.int .i64 i)),.one (.val (.int .i64 l))],[]=>some ⟨F.KR i l=true,.bJ [.agg (je (F.Wr i l)),I (F.WE i l)],[],[Any,Any]⟩
 |_,_=>none
theorem Ul (hb:aA Tryz.prog 33 (bH (bK V))) (i:Int) (l:Int) (hC:(fo V).KR i l=true):aU [(32,fW ViR.Vs.U),(33,IM (bK V))] Tryz.f8 [.one (.val (.int .i64 i)),.one (.val (.int .i64 l))] [] ⟨(fo V).KR i l=true,.bJ [.agg (je ((fo V).Wr i l)),I ((fo V).WE i l)],[],[Any,Any]⟩:=by
 intro b gv
 have hn1:fL i l=true→V.ok ⟨i,0,0,0,0,[],[],[],[],0,[],[],l,false,[]⟩=true∧tw V i l=V.B ⟨i,0,0,0,0,[],[],[],[],0,[],[],l,false,[]⟩:=fun h=>by
  have hC2:(!fL i l || V.ok (iD i l))=true:=hC
  rw [h] at hC2
  exact⟨by simpa [iD] using hC2,if_pos h⟩
 have hn2:¬fL i l=true→tw V i l=⟨0,0,0,0,0,[],[],[],[],0,[],[],0,false,[]⟩:=fun h=>if_neg h
 have hn3:fL i l=true↔cq i=true∧1≤l∧l≤2147483647:=by
  unfold fL
  rw [Bool.and_eq_true,decide_eq_true_eq]
 have hfs:=(af.cons cL (af.cons (EC hb) af.nil rfl) rfl)
 generalize hF:(fo V)=F at hC hfs ⊢
 generalize hG0:(bK V)=G0 at hC hfs ⊢
 generalize hG1:(eE V)=G1 at hC hfs ⊢
 generalize hG2:(iE V)=G2 at hC hfs ⊢
 generalize hG3:ViR.Vs.U=G3 at hC hfs ⊢
 generalize hA:Ar.U=A
 generalize hL:Lp _ _ _=L
 obtain⟨Z,zq⟩:=aP
 refine @aD _ _ _ _ _ _ _ (aa hL) _ _ zq rfl ?_
 repeat' (first|(refine ay zq ?_;try dsimp only)|refine ax zq ?_ (aa hL)|refine aw zq ?_|refine az ?_|refine av ?_|refine au ?_|refine aq ?_|refine ar rfl ?_|refine ai rfl ?_|refine aj rfl ?_|(refine Cd.mk ?_;cbv)|(refine aE.mk ?_;cbv)|(refine aJ.mk ?_;cbv)|exact trivial|refine And.intro ?_ ?_|refine bn fun _=>?_|refine bo fun _=>?_)
 all_goals first|(show L _ _ _;skip)|(clear hL hfs zq Z;subst hA hF hG0 hG1 hG2 hG3;simp only [fo,bK,ViR.Vs.U,Ar.U] at * <;> grind [al];done)
theorem nw (hb:aA Tryz.prog 33 (bH (bK V))):aA Tryz.prog 8 (oZ (fo V)):=by
 refine aG (af.cons cL (af.cons (EC hb) af.nil rfl) rfl) Tryz.func8 rfl rfl fun xs h p hp=>?_
 unfold oZ at hp
 split at hp
 ·cases hp
  exact⟨aB rfl,fun hC _=>@Ul V hb _ _ hC⟩
 ·cases hp
end Go.Proofs.YtelhldgdnlppfaaGreat.KsG
