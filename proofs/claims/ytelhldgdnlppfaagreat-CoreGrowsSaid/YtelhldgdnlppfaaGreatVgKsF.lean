/-
  echoes,and a whole step of a core. No condition but size.
-/
import Derived.Test.YtelhldgdnlppfaaGreatVgKsE
import Derived.Test.YtelhldgdnlppfaaGreatVgW45
import Derived.Test.YtelhldgdnlppfaaGreatVgTrR
import Derived.Test.YtelhldgdnlppfaaGreatVgWoR
set_option maxHeartbeats 4000000
set_option cbv.maxSteps 4000000
set_option maxRecDepth 100000
namespace Go.Proofs.YtelhldgdnlppfaaGreat.KsF
open Go Ry ViR VoR KsS KsC KsU KsT KsD KsE
open Fz (wT wN)
open MgR (kJ iu nB my mD)
open WoR (nr pg rG WD)
open TrR (nI jX cE)
def nY (d:CS) (p:Int) (w:WK):CS:=⟨d.i,d.ee,d.er,d.t,d.p,d.aa,d.w.take (cE d.w p).toNat ++ d.w.drop (cE d.w p+1).toNat,if mD d.gn d.gl w.n w.l=0 then nB d.gn d.gl w.n w.l else d.gn,if mD d.gn d.gl w.n w.l=0 then my d.gn d.gl w.n w.l else d.gl,d.ph,d.tn,d.tl,d.l,d.o,d.q⟩
def qf (L:Lv) (d:CS) (p:Int) (w:WK):CS:=if w.e=d.ee∧w.r=d.er∧d.ph=1∧0≤cE d.w p then fH L (nY d p w) else d
def Fw (d:CS) (w:WK):Bool:=decide (d.aa.length≤300∧d.q.length≤70000∧d.w.length≤1000∧d.gn.length≤500∧d.gl.length≤500∧w.n.length≤1000∧w.l.length≤1000)
def rS (L:Lv) (d:CS) (p:Int) (w:WK):Bool:=Fw d w && (!decide (w.e=d.ee∧w.r=d.er∧d.ph=1∧0≤cE d.w p) || gO L (nY d p w))
theorem RP {L:Lv} {d:CS} {p:Int} {w:WK} (h:rS L d p w=true):(d.aa.length≤300∧d.q.length≤70000∧d.w.length≤1000∧d.gn.length≤500∧d.gl.length≤500∧w.n.length≤1000∧w.l.length≤1000) ∧
  (w.e=d.ee→w.r=d.er→d.ph=1→¬cE d.w p < 0→gO L (nY d p w)=true∧qf L d p w=fH L (nY d p w))∧(¬w.e=d.ee→qf L d p w=d)∧(¬w.r=d.er→qf L d p w=d)∧(¬d.ph=1→qf L d p w=d)∧(cE d.w p < 0→qf L d p w=d):=by
 unfold rS Fw at h
 simp only [Bool.and_eq_true,Bool.or_eq_true,Bool.not_eq_true',decide_eq_true_eq,decide_eq_false_iff_not] at h
 obtain⟨h1,h2⟩:=h
 unfold qf
 refine⟨h1,fun e1 e2 e3 e4=>?_,fun e=>if_neg fun q=>e q.1,fun e=>if_neg fun q=>e q.2.1,fun e=>if_neg fun q=>e q.2.2.1,fun e=>if_neg fun q=>by omega⟩
 have e5:w.e=d.ee∧w.r=d.er∧d.ph=1∧0≤cE d.w p:=⟨e1,e2,e3,by omega⟩
 rw [if_pos e5]
 exact⟨h2.resolve_left fun q=>q e5,rfl⟩
theorem PY {d:CS} {p:Int} {w:WK} (h:mD d.gn d.gl w.n w.l=0):nY d p w=⟨d.i,d.ee,d.er,d.t,d.p,d.aa,d.w.take (cE d.w p).toNat ++ d.w.drop (cE d.w p+1).toNat,nB d.gn d.gl w.n w.l,my d.gn d.gl w.n w.l,d.ph,d.tn,d.tl,d.l,d.o,d.q⟩:=by
 unfold nY
 rw [if_pos h,if_pos h]
theorem Ro {d:CS} {p:Int} {w:WK} (h:¬mD d.gn d.gl w.n w.l=0):nY d p w=⟨d.i,d.ee,d.er,d.t,d.p,d.aa,d.w.take (cE d.w p).toNat ++ d.w.drop (cE d.w p+1).toNat,d.gn,d.gl,d.ph,d.tn,d.tl,d.l,d.o,d.q⟩:=by
 unfold nY
 rw [if_neg h,if_neg h]
theorem Ko (l:List Int) (p:Int) : -1≤cE l p∧cE l p < l.length:=by
 unfold TrR.cE
 split
 ·rename_i h
  have:=List.idxOf_lt_length_of_mem h
  omega
 ·omega
def ku (L:Lv) (d:CS) (p:Int) (w:WK):CS:=if w.k=2 then (if dw d.aa p < 0 then d else if d.o=true then d else qf L d p w) else fS L d p w
def pX (L:Lv) (d:CS) (p:Int) (w:WK):Bool:=Fw d w && (decide (dw d.aa p < 0) || (d.o || rS L d p w))
theorem Sx {L:Lv} {d:CS} {p:Int} {w:WK} (h:pX L d p w=true):(d.aa.length≤300∧d.q.length≤70000∧d.w.length≤1000∧d.gn.length≤500∧d.gl.length≤500∧w.n.length≤1000∧w.l.length≤1000) ∧
  (w.k=2→dw d.aa p < 0→ku L d p w=d)∧(w.k=2→¬dw d.aa p < 0→d.o=true→ku L d p w=d)∧(w.k=2→¬dw d.aa p < 0→d.o=false→rS L d p w=true∧ku L d p w=qf L d p w):=by
 unfold pX Fw at h
 simp only [Bool.and_eq_true,Bool.or_eq_true,decide_eq_true_eq] at h
 obtain⟨h1,h2⟩:=h
 unfold ku
 refine⟨h1,fun e1 e2=>?_,fun e1 e2 e3=>?_,fun e1 e2 e3=>?_⟩
 ·rw [if_pos e1,if_pos e2]
 ·rw [if_pos e1,if_neg e2,if_pos e3]
 ·rw [if_pos e1,if_neg e2,if_neg (by rw [e3];decide)]
  rcases h2 with h2|h2|h2
  ·exact absurd h2 e2
  ·rw [e3] at h2
   cases h2
  ·exact⟨h2,rfl⟩
structure EV where
 k:Int
 p:Int
 w:Int
 s:Int
 x:WK
def FO (x:WK):WD:=⟨x.k,x.e,x.r,x.n,x.l,x.ck,x.ca,x.cb,x.cs⟩
def fC (i:Int) (v:EV):Bool:=if v.k=1 then cm v.p && decide (v.p≠i∧0≤v.w∧v.w≤2147483647∧1≤v.s∧v.s≤2147483647) else if v.k=3 then rG (FO v.x) else decide (v.k=2∨v.k=4)
def eJ (i:Int) (v:EV):Int:=if fC i v=true then 0 else 1
def mW (L:Lv) (d:CS) (v:EV):CS:=if v.k=1 then L.B (MD d v.p v.w v.s) else if v.k=2 then MW L d v.p else if v.k=3 then ku L d v.p v.x else kW d
def uk (L:Lv) (d:CS) (v:EV):Bool:=Fw d v.x && ((!decide (v.k=1) || Aj L d v.p v.w v.s) && ((!decide (v.k=2) || zy L d v.p) && ((!decide (v.k=3∧¬v.x.k=2) || jS L d v.p v.x) && (!decide (v.k=3∧v.x.k=2) || pX L d v.p v.x))))
theorem QP {L:Lv} {d:CS} {v:EV} (h:uk L d v=true):(d.aa.length≤300∧d.q.length≤70000∧d.w.length≤1000∧d.gn.length≤500∧d.gl.length≤500∧v.x.n.length≤1000∧v.x.l.length≤1000) ∧
  (v.k=1→Aj L d v.p v.w v.s=true∧mW L d v=L.B (MD d v.p v.w v.s))∧(v.k=2→zy L d v.p=true∧mW L d v=MW L d v.p)∧(v.k=3→¬v.x.k=2→jS L d v.p v.x=true∧mW L d v=fS L d v.p v.x)∧(v.k=3→v.x.k=2→pX L d v.p v.x=true∧mW L d v=ku L d v.p v.x)∧(v.k=4→mW L d v=kW d):=by
 unfold uk Fw at h
 simp only [Bool.and_eq_true,Bool.or_eq_true,Bool.not_eq_true',decide_eq_true_eq,decide_eq_false_iff_not] at h
 obtain⟨h1,h2,h3,h4,h5⟩:=h
 unfold mW
 refine⟨h1,fun e=>⟨h2.resolve_left fun q=>q e,if_pos e⟩,fun e=>⟨h3.resolve_left fun q=>q e,?_⟩,fun e1 e2=>⟨h4.resolve_left fun q=>q ⟨e1,e2⟩,?_⟩,fun e1 e2=>⟨h5.resolve_left fun q=>q ⟨e1,e2⟩,?_⟩,fun e=>?_⟩
 ·rw [if_neg (by omega),if_pos e]
 ·rw [if_neg (by omega),if_neg (by omega),if_pos e1]
  unfold ku
  rw [if_neg e2]
 ·rw [if_neg (by omega),if_neg (by omega),if_pos e1]
 ·rw [if_neg (by omega),if_neg (by omega),if_neg (by omega)]
theorem Qe {i:Int} {v:EV} (h:eJ i v=0):v.k=1∨v.k=2∨v.k=3∨v.k=4:=by
 unfold eJ at h
 split at h
 ·rename_i h2
  unfold fC at h2
  clear h
  revert h2
  intro h
  split at h
  ·omega
  ·split at h
   ·omega
   ·have:=of_decide_eq_true h
    omega
 ·cases h
def cJ (L:Lv) (d:CS) (v:EV):CS:=if eJ d.i v=0 then mW L d v else ⟨0,0,0,0,0,[],[],[],[],0,[],[],0,false,[]⟩
def LH (v:EV):Bool:=decide (v.k=3∧v.x.k=2)
structure Kf where
 LB:CS→Int→WK→Bool
 VN:CS→Int→WK→CS
 Lj:CS→Int→WK→Bool
 VH:CS→Int→WK→CS
 nw:Int→EV→Int
 TE:WK→Bool
 vQ:List E→List Int→List Int→List E→List Int→List E→Bool
 oe:CS→EV→Bool
 oG:CS→EV→CS
 mP:EV→Bool
def iD (L:Lv):Kf:=⟨rS L,qf L,pX L,ku L,eJ,fun w=>decide (w.n.length≤1000∧w.l.length≤1000),fun t w gn gl tn tl=>decide (t.length≤1000∧w.length≤1000∧gn.length≤1000∧gl.length≤1000∧tn.length≤1000∧tl.length≤1000),fun d v=>uk L d v && decide (d.tn.length≤1000∧d.tl.length≤1000∧d.q=[]),cJ L,LH⟩
variable {V:Lv}
theorem bX {l:List (Nat × aY)} {fn:Func} {args:List SA} {h:H} {p:qi} (hd:∀ (b:Bs) (gv:List Value) (Z:(Ex→St→Prop)→Ex→St→Prop) (_:∀ K,Z K=K) (A:Ar) (_:Ar.U=A) (L:Code→St→(Ex→St→Prop)→Prop) (_:Lp Tryz.prog b gv=L),Cd A (xj l) L (pw fn) (Ry.start fn.ntmps args h) (Z fun e s'=>aM A (xj l) fn.results.toList p e s')):aV l fn args h p:=fun b gv=>@aD _ _ _ _ _ _ _ (ae rfl) _ _ (fun _=>rfl) rfl (hd b gv id (fun _=>rfl) _ rfl _ rfl)
noncomputable def Bi (F:Kf):aY:=fun xs h=>match xs with
 |[.one (.ptr 0 0),.one (.val (.int .i64 p)),.agg [.val (.int .i64 w_k),.val (.int .i64 dv),.val (.int .i64 w_r),.sl none (.ints .i64 w_n),.sl none (.ah (.int .i64 (.int .i64 (.int .i64 (.int .i64 (.bool .nil))))) w_l),.val (.int .i64 w_ck),.val (.int .i64 w_ca),.val (.int .i64 w_cb),.val (.int .i64 w_cs)]]=>(match Xr h with
  |some s=>some ⟨F.LB s p ⟨w_k,dv,w_r,w_n,w_l,w_ck,w_ca,w_cb,w_cs⟩=true,.bK [],(eO (F.VN s p ⟨w_k,dv,w_r,w_n,w_l,w_ck,w_ca,w_cb,w_cs⟩)),[.one (.ptr 0 0),Any,Any]⟩
  |none=>none)
 |_=>none
theorem Sc (hb:aA Tryz.prog 33 (bH (bJ V))) (p:Int) (w_k:Int) (dv:Int) (w_r:Int) (w_n:List Int) (w_l:List E) (w_ck:Int) (w_ca:Int) (w_cb:Int) (w_cs:Int) (s:CS) (hC:(iD V).LB s p ⟨w_k,dv,w_r,w_n,w_l,w_ck,w_ca,w_cb,w_cs⟩=true):aV [(112,nI TrR.Tr.U),(113,kJ MgR.Mg.U),(114,wT DlI.Df.U),(97,sy (bJ V))] Tryz.f72 [.one (.ptr 0 0),.one (.val (.int .i64 p)),.agg [.val (.int .i64 w_k),.val (.int .i64 dv),.val (.int .i64 w_r),.sl none (.ints .i64 w_n),.sl none (.ah (.int .i64 (.int .i64 (.int .i64 (.int .i64 (.bool .nil))))) w_l),.val (.int .i64 w_ck),.val (.int .i64 w_ca),.val (.int .i64 w_cb),.val (.int .i64 w_cs)]] (uC s) ⟨(iD V).LB s p ⟨w_k,dv,w_r,w_n,w_l,w_ck,w_ca,w_cb,w_cs⟩=true,.bK [],(eO ((iD V).VN s p ⟨w_k,dv,w_r,w_n,w_l,w_ck,w_ca,w_cb,w_cs⟩)),[.one (.ptr 0 0),Any,Any]⟩:=by
 refine @bX _ _ _ _ _ ?_
 intro b gv Z zq A hA L hL
 have hgo:=RP (show rS V s p ⟨w_k,dv,w_r,w_n,w_l,w_ck,w_ca,w_cb,w_cs⟩=true from hC)
 have hix:=Ko s.w p
 have hin:0≤cE s.w p→s.w.length≤1000→aO .add .i64 (cE s.w p) 1=cE s.w p+1:=fun h1 h2=>by rw [bo,wr _ (by omega) (by omega)]
 have he1:=fun h=>PY (d:=s) (p:=p) (w:=⟨w_k,dv,w_r,w_n,w_l,w_ck,w_ca,w_cb,w_cs⟩) h
 have he2:=fun h=>Ro (d:=s) (p:=p) (w:=⟨w_k,dv,w_r,w_n,w_l,w_ck,w_ca,w_cb,w_cs⟩) h
 have hfs:=(af.cons jX (af.cons iu (af.cons wN (af.cons (kD hb) af.nil rfl) rfl) rfl) rfl)
 generalize hF:(iD V)=F at hC hfs ⊢
 generalize hG0:ViR.Vs.U=G0 at hC hfs ⊢
 generalize hG1:KsC.Kc.U=G1 at hC hfs ⊢
 generalize hG2:MgR.Mg.U=G2 at hC hfs ⊢
 generalize hG3:WoR.Ws.U=G3 at hC hfs ⊢
 generalize hG4:TrR.Tr.U=G4 at hC hfs ⊢
 generalize hG5:DlI.Df.U=G5 at hC hfs ⊢
 generalize hG6:(bJ V)=G6 at hC hfs ⊢
 generalize hG7:(eG V)=G7 at hC hfs ⊢
 repeat' (first|(refine aw zq ?_;try dsimp only)|refine ax zq ?_ (ae hL)|refine az zq ?_|refine ay ?_|refine aq ?_|refine ar ?_|refine av ?_|refine au rfl ?_|refine ai rfl ?_|refine aj rfl ?_|(refine Cd.mk ?_;cbv)|(refine aE.mk ?_;cbv)|(refine aM.mk ?_;cbv)|exact trivial|refine And.intro ?_ ?_|refine bu fun _=>?_|refine br fun _=>?_)
 all_goals first|(show L _ _ _;skip)|(clear hL hfs zq Z;subst hA hF hG0 hG1 hG2 hG3 hG4 hG5 hG6 hG7;simp only [iD,bJ,MgR.Mg.U,TrR.Tr.U,DlI.Df.U,Ar.U] at * <;> grind [al,oY,mS,py,zB];done)
theorem Eb (hb:aA Tryz.prog 33 (bH (bJ V))):aA Tryz.prog 72 (Bi (iD V)):=by
 refine aG (af.cons jX (af.cons iu (af.cons wN (af.cons (kD hb) af.nil rfl) rfl) rfl) rfl) Tryz.func72 rfl rfl fun xs h p hp=>?_
 unfold Bi at hp
 split at hp
 ·split at hp
  ·rename_i e0
   cases hp
   have g0:=yd e0
   subst g0
   exact⟨aB rfl,fun hC _=>@Sc V hb _ _ _ _ _ _ _ _ _ _ _ hC⟩
  ·cases hp
 ·cases hp
noncomputable def yk (F:Kf):aY:=fun xs h=>match xs with
 |[.one (.ptr 0 0),.one (.val (.int .i64 p)),.agg [.val (.int .i64 w_k),.val (.int .i64 dv),.val (.int .i64 w_r),.sl none (.ints .i64 w_n),.sl none (.ah (.int .i64 (.int .i64 (.int .i64 (.int .i64 (.bool .nil))))) w_l),.val (.int .i64 w_ck),.val (.int .i64 w_ca),.val (.int .i64 w_cb),.val (.int .i64 w_cs)]]=>(match Xr h with
  |some s=>some ⟨F.Lj s p ⟨w_k,dv,w_r,w_n,w_l,w_ck,w_ca,w_cb,w_cs⟩=true∧w_k=2,.bK [],(eO (F.VH s p ⟨w_k,dv,w_r,w_n,w_l,w_ck,w_ca,w_cb,w_cs⟩)),[.one (.ptr 0 0),Any,Any]⟩
  |none=>none)
 |_=>none
theorem Ox (hb:aA Tryz.prog 33 (bH (bJ V))) (p:Int) (w_k:Int) (dv:Int) (w_r:Int) (w_n:List Int) (w_l:List E) (w_ck:Int) (w_ca:Int) (w_cb:Int) (w_cs:Int) (s:CS) (hC:(iD V).Lj s p ⟨w_k,dv,w_r,w_n,w_l,w_ck,w_ca,w_cb,w_cs⟩=true∧w_k=2):aV [(68,rL KsC.Kc.U),(bG 68,fy),(72,Bi (iD V))] Tryz.f39 [.one (.ptr 0 0),.one (.val (.int .i64 p)),.agg [.val (.int .i64 w_k),.val (.int .i64 dv),.val (.int .i64 w_r),.sl none (.ints .i64 w_n),.sl none (.ah (.int .i64 (.int .i64 (.int .i64 (.int .i64 (.bool .nil))))) w_l),.val (.int .i64 w_ck),.val (.int .i64 w_ca),.val (.int .i64 w_cb),.val (.int .i64 w_cs)]] (uC s) ⟨(iD V).Lj s p ⟨w_k,dv,w_r,w_n,w_l,w_ck,w_ca,w_cb,w_cs⟩=true∧w_k=2,.bK [],(eO ((iD V).VH s p ⟨w_k,dv,w_r,w_n,w_l,w_ck,w_ca,w_cb,w_cs⟩)),[.one (.ptr 0 0),Any,Any]⟩:=by
 refine @bX _ _ _ _ _ ?_
 intro b gv Z zq A hA L hL
 have hgo:=Sx (show pX V s p ⟨w_k,dv,w_r,w_n,w_l,w_ck,w_ca,w_cb,w_cs⟩=true from hC.1)
 have hk2:=hC.2
 have hat:=lf s.aa p
 have hfs:=(af.keeps Dc Co (af.cons (Eb hb) af.nil rfl))
 generalize hF:(iD V)=F at hC hfs ⊢
 generalize hG0:ViR.Vs.U=G0 at hC hfs ⊢
 generalize hG1:KsC.Kc.U=G1 at hC hfs ⊢
 generalize hG2:MgR.Mg.U=G2 at hC hfs ⊢
 generalize hG3:WoR.Ws.U=G3 at hC hfs ⊢
 generalize hG4:TrR.Tr.U=G4 at hC hfs ⊢
 generalize hG5:DlI.Df.U=G5 at hC hfs ⊢
 generalize hG6:(bJ V)=G6 at hC hfs ⊢
 generalize hG7:(eG V)=G7 at hC hfs ⊢
 repeat' (first|(refine aw zq ?_;try dsimp only)|refine ax zq ?_ (ae hL)|refine az zq ?_|refine ay ?_|refine aq ?_|refine ar ?_|refine av ?_|refine au rfl ?_|refine ai rfl ?_|refine aj rfl ?_|(refine Cd.mk ?_;cbv)|(refine aE.mk ?_;cbv)|(refine aM.mk ?_;cbv)|exact trivial|refine And.intro ?_ ?_|refine bu fun _=>?_|refine br fun _=>?_)
 all_goals first|(show L _ _ _;skip)|(clear hL hfs zq Z;subst hA hF hG0 hG1 hG2 hG3 hG4 hG5 hG6 hG7;simp only [iD,bJ,KsC.Kc.U,Ar.U,kj] at * <;> grind [al,oY,mS,py,zB];done)
theorem JB (hb:aA Tryz.prog 33 (bH (bJ V))):aA Tryz.prog 39 (yk (iD V)):=by
 refine aG (af.keeps Dc Co (af.cons (Eb hb) af.nil rfl)) Tryz.func39 rfl rfl fun xs h p hp=>?_
 unfold yk at hp
 split at hp
 ·split at hp
  ·rename_i e0
   cases hp
   have g0:=yd e0
   subst g0
   exact⟨aB rfl,fun hC _=>@Ox V hb _ _ _ _ _ _ _ _ _ _ _ hC⟩
  ·cases hp
 ·cases hp
noncomputable def eC (F:Kf):aY:=fun xs h=>match xs,h with
 |[.agg [.val (.int .i64 c_i),.val (.int .i64 _),.val (.int .i64 _),.val (.int .i64 _),.val (.int .i64 _),.sl none (.ah (.int .i64 (.int .i64 (.int .i64 (.int .i64 (.bool (.bool (.int .i64 .nil))))))) _),.sl none (.ints .i64 _),.sl none (.ints .i64 _),.sl none (.ah (.int .i64 (.int .i64 (.int .i64 (.int .i64 (.bool .nil))))) _),.val (.int .i64 _),.sl none (.ints .i64 _),.sl none (.ah (.int .i64 (.int .i64 (.int .i64 (.int .i64 (.bool .nil))))) _),.val (.int .i64 _),.val (.bool _)],.agg [.val (.int .i64 Nt),.val (.int .i64 v_p),.val (.int .i64 v_w),.val (.int .i64 ur),.val (.int .i64 v_xk),.val (.int .i64 v_xe),.val (.int .i64 v_xr),.sl none (.ints .i64 v_xn),.sl none (.ah (.int .i64 (.int .i64 (.int .i64 (.int .i64 (.bool .nil))))) v_xl),.val (.int .i64 v_xck),.val (.int .i64 v_xca),.val (.int .i64 v_xcb),.val (.int .i64 v_xcs)]],[]=>some ⟨F.TE ⟨v_xk,v_xe,v_xr,v_xn,v_xl,v_xck,v_xca,v_xcb,v_xcs⟩=true,.sa (I (F.nw c_i ⟨Nt,v_p,v_w,ur,⟨v_xk,v_xe,v_xr,v_xn,v_xl,v_xck,v_xca,v_xcb,v_xcs⟩⟩)),[],[Any,Any]⟩
 |_,_=>none
theorem wR (c_i:Int) (c_ee:Int) (c_er:Int) (c_t:Int) (c_p:Int) (c_ties:List E) (c_w:List Int) (c_gn:List Int) (c_gl:List E) (c_ph:Int) (c_tn:List Int) (c_tl:List E) (c_l:Int) (c_o:Bool) (Nt:Int) (v_p:Int) (v_w:Int) (ur:Int) (v_xk:Int) (v_xe:Int) (v_xr:Int) (v_xn:List Int) (v_xl:List E) (v_xck:Int) (v_xca:Int) (v_xcb:Int) (v_xcs:Int) (hC:(iD V).TE ⟨v_xk,v_xe,v_xr,v_xn,v_xl,v_xck,v_xca,v_xcb,v_xcs⟩=true):aV [(32,gf ViR.Vs.U),(61,nr WoR.Ws.U)] Tryz.f35 [.agg [.val (.int .i64 c_i),.val (.int .i64 c_ee),.val (.int .i64 c_er),.val (.int .i64 c_t),.val (.int .i64 c_p),.sl none (.ah (.int .i64 (.int .i64 (.int .i64 (.int .i64 (.bool (.bool (.int .i64 .nil))))))) c_ties),.sl none (.ints .i64 c_w),.sl none (.ints .i64 c_gn),.sl none (.ah (.int .i64 (.int .i64 (.int .i64 (.int .i64 (.bool .nil))))) c_gl),.val (.int .i64 c_ph),.sl none (.ints .i64 c_tn),.sl none (.ah (.int .i64 (.int .i64 (.int .i64 (.int .i64 (.bool .nil))))) c_tl),.val (.int .i64 c_l),.val (.bool c_o)],.agg [.val (.int .i64 Nt),.val (.int .i64 v_p),.val (.int .i64 v_w),.val (.int .i64 ur),.val (.int .i64 v_xk),.val (.int .i64 v_xe),.val (.int .i64 v_xr),.sl none (.ints .i64 v_xn),.sl none (.ah (.int .i64 (.int .i64 (.int .i64 (.int .i64 (.bool .nil))))) v_xl),.val (.int .i64 v_xck),.val (.int .i64 v_xca),.val (.int .i64 v_xcb),.val (.int .i64 v_xcs)]] [] ⟨(iD V).TE ⟨v_xk,v_xe,v_xr,v_xn,v_xl,v_xck,v_xca,v_xcb,v_xcs⟩=true,.sa (I ((iD V).nw c_i ⟨Nt,v_p,v_w,ur,⟨v_xk,v_xe,v_xr,v_xn,v_xl,v_xck,v_xca,v_xcb,v_xcs⟩⟩)),[],[Any,Any]⟩:=by
 refine @bX _ _ _ _ _ ?_
 intro b gv Z zq A hA L hL
 have hk:v_xn.length≤1000∧v_xl.length≤1000:=of_decide_eq_true (show decide _=true from hC)
 have hfs:=(af.cons cN (af.cons pg af.nil rfl) rfl)
 generalize hF:(iD V)=F at hC hfs ⊢
 generalize hG0:ViR.Vs.U=G0 at hC hfs ⊢
 generalize hG1:KsC.Kc.U=G1 at hC hfs ⊢
 generalize hG2:MgR.Mg.U=G2 at hC hfs ⊢
 generalize hG3:WoR.Ws.U=G3 at hC hfs ⊢
 generalize hG4:TrR.Tr.U=G4 at hC hfs ⊢
 generalize hG5:DlI.Df.U=G5 at hC hfs ⊢
 generalize hG6:(bJ V)=G6 at hC hfs ⊢
 generalize hG7:(eG V)=G7 at hC hfs ⊢
 repeat' (first|(refine aw zq ?_;try dsimp only)|refine ax zq ?_ (ae hL)|refine az zq ?_|refine ay ?_|refine aq ?_|refine ar ?_|refine av ?_|refine au rfl ?_|refine ai rfl ?_|refine aj rfl ?_|(refine Cd.mk ?_;cbv)|(refine aE.mk ?_;cbv)|(refine aM.mk ?_;cbv)|exact trivial|refine And.intro ?_ ?_|refine bu fun _=>?_|refine br fun _=>?_)
 all_goals first|(show L _ _ _;skip)|(clear hL hfs zq Z;subst hA hF hG0 hG1 hG2 hG3 hG4 hG5 hG6 hG7;simp only [iD,ViR.Vs.U,WoR.Ws.U,Ar.U] at * <;> grind [al,oY,mS,py,zB,eJ,fC,FO,WoR.okS,WoR.er];done)
theorem eE:aA Tryz.prog 35 (eC (iD V)):=by
 refine aG (af.cons cN (af.cons pg af.nil rfl) rfl) Tryz.func35 rfl rfl fun xs h p hp=>?_
 unfold eC at hp
 split at hp
 ·cases hp
  exact⟨aB rfl,fun hC _=>@wR V _ _ _ _ _ _ _ _ _ _ _ _ _ _ _ _ _ _ _ _ _ _ _ _ _ _ _ hC⟩
 ·cases hp
noncomputable def KP (F:Kf):aY:=fun xs h=>match xs,h with
 |[.agg [.val (.int .i64 c_i),.val (.int .i64 c_ee),.val (.int .i64 c_er),.val (.int .i64 c_t),.val (.int .i64 c_p),.sl none (.ah (.int .i64 (.int .i64 (.int .i64 (.int .i64 (.bool (.bool (.int .i64 .nil))))))) c_ties),.sl none (.ints .i64 c_w),.sl none (.ints .i64 c_gn),.sl none (.ah (.int .i64 (.int .i64 (.int .i64 (.int .i64 (.bool .nil))))) c_gl),.val (.int .i64 c_ph),.sl none (.ints .i64 c_tn),.sl none (.ah (.int .i64 (.int .i64 (.int .i64 (.int .i64 (.bool .nil))))) c_tl),.val (.int .i64 c_l),.val (.bool c_o)]],[]=>some ⟨F.vQ c_ties c_w c_gn c_gl c_tn c_tl=true,.sa (.agg [.val (.int .i64 c_i),.val (.int .i64 c_ee),.val (.int .i64 c_er),.val (.int .i64 c_t),.val (.int .i64 c_p),.own 0,.sl none (.ints .i64 c_w),.sl none (.ints .i64 c_gn),.sl none (.ah (.int .i64 (.int .i64 (.int .i64 (.int .i64 (.bool .nil))))) c_gl),.val (.int .i64 c_ph),.sl none (.ints .i64 c_tn),.sl none (.ah (.int .i64 (.int .i64 (.int .i64 (.int .i64 (.bool .nil))))) c_tl),.val (.int .i64 c_l),.val (.bool c_o)]),[(0,.row 58 (.ah (.int .i64 (.int .i64 (.int .i64 (.int .i64 (.bool (.bool (.int .i64 .nil))))))) c_ties))],[Any]⟩
 |_,_=>none
theorem YJ (c_i:Int) (c_ee:Int) (c_er:Int) (c_t:Int) (c_p:Int) (c_ties:List E) (c_w:List Int) (c_gn:List Int) (c_gl:List E) (c_ph:Int) (c_tn:List Int) (c_tl:List E) (c_l:Int) (c_o:Bool) (hC:(iD V).vQ c_ties c_w c_gn c_gl c_tn c_tl=true):aV [(62,EJ KsC.Kc.U),(63,De KsC.Kc.U),(64,Ge KsC.Kc.U)] Tryz.f36 [.agg [.val (.int .i64 c_i),.val (.int .i64 c_ee),.val (.int .i64 c_er),.val (.int .i64 c_t),.val (.int .i64 c_p),.sl none (.ah (.int .i64 (.int .i64 (.int .i64 (.int .i64 (.bool (.bool (.int .i64 .nil))))))) c_ties),.sl none (.ints .i64 c_w),.sl none (.ints .i64 c_gn),.sl none (.ah (.int .i64 (.int .i64 (.int .i64 (.int .i64 (.bool .nil))))) c_gl),.val (.int .i64 c_ph),.sl none (.ints .i64 c_tn),.sl none (.ah (.int .i64 (.int .i64 (.int .i64 (.int .i64 (.bool .nil))))) c_tl),.val (.int .i64 c_l),.val (.bool c_o)]] [] ⟨(iD V).vQ c_ties c_w c_gn c_gl c_tn c_tl=true,.sa (.agg [.val (.int .i64 c_i),.val (.int .i64 c_ee),.val (.int .i64 c_er),.val (.int .i64 c_t),.val (.int .i64 c_p),.own 0,.sl none (.ints .i64 c_w),.sl none (.ints .i64 c_gn),.sl none (.ah (.int .i64 (.int .i64 (.int .i64 (.int .i64 (.bool .nil))))) c_gl),.val (.int .i64 c_ph),.sl none (.ints .i64 c_tn),.sl none (.ah (.int .i64 (.int .i64 (.int .i64 (.int .i64 (.bool .nil))))) c_tl),.val (.int .i64 c_l),.val (.bool c_o)]),[(0,.row 58 (.ah (.int .i64 (.int .i64 (.int .i64 (.int .i64 (.bool (.bool (.int .i64 .nil))))))) c_ties))],[Any]⟩:=by
 refine @bX _ _ _ _ _ ?_
 intro b gv Z zq A hA L hL
 have hk:c_ties.length≤1000∧c_w.length≤1000∧c_gn.length≤1000∧c_gl.length≤1000∧c_tn.length≤1000∧c_tl.length≤1000:=of_decide_eq_true (show decide _=true from hC)
 have hfs:=(af.cons yc (af.cons xY (af.cons pU af.nil rfl) rfl) rfl)
 generalize hF:(iD V)=F at hC hfs ⊢
 generalize hG0:ViR.Vs.U=G0 at hC hfs ⊢
 generalize hG1:KsC.Kc.U=G1 at hC hfs ⊢
 generalize hG2:MgR.Mg.U=G2 at hC hfs ⊢
 generalize hG3:WoR.Ws.U=G3 at hC hfs ⊢
 generalize hG4:TrR.Tr.U=G4 at hC hfs ⊢
 generalize hG5:DlI.Df.U=G5 at hC hfs ⊢
 generalize hG6:(bJ V)=G6 at hC hfs ⊢
 generalize hG7:(eG V)=G7 at hC hfs ⊢
 repeat' (first|(refine aw zq ?_;try dsimp only)|refine ax zq ?_ (ae hL)|refine az zq ?_|refine ay ?_|refine aq ?_|refine ar ?_|refine av ?_|refine au rfl ?_|refine ai rfl ?_|refine aj rfl ?_|(refine Cd.mk ?_;cbv)|(refine aE.mk ?_;cbv)|(refine aM.mk ?_;cbv)|exact trivial|refine And.intro ?_ ?_|refine bu fun _=>?_|refine br fun _=>?_)
 all_goals first|(show L _ _ _;skip)|(clear hL hfs zq Z;subst hA hF hG0 hG1 hG2 hG3 hG4 hG5 hG6 hG7;simp only [iD,KsC.Kc.U] at * <;> grind [al,oY,mS,py,zB];done)
theorem Ju:aA Tryz.prog 36 (KP (iD V)):=by
 refine aG (af.cons yc (af.cons xY (af.cons pU af.nil rfl) rfl) rfl) Tryz.func36 rfl rfl fun xs h p hp=>?_
 unfold KP at hp
 split at hp
 ·cases hp
  exact⟨aB rfl,fun hC _=>@YJ V _ _ _ _ _ _ _ _ _ _ _ _ _ _ hC⟩
 ·cases hp
noncomputable def JC (F:Kf):aY:=fun xs h=>match xs,h with
 |[.agg [.val (.int .i64 c_i),.val (.int .i64 c_ee),.val (.int .i64 c_er),.val (.int .i64 c_t),.val (.int .i64 c_p),.sl none (.ah (.int .i64 (.int .i64 (.int .i64 (.int .i64 (.bool (.bool (.int .i64 .nil))))))) c_ties),.sl none (.ints .i64 c_w),.sl none (.ints .i64 c_gn),.sl none (.ah (.int .i64 (.int .i64 (.int .i64 (.int .i64 (.bool .nil))))) c_gl),.val (.int .i64 c_ph),.sl none (.ints .i64 c_tn),.sl none (.ah (.int .i64 (.int .i64 (.int .i64 (.int .i64 (.bool .nil))))) c_tl),.val (.int .i64 c_l),.val (.bool c_o)]],[]=>some ⟨F.vQ c_ties c_w c_gn c_gl c_tn c_tl=true,.sa (.agg [.val (.int .i64 c_i),.val (.int .i64 c_ee),.val (.int .i64 c_er),.val (.int .i64 c_t),.val (.int .i64 c_p),.own 0,.own 1,.sl none (.ints .i64 c_gn),.sl none (.ah (.int .i64 (.int .i64 (.int .i64 (.int .i64 (.bool .nil))))) c_gl),.val (.int .i64 c_ph),.sl none (.ints .i64 c_tn),.sl none (.ah (.int .i64 (.int .i64 (.int .i64 (.int .i64 (.bool .nil))))) c_tl),.val (.int .i64 c_l),.val (.bool c_o)]),[(0,.row 58 (.ah (.int .i64 (.int .i64 (.int .i64 (.int .i64 (.bool (.bool (.int .i64 .nil))))))) c_ties)),(1,.row 3 (.ints .i64 c_w))],[Any]⟩
 |_,_=>none
theorem Xs (c_i:Int) (c_ee:Int) (c_er:Int) (c_t:Int) (c_p:Int) (c_ties:List E) (c_w:List Int) (c_gn:List Int) (c_gl:List E) (c_ph:Int) (c_tn:List Int) (c_tl:List E) (c_l:Int) (c_o:Bool) (hC:(iD V).vQ c_ties c_w c_gn c_gl c_tn c_tl=true):aV [(62,EJ KsC.Kc.U),(63,HE KsC.Kc.U),(64,Ge KsC.Kc.U)] Tryz.f36 [.agg [.val (.int .i64 c_i),.val (.int .i64 c_ee),.val (.int .i64 c_er),.val (.int .i64 c_t),.val (.int .i64 c_p),.sl none (.ah (.int .i64 (.int .i64 (.int .i64 (.int .i64 (.bool (.bool (.int .i64 .nil))))))) c_ties),.sl none (.ints .i64 c_w),.sl none (.ints .i64 c_gn),.sl none (.ah (.int .i64 (.int .i64 (.int .i64 (.int .i64 (.bool .nil))))) c_gl),.val (.int .i64 c_ph),.sl none (.ints .i64 c_tn),.sl none (.ah (.int .i64 (.int .i64 (.int .i64 (.int .i64 (.bool .nil))))) c_tl),.val (.int .i64 c_l),.val (.bool c_o)]] [] ⟨(iD V).vQ c_ties c_w c_gn c_gl c_tn c_tl=true,.sa (.agg [.val (.int .i64 c_i),.val (.int .i64 c_ee),.val (.int .i64 c_er),.val (.int .i64 c_t),.val (.int .i64 c_p),.own 0,.own 1,.sl none (.ints .i64 c_gn),.sl none (.ah (.int .i64 (.int .i64 (.int .i64 (.int .i64 (.bool .nil))))) c_gl),.val (.int .i64 c_ph),.sl none (.ints .i64 c_tn),.sl none (.ah (.int .i64 (.int .i64 (.int .i64 (.int .i64 (.bool .nil))))) c_tl),.val (.int .i64 c_l),.val (.bool c_o)]),[(0,.row 58 (.ah (.int .i64 (.int .i64 (.int .i64 (.int .i64 (.bool (.bool (.int .i64 .nil))))))) c_ties)),(1,.row 3 (.ints .i64 c_w))],[Any]⟩:=by
 refine @bX _ _ _ _ _ ?_
 intro b gv Z zq A hA L hL
 have hk:c_ties.length≤1000∧c_w.length≤1000∧c_gn.length≤1000∧c_gl.length≤1000∧c_tn.length≤1000∧c_tl.length≤1000:=of_decide_eq_true (show decide _=true from hC)
 have hfs:=(af.cons yc (af.cons Ja (af.cons pU af.nil rfl) rfl) rfl)
 generalize hF:(iD V)=F at hC hfs ⊢
 generalize hG0:ViR.Vs.U=G0 at hC hfs ⊢
 generalize hG1:KsC.Kc.U=G1 at hC hfs ⊢
 generalize hG2:MgR.Mg.U=G2 at hC hfs ⊢
 generalize hG3:WoR.Ws.U=G3 at hC hfs ⊢
 generalize hG4:TrR.Tr.U=G4 at hC hfs ⊢
 generalize hG5:DlI.Df.U=G5 at hC hfs ⊢
 generalize hG6:(bJ V)=G6 at hC hfs ⊢
 generalize hG7:(eG V)=G7 at hC hfs ⊢
 repeat' (first|(refine aw zq ?_;try dsimp only)|refine ax zq ?_ (ae hL)|refine az zq ?_|refine ay ?_|refine aq ?_|refine ar ?_|refine av ?_|refine au rfl ?_|refine ai rfl ?_|refine aj rfl ?_|(refine Cd.mk ?_;cbv)|(refine aE.mk ?_;cbv)|(refine aM.mk ?_;cbv)|exact trivial|refine And.intro ?_ ?_|refine bu fun _=>?_|refine br fun _=>?_)
 all_goals first|(show L _ _ _;skip)|(clear hL hfs zq Z;subst hA hF hG0 hG1 hG2 hG3 hG4 hG5 hG6 hG7;simp only [iD,KsC.Kc.U] at * <;> grind [al,oY,mS,py,zB];done)
theorem Lu:aA Tryz.prog 36 (JC (iD V)):=by
 refine aG (af.cons yc (af.cons Ja (af.cons pU af.nil rfl) rfl) rfl) Tryz.func36 rfl rfl fun xs h p hp=>?_
 unfold JC at hp
 split at hp
 ·cases hp
  exact⟨aB rfl,fun hC _=>@Xs V _ _ _ _ _ _ _ _ _ _ _ _ _ _ hC⟩
 ·cases hp
end Go.Proofs.YtelhldgdnlppfaaGreat.KsF
