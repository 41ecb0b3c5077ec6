/-
  echoes,and a whole step of a core. No condition but size.
-/
import Derived.Test.YtelhldgdnlppfaaGreatVdKsE
import Derived.Test.YtelhldgdnlppfaaGreatVdW43
import Derived.Test.YtelhldgdnlppfaaGreatVdTrR
import Derived.Test.YtelhldgdnlppfaaGreatVdWoR
set_option maxHeartbeats 4000000
set_option cbv.maxSteps 4000000
set_option maxRecDepth 100000
namespace Go.Proofs.YtelhldgdnlppfaaGreat.KsF
open Go Ry ViR VoR KsS KsC KsU KsT KsD KsE
open Fz (wG wX)
open MgR (kK ic nJ mD oE)
open WoR (nS pz sU WD)
open TrR (nL jY cD)
def pw (d:CS) (p:Int) (w:WK):CS:=⟨d.i,d.ee,d.er,d.t,d.p,d.ae,d.w.take (cD d.w p).toNat ++ d.w.drop (cD d.w p+1).toNat,if oE d.gn d.gl w.n w.l=0 then nJ d.gn d.gl w.n w.l else d.gn,if oE d.gn d.gl w.n w.l=0 then mD d.gn d.gl w.n w.l else d.gl,d.ph,d.tn,d.tl,d.l,d.o,d.q⟩
def tz (L:Lv) (d:CS) (p:Int) (w:WK):CS:=if w.e=d.ee∧w.r=d.er∧d.ph=1∧0≤cD d.w p then gu L (pw d p w) else d
def ER (d:CS) (w:WK):Bool:=decide (d.ae.length≤300∧d.q.length≤70000∧d.w.length≤1000∧d.gn.length≤500∧d.gl.length≤500∧w.n.length≤1000∧w.l.length≤1000)
def sQ (L:Lv) (d:CS) (p:Int) (w:WK):Bool:=ER d w && (!decide (w.e=d.ee∧w.r=d.er∧d.ph=1∧0≤cD d.w p) || gL L (pw d p w))
theorem Te {L:Lv} {d:CS} {p:Int} {w:WK} (h:sQ L d p w=true):(d.ae.length≤300∧d.q.length≤70000∧d.w.length≤1000∧d.gn.length≤500∧d.gl.length≤500∧w.n.length≤1000∧w.l.length≤1000) ∧
  (w.e=d.ee→w.r=d.er→d.ph=1→¬cD d.w p < 0→gL L (pw d p w)=true∧tz L d p w=gu L (pw d p w))∧(¬w.e=d.ee→tz L d p w=d)∧(¬w.r=d.er→tz L d p w=d)∧(¬d.ph=1→tz L d p w=d)∧(cD d.w p < 0→tz L d p w=d):=by
 unfold sQ ER at h
 simp only [Bool.and_eq_true,Bool.or_eq_true,Bool.not_eq_true',decide_eq_true_eq,decide_eq_false_iff_not] at h
 obtain⟨h1,h2⟩:=h
 unfold tz
 refine⟨h1,fun e1 e2 e3 e4=>?_,fun e=>if_neg fun q=>e q.1,fun e=>if_neg fun q=>e q.2.1,fun e=>if_neg fun q=>e q.2.2.1,fun e=>if_neg fun q=>by omega⟩
 have e5:w.e=d.ee∧w.r=d.er∧d.ph=1∧0≤cD d.w p:=⟨e1,e2,e3,by omega⟩
 rw [if_pos e5]
 exact⟨h2.resolve_left fun q=>q e5,rfl⟩
theorem Ra {d:CS} {p:Int} {w:WK} (h:oE d.gn d.gl w.n w.l=0):pw d p w=⟨d.i,d.ee,d.er,d.t,d.p,d.ae,d.w.take (cD d.w p).toNat ++ d.w.drop (cD d.w p+1).toNat,nJ d.gn d.gl w.n w.l,mD d.gn d.gl w.n w.l,d.ph,d.tn,d.tl,d.l,d.o,d.q⟩:=by
 unfold pw
 rw [if_pos h,if_pos h]
theorem QU {d:CS} {p:Int} {w:WK} (h:¬oE d.gn d.gl w.n w.l=0):pw d p w=⟨d.i,d.ee,d.er,d.t,d.p,d.ae,d.w.take (cD d.w p).toNat ++ d.w.drop (cD d.w p+1).toNat,d.gn,d.gl,d.ph,d.tn,d.tl,d.l,d.o,d.q⟩:=by
 unfold pw
 rw [if_neg h,if_neg h]
theorem Jb (l:List Int) (p:Int) : -1≤cD l p∧cD l p < l.length:=by
 unfold TrR.cD
 split
 ·rename_i h
  have:=List.idxOf_lt_length_of_mem h
  omega
 ·omega
def jB (L:Lv) (d:CS) (p:Int) (w:WK):CS:=if w.k=2 then (if dn d.ae p < 0 then d else if d.o=true then d else tz L d p w) else fQ L d p w
def oc (L:Lv) (d:CS) (p:Int) (w:WK):Bool:=ER d w && (decide (dn d.ae p < 0) || (d.o || sQ L d p w))
theorem Tj {L:Lv} {d:CS} {p:Int} {w:WK} (h:oc L d p w=true):(d.ae.length≤300∧d.q.length≤70000∧d.w.length≤1000∧d.gn.length≤500∧d.gl.length≤500∧w.n.length≤1000∧w.l.length≤1000) ∧
  (w.k=2→dn d.ae p < 0→jB L d p w=d)∧(w.k=2→¬dn d.ae p < 0→d.o=true→jB L d p w=d)∧(w.k=2→¬dn d.ae p < 0→d.o=false→sQ L d p w=true∧jB L d p w=tz L d p w):=by
 unfold oc ER at h
 simp only [Bool.and_eq_true,Bool.or_eq_true,decide_eq_true_eq] at h
 obtain⟨h1,h2⟩:=h
 unfold jB
 refine⟨h1,fun e1 e2=>?_,fun e1 e2 e3=>?_,fun e1 e2 e3=>?_⟩
 ·rw [if_pos e1,if_pos e2]
 ·rw [if_pos e1,if_neg e2,if_pos e3]
 ·rw [if_pos e1,if_neg e2,if_neg (by rw [e3];decide)]
  rcases h2 with h2|h2|h2
  ·exact absurd h2 e2
  ·rw [e3] at h2
   cases h2
  ·exact⟨h2,rfl⟩
structure EV where
 k:Int
 p:Int
 w:Int
 s:Int
 x:WK
def EZ (x:WK):WD:=⟨x.k,x.e,x.r,x.n,x.l,x.ck,x.ca,x.cb,x.cs⟩
def fH (i:Int) (v:EV):Bool:=if v.k=1 then cq v.p && decide (v.p≠i∧0≤v.w∧v.w≤2147483647∧1≤v.s∧v.s≤2147483647) else if v.k=3 then sU (EZ v.x) else decide (v.k=2∨v.k=4)
def dD (i:Int) (v:EV):Int:=if fH i v=true then 0 else 1
def oK (L:Lv) (d:CS) (v:EV):CS:=if v.k=1 then L.B (Qe d v.p v.w v.s) else if v.k=2 then QL L d v.p else if v.k=3 then jB L d v.p v.x else nH d
def qn (L:Lv) (d:CS) (v:EV):Bool:=ER d v.x && ((!decide (v.k=1) || yO L d v.p v.w v.s) && ((!decide (v.k=2) || yg L d v.p) && ((!decide (v.k=3∧¬v.x.k=2) || jg L d v.p v.x) && (!decide (v.k=3∧v.x.k=2) || oc L d v.p v.x))))
theorem QV {L:Lv} {d:CS} {v:EV} (h:qn L d v=true):(d.ae.length≤300∧d.q.length≤70000∧d.w.length≤1000∧d.gn.length≤500∧d.gl.length≤500∧v.x.n.length≤1000∧v.x.l.length≤1000) ∧
  (v.k=1→yO L d v.p v.w v.s=true∧oK L d v=L.B (Qe d v.p v.w v.s))∧(v.k=2→yg L d v.p=true∧oK L d v=QL L d v.p)∧(v.k=3→¬v.x.k=2→jg L d v.p v.x=true∧oK L d v=fQ L d v.p v.x)∧(v.k=3→v.x.k=2→oc L d v.p v.x=true∧oK L d v=jB L d v.p v.x)∧(v.k=4→oK L d v=nH d):=by
 unfold qn ER at h
 simp only [Bool.and_eq_true,Bool.or_eq_true,Bool.not_eq_true',decide_eq_true_eq,decide_eq_false_iff_not] at h
 obtain⟨h1,h2,h3,h4,h5⟩:=h
 unfold oK
 refine⟨h1,fun e=>⟨h2.resolve_left fun q=>q e,if_pos e⟩,fun e=>⟨h3.resolve_left fun q=>q e,?_⟩,fun e1 e2=>⟨h4.resolve_left fun q=>q ⟨e1,e2⟩,?_⟩,fun e1 e2=>⟨h5.resolve_left fun q=>q ⟨e1,e2⟩,?_⟩,fun e=>?_⟩
 ·rw [if_neg (by omega),if_pos e]
 ·rw [if_neg (by omega),if_neg (by omega),if_pos e1]
  unfold jB
  rw [if_neg e2]
 ·rw [if_neg (by omega),if_neg (by omega),if_pos e1]
 ·rw [if_neg (by omega),if_neg (by omega),if_neg (by omega)]
theorem RI {i:Int} {v:EV} (h:dD i v=0):v.k=1∨v.k=2∨v.k=3∨v.k=4:=by
 unfold dD at h
 split at h
 ·rename_i h2
  unfold fH at h2
  clear h
  revert h2
  intro h
  split at h
  ·omega
  ·split at h
   ·omega
   ·have:=of_decide_eq_true h
    omega
 ·cases h
def fx (L:Lv) (d:CS) (v:EV):CS:=if dD d.i v=0 then oK L d v else ⟨0,0,0,0,0,[],[],[],[],0,[],[],0,false,[]⟩
def LZ (v:EV):Bool:=decide (v.k=3∧v.x.k=2)
structure Kf where
 KP:CS→Int→WK→Bool
 YX:CS→Int→WK→CS
 Jw:CS→Int→WK→Bool
 Wh:CS→Int→WK→CS
 nt:Int→EV→Int
 US:WK→Bool
 ve:List E→List Int→List Int→List E→List Int→List E→Bool
 mX:CS→EV→Bool
 pd:CS→EV→CS
 nC:EV→Bool
def iE (L:Lv):Kf:=⟨sQ L,tz L,oc L,jB L,dD,fun w=>decide (w.n.length≤1000∧w.l.length≤1000),fun t w gn gl tn tl=>decide (t.length≤1000∧w.length≤1000∧gn.length≤1000∧gl.length≤1000∧tn.length≤1000∧tl.length≤1000),fun d v=>qn L d v && decide (d.tn.length≤1000∧d.tl.length≤1000∧d.q=[]),fx L,LZ⟩
variable {V:Lv}
theorem bY {l:List (Nat × aZ)} {fn:Func} {args:List SA} {h:H} {p:qm} (hd:∀ (b:Bs) (gv:List Value) (Z:(Ex→St→Prop)→Ex→St→Prop) (_:∀ K,Z K=K) (A:Ar) (_:Ar.U=A) (L:Code→St→(Ex→St→Prop)→Prop) (_:Lp Tryz.prog b gv=L),Cd A (wz l) L (pn fn) (Ry.start fn.ntmps args h) (Z fun e s'=>aJ A (wz l) fn.results.toList p e s')):aU l fn args h p:=fun b gv=>@aD _ _ _ _ _ _ _ (aa rfl) _ _ (fun _=>rfl) rfl (hd b gv id (fun _=>rfl) _ rfl _ rfl)
noncomputable def Cg (F:Kf):aZ:=fun xs h=>match xs with
 |[.one (.ptr 0 0),.one (.val (.int .i64 p)),.agg [.val (.int .i64 w_k),.val (.int .i64 du),.val (.int .i64 w_r),.sl none (.ints .i64 w_n),.sl none (.ah (.int .i64 (.int .i64 (.int .i64 (.int .i64 (.bool .nil))))) w_l),.val (.int .i64 w_ck),.val (.int .i64 w_ca),.val (.int .i64 w_cb),.val (.int .i64 w_cs)]]=>(match ZO h with
  |some s=>some ⟨F.KP s p ⟨w_k,du,w_r,w_n,w_l,w_ck,w_ca,w_cb,w_cs⟩=true,.bJ [],(eN (F.YX s p ⟨w_k,du,w_r,w_n,w_l,w_ck,w_ca,w_cb,w_cs⟩)),[.one (.ptr 0 0),Any,Any]⟩
  |none=>none)
 |_=>none
theorem SI (hb:aA Tryz.prog 33 (bH (bK V))) (p:Int) (w_k:Int) (du:Int) (w_r:Int) (w_n:List Int) (w_l:List E) (w_ck:Int) (w_ca:Int) (w_cb:Int) (w_cs:Int) (s:CS) (hC:(iE V).KP s p ⟨w_k,du,w_r,w_n,w_l,w_ck,w_ca,w_cb,w_cs⟩=true):aU [(112,nL TrR.Tr.U),(113,kK MgR.Mg.U),(114,wG DlI.Df.U),(97,rP (bK V))] Tryz.f72 [.one (.ptr 0 0),.one (.val (.int .i64 p)),.agg [.val (.int .i64 w_k),.val (.int .i64 du),.val (.int .i64 w_r),.sl none (.ints .i64 w_n),.sl none (.ah (.int .i64 (.int .i64 (.int .i64 (.int .i64 (.bool .nil))))) w_l),.val (.int .i64 w_ck),.val (.int .i64 w_ca),.val (.int .i64 w_cb),.val (.int .i64 w_cs)]] (uG s) ⟨(iE V).KP s p ⟨w_k,du,w_r,w_n,w_l,w_ck,w_ca,w_cb,w_cs⟩=true,.bJ [],(eN ((iE V).YX s p ⟨w_k,du,w_r,w_n,w_l,w_ck,w_ca,w_cb,w_cs⟩)),[.one (.ptr 0 0),Any,Any]⟩:=by
 refine @bY _ _ _ _ _ ?_
 intro b gv Z zq A hA L hL
 have hgo:=Te (show sQ V s p ⟨w_k,du,w_r,w_n,w_l,w_ck,w_ca,w_cb,w_cs⟩=true from hC)
 have hix:=Jb s.w p
 have hin:0≤cD s.w p→s.w.length≤1000→aN .add .i64 (cD s.w p) 1=cD s.w p+1:=fun h1 h2=>by rw [bp,wr _ (by omega) (by omega)]
 have he1:=fun h=>Ra (d:=s) (p:=p) (w:=⟨w_k,du,w_r,w_n,w_l,w_ck,w_ca,w_cb,w_cs⟩) h
 have he2:=fun h=>QU (d:=s) (p:=p) (w:=⟨w_k,du,w_r,w_n,w_l,w_ck,w_ca,w_cb,w_cs⟩) h
 have hfs:=(af.cons jY (af.cons ic (af.cons wX (af.cons (kL hb) af.nil rfl) rfl) rfl) rfl)
 generalize hF:(iE V)=F at hC hfs ⊢
 generalize hG0:ViR.Vs.U=G0 at hC hfs ⊢
 generalize hG1:KsC.Kc.U=G1 at hC hfs ⊢
 generalize hG2:MgR.Mg.U=G2 at hC hfs ⊢
 generalize hG3:WoR.Ws.U=G3 at hC hfs ⊢
 generalize hG4:TrR.Tr.U=G4 at hC hfs ⊢
 generalize hG5:DlI.Df.U=G5 at hC hfs ⊢
 generalize hG6:(bK V)=G6 at hC hfs ⊢
 generalize hG7:(eE V)=G7 at hC hfs ⊢
 repeat' (first|(refine ay zq ?_;try dsimp only)|refine ax zq ?_ (aa hL)|refine aw zq ?_|refine az ?_|refine av ?_|refine au ?_|refine aq ?_|refine ar rfl ?_|refine ai rfl ?_|refine aj rfl ?_|(refine Cd.mk ?_;cbv)|(refine aE.mk ?_;cbv)|(refine aJ.mk ?_;cbv)|exact trivial|refine And.intro ?_ ?_|refine bn fun _=>?_|refine bo fun _=>?_)
 all_goals first|(show L _ _ _;skip)|(clear hL hfs zq Z;subst hA hF hG0 hG1 hG2 hG3 hG4 hG5 hG6 hG7;simp only [iE,bK,MgR.Mg.U,TrR.Tr.U,DlI.Df.U,Ar.U] at * <;> grind [al,pG,nF,px,yE];done)
theorem ET (hb:aA Tryz.prog 33 (bH (bK V))):aA Tryz.prog 72 (Cg (iE V)):=by
 refine aG (af.cons jY (af.cons ic (af.cons wX (af.cons (kL hb) af.nil rfl) rfl) rfl) rfl) Tryz.func72 rfl rfl fun xs h p hp=>?_
 unfold Cg at hp
 split at hp
 ·split at hp
  ·rename_i e0
   cases hp
   have g0:=wZ e0
   subst g0
   exact⟨aB rfl,fun hC _=>@SI V hb _ _ _ _ _ _ _ _ _ _ _ hC⟩
  ·cases hp
 ·cases hp
noncomputable def yh (F:Kf):aZ:=fun xs h=>match xs with
 |[.one (.ptr 0 0),.one (.val (.int .i64 p)),.agg [.val (.int .i64 w_k),.val (.int .i64 du),.val (.int .i64 w_r),.sl none (.ints .i64 w_n),.sl none (.ah (.int .i64 (.int .i64 (.int .i64 (.int .i64 (.bool .nil))))) w_l),.val (.int .i64 w_ck),.val (.int .i64 w_ca),.val (.int .i64 w_cb),.val (.int .i64 w_cs)]]=>(match ZO h with
  |some s=>some ⟨F.Jw s p ⟨w_k,du,w_r,w_n,w_l,w_ck,w_ca,w_cb,w_cs⟩=true∧w_k=2,.bJ [],(eN (F.Wh s p ⟨w_k,du,w_r,w_n,w_l,w_ck,w_ca,w_cb,w_cs⟩)),[.one (.ptr 0 0),Any,Any]⟩
  |none=>none)
 |_=>none
theorem Nx (hb:aA Tryz.prog 33 (bH (bK V))) (p:Int) (w_k:Int) (du:Int) (w_r:Int) (w_n:List Int) (w_l:List E) (w_ck:Int) (w_ca:Int) (w_cb:Int) (w_cs:Int) (s:CS) (hC:(iE V).Jw s p ⟨w_k,du,w_r,w_n,w_l,w_ck,w_ca,w_cb,w_cs⟩=true∧w_k=2):aU [(68,ua KsC.Kc.U),(bG 68,fy),(72,Cg (iE V))] Tryz.f39 [.one (.ptr 0 0),.one (.val (.int .i64 p)),.agg [.val (.int .i64 w_k),.val (.int .i64 du),.val (.int .i64 w_r),.sl none (.ints .i64 w_n),.sl none (.ah (.int .i64 (.int .i64 (.int .i64 (.int .i64 (.bool .nil))))) w_l),.val (.int .i64 w_ck),.val (.int .i64 w_ca),.val (.int .i64 w_cb),.val (.int .i64 w_cs)]] (uG s) ⟨(iE V).Jw s p ⟨w_k,du,w_r,w_n,w_l,w_ck,w_ca,w_cb,w_cs⟩=true∧w_k=2,.bJ [],(eN ((iE V).Wh s p ⟨w_k,du,w_r,w_n,w_l,w_ck,w_ca,w_cb,w_cs⟩)),[.one (.ptr 0 0),Any,Any]⟩:=by
 refine @bY _ _ _ _ _ ?_
 intro b gv Z zq A hA L hL
 have hgo:=Tj (show oc V s p ⟨w_k,du,w_r,w_n,w_l,w_ck,w_ca,w_cb,w_cs⟩=true from hC.1)
 have hk2:=hC.2
 have hat:=lI s.ae p
 have hfs:=(af.keeps Eh ES (af.cons (ET hb) af.nil rfl))
 generalize hF:(iE V)=F at hC hfs ⊢
 generalize hG0:ViR.Vs.U=G0 at hC hfs ⊢
 generalize hG1:KsC.Kc.U=G1 at hC hfs ⊢
 generalize hG2:MgR.Mg.U=G2 at hC hfs ⊢
 generalize hG3:WoR.Ws.U=G3 at hC hfs ⊢
 generalize hG4:TrR.Tr.U=G4 at hC hfs ⊢
 generalize hG5:DlI.Df.U=G5 at hC hfs ⊢
 generalize hG6:(bK V)=G6 at hC hfs ⊢
 generalize hG7:(eE V)=G7 at hC hfs ⊢
 repeat' (first|(refine ay zq ?_;try dsimp only)|refine ax zq ?_ (aa hL)|refine aw zq ?_|refine az ?_|refine av ?_|refine au ?_|refine aq ?_|refine ar rfl ?_|refine ai rfl ?_|refine aj rfl ?_|(refine Cd.mk ?_;cbv)|(refine aE.mk ?_;cbv)|(refine aJ.mk ?_;cbv)|exact trivial|refine And.intro ?_ ?_|refine bn fun _=>?_|refine bo fun _=>?_)
 all_goals first|(show L _ _ _;skip)|(clear hL hfs zq Z;subst hA hF hG0 hG1 hG2 hG3 hG4 hG5 hG6 hG7;simp only [iE,bK,KsC.Kc.U,Ar.U,hN] at * <;> grind [al,pG,nF,px,yE];done)
theorem GW (hb:aA Tryz.prog 33 (bH (bK V))):aA Tryz.prog 39 (yh (iE V)):=by
 refine aG (af.keeps Eh ES (af.cons (ET hb) af.nil rfl)) Tryz.func39 rfl rfl fun xs h p hp=>?_
 unfold yh at hp
 split at hp
 ·split at hp
  ·rename_i e0
   cases hp
   have g0:=wZ e0
   subst g0
   exact⟨aB rfl,fun hC _=>@Nx V hb _ _ _ _ _ _ _ _ _ _ _ hC⟩
  ·cases hp
 ·cases hp
noncomputable def ew (F:Kf):aZ:=fun xs h=>match xs,h with
 |[.agg [.val (.int .i64 c_i),.val (.int .i64 _),.val (.int .i64 _),.val (.int .i64 _),.val (.int .i64 _),.sl none (.ah (.int .i64 (.int .i64 (.int .i64 (.int .i64 (.bool (.bool (.int .i64 .nil))))))) _),.sl none (.ints .i64 _),.sl none (.ints .i64 _),.sl none (.ah (.int .i64 (.int .i64 (.int .i64 (.int .i64 (.bool .nil))))) _),.val (.int .i64 _),.sl none (.ints .i64 _),.sl none (.ah (.int .i64 (.int .i64 (.int .i64 (.int .i64 (.bool .nil))))) _),.val (.int .i64 _),.val (.bool _)],.agg [.val (.int .i64 Po),.val (.int .i64 v_p),.val (.int .i64 v_w),.val (.int .i64 uS),.val (.int .i64 v_xk),.val (.int .i64 v_xe),.val (.int .i64 v_xr),.sl none (.ints .i64 v_xn),.sl none (.ah (.int .i64 (.int .i64 (.int .i64 (.int .i64 (.bool .nil))))) v_xl),.val (.int .i64 v_xck),.val (.int .i64 v_xca),.val (.int .i64 v_xcb),.val (.int .i64 v_xcs)]],[]=>some ⟨F.US ⟨v_xk,v_xe,v_xr,v_xn,v_xl,v_xck,v_xca,v_xcb,v_xcs⟩=true,.sa (I (F.nt c_i ⟨Po,v_p,v_w,uS,⟨v_xk,v_xe,v_xr,v_xn,v_xl,v_xck,v_xca,v_xcb,v_xcs⟩⟩)),[],[Any,Any]⟩
 |_,_=>none
theorem xC (c_i:Int) (c_ee:Int) (c_er:Int) (c_t:Int) (c_p:Int) (c_ties:List E) (c_w:List Int) (c_gn:List Int) (c_gl:List E) (c_ph:Int) (c_tn:List Int) (c_tl:List E) (c_l:Int) (c_o:Bool) (Po:Int) (v_p:Int) (v_w:Int) (uS:Int) (v_xk:Int) (v_xe:Int) (v_xr:Int) (v_xn:List Int) (v_xl:List E) (v_xck:Int) (v_xca:Int) (v_xcb:Int) (v_xcs:Int) (hC:(iE V).US ⟨v_xk,v_xe,v_xr,v_xn,v_xl,v_xck,v_xca,v_xcb,v_xcs⟩=true):aU [(32,fW ViR.Vs.U),(61,nS WoR.Ws.U)] Tryz.f35 [.agg [.val (.int .i64 c_i),.val (.int .i64 c_ee),.val (.int .i64 c_er),.val (.int .i64 c_t),.val (.int .i64 c_p),.sl none (.ah (.int .i64 (.int .i64 (.int .i64 (.int .i64 (.bool (.bool (.int .i64 .nil))))))) c_ties),.sl none (.ints .i64 c_w),.sl none (.ints .i64 c_gn),.sl none (.ah (.int .i64 (.int .i64 (.int .i64 (.int .i64 (.bool .nil))))) c_gl),.val (.int .i64 c_ph),.sl none (.ints .i64 c_tn),.sl none (.ah (.int .i64 (.int .i64 (.int .i64 (.int .i64 (.bool .nil))))) c_tl),.val (.int .i64 c_l),.val (.bool c_o)],.agg [.val (.int .i64 Po),.val (.int .i64 v_p),.val (.int .i64 v_w),.val (.int .i64 uS),.val (.int .i64 v_xk),.val (.int .i64 v_xe),.val (.int .i64 v_xr),.sl none (.ints .i64 v_xn),.sl none (.ah (.int .i64 (.int .i64 (.int .i64 (.int .i64 (.bool .nil))))) v_xl),.val (.int .i64 v_xck),.val (.int .i64 v_xca),.val (.int .i64 v_xcb),.val (.int .i64 v_xcs)]] [] ⟨(iE V).US ⟨v_xk,v_xe,v_xr,v_xn,v_xl,v_xck,v_xca,v_xcb,v_xcs⟩=true,.sa (I ((iE V).nt c_i ⟨Po,v_p,v_w,uS,⟨v_xk,v_xe,v_xr,v_xn,v_xl,v_xck,v_xca,v_xcb,v_xcs⟩⟩)),[],[Any,Any]⟩:=by
 refine @bY _ _ _ _ _ ?_
 intro b gv Z zq A hA L hL
 have hk:v_xn.length≤1000∧v_xl.length≤1000:=of_decide_eq_true (show decide _=true from hC)
 have hfs:=(af.cons cL (af.cons pz af.nil rfl) rfl)
 generalize hF:(iE V)=F at hC hfs ⊢
 generalize hG0:ViR.Vs.U=G0 at hC hfs ⊢
 generalize hG1:KsC.Kc.U=G1 at hC hfs ⊢
 generalize hG2:MgR.Mg.U=G2 at hC hfs ⊢
 generalize hG3:WoR.Ws.U=G3 at hC hfs ⊢
 generalize hG4:TrR.Tr.U=G4 at hC hfs ⊢
 generalize hG5:DlI.Df.U=G5 at hC hfs ⊢
 generalize hG6:(bK V)=G6 at hC hfs ⊢
 generalize hG7:(eE V)=G7 at hC hfs ⊢
 repeat' (first|(refine ay zq ?_;try dsimp only)|refine ax zq ?_ (aa hL)|refine aw zq ?_|refine az ?_|refine av ?_|refine au ?_|refine aq ?_|refine ar rfl ?_|refine ai rfl ?_|refine aj rfl ?_|(refine Cd.mk ?_;cbv)|(refine aE.mk ?_;cbv)|(refine aJ.mk ?_;cbv)|exact trivial|refine And.intro ?_ ?_|refine bn fun _=>?_|refine bo fun _=>?_)
 all_goals first|(show L _ _ _;skip)|(clear hL hfs zq Z;subst hA hF hG0 hG1 hG2 hG3 hG4 hG5 hG6 hG7;simp only [iE,ViR.Vs.U,WoR.Ws.U,Ar.U] at * <;> grind [al,pG,nF,px,yE,dD,fH,EZ,WoR.okS,WoR.er];done)
theorem eC:aA Tryz.prog 35 (ew (iE V)):=by
 refine aG (af.cons cL (af.cons pz af.nil rfl) rfl) Tryz.func35 rfl rfl fun xs h p hp=>?_
 unfold ew at hp
 split at hp
 ·cases hp
  exact⟨aB rfl,fun hC _=>@xC V _ _ _ _ _ _ _ _ _ _ _ _ _ _ _ _ _ _ _ _ _ _ _ _ _ _ _ hC⟩
 ·cases hp
noncomputable def KX (F:Kf):aZ:=fun xs h=>match xs,h with
 |[.agg [.val (.int .i64 c_i),.val (.int .i64 c_ee),.val (.int .i64 c_er),.val (.int .i64 c_t),.val (.int .i64 c_p),.sl none (.ah (.int .i64 (.int .i64 (.int .i64 (.int .i64 (.bool (.bool (.int .i64 .nil))))))) c_ties),.sl none (.ints .i64 c_w),.sl none (.ints .i64 c_gn),.sl none (.ah (.int .i64 (.int .i64 (.int .i64 (.int .i64 (.bool .nil))))) c_gl),.val (.int .i64 c_ph),.sl none (.ints .i64 c_tn),.sl none (.ah (.int .i64 (.int .i64 (.int .i64 (.int .i64 (.bool .nil))))) c_tl),.val (.int .i64 c_l),.val (.bool c_o)]],[]=>some ⟨F.ve c_ties c_w c_gn c_gl c_tn c_tl=true,.sa (.agg [.val (.int .i64 c_i),.val (.int .i64 c_ee),.val (.int .i64 c_er),.val (.int .i64 c_t),.val (.int .i64 c_p),.own 0,.sl none (.ints .i64 c_w),.sl none (.ints .i64 c_gn),.sl none (.ah (.int .i64 (.int .i64 (.int .i64 (.int .i64 (.bool .nil))))) c_gl),.val (.int .i64 c_ph),.sl none (.ints .i64 c_tn),.sl none (.ah (.int .i64 (.int .i64 (.int .i64 (.int .i64 (.bool .nil))))) c_tl),.val (.int .i64 c_l),.val (.bool c_o)]),[(0,.row 58 (.ah (.int .i64 (.int .i64 (.int .i64 (.int .i64 (.bool (.bool (.int .i64 .nil))))))) c_ties))],[Any]⟩
 |_,_=>none
theorem WL (c_i:Int) (c_ee:Int) (c_er:Int) (c_t:Int) (c_p:Int) (c_ties:List E) (c_w:List Int) (c_gn:List Int) (c_gl:List E) (c_ph:Int) (c_tn:List Int) (c_tl:List E) (c_l:Int) (c_o:Bool) (hC:(iE V).ve c_ties c_w c_gn c_gl c_tn c_tl=true):aU [(62,EI KsC.Kc.U),(63,Dq KsC.Kc.U),(64,Fl KsC.Kc.U)] Tryz.f36 [.agg [.val (.int .i64 c_i),.val (.int .i64 c_ee),.val (.int .i64 c_er),.val (.int .i64 c_t),.val (.int .i64 c_p),.sl none (.ah (.int .i64 (.int .i64 (.int .i64 (.int .i64 (.bool (.bool (.int .i64 .nil))))))) c_ties),.sl none (.ints .i64 c_w),.sl none (.ints .i64 c_gn),.sl none (.ah (.int .i64 (.int .i64 (.int .i64 (.int .i64 (.bool .nil))))) c_gl),.val (.int .i64 c_ph),.sl none (.ints .i64 c_tn),.sl none (.ah (.int .i64 (.int .i64 (.int .i64 (.int .i64 (.bool .nil))))) c_tl),.val (.int .i64 c_l),.val (.bool c_o)]] [] ⟨(iE V).ve c_ties c_w c_gn c_gl c_tn c_tl=true,.sa (.agg [.val (.int .i64 c_i),.val (.int .i64 c_ee),.val (.int .i64 c_er),.val (.int .i64 c_t),.val (.int .i64 c_p),.own 0,.sl none (.ints .i64 c_w),.sl none (.ints .i64 c_gn),.sl none (.ah (.int .i64 (.int .i64 (.int .i64 (.int .i64 (.bool .nil))))) c_gl),.val (.int .i64 c_ph),.sl none (.ints .i64 c_tn),.sl none (.ah (.int .i64 (.int .i64 (.int .i64 (.int .i64 (.bool .nil))))) c_tl),.val (.int .i64 c_l),.val (.bool c_o)]),[(0,.row 58 (.ah (.int .i64 (.int .i64 (.int .i64 (.int .i64 (.bool (.bool (.int .i64 .nil))))))) c_ties))],[Any]⟩:=by
 refine @bY _ _ _ _ _ ?_
 intro b gv Z zq A hA L hL
 have hk:c_ties.length≤1000∧c_w.length≤1000∧c_gn.length≤1000∧c_gl.length≤1000∧c_tn.length≤1000∧c_tl.length≤1000:=of_decide_eq_true (show decide _=true from hC)
 have hfs:=(af.cons xL (af.cons wv (af.cons pO af.nil rfl) rfl) rfl)
 generalize hF:(iE V)=F at hC hfs ⊢
 generalize hG0:ViR.Vs.U=G0 at hC hfs ⊢
 generalize hG1:KsC.Kc.U=G1 at hC hfs ⊢
 generalize hG2:MgR.Mg.U=G2 at hC hfs ⊢
 generalize hG3:WoR.Ws.U=G3 at hC hfs ⊢
 generalize hG4:TrR.Tr.U=G4 at hC hfs ⊢
 generalize hG5:DlI.Df.U=G5 at hC hfs ⊢
 generalize hG6:(bK V)=G6 at hC hfs ⊢
 generalize hG7:(eE V)=G7 at hC hfs ⊢
 repeat' (first|(refine ay zq ?_;try dsimp only)|refine ax zq ?_ (aa hL)|refine aw zq ?_|refine az ?_|refine av ?_|refine au ?_|refine aq ?_|refine ar rfl ?_|refine ai rfl ?_|refine aj rfl ?_|(refine Cd.mk ?_;cbv)|(refine aE.mk ?_;cbv)|(refine aJ.mk ?_;cbv)|exact trivial|refine And.intro ?_ ?_|refine bn fun _=>?_|refine bo fun _=>?_)
 all_goals first|(show L _ _ _;skip)|(clear hL hfs zq Z;subst hA hF hG0 hG1 hG2 hG3 hG4 hG5 hG6 hG7;simp only [iE,KsC.Kc.U] at * <;> grind [al,pG,nF,px,yE];done)
theorem Lq:aA Tryz.prog 36 (KX (iE V)):=by
 refine aG (af.cons xL (af.cons wv (af.cons pO af.nil rfl) rfl) rfl) Tryz.func36 rfl rfl fun xs h p hp=>?_
 unfold KX at hp
 split at hp
 ·cases hp
  exact⟨aB rfl,fun hC _=>@WL V _ _ _ _ _ _ _ _ _ _ _ _ _ _ hC⟩
 ·cases hp
noncomputable def Ht (F:Kf):aZ:=fun xs h=>match xs,h with
 |[.agg [.val (.int .i64 c_i),.val (.int .i64 c_ee),.val (.int .i64 c_er),.val (.int .i64 c_t),.val (.int .i64 c_p),.sl none (.ah (.int .i64 (.int .i64 (.int .i64 (.int .i64 (.bool (.bool (.int .i64 .nil))))))) c_ties),.sl none (.ints .i64 c_w),.sl none (.ints .i64 c_gn),.sl none (.ah (.int .i64 (.int .i64 (.int .i64 (.int .i64 (.bool .nil))))) c_gl),.val (.int .i64 c_ph),.sl none (.ints .i64 c_tn),.sl none (.ah (.int .i64 (.int .i64 (.int .i64 (.int .i64 (.bool .nil))))) c_tl),.val (.int .i64 c_l),.val (.bool c_o)]],[]=>some ⟨F.ve c_ties c_w c_gn c_gl c_tn c_tl=true,.sa (.agg [.val (.int .i64 c_i),.val (.int .i64 c_ee),.val (.int .i64 c_er),.val (.int .i64 c_t),.val (.int .i64 c_p),.own 0,.own 1,.sl none (.ints .i64 c_gn),.sl none (.ah (.int .i64 (.int .i64 (.int .i64 (.int .i64 (.bool .nil))))) c_gl),.val (.int .i64 c_ph),.sl none (.ints .i64 c_tn),.sl none (.ah (.int .i64 (.int .i64 (.int .i64 (.int .i64 (.bool .nil))))) c_tl),.val (.int .i64 c_l),.val (.bool c_o)]),[(0,.row 58 (.ah (.int .i64 (.int .i64 (.int .i64 (.int .i64 (.bool (.bool (.int .i64 .nil))))))) c_ties)),(1,.row 3 (.ints .i64 c_w))],[Any]⟩
 |_,_=>none
theorem Xe (c_i:Int) (c_ee:Int) (c_er:Int) (c_t:Int) (c_p:Int) (c_ties:List E) (c_w:List Int) (c_gn:List Int) (c_gl:List E) (c_ph:Int) (c_tn:List Int) (c_tl:List E) (c_l:Int) (c_o:Bool) (hC:(iE V).ve c_ties c_w c_gn c_gl c_tn c_tl=true):aU [(62,EI KsC.Kc.U),(63,LA KsC.Kc.U),(64,Fl KsC.Kc.U)] Tryz.f36 [.agg [.val (.int .i64 c_i),.val (.int .i64 c_ee),.val (.int .i64 c_er),.val (.int .i64 c_t),.val (.int .i64 c_p),.sl none (.ah (.int .i64 (.int .i64 (.int .i64 (.int .i64 (.bool (.bool (.int .i64 .nil))))))) c_ties),.sl none (.ints .i64 c_w),.sl none (.ints .i64 c_gn),.sl none (.ah (.int .i64 (.int .i64 (.int .i64 (.int .i64 (.bool .nil))))) c_gl),.val (.int .i64 c_ph),.sl none (.ints .i64 c_tn),.sl none (.ah (.int .i64 (.int .i64 (.int .i64 (.int .i64 (.bool .nil))))) c_tl),.val (.int .i64 c_l),.val (.bool c_o)]] [] ⟨(iE V).ve c_ties c_w c_gn c_gl c_tn c_tl=true,.sa (.agg [.val (.int .i64 c_i),.val (.int .i64 c_ee),.val (.int .i64 c_er),.val (.int .i64 c_t),.val (.int .i64 c_p),.own 0,.own 1,.sl none (.ints .i64 c_gn),.sl none (.ah (.int .i64 (.int .i64 (.int .i64 (.int .i64 (.bool .nil))))) c_gl),.val (.int .i64 c_ph),.sl none (.ints .i64 c_tn),.sl none (.ah (.int .i64 (.int .i64 (.int .i64 (.int .i64 (.bool .nil))))) c_tl),.val (.int .i64 c_l),.val (.bool c_o)]),[(0,.row 58 (.ah (.int .i64 (.int .i64 (.int .i64 (.int .i64 (.bool (.bool (.int .i64 .nil))))))) c_ties)),(1,.row 3 (.ints .i64 c_w))],[Any]⟩:=by
 refine @bY _ _ _ _ _ ?_
 intro b gv Z zq A hA L hL
 have hk:c_ties.length≤1000∧c_w.length≤1000∧c_gn.length≤1000∧c_gl.length≤1000∧c_tn.length≤1000∧c_tl.length≤1000:=of_decide_eq_true (show decide _=true from hC)
 have hfs:=(af.cons xL (af.cons Ky (af.cons pO af.nil rfl) rfl) rfl)
 generalize hF:(iE V)=F at hC hfs ⊢
 generalize hG0:ViR.Vs.U=G0 at hC hfs ⊢
 generalize hG1:KsC.Kc.U=G1 at hC hfs ⊢
 generalize hG2:MgR.Mg.U=G2 at hC hfs ⊢
 generalize hG3:WoR.Ws.U=G3 at hC hfs ⊢
 generalize hG4:TrR.Tr.U=G4 at hC hfs ⊢
 generalize hG5:DlI.Df.U=G5 at hC hfs ⊢
 generalize hG6:(bK V)=G6 at hC hfs ⊢
 generalize hG7:(eE V)=G7 at hC hfs ⊢
 repeat' (first|(refine ay zq ?_;try dsimp only)|refine ax zq ?_ (aa hL)|refine aw zq ?_|refine az ?_|refine av ?_|refine au ?_|refine aq ?_|refine ar rfl ?_|refine ai rfl ?_|refine aj rfl ?_|(refine Cd.mk ?_;cbv)|(refine aE.mk ?_;cbv)|(refine aJ.mk ?_;cbv)|exact trivial|refine And.intro ?_ ?_|refine bn fun _=>?_|refine bo fun _=>?_)
 all_goals first|(show L _ _ _;skip)|(clear hL hfs zq Z;subst hA hF hG0 hG1 hG2 hG3 hG4 hG5 hG6 hG7;simp only [iE,KsC.Kc.U] at * <;> grind [al,pG,nF,px,yE];done)
theorem Lg:aA Tryz.prog 36 (Ht (iE V)):=by
 refine aG (af.cons xL (af.cons Ky (af.cons pO af.nil rfl) rfl) rfl) Tryz.func36 rfl rfl fun xs h p hp=>?_
 unfold Ht at hp
 split at hp
 ·cases hp
  exact⟨aB rfl,fun hC _=>@Xe V _ _ _ _ _ _ _ _ _ _ _ _ _ _ hC⟩
 ·cases hp
end Go.Proofs.YtelhldgdnlppfaaGreat.KsF
