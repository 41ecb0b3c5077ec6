/-
  a core's steps,by the document. No condition but size.
-/
import Derived.Test.YtelhldgdnlppfaaGreatVdKsC
set_option maxHeartbeats 4000000
set_option cbv.maxSteps 4000000
set_option maxRecDepth 100000
namespace Go.Proofs.YtelhldgdnlppfaaGreat.KrS
open Go Ry ViR VoR KsS KsC
def zp (d:CS):List SC:=[.val (.int .i64 d.i),.val (.int .i64 d.ee),.val (.int .i64 d.er),.val (.int .i64 d.t),.val (.int .i64 d.p),.sl none (.ah (.int .i64 (.int .i64 (.int .i64 (.int .i64 (.bool (.bool (.int .i64 .nil))))))) d.ae),.sl none (.ints .i64 d.w),.sl none (.ints .i64 d.gn),.sl none (.ah (.int .i64 (.int .i64 (.int .i64 (.int .i64 (.bool .nil))))) d.gl),.val (.int .i64 d.ph),.sl none (.ints .i64 d.tn),.sl none (.ah (.int .i64 (.int .i64 (.int .i64 (.int .i64 (.bool .nil))))) d.tl),.val (.int .i64 d.l),.val (.bool d.o),.sl none (.ah (.int .i64 (.int .i64 (.int .i64 (.int .i64 (.ints .i64 (.ah (.int .i64 (.int .i64 (.int .i64 (.int .i64 (.bool .nil))))) (.int .i64 (.int .i64 (.int .i64 (.int .i64 .nil)))))))))) d.q)]
def je (d:CS):List SC:=[.val (.int .i64 d.i),.val (.int .i64 d.ee),.val (.int .i64 d.er),.val (.int .i64 d.t),.val (.int .i64 d.p),.sl none (.ah (.int .i64 (.int .i64 (.int .i64 (.int .i64 (.bool (.bool (.int .i64 .nil))))))) d.ae),.sl none (.ints .i64 d.w),.sl none (.ints .i64 d.gn),.sl none (.ah (.int .i64 (.int .i64 (.int .i64 (.int .i64 (.bool .nil))))) d.gl),.val (.int .i64 d.ph),.sl none (.ints .i64 d.tn),.sl none (.ah (.int .i64 (.int .i64 (.int .i64 (.int .i64 (.bool .nil))))) d.tl),.val (.int .i64 d.l),.val (.bool d.o)]
def cw9 (w:WK):List SC:=[.val (.int .i64 w.k),.val (.int .i64 w.e),.val (.int .i64 w.r),.sl none (.ints .i64 w.n),.sl none (.ah (.int .i64 (.int .i64 (.int .i64 (.int .i64 (.bool .nil))))) w.l),.val (.int .i64 w.ck),.val (.int .i64 w.ca),.val (.int .i64 w.cb),.val (.int .i64 w.cs)]
def PI:List SC→Option CS
 |[.val (.int .i64 i),.val (.int .i64 ee),.val (.int .i64 er),.val (.int .i64 t),.val (.int .i64 p),.sl none (.ah (.int .i64 (.int .i64 (.int .i64 (.int .i64 (.bool (.bool (.int .i64 .nil))))))) ae),.sl none (.ints .i64 w),.sl none (.ints .i64 gn),.sl none (.ah (.int .i64 (.int .i64 (.int .i64 (.int .i64 (.bool .nil))))) gl),.val (.int .i64 ph),.sl none (.ints .i64 tn),.sl none (.ah (.int .i64 (.int .i64 (.int .i64 (.int .i64 (.bool .nil))))) tl),.val (.int .i64 l),.val (.bool o),.sl none (.ah (.int .i64 (.int .i64 (.int .i64 (.int .i64 (.ints .i64 (.ah (.int .i64 (.int .i64 (.int .i64 (.int .i64 (.bool .nil))))) (.int .i64 (.int .i64 (.int .i64 (.int .i64 .nil)))))))))) q)]=>some ⟨i,ee,er,t,p,ae,w,gn,gl,ph,tn,tl,l,o,q⟩
 |_=>none
def pJ:List SC→Option CS
 |[.val (.int .i64 i),.val (.int .i64 ee),.val (.int .i64 er),.val (.int .i64 t),.val (.int .i64 p),.sl none (.ah (.int .i64 (.int .i64 (.int .i64 (.int .i64 (.bool (.bool (.int .i64 .nil))))))) ae),.sl none (.ints .i64 w),.sl none (.ints .i64 gn),.sl none (.ah (.int .i64 (.int .i64 (.int .i64 (.int .i64 (.bool .nil))))) gl),.val (.int .i64 ph),.sl none (.ints .i64 tn),.sl none (.ah (.int .i64 (.int .i64 (.int .i64 (.int .i64 (.bool .nil))))) tl),.val (.int .i64 l),.val (.bool o)]=>some ⟨i,ee,er,t,p,ae,w,gn,gl,ph,tn,tl,l,o,[]⟩
 |_=>none
def wk9:List SC→Option WK
 |[.val (.int .i64 k),.val (.int .i64 e),.val (.int .i64 r),.sl none (.ints .i64 n),.sl none (.ah (.int .i64 (.int .i64 (.int .i64 (.int .i64 (.bool .nil))))) l),.val (.int .i64 ck),.val (.int .i64 ca),.val (.int .i64 cb),.val (.int .i64 cs)]=>some ⟨k,e,r,n,l,ck,ca,cb,cs⟩
 |_=>none
theorem PA {l:List SC} {x:CS} (h:PI l=some x):l=zp x:=by
 unfold PI at h
 split at h
 ·cases h
  rfl
 ·cases h
theorem gM {l:List SC} {x:CS} (h:pJ l=some x):l=je x:=by
 unfold pJ at h
 split at h
 ·cases h
  rfl
 ·cases h
theorem Ss {l:List SC} {x:WK} (h:wk9 l=some x):l=cw9 x:=by
 unfold wk9 at h
 split at h
 ·cases h
  rfl
 ·cases h
def Jj (d:CS) (p:Int) (w:List Int):CS:={ d with q:=d.q ++ w.map fun k=>dI p (AR k) }
def Yv (d:CS) (a m:Int) (t b:Bool) (o:Int):CS:={ d with ae:=d.ae.set a.toNat [.int (ri (tie d a) 0),.int (ri (tie d a) 1),.int (ri (tie d a) 2),.int m,.bool t,.bool b,.int o] }
structure XO where
 i:Int
 o:List E
structure Kr where
 Rx:CS→Int→WK→CS
 LD:CS→Int→List Int→CS
 aaT:CS→Int→Int→Bool→Bool→Int→CS
 YD:List E→Int→Int
 aaR:Int→List E→List E
 abe:List E→Int→List Int
 r_q:List E→Bool
 Sk:List E→List Int→Bool
 r_l:List E→Bool
 aau:List E→Int→Bool
def Kr.U:Kr:=⟨kY,Jj,Yv,dn,jA,cw,fun q=>decide (q.length≤100000),fun q w=>decide (q.length≤99000∧w.length≤1000),fun l=>decide (l.length≤1000),fun l a=>decide (0≤a∧a < l.length∧l.length≤1000)⟩
noncomputable def Ce (F:Kr):aZ:=fun xs h=>match xs,h with
 |[.agg s_,.one (.val (.int .i64 to)),.agg w_],[]=>(match PI s_,wk9 w_ with
  |some s,some w=>some ⟨F.r_q s.q=true,.sa (.agg (zp (F.Rx s to w))),[],[Any,Any,Any]⟩
  |_,_=>none)
 |_,_=>none
theorem TT (s:CS) (to:Int) (w:WK) (hC:Kr.U.r_q s.q=true):aU [] Tryz.f99 [.agg (zp s),.one (.val (.int .i64 to)),.agg (cw9 w)] [] ⟨Kr.U.r_q s.q=true,.sa (.agg (zp (Kr.U.Rx s to w))),[],[Any,Any,Any]⟩:=by
 intro b gv
 have hk:s.q.length≤100000:=of_decide_eq_true (show decide _=true from hC)
 generalize hF:Kr.U=F at hC ⊢
 generalize hG0:KsC.Kc.U=G0 at hC ⊢
 generalize hA:Ar.U=A
 generalize hL:Lp _ _ _=L
 obtain⟨Z,zq⟩:=aP
 refine @aD _ _ _ _ _ _ _ (aa hL) _ _ zq rfl ?_
 repeat' (first|(refine ay zq ?_;try dsimp only)|refine ax zq ?_ (aa hL)|refine aw zq ?_|refine az ?_|refine av ?_|refine au ?_|refine aq ?_|refine ar rfl ?_|refine ai rfl ?_|refine aj rfl ?_|(refine Cd.mk ?_;cbv)|(refine aE.mk ?_;cbv)|(refine aJ.mk ?_;cbv)|exact trivial|refine And.intro ?_ ?_|refine bn fun _=>?_|refine bo fun _=>?_)
 all_goals first|(show L _ _ _;skip)|(clear hL zq Z;subst hA hF hG0;simp only [Kr.U,Ar.U,List.nil_append] at * <;> (try simp only [kY,dI] at *) <;> grind [al];done)
theorem Pw:aA Tryz.prog 99 (Ce Kr.U):=by
 refine aG af.nil Tryz.func99 rfl rfl fun xs h p hp=>?_
 unfold Ce at hp
 split at hp
 ·split at hp
  ·rename_i e0 e1
   cases hp
   have g0:=PA e0
   have g1:=Ss e1
   subst g0 g1
   exact⟨aB rfl,fun hC _=>@TT _ _ _ hC⟩
  ·cases hp
 ·cases hp
noncomputable def gN (F:Kr):aZ:=fun xs h=>match xs,h with
 |[.agg s_,.one (.val (.int .i64 to)),.agg [.sl none (.ints .i64 uj),.val (.bool _),.val (.bool _),.val (.bool _)]],[]=>(match PI s_ with
  |some s=>some ⟨F.Sk s.q uj=true,.sa (.agg (zp (F.LD s to uj))),[],[Any,Any,Any]⟩
  |_=>none)
 |_,_=>none
theorem QR (s:CS) (to:Int) (uj:List Int) (t_b:Bool) (t_p:Bool) (t_f:Bool) (hC:Kr.U.Sk s.q uj=true):aU [(99,sC [[none,none,none,none,none,some (.ah (.int .i64 (.int .i64 (.int .i64 (.int .i64 (.bool (.bool (.int .i64 .nil))))))) []),some (.ints .i64 []),some (.ints .i64 []),some (.ah (.int .i64 (.int .i64 (.int .i64 (.int .i64 (.bool .nil))))) []),none,some (.ints .i64 []),some (.ah (.int .i64 (.int .i64 (.int .i64 (.int .i64 (.bool .nil))))) []),none,none,some (.ah (.int .i64 (.int .i64 (.int .i64 (.int .i64 (.ints .i64 (.ah (.int .i64 (.int .i64 (.int .i64 (.int .i64 (.bool .nil))))) (.int .i64 (.int .i64 (.int .i64 (.int .i64 .nil)))))))))) [])],[none],[none,none,none,some (.ints .i64 []),some (.ah (.int .i64 (.int .i64 (.int .i64 (.int .i64 (.bool .nil))))) []),none,none,none,none]] (Ce Kr.U))] Tryz.f88 [.agg (zp s),.one (.val (.int .i64 to)),.agg [.sl none (.ints .i64 uj),.val (.bool t_b),.val (.bool t_p),.val (.bool t_f)]] [] ⟨Kr.U.Sk s.q uj=true,.sa (.agg (zp (Kr.U.LD s to uj))),[],[Any,Any,Any]⟩:=by
 intro b gv
 have hk:s.q.length≤99000∧uj.length≤1000:=of_decide_eq_true (show decide _=true from hC)
 have hfs:=(af.cons (cu [[none,none,none,none,none,some (.ah (.int .i64 (.int .i64 (.int .i64 (.int .i64 (.bool (.bool (.int .i64 .nil))))))) []),some (.ints .i64 []),some (.ints .i64 []),some (.ah (.int .i64 (.int .i64 (.int .i64 (.int .i64 (.bool .nil))))) []),none,some (.ints .i64 []),some (.ah (.int .i64 (.int .i64 (.int .i64 (.int .i64 (.bool .nil))))) []),none,none,some (.ah (.int .i64 (.int .i64 (.int .i64 (.int .i64 (.ints .i64 (.ah (.int .i64 (.int .i64 (.int .i64 (.int .i64 (.bool .nil))))) (.int .i64 (.int .i64 (.int .i64 (.int .i64 .nil)))))))))) [])],[none],[none,none,none,some (.ints .i64 []),some (.ah (.int .i64 (.int .i64 (.int .i64 (.int .i64 (.bool .nil))))) []),none,none,none,none]] Pw) af.nil rfl)
 generalize hF:Kr.U=F at hC hfs ⊢
 generalize hG0:KsC.Kc.U=G0 at hC hfs ⊢
 generalize hA:Ar.U=A
 generalize hL:Lp _ _ _=L
 obtain⟨Z,zq⟩:=aP
 refine @aD _ _ _ _ _ _ _ (aa hL) _ _ zq rfl ?_
 repeat' (first|(refine ay zq ?_;try dsimp only)|refine ax zq ?_ (aa hL)|refine aw zq ?_|refine az ?_|refine av ?_|refine au ?_|refine aq ?_|refine ar rfl ?_|refine ai rfl ?_|refine aj rfl ?_|(refine Cd.mk ?_;cbv)|(refine aE.mk ?_;cbv)|(refine aJ.mk ?_;cbv)|exact trivial|refine And.intro ?_ ?_|refine bn fun _=>?_|refine bo fun _=>?_)
 subst hL
 refine aX (br hfs) (PT s.q to uj) (fun y=>cg Tryz.f88.ntmps [(1,.val (.int .i64 to)),(3,.ptr 1 0),(5,.ptr 2 0),(6,.ptr 3 0),(7,.val (.int .i64 y.i))] [(1,.cells 77 [.val (.int .i64 s.i),.val (.int .i64 s.ee),.val (.int .i64 s.er),.val (.int .i64 s.t),.val (.int .i64 s.p),.sl none (.ah (.int .i64 (.int .i64 (.int .i64 (.int .i64 (.bool (.bool (.int .i64 .nil))))))) s.ae),.sl none (.ints .i64 s.w),.sl none (.ints .i64 s.gn),.sl none (.ah (.int .i64 (.int .i64 (.int .i64 (.int .i64 (.bool .nil))))) s.gl),.val (.int .i64 s.ph),.sl none (.ints .i64 s.tn),.sl none (.ah (.int .i64 (.int .i64 (.int .i64 (.int .i64 (.bool .nil))))) s.tl),.val (.int .i64 s.l),.val (.bool s.o),.sl none (.ah (.int .i64 (.int .i64 (.int .i64 (.int .i64 (.ints .i64 (.ah (.int .i64 (.int .i64 (.int .i64 (.int .i64 (.bool .nil))))) (.int .i64 (.int .i64 (.int .i64 (.int .i64 .nil)))))))))) y.q)]),(2,.cells 125 [.sl none (.ints .i64 uj),.val (.bool t_b),.val (.bool t_p),.val (.bool t_f)]),(3,.cells 77 [.any,.any,.any,.any,.any,.any,.any,.any,.any,.any,.any,.any,.any,.any,.any])] [Any,Any,Any]) (GF uj) (Qk 7 1) ⟨0,s.q⟩ ?_ ?_ ?_
 ·exact nR _ _ _
 ·cbv
  repeat' (first|exact trivial|exact rfl|refine And.intro ?_ ?_)
 rintro⟨i,q⟩ hq O hO
 have hst:=fun h=>ou hk.2 hk.1 hq h
 have hen:=fun h=>sJ hq h
 have q0:=hq.1
 have q1:=hq.2.1
 dsimp only at q0 q1
 subst hA
 generalize hA:Ar.U=A
 generalize hL:Lp _ _ _=L
 refine aO zq ?_
 repeat' (first|(refine ay zq ?_;try dsimp only)|refine ax zq ?_ (aa hL)|refine aw zq ?_|refine az ?_|refine av ?_|refine au ?_|refine aq ?_|refine ar rfl ?_|refine ai rfl ?_|refine aj rfl ?_|(refine Cd.mk ?_;cbv)|(refine aE.mk ?_;cbv)|(refine aJ.mk ?_;cbv)|exact trivial|refine And.intro ?_ ?_|refine bn fun _=>?_|refine bo fun _=>?_)
 all_goals first|(show L _ _ _;skip)|(clear hL hfs zq Z hq;subst hA hF hG0 hO;simp only [Kr.U,Ar.U] at * <;> (try simp only [kY,Jj,dI,AR,decide_eq_true_eq] at *) <;> grind [al];done)
noncomputable def sZ (F:Kr):aZ:=fun xs h=>match xs,h with
 |[.agg c_,.one (.val (.int .i64 p))],[]=>(match pJ c_ with
  |some c=>some ⟨F.r_l c.ae=true,.sa (I (F.YD c.ae p)),[],[Any,Any]⟩
  |_=>none)
 |_,_=>none
theorem aaK (c:CS) (p:Int) (hC:Kr.U.r_l c.ae=true):aU [] Tryz.f21 [.agg (je c),.one (.val (.int .i64 p))] [] ⟨Kr.U.r_l c.ae=true,.sa (I (Kr.U.YD c.ae p)),[],[Any,Any]⟩:=by
 intro b gv
 have hk:c.ae.length≤1000:=of_decide_eq_true (show decide (c.ae.length≤1000)=true from hC)
 have hk6:c.ae.length≤1000000:=by omega
 generalize hF:Kr.U=F at hC ⊢
 generalize hG0:KsC.Kc.U=G0 at hC ⊢
 generalize hA:Ar.U=A
 generalize hL:Lp _ _ _=L
 obtain⟨Z,zq⟩:=aP
 refine @aD _ _ _ _ _ _ _ (aa hL) _ _ zq rfl ?_
 repeat' (first|(refine ay zq ?_;try dsimp only)|refine ax zq ?_ (aa hL)|refine aw zq ?_|refine az ?_|refine av ?_|refine au ?_|refine aq ?_|refine ar rfl ?_|refine ai rfl ?_|refine aj rfl ?_|(refine Cd.mk ?_;cbv)|(refine aE.mk ?_;cbv)|(refine aJ.mk ?_;cbv)|exact trivial|refine And.intro ?_ ?_|refine bn fun _=>?_|refine bo fun _=>?_)
 subst hL
 refine aX (br af.nil) (VD c.ae p) (fun y=>cg Tryz.f21.ntmps [(1,.val (.int .i64 p)),(2,.ptr 1 0),(5,.val (.int .i64 y.i))] [(1,.cells 31 [.val (.int .i64 c.i),.val (.int .i64 c.ee),.val (.int .i64 c.er),.val (.int .i64 c.t),.val (.int .i64 c.p),.sl none (.ah (.int .i64 (.int .i64 (.int .i64 (.int .i64 (.bool (.bool (.int .i64 .nil))))))) c.ae),.sl none (.ints .i64 c.w),.sl none (.ints .i64 c.gn),.sl none (.ah (.int .i64 (.int .i64 (.int .i64 (.int .i64 (.bool .nil))))) c.gl),.val (.int .i64 c.ph),.sl none (.ints .i64 c.tn),.sl none (.ah (.int .i64 (.int .i64 (.int .i64 (.int .i64 (.bool .nil))))) c.tl),.val (.int .i64 c.l),.val (.bool c.o)])] [Any,Any]) (pA c.ae.length) (Zy 5) ⟨0⟩ ?_ ?_ ?_
 ·exact Dm _ _
 ·cbv
  repeat' (first|exact trivial|exact rfl|refine And.intro ?_ ?_)
 rintro⟨i⟩ hq O hO
 have hst:=fun h=>DC hk6 hq h
 have hen:=fun h=>Js hq h
 have q0:=hq.1
 have q1:=hq.2.1
 dsimp only at q0 q1
 subst hA
 generalize hA:Ar.U=A
 generalize hL:Lp _ _ _=L
 refine aO zq ?_
 repeat' (first|(refine ay zq ?_;try dsimp only)|refine ax zq ?_ (aa hL)|refine aw zq ?_|refine az ?_|refine av ?_|refine au ?_|refine aq ?_|refine ar rfl ?_|refine ai rfl ?_|refine aj rfl ?_|(refine Cd.mk ?_;cbv)|(refine aE.mk ?_;cbv)|(refine aJ.mk ?_;cbv)|exact trivial|refine And.intro ?_ ?_|refine bn fun _=>?_|refine bo fun _=>?_)
 all_goals first|(show L _ _ _;skip)|(clear hL zq Z hq;subst hA hF hG0 hO;simp only [Kr.U,Ar.U] at * <;> grind [al];done)
theorem IQ:aA Tryz.prog 21 (sZ Kr.U):=by
 refine aG af.nil Tryz.func21 rfl rfl fun xs h p hp=>?_
 unfold sZ at hp
 split at hp
 ·split at hp
  ·rename_i e0
   cases hp
   have g0:=gM e0
   subst g0
   exact⟨aB rfl,fun hC _=>@aaK _ _ hC⟩
  ·cases hp
 ·cases hp
end Go.Proofs.YtelhldgdnlppfaaGreat.KrS
