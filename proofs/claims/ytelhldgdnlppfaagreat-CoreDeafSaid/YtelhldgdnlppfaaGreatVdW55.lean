/-
  which cores are alike,by the document. No condition but size.
-/
import Derived.Test.YtelhldgdnlppfaaGreatVdKsG
import Derived.Test.YtelhldgdnlppfaaGreatVdKrQ
import Derived.Test.YtelhldgdnlppfaaGreatVdW53
set_option maxHeartbeats 4000000
set_option cbv.maxSteps 4000000
set_option maxRecDepth 100000
namespace Go.Proofs.YtelhldgdnlppfaaGreat.KrL
open Go Ry ViR KsS KsT KrV KrW KrX KrY KrZ KrQ
open KsF (EV dD fH fx LZ)
open KsG (fo AF fL tw iD LJ Bh rC yb kG JS qX qG tN zE oZ nw)
open KrS (pJ je gM)
theorem aak:aA Tryz.prog 33 (KsD.bH (KsD.bK GH)):=by
 refine aG af.nil Tryz.func33 rfl rfl fun xs h p hp=>?_
 unfold KsD.bH at hp
 split at hp
 ·split at hp
  ·cases hp
   exact⟨aB rfl,fun hC _=>absurd (show false=true from hC) Bool.false_ne_true⟩
  ·cases hp
 ·cases hp
theorem Vv:aA Tryz.prog 33 (KsD.bH (KsD.bK VV)):=KsD.DZ (V:=GH.up) (KsD.DZ (V:=GH) aak)
structure Kl where
 Yq:List Int→List E→Bool
 Xm:CS→EV→Bool
 Zx:CS→EV→CS
 XX:Int→EV→Int
 UA:Int→Int→Int→Int→Bool
def Kl.U:Kl:=⟨fun n l=>decide (n.length≤70∧l.length≤60),AF VV,fx VV,dD,fun e r e2 r2=>decide (e < e2∨e=e2∧r < r2)⟩
noncomputable def xI (F:Kl):aZ:=fun xs h=>match xs,h with
 |[.agg [.val (.int .i64 a_e),.val (.int .i64 a_r)],.agg [.val (.int .i64 d_e),.val (.int .i64 d_r)]],[]=>some ⟨True,.sa (B (F.UA a_e a_r d_e d_r)),[],[Any,Any]⟩
 |_,_=>none
noncomputable def yj (F:Kl):aZ:=fun xs h=>match xs,h with
 |[.agg v_],[]=>(match Bh v_ with
  |some v=>some ⟨True,.sa (B (F.Yq v.x.n v.x.l)),[],[Any]⟩
  |_=>none)
 |_,_=>none
theorem Ol (v:EV):aU [] Tryz.f10 [.agg (LJ v)] [] ⟨True,.sa (B (Kl.U.Yq v.x.n v.x.l)),[],[Any]⟩:=by
 intro b gv
 generalize hF:Kl.U=F
 generalize hG0:(fo VV)=G0
 generalize hA:Ar.U=A
 generalize hL:Lp _ _ _=L
 obtain⟨Z,zq⟩:=aP
 refine @aD _ _ _ _ _ _ _ (aa hL) _ _ zq rfl ?_
 repeat' (first|(refine ay zq ?_;try dsimp only)|refine ax zq ?_ (aa hL)|refine aw zq ?_|refine az ?_|refine av ?_|refine au ?_|refine aq ?_|refine ar rfl ?_|refine ai rfl ?_|refine aj rfl ?_|(refine Cd.mk ?_;cbv)|(refine aE.mk ?_;cbv)|(refine aJ.mk ?_;cbv)|exact trivial|refine And.intro ?_ ?_|refine bn fun _=>?_|refine bo fun _=>?_)
 all_goals first|(show L _ _ _;skip)|(clear hL zq Z;subst hA hF hG0;simp only [Kl.U,Ar.U] at * <;> grind [al];done)
theorem Ag:aA Tryz.prog 10 (yj Kl.U):=by
 refine aG af.nil Tryz.func10 rfl rfl fun xs h p hp=>?_
 unfold yj at hp
 split at hp
 ·split at hp
  ·rename_i e0
   cases hp
   have g0:=rC e0
   subst g0
   exact⟨aB rfl,fun _ _=>@Ol _ ⟩
  ·cases hp
 ·cases hp
noncomputable def xX (F:Kl):aZ:=fun xs h=>match xs,h with
 |[.agg c_,.agg v_],[]=>(match pJ c_,Bh v_ with
  |some c,some v=>some ⟨F.Xm c v=true,.bJ [.agg (je (F.Zx c v)),.one (.sl none (.ah (.int .i64 (.int .i64 (.int .i64 (.int .i64 (.ints .i64 (.ah (.int .i64 (.int .i64 (.int .i64 (.int .i64 (.bool .nil))))) (.int .i64 (.int .i64 (.int .i64 (.int .i64 .nil)))))))))) (F.Zx c v).q)),I (F.XX c.i v)],[],[Any,Any]⟩
  |_,_=>none)
 |_,_=>none
theorem AP:aA Tryz.prog 11 (xX Kl.U):=by
 refine⟨(tN Vv).1,fun args h p hc hC=>?_⟩
 unfold xX at hc
 split at hc
 ·split at hc
  ·rename_i c v e0 e1
   cases hc
   cases e:LZ v
   ·exact (tN Vv).2 _ _ ⟨(fo VV).mX c v=true∧(fo VV).nC v=false,.bJ [.agg (je ((fo VV).pd c v)),.one (.sl none (.ah (.int .i64 (.int .i64 (.int .i64 (.int .i64 (.ints .i64 (.ah (.int .i64 (.int .i64 (.int .i64 (.int .i64 (.bool .nil))))) (.int .i64 (.int .i64 (.int .i64 (.int .i64 .nil)))))))))) ((fo VV).pd c v).q)),I ((fo VV).nt c.i v)],[],[Any,Any]⟩ (by unfold qX;simp only [e0,e1]) ⟨hC,e⟩
   ·exact (zE Vv).2 _ _ ⟨(fo VV).mX c v=true∧(fo VV).nC v=true,.bJ [.agg (je ((fo VV).pd c v)),.one (.sl none (.ah (.int .i64 (.int .i64 (.int .i64 (.int .i64 (.ints .i64 (.ah (.int .i64 (.int .i64 (.int .i64 (.int .i64 (.bool .nil))))) (.int .i64 (.int .i64 (.int .i64 (.int .i64 .nil)))))))))) ((fo VV).pd c v).q)),I ((fo VV).nt c.i v)],[],[Any,Any]⟩ (by unfold qG;simp only [e0,e1]) ⟨hC,e⟩
  ·cases hc
 ·cases hc
noncomputable def II (_:Kl):aZ:=fun xs h=>match xs,h with
 |[],[]=>some ⟨True,.sa (B true),[],[]⟩
 |_,_=>none
theorem YT:aU [(8,oZ (fo VV))] Tryz.f19 [] [] ⟨True,.sa (B true),[],[]⟩:=by
 intro b gv
 have hn:=Sx
 have hk:=(tv (show fL 3 9=true by decide +kernel)).2.2
 have hw:fL 3 9=true:=by decide +kernel
 have hfs:=(af.cons (nw Vv) af.nil rfl)
 generalize hF:Kl.U=F at hfs ⊢
 generalize hG0:(fo VV)=G0 at hfs ⊢
 generalize hA:Ar.U=A
 generalize hL:Lp _ _ _=L
 obtain⟨Z,zq⟩:=aP
 refine @aD _ _ _ _ _ _ _ (aa hL) _ _ zq rfl ?_
 repeat' (first|(refine ay zq ?_;try dsimp only)|refine ax zq ?_ (aa hL)|refine aw zq ?_|refine az ?_|refine av ?_|refine au ?_|refine aq ?_|refine ar rfl ?_|refine ai rfl ?_|refine aj rfl ?_|(refine Cd.mk ?_;cbv)|(refine aE.mk ?_;cbv)|(refine aJ.mk ?_;cbv)|exact trivial|refine And.intro ?_ ?_|refine bn fun _=>?_|refine bo fun _=>?_)
 all_goals first|(show L _ _ _;skip)|(clear hL hfs zq Z;subst hA hF hG0;simp only [fo,Ar.U] at * <;> grind [al];done)
theorem KW:aA Tryz.prog 19 (II Kl.U):=by
 refine aG (af.cons (nw Vv) af.nil rfl) Tryz.func19 rfl rfl fun xs h p hp=>?_
 unfold II at hp
 split at hp
 ·cases hp
  exact⟨aB rfl,fun _ _=>@YT ⟩
 ·cases hp
structure XK where
 i:Int
 d:CS
def zS:CS:=⟨0,0,0,0,0,[],[],[],[],0,[],[],0,false,[]⟩
def rdC (st:St) (k:Nat):CS:=match kE st k with
 |.ptr n _=>(match ak st.heap n with
  |some (.cells _ cs)=>(match pJ cs with
   |some d=>d
   |none=>zS)
  |_=>zS)
 |_=>zS
def xkR (k j:Nat) (st:St):XK:=⟨bQ st k,rdC st j⟩
def xkQ (n:Int) (y:XK):Prop:=0≤y.i∧y.i≤n∧Vd y.d∧y.d.q=[]
def xkM (n:Int) (y:XK):Nat:=(n - y.i).toNat
end Go.Proofs.YtelhldgdnlppfaaGreat.KrL
namespace Go.Proofs.YtelhldgdnlppfaaGreat.KrE
open Go Ry ViR VoR KsS KsT KrZ
open KsC (XI XQ XL Qk Zy xlR pA zc slL lI)
open KrS (pJ je gM)
open ViS (mR jT mO oU gI gw kT)
structure Kx where
 KN:CS→CS→Bool
 LK:CS→CS→Bool
noncomputable def Kx.U:Kx:=⟨EG,Hx⟩
noncomputable def rB (F:Kx):aZ:=fun xs h=>match xs,h with
 |[.agg a_,.agg d_],[]=>(match pJ a_,pJ d_ with
  |some a,some d=>some ⟨F.LK a d=true,.sa (B (F.KN a d)),[],[Any,Any]⟩
  |_,_=>none)
 |_,_=>none
theorem Mr (a:CS) (d:CS) (hC:Kx.U.LK a d=true):aU [(45,mR ViS.Vq.U),(16,mO ViS.Vq.U)] Tryz.f13 [.agg (je a),.agg (je d)] [] ⟨Kx.U.LK a d=true,.sa (B (Kx.U.KN a d)),[],[Any,Any]⟩:=by
 intro b gv
 have hk:(a.ae.length≤1000∧a.w.length≤1000∧a.gn.length≤1000∧a.gl.length≤1000∧a.tn.length≤1000∧a.tl.length≤1000)∧(d.ae.length≤1000∧d.w.length≤1000∧d.gn.length≤1000∧d.gl.length≤1000∧d.tn.length≤1000∧d.tl.length≤1000):=by
  have h:Hx a d=true:=hC
  unfold Hx Ge at h
  simp only [Bool.and_eq_true,decide_eq_true_eq] at h
  exact h
 have hk6:a.ae.length≤1000000:=by omega
 have ht1:=fun h=>Gp (p:=a.ae) (q:=d.ae) h
 have ht2:=fun h=>Jk (p:=a.ae) (q:=d.ae) h
 have hsc:EG a d=(decide (a.i=d.i∧a.ee=d.ee∧a.er=d.er∧a.t=d.t∧a.p=d.p∧a.ph=d.ph∧a.l=d.l∧a.o=d.o) && (mP a.ae d.ae && (gI a.w d.w && (gw a.gn a.gl d.gn d.gl && gw a.tn a.tl d.tn d.tl)))):=rfl
 have hfs:=(af.cons jT (af.cons oU af.nil rfl) rfl)
 generalize hF:Kx.U=F at hC hfs ⊢
 generalize hG0:ViS.Vq.U=G0 at hC hfs ⊢
 generalize hA:Ar.U=A
 generalize hL:Lp _ _ _=L
 obtain⟨Z,zq⟩:=aP
 refine @aD _ _ _ _ _ _ _ (aa hL) _ _ zq rfl ?_
 repeat' (first|(refine ay zq ?_;try dsimp only)|refine ax zq ?_ (aa hL)|refine aw zq ?_|refine az ?_|refine av ?_|refine au ?_|refine aq ?_|refine ar rfl ?_|refine ai rfl ?_|refine aj rfl ?_|(refine Cd.mk ?_;cbv)|(refine aE.mk ?_;cbv)|(refine aJ.mk ?_;cbv)|exact trivial|refine And.intro ?_ ?_|refine bn fun _=>?_|refine bo fun _=>?_)
 all_goals first|(show L _ _ _;skip)|(clear hL hfs zq Z;subst hA hF hG0;simp only [Kx.U,Ar.U] at * <;> (try simp only [Bool.if_true_left,Bool.decide_eq_true,Bool.or_eq_false_iff,Bool.or_eq_true] at *) <;> grind [al];done)
 subst hL
 refine aX (br hfs) (Ym a.ae d.ae f7) (fun y=>cg Tryz.f13.ntmps [(2,.ptr 1 0),(3,.ptr 2 0),(5,.val (.int .i64 y.i))] [(1,.cells 31 [.val (.int .i64 a.i),.val (.int .i64 a.ee),.val (.int .i64 a.er),.val (.int .i64 a.t),.val (.int .i64 a.p),.sl none (.ah (.int .i64 (.int .i64 (.int .i64 (.int .i64 (.bool (.bool (.int .i64 .nil))))))) a.ae),.sl none (.ints .i64 a.w),.sl none (.ints .i64 a.gn),.sl none (.ah (.int .i64 (.int .i64 (.int .i64 (.int .i64 (.bool .nil))))) a.gl),.val (.int .i64 a.ph),.sl none (.ints .i64 a.tn),.sl none (.ah (.int .i64 (.int .i64 (.int .i64 (.int .i64 (.bool .nil))))) a.tl),.val (.int .i64 a.l),.val (.bool a.o)]),(2,.cells 31 [.val (.int .i64 d.i),.val (.int .i64 d.ee),.val (.int .i64 d.er),.val (.int .i64 d.t),.val (.int .i64 d.p),.sl none (.ah (.int .i64 (.int .i64 (.int .i64 (.int .i64 (.bool (.bool (.int .i64 .nil))))))) d.ae),.sl none (.ints .i64 d.w),.sl none (.ints .i64 d.gn),.sl none (.ah (.int .i64 (.int .i64 (.int .i64 (.int .i64 (.bool .nil))))) d.gl),.val (.int .i64 d.ph),.sl none (.ints .i64 d.tn),.sl none (.ah (.int .i64 (.int .i64 (.int .i64 (.int .i64 (.bool .nil))))) d.tl),.val (.int .i64 d.l),.val (.bool d.o)])] [Any,Any]) (pA a.ae.length) (Zy 5) ⟨0⟩ ?_ ?_ ?_
 ·exact Oe _ _ _
 ·cbv
  repeat' (first|exact trivial|exact rfl|refine And.intro ?_ ?_)
 rintro⟨i⟩ hq O hO
 have hst:=fun h=>Nh hk6 hq h
 have hen:=fun h=>SU hq h
 have hf7:=Zw (a.ae.getD i.toNat []) (d.ae.getD i.toNat [])
 have q0:=hq.1
 have q1:=hq.2.1
 dsimp only at q0 q1
 subst hA
 generalize hA:Ar.U=A
 generalize hL:Lp _ _ _=L
 refine aO zq ?_
 repeat' (first|(refine ay zq ?_;try dsimp only)|refine ax zq ?_ (aa hL)|refine aw zq ?_|refine az ?_|refine av ?_|refine au ?_|refine aq ?_|refine ar rfl ?_|refine ai rfl ?_|refine aj rfl ?_|(refine Cd.mk ?_;cbv)|(refine aE.mk ?_;cbv)|(refine aJ.mk ?_;cbv)|exact trivial|refine And.intro ?_ ?_|refine bn fun _=>?_|refine bo fun _=>?_)
 all_goals first|(show L _ _ _;skip)|(clear hL hfs zq Z hq;subst hA hF hG0 hO;simp only [Kx.U,ViS.Vq.U,Ar.U] at * <;> (try simp only [Bool.if_true_left,Bool.if_false_right,Bool.decide_eq_true,Bool.or_eq_false_iff,Bool.or_eq_true] at *) <;> grind [al];done)
theorem rN:aA Tryz.prog 13 (rB Kx.U):=by
 refine aG (af.cons jT (af.cons oU af.nil rfl) rfl) Tryz.func13 rfl rfl fun xs h p hp=>?_
 unfold rB at hp
 split at hp
 ·split at hp
  ·rename_i e0 e1
   cases hp
   have g0:=gM e0
   have g1:=gM e1
   subst g0 g1
   exact⟨aB rfl,fun hC _=>@Mr _ _ hC⟩
  ·cases hp
 ·cases hp
end Go.Proofs.YtelhldgdnlppfaaGreat.KrE
