/-
  CoreDeaf: for every input the call tells true,and nothing that was there turns. No condition.
-/
import Derived.Test.YtelhldgdnlppfaaGreatRows
import Derived.Test.YtelhldgdnlppfaaGreatVdLaw
import Derived.Test.YtelhldgdnlppfaaGreatVdW14
import Derived.Test.YtelhldgdnlppfaaGreatVdW14
import Derived.Test.YtelhldgdnlppfaaGreatVdRyOp
import Derived.Test.YtelhldgdnlppfaaGreatVdW55
import Derived.Test.YtelhldgdnlppfaaGreatVdW55
set_option maxHeartbeats 8000000
set_option cbv.maxSteps 8000000
set_option maxRecDepth 100000
namespace Go.Proofs.YtelhldgdnlppfaaGreat.CoreDeaf
open Go Ry Law KrL KrE KsS KsT KrV KrW KrX KrY KrZ KrQ
open Go.ChangeShapes Go.WideShapes Go.ChangeAt Go.Joins Go.RowKit
open KsG (fo fL tw iD yb kG oZ nw)
open KsF (EV dD fH fx oK)
open KrS (je pJ)
open ViR (cq)
noncomputable abbrev Zn:=@oZ
theorem Qg:aA Tryz.prog 8 (Zn (fo VV)):=nw Vv
open KrS (sZ IQ)
open KrE (rB rN)
theorem ZJ (a0:Int) (a1:List E) (a2:List E) (h8:0≤a0∧a0≤255) (hpl:lN a1) (_:sized [.one (.val (.int .u8 a0)),.one (.sl none (.ah (.int .i64 (.int .i64 (.int .i64 (.int .i64 (.int .i64 (.int .i64 (.int .i64 (.ints .i64 (.ah (.int .i64 (.int .i64 (.int .i64 (.int .i64 (.bool .nil))))) (.int .i64 (.int .i64 (.int .i64 (.int .i64 .nil))))))))))))) a1)),.one (.sl none (.ah (.int .i64 (.int .i64 (.int .i64 (.ints .i64 (.ah (.int .i64 (.int .i64 (.int .i64 (.int .i64 (.bool .nil))))) (.int .i64 (.int .i64 (.int .i64 (.int .i64 .nil))))))))) a2))]):aU [(8,Zn (fo VV)),(10,sC [[none,none,none,none,none,none,none,some (.ints .i64 []),some (.ah (.int .i64 (.int .i64 (.int .i64 (.int .i64 (.bool .nil))))) []),none,none,none,none]] (yj Kl.U)),(11,sC [[none,none,none,none,none,some (.ah (.int .i64 (.int .i64 (.int .i64 (.int .i64 (.bool (.bool (.int .i64 .nil))))))) []),some (.ints .i64 []),some (.ints .i64 []),some (.ah (.int .i64 (.int .i64 (.int .i64 (.int .i64 (.bool .nil))))) []),none,some (.ints .i64 []),some (.ah (.int .i64 (.int .i64 (.int .i64 (.int .i64 (.bool .nil))))) []),none,none],[none,none,none,none,none,none,none,some (.ints .i64 []),some (.ah (.int .i64 (.int .i64 (.int .i64 (.int .i64 (.bool .nil))))) []),none,none,none,none]] (xX Kl.U)),(21,sZ KrS.Kr.U),(13,rB KrE.Kx.U),(19,II Kl.U)] Tryz.f5 [.one (.val (.int .u8 a0)),.one (.sl none (.ah (.int .i64 (.int .i64 (.int .i64 (.int .i64 (.int .i64 (.int .i64 (.int .i64 (.ints .i64 (.ah (.int .i64 (.int .i64 (.int .i64 (.int .i64 (.bool .nil))))) (.int .i64 (.int .i64 (.int .i64 (.int .i64 .nil))))))))))))) a1)),.one (.sl none (.ah (.int .i64 (.int .i64 (.int .i64 (.ints .i64 (.ah (.int .i64 (.int .i64 (.int .i64 (.int .i64 (.bool .nil))))) (.int .i64 (.int .i64 (.int .i64 (.int .i64 .nil))))))))) a2))] [] ⟨True,.sa (B true),[],[Any,Any,Any]⟩:=by
 intro b gv
 have hid:=Zc h8.1 h8.2
 obtain⟨D0,hD0⟩:∃ D0,D0=GM (LF (1+a0 % 4) 99):=⟨_,rfl⟩
 have hD1:fL (1+a0 % 4) 99=true→Vd D0∧D0.q=[]∧tw VV (1+a0 % 4) 99=LF (1+a0 % 4) 99:=fun h=>⟨hD0 ▸ (tv h).2.1,by rw [hD0];rfl,(tv h).1⟩
 have hD2:(!fL (1+a0 % 4) 99 || VV.ok (iD (1+a0 % 4) 99))=true:=by
  cases h:fL (1+a0 % 4) 99
  ·have:=(Tm h).2
   rw [h] at this
   exact this
  ·have:=(tv h).2.2
   rw [h] at this
   exact this
 have hok:fL (1+a0 % 4) 99=true:=by
  unfold KsG.fL
  rw [hid.2.2.2]
  rfl
 have hD3:=hD1 hok
 have hss:=Ci
 have hfs:=(af.cons Qg (af.cons (cu [[none,none,none,none,none,none,none,some (.ints .i64 []),some (.ah (.int .i64 (.int .i64 (.int .i64 (.int .i64 (.bool .nil))))) []),none,none,none,none]] Ag) (af.cons (cu [[none,none,none,none,none,some (.ah (.int .i64 (.int .i64 (.int .i64 (.int .i64 (.bool (.bool (.int .i64 .nil))))))) []),some (.ints .i64 []),some (.ints .i64 []),some (.ah (.int .i64 (.int .i64 (.int .i64 (.int .i64 (.bool .nil))))) []),none,some (.ints .i64 []),some (.ah (.int .i64 (.int .i64 (.int .i64 (.int .i64 (.bool .nil))))) []),none,none],[none,none,none,none,none,none,none,some (.ints .i64 []),some (.ah (.int .i64 (.int .i64 (.int .i64 (.int .i64 (.bool .nil))))) []),none,none,none,none]] AP) (af.cons IQ (af.cons rN (af.cons KW af.nil rfl) rfl) rfl) rfl) rfl) rfl)
 generalize hF:KrL.Kl.U=F at hfs ⊢
 generalize hG0:(fo VV)=G0 at hfs ⊢
 generalize hG1:KrS.Kr.U=G1 at hfs ⊢
 generalize hG2:KrE.Kx.U=G2 at hfs ⊢
 generalize hA:Ar.U=A
 generalize hL:Lp _ _ _=L
 obtain⟨Z,zq⟩:=aP
 refine @aD _ _ _ _ _ _ _ (aa hL) _ _ zq rfl ?_
 repeat' (first|(refine ay zq ?_;try dsimp only)|refine ax zq ?_ (aa hL)|refine aw zq ?_|refine az ?_|refine av ?_|refine au ?_|refine aq ?_|refine ar rfl ?_|refine ai rfl ?_|refine aj rfl ?_|(refine Cd.mk ?_;cbv)|(refine aE.mk ?_;cbv)|(refine aJ.mk ?_;cbv)|exact trivial|refine And.intro ?_ ?_|refine bn fun _=>?_|refine bo fun _=>?_)
 all_goals first|(show L _ _ _;skip)|(clear hL hfs zq Z;subst hA hF hG0 hG1 hG2;simp only [fo,Ar.U] at * <;> (try simp only [GM] at *) <;> grind [al];done)
 subst hL
 refine aX (br hfs) (xkQ 30) (fun y=>cg Tryz.f5.ntmps [(1,.sl none (.ah (.int .i64 (.int .i64 (.int .i64 (.int .i64 (.int .i64 (.int .i64 (.int .i64 (.ints .i64 (.ah (.int .i64 (.int .i64 (.int .i64 (.int .i64 (.bool .nil))))) (.int .i64 (.int .i64 (.int .i64 (.int .i64 .nil))))))))))))) a1)),(2,.sl none (.ah (.int .i64 (.int .i64 (.int .i64 (.ints .i64 (.ah (.int .i64 (.int .i64 (.int .i64 (.int .i64 (.bool .nil))))) (.int .i64 (.int .i64 (.int .i64 (.int .i64 .nil))))))))) a2)),(7,.ptr 1 0),(9,.val (.int .i64 y.i))] [(1,.cells 31 [.val (.int .i64 y.d.i),.val (.int .i64 y.d.ee),.val (.int .i64 y.d.er),.val (.int .i64 y.d.t),.val (.int .i64 y.d.p),.sl none (.ah (.int .i64 (.int .i64 (.int .i64 (.int .i64 (.bool (.bool (.int .i64 .nil))))))) y.d.ae),.sl none (.ints .i64 y.d.w),.sl none (.ints .i64 y.d.gn),.sl none (.ah (.int .i64 (.int .i64 (.int .i64 (.int .i64 (.bool .nil))))) y.d.gl),.val (.int .i64 y.d.ph),.sl none (.ints .i64 y.d.tn),.sl none (.ah (.int .i64 (.int .i64 (.int .i64 (.int .i64 (.bool .nil))))) y.d.tl),.val (.int .i64 y.d.l),.val (.bool y.d.o)])] [Any,Any,Any]) (xkM 30) (xkR 9 7) ⟨0,D0⟩ ?_ ?_ ?_
 ·exact⟨Int.le_refl 0,(by decide:(0:Int)≤30),hD3.1,hD3.2.1⟩
 ·cbv
  repeat' (first|exact trivial|exact rfl|refine And.intro ?_ ?_)
  all_goals (clear zq Z hfs;subst hA hF hG0 hG1 hG2;simp only [fo,Ar.U] at * <;> (try simp only [GM] at *) <;> grind [al])
 rintro⟨i,d⟩ hq O hO
 have q0:0≤i:=hq.1
 have q1:=hq.2.1
 have qv:=hq.2.2.1
 have qq:=hq.2.2.2
 dsimp only at q1 qv qq
 obtain⟨v,hv⟩:∃ v,v=evE (a1.getD i.toNat []):=⟨_,rfl⟩
 have hls:=fun (h1:i < a1.length) (h2:QJ (a1.getD i.toNat [])=true) (h3:d.gl.length≤100)=>GX qv qq (v:=v) h3 (hv ▸ Xx hpl q0 h1 h2)
 have hlg:QJ (a1.getD i.toNat [])=decide ((rl (a1.getD i.toNat []) 7).length≤70∧(rr (a1.getD i.toNat []) 8).length≤60):=rfl
 have hnx:GM d=d:=by show (⟨d.i,d.ee,d.er,d.t,d.p,d.ae,d.w,d.gn,d.gl,d.ph,d.tn,d.tl,d.l,d.o,[]⟩:CS)=d;rw [← qq]
 have hin:i < 30→aN .add .i64 i 1=i+1:=fun h=>by rw [bp,wr _ (by omega) (by omega)]
 have hch:fH d.i v=true∨fH d.i v=false:=by cases fH d.i v <;> simp
 have hsz:=Iy qv
 subst hA
 generalize hA:Ar.U=A
 generalize hL:Lp _ _ _=L
 refine aO zq ?_
 repeat' (first|(refine ay zq ?_;try dsimp only)|refine ax zq ?_ (aa hL)|refine aw zq ?_|refine az ?_|refine av ?_|refine au ?_|refine aq ?_|refine ar rfl ?_|refine ai rfl ?_|refine aj rfl ?_|(refine Cd.mk ?_;cbv)|(refine aE.mk ?_;cbv)|(refine aJ.mk ?_;cbv)|exact trivial|refine And.intro ?_ ?_|refine bn fun _=>?_|refine bo fun _=>?_)
 all_goals first|(show L _ _ _;skip)|(clear hL hfs zq Z hq;subst hA hF hG0 hG1 hG2 hO;simp only [KrL.Kl.U,fo,Ar.U] at * <;> (try simp only [evE,QJ,GM,xkQ,xkM] at *) <;> grind [al];done)
 all_goals
  subst hL
  refine aX (br hfs) (fun (y:KsC.XI)=>1≤y.i∧y.i≤10) (fun y=>cg Tryz.f5.ntmps [(2,.sl none (.ah (.int .i64 (.int .i64 (.int .i64 (.ints .i64 (.ah (.int .i64 (.int .i64 (.int .i64 (.int .i64 (.bool .nil))))) (.int .i64 (.int .i64 (.int .i64 (.int .i64 .nil))))))))) a2)),(7,.ptr 1 0),(13,.val (.int .i64 y.i))] [(1,.cells 31 [.val (.int .i64 d.i),.val (.int .i64 d.ee),.val (.int .i64 d.er),.val (.int .i64 d.t),.val (.int .i64 d.p),.sl none (.ah (.int .i64 (.int .i64 (.int .i64 (.int .i64 (.bool (.bool (.int .i64 .nil))))))) d.ae),.sl none (.ints .i64 d.w),.sl none (.ints .i64 d.gn),.sl none (.ah (.int .i64 (.int .i64 (.int .i64 (.int .i64 (.bool .nil))))) d.gl),.val (.int .i64 d.ph),.sl none (.ints .i64 d.tn),.sl none (.ah (.int .i64 (.int .i64 (.int .i64 (.int .i64 (.bool .nil))))) d.tl),.val (.int .i64 d.l),.val (.bool d.o)])] [Any,Any,Any]) (fun y=>(10 - y.i).toNat) (fun st=>(⟨bQ st 13⟩:KsC.XI)) ⟨1⟩ ?_ ?_ ?_
  ·exact⟨Int.le_refl 1,(by decide:(1:Int)≤10)⟩
  ·cbv
   repeat' (first|exact trivial|exact rfl|refine And.intro ?_ ?_)
   all_goals (clear zq Z hfs hq hls;subst hA hF hG0 hG1 hG2 hO;simp only [KrL.Kl.U,fo,KrS.Kr.U,KrE.Kx.U,Ar.U,List.nil_append,yb,kG,hN] at * <;> (try simp only [QJ,GM,xkQ,xkM] at *) <;> grind [al])
  rintro⟨p⟩ hq2 O2 hO2
  have p0:1≤p:=hq2.1
  have p1:p≤10:=hq2.2
  have hpp:p < 10→aN .add .i64 p 1=p+1:=fun h1=>by rw [bp,wr _ (by omega) (by omega)]
  have hdf:=fun (ha:dn d.ae p < 0)=>Au qv qq (v:=⟨2,p,0,0,⟨0,0,0,[],[],0,0,0,0⟩⟩) ha (.inl rfl) ⟨Nat.zero_le _,Nat.zero_le _⟩
  have hln:d.ae.length≤64:=qv.len
  have hs2:Hx d d=true:=by unfold Hx;rw [hsz];rfl
  subst hA
  generalize hA:Ar.U=A
  generalize hL:Lp _ _ _=L
  refine aO zq ?_
  repeat' (first|(refine ay zq ?_;try dsimp only)|refine ax zq ?_ (aa hL)|refine aw zq ?_|refine az ?_|refine av ?_|refine au ?_|refine aq ?_|refine ar rfl ?_|refine ai rfl ?_|refine aj rfl ?_|(refine Cd.mk ?_;cbv)|(refine aE.mk ?_;cbv)|(refine aJ.mk ?_;cbv)|exact trivial|refine And.intro ?_ ?_|refine bn fun _=>?_|refine bo fun _=>?_)
  all_goals first|(show L _ _ _;skip)|(clear hL hfs zq Z hq hq2 hls;subst hA hF hG0 hG1 hG2 hO hO2;simp only [KrL.Kl.U,fo,KrS.Kr.U,KrE.Kx.U,Ar.U] at * <;> (try simp only [QJ,GM] at *) <;> grind [al];done)
  all_goals
   subst hL
   refine aX (br hfs) (fun (y:KsC.XI)=>0≤y.i∧y.i≤6) (fun y=>cg Tryz.f5.ntmps [(2,.sl none (.ah (.int .i64 (.int .i64 (.int .i64 (.ints .i64 (.ah (.int .i64 (.int .i64 (.int .i64 (.int .i64 (.bool .nil))))) (.int .i64 (.int .i64 (.int .i64 (.int .i64 .nil))))))))) a2)),(7,.ptr 1 0),(13,.val (.int .i64 p)),(14,.ptr 2 0),(17,.val (.int .i64 y.i))] [(1,.cells 31 [.val (.int .i64 d.i),.val (.int .i64 d.ee),.val (.int .i64 d.er),.val (.int .i64 d.t),.val (.int .i64 d.p),.sl none (.ah (.int .i64 (.int .i64 (.int .i64 (.int .i64 (.bool (.bool (.int .i64 .nil))))))) d.ae),.sl none (.ints .i64 d.w),.sl none (.ints .i64 d.gn),.sl none (.ah (.int .i64 (.int .i64 (.int .i64 (.int .i64 (.bool .nil))))) d.gl),.val (.int .i64 d.ph),.sl none (.ints .i64 d.tn),.sl none (.ah (.int .i64 (.int .i64 (.int .i64 (.int .i64 (.bool .nil))))) d.tl),.val (.int .i64 d.l),.val (.bool d.o)]),(2,.cells 31 [.any,.any,.any,.any,.any,.any,.any,.any,.any,.any,.any,.any,.any,.any])] [Any,Any,Any]) (fun y=>(6 - y.i).toNat) (fun st=>(⟨bQ st 17⟩:KsC.XI)) ⟨0⟩ ?_ ?_ ?_
   ·exact⟨Int.le_refl 0,(by decide:(0:Int)≤6)⟩
   ·cbv
    repeat' (first|exact trivial|exact rfl|refine And.intro ?_ ?_)
    all_goals (clear zq Z hfs hq hq2 hls;subst hA hF hG0 hG1 hG2 hO hO2;simp only [KrL.Kl.U,fo,KrS.Kr.U,KrE.Kx.U,Ar.U,List.nil_append,yb,kG,hN] at * <;> (try simp only [QJ,GM,xkQ,xkM] at *) <;> grind [al])
   rintro⟨j⟩ hq3 O3 hO3
   have r0:0≤j:=hq3.1
   have r1:j≤6:=hq3.2
   have hjj:j < 6→aN .add .i64 j 1=j+1:=fun h1=>by rw [bp,wr _ (by omega) (by omega)]
   have hdg:=fun (ha:dn d.ae p < 0) (hn:(rl (a2.getD j.toNat []) 3).length≤70∧(rr (a2.getD j.toNat []) 4).length≤60)=>Au qv qq (v:=⟨3,p,0,0,⟨ri (a2.getD j.toNat []) 0,ri (a2.getD j.toNat []) 1,ri (a2.getD j.toNat []) 2,rl (a2.getD j.toNat []) 3,rr (a2.getD j.toNat []) 4,ri (a2.getD j.toNat []) 5,ri (a2.getD j.toNat []) 6,ri (a2.getD j.toNat []) 7,ri (a2.getD j.toNat []) 8⟩⟩) ha (.inr rfl) hn
   subst hA
   generalize hA:Ar.U=A
   generalize hL:Lp _ _ _=L
   refine aO zq ?_
   repeat' (first|(refine ay zq ?_;try dsimp only)|refine ax zq ?_ (aa hL)|refine aw zq ?_|refine az ?_|refine av ?_|refine au ?_|refine aq ?_|refine ar rfl ?_|refine ai rfl ?_|refine aj rfl ?_|(refine Cd.mk ?_;cbv)|(refine aE.mk ?_;cbv)|(refine aJ.mk ?_;cbv)|exact trivial|refine And.intro ?_ ?_|refine bn fun _=>?_|refine bo fun _=>?_)
   all_goals first|(show L _ _ _;skip)|(clear hL hfs zq Z hq hq2 hq3 hls;subst hA hF hG0 hG1 hG2 hO hO2 hO3;simp only [KrL.Kl.U,fo,KrS.Kr.U,KrE.Kx.U,Ar.U] at * <;> (try simp only [QJ,GM] at *) <;> grind [al];done)
theorem walk (a0:Int) (a1:List E) (a2:List E) (A1:Option Addr) (n1 c1:Nat) (A2:Option Addr) (n2 c2:Nat) (w:World) (w0:(Lit.int .u8 a0).wf=true) (r1:(SC.sl none (.ah (.int .i64 (.int .i64 (.int .i64 (.int .i64 (.int .i64 (.int .i64 (.int .i64 (.ints .i64 (.ah (.int .i64 (.int .i64 (.int .i64 (.int .i64 (.bool .nil))))) (.int .i64 (.int .i64 (.int .i64 (.int .i64 .nil))))))))))))) a1)).is (G0 w) (.slice A1 n1 c1)) (_:a1.length≤140737488355328) (p1:lN a1) (r2:(SC.sl none (.ah (.int .i64 (.int .i64 (.int .i64 (.ints .i64 (.ah (.int .i64 (.int .i64 (.int .i64 (.int .i64 (.bool .nil))))) (.int .i64 (.int .i64 (.int .i64 (.int .i64 .nil))))))))) a2)).is (G0 w) (.slice A2 n2 c2)) (_:∀ y∈a2,EF (.int .i64 (.int .i64 (.int .i64 (.ints .i64 (.ah (.int .i64 (.int .i64 (.int .i64 (.int .i64 (.bool .nil))))) (.int .i64 (.int .i64 (.int .i64 (.int .i64 .nil))))))))) y 0) (_:a2.length≤140737488355328):Calls Tryz.prog 5 #[.int .u8 a0,.slice A1 n1 c1,.slice A2 n2 c2] w (Law.Yes w) :=
 Ud (af.cons Qg (af.cons (cu [[none,none,none,none,none,none,none,some (.ints .i64 []),some (.ah (.int .i64 (.int .i64 (.int .i64 (.int .i64 (.bool .nil))))) []),none,none,none,none]] Ag) (af.cons (cu [[none,none,none,none,none,some (.ah (.int .i64 (.int .i64 (.int .i64 (.int .i64 (.bool (.bool (.int .i64 .nil))))))) []),some (.ints .i64 []),some (.ints .i64 []),some (.ah (.int .i64 (.int .i64 (.int .i64 (.int .i64 (.bool .nil))))) []),none,some (.ints .i64 []),some (.ah (.int .i64 (.int .i64 (.int .i64 (.int .i64 (.bool .nil))))) []),none,none],[none,none,none,none,none,none,none,some (.ints .i64 []),some (.ah (.int .i64 (.int .i64 (.int .i64 (.int .i64 (.bool .nil))))) []),none,none,none,none]] AP) (af.cons IQ (af.cons rN (af.cons KW af.nil rfl) rfl) rfl) rfl) rfl) rfl) Tryz.func5 rfl (vs:=[.int .u8 a0,.slice A1 n1 c1,.slice A2 n2 c2]) (by exact⟨rfl,r1,r2,trivial⟩) (aB rfl) fun hZ=>ZJ a0 a1 a2 (wf8 w0) p1 hZ
theorem own:ownKnob Tryz.prog.godebug=none:=by kernel_rfl
theorem laidOut:laidOutB Tryz.prog=true:=by kernel_rfl
theorem lifted (os:Os) (started:os.Started) (H:Type) (enc:TypeId × Value→H) :
  ReturnsInHanded {} Tryz.checked os 5 .any (Rows.coreDeafSpec.pre6 enc Tryz.prog Tryz.f5 Rows.coreDeafRow.domain false) (Rows.coreDeafSpec.post enc Tryz.prog Tryz.f5 false true false false):=by
 refine returnsInHanded_of_change_sized (C:=Tryz.checked) own started (by kernel_rfl) Tryz.func5
  (ChangeSpec.witness6 (enc:=enc) (C:=Tryz.checked) false ⟨#[],#[.int .u8 0,.slice none 0 0,.slice none 0 0],[]⟩ 8 (by kernel_rfl) (by kernel_rfl) (by kernel_rfl) (by kernel_rfl)) ?_
 intro W base args ds gs before hval0 hW _ hz _
 have hval:∀ (j:Nat) t v,Tryz.f5.params[j]? = some t→args[j]? = some v→Value.okWide Tryz.prog W .any base t v:=hval0
 have hW':=hW
 obtain⟨p,q,hA0,hV,rfl,_,_⟩:=hW
 have hA:DataW.TrodAll enc Tryz.prog W 0 (fun _=>true) true Tryz.f5.params.toList args.toList ds p:=hA0
 rw [Tryz.params5] at hA hval
 obtain⟨v0,v1,v2,d0,d1,d2,p0,p1,p2,rfl,rfl,rfl,h0,h1,h2⟩:=trodAll_three hA
 obtain⟨rfl,rfl⟩:=trodVars_none hV
 obtain⟨a0,rfl,rfl,rfl,w0⟩:=open_int Tryz.underlying5 (hval 0 5 v0 rfl rfl) h0
 obtain⟨A1,n1,c1,a1,rfl,l1,r1,w1⟩:=GQ (s:=.int .i64 (.int .i64 (.int .i64 (.int .i64 (.int .i64 (.int .i64 (.int .i64 (.ints .i64 (.ah (.int .i64 (.int .i64 (.int .i64 (.int .i64 (.bool .nil))))) (.int .i64 (.int .i64 (.int .i64 (.int .i64 .nil))))))))))))) Tryz.underlying22 (by kernel_rfl) (by kernel_rfl) (hval 1 22 v1 rfl rfl) h1
 have s1:a1.length≤140737488355328:=by rw [l1];exact zt Tryz.underlying22 (by decide +kernel) hz (j:=1) rfl rfl h1
 obtain⟨A2,n2,c2,a2,rfl,l2,r2,w2⟩:=GQ (s:=.int .i64 (.int .i64 (.int .i64 (.ints .i64 (.ah (.int .i64 (.int .i64 (.int .i64 (.int .i64 (.bool .nil))))) (.int .i64 (.int .i64 (.int .i64 (.int .i64 .nil))))))))) Tryz.underlying60 (by kernel_rfl) (by kernel_rfl) (hval 2 60 v2 rfl rfl) h2
 have s2:a2.length≤140737488355328:=by rw [l2];exact zt Tryz.underlying60 (by decide +kernel) hz (j:=2) rfl rfl h2
 refine (walk a0 (a1.map nE) a2 A1 n1 c1 A2 n2 c2 W w0 (YW r1) (by rw [List.length_map];exact s1) (Nc a1) r2 w2 s2).mono fun e W' ⟨he,hb⟩=>?_
 subst he
 exact⟨_,rfl,KB laidOut (by kernel_rfl) (by kernel_rfl) Tryz.underlying4 rfl hW' rfl hb⟩
theorem proved:Rows.CoreDeafSaid :=
 OpenClaim.holds_of_wide 5 Tryz.f5 rfl rfl rfl rfl rfl rfl rfl ⟨rfl,rfl,rfl,rfl,rfl⟩ rfl rfl rfl rfl rfl (by kernel_rfl) Tryz.func5 (by kernel_rfl)
  (of_decide_eq_true (by kernel_rfl)) (by unfold Func.isWrapper;first|(rw [if_pos (by decide +kernel)];kernel_rfl)|(rw [if_neg (by decide +kernel)];exact⟨rfl,rfl⟩))
  (fun os started H enc _=>lifted os started H enc)
end Go.Proofs.YtelhldgdnlppfaaGreat.CoreDeaf
