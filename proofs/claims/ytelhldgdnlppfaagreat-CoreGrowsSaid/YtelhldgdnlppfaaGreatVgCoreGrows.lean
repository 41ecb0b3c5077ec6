/-
  CoreGrows: for every input the call tells true,and nothing that was there turns. No condition.
-/
import Derived.Test.YtelhldgdnlppfaaGreatRows
import Derived.Test.YtelhldgdnlppfaaGreatVgLaw
import Derived.Test.YtelhldgdnlppfaaGreatVgW14
import Derived.Test.YtelhldgdnlppfaaGreatVgW14
import Derived.Test.YtelhldgdnlppfaaGreatVgRyOp
import Derived.Test.YtelhldgdnlppfaaGreatVgW54
import Derived.Test.YtelhldgdnlppfaaGreatVgKrG
set_option maxHeartbeats 8000000
set_option cbv.maxSteps 8000000
set_option maxRecDepth 100000
namespace Go.Proofs.YtelhldgdnlppfaaGreat.CoreGrows
open Go Ry Law KrL KrG KsS KsT KrV KrW KrX KrY KrZ KrQ
open Go.ChangeShapes Go.WideShapes Go.ChangeAt Go.Joins Go.RowKit
open KsG (fD fJ tr iz qW po mO)
open KsF (EV eJ fC cJ mW)
open KrS (mq xp)
open ViR (cm)
noncomputable abbrev WC:=@po
theorem Rj:aA Tryz.prog 8 (WC (fD VV)):=mO Vm
theorem SG {a:Int} (h0:0≤a) (_:a≤255):aO .rem .u8 a 12=a % 12∧IntKind.i64.wrap (a % 12)=a % 12∧aO .add .i64 1 (a % 12)=1+a % 12:=by
 refine⟨?_,wr _ (by omega) (by omega),by rw [bo,wr _ (by omega) (by omega)]⟩
 show a.tmod 12=a % 12
 rw [Int.tmod_eq_emod_of_nonneg h0]
theorem Ya (a0:Int) (a1:Int) (a2:List E) (h8:0≤a0∧a0≤255) (h9:0≤a1∧a1≤255) (hpl:lQ a2) (_:sized [.one (.val (.int .u8 a0)),.one (.val (.int .u8 a1)),.one (.sl none (.ah (.int .i64 (.int .i64 (.int .i64 (.int .i64 (.int .i64 (.int .i64 (.int .i64 (.ints .i64 (.ah (.int .i64 (.int .i64 (.int .i64 (.int .i64 (.bool .nil))))) (.int .i64 (.int .i64 (.int .i64 (.int .i64 .nil))))))))))))) a2))]):aV [(8,WC (fD VV)),(10,yo Kl.U),(11,wZ Kl.U),(20,lY Kl.U),(19,KM Kl.U)] Tryz.f4 [.one (.val (.int .u8 a0)),.one (.val (.int .u8 a1)),.one (.sl none (.ah (.int .i64 (.int .i64 (.int .i64 (.int .i64 (.int .i64 (.int .i64 (.int .i64 (.ints .i64 (.ah (.int .i64 (.int .i64 (.int .i64 (.int .i64 (.bool .nil))))) (.int .i64 (.int .i64 (.int .i64 (.int .i64 .nil))))))))))))) a2))] [] ⟨True,.sa (B true),[],[Any,Any,Any]⟩:=by
 intro b gv
 have hid:=WR h8.1 h8.2
 obtain⟨D0,hD0⟩:∃ D0,D0=GA (Gj (1+a0 % 4) (1+a1 % 12)):=⟨_,rfl⟩
 have hD1:fJ (1+a0 % 4) (1+a1 % 12)=true→Vd D0∧D0.q=[]∧tr VV (1+a0 % 4) (1+a1 % 12)=Gj (1+a0 % 4) (1+a1 % 12):=fun h=>⟨hD0 ▸ (rR h).2.1,by rw [hD0];rfl,(rR h).1⟩
 have hD2:(!fJ (1+a0 % 4) (1+a1 % 12) || VV.ok (iz (1+a0 % 4) (1+a1 % 12)))=true:=by
  cases h:fJ (1+a0 % 4) (1+a1 % 12)
  ·have:=(SD h).2
   rw [h] at this
   exact this
  ·have:=(rR h).2.2
   rw [h] at this
   exact this
 have hid2:=SG h9.1 h9.2
 have hok:fJ (1+a0 % 4) (1+a1 % 12)=true:=by
  unfold KsG.fJ
  rw [hid.2.2.2,decide_eq_true (show 1≤1+a1 % 12∧1+a1 % 12≤2147483647 by omega)]
  rfl
 have hD3:=hD1 hok
 have hD4:Ov D0:=hD0 ▸ TV _ _ hid.2.2.2
 have hfs:=(af.cons Rj (af.cons AD (af.cons yP (af.cons nM (af.cons Lw af.nil rfl) rfl) rfl) rfl) rfl)
 generalize hF:KrL.Kl.U=F at hfs ⊢
 generalize hG0:(fD VV)=G0 at hfs ⊢
 generalize hA:Ar.U=A
 generalize hL:Lp _ _ _=L
 obtain⟨Z,zq⟩:=aQ
 refine @aD _ _ _ _ _ _ _ (ae hL) _ _ zq rfl ?_
 repeat' (first|(refine aw zq ?_;try dsimp only)|refine ax zq ?_ (ae hL)|refine az zq ?_|refine ay ?_|refine aq ?_|refine ar ?_|refine av ?_|refine au rfl ?_|refine ai rfl ?_|refine aj rfl ?_|(refine Cd.mk ?_;cbv)|(refine aE.mk ?_;cbv)|(refine aM.mk ?_;cbv)|exact trivial|refine And.intro ?_ ?_|refine bu fun _=>?_|refine br fun _=>?_)
 all_goals first|(show L _ _ _;skip)|(clear hL hfs zq Z;subst hA hF hG0;simp only [fD,Ar.U] at * <;> (try simp only [GA] at *) <;> grind [al];done)
 subst hL
 refine ba (bx hfs) (fun y=>xkQ 40 y∧Ov y.d) (fun y=>cC Tryz.f4.ntmps [(2,.sl none (.ah (.int .i64 (.int .i64 (.int .i64 (.int .i64 (.int .i64 (.int .i64 (.int .i64 (.ints .i64 (.ah (.int .i64 (.int .i64 (.int .i64 (.int .i64 (.bool .nil))))) (.int .i64 (.int .i64 (.int .i64 (.int .i64 .nil))))))))))))) a2)),(7,.ptr 1 0),(9,.val (.int .i64 y.i))] [(1,.cells 31 [.val (.int .i64 y.d.i),.val (.int .i64 y.d.ee),.val (.int .i64 y.d.er),.val (.int .i64 y.d.t),.val (.int .i64 y.d.p),.sl none (.ah (.int .i64 (.int .i64 (.int .i64 (.int .i64 (.bool (.bool (.int .i64 .nil))))))) y.d.aa),.sl none (.ints .i64 y.d.w),.sl none (.ints .i64 y.d.gn),.sl none (.ah (.int .i64 (.int .i64 (.int .i64 (.int .i64 (.bool .nil))))) y.d.gl),.val (.int .i64 y.d.ph),.sl none (.ints .i64 y.d.tn),.sl none (.ah (.int .i64 (.int .i64 (.int .i64 (.int .i64 (.bool .nil))))) y.d.tl),.val (.int .i64 y.d.l),.val (.bool y.d.o)])] [Any,Any,Any]) (xkM 40) (xkR 9 7) ⟨0,D0⟩ ?_ ?_ ?_
 ·exact⟨⟨Int.le_refl 0,(by decide:(0:Int)≤40),hD3.1,hD3.2.1⟩,hD4⟩
 ·cbv
  repeat' (first|exact trivial|exact rfl|refine And.intro ?_ ?_)
  all_goals (clear zq Z hfs;subst hA hF hG0;simp only [fD,Ar.U] at * <;> (try simp only [GA] at *) <;> grind [al])
 rintro⟨i,d⟩ hq O hO
 have q0:0≤i:=hq.1.1
 have q1:=hq.1.2.1
 have qv:=hq.1.2.2.1
 have qq:=hq.1.2.2.2
 dsimp only at q1 qv qq
 obtain⟨v,hv⟩:∃ v,v=YE (a2.getD i.toNat []):=⟨_,rfl⟩
 have hls:=fun (h1:i < a2.length) (h2:RZ (a2.getD i.toNat [])=true) (h3:d.gl.length≤100)=>GM qv qq (v:=v) h3 (hv ▸ Re hpl q0 h1 h2)
 have hlg:RZ (a2.getD i.toNat [])=decide ((rl (a2.getD i.toNat []) 7).length≤70∧(rr (a2.getD i.toNat []) 8).length≤60):=rfl
 have hnx:GA d=d:=by show (⟨d.i,d.ee,d.er,d.t,d.p,d.aa,d.w,d.gn,d.gl,d.ph,d.tn,d.tl,d.l,d.o,[]⟩:CS)=d;rw [← qq]
 have qo:=hq.2
 dsimp only at qo
 obtain⟨X,hX⟩:∃ X,X=cJ VV d v:=⟨_,rfl⟩
 have hgr:=fun (h1:i < a2.length) (h2:RZ (a2.getD i.toNat [])=true) (h3:d.gl.length≤100) (h4:fC d.i v=true)=>KD qv qo h3 (hv ▸ Re hpl q0 h1 h2) h4
 have hin:i < 40→aO .add .i64 i 1=i+1:=fun h=>by rw [bo,wr _ (by omega) (by omega)]
 have hch:fC d.i v=true∨fC d.i v=false:=by cases fC d.i v <;> simp
 subst hA
 generalize hA:Ar.U=A
 generalize hL:Lp _ _ _=L
 refine aR zq ?_
 repeat' (first|(refine aw zq ?_;try dsimp only)|refine ax zq ?_ (ae hL)|refine az zq ?_|refine ay ?_|refine aq ?_|refine ar ?_|refine av ?_|refine au rfl ?_|refine ai rfl ?_|refine aj rfl ?_|(refine Cd.mk ?_;cbv)|(refine aE.mk ?_;cbv)|(refine aM.mk ?_;cbv)|exact trivial|refine And.intro ?_ ?_|refine bu fun _=>?_|refine br fun _=>?_)
 all_goals first|(show L _ _ _;skip)|(clear hL hfs zq Z hq;subst hA hF hG0 hO;simp only [KrL.Kl.U,fD,Ar.U] at * <;> (try simp only [YE,RZ,GA,xkQ,xkM] at *) <;> grind [al];done)
 all_goals
  subst hL
  refine ba (bx hfs) (fun (y:KsC.XI)=>0≤y.i∧y.i≤(X.aa.length:Int)) (fun y=>cC Tryz.f4.ntmps [(2,.sl none (.ah (.int .i64 (.int .i64 (.int .i64 (.int .i64 (.int .i64 (.int .i64 (.int .i64 (.ints .i64 (.ah (.int .i64 (.int .i64 (.int .i64 (.int .i64 (.bool .nil))))) (.int .i64 (.int .i64 (.int .i64 (.int .i64 .nil))))))))))))) a2)),(7,.ptr 1 0),(9,.val (.int .i64 i)),(10,.ptr 2 0),(13,.val (.int .i64 y.i))] [(1,.cells 31 [.val (.int .i64 d.i),.val (.int .i64 d.ee),.val (.int .i64 d.er),.val (.int .i64 d.t),.val (.int .i64 d.p),.sl none (.ah (.int .i64 (.int .i64 (.int .i64 (.int .i64 (.bool (.bool (.int .i64 .nil))))))) d.aa),.sl none (.ints .i64 d.w),.sl none (.ints .i64 d.gn),.sl none (.ah (.int .i64 (.int .i64 (.int .i64 (.int .i64 (.bool .nil))))) d.gl),.val (.int .i64 d.ph),.sl none (.ints .i64 d.tn),.sl none (.ah (.int .i64 (.int .i64 (.int .i64 (.int .i64 (.bool .nil))))) d.tl),.val (.int .i64 d.l),.val (.bool d.o)]),(2,.cells 31 [.val (.int .i64 X.i),.val (.int .i64 X.ee),.val (.int .i64 X.er),.val (.int .i64 X.t),.val (.int .i64 X.p),.sl none (.ah (.int .i64 (.int .i64 (.int .i64 (.int .i64 (.bool (.bool (.int .i64 .nil))))))) X.aa),.sl none (.ints .i64 X.w),.sl none (.ints .i64 X.gn),.sl none (.ah (.int .i64 (.int .i64 (.int .i64 (.int .i64 (.bool .nil))))) X.gl),.val (.int .i64 X.ph),.sl none (.ints .i64 X.tn),.sl none (.ah (.int .i64 (.int .i64 (.int .i64 (.int .i64 (.bool .nil))))) X.tl),.val (.int .i64 X.l),.val (.bool X.o)])] [Any,Any,Any]) (fun y=>X.aa.length - y.i.toNat) (fun st=>(⟨bR st 13⟩:KsC.XI)) ⟨0⟩ ?_ ?_ ?_
  ·exact⟨Int.le_refl 0,Int.natCast_nonneg _⟩
  ·cbv
   repeat' (first|exact trivial|exact rfl|refine And.intro ?_ ?_)
   all_goals (clear zq Z hfs hq;subst hA hF hG0 hO;simp only [KrL.Kl.U,fD,Ar.U] at * <;> (try simp only [YE,RZ,GA] at *) <;> grind [al])
  rintro⟨k⟩ hq2 O2 hO2
  have p0:0≤k:=hq2.1
  have p1:k≤X.aa.length:=hq2.2
  have hkk:X.aa.length≤64→k < X.aa.length→aO .add .i64 k 1=k+1:=fun h1 h2=>by rw [bo,wr _ (by omega) (by omega)]
  subst hA
  generalize hA:Ar.U=A
  generalize hL:Lp _ _ _=L
  refine aR zq ?_
  repeat' (first|(refine aw zq ?_;try dsimp only)|refine ax zq ?_ (ae hL)|refine az zq ?_|refine ay ?_|refine aq ?_|refine ar ?_|refine av ?_|refine au rfl ?_|refine ai rfl ?_|refine aj rfl ?_|(refine Cd.mk ?_;cbv)|(refine aE.mk ?_;cbv)|(refine aM.mk ?_;cbv)|exact trivial|refine And.intro ?_ ?_|refine bu fun _=>?_|refine br fun _=>?_)
  all_goals first|(show L _ _ _;skip)|(clear hL hfs zq Z hq hq2;subst hA hF hG0 hO hO2;simp only [KrL.Kl.U,fD,Ar.U] at * <;> (try simp only [YE,RZ,GA,xkQ,xkM] at *) <;> grind [al];done)
theorem walk (a0:Int) (a1:Int) (a2:List E) (A2:Option Addr) (n2 c2:Nat) (w:World) (w0:(Lit.int .u8 a0).wf=true) (w1:(Lit.int .u8 a1).wf=true) (r2:(SC.sl none (.ah (.int .i64 (.int .i64 (.int .i64 (.int .i64 (.int .i64 (.int .i64 (.int .i64 (.ints .i64 (.ah (.int .i64 (.int .i64 (.int .i64 (.int .i64 (.bool .nil))))) (.int .i64 (.int .i64 (.int .i64 (.int .i64 .nil))))))))))))) a2)).is (G0 w) (.slice A2 n2 c2)) (_:a2.length≤140737488355328) (p2:lQ a2):Calls Tryz.prog 4 #[.int .u8 a0,.int .u8 a1,.slice A2 n2 c2] w (Law.ZX w) :=
 Sf (af.cons Rj (af.cons AD (af.cons yP (af.cons nM (af.cons Lw af.nil rfl) rfl) rfl) rfl) rfl) Tryz.func4 rfl (vs:=[.int .u8 a0,.int .u8 a1,.slice A2 n2 c2]) (by exact⟨rfl,rfl,r2,trivial⟩) (aB rfl) fun hZ=>Ya a0 a1 a2 (wf8 w0) (wf8 w1) p2 hZ
theorem own:ownKnob Tryz.prog.godebug=none:=by kernel_rfl
theorem laidOut:laidOutB Tryz.prog=true:=by kernel_rfl
theorem lifted (os:Os) (started:os.Started) (H:Type) (enc:TypeId × Value→H) :
  ReturnsInHanded {} Tryz.checked os 4 .any (Rows.coreGrowsSpec.pre6 enc Tryz.prog Tryz.f4 Rows.coreGrowsRow.domain false) (Rows.coreGrowsSpec.post enc Tryz.prog Tryz.f4 false true false false):=by
 refine returnsInHanded_of_change_sized (C:=Tryz.checked) own started (by kernel_rfl) Tryz.func4
  (ChangeSpec.witness6 (enc:=enc) (C:=Tryz.checked) false ⟨#[],#[.int .u8 0,.int .u8 0,.slice none 0 0],[]⟩ 8 (by kernel_rfl) (by kernel_rfl) (by kernel_rfl) (by kernel_rfl)) ?_
 intro W base args ds gs before hval0 hW _ hz _
 have hval:∀ (j:Nat) t v,Tryz.f4.params[j]? = some t→args[j]? = some v→Value.okWide Tryz.prog W .any base t v:=hval0
 have hW':=hW
 obtain⟨p,q,hA0,hV,rfl,_,_⟩:=hW
 have hA:DataW.TrodAll enc Tryz.prog W 0 (fun _=>true) true Tryz.f4.params.toList args.toList ds p:=hA0
 rw [Tryz.params4] at hA hval
 obtain⟨v0,v1,v2,d0,d1,d2,p0,p1,p2,rfl,rfl,rfl,h0,h1,h2⟩:=trodAll_three hA
 obtain⟨rfl,rfl⟩:=trodVars_none hV
 obtain⟨a0,rfl,rfl,rfl,w0⟩:=open_int Tryz.underlying5 (hval 0 5 v0 rfl rfl) h0
 obtain⟨a1,rfl,rfl,rfl,w1⟩:=open_int Tryz.underlying5 (hval 1 5 v1 rfl rfl) h1
 obtain⟨A2,n2,c2,a2,rfl,l2,r2,w2⟩:=TU (s:=.int .i64 (.int .i64 (.int .i64 (.int .i64 (.int .i64 (.int .i64 (.int .i64 (.ints .i64 (.ah (.int .i64 (.int .i64 (.int .i64 (.int .i64 (.bool .nil))))) (.int .i64 (.int .i64 (.int .i64 (.int .i64 .nil))))))))))))) Tryz.underlying22 (by kernel_rfl) (by kernel_rfl) (hval 2 22 v2 rfl rfl) h2
 have s2:a2.length≤140737488355328:=by rw [l2];exact Ld Tryz.underlying22 (by decide +kernel) hz (j:=2) rfl rfl h2
 refine (walk a0 a1 (a2.map nE) A2 n2 c2 W w0 w1 (WI r2) (by rw [List.length_map];exact s2) (OS a2)).mono fun e W' ⟨he,hb⟩=>?_
 subst he
 exact⟨_,rfl,Jd laidOut (by kernel_rfl) (by kernel_rfl) Tryz.underlying4 rfl hW' rfl hb⟩
theorem proved:Rows.CoreGrowsSaid :=
 OpenClaim.holds_of_wide 4 Tryz.f4 rfl rfl rfl rfl rfl rfl rfl ⟨rfl,rfl,rfl,rfl,rfl⟩ rfl rfl rfl rfl rfl (by kernel_rfl) Tryz.func4 (by kernel_rfl)
  (of_decide_eq_true (by kernel_rfl)) (by unfold Func.isWrapper;first|(rw [if_pos (by decide +kernel)];kernel_rfl)|(rw [if_neg (by decide +kernel)];exact⟨rfl,rfl⟩))
  (fun os started H enc _=>lifted os started H enc)
end Go.Proofs.YtelhldgdnlppfaaGreat.CoreGrows
