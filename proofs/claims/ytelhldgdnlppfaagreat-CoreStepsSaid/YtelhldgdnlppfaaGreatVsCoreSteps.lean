/-
  CoreSteps: for every input the call tells true,and nothing that was there turns. No condition.
-/
import Derived.Test.YtelhldgdnlppfaaGreatRows
import Derived.Test.YtelhldgdnlppfaaGreatVsLaw
import Derived.Test.YtelhldgdnlppfaaGreatVsW14
import Derived.Test.YtelhldgdnlppfaaGreatVsW14
import Derived.Test.YtelhldgdnlppfaaGreatVsRyOp
import Derived.Test.YtelhldgdnlppfaaGreatVsW53
import Derived.Test.YtelhldgdnlppfaaGreatVsKrU
set_option maxHeartbeats 8000000
set_option cbv.maxSteps 8000000
set_option maxRecDepth 100000
namespace Go.Proofs.YtelhldgdnlppfaaGreat.CoreSteps
open Go Ry Law KrL KrU KsS KsT KrV KrW KrX KrY KrZ KrQ
open Go.ChangeShapes Go.WideShapes Go.ChangeAt Go.Joins Go.RowKit
open KsG (oa eJ rN iW lJ tR sv)
open KsF (EV eV dy dg ju)
open KrS (pj jB)
open ViR (bG)
noncomputable abbrev abK:=@tR
theorem VO:au Tryz.prog 8 (abK (oa VV)):=sv hbC
open KrS (Cp xv)
open ViS (jf fy dV)
open KrU (tM tc Aa yz zI yF pX qf)
open KrE (sQ uI)
noncomputable abbrev UD:=@KsD.Cp
theorem OV:au Tryz.prog 17 (UD (KsD.db VV)):=KsD.xv (V:=VV)
theorem aet (a0:Int) (a1:Int) (a2:List E) (h8:0≤a0∧a0≤255) (hpl:nH a2) (_:sized [.one (.val (.int .u8 a0)),.sqi a1,.one (.sl none (.ae .sqO a2))]):ID [(8,abK (oa VV)),(9,tM KrU.Kw.aa),(10,yv Kl.aa),(11,zw Kl.aa),(12,Aa KrU.Kw.aa),(13,acP [[none,none,none,none,none,some (.ae .eC []),some (.ints .i64 []),some (.ints .i64 []),some (.ae .bg []),none,some (.ints .i64 []),some (.ae .bg []),none,none],[none,none,none,none,none,some (.ae .eC []),some (.ints .i64 []),some (.ints .i64 []),some (.ae .bg []),none,some (.ints .i64 []),some (.ae .bg []),none,none]] (sQ KrE.Kx.aa)),(14,zI KrU.Kw.aa),(15,pX KrU.Kw.aa),(17,UD (KsD.db VV)),(18,Cp KrS.Kr.aa),(16,jf ViS.Vq.aa),(19,NG Kl.aa)] Tryz.f3 [.one (.val (.int .u8 a0)),.sqi a1,.one (.sl none (.ae .sqO a2))] [] ⟨True,.sa (B true),[],[Any,Any,Any]⟩:=by
 intro b gv;have hid:=aee h8.1 h8.2;obtain⟨D0,hD0⟩:∃ D0,D0=if eJ (1+a0 % 4) a1=true then Qx (CI (1+a0 % 4) a1) else Qx (CI 3 9):=⟨_,rfl⟩
 have hDv:Vd D0∧D0.q=[]:=by
  rw [hD0];split
  ·exact⟨(qG ‹_›).2.1,rfl⟩
  ·exact⟨(qG (show eJ 3 9=true by decide +kernel)).2.1,rfl⟩
 have hD1:eJ (1+a0 % 4) a1=true→Vd D0∧D0.q=[]∧rN VV (1+a0 % 4) a1=CI (1+a0 % 4) a1:=fun h=>⟨hDv.1,hDv.2,(qG h).1⟩;have hD2:(!eJ (1+a0 % 4) a1 || VV.ok (iW (1+a0 % 4) a1))=true:=by
  cases h:eJ (1+a0 % 4) a1
  ·have:=(ZS h).2;rw [h] at this;exact this
  ·have:=(qG h).2.2;rw [h] at this;exact this
 have hok2:eJ (1+a0 % 4) a1=decide (1≤a1∧a1≤2147483647):=by
  unfold KsG.eJ;rw [hid.2.2.2];rfl
 have hfs:=(ak.cons VO (ak.cons tc (ak.cons CA (ak.cons Be (ak.cons yz (ak.cons (bI [[none,none,none,none,none,some (.ae .eC []),some (.ints .i64 []),some (.ints .i64 []),some (.ae .bg []),none,some (.ints .i64 []),some (.ae .bg []),none,none],[none,none,none,none,none,some (.ae .eC []),some (.ints .i64 []),some (.ints .i64 []),some (.ae .bg []),none,some (.ints .i64 []),some (.ae .bg []),none,none]] uI) (ak.cons yF (ak.cons qf (ak.cons OV (ak.cons xv (ak.cons fy (ak.cons MC ak.nil rfl) rfl) rfl) rfl) rfl) rfl) rfl) rfl) rfl) rfl) rfl) rfl);generalize hF:KrL.Kl.aa=F,hG0:(oa VV)=G0,hG1:KrU.Kw.aa=G1,hG2:KrS.Kr.aa=G2,hG3:(KsD.db VV)=G3,hG4:ViS.Vq.aa=G4,hG5:KrE.Kx.aa=G5 at hfs ⊢;refine bu fun Z zq A hA L hL=>?_
 repeat' (first|(apply al zq;try dsimp only)|apply aS zq (af hL)|apply aq zq|refine aT rfl ?_|apply ai|refine ah rfl ?_|refine aR rfl ?_|exact aA|apply aB|refine aP fun _=>?_|refine aQ fun _=>?_|(constructor;cbv))
 all_goals first|(show L _ _ _;skip)|(clear hL hfs zq Z;subst hA hF hG0 hG1 hG2 hG3 hG4 hG5;simp only [oa,KrU.Kw.aa,Ar.aa] at * <;> (try simp only [Qx] at *) <;> grind [aj];done)
 all_goals
  subst hL;refine aJ (aN hfs) (xkQ 40) (fun y=>br Tryz.f3.ntmps [(2,.sl none (.ae .sqO a2)),(7,.ptr 1 0),(9,.ptr 2 0),(10,.ay y.i)] [(1,.cells 31 [.ay y.d.i,.ay y.d.ee,.ay y.d.er,.ay y.d.t,.ay y.d.p,.sl none (.ae .eC y.d.U),.sl none (.ints .i64 y.d.w),.sl none (.ints .i64 y.d.gn),.sl none (.ae .bg y.d.gl),.ay y.d.ph,.sl none (.ints .i64 y.d.tn),.sl none (.ae .bg y.d.tl),.ay y.d.l,.bK y.d.o]),(2,.cells 31 [.ay y.d.i,.ay y.d.ee,.ay y.d.er,.ay y.d.t,.ay y.d.p,.sl none (.ae .eC y.d.U),.sl none (.ints .i64 y.d.w),.sl none (.ints .i64 y.d.gn),.sl none (.ae .bg y.d.gl),.ay y.d.ph,.sl none (.ints .i64 y.d.tn),.sl none (.ae .bg y.d.tl),.ay y.d.l,.bK y.d.o])] [Any,Any,Any]) (xkM 40) (xkR 10 7) ⟨0,D0⟩ ?_ ?_ ?_
  ·exact⟨Int.le_refl 0,(by decide:(0:Int)≤40),hDv.1,hDv.2⟩
  ·cbv
   repeat' (first|exact trivial|exact rfl|refine And.intro ?_ ?_)
   all_goals (clear zq Z hfs;subst hA hF hG0 hG1 hG2 hG3 hG4 hG5;simp only [oa,KrU.Kw.aa,Ar.aa] at * <;> (try simp only [Qx] at *) <;> grind [aj])
  rintro⟨i,d⟩ hq O hO;have q0:0≤i:=hq.1;have q1:=hq.2.1;have qv:=hq.2.2.1;have qq:=hq.2.2.2;dsimp only at q1 qv qq;obtain⟨v,hv⟩:∃ v,v=evE (a2.getD i.toNat []):=⟨_,rfl⟩;have hls:=fun (h1:i < a2.length) (h2:lgB (a2.getD i.toNat [])=true) (h3:d.gl.length≤100)=>Ml qv qq (v:=v) h3 (hv ▸ acZ hpl q0 h1 h2);have hlg:lgB (a2.getD i.toNat [])=decide ((rl (a2.getD i.toNat []) 7).length≤70∧(rr (a2.getD i.toNat []) 8).length≤60):=rfl;have hnx:Qx d=d:=by show (⟨d.i,d.ee,d.er,d.t,d.p,d.U,d.w,d.gn,d.gl,d.ph,d.tn,d.tl,d.l,d.o,[]⟩:CS)=d;rw [← qq]
  have hin:i < 40→aD .add .i64 i 1=i+1:=fun h=>by rw [aW,wr _ (by omega) (by omega)]
  have hsv:=ka;have hss:=Ea;have hso:=Ev;have hoL:∀ (a:Int) (l:List E),(dx a l).length=l.length:=fun _ _=>List.length_map _;have hs22:∀ a b:CS,rP a=true→rP b=true→CE a b=true:=fun a b h1 h2=>by unfold CE;rw [h1,h2];rfl
  have hs1n:∀ a:CS,rP (Qx a)=rP a:=fun _=>rfl;have hsz:=NN qv;have hs0:rP ⟨0,0,0,0,0,[],[],[],[],0,[],[],0,false,[]⟩=true:=by decide
  subst hA;generalize hA:Ar.aa=A;generalize hL:Lp _ _ _=L;refine az zq ?_
  repeat' (first|(apply al zq;try dsimp only)|apply aS zq (af hL)|apply aq zq|refine aT rfl ?_|apply ai|refine ah rfl ?_|refine aR rfl ?_|exact aA|apply aB|refine aP fun _=>?_|refine aQ fun _=>?_|(constructor;cbv))
  all_goals first|(show L _ _ _;skip)|(clear hL hfs zq Z hq;subst hA hF hG0 hG1 hG2 hG3 hG4 hG5 hO;simp only [KrL.Kl.aa,oa,KrU.Kw.aa,KrS.Kr.aa,KsD.db,ViS.Vq.aa,KrE.Kx.aa,Ar.aa] at * <;> (try simp only [evE,lgB,Qx,xkQ,xkM] at *) <;> grind [aj];done)
theorem walk (a0:Int) (a1:Int) (a2:List E) (A2:Option Addr) (n2 c2:Nat) (w:World) (w0:(Lit.int .u8 a0).wf=true) (_:(Lit.int .i64 a1).wf=true) (r2:(SC.sl none (.ae (.int .i64 (.int .i64 (.int .i64 (.int .i64 (.int .i64 (.int .i64 (.int .i64 (.ints .i64 (.ae (.int .i64 (.int .i64 (.int .i64 (.int .i64 (.bool .nil))))) (.int .i64 (.int .i64 (.int .i64 (.int .i64 .nil))))))))))))) a2)).is (G0 w) (.slice A2 n2 c2)) (_:a2.length≤140737488355328) (p2:nH a2):Calls Tryz.prog 3 #[.int .u8 a0,.int .i64 a1,.slice A2 n2 c2] w (Law.Yes w) :=
 aaw (ak.cons VO (ak.cons tc (ak.cons CA (ak.cons Be (ak.cons yz (ak.cons (bI [[none,none,none,none,none,some (.ae (.int .i64 (.int .i64 (.int .i64 (.int .i64 (.bool (.bool (.int .i64 .nil))))))) []),some (.ints .i64 []),some (.ints .i64 []),some (.ae (.int .i64 (.int .i64 (.int .i64 (.int .i64 (.bool .nil))))) []),none,some (.ints .i64 []),some (.ae (.int .i64 (.int .i64 (.int .i64 (.int .i64 (.bool .nil))))) []),none,none],[none,none,none,none,none,some (.ae (.int .i64 (.int .i64 (.int .i64 (.int .i64 (.bool (.bool (.int .i64 .nil))))))) []),some (.ints .i64 []),some (.ints .i64 []),some (.ae (.int .i64 (.int .i64 (.int .i64 (.int .i64 (.bool .nil))))) []),none,some (.ints .i64 []),some (.ae (.int .i64 (.int .i64 (.int .i64 (.int .i64 (.bool .nil))))) []),none,none]] uI) (ak.cons yF (ak.cons qf (ak.cons OV (ak.cons xv (ak.cons fy (ak.cons MC ak.nil rfl) rfl) rfl) rfl) rfl) rfl) rfl) rfl) rfl) rfl) rfl) rfl) Tryz.func3 rfl (vs:=[.int .u8 a0,.int .i64 a1,.slice A2 n2 c2]) (by exact⟨rfl,rfl,r2,trivial⟩) (av rfl) fun hZ=>aet a0 a1 a2 (wf8 w0) p2 hZ
theorem own:ownKnob Tryz.prog.godebug=none:=by kernel_rfl
theorem laidOut:laidOutB Tryz.prog=true:=by kernel_rfl
theorem lifted (os:Os) (started:os.Started) (H:Type) (enc:TypeId × Value→H) :
  ReturnsInHanded {} Tryz.checked os 3 .any (Rows.coreStepsSpec.pre6 enc Tryz.prog Tryz.f3 Rows.coreStepsRow.domain false) (Rows.coreStepsSpec.post enc Tryz.prog Tryz.f3 false true false false):=by
 refine returnsInHanded_of_change_sized (C:=Tryz.checked) own started (by kernel_rfl) Tryz.func3
  (ChangeSpec.witness6 (enc:=enc) (C:=Tryz.checked) false ⟨#[],#[.int .u8 0,.int .i64 0,.slice none 0 0],[]⟩ 8 (by kernel_rfl) (by kernel_rfl) (by kernel_rfl) (by kernel_rfl)) ?_
 intro W base args ds gs before hval0 hW _ hz _;have hval:∀ (j:Nat) t v,Tryz.f3.params[j]? = some t→args[j]? = some v→Value.okWide Tryz.prog W .any base t v:=hval0;have hW':=hW;obtain⟨p,q,hA0,hV,rfl,_,_⟩:=hW;have hA:DataW.TrodAll enc Tryz.prog W 0 (fun _=>true) true Tryz.f3.params.toList args.toList ds p:=hA0;rw [Tryz.params3] at hA hval;obtain⟨v0,v1,v2,d0,d1,d2,p0,p1,p2,rfl,rfl,rfl,h0,h1,h2⟩:=trodAll_three hA;obtain⟨rfl,rfl⟩:=trodVars_none hV;obtain⟨a0,rfl,rfl,rfl,w0⟩:=open_int Tryz.underlying5 (hval 0 5 v0 rfl rfl) h0;obtain⟨a1,rfl,rfl,rfl,w1⟩:=open_int Tryz.underlying3 (hval 1 3 v1 rfl rfl) h1;obtain⟨A2,n2,c2,a2,rfl,l2,r2,w2⟩:=aay (s:=.int .i64 (.int .i64 (.int .i64 (.int .i64 (.int .i64 (.int .i64 (.int .i64 (.ints .i64 (.ae (.int .i64 (.int .i64 (.int .i64 (.int .i64 (.bool .nil))))) (.int .i64 (.int .i64 (.int .i64 (.int .i64 .nil))))))))))))) Tryz.underlying22 (by kernel_rfl) (by kernel_rfl) (hval 2 22 v2 rfl rfl) h2;have s2:a2.length≤140737488355328:=by rw [l2];exact Me Tryz.underlying22 (by decide +kernel) hz (j:=2) rfl rfl h2
 refine (walk a0 a1 (a2.map nE) A2 n2 c2 W w0 w1 (ado r2) (by rw [List.length_map];exact s2) (Ru a2)).mono fun e W' ⟨he,hb⟩=>?_;subst he;exact⟨_,rfl,MT laidOut (by kernel_rfl) (by kernel_rfl) Tryz.underlying4 rfl hW' rfl hb⟩
theorem proved:Rows.CoreStepsSaid :=
 OpenClaim.holds_of_wide 3 Tryz.f3 rfl rfl rfl rfl rfl rfl rfl ⟨rfl,rfl,rfl,rfl,rfl⟩ rfl rfl rfl rfl rfl (by kernel_rfl) Tryz.func3 (by kernel_rfl)
  (of_decide_eq_true (by kernel_rfl)) (by unfold Func.isWrapper;first|(rw [if_pos (by decide +kernel)];kernel_rfl)|(rw [if_neg (by decide +kernel)];exact⟨rfl,rfl⟩))
  (fun os started H enc _=>lifted os started H enc)
end Go.Proofs.YtelhldgdnlppfaaGreat.CoreSteps
