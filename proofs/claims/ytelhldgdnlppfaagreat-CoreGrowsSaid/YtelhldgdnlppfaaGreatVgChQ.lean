/-
  what a root does,as the code does it. No condition.
-/
import Derived.Test.YtelhldgdnlppfaaGreatVgChR
import Derived.Test.YtelhldgdnlppfaaGreatVgTrQ
set_option cbv.maxSteps 4000000
set_option maxHeartbeats 4000000
set_option maxRecDepth 100000
namespace Go.Proofs.YtelhldgdnlppfaaGreat.ChQ
open Go Ry Cmp ViR ViL ChR
open EgR (ka fg)
open EcX (hG)
open SpR (ia eR kU)
open TrQ (jx iw Oa ua)
open SoC (qR jP dn)
structure CH where
 k:Int
 a:Int
 b:Int
 s:Int
def WW (d:List E) (y:E):Bool:=!rb y 4 && (decide (Oa d (ri y 0) (ri y 1)=0) && decide (hG (Hy (ri y 0) (ri y 1)) (IW (ri y 0) (ri y 1)) (ri y 2) (ua d (ri y 0) (ri y 1)).1 (ua d (ri y 0) (ri y 1)).2.1 (ua d (ri y 0) (ri y 1)).2.2 < 0))
def mW (l d:List E):Option E:=(dn l).find? (WW d)
def wx (l d:List E):CH:=match mW l d with
 |some y=>⟨3,(ua d (ri y 0) (ri y 1)).1,(ua d (ri y 0) (ri y 1)).2.1,MX l (ua d (ri y 0) (ri y 1)).1 (ua d (ri y 0) (ri y 1)).2.1 (ua d (ri y 0) (ri y 1)).2.2⟩
 |none=>⟨0,0,0,0⟩
def Ai (l d:List E):Bool:=(mW l d).isSome
def evQ (l d:List E) (y:ChR.XI):Prop:=0≤y.i∧y.i≤(dn l).length∧mW l d=((dn l).drop y.i.toNat).find? (WW d)
noncomputable def evI (A:Ar) (l d s:List E) (y:ChR.XI):St:=cC Tryz.f154.ntmps [(0,.sl none (.ah (.int .i64 (.int .i64 (.int .i64 (.int .i64 (.bool .nil))))) l)),(1,.sl none (.ah (.int .i64 (.int .i64 (.int .i64 .nil))) d)),(4,.ptr 1 0),(15,.own 2),(16,.val (.int .i64 (A.dN s))),(17,.val (.int .i64 y.i))] [(1,.cells 38 [.num .i64 0,.num .i64 0,.num .i64 0,.num .i64 0]),(2,.row 94 (.ah (.int .i64 (.int .i64 (.int .i64 (.int .i64 (.bool .nil))))) s))] [Any,Any]
theorem Oy {l d:List E} (hl:l.length≤1000000) {i:Int} (hq:evQ l d ⟨i⟩):0≤i∧i≤(dn l).length∧(dn l).length=l.length∧(i < (dn l).length→aO .add .i64 i 1=i+1∧uB (dn l) ⟨i+1⟩ < uB (dn l) ⟨i⟩ ∧
  (WW d ((dn l).getD i.toNat [])=true→mW l d=some ((dn l).getD i.toNat []))∧(WW d ((dn l).getD i.toNat [])=false→evQ l d ⟨i+1⟩))∧(¬i < (dn l).length→mW l d=none):=by
 obtain⟨h0,h1,h2⟩:=hq
 simp only at h0 h1 h2
 have e:=(SoC.jV l).1
 refine⟨h0,h1,e,fun h=>⟨by rw [bo,wr _ (by omega) (by omega)],by simp only [uB];omega,fun g=>?_,fun g=>⟨by simp only;omega,by simp only;omega,?_⟩⟩,fun h=>?_⟩
 ·rw [h2,qu _ i h0 h,List.find?_cons_of_pos g]
 ·simp only
  rw [h2,qu _ i h0 h,List.find?_cons_of_neg (by rw [g];decide)]
 ·rw [h2,List.drop_of_length_le (by omega)]
  rfl
structure XZ where
 i:Int
def zQ (y:XZ):Prop:=y.i=0
def zM (_:XZ):Nat:=0
def zR (k:Nat) (st:St):XZ:=⟨bR st k⟩
noncomputable def ezI (y:XZ):St:=cC Tryz.f154.ntmps [(4,.ptr 1 0),(15,.val (.slice none 0 0)),(16,.num .i64 0),(17,.val (.int .i64 y.i))] [(1,.cells 38 [.num .i64 0,.num .i64 0,.num .i64 0,.num .i64 0])] [Any,Any]
def mh (n:List Int) (l:List E):Int:=if bf n l=true then (if kU (vC n l)=true then 0 else 11) else 1
def kO (n:List Int) (l:List E):CH:=if ¬mh n l=0 then ⟨0,0,0,0⟩ else if Ai (lF n l) (vC n l)=true then wx (lF n l) (vC n l) else if 0 < (tZ n l).length then ⟨2,(wK (tZ n l)).1,(wK (tZ n l)).2.1,(wK (tZ n l)).2.2.2.1⟩ else ⟨1,0,0,0⟩
theorem Rk (n:List Int) (l:List E):(lF n l).length≤l.length:=by
 unfold lF
 split
 ·exact By l
 ·exact Nat.zero_le _
theorem Ra (n:List Int) (l:List E):(vC n l).length≤l.length:=by
 unfold vC
 split
 ·exact Nat.le_trans (sd EC _) (By l)
 ·exact Nat.zero_le _
theorem QC (n:List Int) (l:List E):(tZ n l).length≤l.length:=by
 unfold tZ
 split
 ·exact sd (CM n) l
 ·exact Nat.zero_le _
theorem RE (d:List E):wx [] d=⟨0,0,0,0⟩∧Ai [] d=false:=by
 have h:=(SoC.jV []).1
 have e:dn []=[]:=List.eq_nil_of_length_eq_zero h
 unfold wx Ai mW
 rw [e]
 exact⟨rfl,rfl⟩
structure Cq where
 Nt:List E→List E→Int
 v_a:List E→List E→Int
 bw:List E→List E→Int
 ur:List E→List E→Int
 WL:List E→List E→Bool
 Mk:List E→List E→Bool
 aat:List Int→List E→Bool
 RT:List Int→List E→Bool
 Sr:List Int→List E→Bool
 Ir:List Int→List E→Int
 HR:List Int→List E→Int
 KI:List Int→List E→Int
 HH:List Int→List E→Int
 Iu:List Int→List E→Int
def Cq.U:Cq:=⟨fun l d=>(wx l d).k,fun l d=>(wx l d).a,fun l d=>(wx l d).b,fun l d=>(wx l d).s,Ai,fun l d=>decide (0 < l.length∧l.length≤1000000∧d.length≤1000000),fun n l=>decide (n.length≤1000000∧l.length≤1000000),fun n l=>decide (n.length≤1000000∧l.length≤1000000∧(lF n l).length=0),fun n l=>decide (n.length≤1000000∧l.length≤1000000∧0 < (lF n l).length),fun n l=>(kO n l).k,fun n l=>(kO n l).a,fun n l=>(kO n l).b,fun n l=>(kO n l).s,mh⟩
def wW (F:Cq):aY:=fun xs h=>match xs,h with
 |[.one (.sl none (.ah (.int .i64 (.int .i64 (.int .i64 (.int .i64 (.bool .nil))))) l)),.one (.sl none (.ah (.int .i64 (.int .i64 (.int .i64 .nil))) d))],[]=>some ⟨F.Mk l d=true,.bK [.agg [.val (.int .i64 (F.Nt l d)),.val (.int .i64 (F.v_a l d)),.val (.int .i64 (F.bw l d)),.val (.int .i64 (F.ur l d))],B (F.WL l d)],[],[Any,Any]⟩
 |_,_=>none
theorem Pe (l:List E) (d:List E) (hC:Cq.U.Mk l d=true):aV [(173,wE ChR.Ch.U),(139,qR SoC.Oc.U),(174,jx TrQ.Tq.U),(170,iP ViL.Vl.U),(175,ka EgR.Fs.U),(176,BN ChR.Ch.U)] Tryz.f154 [.one (.sl none (.ah (.int .i64 (.int .i64 (.int .i64 (.int .i64 (.bool .nil))))) l)),.one (.sl none (.ah (.int .i64 (.int .i64 (.int .i64 .nil))) d))] [] ⟨Cq.U.Mk l d=true,.bK [.agg [.val (.int .i64 (Cq.U.Nt l d)),.val (.int .i64 (Cq.U.v_a l d)),.val (.int .i64 (Cq.U.bw l d)),.val (.int .i64 (Cq.U.ur l d))],B (Cq.U.WL l d)],[],[Any,Any]⟩:=by
 intro b gv
 have hk:0 < l.length∧l.length≤1000000∧d.length≤1000000:=of_decide_eq_true (show decide (0 < l.length∧l.length≤1000000∧d.length≤1000000)=true from hC)
 have he1:∀ y,mW l d=some y→Ai l d=true∧(wx l d).k=3∧(wx l d).a=(ua d (ri y 0) (ri y 1)).1∧(wx l d).b=(ua d (ri y 0) (ri y 1)).2.1∧(wx l d).s=MX l (ua d (ri y 0) (ri y 1)).1 (ua d (ri y 0) (ri y 1)).2.1 (ua d (ri y 0) (ri y 1)).2.2:=fun y h=>by unfold Ai wx;rw [h];exact⟨rfl,rfl,rfl,rfl,rfl⟩
 have he0:mW l d=none→Ai l d=false∧(wx l d).k=0∧(wx l d).a=0∧(wx l d).b=0∧(wx l d).s=0:=fun h=>by unfold Ai wx;rw [h];exact⟨rfl,rfl,rfl,rfl,rfl⟩
 have hsl:=(SoC.jV l).1
 have hfs:=(af.cons Az (af.cons jP (af.cons iw (af.cons dO (af.cons fg (af.cons EA af.nil rfl) rfl) rfl) rfl) rfl) rfl)
 generalize hF:Cq.U=F at hC hfs ⊢
 generalize hG0:ViL.Vl.U=G0 at hC hfs ⊢
 generalize hG1:EgR.Fs.U=G1 at hC hfs ⊢
 generalize hG2:SpR.Sp.U=G2 at hC hfs ⊢
 generalize hG3:TrQ.Tq.U=G3 at hC hfs ⊢
 generalize hG4:ChR.Ch.U=G4 at hC hfs ⊢
 generalize hG5:SoC.Oc.U=G5 at hC hfs ⊢
 generalize hA:Ar.U=A
 generalize hL:Lp _ _ _=L
 obtain⟨Z,zq⟩:=aQ
 refine aD (ae hL) zq rfl ?_
 repeat' (first|(refine aw zq ?_;try dsimp only)|refine ax zq ?_ (ae hL)|refine az zq ?_|refine ay ?_|refine aq ?_|refine ar ?_|refine av ?_|refine au rfl ?_|refine ai rfl ?_|refine aj rfl ?_|(refine Cd.mk ?_;cbv)|(refine aE.mk ?_;cbv)|(refine aM.mk ?_;cbv)|exact trivial|refine And.intro ?_ ?_|refine bu fun _=>?_|refine br fun _=>?_)
 all_goals first|(show L _ _ _;skip)|(clear hL hfs zq Z;subst hA hF hG0 hG1 hG2 hG3 hG4 hG5;simp only [Cq.U,ChR.Ch.U,SoC.Oc.U] at * <;> grind [al];done)
 subst hL
 refine ba (bx hfs) (evQ l d) (evI A l d (G5.mv l)) (uB (dn l)) (ChR.iR 17) ⟨0⟩ ?_ ?_ ?_
 ·exact⟨Int.le_refl 0,Int.natCast_nonneg _,rfl⟩
 ·cbv
  repeat' (first|exact trivial|exact rfl|refine And.intro ?_ ?_)
 rintro⟨i⟩ hq O hO
 have hst:=Oy hk.2.1 hq
 have hp:WW d ((dn l).getD i.toNat [])=(!rb ((dn l).getD i.toNat []) 4 && (decide (Oa d (ri ((dn l).getD i.toNat []) 0) (ri ((dn l).getD i.toNat []) 1)=0) && decide (hG (Hy (ri ((dn l).getD i.toNat []) 0) (ri ((dn l).getD i.toNat []) 1)) (IW (ri ((dn l).getD i.toNat []) 0) (ri ((dn l).getD i.toNat []) 1)) (ri ((dn l).getD i.toNat []) 2) (ua d (ri ((dn l).getD i.toNat []) 0) (ri ((dn l).getD i.toNat []) 1)).1 (ua d (ri ((dn l).getD i.toNat []) 0) (ri ((dn l).getD i.toNat []) 1)).2.1 (ua d (ri ((dn l).getD i.toNat []) 0) (ri ((dn l).getD i.toNat []) 1)).2.2 < 0))):=rfl
 subst hA
 generalize hA:Ar.U=A
 generalize hL:Lp _ _ _=L
 refine aR zq ?_
 repeat' (first|(refine aw zq ?_;try dsimp only)|refine ax zq ?_ (ae hL)|refine az zq ?_|refine ay ?_|refine aq ?_|refine ar ?_|refine av ?_|refine au rfl ?_|refine ai rfl ?_|refine aj rfl ?_|(refine Cd.mk ?_;cbv)|(refine aE.mk ?_;cbv)|(refine aM.mk ?_;cbv)|exact trivial|refine And.intro ?_ ?_|refine bu fun _=>?_|refine br fun _=>?_)
 all_goals (clear hL hfs zq Z hq;subst hA hF hG0 hG1 hG2 hG3 hG4 hG5 hO;simp only [Cq.U,ViL.Vl.U,EgR.Fs.U,TrQ.Tq.U,ChR.Ch.U,SoC.Oc.U,Ar.U] at * <;> grind [al];done)
theorem zd:aA Tryz.prog 154 (wW Cq.U):=by
 refine aG (af.cons Az (af.cons jP (af.cons iw (af.cons dO (af.cons fg (af.cons EA af.nil rfl) rfl) rfl) rfl) rfl) rfl) Tryz.func154 rfl rfl fun xs h p hp=>?_
 unfold wW at hp
 split at hp
 ·cases hp
  exact⟨aB rfl,fun hC _=>Pe _ _ hC⟩
 ·cases hp
def ry (_:Cq):aY:=fun xs h=>match xs,h with
 |[.one (.val (.slice none 0 0)),.one (.sl none (.ah (.int .i64 (.int .i64 (.int .i64 .nil))) _))],[]=>some ⟨True,.bK [.agg [.val (.int .i64 0),.val (.int .i64 0),.val (.int .i64 0),.val (.int .i64 0)],B false],[],[Any,Any]⟩
 |_,_=>none
theorem KT (d:List E):aV [(173,sr ChR.Ch.U),(139,qR SoC.Oc.U),(174,jx TrQ.Tq.U),(170,iP ViL.Vl.U),(175,ka EgR.Fs.U)] Tryz.f154 [.one (.val (.slice none 0 0)),.one (.sl none (.ah (.int .i64 (.int .i64 (.int .i64 .nil))) d))] [] ⟨True,.bK [.agg [.val (.int .i64 0),.val (.int .i64 0),.val (.int .i64 0),.val (.int .i64 0)],B false],[],[Any,Any]⟩:=by
 intro b gv
 have hfs:=(af.cons vv (af.cons jP (af.cons iw (af.cons dO (af.cons fg af.nil rfl) rfl) rfl) rfl) rfl)
 generalize hF:Cq.U=F at hfs ⊢
 generalize hG0:ViL.Vl.U=G0 at hfs ⊢
 generalize hG1:EgR.Fs.U=G1 at hfs ⊢
 generalize hG2:SpR.Sp.U=G2 at hfs ⊢
 generalize hG3:TrQ.Tq.U=G3 at hfs ⊢
 generalize hG4:ChR.Ch.U=G4 at hfs ⊢
 generalize hG5:SoC.Oc.U=G5 at hfs ⊢
 generalize hA:Ar.U=A
 generalize hL:Lp _ _ _=L
 obtain⟨Z,zq⟩:=aQ
 refine aD (ae hL) zq rfl ?_
 repeat' (first|(refine aw zq ?_;try dsimp only)|refine ax zq ?_ (ae hL)|refine az zq ?_|refine ay ?_|refine aq ?_|refine ar ?_|refine av ?_|refine au rfl ?_|refine ai rfl ?_|refine aj rfl ?_|(refine Cd.mk ?_;cbv)|(refine aE.mk ?_;cbv)|(refine aM.mk ?_;cbv)|exact trivial|refine And.intro ?_ ?_|refine bu fun _=>?_|refine br fun _=>?_)
 subst hL
 refine ba (bx hfs) (zQ) (ezI) (zM) (zR 17) ⟨0⟩ ?_ ?_ ?_
 ·exact rfl
 ·cbv
  repeat' (first|exact trivial|exact rfl|refine And.intro ?_ ?_)
 rintro⟨i⟩ hq O hO
 have hi:i=0:=hq
 subst hA
 generalize hA:Ar.U=A
 generalize hL:Lp _ _ _=L
 refine aR zq ?_
 repeat' (first|(refine aw zq ?_;try dsimp only)|refine ax zq ?_ (ae hL)|refine az zq ?_|refine ay ?_|refine aq ?_|refine ar ?_|refine av ?_|refine au rfl ?_|refine ai rfl ?_|refine aj rfl ?_|(refine Cd.mk ?_;cbv)|(refine aE.mk ?_;cbv)|(refine aM.mk ?_;cbv)|exact trivial|refine And.intro ?_ ?_|refine bu fun _=>?_|refine br fun _=>?_)
 all_goals (clear hL zq Z hq;first|(exfalso;subst hA hF hG0 hG1 hG2 hG3 hG4 hG5 hO;simp only [ViL.Vl.U,EgR.Fs.U,TrQ.Tq.U,ChR.Ch.U,SoC.Oc.U,Ar.U] at * <;> grind [al];done)|(subst hA hF hG0 hG1 hG2 hG3 hG4 hG5 hO;simp only [Cq.U,ViL.Vl.U,EgR.Fs.U,SpR.Sp.U,TrQ.Tq.U,ChR.Ch.U,SoC.Oc.U,Ar.U,List.nil_append] at * <;> grind [al];done))
theorem vP:aA Tryz.prog 154 (ry Cq.U):=by
 refine aG (af.cons vv (af.cons jP (af.cons iw (af.cons dO (af.cons fg af.nil rfl) rfl) rfl) rfl) rfl) Tryz.func154 rfl rfl fun xs h p hp=>?_
 unfold ry at hp
 split at hp
 ·cases hp
  exact⟨aB rfl,fun _ _=>KT _⟩
 ·cases hp
def GW (F:Cq):aY:=fun xs h=>match xs,h with
 |[.agg [.sl none (.ints .i64 v_n),.sl none (.ah (.int .i64 (.int .i64 (.int .i64 (.int .i64 (.bool .nil))))) v_l)]],[]=>some ⟨F.RT v_n v_l=true,.bK [.agg [.val (.int .i64 (F.Ir v_n v_l)),.val (.int .i64 (F.HR v_n v_l)),.val (.int .i64 (F.KI v_n v_l)),.val (.int .i64 (F.HH v_n v_l))],I (F.Iu v_n v_l)],[],[Any]⟩
 |_,_=>none
theorem Uc (v_n:List Int) (v_l:List E) (hC:Cq.U.RT v_n v_l=true):aV [(151,tz ChR.Ch.U),(152,qB ViL.Vl.U),(153,ia SpR.Sp.U),(154,ry Cq.U),(155,qZ ViL.Vl.U),(156,xd ChR.Ch.U)] Tryz.f127 [.agg [.sl none (.ints .i64 v_n),.sl none (.ah (.int .i64 (.int .i64 (.int .i64 (.int .i64 (.bool .nil))))) v_l)]] [] ⟨Cq.U.RT v_n v_l=true,.bK [.agg [.val (.int .i64 (Cq.U.Ir v_n v_l)),.val (.int .i64 (Cq.U.HR v_n v_l)),.val (.int .i64 (Cq.U.KI v_n v_l)),.val (.int .i64 (Cq.U.HH v_n v_l))],I (Cq.U.Iu v_n v_l)],[],[Any]⟩:=by
 intro b gv
 have hk:v_n.length≤1000000∧v_l.length≤1000000∧(lF v_n v_l).length=0:=of_decide_eq_true (show decide (v_n.length≤1000000∧v_l.length≤1000000∧(lF v_n v_l).length=0)=true from hC)
 have h1:=Rk v_n v_l
 have h2:=Ra v_n v_l
 have h3:=QC v_n v_l
 have h4:mh v_n v_l=if bf v_n v_l=true then (if kU (vC v_n v_l)=true then 0 else 11) else 1:=rfl
 have h5:ob v_n v_l=if bf v_n v_l=true then 0 else 1:=rfl
 have h6:¬mh v_n v_l=0→kO v_n v_l=⟨0,0,0,0⟩:=fun h=>if_pos h
 have h7:mh v_n v_l=0→Ai (lF v_n v_l) (vC v_n v_l)=true→kO v_n v_l=wx (lF v_n v_l) (vC v_n v_l):=fun h g=>by unfold kO;rw [if_neg (fun k=>k h),if_pos g]
 have h8:mh v_n v_l=0→Ai (lF v_n v_l) (vC v_n v_l)=false→0 < (tZ v_n v_l).length→kO v_n v_l=⟨2,(wK (tZ v_n v_l)).1,(wK (tZ v_n v_l)).2.1,(wK (tZ v_n v_l)).2.2.2.1⟩:=fun h g z=>by unfold kO;rw [if_neg (fun k=>k h),if_neg (by rw [g];decide),if_pos z]
 have h9:mh v_n v_l=0→Ai (lF v_n v_l) (vC v_n v_l)=false→¬0 < (tZ v_n v_l).length→kO v_n v_l=⟨1,0,0,0⟩:=fun h g z=>by unfold kO;rw [if_neg (fun k=>k h),if_neg (by rw [g];decide),if_neg z]
 have hn:Ai (lF v_n v_l) (vC v_n v_l)=false:=by rw [List.eq_nil_of_length_eq_zero hk.2.2];exact (RE _).2
 have hfs:=(af.cons vM (af.cons mU (af.cons eR (af.cons vP (af.cons nZ (af.cons rk af.nil rfl) rfl) rfl) rfl) rfl) rfl)
 generalize hF:Cq.U=F at hC hfs ⊢
 generalize hG0:ViL.Vl.U=G0 at hC hfs ⊢
 generalize hG1:EgR.Fs.U=G1 at hC hfs ⊢
 generalize hG2:SpR.Sp.U=G2 at hC hfs ⊢
 generalize hG3:TrQ.Tq.U=G3 at hC hfs ⊢
 generalize hG4:ChR.Ch.U=G4 at hC hfs ⊢
 generalize hG5:SoC.Oc.U=G5 at hC hfs ⊢
 generalize hA:Ar.U=A
 generalize hL:Lp _ _ _=L
 obtain⟨Z,zq⟩:=aQ
 refine aD (ae hL) zq rfl ?_
 repeat' (first|(refine aw zq ?_;try dsimp only)|refine ax zq ?_ (ae hL)|refine az zq ?_|refine ay ?_|refine aq ?_|refine ar ?_|refine av ?_|refine au rfl ?_|refine ai rfl ?_|refine aj rfl ?_|(refine Cd.mk ?_;cbv)|(refine aE.mk ?_;cbv)|(refine aM.mk ?_;cbv)|exact trivial|refine And.intro ?_ ?_|refine bu fun _=>?_|refine br fun _=>?_)
 all_goals
  clear hL zq Z
  try clear hfs
  subst hA hF hG0 hG1 hG2 hG3 hG4 hG5
  simp only [Cq.U,ViL.Vl.U,SpR.Sp.U,ChR.Ch.U,Ar.U] at *
  try (grind [al])
theorem PG:aA Tryz.prog 127 (GW Cq.U):=by
 refine aG (af.cons vM (af.cons mU (af.cons eR (af.cons vP (af.cons nZ (af.cons rk af.nil rfl) rfl) rfl) rfl) rfl) rfl) Tryz.func127 rfl rfl fun xs h p hp=>?_
 unfold GW at hp
 split at hp
 ·cases hp
  exact⟨aB rfl,fun hC _=>Uc _ _ hC⟩
 ·cases hp
def JU (F:Cq):aY:=fun xs h=>match xs,h with
 |[.agg [.sl none (.ints .i64 v_n),.sl none (.ah (.int .i64 (.int .i64 (.int .i64 (.int .i64 (.bool .nil))))) v_l)]],[]=>some ⟨F.Sr v_n v_l=true,.bK [.agg [.val (.int .i64 (F.Ir v_n v_l)),.val (.int .i64 (F.HR v_n v_l)),.val (.int .i64 (F.KI v_n v_l)),.val (.int .i64 (F.HH v_n v_l))],I (F.Iu v_n v_l)],[],[Any]⟩
 |_,_=>none
theorem Rp (v_n:List Int) (v_l:List E) (hC:Cq.U.Sr v_n v_l=true):aV [(151,qD ViL.Vl.U),(152,qB ViL.Vl.U),(153,ia SpR.Sp.U),(154,wW Cq.U),(155,qZ ViL.Vl.U),(156,xd ChR.Ch.U)] Tryz.f127 [.agg [.sl none (.ints .i64 v_n),.sl none (.ah (.int .i64 (.int .i64 (.int .i64 (.int .i64 (.bool .nil))))) v_l)]] [] ⟨Cq.U.Sr v_n v_l=true,.bK [.agg [.val (.int .i64 (Cq.U.Ir v_n v_l)),.val (.int .i64 (Cq.U.HR v_n v_l)),.val (.int .i64 (Cq.U.KI v_n v_l)),.val (.int .i64 (Cq.U.HH v_n v_l))],I (Cq.U.Iu v_n v_l)],[],[Any]⟩:=by
 intro b gv
 have hk:v_n.length≤1000000∧v_l.length≤1000000∧0 < (lF v_n v_l).length:=of_decide_eq_true (show decide (v_n.length≤1000000∧v_l.length≤1000000∧0 < (lF v_n v_l).length)=true from hC)
 have h1:=Rk v_n v_l
 have h2:=Ra v_n v_l
 have h3:=QC v_n v_l
 have h4:mh v_n v_l=if bf v_n v_l=true then (if kU (vC v_n v_l)=true then 0 else 11) else 1:=rfl
 have h5:ob v_n v_l=if bf v_n v_l=true then 0 else 1:=rfl
 have h6:¬mh v_n v_l=0→kO v_n v_l=⟨0,0,0,0⟩:=fun h=>if_pos h
 have h7:mh v_n v_l=0→Ai (lF v_n v_l) (vC v_n v_l)=true→kO v_n v_l=wx (lF v_n v_l) (vC v_n v_l):=fun h g=>by unfold kO;rw [if_neg (fun k=>k h),if_pos g]
 have h8:mh v_n v_l=0→Ai (lF v_n v_l) (vC v_n v_l)=false→0 < (tZ v_n v_l).length→kO v_n v_l=⟨2,(wK (tZ v_n v_l)).1,(wK (tZ v_n v_l)).2.1,(wK (tZ v_n v_l)).2.2.2.1⟩:=fun h g z=>by unfold kO;rw [if_neg (fun k=>k h),if_neg (by rw [g];decide),if_pos z]
 have h9:mh v_n v_l=0→Ai (lF v_n v_l) (vC v_n v_l)=false→¬0 < (tZ v_n v_l).length→kO v_n v_l=⟨1,0,0,0⟩:=fun h g z=>by unfold kO;rw [if_neg (fun k=>k h),if_neg (by rw [g];decide),if_neg z]
 have hfs:=(af.cons nX (af.cons mU (af.cons eR (af.cons zd (af.cons nZ (af.cons rk af.nil rfl) rfl) rfl) rfl) rfl) rfl)
 generalize hF:Cq.U=F at hC hfs ⊢
 generalize hG0:ViL.Vl.U=G0 at hC hfs ⊢
 generalize hG1:EgR.Fs.U=G1 at hC hfs ⊢
 generalize hG2:SpR.Sp.U=G2 at hC hfs ⊢
 generalize hG3:TrQ.Tq.U=G3 at hC hfs ⊢
 generalize hG4:ChR.Ch.U=G4 at hC hfs ⊢
 generalize hG5:SoC.Oc.U=G5 at hC hfs ⊢
 generalize hA:Ar.U=A
 generalize hL:Lp _ _ _=L
 obtain⟨Z,zq⟩:=aQ
 refine aD (ae hL) zq rfl ?_
 repeat' (first|(refine aw zq ?_;try dsimp only)|refine ax zq ?_ (ae hL)|refine az zq ?_|refine ay ?_|refine aq ?_|refine ar ?_|refine av ?_|refine au rfl ?_|refine ai rfl ?_|refine aj rfl ?_|(refine Cd.mk ?_;cbv)|(refine aE.mk ?_;cbv)|(refine aM.mk ?_;cbv)|exact trivial|refine And.intro ?_ ?_|refine bu fun _=>?_|refine br fun _=>?_)
 all_goals
  clear hL zq Z
  try clear hfs
  subst hA hF hG0 hG1 hG2 hG3 hG4 hG5
  simp only [Cq.U,ViL.Vl.U,SpR.Sp.U,ChR.Ch.U,Ar.U] at *
  try (grind [al])
theorem MF:aA Tryz.prog 127 (JU Cq.U):=by
 refine aG (af.cons nX (af.cons mU (af.cons eR (af.cons zd (af.cons nZ (af.cons rk af.nil rfl) rfl) rfl) rfl) rfl) rfl) Tryz.func127 rfl rfl fun xs h p hp=>?_
 unfold JU at hp
 split at hp
 ·cases hp
  exact⟨aB rfl,fun hC _=>Rp _ _ hC⟩
 ·cases hp
theorem IV {P:Program} {f:FuncId} {c c1 c2:aY} (ok1:aA P f c1) (ok2:aA P f c2)
  (h:∀ xs h p,c xs h=some p→p.C→(∃ C,c1 xs h=some ⟨C,p.r,p.h,p.as⟩∧C)∨∃ C,c2 xs h=some ⟨C,p.r,p.h,p.as⟩∧C):aA P f c:=by
 refine⟨ok1.1,fun args h' p hp hC G vs hh hbs hm hv=>?_⟩
 rcases h _ _ _ hp hC with ⟨C,h1,h2⟩ | ⟨C,h1,h2⟩
 ·exact ok1.2 args h' _ h1 h2 G vs hh hbs hm hv
 ·exact ok2.2 args h' _ h1 h2 G vs hh hbs hm hv
def mY (F:Cq):aY:=fun xs h=>match xs,h with
 |[.agg [.sl none (.ints .i64 v_n),.sl none (.ah (.int .i64 (.int .i64 (.int .i64 (.int .i64 (.bool .nil))))) v_l)]],[]=>some ⟨F.aat v_n v_l=true,.bK [.agg [.val (.int .i64 (F.Ir v_n v_l)),.val (.int .i64 (F.HR v_n v_l)),.val (.int .i64 (F.KI v_n v_l)),.val (.int .i64 (F.HH v_n v_l))],I (F.Iu v_n v_l)],[],[Any]⟩
 |_,_=>none
theorem oK:aA Tryz.prog 127 (mY Cq.U):=by
 refine IV PG MF fun xs h p hp hC=>?_
 unfold mY at hp
 split at hp
 ·rename_i n l
  cases hp
  have hk:n.length≤1000000∧l.length≤1000000:=of_decide_eq_true hC
  by_cases h1:(lF n l).length=0
  ·exact .inl ⟨_,rfl,decide_eq_true ⟨hk.1,hk.2,h1⟩⟩
  ·exact .inr ⟨_,rfl,decide_eq_true ⟨hk.1,hk.2,Nat.pos_of_ne_zero h1⟩⟩
 ·cases hp
end Go.Proofs.YtelhldgdnlppfaaGreat.ChQ
