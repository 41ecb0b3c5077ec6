/-
  what a root does,as the code does it. No condition.
-/
import Derived.Test.YtelhldgdnlppfaaGreatVdChR
import Derived.Test.YtelhldgdnlppfaaGreatVdTrQ
set_option cbv.maxSteps 4000000
set_option maxHeartbeats 4000000
set_option maxRecDepth 100000
namespace Go.Proofs.YtelhldgdnlppfaaGreat.ChQ
open Go Ry Cmp ViR ViL ChR
open EgR (jS fa)
open EcX (gZ)
open SpR (il eZ kV)
open TrQ (jV ir OE uh)
open SoC (rk kj dj)
structure CH where
 k:Int
 a:Int
 b:Int
 s:Int
def YB (d:List E) (y:E):Bool:=!rb y 4 && (decide (OE d (ri y 0) (ri y 1)=0) && decide (gZ (IJ (ri y 0) (ri y 1)) (Hj (ri y 0) (ri y 1)) (ri y 2) (uh d (ri y 0) (ri y 1)).1 (uh d (ri y 0) (ri y 1)).2.1 (uh d (ri y 0) (ri y 1)).2.2 < 0))
def oK (l d:List E):Option E:=(dj l).find? (YB d)
def wO (l d:List E):CH:=match oK l d with
 |some y=>⟨3,(uh d (ri y 0) (ri y 1)).1,(uh d (ri y 0) (ri y 1)).2.1,PB l (uh d (ri y 0) (ri y 1)).1 (uh d (ri y 0) (ri y 1)).2.1 (uh d (ri y 0) (ri y 1)).2.2⟩
 |none=>⟨0,0,0,0⟩
def zA (l d:List E):Bool:=(oK l d).isSome
def evQ (l d:List E) (y:ChR.XI):Prop:=0≤y.i∧y.i≤(dj l).length∧oK l d=((dj l).drop y.i.toNat).find? (YB d)
noncomputable def evI (A:Ar) (l d s:List E) (y:ChR.XI):St:=cg Tryz.f154.ntmps [(0,.sl none (.ah (.int .i64 (.int .i64 (.int .i64 (.int .i64 (.bool .nil))))) l)),(1,.sl none (.ah (.int .i64 (.int .i64 (.int .i64 .nil))) d)),(4,.ptr 1 0),(15,.own 2),(16,.val (.int .i64 (A.dK s))),(17,.val (.int .i64 y.i))] [(1,.cells 38 [.num .i64 0,.num .i64 0,.num .i64 0,.num .i64 0]),(2,.row 94 (.ah (.int .i64 (.int .i64 (.int .i64 (.int .i64 (.bool .nil))))) s))] [Any,Any]
theorem OR {l d:List E} (hl:l.length≤1000000) {i:Int} (hq:evQ l d ⟨i⟩):0≤i∧i≤(dj l).length∧(dj l).length=l.length∧(i < (dj l).length→aN .add .i64 i 1=i+1∧pA (dj l) ⟨i+1⟩ < pA (dj l) ⟨i⟩ ∧
  (YB d ((dj l).getD i.toNat [])=true→oK l d=some ((dj l).getD i.toNat []))∧(YB d ((dj l).getD i.toNat [])=false→evQ l d ⟨i+1⟩))∧(¬i < (dj l).length→oK l d=none):=by
 obtain⟨h0,h1,h2⟩:=hq
 simp only at h0 h1 h2
 have e:=(SoC.kq l).1
 refine⟨h0,h1,e,fun h=>⟨by rw [bp,wr _ (by omega) (by omega)],by simp only [pA];omega,fun g=>?_,fun g=>⟨by simp only;omega,by simp only;omega,?_⟩⟩,fun h=>?_⟩
 ·rw [h2,qR _ i h0 h,List.find?_cons_of_pos g]
 ·simp only
  rw [h2,qR _ i h0 h,List.find?_cons_of_neg (by rw [g];decide)]
 ·rw [h2,List.drop_of_length_le (by omega)]
  rfl
structure XZ where
 i:Int
def zQ (y:XZ):Prop:=y.i=0
def zM (_:XZ):Nat:=0
def zR (k:Nat) (st:St):XZ:=⟨bQ st k⟩
noncomputable def ezI (y:XZ):St:=cg Tryz.f154.ntmps [(4,.ptr 1 0),(15,.val (.slice none 0 0)),(16,.num .i64 0),(17,.val (.int .i64 y.i))] [(1,.cells 38 [.num .i64 0,.num .i64 0,.num .i64 0,.num .i64 0])] [Any,Any]
def my (n:List Int) (l:List E):Int:=if bf n l=true then (if kV (vI n l)=true then 0 else 11) else 1
def la (n:List Int) (l:List E):CH:=if ¬my n l=0 then ⟨0,0,0,0⟩ else if zA (lH n l) (vI n l)=true then wO (lH n l) (vI n l) else if 0 < (um n l).length then ⟨2,(xE (um n l)).1,(xE (um n l)).2.1,(xE (um n l)).2.2.2.1⟩ else ⟨1,0,0,0⟩
theorem QX (n:List Int) (l:List E):(lH n l).length≤l.length:=by
 unfold lH
 split
 ·exact AY l
 ·exact Nat.zero_le _
theorem Rh (n:List Int) (l:List E):(vI n l).length≤l.length:=by
 unfold vI
 split
 ·exact Nat.le_trans (tg Ds _) (AY l)
 ·exact Nat.zero_le _
theorem QZ (n:List Int) (l:List E):(um n l).length≤l.length:=by
 unfold um
 split
 ·exact tg (Eb n) l
 ·exact Nat.zero_le _
theorem UX (d:List E):wO [] d=⟨0,0,0,0⟩∧zA [] d=false:=by
 have h:=(SoC.kq []).1
 have e:dj []=[]:=List.eq_nil_of_length_eq_zero h
 unfold wO zA oK
 rw [e]
 exact⟨rfl,rfl⟩
structure Cq where
 Po:List E→List E→Int
 v_a:List E→List E→Int
 bx:List E→List E→Int
 uS:List E→List E→Int
 Zl:List E→List E→Bool
 PJ:List E→List E→Bool
 aag:List Int→List E→Bool
 Uc:List Int→List E→Bool
 SQ:List Int→List E→Bool
 HN:List Int→List E→Int
 Io:List Int→List E→Int
 JC:List Int→List E→Int
 Ih:List Int→List E→Int
 Is:List Int→List E→Int
def Cq.U:Cq:=⟨fun l d=>(wO l d).k,fun l d=>(wO l d).a,fun l d=>(wO l d).b,fun l d=>(wO l d).s,zA,fun l d=>decide (0 < l.length∧l.length≤1000000∧d.length≤1000000),fun n l=>decide (n.length≤1000000∧l.length≤1000000),fun n l=>decide (n.length≤1000000∧l.length≤1000000∧(lH n l).length=0),fun n l=>decide (n.length≤1000000∧l.length≤1000000∧0 < (lH n l).length),fun n l=>(la n l).k,fun n l=>(la n l).a,fun n l=>(la n l).b,fun n l=>(la n l).s,my⟩
def yA (F:Cq):aZ:=fun xs h=>match xs,h with
 |[.one (.sl none (.ah (.int .i64 (.int .i64 (.int .i64 (.int .i64 (.bool .nil))))) l)),.one (.sl none (.ah (.int .i64 (.int .i64 (.int .i64 .nil))) d))],[]=>some ⟨F.PJ l d=true,.bJ [.agg [.val (.int .i64 (F.Po l d)),.val (.int .i64 (F.v_a l d)),.val (.int .i64 (F.bx l d)),.val (.int .i64 (F.uS l d))],B (F.Zl l d)],[],[Any,Any]⟩
 |_,_=>none
theorem Py (l:List E) (d:List E) (hC:Cq.U.PJ l d=true):aU [(173,wR ChR.Ch.U),(139,rk SoC.Oc.U),(174,jV TrQ.Tq.U),(170,ja ViL.Vl.U),(175,jS EgR.Fs.U),(176,BQ ChR.Ch.U)] Tryz.f154 [.one (.sl none (.ah (.int .i64 (.int .i64 (.int .i64 (.int .i64 (.bool .nil))))) l)),.one (.sl none (.ah (.int .i64 (.int .i64 (.int .i64 .nil))) d))] [] ⟨Cq.U.PJ l d=true,.bJ [.agg [.val (.int .i64 (Cq.U.Po l d)),.val (.int .i64 (Cq.U.v_a l d)),.val (.int .i64 (Cq.U.bx l d)),.val (.int .i64 (Cq.U.uS l d))],B (Cq.U.Zl l d)],[],[Any,Any]⟩:=by
 intro b gv
 have hk:0 < l.length∧l.length≤1000000∧d.length≤1000000:=of_decide_eq_true (show decide (0 < l.length∧l.length≤1000000∧d.length≤1000000)=true from hC)
 have he1:∀ y,oK l d=some y→zA l d=true∧(wO l d).k=3∧(wO l d).a=(uh d (ri y 0) (ri y 1)).1∧(wO l d).b=(uh d (ri y 0) (ri y 1)).2.1∧(wO l d).s=PB l (uh d (ri y 0) (ri y 1)).1 (uh d (ri y 0) (ri y 1)).2.1 (uh d (ri y 0) (ri y 1)).2.2:=fun y h=>by unfold zA wO;rw [h];exact⟨rfl,rfl,rfl,rfl,rfl⟩
 have he0:oK l d=none→zA l d=false∧(wO l d).k=0∧(wO l d).a=0∧(wO l d).b=0∧(wO l d).s=0:=fun h=>by unfold zA wO;rw [h];exact⟨rfl,rfl,rfl,rfl,rfl⟩
 have hsl:=(SoC.kq l).1
 have hfs:=(af.cons Aq (af.cons kj (af.cons ir (af.cons dN (af.cons fa (af.cons Dw af.nil rfl) rfl) rfl) rfl) rfl) rfl)
 generalize hF:Cq.U=F at hC hfs ⊢
 generalize hG0:ViL.Vl.U=G0 at hC hfs ⊢
 generalize hG1:EgR.Fs.U=G1 at hC hfs ⊢
 generalize hG2:SpR.Sp.U=G2 at hC hfs ⊢
 generalize hG3:TrQ.Tq.U=G3 at hC hfs ⊢
 generalize hG4:ChR.Ch.U=G4 at hC hfs ⊢
 generalize hG5:SoC.Oc.U=G5 at hC hfs ⊢
 generalize hA:Ar.U=A
 generalize hL:Lp _ _ _=L
 obtain⟨Z,zq⟩:=aP
 refine aD (aa hL) zq rfl ?_
 repeat' (first|(refine ay zq ?_;try dsimp only)|refine ax zq ?_ (aa hL)|refine aw zq ?_|refine az ?_|refine av ?_|refine au ?_|refine aq ?_|refine ar rfl ?_|refine ai rfl ?_|refine aj rfl ?_|(refine Cd.mk ?_;cbv)|(refine aE.mk ?_;cbv)|(refine aJ.mk ?_;cbv)|exact trivial|refine And.intro ?_ ?_|refine bn fun _=>?_|refine bo fun _=>?_)
 all_goals first|(show L _ _ _;skip)|(clear hL hfs zq Z;subst hA hF hG0 hG1 hG2 hG3 hG4 hG5;simp only [Cq.U,ChR.Ch.U,SoC.Oc.U] at * <;> grind [al];done)
 subst hL
 refine aX (br hfs) (evQ l d) (evI A l d (G5.mz l)) (pA (dj l)) (ChR.iR 17) ⟨0⟩ ?_ ?_ ?_
 ·exact⟨Int.le_refl 0,Int.natCast_nonneg _,rfl⟩
 ·cbv
  repeat' (first|exact trivial|exact rfl|refine And.intro ?_ ?_)
 rintro⟨i⟩ hq O hO
 have hst:=OR hk.2.1 hq
 have hp:YB d ((dj l).getD i.toNat [])=(!rb ((dj l).getD i.toNat []) 4 && (decide (OE d (ri ((dj l).getD i.toNat []) 0) (ri ((dj l).getD i.toNat []) 1)=0) && decide (gZ (IJ (ri ((dj l).getD i.toNat []) 0) (ri ((dj l).getD i.toNat []) 1)) (Hj (ri ((dj l).getD i.toNat []) 0) (ri ((dj l).getD i.toNat []) 1)) (ri ((dj l).getD i.toNat []) 2) (uh d (ri ((dj l).getD i.toNat []) 0) (ri ((dj l).getD i.toNat []) 1)).1 (uh d (ri ((dj l).getD i.toNat []) 0) (ri ((dj l).getD i.toNat []) 1)).2.1 (uh d (ri ((dj l).getD i.toNat []) 0) (ri ((dj l).getD i.toNat []) 1)).2.2 < 0))):=rfl
 subst hA
 generalize hA:Ar.U=A
 generalize hL:Lp _ _ _=L
 refine aO zq ?_
 repeat' (first|(refine ay zq ?_;try dsimp only)|refine ax zq ?_ (aa hL)|refine aw zq ?_|refine az ?_|refine av ?_|refine au ?_|refine aq ?_|refine ar rfl ?_|refine ai rfl ?_|refine aj rfl ?_|(refine Cd.mk ?_;cbv)|(refine aE.mk ?_;cbv)|(refine aJ.mk ?_;cbv)|exact trivial|refine And.intro ?_ ?_|refine bn fun _=>?_|refine bo fun _=>?_)
 all_goals (clear hL hfs zq Z hq;subst hA hF hG0 hG1 hG2 hG3 hG4 hG5 hO;simp only [Cq.U,ViL.Vl.U,EgR.Fs.U,TrQ.Tq.U,ChR.Ch.U,SoC.Oc.U,Ar.U] at * <;> grind [al];done)
theorem yQ:aA Tryz.prog 154 (yA Cq.U):=by
 refine aG (af.cons Aq (af.cons kj (af.cons ir (af.cons dN (af.cons fa (af.cons Dw af.nil rfl) rfl) rfl) rfl) rfl) rfl) Tryz.func154 rfl rfl fun xs h p hp=>?_
 unfold yA at hp
 split at hp
 ·cases hp
  exact⟨aB rfl,fun hC _=>Py _ _ hC⟩
 ·cases hp
def sP (_:Cq):aZ:=fun xs h=>match xs,h with
 |[.one (.val (.slice none 0 0)),.one (.sl none (.ah (.int .i64 (.int .i64 (.int .i64 .nil))) _))],[]=>some ⟨True,.bJ [.agg [.val (.int .i64 0),.val (.int .i64 0),.val (.int .i64 0),.val (.int .i64 0)],B false],[],[Any,Any]⟩
 |_,_=>none
theorem Hy (d:List E):aU [(173,tO ChR.Ch.U),(139,rk SoC.Oc.U),(174,jV TrQ.Tq.U),(170,ja ViL.Vl.U),(175,jS EgR.Fs.U)] Tryz.f154 [.one (.val (.slice none 0 0)),.one (.sl none (.ah (.int .i64 (.int .i64 (.int .i64 .nil))) d))] [] ⟨True,.bJ [.agg [.val (.int .i64 0),.val (.int .i64 0),.val (.int .i64 0),.val (.int .i64 0)],B false],[],[Any,Any]⟩:=by
 intro b gv
 have hfs:=(af.cons vP (af.cons kj (af.cons ir (af.cons dN (af.cons fa af.nil rfl) rfl) rfl) rfl) rfl)
 generalize hF:Cq.U=F at hfs ⊢
 generalize hG0:ViL.Vl.U=G0 at hfs ⊢
 generalize hG1:EgR.Fs.U=G1 at hfs ⊢
 generalize hG2:SpR.Sp.U=G2 at hfs ⊢
 generalize hG3:TrQ.Tq.U=G3 at hfs ⊢
 generalize hG4:ChR.Ch.U=G4 at hfs ⊢
 generalize hG5:SoC.Oc.U=G5 at hfs ⊢
 generalize hA:Ar.U=A
 generalize hL:Lp _ _ _=L
 obtain⟨Z,zq⟩:=aP
 refine aD (aa hL) zq rfl ?_
 repeat' (first|(refine ay zq ?_;try dsimp only)|refine ax zq ?_ (aa hL)|refine aw zq ?_|refine az ?_|refine av ?_|refine au ?_|refine aq ?_|refine ar rfl ?_|refine ai rfl ?_|refine aj rfl ?_|(refine Cd.mk ?_;cbv)|(refine aE.mk ?_;cbv)|(refine aJ.mk ?_;cbv)|exact trivial|refine And.intro ?_ ?_|refine bn fun _=>?_|refine bo fun _=>?_)
 subst hL
 refine aX (br hfs) (zQ) (ezI) (zM) (zR 17) ⟨0⟩ ?_ ?_ ?_
 ·exact rfl
 ·cbv
  repeat' (first|exact trivial|exact rfl|refine And.intro ?_ ?_)
 rintro⟨i⟩ hq O hO
 have hi:i=0:=hq
 subst hA
 generalize hA:Ar.U=A
 generalize hL:Lp _ _ _=L
 refine aO zq ?_
 repeat' (first|(refine ay zq ?_;try dsimp only)|refine ax zq ?_ (aa hL)|refine aw zq ?_|refine az ?_|refine av ?_|refine au ?_|refine aq ?_|refine ar rfl ?_|refine ai rfl ?_|refine aj rfl ?_|(refine Cd.mk ?_;cbv)|(refine aE.mk ?_;cbv)|(refine aJ.mk ?_;cbv)|exact trivial|refine And.intro ?_ ?_|refine bn fun _=>?_|refine bo fun _=>?_)
 all_goals (clear hL zq Z hq;first|(exfalso;subst hA hF hG0 hG1 hG2 hG3 hG4 hG5 hO;simp only [ViL.Vl.U,EgR.Fs.U,TrQ.Tq.U,ChR.Ch.U,SoC.Oc.U,Ar.U] at * <;> grind [al];done)|(subst hA hF hG0 hG1 hG2 hG3 hG4 hG5 hO;simp only [Cq.U,ViL.Vl.U,EgR.Fs.U,SpR.Sp.U,TrQ.Tq.U,ChR.Ch.U,SoC.Oc.U,Ar.U,List.nil_append] at * <;> grind [al];done))
theorem vM:aA Tryz.prog 154 (sP Cq.U):=by
 refine aG (af.cons vP (af.cons kj (af.cons ir (af.cons dN (af.cons fa af.nil rfl) rfl) rfl) rfl) rfl) Tryz.func154 rfl rfl fun xs h p hp=>?_
 unfold sP at hp
 split at hp
 ·cases hp
  exact⟨aB rfl,fun _ _=>Hy _⟩
 ·cases hp
def Jv (F:Cq):aZ:=fun xs h=>match xs,h with
 |[.agg [.sl none (.ints .i64 v_n),.sl none (.ah (.int .i64 (.int .i64 (.int .i64 (.int .i64 (.bool .nil))))) v_l)]],[]=>some ⟨F.Uc v_n v_l=true,.bJ [.agg [.val (.int .i64 (F.HN v_n v_l)),.val (.int .i64 (F.Io v_n v_l)),.val (.int .i64 (F.JC v_n v_l)),.val (.int .i64 (F.Ih v_n v_l))],I (F.Is v_n v_l)],[],[Any]⟩
 |_,_=>none
theorem UF (v_n:List Int) (v_l:List E) (hC:Cq.U.Uc v_n v_l=true):aU [(151,sX ChR.Ch.U),(152,qB ViL.Vl.U),(153,il SpR.Sp.U),(154,sP Cq.U),(155,qT ViL.Vl.U),(156,xa ChR.Ch.U)] Tryz.f127 [.agg [.sl none (.ints .i64 v_n),.sl none (.ah (.int .i64 (.int .i64 (.int .i64 (.int .i64 (.bool .nil))))) v_l)]] [] ⟨Cq.U.Uc v_n v_l=true,.bJ [.agg [.val (.int .i64 (Cq.U.HN v_n v_l)),.val (.int .i64 (Cq.U.Io v_n v_l)),.val (.int .i64 (Cq.U.JC v_n v_l)),.val (.int .i64 (Cq.U.Ih v_n v_l))],I (Cq.U.Is v_n v_l)],[],[Any]⟩:=by
 intro b gv
 have hk:v_n.length≤1000000∧v_l.length≤1000000∧(lH v_n v_l).length=0:=of_decide_eq_true (show decide (v_n.length≤1000000∧v_l.length≤1000000∧(lH v_n v_l).length=0)=true from hC)
 have h1:=QX v_n v_l
 have h2:=Rh v_n v_l
 have h3:=QZ v_n v_l
 have h4:my v_n v_l=if bf v_n v_l=true then (if kV (vI v_n v_l)=true then 0 else 11) else 1:=rfl
 have h5:mI v_n v_l=if bf v_n v_l=true then 0 else 1:=rfl
 have h6:¬my v_n v_l=0→la v_n v_l=⟨0,0,0,0⟩:=fun h=>if_pos h
 have h7:my v_n v_l=0→zA (lH v_n v_l) (vI v_n v_l)=true→la v_n v_l=wO (lH v_n v_l) (vI v_n v_l):=fun h g=>by unfold la;rw [if_neg (fun k=>k h),if_pos g]
 have h8:my v_n v_l=0→zA (lH v_n v_l) (vI v_n v_l)=false→0 < (um v_n v_l).length→la v_n v_l=⟨2,(xE (um v_n v_l)).1,(xE (um v_n v_l)).2.1,(xE (um v_n v_l)).2.2.2.1⟩:=fun h g z=>by unfold la;rw [if_neg (fun k=>k h),if_neg (by rw [g];decide),if_pos z]
 have h9:my v_n v_l=0→zA (lH v_n v_l) (vI v_n v_l)=false→¬0 < (um v_n v_l).length→la v_n v_l=⟨1,0,0,0⟩:=fun h g z=>by unfold la;rw [if_neg (fun k=>k h),if_neg (by rw [g];decide),if_neg z]
 have hn:zA (lH v_n v_l) (vI v_n v_l)=false:=by rw [List.eq_nil_of_length_eq_zero hk.2.2];exact (UX _).2
 have hfs:=(af.cons vW (af.cons ng (af.cons eZ (af.cons vM (af.cons nu (af.cons qZ af.nil rfl) rfl) rfl) rfl) rfl) rfl)
 generalize hF:Cq.U=F at hC hfs ⊢
 generalize hG0:ViL.Vl.U=G0 at hC hfs ⊢
 generalize hG1:EgR.Fs.U=G1 at hC hfs ⊢
 generalize hG2:SpR.Sp.U=G2 at hC hfs ⊢
 generalize hG3:TrQ.Tq.U=G3 at hC hfs ⊢
 generalize hG4:ChR.Ch.U=G4 at hC hfs ⊢
 generalize hG5:SoC.Oc.U=G5 at hC hfs ⊢
 generalize hA:Ar.U=A
 generalize hL:Lp _ _ _=L
 obtain⟨Z,zq⟩:=aP
 refine aD (aa hL) zq rfl ?_
 repeat' (first|(refine ay zq ?_;try dsimp only)|refine ax zq ?_ (aa hL)|refine aw zq ?_|refine az ?_|refine av ?_|refine au ?_|refine aq ?_|refine ar rfl ?_|refine ai rfl ?_|refine aj rfl ?_|(refine Cd.mk ?_;cbv)|(refine aE.mk ?_;cbv)|(refine aJ.mk ?_;cbv)|exact trivial|refine And.intro ?_ ?_|refine bn fun _=>?_|refine bo fun _=>?_)
 all_goals
  clear hL zq Z
  try clear hfs
  subst hA hF hG0 hG1 hG2 hG3 hG4 hG5
  simp only [Cq.U,ViL.Vl.U,SpR.Sp.U,ChR.Ch.U,Ar.U] at *
  try (grind [al])
theorem OP:aA Tryz.prog 127 (Jv Cq.U):=by
 refine aG (af.cons vW (af.cons ng (af.cons eZ (af.cons vM (af.cons nu (af.cons qZ af.nil rfl) rfl) rfl) rfl) rfl) rfl) Tryz.func127 rfl rfl fun xs h p hp=>?_
 unfold Jv at hp
 split at hp
 ·cases hp
  exact⟨aB rfl,fun hC _=>UF _ _ hC⟩
 ·cases hp
def Hs (F:Cq):aZ:=fun xs h=>match xs,h with
 |[.agg [.sl none (.ints .i64 v_n),.sl none (.ah (.int .i64 (.int .i64 (.int .i64 (.int .i64 (.bool .nil))))) v_l)]],[]=>some ⟨F.SQ v_n v_l=true,.bJ [.agg [.val (.int .i64 (F.HN v_n v_l)),.val (.int .i64 (F.Io v_n v_l)),.val (.int .i64 (F.JC v_n v_l)),.val (.int .i64 (F.Ih v_n v_l))],I (F.Is v_n v_l)],[],[Any]⟩
 |_,_=>none
theorem RO (v_n:List Int) (v_l:List E) (hC:Cq.U.SQ v_n v_l=true):aU [(151,qF ViL.Vl.U),(152,qB ViL.Vl.U),(153,il SpR.Sp.U),(154,yA Cq.U),(155,qT ViL.Vl.U),(156,xa ChR.Ch.U)] Tryz.f127 [.agg [.sl none (.ints .i64 v_n),.sl none (.ah (.int .i64 (.int .i64 (.int .i64 (.int .i64 (.bool .nil))))) v_l)]] [] ⟨Cq.U.SQ v_n v_l=true,.bJ [.agg [.val (.int .i64 (Cq.U.HN v_n v_l)),.val (.int .i64 (Cq.U.Io v_n v_l)),.val (.int .i64 (Cq.U.JC v_n v_l)),.val (.int .i64 (Cq.U.Ih v_n v_l))],I (Cq.U.Is v_n v_l)],[],[Any]⟩:=by
 intro b gv
 have hk:v_n.length≤1000000∧v_l.length≤1000000∧0 < (lH v_n v_l).length:=of_decide_eq_true (show decide (v_n.length≤1000000∧v_l.length≤1000000∧0 < (lH v_n v_l).length)=true from hC)
 have h1:=QX v_n v_l
 have h2:=Rh v_n v_l
 have h3:=QZ v_n v_l
 have h4:my v_n v_l=if bf v_n v_l=true then (if kV (vI v_n v_l)=true then 0 else 11) else 1:=rfl
 have h5:mI v_n v_l=if bf v_n v_l=true then 0 else 1:=rfl
 have h6:¬my v_n v_l=0→la v_n v_l=⟨0,0,0,0⟩:=fun h=>if_pos h
 have h7:my v_n v_l=0→zA (lH v_n v_l) (vI v_n v_l)=true→la v_n v_l=wO (lH v_n v_l) (vI v_n v_l):=fun h g=>by unfold la;rw [if_neg (fun k=>k h),if_pos g]
 have h8:my v_n v_l=0→zA (lH v_n v_l) (vI v_n v_l)=false→0 < (um v_n v_l).length→la v_n v_l=⟨2,(xE (um v_n v_l)).1,(xE (um v_n v_l)).2.1,(xE (um v_n v_l)).2.2.2.1⟩:=fun h g z=>by unfold la;rw [if_neg (fun k=>k h),if_neg (by rw [g];decide),if_pos z]
 have h9:my v_n v_l=0→zA (lH v_n v_l) (vI v_n v_l)=false→¬0 < (um v_n v_l).length→la v_n v_l=⟨1,0,0,0⟩:=fun h g z=>by unfold la;rw [if_neg (fun k=>k h),if_neg (by rw [g];decide),if_neg z]
 have hfs:=(af.cons oH (af.cons ng (af.cons eZ (af.cons yQ (af.cons nu (af.cons qZ af.nil rfl) rfl) rfl) rfl) rfl) rfl)
 generalize hF:Cq.U=F at hC hfs ⊢
 generalize hG0:ViL.Vl.U=G0 at hC hfs ⊢
 generalize hG1:EgR.Fs.U=G1 at hC hfs ⊢
 generalize hG2:SpR.Sp.U=G2 at hC hfs ⊢
 generalize hG3:TrQ.Tq.U=G3 at hC hfs ⊢
 generalize hG4:ChR.Ch.U=G4 at hC hfs ⊢
 generalize hG5:SoC.Oc.U=G5 at hC hfs ⊢
 generalize hA:Ar.U=A
 generalize hL:Lp _ _ _=L
 obtain⟨Z,zq⟩:=aP
 refine aD (aa hL) zq rfl ?_
 repeat' (first|(refine ay zq ?_;try dsimp only)|refine ax zq ?_ (aa hL)|refine aw zq ?_|refine az ?_|refine av ?_|refine au ?_|refine aq ?_|refine ar rfl ?_|refine ai rfl ?_|refine aj rfl ?_|(refine Cd.mk ?_;cbv)|(refine aE.mk ?_;cbv)|(refine aJ.mk ?_;cbv)|exact trivial|refine And.intro ?_ ?_|refine bn fun _=>?_|refine bo fun _=>?_)
 all_goals
  clear hL zq Z
  try clear hfs
  subst hA hF hG0 hG1 hG2 hG3 hG4 hG5
  simp only [Cq.U,ViL.Vl.U,SpR.Sp.U,ChR.Ch.U,Ar.U] at *
  try (grind [al])
theorem Pb:aA Tryz.prog 127 (Hs Cq.U):=by
 refine aG (af.cons oH (af.cons ng (af.cons eZ (af.cons yQ (af.cons nu (af.cons qZ af.nil rfl) rfl) rfl) rfl) rfl) rfl) Tryz.func127 rfl rfl fun xs h p hp=>?_
 unfold Hs at hp
 split at hp
 ·cases hp
  exact⟨aB rfl,fun hC _=>RO _ _ hC⟩
 ·cases hp
theorem KI {P:Program} {f:FuncId} {c c1 c2:aZ} (ok1:aA P f c1) (ok2:aA P f c2)
  (h:∀ xs h p,c xs h=some p→p.C→(∃ C,c1 xs h=some ⟨C,p.r,p.h,p.as⟩∧C)∨∃ C,c2 xs h=some ⟨C,p.r,p.h,p.as⟩∧C):aA P f c:=by
 refine⟨ok1.1,fun args h' p hp hC G vs hh hbs hm hv=>?_⟩
 rcases h _ _ _ hp hC with ⟨C,h1,h2⟩ | ⟨C,h1,h2⟩
 ·exact ok1.2 args h' _ h1 h2 G vs hh hbs hm hv
 ·exact ok2.2 args h' _ h1 h2 G vs hh hbs hm hv
def ni (F:Cq):aZ:=fun xs h=>match xs,h with
 |[.agg [.sl none (.ints .i64 v_n),.sl none (.ah (.int .i64 (.int .i64 (.int .i64 (.int .i64 (.bool .nil))))) v_l)]],[]=>some ⟨F.aag v_n v_l=true,.bJ [.agg [.val (.int .i64 (F.HN v_n v_l)),.val (.int .i64 (F.Io v_n v_l)),.val (.int .i64 (F.JC v_n v_l)),.val (.int .i64 (F.Ih v_n v_l))],I (F.Is v_n v_l)],[],[Any]⟩
 |_,_=>none
theorem pB:aA Tryz.prog 127 (ni Cq.U):=by
 refine KI OP Pb fun xs h p hp hC=>?_
 unfold ni at hp
 split at hp
 ·rename_i n l
  cases hp
  have hk:n.length≤1000000∧l.length≤1000000:=of_decide_eq_true hC
  by_cases h1:(lH n l).length=0
  ·exact .inl ⟨_,rfl,decide_eq_true ⟨hk.1,hk.2,h1⟩⟩
  ·exact .inr ⟨_,rfl,decide_eq_true ⟨hk.1,hk.2,Nat.pos_of_ne_zero h1⟩⟩
 ·cases hp
end Go.Proofs.YtelhldgdnlppfaaGreat.ChQ
