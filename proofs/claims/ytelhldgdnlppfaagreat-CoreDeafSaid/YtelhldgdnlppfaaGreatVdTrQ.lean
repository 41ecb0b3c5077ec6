
/-
  the answer of ways;the heaviest edge. No condition.
-/
import Derived.Test.YtelhldgdnlppfaaGreatVdTrR
set_option cbv.maxSteps 4000000
set_option maxHeartbeats 4000000
set_option maxRecDepth 100000
namespace Go.Proofs.YtelhldgdnlppfaaGreat.TrC
open Go Ry Go.Proofs.YtelhldgdnlppfaaGreat.So JoS EgR EgL SpR SpQ SpK SpT SpL SpN TrK TrB TrR EcX
def onR (l:List E) (a b:Int):List E:=(l.filter fun y=>!Yc (WI l (fZ y)) a b).map e3
def mx1 (c:T) (y:E):T:=if YG c.1 c.2.1 c.2.2 (ri y 0) (ri y 1) (ri y 2)=true then fZ y else c
def mxT (l:List E):T:=l.foldl mx1 (fZ (l.getD 0 []))
def gi (p:List Int) (c:T) (y:E):T:=if bE p (ri y 0)=true∧bE p (ri y 1)=true∧(c.1=0∨gZ (ri y 0) (ri y 1) (ri y 2) c.1 c.2.1 c.2.2 > 0) then fZ y else c
def RC (p:List Int) (l:List E):T:=l.foldl (gi p) (0,0,0)
end Go.Proofs.YtelhldgdnlppfaaGreat.TrC
namespace Go.Proofs.YtelhldgdnlppfaaGreat.TrQ
open Go Ry Go.Proofs.YtelhldgdnlppfaaGreat.So JoS EcX EgR EgL SpR SpQ SpK SpT SpL SpN TrK TrB TrR TrC
structure XO where
 i:Int
 o:List E
structure XP where
 n:Int
 o:List Int
structure XS where
 i:Int
structure XM where
 i:Int
 a:Int
 b:Int
 w:Int
def mxM (l:List E) (y:XM):Nat:=l.length - y.i.toNat
def aaF (l:List E) (a b:Int):Bool:=decide (oM l=0) && (rfB l && (cq a && cq b))
def OE (l:List E) (a b:Int):Int:=if GJ l a b=0 then (if a=b then 4 else 0) else GJ l a b
def uh (l:List E) (a b:Int):T:=if OE l a b=0 then RC (wF 65 (qt l b) a) l else (0,0,0)
def WU (p:List Int) (l:List E) (y:XM):Prop:=0≤y.i∧y.i≤l.length∧(y.a,y.b,y.w)=RC p (l.take y.i.toNat)
noncomputable def Me (A:Ar) (l:List E) (_ p:List Int) (y:XM):St:=cg Tryz.f174.ntmps [(0,.sl none (.ah (.int .i64 (.int .i64 (.int .i64 .nil))) l)),(6,.ptr 1 0),(10,.sl none (.ints .i64 p)),(11,.ptr 2 0),(33,.sl none (.ah (.int .i64 (.int .i64 (.int .i64 .nil))) l)),(34,.val (.int .i64 (A.dK l))),(35,.val (.int .i64 y.i))] [(1,.cells 183 [.num .i64 0,.num .i64 0,.num .i64 0]),(2,.cells 183 [.val (.int .i64 y.a),.val (.int .i64 y.b),.val (.int .i64 y.w)])] [Any,Any,Any]
def hvR (st:St):XM:=⟨bQ st 35,uA (gF st 11 0),uA (gF st 11 1),uA (gF st 11 2)⟩
theorem Pg (p:List Int) (l:List E):WU p l ⟨0,0,0,0⟩:=⟨Int.le_refl 0,Int.natCast_nonneg _,rfl⟩
theorem NK {p:List Int} {l:List E} (hl:l.length≤1000000) {i a b w:Int} (hq:WU p l ⟨i,a,b,w⟩):(i < l.length→aN .add .i64 i 1=i+1∧(∀ a' b' w',mxM l ⟨i+1,a',b',w'⟩ < mxM l ⟨i,a,b,w⟩) ∧
  (bE p (ri (l.getD i.toNat []) 0)=true∧bE p (ri (l.getD i.toNat []) 1)=true∧(a=0∨gZ (ri (l.getD i.toNat []) 0) (ri (l.getD i.toNat []) 1) (ri (l.getD i.toNat []) 2) a b w > 0)→WU p l ⟨i+1,ri (l.getD i.toNat []) 0,ri (l.getD i.toNat []) 1,ri (l.getD i.toNat []) 2⟩) ∧
  (¬(bE p (ri (l.getD i.toNat []) 0)=true∧bE p (ri (l.getD i.toNat []) 1)=true∧(a=0∨gZ (ri (l.getD i.toNat []) 0) (ri (l.getD i.toNat []) 1) (ri (l.getD i.toNat []) 2) a b w > 0))→WU p l ⟨i+1,a,b,w⟩))∧(¬i < l.length→a=(RC p l).1∧b=(RC p l).2.1∧w=(RC p l).2.2):=by
 obtain⟨h0,h1,h2⟩:=hq
 simp only at h0 h1 h2
 have nx:∀ g:i < l.length,RC p (l.take (i+1).toNat)=gi p (a,b,w) (l.getD i.toNat []):=fun g=>by
  unfold RC at h2 ⊢
  rw [eO l i h0 g,List.foldl_append,← h2]
  rfl
 refine⟨fun h=>⟨by rw [bp,wr _ (by omega) (by omega)],fun _ _ _=>by simp only [mxM];omega,fun g=>⟨by simp only;omega,by simp only;omega,?_⟩,fun g=>⟨by simp only;omega,by simp only;omega,?_⟩⟩,fun h=>?_⟩
 ·simp only
  rw [nx h]
  unfold gi
  exact (if_pos g).symm
 ·simp only
  rw [nx h]
  unfold gi
  exact (if_neg g).symm
 ·have e:i=l.length:=by omega
  rw [e,Int.toNat_natCast,List.take_length] at h2
  rw [← h2]
  exact⟨rfl,rfl,rfl⟩
theorem aan {l:List E} {a b:Int} (h:GJ l a b=0):Wc l a b=qt l b∧okW (qt l b) a=true∧(wF 65 (qt l b) a).length≤64:=by
 obtain⟨_,_,_,_,_,_,_,k1,k2,_⟩:=VX h
 exact⟨if_pos h,k1,k2⟩
structure Tq where
 abB:List E→Int→Int→Int→List E
 abQ:List E→Int→Int→List E
 abD:List E→Int→Int→List Int
 aaX:List E→Int→Int→Bool
 abI:List E→T
 aba:List E→Bool
 BF:List E→Bool
 abv:List E→Bool
 abh:List E→Int→Int→Bool
 FR:List E→Int→Int→T
 Qr:List E→Int→Int→Int
def Tq.U:Tq:=⟨fun l a b w=>WI l (a,b,w),onR,wyB,fun l a b=>decide (GJ l a b=0∧l.length≤512),mxT,fun l=>decide (0 < l.length∧l.length≤1000000),fun l=>decide (l.length≤1000000),Xv,aaF,uh,OE⟩
def jV (F:Tq):aZ:=fun xs h=>match xs,h with
 |[.one (.sl none (.ah (.int .i64 (.int .i64 (.int .i64 .nil))) l)),.one (.val (.int .i64 a)),.one (.val (.int .i64 d))],[]=>some ⟨F.BF l=true,.bJ [.agg [.val (.int .i64 (F.FR l a d).1),.val (.int .i64 (F.FR l a d).2.1),.val (.int .i64 (F.FR l a d).2.2)],I (F.Qr l a d)],[],[Any,Any,Any]⟩
 |_,_=>none
theorem He (l:List E) (a:Int) (d:Int) (hC:Tq.U.BF l=true):aU [(202,yd TrR.Tr.U),(203,Hm TrR.Tr.U),(204,lM TrR.Tr.U),(175,jS EgR.Fs.U)] Tryz.f174 [.one (.sl none (.ah (.int .i64 (.int .i64 (.int .i64 .nil))) l)),.one (.val (.int .i64 a)),.one (.val (.int .i64 d))] [] ⟨Tq.U.BF l=true,.bJ [.agg [.val (.int .i64 (Tq.U.FR l a d).1),.val (.int .i64 (Tq.U.FR l a d).2.1),.val (.int .i64 (Tq.U.FR l a d).2.2)],I (Tq.U.Qr l a d)],[],[Any,Any,Any]⟩:=by
 intro b gv
 have hk:l.length≤1000000:=of_decide_eq_true (show decide (l.length≤1000000)=true from hC)
 have h0:=fun h=>aan (l:=l) (a:=a) (b:=d) h
 have h65:=UZ (l:=l) (a:=a) (b:=d)
 have hfs:=(af.cons AL (af.cons JW (af.cons pT (af.cons fa af.nil rfl) rfl) rfl) rfl)
 generalize hF:Tq.U=F at hC hfs ⊢
 generalize hG0:EgR.Fs.U=G0 at hC hfs ⊢
 generalize hG1:SpR.Sp.U=G1 at hC hfs ⊢
 generalize hG2:SpQ.Sq.U=G2 at hC hfs ⊢
 generalize hG3:TrR.Tr.U=G3 at hC hfs ⊢
 generalize hA:Ar.U=A
 generalize hL:Lp _ _ _=L
 obtain⟨Z,zq⟩:=aP
 refine aD (aa hL) zq rfl ?_
 repeat' (first|(refine ay zq ?_;try dsimp only)|refine ax zq ?_ (aa hL)|refine aw zq ?_|refine az ?_|refine av ?_|refine au ?_|refine aq ?_|refine ar rfl ?_|refine ai rfl ?_|refine aj rfl ?_|(refine Cd.mk ?_;cbv)|(refine aE.mk ?_;cbv)|(refine aJ.mk ?_;cbv)|exact trivial|refine And.intro ?_ ?_|refine bn fun _=>?_|refine bo fun _=>?_)
 all_goals first|(show L _ _ _;skip)|(clear hL hfs zq Z;subst hA hF hG0 hG1 hG2 hG3;simp only [Tq.U,TrR.Tr.U,Ar.U] at * <;> grind [al,OE,uh];done)
 rename_i hx1 hx2
 have hr:GJ l a d=0∧¬a=d:=by
  clear hL hfs zq Z h0
  subst hA hF hG0 hG1 hG2 hG3
  simp only [Tq.U,TrR.Tr.U,Ar.U] at *
  grind [al]
 clear hx1 hx2
 obtain⟨r1,r2,r3⟩:=h0 hr.1
 have r4:OE l a d=0:=by
  unfold OE
  rw [if_pos hr.1,if_neg hr.2]
 have r5:uh l a d=RC (wF 65 (qt l d) a) l:=if_pos r4
 subst hL
 refine aX (br hfs) (WU (wF 65 (qt l d) a) l) (Me A l (G3.ON l a d) (G3.uj (G3.ON l a d) a)) (mxM l) hvR ⟨0,0,0,0⟩ ?_ ?_ ?_
 ·exact Pg _ _
 ·cbv
  repeat' (first|exact trivial|exact rfl|refine And.intro ?_ ?_)
 rintro⟨i,x,y,w⟩ hq O hO
 have hst:=NK hk hq
 have q0:=hq.1
 have q1:=hq.2.1
 dsimp only at q0 q1
 subst hA
 generalize hA:Ar.U=A
 generalize hL:Lp _ _ _=L
 refine aO zq ?_
 repeat' (first|(refine ay zq ?_;try dsimp only)|refine ax zq ?_ (aa hL)|refine aw zq ?_|refine az ?_|refine av ?_|refine au ?_|refine aq ?_|refine ar rfl ?_|refine ai rfl ?_|refine aj rfl ?_|(refine Cd.mk ?_;cbv)|(refine aE.mk ?_;cbv)|(refine aJ.mk ?_;cbv)|exact trivial|refine And.intro ?_ ?_|refine bn fun _=>?_|refine bo fun _=>?_)
 all_goals (clear hL hfs zq Z hq;subst hA hF hG0 hG1 hG2 hG3 hO;simp only [Tq.U,EgR.Fs.U,TrR.Tr.U,Ar.U] at * <;> grind [al];done)
theorem ir:aA Tryz.prog 174 (jV Tq.U):=by
 refine aG (af.cons AL (af.cons JW (af.cons pT (af.cons fa af.nil rfl) rfl) rfl) rfl) Tryz.func174 rfl rfl fun xs h p hp=>?_
 unfold jV at hp
 split at hp
 ·cases hp
  exact⟨aB rfl,fun hC _=>He _ _ _ hC⟩
 ·cases hp
end Go.Proofs.YtelhldgdnlppfaaGreat.TrQ
