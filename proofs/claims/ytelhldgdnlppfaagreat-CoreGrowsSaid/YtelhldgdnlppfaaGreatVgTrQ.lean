
/-
  the answer of ways;the heaviest edge. No condition.
-/
import Derived.Test.YtelhldgdnlppfaaGreatVgTrR
set_option cbv.maxSteps 4000000
set_option maxHeartbeats 4000000
set_option maxRecDepth 100000
namespace Go.Proofs.YtelhldgdnlppfaaGreat.TrC
open Go Ry Go.Proofs.YtelhldgdnlppfaaGreat.So JoS EgR EgL SpR SpQ SpK SpT SpL SpN TrK TrB TrR EcX
def onR (l:List E) (a b:Int):List E:=(l.filter fun y=>!Wo (Zf l (gi y)) a b).map e3
def mx1 (c:T) (y:E):T:=if WJ c.1 c.2.1 c.2.2 (ri y 0) (ri y 1) (ri y 2)=true then gi y else c
def mxT (l:List E):T:=l.foldl mx1 (gi (l.getD 0 []))
def gw (p:List Int) (c:T) (y:E):T:=if bE p (ri y 0)=true∧bE p (ri y 1)=true∧(c.1=0∨hG (ri y 0) (ri y 1) (ri y 2) c.1 c.2.1 c.2.2 > 0) then gi y else c
def Rm (p:List Int) (l:List E):T:=l.foldl (gw p) (0,0,0)
end Go.Proofs.YtelhldgdnlppfaaGreat.TrC
namespace Go.Proofs.YtelhldgdnlppfaaGreat.TrQ
open Go Ry Go.Proofs.YtelhldgdnlppfaaGreat.So JoS EcX EgR EgL SpR SpQ SpK SpT SpL SpN TrK TrB TrR TrC
structure XO where
 i:Int
 o:List E
structure XP where
 n:Int
 o:List Int
structure XS where
 i:Int
structure XM where
 i:Int
 a:Int
 b:Int
 w:Int
def Zx (l:List E) (y:XM):Nat:=l.length - y.i.toNat
def aam (l:List E) (a b:Int):Bool:=decide (oQ l=0) && (rfB l && (cm a && cm b))
def Oa (l:List E) (a b:Int):Int:=if GB l a b=0 then (if a=b then 4 else 0) else GB l a b
def ua (l:List E) (a b:Int):T:=if Oa l a b=0 then Rm (wF 65 (qk l b) a) l else (0,0,0)
def Yg (p:List Int) (l:List E) (y:XM):Prop:=0≤y.i∧y.i≤l.length∧(y.a,y.b,y.w)=Rm p (l.take y.i.toNat)
noncomputable def LF (A:Ar) (l:List E) (_ p:List Int) (y:XM):St:=cC Tryz.f174.ntmps [(0,.sl none (.ah (.int .i64 (.int .i64 (.int .i64 .nil))) l)),(6,.ptr 1 0),(10,.sl none (.ints .i64 p)),(11,.ptr 2 0),(33,.sl none (.ah (.int .i64 (.int .i64 (.int .i64 .nil))) l)),(34,.val (.int .i64 (A.dN l))),(35,.val (.int .i64 y.i))] [(1,.cells 183 [.num .i64 0,.num .i64 0,.num .i64 0]),(2,.cells 183 [.val (.int .i64 y.a),.val (.int .i64 y.b),.val (.int .i64 y.w)])] [Any,Any,Any]
def hvR (st:St):XM:=⟨bR st 35,uv (gS st 11 0),uv (gS st 11 1),uv (gS st 11 2)⟩
theorem Oh (p:List Int) (l:List E):Yg p l ⟨0,0,0,0⟩:=⟨Int.le_refl 0,Int.natCast_nonneg _,rfl⟩
theorem Mb {p:List Int} {l:List E} (hl:l.length≤1000000) {i a b w:Int} (hq:Yg p l ⟨i,a,b,w⟩):(i < l.length→aO .add .i64 i 1=i+1∧(∀ a' b' w',Zx l ⟨i+1,a',b',w'⟩ < Zx l ⟨i,a,b,w⟩) ∧
  (bE p (ri (l.getD i.toNat []) 0)=true∧bE p (ri (l.getD i.toNat []) 1)=true∧(a=0∨hG (ri (l.getD i.toNat []) 0) (ri (l.getD i.toNat []) 1) (ri (l.getD i.toNat []) 2) a b w > 0)→Yg p l ⟨i+1,ri (l.getD i.toNat []) 0,ri (l.getD i.toNat []) 1,ri (l.getD i.toNat []) 2⟩) ∧
  (¬(bE p (ri (l.getD i.toNat []) 0)=true∧bE p (ri (l.getD i.toNat []) 1)=true∧(a=0∨hG (ri (l.getD i.toNat []) 0) (ri (l.getD i.toNat []) 1) (ri (l.getD i.toNat []) 2) a b w > 0))→Yg p l ⟨i+1,a,b,w⟩))∧(¬i < l.length→a=(Rm p l).1∧b=(Rm p l).2.1∧w=(Rm p l).2.2):=by
 obtain⟨h0,h1,h2⟩:=hq
 simp only at h0 h1 h2
 have nx:∀ g:i < l.length,Rm p (l.take (i+1).toNat)=gw p (a,b,w) (l.getD i.toNat []):=fun g=>by
  unfold Rm at h2 ⊢
  rw [fa l i h0 g,List.foldl_append,← h2]
  rfl
 refine⟨fun h=>⟨by rw [bo,wr _ (by omega) (by omega)],fun _ _ _=>by simp only [Zx];omega,fun g=>⟨by simp only;omega,by simp only;omega,?_⟩,fun g=>⟨by simp only;omega,by simp only;omega,?_⟩⟩,fun h=>?_⟩
 ·simp only
  rw [nx h]
  unfold gw
  exact (if_pos g).symm
 ·simp only
  rw [nx h]
  unfold gw
  exact (if_neg g).symm
 ·have e:i=l.length:=by omega
  rw [e,Int.toNat_natCast,List.take_length] at h2
  rw [← h2]
  exact⟨rfl,rfl,rfl⟩
theorem ZV {l:List E} {a b:Int} (h:GB l a b=0):VQ l a b=qk l b∧okW (qk l b) a=true∧(wF 65 (qk l b) a).length≤64:=by
 obtain⟨_,_,_,_,_,_,_,k1,k2,_⟩:=Ww h
 exact⟨if_pos h,k1,k2⟩
structure Tq where
 abJ:List E→Int→Int→Int→List E
 abG:List E→Int→Int→List E
 abA:List E→Int→Int→List Int
 aaV:List E→Int→Int→Bool
 abv:List E→T
 abe:List E→Bool
 TC:List E→Bool
 abm:List E→Bool
 aaZ:List E→Int→Int→Bool
 FV:List E→Int→Int→T
 Qn:List E→Int→Int→Int
def Tq.U:Tq:=⟨fun l a b w=>Zf l (a,b,w),onR,wyB,fun l a b=>decide (GB l a b=0∧l.length≤512),mxT,fun l=>decide (0 < l.length∧l.length≤1000000),fun l=>decide (l.length≤1000000),WX,aam,ua,Oa⟩
def jx (F:Tq):aY:=fun xs h=>match xs,h with
 |[.one (.sl none (.ah (.int .i64 (.int .i64 (.int .i64 .nil))) l)),.one (.val (.int .i64 a)),.one (.val (.int .i64 d))],[]=>some ⟨F.TC l=true,.bK [.agg [.val (.int .i64 (F.FV l a d).1),.val (.int .i64 (F.FV l a d).2.1),.val (.int .i64 (F.FV l a d).2.2)],I (F.Qn l a d)],[],[Any,Any,Any]⟩
 |_,_=>none
theorem Ll (l:List E) (a:Int) (d:Int) (hC:Tq.U.TC l=true):aV [(202,wk TrR.Tr.U),(203,IS TrR.Tr.U),(204,lO TrR.Tr.U),(175,ka EgR.Fs.U)] Tryz.f174 [.one (.sl none (.ah (.int .i64 (.int .i64 (.int .i64 .nil))) l)),.one (.val (.int .i64 a)),.one (.val (.int .i64 d))] [] ⟨Tq.U.TC l=true,.bK [.agg [.val (.int .i64 (Tq.U.FV l a d).1),.val (.int .i64 (Tq.U.FV l a d).2.1),.val (.int .i64 (Tq.U.FV l a d).2.2)],I (Tq.U.Qn l a d)],[],[Any,Any,Any]⟩:=by
 intro b gv
 have hk:l.length≤1000000:=of_decide_eq_true (show decide (l.length≤1000000)=true from hC)
 have h0:=fun h=>ZV (l:=l) (a:=a) (b:=d) h
 have h65:=Um (l:=l) (a:=a) (b:=d)
 have hfs:=(af.cons yG (af.cons Kb (af.cons pI (af.cons fg af.nil rfl) rfl) rfl) rfl)
 generalize hF:Tq.U=F at hC hfs ⊢
 generalize hG0:EgR.Fs.U=G0 at hC hfs ⊢
 generalize hG1:SpR.Sp.U=G1 at hC hfs ⊢
 generalize hG2:SpQ.Sq.U=G2 at hC hfs ⊢
 generalize hG3:TrR.Tr.U=G3 at hC hfs ⊢
 generalize hA:Ar.U=A
 generalize hL:Lp _ _ _=L
 obtain⟨Z,zq⟩:=aQ
 refine aD (ae hL) zq rfl ?_
 repeat' (first|(refine aw zq ?_;try dsimp only)|refine ax zq ?_ (ae hL)|refine az zq ?_|refine ay ?_|refine aq ?_|refine ar ?_|refine av ?_|refine au rfl ?_|refine ai rfl ?_|refine aj rfl ?_|(refine Cd.mk ?_;cbv)|(refine aE.mk ?_;cbv)|(refine aM.mk ?_;cbv)|exact trivial|refine And.intro ?_ ?_|refine bu fun _=>?_|refine br fun _=>?_)
 all_goals first|(show L _ _ _;skip)|(clear hL hfs zq Z;subst hA hF hG0 hG1 hG2 hG3;simp only [Tq.U,TrR.Tr.U,Ar.U] at * <;> grind [al,Oa,ua];done)
 rename_i hx1 hx2
 have hr:GB l a d=0∧¬a=d:=by
  clear hL hfs zq Z h0
  subst hA hF hG0 hG1 hG2 hG3
  simp only [Tq.U,TrR.Tr.U,Ar.U] at *
  grind [al]
 clear hx1 hx2
 obtain⟨r1,r2,r3⟩:=h0 hr.1
 have r4:Oa l a d=0:=by
  unfold Oa
  rw [if_pos hr.1,if_neg hr.2]
 have r5:ua l a d=Rm (wF 65 (qk l d) a) l:=if_pos r4
 subst hL
 refine ba (bx hfs) (Yg (wF 65 (qk l d) a) l) (LF A l (G3.LS l a d) (G3.LQ (G3.LS l a d) a)) (Zx l) hvR ⟨0,0,0,0⟩ ?_ ?_ ?_
 ·exact Oh _ _
 ·cbv
  repeat' (first|exact trivial|exact rfl|refine And.intro ?_ ?_)
 rintro⟨i,x,y,w⟩ hq O hO
 have hst:=Mb hk hq
 have q0:=hq.1
 have q1:=hq.2.1
 dsimp only at q0 q1
 subst hA
 generalize hA:Ar.U=A
 generalize hL:Lp _ _ _=L
 refine aR zq ?_
 repeat' (first|(refine aw zq ?_;try dsimp only)|refine ax zq ?_ (ae hL)|refine az zq ?_|refine ay ?_|refine aq ?_|refine ar ?_|refine av ?_|refine au rfl ?_|refine ai rfl ?_|refine aj rfl ?_|(refine Cd.mk ?_;cbv)|(refine aE.mk ?_;cbv)|(refine aM.mk ?_;cbv)|exact trivial|refine And.intro ?_ ?_|refine bu fun _=>?_|refine br fun _=>?_)
 all_goals (clear hL hfs zq Z hq;subst hA hF hG0 hG1 hG2 hG3 hO;simp only [Tq.U,EgR.Fs.U,TrR.Tr.U,Ar.U] at * <;> grind [al];done)
theorem iw:aA Tryz.prog 174 (jx Tq.U):=by
 refine aG (af.cons yG (af.cons Kb (af.cons pI (af.cons fg af.nil rfl) rfl) rfl) rfl) Tryz.func174 rfl rfl fun xs h p hp=>?_
 unfold jx at hp
 split at hp
 ·cases hp
  exact⟨aB rfl,fun hC _=>Ll _ _ _ hC⟩
 ·cases hp
end Go.Proofs.YtelhldgdnlppfaaGreat.TrQ
