/-
  the view of two,as the code makes it. No condition.
-/
import Derived.Test.YtelhldgdnlppfaaGreatVgW35
import Derived.Test.YtelhldgdnlppfaaGreatVgW36
import Derived.Test.YtelhldgdnlppfaaGreatVgW37
import Derived.Test.YtelhldgdnlppfaaGreatVgW23
set_option cbv.maxSteps 4000000
set_option maxHeartbeats 4000000
set_option maxRecDepth 100000
namespace Go.Proofs.YtelhldgdnlppfaaGreat.MgR
open Go Ry Cmp ViR ViC
open CtI (sV mT kL kf)
open CtK (tK ni kF jE)
open SoN (fm ek dA dy)
def dU (n k:List Int):Bool:=n.any fun x=>k.contains x
def qh (n:List Int) (l:List E) (k:List Int) (q:List E):Bool:=(bf n l && bf k q) && !dU n k
def nB (n:List Int) (l:List E) (k:List Int) (q:List E):List Int:=if qh n l k q=true then SoI.fB (n ++ k) else []
def my (n:List Int) (l:List E) (k:List Int) (q:List E):List E:=if qh n l k q=true then SoK.km (l ++ q) else []
def mD (n:List Int) (l:List E) (k:List Int) (q:List E):Int:=if (bf n l && bf k q)=true then (if dU n k=true then 11 else 0) else 1
structure XM where
 i:Int
def RY (n k:List Int) (y:XM):Prop:=0≤y.i∧y.i≤n.length∧∀ j:Nat,j < y.i→k.contains (n.getD j 0)=false
def Tl (n:List Int) (y:XM):Nat:=n.length - y.i.toNat
noncomputable def ZN (A:Ar) (n:List Int) (l:List E) (k:List Int) (q:List E) (y:XM):St:=cC Tryz.f113.ntmps [(2,.ptr 1 0),(3,.ptr 2 0),(4,.ptr 3 0),(19,.sl none (.ints .i64 n)),(20,.val (.int .i64 (A.fE n))),(21,.val (.int .i64 y.i))] [(1,.cells 29 [.sl none (.ints .i64 n),.sl none (.ah (.int .i64 (.int .i64 (.int .i64 (.int .i64 (.bool .nil))))) l)]),(2,.cells 29 [.sl none (.ints .i64 k),.sl none (.ah (.int .i64 (.int .i64 (.int .i64 (.int .i64 (.bool .nil))))) q)]),(3,.cells 29 [.val (.slice none 0 0),.val (.slice none 0 0)])] [Any,Any]
def ZJ (st:St):XM:=⟨bR st 21⟩
theorem rf (n k:List Int):RY n k ⟨0⟩:=⟨Int.le_refl 0,Int.natCast_nonneg _,fun j hj=>by simp only at hj;omega⟩
theorem qY {n k:List Int} (hn:n.length≤1000) {i:Int} (h:RY n k ⟨i⟩):0≤i∧i≤n.length∧(i < n.length→aO .add .i64 i 1=i+1∧Tl n ⟨i+1⟩ < Tl n ⟨i⟩∧(k.contains (n.getD i.toNat 0)=true→dU n k=true)∧(k.contains (n.getD i.toNat 0)=false→RY n k ⟨i+1⟩))∧(¬i < n.length→dU n k=false):=by
 obtain⟨h0,h1,h2⟩:=h
 simp only at h0 h1 h2
 refine⟨h0,h1,fun c=>⟨by rw [bo,wr _ (by omega) (by omega)],by simp only [Tl];omega,fun g=>?_,fun g=>⟨by simp only;omega,by simp only;omega,fun j hj=>?_⟩⟩,fun c=>?_⟩
 ·unfold dU
  rw [List.any_eq_true]
  refine⟨_,?_,g⟩
  rw [List.getD_eq_getElem?_getD,List.getElem?_eq_getElem (show i.toNat < n.length by omega),Option.getD_some]
  exact List.getElem_mem _
 ·simp only at hj
  by_cases z:j=i.toNat
  ·rw [z]
   exact g
  ·exact h2 j (by omega)
 ·unfold dU
  rw [← Bool.not_eq_true,List.any_eq_true]
  rintro⟨x,hx,g⟩
  obtain⟨j,hj,rfl⟩:=List.getElem_of_mem hx
  have:=h2 j (by omega)
  rw [List.getD_eq_getElem?_getD,List.getElem?_eq_getElem hj,Option.getD_some] at this
  rw [this] at g
  cases g
theorem Dn (n k:List Int):CtI.da [[D.ints n],[D.ints k]]=n ++ k:=by simp [CtI.da,rl]
theorem CI (l q:List E):CtK.da [[D.ah l],[D.ah q]]=l ++ q:=by simp [CtK.da,rr]
structure Mg where
 PC:List Int→List E→List Int→List E→List Int
 Oz:List Int→List E→List Int→List E→List E
 Nn:List Int→List E→List Int→List E→Int
 aaG:List Int→List E→List Int→List E→Bool
 UP:List Int→List E→List Int→List E→Bool
 TD:List Int→List E→List Int→List E→Bool
 Sz:List Int→List E→List Int→List E→Bool
 UO:List Int→List E→List Int→List E→Bool
def Mg.U:Mg:=⟨nB,my,mD,fun n l k q=>decide (n.length≤1000∧k.length≤1000∧l.length≤1000∧q.length≤1000),fun n l k q=>decide ((n.length≤1000∧k.length≤1000∧l.length≤1000∧q.length≤1000)∧( n.length+k.length=0)∧( l.length+q.length=0)),fun n l k q=>decide ((n.length≤1000∧k.length≤1000∧l.length≤1000∧q.length≤1000)∧( n.length+k.length=0)∧(¬l.length+q.length=0)),fun n l k q=>decide ((n.length≤1000∧k.length≤1000∧l.length≤1000∧q.length≤1000)∧(¬n.length+k.length=0)∧( l.length+q.length=0)),fun n l k q=>decide ((n.length≤1000∧k.length≤1000∧l.length≤1000∧q.length≤1000)∧(¬n.length+k.length=0)∧(¬l.length+q.length=0))⟩
def vF (F:Mg):aY:=fun xs h=>match xs,h with
 |[.agg [.sl none (.ints .i64 a_n),.sl none (.ah (.int .i64 (.int .i64 (.int .i64 (.int .i64 (.bool .nil))))) a_l)],.agg [.sl none (.ints .i64 d_n),.sl none (.ah (.int .i64 (.int .i64 (.int .i64 (.int .i64 (.bool .nil))))) d_l)]],[]=>some ⟨F.UP a_n a_l d_n d_l=true,.bK [.agg [.sl none (.ints .i64 (F.PC a_n a_l d_n d_l)),.sl none (.ah (.int .i64 (.int .i64 (.int .i64 (.int .i64 (.bool .nil))))) (F.Oz a_n a_l d_n d_l))],I (F.Nn a_n a_l d_n d_l)],[],[Any,Any]⟩
 |_,_=>none
theorem Fp (a_n:List Int) (a_l:List E) (d_n:List Int) (d_l:List E) (hC:Mg.U.UP a_n a_l d_n d_l=true):aV [(129,dD ViC.Vc.U),(135,qa ViR.Vs.U),(136,sV CtI.Cs.U),(137,tK CtK.Cs.U),(138,fm SoN.On.U),(139,ek SoN.On.U)] Tryz.f113 [.agg [.sl none (.ints .i64 a_n),.sl none (.ah (.int .i64 (.int .i64 (.int .i64 (.int .i64 (.bool .nil))))) a_l)],.agg [.sl none (.ints .i64 d_n),.sl none (.ah (.int .i64 (.int .i64 (.int .i64 (.int .i64 (.bool .nil))))) d_l)]] [] ⟨Mg.U.UP a_n a_l d_n d_l=true,.bK [.agg [.sl none (.ints .i64 (Mg.U.PC a_n a_l d_n d_l)),.sl none (.ah (.int .i64 (.int .i64 (.int .i64 (.int .i64 (.bool .nil))))) (Mg.U.Oz a_n a_l d_n d_l))],I (Mg.U.Nn a_n a_l d_n d_l)],[],[Any,Any]⟩:=by
 intro b gv
 have hk:(a_n.length≤1000∧d_n.length≤1000∧a_l.length≤1000∧d_l.length≤1000)∧( a_n.length+d_n.length=0)∧( a_l.length+d_l.length=0):=of_decide_eq_true (show decide _=true from hC)
 obtain⟨⟨hk1,hk2,hk3,hk4⟩,hk5,hk6⟩:=hk
 have e1:qh a_n a_l d_n d_l=true→nB a_n a_l d_n d_l=SoI.fB (a_n ++ d_n)∧my a_n a_l d_n d_l=SoK.km (a_l ++ d_l):=fun h=>⟨if_pos h,if_pos h⟩
 have e2:¬qh a_n a_l d_n d_l=true→nB a_n a_l d_n d_l=[]∧my a_n a_l d_n d_l=[]:=fun h=>⟨if_neg h,if_neg h⟩
 have e3:qh a_n a_l d_n d_l=((bf a_n a_l && bf d_n d_l) && !dU a_n d_n):=rfl
 have e4:mD a_n a_l d_n d_l=if (bf a_n a_l && bf d_n d_l)=true then (if dU a_n d_n=true then 11 else 0) else 1:=rfl
 have e5:=Dn a_n d_n
 have e6:=CI a_l d_l
 have e7:ob a_n a_l=if bf a_n a_l=true then 0 else 1:=rfl
 have e8:ob d_n d_l=if bf d_n d_l=true then 0 else 1:=rfl
 have e9:=(SoI.cH (a_n ++ d_n)).1
 have e10:=(SoK.ei (a_l ++ d_l)).1
 have eb:bf d_n d_l=true→∀ t,Pv d_n t=d_n.contains t:=fun h t=>pB (by unfold bf at h;rw [Bool.and_eq_true] at h;exact h.1) t
 have hfs:=(af.cons bM (af.cons fK (af.cons kL (af.cons kF (af.cons dA (af.cons dy af.nil rfl) rfl) rfl) rfl) rfl) rfl)
 generalize hF:Mg.U=F at hC hfs ⊢
 generalize hG0:ViR.Vs.U=G0 at hC hfs ⊢
 generalize hG1:ViC.Vc.U=G1 at hC hfs ⊢
 generalize hG2:CtI.Cs.U=G2 at hC hfs ⊢
 generalize hG3:CtK.Cs.U=G3 at hC hfs ⊢
 generalize hG4:SoN.On.U=G4 at hC hfs ⊢
 generalize hA:Ar.U=A
 generalize hL:Lp _ _ _=L
 obtain⟨Z,zq⟩:=aQ
 refine aD (ae hL) zq rfl ?_
 repeat' (first|(refine aw zq ?_;try dsimp only)|refine ax zq ?_ (ae hL)|refine az zq ?_|refine ay ?_|refine aq ?_|refine ar ?_|refine av ?_|refine au rfl ?_|refine ai rfl ?_|refine aj rfl ?_|(refine Cd.mk ?_;cbv)|(refine aE.mk ?_;cbv)|(refine aM.mk ?_;cbv)|exact trivial|refine And.intro ?_ ?_|refine bu fun _=>?_|refine br fun _=>?_)
 all_goals first|(show L _ _ _;skip)|(clear hL hfs zq Z;subst hA hF hG0 hG1 hG2 hG3 hG4;simp only [Mg.U,ViC.Vc.U,Ar.U] at * <;> grind [al];done)
 rename_i hx
 have hv:bf a_n a_l=true∧bf d_n d_l=true:=by
  clear hL hfs zq Z e1 e2 e3 e4 e5 e6 eb
  subst hA hF hG0 hG1 hG2 hG3 hG4
  simp only [Mg.U,ViC.Vc.U,Ar.U] at *
  grind [al]
 clear hx
 have eb:=eb hv.2
 subst hL
 refine ba (bx hfs) (RY a_n d_n) (ZN A a_n a_l d_n d_l) (Tl a_n) ZJ ⟨0⟩ ?_ ?_ ?_
 ·exact rf _ _
 ·cbv
  repeat' (first|exact trivial|exact rfl|refine And.intro ?_ ?_)
 rintro⟨i⟩ hq O hO
 have hst:=qY hk1 hq
 subst hA
 generalize hA:Ar.U=A
 generalize hL:Lp _ _ _=L
 refine aR zq ?_
 repeat' (first|(refine aw zq ?_;try dsimp only)|refine ax zq ?_ (ae hL)|refine az zq ?_|refine ay ?_|refine aq ?_|refine ar ?_|refine av ?_|refine au rfl ?_|refine ai rfl ?_|refine aj rfl ?_|(refine Cd.mk ?_;cbv)|(refine aE.mk ?_;cbv)|(refine aM.mk ?_;cbv)|exact trivial|refine And.intro ?_ ?_|refine bu fun _=>?_|refine br fun _=>?_)
 all_goals (clear hL hfs zq Z hq;subst hA hF hG0 hG1 hG2 hG3 hG4 hO;simp only [Mg.U,ViR.Vs.U,CtI.Cs.U,CtK.Cs.U,SoN.On.U,SoI.Oi.U,SoK.Ok.U,Ar.U] at * <;> grind [al];done)
theorem Bg:aA Tryz.prog 113 (vF Mg.U):=by
 refine aG (af.cons bM (af.cons fK (af.cons kL (af.cons kF (af.cons dA (af.cons dy af.nil rfl) rfl) rfl) rfl) rfl) rfl) Tryz.func113 rfl rfl fun xs h p hp=>?_
 unfold vF at hp
 split at hp
 ·cases hp
  exact⟨aB rfl,fun hC _=>Fp _ _ _ _ hC⟩
 ·cases hp
def vg (F:Mg):aY:=fun xs h=>match xs,h with
 |[.agg [.sl none (.ints .i64 a_n),.sl none (.ah (.int .i64 (.int .i64 (.int .i64 (.int .i64 (.bool .nil))))) a_l)],.agg [.sl none (.ints .i64 d_n),.sl none (.ah (.int .i64 (.int .i64 (.int .i64 (.int .i64 (.bool .nil))))) d_l)]],[]=>some ⟨F.TD a_n a_l d_n d_l=true,.bK [.agg [.sl none (.ints .i64 (F.PC a_n a_l d_n d_l)),.sl none (.ah (.int .i64 (.int .i64 (.int .i64 (.int .i64 (.bool .nil))))) (F.Oz a_n a_l d_n d_l))],I (F.Nn a_n a_l d_n d_l)],[],[Any,Any]⟩
 |_,_=>none
theorem FP (a_n:List Int) (a_l:List E) (d_n:List Int) (d_l:List E) (hC:Mg.U.TD a_n a_l d_n d_l=true):aV [(129,dD ViC.Vc.U),(135,qa ViR.Vs.U),(136,sV CtI.Cs.U),(137,ni CtK.Cs.U),(138,fm SoN.On.U),(139,ek SoN.On.U)] Tryz.f113 [.agg [.sl none (.ints .i64 a_n),.sl none (.ah (.int .i64 (.int .i64 (.int .i64 (.int .i64 (.bool .nil))))) a_l)],.agg [.sl none (.ints .i64 d_n),.sl none (.ah (.int .i64 (.int .i64 (.int .i64 (.int .i64 (.bool .nil))))) d_l)]] [] ⟨Mg.U.TD a_n a_l d_n d_l=true,.bK [.agg [.sl none (.ints .i64 (Mg.U.PC a_n a_l d_n d_l)),.sl none (.ah (.int .i64 (.int .i64 (.int .i64 (.int .i64 (.bool .nil))))) (Mg.U.Oz a_n a_l d_n d_l))],I (Mg.U.Nn a_n a_l d_n d_l)],[],[Any,Any]⟩:=by
 intro b gv
 have hk:(a_n.length≤1000∧d_n.length≤1000∧a_l.length≤1000∧d_l.length≤1000)∧( a_n.length+d_n.length=0)∧(¬a_l.length+d_l.length=0):=of_decide_eq_true (show decide _=true from hC)
 obtain⟨⟨hk1,hk2,hk3,hk4⟩,hk5,hk6⟩:=hk
 have e1:qh a_n a_l d_n d_l=true→nB a_n a_l d_n d_l=SoI.fB (a_n ++ d_n)∧my a_n a_l d_n d_l=SoK.km (a_l ++ d_l):=fun h=>⟨if_pos h,if_pos h⟩
 have e2:¬qh a_n a_l d_n d_l=true→nB a_n a_l d_n d_l=[]∧my a_n a_l d_n d_l=[]:=fun h=>⟨if_neg h,if_neg h⟩
 have e3:qh a_n a_l d_n d_l=((bf a_n a_l && bf d_n d_l) && !dU a_n d_n):=rfl
 have e4:mD a_n a_l d_n d_l=if (bf a_n a_l && bf d_n d_l)=true then (if dU a_n d_n=true then 11 else 0) else 1:=rfl
 have e5:=Dn a_n d_n
 have e6:=CI a_l d_l
 have e7:ob a_n a_l=if bf a_n a_l=true then 0 else 1:=rfl
 have e8:ob d_n d_l=if bf d_n d_l=true then 0 else 1:=rfl
 have e9:=(SoI.cH (a_n ++ d_n)).1
 have e10:=(SoK.ei (a_l ++ d_l)).1
 have eb:bf d_n d_l=true→∀ t,Pv d_n t=d_n.contains t:=fun h t=>pB (by unfold bf at h;rw [Bool.and_eq_true] at h;exact h.1) t
 have hfs:=(af.cons bM (af.cons fK (af.cons kL (af.cons jE (af.cons dA (af.cons dy af.nil rfl) rfl) rfl) rfl) rfl) rfl)
 generalize hF:Mg.U=F at hC hfs ⊢
 generalize hG0:ViR.Vs.U=G0 at hC hfs ⊢
 generalize hG1:ViC.Vc.U=G1 at hC hfs ⊢
 generalize hG2:CtI.Cs.U=G2 at hC hfs ⊢
 generalize hG3:CtK.Cs.U=G3 at hC hfs ⊢
 generalize hG4:SoN.On.U=G4 at hC hfs ⊢
 generalize hA:Ar.U=A
 generalize hL:Lp _ _ _=L
 obtain⟨Z,zq⟩:=aQ
 refine aD (ae hL) zq rfl ?_
 repeat' (first|(refine aw zq ?_;try dsimp only)|refine ax zq ?_ (ae hL)|refine az zq ?_|refine ay ?_|refine aq ?_|refine ar ?_|refine av ?_|refine au rfl ?_|refine ai rfl ?_|refine aj rfl ?_|(refine Cd.mk ?_;cbv)|(refine aE.mk ?_;cbv)|(refine aM.mk ?_;cbv)|exact trivial|refine And.intro ?_ ?_|refine bu fun _=>?_|refine br fun _=>?_)
 all_goals first|(show L _ _ _;skip)|(clear hL hfs zq Z;subst hA hF hG0 hG1 hG2 hG3 hG4;simp only [Mg.U,ViC.Vc.U,Ar.U] at * <;> grind [al];done)
 rename_i hx
 have hv:bf a_n a_l=true∧bf d_n d_l=true:=by
  clear hL hfs zq Z e1 e2 e3 e4 e5 e6 eb
  subst hA hF hG0 hG1 hG2 hG3 hG4
  simp only [Mg.U,ViC.Vc.U,Ar.U] at *
  grind [al]
 clear hx
 have eb:=eb hv.2
 subst hL
 refine ba (bx hfs) (RY a_n d_n) (ZN A a_n a_l d_n d_l) (Tl a_n) ZJ ⟨0⟩ ?_ ?_ ?_
 ·exact rf _ _
 ·cbv
  repeat' (first|exact trivial|exact rfl|refine And.intro ?_ ?_)
 rintro⟨i⟩ hq O hO
 have hst:=qY hk1 hq
 subst hA
 generalize hA:Ar.U=A
 generalize hL:Lp _ _ _=L
 refine aR zq ?_
 repeat' (first|(refine aw zq ?_;try dsimp only)|refine ax zq ?_ (ae hL)|refine az zq ?_|refine ay ?_|refine aq ?_|refine ar ?_|refine av ?_|refine au rfl ?_|refine ai rfl ?_|refine aj rfl ?_|(refine Cd.mk ?_;cbv)|(refine aE.mk ?_;cbv)|(refine aM.mk ?_;cbv)|exact trivial|refine And.intro ?_ ?_|refine bu fun _=>?_|refine br fun _=>?_)
 all_goals (clear hL hfs zq Z hq;subst hA hF hG0 hG1 hG2 hG3 hG4 hO;simp only [Mg.U,ViR.Vs.U,CtI.Cs.U,CtK.Cs.U,SoN.On.U,SoI.Oi.U,SoK.Ok.U,Ar.U] at * <;> grind [al];done)
theorem Be:aA Tryz.prog 113 (vg Mg.U):=by
 refine aG (af.cons bM (af.cons fK (af.cons kL (af.cons jE (af.cons dA (af.cons dy af.nil rfl) rfl) rfl) rfl) rfl) rfl) Tryz.func113 rfl rfl fun xs h p hp=>?_
 unfold vg at hp
 split at hp
 ·cases hp
  exact⟨aB rfl,fun hC _=>FP _ _ _ _ hC⟩
 ·cases hp
def vt (F:Mg):aY:=fun xs h=>match xs,h with
 |[.agg [.sl none (.ints .i64 a_n),.sl none (.ah (.int .i64 (.int .i64 (.int .i64 (.int .i64 (.bool .nil))))) a_l)],.agg [.sl none (.ints .i64 d_n),.sl none (.ah (.int .i64 (.int .i64 (.int .i64 (.int .i64 (.bool .nil))))) d_l)]],[]=>some ⟨F.Sz a_n a_l d_n d_l=true,.bK [.agg [.sl none (.ints .i64 (F.PC a_n a_l d_n d_l)),.sl none (.ah (.int .i64 (.int .i64 (.int .i64 (.int .i64 (.bool .nil))))) (F.Oz a_n a_l d_n d_l))],I (F.Nn a_n a_l d_n d_l)],[],[Any,Any]⟩
 |_,_=>none
theorem FI (a_n:List Int) (a_l:List E) (d_n:List Int) (d_l:List E) (hC:Mg.U.Sz a_n a_l d_n d_l=true):aV [(129,dD ViC.Vc.U),(135,qa ViR.Vs.U),(136,mT CtI.Cs.U),(137,tK CtK.Cs.U),(138,fm SoN.On.U),(139,ek SoN.On.U)] Tryz.f113 [.agg [.sl none (.ints .i64 a_n),.sl none (.ah (.int .i64 (.int .i64 (.int .i64 (.int .i64 (.bool .nil))))) a_l)],.agg [.sl none (.ints .i64 d_n),.sl none (.ah (.int .i64 (.int .i64 (.int .i64 (.int .i64 (.bool .nil))))) d_l)]] [] ⟨Mg.U.Sz a_n a_l d_n d_l=true,.bK [.agg [.sl none (.ints .i64 (Mg.U.PC a_n a_l d_n d_l)),.sl none (.ah (.int .i64 (.int .i64 (.int .i64 (.int .i64 (.bool .nil))))) (Mg.U.Oz a_n a_l d_n d_l))],I (Mg.U.Nn a_n a_l d_n d_l)],[],[Any,Any]⟩:=by
 intro b gv
 have hk:(a_n.length≤1000∧d_n.length≤1000∧a_l.length≤1000∧d_l.length≤1000)∧(¬a_n.length+d_n.length=0)∧( a_l.length+d_l.length=0):=of_decide_eq_true (show decide _=true from hC)
 obtain⟨⟨hk1,hk2,hk3,hk4⟩,hk5,hk6⟩:=hk
 have e1:qh a_n a_l d_n d_l=true→nB a_n a_l d_n d_l=SoI.fB (a_n ++ d_n)∧my a_n a_l d_n d_l=SoK.km (a_l ++ d_l):=fun h=>⟨if_pos h,if_pos h⟩
 have e2:¬qh a_n a_l d_n d_l=true→nB a_n a_l d_n d_l=[]∧my a_n a_l d_n d_l=[]:=fun h=>⟨if_neg h,if_neg h⟩
 have e3:qh a_n a_l d_n d_l=((bf a_n a_l && bf d_n d_l) && !dU a_n d_n):=rfl
 have e4:mD a_n a_l d_n d_l=if (bf a_n a_l && bf d_n d_l)=true then (if dU a_n d_n=true then 11 else 0) else 1:=rfl
 have e5:=Dn a_n d_n
 have e6:=CI a_l d_l
 have e7:ob a_n a_l=if bf a_n a_l=true then 0 else 1:=rfl
 have e8:ob d_n d_l=if bf d_n d_l=true then 0 else 1:=rfl
 have e9:=(SoI.cH (a_n ++ d_n)).1
 have e10:=(SoK.ei (a_l ++ d_l)).1
 have eb:bf d_n d_l=true→∀ t,Pv d_n t=d_n.contains t:=fun h t=>pB (by unfold bf at h;rw [Bool.and_eq_true] at h;exact h.1) t
 have hfs:=(af.cons bM (af.cons fK (af.cons kf (af.cons kF (af.cons dA (af.cons dy af.nil rfl) rfl) rfl) rfl) rfl) rfl)
 generalize hF:Mg.U=F at hC hfs ⊢
 generalize hG0:ViR.Vs.U=G0 at hC hfs ⊢
 generalize hG1:ViC.Vc.U=G1 at hC hfs ⊢
 generalize hG2:CtI.Cs.U=G2 at hC hfs ⊢
 generalize hG3:CtK.Cs.U=G3 at hC hfs ⊢
 generalize hG4:SoN.On.U=G4 at hC hfs ⊢
 generalize hA:Ar.U=A
 generalize hL:Lp _ _ _=L
 obtain⟨Z,zq⟩:=aQ
 refine aD (ae hL) zq rfl ?_
 repeat' (first|(refine aw zq ?_;try dsimp only)|refine ax zq ?_ (ae hL)|refine az zq ?_|refine ay ?_|refine aq ?_|refine ar ?_|refine av ?_|refine au rfl ?_|refine ai rfl ?_|refine aj rfl ?_|(refine Cd.mk ?_;cbv)|(refine aE.mk ?_;cbv)|(refine aM.mk ?_;cbv)|exact trivial|refine And.intro ?_ ?_|refine bu fun _=>?_|refine br fun _=>?_)
 all_goals first|(show L _ _ _;skip)|(clear hL hfs zq Z;subst hA hF hG0 hG1 hG2 hG3 hG4;simp only [Mg.U,ViC.Vc.U,Ar.U] at * <;> grind [al];done)
 rename_i hx
 have hv:bf a_n a_l=true∧bf d_n d_l=true:=by
  clear hL hfs zq Z e1 e2 e3 e4 e5 e6 eb
  subst hA hF hG0 hG1 hG2 hG3 hG4
  simp only [Mg.U,ViC.Vc.U,Ar.U] at *
  grind [al]
 clear hx
 have eb:=eb hv.2
 subst hL
 refine ba (bx hfs) (RY a_n d_n) (ZN A a_n a_l d_n d_l) (Tl a_n) ZJ ⟨0⟩ ?_ ?_ ?_
 ·exact rf _ _
 ·cbv
  repeat' (first|exact trivial|exact rfl|refine And.intro ?_ ?_)
 rintro⟨i⟩ hq O hO
 have hst:=qY hk1 hq
 subst hA
 generalize hA:Ar.U=A
 generalize hL:Lp _ _ _=L
 refine aR zq ?_
 repeat' (first|(refine aw zq ?_;try dsimp only)|refine ax zq ?_ (ae hL)|refine az zq ?_|refine ay ?_|refine aq ?_|refine ar ?_|refine av ?_|refine au rfl ?_|refine ai rfl ?_|refine aj rfl ?_|(refine Cd.mk ?_;cbv)|(refine aE.mk ?_;cbv)|(refine aM.mk ?_;cbv)|exact trivial|refine And.intro ?_ ?_|refine bu fun _=>?_|refine br fun _=>?_)
 all_goals (clear hL hfs zq Z hq;subst hA hF hG0 hG1 hG2 hG3 hG4 hO;simp only [Mg.U,ViR.Vs.U,CtI.Cs.U,CtK.Cs.U,SoN.On.U,SoI.Oi.U,SoK.Ok.U,Ar.U] at * <;> grind [al];done)
theorem BL:aA Tryz.prog 113 (vt Mg.U):=by
 refine aG (af.cons bM (af.cons fK (af.cons kf (af.cons kF (af.cons dA (af.cons dy af.nil rfl) rfl) rfl) rfl) rfl) rfl) Tryz.func113 rfl rfl fun xs h p hp=>?_
 unfold vt at hp
 split at hp
 ·cases hp
  exact⟨aB rfl,fun hC _=>FI _ _ _ _ hC⟩
 ·cases hp
def vE (F:Mg):aY:=fun xs h=>match xs,h with
 |[.agg [.sl none (.ints .i64 a_n),.sl none (.ah (.int .i64 (.int .i64 (.int .i64 (.int .i64 (.bool .nil))))) a_l)],.agg [.sl none (.ints .i64 d_n),.sl none (.ah (.int .i64 (.int .i64 (.int .i64 (.int .i64 (.bool .nil))))) d_l)]],[]=>some ⟨F.UO a_n a_l d_n d_l=true,.bK [.agg [.sl none (.ints .i64 (F.PC a_n a_l d_n d_l)),.sl none (.ah (.int .i64 (.int .i64 (.int .i64 (.int .i64 (.bool .nil))))) (F.Oz a_n a_l d_n d_l))],I (F.Nn a_n a_l d_n d_l)],[],[Any,Any]⟩
 |_,_=>none
theorem ES (a_n:List Int) (a_l:List E) (d_n:List Int) (d_l:List E) (hC:Mg.U.UO a_n a_l d_n d_l=true):aV [(129,dD ViC.Vc.U),(135,qa ViR.Vs.U),(136,mT CtI.Cs.U),(137,ni CtK.Cs.U),(138,fm SoN.On.U),(139,ek SoN.On.U)] Tryz.f113 [.agg [.sl none (.ints .i64 a_n),.sl none (.ah (.int .i64 (.int .i64 (.int .i64 (.int .i64 (.bool .nil))))) a_l)],.agg [.sl none (.ints .i64 d_n),.sl none (.ah (.int .i64 (.int .i64 (.int .i64 (.int .i64 (.bool .nil))))) d_l)]] [] ⟨Mg.U.UO a_n a_l d_n d_l=true,.bK [.agg [.sl none (.ints .i64 (Mg.U.PC a_n a_l d_n d_l)),.sl none (.ah (.int .i64 (.int .i64 (.int .i64 (.int .i64 (.bool .nil))))) (Mg.U.Oz a_n a_l d_n d_l))],I (Mg.U.Nn a_n a_l d_n d_l)],[],[Any,Any]⟩:=by
 intro b gv
 have hk:(a_n.length≤1000∧d_n.length≤1000∧a_l.length≤1000∧d_l.length≤1000)∧(¬a_n.length+d_n.length=0)∧(¬a_l.length+d_l.length=0):=of_decide_eq_true (show decide _=true from hC)
 obtain⟨⟨hk1,hk2,hk3,hk4⟩,hk5,hk6⟩:=hk
 have e1:qh a_n a_l d_n d_l=true→nB a_n a_l d_n d_l=SoI.fB (a_n ++ d_n)∧my a_n a_l d_n d_l=SoK.km (a_l ++ d_l):=fun h=>⟨if_pos h,if_pos h⟩
 have e2:¬qh a_n a_l d_n d_l=true→nB a_n a_l d_n d_l=[]∧my a_n a_l d_n d_l=[]:=fun h=>⟨if_neg h,if_neg h⟩
 have e3:qh a_n a_l d_n d_l=((bf a_n a_l && bf d_n d_l) && !dU a_n d_n):=rfl
 have e4:mD a_n a_l d_n d_l=if (bf a_n a_l && bf d_n d_l)=true then (if dU a_n d_n=true then 11 else 0) else 1:=rfl
 have e5:=Dn a_n d_n
 have e6:=CI a_l d_l
 have e7:ob a_n a_l=if bf a_n a_l=true then 0 else 1:=rfl
 have e8:ob d_n d_l=if bf d_n d_l=true then 0 else 1:=rfl
 have e9:=(SoI.cH (a_n ++ d_n)).1
 have e10:=(SoK.ei (a_l ++ d_l)).1
 have eb:bf d_n d_l=true→∀ t,Pv d_n t=d_n.contains t:=fun h t=>pB (by unfold bf at h;rw [Bool.and_eq_true] at h;exact h.1) t
 have hfs:=(af.cons bM (af.cons fK (af.cons kf (af.cons jE (af.cons dA (af.cons dy af.nil rfl) rfl) rfl) rfl) rfl) rfl)
 generalize hF:Mg.U=F at hC hfs ⊢
 generalize hG0:ViR.Vs.U=G0 at hC hfs ⊢
 generalize hG1:ViC.Vc.U=G1 at hC hfs ⊢
 generalize hG2:CtI.Cs.U=G2 at hC hfs ⊢
 generalize hG3:CtK.Cs.U=G3 at hC hfs ⊢
 generalize hG4:SoN.On.U=G4 at hC hfs ⊢
 generalize hA:Ar.U=A
 generalize hL:Lp _ _ _=L
 obtain⟨Z,zq⟩:=aQ
 refine aD (ae hL) zq rfl ?_
 repeat' (first|(refine aw zq ?_;try dsimp only)|refine ax zq ?_ (ae hL)|refine az zq ?_|refine ay ?_|refine aq ?_|refine ar ?_|refine av ?_|refine au rfl ?_|refine ai rfl ?_|refine aj rfl ?_|(refine Cd.mk ?_;cbv)|(refine aE.mk ?_;cbv)|(refine aM.mk ?_;cbv)|exact trivial|refine And.intro ?_ ?_|refine bu fun _=>?_|refine br fun _=>?_)
 all_goals first|(show L _ _ _;skip)|(clear hL hfs zq Z;subst hA hF hG0 hG1 hG2 hG3 hG4;simp only [Mg.U,ViC.Vc.U,Ar.U] at * <;> grind [al];done)
 rename_i hx
 have hv:bf a_n a_l=true∧bf d_n d_l=true:=by
  clear hL hfs zq Z e1 e2 e3 e4 e5 e6 eb
  subst hA hF hG0 hG1 hG2 hG3 hG4
  simp only [Mg.U,ViC.Vc.U,Ar.U] at *
  grind [al]
 clear hx
 have eb:=eb hv.2
 subst hL
 refine ba (bx hfs) (RY a_n d_n) (ZN A a_n a_l d_n d_l) (Tl a_n) ZJ ⟨0⟩ ?_ ?_ ?_
 ·exact rf _ _
 ·cbv
  repeat' (first|exact trivial|exact rfl|refine And.intro ?_ ?_)
 rintro⟨i⟩ hq O hO
 have hst:=qY hk1 hq
 subst hA
 generalize hA:Ar.U=A
 generalize hL:Lp _ _ _=L
 refine aR zq ?_
 repeat' (first|(refine aw zq ?_;try dsimp only)|refine ax zq ?_ (ae hL)|refine az zq ?_|refine ay ?_|refine aq ?_|refine ar ?_|refine av ?_|refine au rfl ?_|refine ai rfl ?_|refine aj rfl ?_|(refine Cd.mk ?_;cbv)|(refine aE.mk ?_;cbv)|(refine aM.mk ?_;cbv)|exact trivial|refine And.intro ?_ ?_|refine bu fun _=>?_|refine br fun _=>?_)
 all_goals (clear hL hfs zq Z hq;subst hA hF hG0 hG1 hG2 hG3 hG4 hO;simp only [Mg.U,ViR.Vs.U,CtI.Cs.U,CtK.Cs.U,SoN.On.U,SoI.Oi.U,SoK.Ok.U,Ar.U] at * <;> grind [al];done)
theorem BW:aA Tryz.prog 113 (vE Mg.U):=by
 refine aG (af.cons bM (af.cons fK (af.cons kf (af.cons jE (af.cons dA (af.cons dy af.nil rfl) rfl) rfl) rfl) rfl) rfl) Tryz.func113 rfl rfl fun xs h p hp=>?_
 unfold vE at hp
 split at hp
 ·cases hp
  exact⟨aB rfl,fun hC _=>ES _ _ _ _ hC⟩
 ·cases hp
def kJ (F:Mg):aY:=fun xs h=>match xs,h with
 |[.agg [.sl none (.ints .i64 a_n),.sl none (.ah (.int .i64 (.int .i64 (.int .i64 (.int .i64 (.bool .nil))))) a_l)],.agg [.sl none (.ints .i64 d_n),.sl none (.ah (.int .i64 (.int .i64 (.int .i64 (.int .i64 (.bool .nil))))) d_l)]],[]=>some ⟨F.aaG a_n a_l d_n d_l=true,.bK [.agg [.sl none (.ints .i64 (F.PC a_n a_l d_n d_l)),.sl none (.ah (.int .i64 (.int .i64 (.int .i64 (.int .i64 (.bool .nil))))) (F.Oz a_n a_l d_n d_l))],I (F.Nn a_n a_l d_n d_l)],[],[Any,Any]⟩
 |_,_=>none
theorem Fy {P:Program} {f:FuncId} {c c00 c01 c10 c11:aY} (o00:aA P f c00) (o01:aA P f c01) (o10:aA P f c10) (o11:aA P f c11)
  (h:∀ xs h p,c xs h=some p→p.C→(∃ C,c00 xs h=some ⟨C,p.r,p.h,p.as⟩∧C)∨(∃ C,c01 xs h=some ⟨C,p.r,p.h,p.as⟩∧C)∨(∃ C,c10 xs h=some ⟨C,p.r,p.h,p.as⟩∧C)∨∃ C,c11 xs h=some ⟨C,p.r,p.h,p.as⟩∧C):aA P f c:=by
 refine⟨o00.1,fun args h' p hp hC G vs hh hbs hm hv=>?_⟩
 rcases h _ _ _ hp hC with ⟨C,h1,h2⟩ | ⟨C,h1,h2⟩ | ⟨C,h1,h2⟩ | ⟨C,h1,h2⟩
 ·exact o00.2 args h' _ h1 h2 G vs hh hbs hm hv
 ·exact o01.2 args h' _ h1 h2 G vs hh hbs hm hv
 ·exact o10.2 args h' _ h1 h2 G vs hh hbs hm hv
 ·exact o11.2 args h' _ h1 h2 G vs hh hbs hm hv
theorem iu:aA Tryz.prog 113 (kJ Mg.U):=by
 refine Fy Bg Be BL BW fun xs h p hp hC=>?_
 unfold kJ at hp
 split at hp
 ·rename_i a_n a_l d_n d_l
  cases hp
  have hk:a_n.length≤1000∧d_n.length≤1000∧a_l.length≤1000∧d_l.length≤1000:=of_decide_eq_true hC
  by_cases h1:a_n.length+d_n.length=0
  ·by_cases h2:a_l.length+d_l.length=0
   ·exact .inl ⟨_,rfl,decide_eq_true ⟨hk,h1,h2⟩⟩
   ·exact .inr (.inl ⟨_,rfl,decide_eq_true ⟨hk,h1,h2⟩⟩)
  ·by_cases h2:a_l.length+d_l.length=0
   ·exact .inr (.inr (.inl ⟨_,rfl,decide_eq_true ⟨hk,h1,h2⟩⟩))
   ·exact .inr (.inr (.inr ⟨_,rfl,decide_eq_true ⟨hk,h1,h2⟩⟩))
 ·cases hp
end Go.Proofs.YtelhldgdnlppfaaGreat.MgR
