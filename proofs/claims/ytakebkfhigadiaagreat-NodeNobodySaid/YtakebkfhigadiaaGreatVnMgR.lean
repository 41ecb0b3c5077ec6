/-
  the view of two,as the code makes it. No condition.
-/
import Derived.Test.YtakebkfhigadiaaGreatVnW18
import Derived.Test.YtakebkfhigadiaaGreatVnCtK
import Derived.Test.YtakebkfhigadiaaGreatVnW23
import Derived.Test.YtakebkfhigadiaaGreatVnViC
set_option cbv.maxSteps 4000000
set_option maxHeartbeats 4000000
set_option maxRecDepth 100000
namespace Go.Proofs.YtakebkfhigadiaaGreat.MgR
open Go Ry Cmp ViR ViC
open CtI (qC lY jD iD)
open CtK (oN la jo iK)
open SoN (ef dM cZ cX)
def jK (n k:List Int):Bool:=n.any fun x=>k.contains x
def ve (n:List Int) (l:List E) (k:List Int) (q:List E):Bool:=(bE n l && bE k q) && !jK n k
def Dw (n:List Int) (l:List E) (k:List Int) (q:List E):List Int:=if ve n l k q=true then SoI.fZ (n ++ k) else []
def Co (n:List Int) (l:List E) (k:List Int) (q:List E):List E:=if ve n l k q=true then SoK.pG (l ++ q) else []
def JE (n:List Int) (l:List E) (k:List Int) (q:List E):Int:=if (bE n l && bE k q)=true then (if jK n k=true then 11 else 0) else 1
structure XM where
 i:Int
def Pp (n k:List Int) (y:XM):Prop:=0≤y.i∧y.i≤n.length∧∀ j:Nat,j < y.i→k.contains (n.getD j 0)=false
def PN (n:List Int) (y:XM):Nat:=n.length - y.i.toNat
noncomputable def Vw (A:Ar) (n:List Int) (l:List E) (k:List Int) (q:List E) (y:XM):St:=bW Tryz.f200.ntmps [(2,.ptr 1 0),(3,.ptr 2 0),(4,.ptr 3 0),(19,.sl none (.ints .i64 n)),(20,.val (.int .i64 (A.gr n))),(21,.val (.int .i64 y.i))] [(1,.cells 36 [.sl none (.ints .i64 n),.sl none (.ae (.int .i64 (.int .i64 (.int .i64 (.int .i64 (.bool .nil))))) l)]),(2,.cells 36 [.sl none (.ints .i64 k),.sl none (.ae (.int .i64 (.int .i64 (.int .i64 (.int .i64 (.bool .nil))))) q)]),(3,.cells 36 [.val (.slice none 0 0),.val (.slice none 0 0)])] [Any,Any]
def VO (st:St):XM:=⟨bA st 21⟩
theorem oc (n k:List Int):Pp n k ⟨0⟩:=⟨Int.le_refl 0,Int.natCast_nonneg _,fun j hj=>by simp only at hj;omega⟩
theorem om {n k:List Int} (hn:n.length≤1000) {i:Int} (h:Pp n k ⟨i⟩):0≤i∧i≤n.length∧(i < n.length→aB .add .i64 i 1=i+1∧PN n ⟨i+1⟩ < PN n ⟨i⟩∧(k.contains (n.getD i.toNat 0)=true→jK n k=true)∧(k.contains (n.getD i.toNat 0)=false→Pp n k ⟨i+1⟩))∧(¬i < n.length→jK n k=false):=by
 obtain⟨h0,h1,h2⟩:=h
 simp only at h0 h1 h2
 refine⟨h0,h1,fun c=>⟨by rw [aY,wr _ (by omega) (by omega)],by simp only [PN];omega,fun g=>?_,fun g=>⟨by simp only;omega,by simp only;omega,fun j hj=>?_⟩⟩,fun c=>?_⟩
 ·unfold jK
  rw [List.any_eq_true]
  refine⟨_,?_,g⟩
  rw [List.getD_eq_getElem?_getD,List.getElem?_eq_getElem (show i.toNat < n.length by omega),Option.getD_some]
  exact List.getElem_mem _
 ·simp only at hj
  by_cases z:j=i.toNat
  ·rw [z]
   exact g
  ·exact h2 j (by omega)
 ·unfold jK
  rw [← Bool.not_eq_true,List.any_eq_true]
  rintro⟨x,hx,g⟩
  obtain⟨j,hj,rfl⟩:=List.getElem_of_mem hx
  have:=h2 j (by omega)
  rw [List.getD_eq_getElem?_getD,List.getElem?_eq_getElem hj,Option.getD_some] at this
  rw [this] at g
  cases g
theorem BH (n k:List Int):CtI.cP [[D.ints n],[D.ints k]]=n ++ k:=by simp [CtI.cP,rl]
theorem BN (l q:List E):CtK.cP [[D.ae l],[D.ae q]]=l ++ q:=by simp [CtK.cP,rr]
structure Mg where
 Jg:List Int→List E→List Int→List E→List Int
 Kt:List Int→List E→List Int→List E→List E
 JF:List Int→List E→List Int→List E→Int
 Wx:List Int→List E→List Int→List E→Bool
 PY:List Int→List E→List Int→List E→Bool
 Qa:List Int→List E→List Int→List E→Bool
 OS:List Int→List E→List Int→List E→Bool
 PZ:List Int→List E→List Int→List E→Bool
def Mg.U:Mg:=⟨Dw,Co,JE,fun n l k q=>decide (n.length≤1000∧k.length≤1000∧l.length≤1000∧q.length≤1000),fun n l k q=>decide ((n.length≤1000∧k.length≤1000∧l.length≤1000∧q.length≤1000)∧( n.length+k.length=0)∧( l.length+q.length=0)),fun n l k q=>decide ((n.length≤1000∧k.length≤1000∧l.length≤1000∧q.length≤1000)∧( n.length+k.length=0)∧(¬l.length+q.length=0)),fun n l k q=>decide ((n.length≤1000∧k.length≤1000∧l.length≤1000∧q.length≤1000)∧(¬n.length+k.length=0)∧( l.length+q.length=0)),fun n l k q=>decide ((n.length≤1000∧k.length≤1000∧l.length≤1000∧q.length≤1000)∧(¬n.length+k.length=0)∧(¬l.length+q.length=0))⟩
def se (F:Mg):aW:=fun xs h=>match xs,h with
 |[.agg [.sl none (.ints .i64 a_n),.sl none (.ae (.int .i64 (.int .i64 (.int .i64 (.int .i64 (.bool .nil))))) a_l)],.agg [.sl none (.ints .i64 d_n),.sl none (.ae (.int .i64 (.int .i64 (.int .i64 (.int .i64 (.bool .nil))))) d_l)]],[]=>some ⟨F.PY a_n a_l d_n d_l=true,.bB [.agg [.sl none (.ints .i64 (F.Jg a_n a_l d_n d_l)),.sl none (.ae (.int .i64 (.int .i64 (.int .i64 (.int .i64 (.bool .nil))))) (F.Kt a_n a_l d_n d_l))],I (F.JF a_n a_l d_n d_l)],[],[Any,Any]⟩
 |_,_=>none
theorem DI (a_n:List Int) (a_l:List E) (d_n:List Int) (d_l:List E) (hC:Mg.U.PY a_n a_l d_n d_l=true):aR [(182,dv ViC.Vc.U),(208,nG ViR.Vs.U),(218,qC CtI.Cs.U),(219,oN CtK.Cs.U),(220,ef SoN.On.U),(221,dM SoN.On.U)] Tryz.f200 [.agg [.sl none (.ints .i64 a_n),.sl none (.ae (.int .i64 (.int .i64 (.int .i64 (.int .i64 (.bool .nil))))) a_l)],.agg [.sl none (.ints .i64 d_n),.sl none (.ae (.int .i64 (.int .i64 (.int .i64 (.int .i64 (.bool .nil))))) d_l)]] [] ⟨Mg.U.PY a_n a_l d_n d_l=true,.bB [.agg [.sl none (.ints .i64 (Mg.U.Jg a_n a_l d_n d_l)),.sl none (.ae (.int .i64 (.int .i64 (.int .i64 (.int .i64 (.bool .nil))))) (Mg.U.Kt a_n a_l d_n d_l))],I (Mg.U.JF a_n a_l d_n d_l)],[],[Any,Any]⟩:=by
 intro b gv
 have hk:(a_n.length≤1000∧d_n.length≤1000∧a_l.length≤1000∧d_l.length≤1000)∧( a_n.length+d_n.length=0)∧( a_l.length+d_l.length=0):=of_decide_eq_true (show decide _=true from hC)
 obtain⟨⟨hk1,hk2,hk3,hk4⟩,hk5,hk6⟩:=hk
 have e1:ve a_n a_l d_n d_l=true→Dw a_n a_l d_n d_l=SoI.fZ (a_n ++ d_n)∧Co a_n a_l d_n d_l=SoK.pG (a_l ++ d_l):=fun h=>⟨if_pos h,if_pos h⟩
 have e2:¬ve a_n a_l d_n d_l=true→Dw a_n a_l d_n d_l=[]∧Co a_n a_l d_n d_l=[]:=fun h=>⟨if_neg h,if_neg h⟩
 have e3:ve a_n a_l d_n d_l=((bE a_n a_l && bE d_n d_l) && !jK a_n d_n):=rfl
 have e4:JE a_n a_l d_n d_l=if (bE a_n a_l && bE d_n d_l)=true then (if jK a_n d_n=true then 11 else 0) else 1:=rfl
 have e5:=BH a_n d_n
 have e6:=BN a_l d_l
 have e7:mi a_n a_l=if bE a_n a_l=true then 0 else 1:=rfl
 have e8:mi d_n d_l=if bE d_n d_l=true then 0 else 1:=rfl
 have e9:=(SoI.du (a_n ++ d_n)).1
 have e10:=(SoK.ia (a_l ++ d_l)).1
 have eb:bE d_n d_l=true→∀ t,JI d_n t=d_n.contains t:=fun h t=>mv (by unfold bE at h;rw [Bool.and_eq_true] at h;exact h.1) t
 have hfs:=(af.cons bP (af.cons eS (af.cons jD (af.cons jo (af.cons cZ (af.cons cX af.nil rfl) rfl) rfl) rfl) rfl) rfl)
 generalize hF:Mg.U=F at hC hfs ⊢
 generalize hG0:ViR.Vs.U=G0 at hC hfs ⊢
 generalize hG1:ViC.Vc.U=G1 at hC hfs ⊢
 generalize hG2:CtI.Cs.U=G2 at hC hfs ⊢
 generalize hG3:CtK.Cs.U=G3 at hC hfs ⊢
 generalize hG4:SoN.On.U=G4 at hC hfs ⊢
 generalize hA:Ar.U=A
 generalize hL:Lp _ _ _=L
 obtain⟨Z,zq⟩:=aH
 refine aA (aa hL) zq rfl ?_
 repeat' (first|(refine ay zq ?_;try dsimp only)|refine ax zq ?_ (aa hL)|refine az zq ?_|refine aw ?_|refine aq ?_|refine au ?_|refine ar ?_|refine al rfl ?_|refine ai rfl ?_|refine aj rfl ?_|(refine Cd.mk ?_;cbv)|(refine aF.mk ?_;cbv)|(refine aK.mk ?_;cbv)|exact trivial|refine And.intro ?_ ?_|refine aZ fun _=>?_|refine ba fun _=>?_)
 all_goals first|(show L _ _ _;skip)|(clear hL hfs zq Z;subst hA hF hG0 hG1 hG2 hG3 hG4;simp only [Mg.U,ViC.Vc.U,Ar.U] at * <;> grind [ah];done)
 rename_i hx
 have hv:bE a_n a_l=true∧bE d_n d_l=true:=by
  clear hL hfs zq Z e1 e2 e3 e4 e5 e6 eb
  subst hA hF hG0 hG1 hG2 hG3 hG4
  simp only [Mg.U,ViC.Vc.U,Ar.U] at *
  grind [ah]
 clear hx
 have eb:=eb hv.2
 subst hL
 refine bj (bo hfs) (Pp a_n d_n) (Vw A a_n a_l d_n d_l) (PN a_n) VO ⟨0⟩ ?_ ?_ ?_
 ·exact oc _ _
 ·cbv
  repeat' (first|exact trivial|exact rfl|refine And.intro ?_ ?_)
 rintro⟨i⟩ hq O hO
 have hst:=om hk1 hq
 subst hA
 generalize hA:Ar.U=A
 generalize hL:Lp _ _ _=L
 refine aT zq ?_
 repeat' (first|(refine ay zq ?_;try dsimp only)|refine ax zq ?_ (aa hL)|refine az zq ?_|refine aw ?_|refine aq ?_|refine au ?_|refine ar ?_|refine al rfl ?_|refine ai rfl ?_|refine aj rfl ?_|(refine Cd.mk ?_;cbv)|(refine aF.mk ?_;cbv)|(refine aK.mk ?_;cbv)|exact trivial|refine And.intro ?_ ?_|refine aZ fun _=>?_|refine ba fun _=>?_)
 all_goals (clear hL hfs zq Z hq;subst hA hF hG0 hG1 hG2 hG3 hG4 hO;simp only [Mg.U,ViR.Vs.U,CtI.Cs.U,CtK.Cs.U,SoN.On.U,SoI.Oi.U,SoK.Ok.U,Ar.U] at * <;> grind [ah];done)
theorem yb:aC Tryz.prog 200 (se Mg.U):=by
 refine aD (af.cons bP (af.cons eS (af.cons jD (af.cons jo (af.cons cZ (af.cons cX af.nil rfl) rfl) rfl) rfl) rfl) rfl) Tryz.func200 rfl rfl fun xs h p hp=>?_
 unfold se at hp
 split at hp
 ·cases hp
  exact⟨av rfl,fun hC _=>DI _ _ _ _ hC⟩
 ·cases hp
def rE (F:Mg):aW:=fun xs h=>match xs,h with
 |[.agg [.sl none (.ints .i64 a_n),.sl none (.ae (.int .i64 (.int .i64 (.int .i64 (.int .i64 (.bool .nil))))) a_l)],.agg [.sl none (.ints .i64 d_n),.sl none (.ae (.int .i64 (.int .i64 (.int .i64 (.int .i64 (.bool .nil))))) d_l)]],[]=>some ⟨F.Qa a_n a_l d_n d_l=true,.bB [.agg [.sl none (.ints .i64 (F.Jg a_n a_l d_n d_l)),.sl none (.ae (.int .i64 (.int .i64 (.int .i64 (.int .i64 (.bool .nil))))) (F.Kt a_n a_l d_n d_l))],I (F.JF a_n a_l d_n d_l)],[],[Any,Any]⟩
 |_,_=>none
theorem CG (a_n:List Int) (a_l:List E) (d_n:List Int) (d_l:List E) (hC:Mg.U.Qa a_n a_l d_n d_l=true):aR [(182,dv ViC.Vc.U),(208,nG ViR.Vs.U),(218,qC CtI.Cs.U),(219,la CtK.Cs.U),(220,ef SoN.On.U),(221,dM SoN.On.U)] Tryz.f200 [.agg [.sl none (.ints .i64 a_n),.sl none (.ae (.int .i64 (.int .i64 (.int .i64 (.int .i64 (.bool .nil))))) a_l)],.agg [.sl none (.ints .i64 d_n),.sl none (.ae (.int .i64 (.int .i64 (.int .i64 (.int .i64 (.bool .nil))))) d_l)]] [] ⟨Mg.U.Qa a_n a_l d_n d_l=true,.bB [.agg [.sl none (.ints .i64 (Mg.U.Jg a_n a_l d_n d_l)),.sl none (.ae (.int .i64 (.int .i64 (.int .i64 (.int .i64 (.bool .nil))))) (Mg.U.Kt a_n a_l d_n d_l))],I (Mg.U.JF a_n a_l d_n d_l)],[],[Any,Any]⟩:=by
 intro b gv
 have hk:(a_n.length≤1000∧d_n.length≤1000∧a_l.length≤1000∧d_l.length≤1000)∧( a_n.length+d_n.length=0)∧(¬a_l.length+d_l.length=0):=of_decide_eq_true (show decide _=true from hC)
 obtain⟨⟨hk1,hk2,hk3,hk4⟩,hk5,hk6⟩:=hk
 have e1:ve a_n a_l d_n d_l=true→Dw a_n a_l d_n d_l=SoI.fZ (a_n ++ d_n)∧Co a_n a_l d_n d_l=SoK.pG (a_l ++ d_l):=fun h=>⟨if_pos h,if_pos h⟩
 have e2:¬ve a_n a_l d_n d_l=true→Dw a_n a_l d_n d_l=[]∧Co a_n a_l d_n d_l=[]:=fun h=>⟨if_neg h,if_neg h⟩
 have e3:ve a_n a_l d_n d_l=((bE a_n a_l && bE d_n d_l) && !jK a_n d_n):=rfl
 have e4:JE a_n a_l d_n d_l=if (bE a_n a_l && bE d_n d_l)=true then (if jK a_n d_n=true then 11 else 0) else 1:=rfl
 have e5:=BH a_n d_n
 have e6:=BN a_l d_l
 have e7:mi a_n a_l=if bE a_n a_l=true then 0 else 1:=rfl
 have e8:mi d_n d_l=if bE d_n d_l=true then 0 else 1:=rfl
 have e9:=(SoI.du (a_n ++ d_n)).1
 have e10:=(SoK.ia (a_l ++ d_l)).1
 have eb:bE d_n d_l=true→∀ t,JI d_n t=d_n.contains t:=fun h t=>mv (by unfold bE at h;rw [Bool.and_eq_true] at h;exact h.1) t
 have hfs:=(af.cons bP (af.cons eS (af.cons jD (af.cons iK (af.cons cZ (af.cons cX af.nil rfl) rfl) rfl) rfl) rfl) rfl)
 generalize hF:Mg.U=F at hC hfs ⊢
 generalize hG0:ViR.Vs.U=G0 at hC hfs ⊢
 generalize hG1:ViC.Vc.U=G1 at hC hfs ⊢
 generalize hG2:CtI.Cs.U=G2 at hC hfs ⊢
 generalize hG3:CtK.Cs.U=G3 at hC hfs ⊢
 generalize hG4:SoN.On.U=G4 at hC hfs ⊢
 generalize hA:Ar.U=A
 generalize hL:Lp _ _ _=L
 obtain⟨Z,zq⟩:=aH
 refine aA (aa hL) zq rfl ?_
 repeat' (first|(refine ay zq ?_;try dsimp only)|refine ax zq ?_ (aa hL)|refine az zq ?_|refine aw ?_|refine aq ?_|refine au ?_|refine ar ?_|refine al rfl ?_|refine ai rfl ?_|refine aj rfl ?_|(refine Cd.mk ?_;cbv)|(refine aF.mk ?_;cbv)|(refine aK.mk ?_;cbv)|exact trivial|refine And.intro ?_ ?_|refine aZ fun _=>?_|refine ba fun _=>?_)
 all_goals first|(show L _ _ _;skip)|(clear hL hfs zq Z;subst hA hF hG0 hG1 hG2 hG3 hG4;simp only [Mg.U,ViC.Vc.U,Ar.U] at * <;> grind [ah];done)
 rename_i hx
 have hv:bE a_n a_l=true∧bE d_n d_l=true:=by
  clear hL hfs zq Z e1 e2 e3 e4 e5 e6 eb
  subst hA hF hG0 hG1 hG2 hG3 hG4
  simp only [Mg.U,ViC.Vc.U,Ar.U] at *
  grind [ah]
 clear hx
 have eb:=eb hv.2
 subst hL
 refine bj (bo hfs) (Pp a_n d_n) (Vw A a_n a_l d_n d_l) (PN a_n) VO ⟨0⟩ ?_ ?_ ?_
 ·exact oc _ _
 ·cbv
  repeat' (first|exact trivial|exact rfl|refine And.intro ?_ ?_)
 rintro⟨i⟩ hq O hO
 have hst:=om hk1 hq
 subst hA
 generalize hA:Ar.U=A
 generalize hL:Lp _ _ _=L
 refine aT zq ?_
 repeat' (first|(refine ay zq ?_;try dsimp only)|refine ax zq ?_ (aa hL)|refine az zq ?_|refine aw ?_|refine aq ?_|refine au ?_|refine ar ?_|refine al rfl ?_|refine ai rfl ?_|refine aj rfl ?_|(refine Cd.mk ?_;cbv)|(refine aF.mk ?_;cbv)|(refine aK.mk ?_;cbv)|exact trivial|refine And.intro ?_ ?_|refine aZ fun _=>?_|refine ba fun _=>?_)
 all_goals (clear hL hfs zq Z hq;subst hA hF hG0 hG1 hG2 hG3 hG4 hO;simp only [Mg.U,ViR.Vs.U,CtI.Cs.U,CtK.Cs.U,SoN.On.U,SoI.Oi.U,SoK.Ok.U,Ar.U] at * <;> grind [ah];done)
theorem yR:aC Tryz.prog 200 (rE Mg.U):=by
 refine aD (af.cons bP (af.cons eS (af.cons jD (af.cons iK (af.cons cZ (af.cons cX af.nil rfl) rfl) rfl) rfl) rfl) rfl) Tryz.func200 rfl rfl fun xs h p hp=>?_
 unfold rE at hp
 split at hp
 ·cases hp
  exact⟨av rfl,fun hC _=>CG _ _ _ _ hC⟩
 ·cases hp
def rY (F:Mg):aW:=fun xs h=>match xs,h with
 |[.agg [.sl none (.ints .i64 a_n),.sl none (.ae (.int .i64 (.int .i64 (.int .i64 (.int .i64 (.bool .nil))))) a_l)],.agg [.sl none (.ints .i64 d_n),.sl none (.ae (.int .i64 (.int .i64 (.int .i64 (.int .i64 (.bool .nil))))) d_l)]],[]=>some ⟨F.OS a_n a_l d_n d_l=true,.bB [.agg [.sl none (.ints .i64 (F.Jg a_n a_l d_n d_l)),.sl none (.ae (.int .i64 (.int .i64 (.int .i64 (.int .i64 (.bool .nil))))) (F.Kt a_n a_l d_n d_l))],I (F.JF a_n a_l d_n d_l)],[],[Any,Any]⟩
 |_,_=>none
theorem Cb (a_n:List Int) (a_l:List E) (d_n:List Int) (d_l:List E) (hC:Mg.U.OS a_n a_l d_n d_l=true):aR [(182,dv ViC.Vc.U),(208,nG ViR.Vs.U),(218,lY CtI.Cs.U),(219,oN CtK.Cs.U),(220,ef SoN.On.U),(221,dM SoN.On.U)] Tryz.f200 [.agg [.sl none (.ints .i64 a_n),.sl none (.ae (.int .i64 (.int .i64 (.int .i64 (.int .i64 (.bool .nil))))) a_l)],.agg [.sl none (.ints .i64 d_n),.sl none (.ae (.int .i64 (.int .i64 (.int .i64 (.int .i64 (.bool .nil))))) d_l)]] [] ⟨Mg.U.OS a_n a_l d_n d_l=true,.bB [.agg [.sl none (.ints .i64 (Mg.U.Jg a_n a_l d_n d_l)),.sl none (.ae (.int .i64 (.int .i64 (.int .i64 (.int .i64 (.bool .nil))))) (Mg.U.Kt a_n a_l d_n d_l))],I (Mg.U.JF a_n a_l d_n d_l)],[],[Any,Any]⟩:=by
 intro b gv
 have hk:(a_n.length≤1000∧d_n.length≤1000∧a_l.length≤1000∧d_l.length≤1000)∧(¬a_n.length+d_n.length=0)∧( a_l.length+d_l.length=0):=of_decide_eq_true (show decide _=true from hC)
 obtain⟨⟨hk1,hk2,hk3,hk4⟩,hk5,hk6⟩:=hk
 have e1:ve a_n a_l d_n d_l=true→Dw a_n a_l d_n d_l=SoI.fZ (a_n ++ d_n)∧Co a_n a_l d_n d_l=SoK.pG (a_l ++ d_l):=fun h=>⟨if_pos h,if_pos h⟩
 have e2:¬ve a_n a_l d_n d_l=true→Dw a_n a_l d_n d_l=[]∧Co a_n a_l d_n d_l=[]:=fun h=>⟨if_neg h,if_neg h⟩
 have e3:ve a_n a_l d_n d_l=((bE a_n a_l && bE d_n d_l) && !jK a_n d_n):=rfl
 have e4:JE a_n a_l d_n d_l=if (bE a_n a_l && bE d_n d_l)=true then (if jK a_n d_n=true then 11 else 0) else 1:=rfl
 have e5:=BH a_n d_n
 have e6:=BN a_l d_l
 have e7:mi a_n a_l=if bE a_n a_l=true then 0 else 1:=rfl
 have e8:mi d_n d_l=if bE d_n d_l=true then 0 else 1:=rfl
 have e9:=(SoI.du (a_n ++ d_n)).1
 have e10:=(SoK.ia (a_l ++ d_l)).1
 have eb:bE d_n d_l=true→∀ t,JI d_n t=d_n.contains t:=fun h t=>mv (by unfold bE at h;rw [Bool.and_eq_true] at h;exact h.1) t
 have hfs:=(af.cons bP (af.cons eS (af.cons iD (af.cons jo (af.cons cZ (af.cons cX af.nil rfl) rfl) rfl) rfl) rfl) rfl)
 generalize hF:Mg.U=F at hC hfs ⊢
 generalize hG0:ViR.Vs.U=G0 at hC hfs ⊢
 generalize hG1:ViC.Vc.U=G1 at hC hfs ⊢
 generalize hG2:CtI.Cs.U=G2 at hC hfs ⊢
 generalize hG3:CtK.Cs.U=G3 at hC hfs ⊢
 generalize hG4:SoN.On.U=G4 at hC hfs ⊢
 generalize hA:Ar.U=A
 generalize hL:Lp _ _ _=L
 obtain⟨Z,zq⟩:=aH
 refine aA (aa hL) zq rfl ?_
 repeat' (first|(refine ay zq ?_;try dsimp only)|refine ax zq ?_ (aa hL)|refine az zq ?_|refine aw ?_|refine aq ?_|refine au ?_|refine ar ?_|refine al rfl ?_|refine ai rfl ?_|refine aj rfl ?_|(refine Cd.mk ?_;cbv)|(refine aF.mk ?_;cbv)|(refine aK.mk ?_;cbv)|exact trivial|refine And.intro ?_ ?_|refine aZ fun _=>?_|refine ba fun _=>?_)
 all_goals first|(show L _ _ _;skip)|(clear hL hfs zq Z;subst hA hF hG0 hG1 hG2 hG3 hG4;simp only [Mg.U,ViC.Vc.U,Ar.U] at * <;> grind [ah];done)
 rename_i hx
 have hv:bE a_n a_l=true∧bE d_n d_l=true:=by
  clear hL hfs zq Z e1 e2 e3 e4 e5 e6 eb
  subst hA hF hG0 hG1 hG2 hG3 hG4
  simp only [Mg.U,ViC.Vc.U,Ar.U] at *
  grind [ah]
 clear hx
 have eb:=eb hv.2
 subst hL
 refine bj (bo hfs) (Pp a_n d_n) (Vw A a_n a_l d_n d_l) (PN a_n) VO ⟨0⟩ ?_ ?_ ?_
 ·exact oc _ _
 ·cbv
  repeat' (first|exact trivial|exact rfl|refine And.intro ?_ ?_)
 rintro⟨i⟩ hq O hO
 have hst:=om hk1 hq
 subst hA
 generalize hA:Ar.U=A
 generalize hL:Lp _ _ _=L
 refine aT zq ?_
 repeat' (first|(refine ay zq ?_;try dsimp only)|refine ax zq ?_ (aa hL)|refine az zq ?_|refine aw ?_|refine aq ?_|refine au ?_|refine ar ?_|refine al rfl ?_|refine ai rfl ?_|refine aj rfl ?_|(refine Cd.mk ?_;cbv)|(refine aF.mk ?_;cbv)|(refine aK.mk ?_;cbv)|exact trivial|refine And.intro ?_ ?_|refine aZ fun _=>?_|refine ba fun _=>?_)
 all_goals (clear hL hfs zq Z hq;subst hA hF hG0 hG1 hG2 hG3 hG4 hO;simp only [Mg.U,ViR.Vs.U,CtI.Cs.U,CtK.Cs.U,SoN.On.U,SoI.Oi.U,SoK.Ok.U,Ar.U] at * <;> grind [ah];done)
theorem xI:aC Tryz.prog 200 (rY Mg.U):=by
 refine aD (af.cons bP (af.cons eS (af.cons iD (af.cons jo (af.cons cZ (af.cons cX af.nil rfl) rfl) rfl) rfl) rfl) rfl) Tryz.func200 rfl rfl fun xs h p hp=>?_
 unfold rY at hp
 split at hp
 ·cases hp
  exact⟨av rfl,fun hC _=>Cb _ _ _ _ hC⟩
 ·cases hp
def sx (F:Mg):aW:=fun xs h=>match xs,h with
 |[.agg [.sl none (.ints .i64 a_n),.sl none (.ae (.int .i64 (.int .i64 (.int .i64 (.int .i64 (.bool .nil))))) a_l)],.agg [.sl none (.ints .i64 d_n),.sl none (.ae (.int .i64 (.int .i64 (.int .i64 (.int .i64 (.bool .nil))))) d_l)]],[]=>some ⟨F.PZ a_n a_l d_n d_l=true,.bB [.agg [.sl none (.ints .i64 (F.Jg a_n a_l d_n d_l)),.sl none (.ae (.int .i64 (.int .i64 (.int .i64 (.int .i64 (.bool .nil))))) (F.Kt a_n a_l d_n d_l))],I (F.JF a_n a_l d_n d_l)],[],[Any,Any]⟩
 |_,_=>none
theorem DK (a_n:List Int) (a_l:List E) (d_n:List Int) (d_l:List E) (hC:Mg.U.PZ a_n a_l d_n d_l=true):aR [(182,dv ViC.Vc.U),(208,nG ViR.Vs.U),(218,lY CtI.Cs.U),(219,la CtK.Cs.U),(220,ef SoN.On.U),(221,dM SoN.On.U)] Tryz.f200 [.agg [.sl none (.ints .i64 a_n),.sl none (.ae (.int .i64 (.int .i64 (.int .i64 (.int .i64 (.bool .nil))))) a_l)],.agg [.sl none (.ints .i64 d_n),.sl none (.ae (.int .i64 (.int .i64 (.int .i64 (.int .i64 (.bool .nil))))) d_l)]] [] ⟨Mg.U.PZ a_n a_l d_n d_l=true,.bB [.agg [.sl none (.ints .i64 (Mg.U.Jg a_n a_l d_n d_l)),.sl none (.ae (.int .i64 (.int .i64 (.int .i64 (.int .i64 (.bool .nil))))) (Mg.U.Kt a_n a_l d_n d_l))],I (Mg.U.JF a_n a_l d_n d_l)],[],[Any,Any]⟩:=by
 intro b gv
 have hk:(a_n.length≤1000∧d_n.length≤1000∧a_l.length≤1000∧d_l.length≤1000)∧(¬a_n.length+d_n.length=0)∧(¬a_l.length+d_l.length=0):=of_decide_eq_true (show decide _=true from hC)
 obtain⟨⟨hk1,hk2,hk3,hk4⟩,hk5,hk6⟩:=hk
 have e1:ve a_n a_l d_n d_l=true→Dw a_n a_l d_n d_l=SoI.fZ (a_n ++ d_n)∧Co a_n a_l d_n d_l=SoK.pG (a_l ++ d_l):=fun h=>⟨if_pos h,if_pos h⟩
 have e2:¬ve a_n a_l d_n d_l=true→Dw a_n a_l d_n d_l=[]∧Co a_n a_l d_n d_l=[]:=fun h=>⟨if_neg h,if_neg h⟩
 have e3:ve a_n a_l d_n d_l=((bE a_n a_l && bE d_n d_l) && !jK a_n d_n):=rfl
 have e4:JE a_n a_l d_n d_l=if (bE a_n a_l && bE d_n d_l)=true then (if jK a_n d_n=true then 11 else 0) else 1:=rfl
 have e5:=BH a_n d_n
 have e6:=BN a_l d_l
 have e7:mi a_n a_l=if bE a_n a_l=true then 0 else 1:=rfl
 have e8:mi d_n d_l=if bE d_n d_l=true then 0 else 1:=rfl
 have e9:=(SoI.du (a_n ++ d_n)).1
 have e10:=(SoK.ia (a_l ++ d_l)).1
 have eb:bE d_n d_l=true→∀ t,JI d_n t=d_n.contains t:=fun h t=>mv (by unfold bE at h;rw [Bool.and_eq_true] at h;exact h.1) t
 have hfs:=(af.cons bP (af.cons eS (af.cons iD (af.cons iK (af.cons cZ (af.cons cX af.nil rfl) rfl) rfl) rfl) rfl) rfl)
 generalize hF:Mg.U=F at hC hfs ⊢
 generalize hG0:ViR.Vs.U=G0 at hC hfs ⊢
 generalize hG1:ViC.Vc.U=G1 at hC hfs ⊢
 generalize hG2:CtI.Cs.U=G2 at hC hfs ⊢
 generalize hG3:CtK.Cs.U=G3 at hC hfs ⊢
 generalize hG4:SoN.On.U=G4 at hC hfs ⊢
 generalize hA:Ar.U=A
 generalize hL:Lp _ _ _=L
 obtain⟨Z,zq⟩:=aH
 refine aA (aa hL) zq rfl ?_
 repeat' (first|(refine ay zq ?_;try dsimp only)|refine ax zq ?_ (aa hL)|refine az zq ?_|refine aw ?_|refine aq ?_|refine au ?_|refine ar ?_|refine al rfl ?_|refine ai rfl ?_|refine aj rfl ?_|(refine Cd.mk ?_;cbv)|(refine aF.mk ?_;cbv)|(refine aK.mk ?_;cbv)|exact trivial|refine And.intro ?_ ?_|refine aZ fun _=>?_|refine ba fun _=>?_)
 all_goals first|(show L _ _ _;skip)|(clear hL hfs zq Z;subst hA hF hG0 hG1 hG2 hG3 hG4;simp only [Mg.U,ViC.Vc.U,Ar.U] at * <;> grind [ah];done)
 rename_i hx
 have hv:bE a_n a_l=true∧bE d_n d_l=true:=by
  clear hL hfs zq Z e1 e2 e3 e4 e5 e6 eb
  subst hA hF hG0 hG1 hG2 hG3 hG4
  simp only [Mg.U,ViC.Vc.U,Ar.U] at *
  grind [ah]
 clear hx
 have eb:=eb hv.2
 subst hL
 refine bj (bo hfs) (Pp a_n d_n) (Vw A a_n a_l d_n d_l) (PN a_n) VO ⟨0⟩ ?_ ?_ ?_
 ·exact oc _ _
 ·cbv
  repeat' (first|exact trivial|exact rfl|refine And.intro ?_ ?_)
 rintro⟨i⟩ hq O hO
 have hst:=om hk1 hq
 subst hA
 generalize hA:Ar.U=A
 generalize hL:Lp _ _ _=L
 refine aT zq ?_
 repeat' (first|(refine ay zq ?_;try dsimp only)|refine ax zq ?_ (aa hL)|refine az zq ?_|refine aw ?_|refine aq ?_|refine au ?_|refine ar ?_|refine al rfl ?_|refine ai rfl ?_|refine aj rfl ?_|(refine Cd.mk ?_;cbv)|(refine aF.mk ?_;cbv)|(refine aK.mk ?_;cbv)|exact trivial|refine And.intro ?_ ?_|refine aZ fun _=>?_|refine ba fun _=>?_)
 all_goals (clear hL hfs zq Z hq;subst hA hF hG0 hG1 hG2 hG3 hG4 hO;simp only [Mg.U,ViR.Vs.U,CtI.Cs.U,CtK.Cs.U,SoN.On.U,SoI.Oi.U,SoK.Ok.U,Ar.U] at * <;> grind [ah];done)
theorem yV:aC Tryz.prog 200 (sx Mg.U):=by
 refine aD (af.cons bP (af.cons eS (af.cons iD (af.cons iK (af.cons cZ (af.cons cX af.nil rfl) rfl) rfl) rfl) rfl) rfl) Tryz.func200 rfl rfl fun xs h p hp=>?_
 unfold sx at hp
 split at hp
 ·cases hp
  exact⟨av rfl,fun hC _=>DK _ _ _ _ hC⟩
 ·cases hp
def ma (F:Mg):aW:=fun xs h=>match xs,h with
 |[.agg [.sl none (.ints .i64 a_n),.sl none (.ae (.int .i64 (.int .i64 (.int .i64 (.int .i64 (.bool .nil))))) a_l)],.agg [.sl none (.ints .i64 d_n),.sl none (.ae (.int .i64 (.int .i64 (.int .i64 (.int .i64 (.bool .nil))))) d_l)]],[]=>some ⟨F.Wx a_n a_l d_n d_l=true,.bB [.agg [.sl none (.ints .i64 (F.Jg a_n a_l d_n d_l)),.sl none (.ae (.int .i64 (.int .i64 (.int .i64 (.int .i64 (.bool .nil))))) (F.Kt a_n a_l d_n d_l))],I (F.JF a_n a_l d_n d_l)],[],[Any,Any]⟩
 |_,_=>none
theorem BY {P:Program} {f:FuncId} {c c00 c01 c10 c11:aW} (o00:aC P f c00) (o01:aC P f c01) (o10:aC P f c10) (o11:aC P f c11)
  (h:∀ xs h p,c xs h=some p→p.C→(∃ C,c00 xs h=some ⟨C,p.r,p.h,p.as⟩∧C)∨(∃ C,c01 xs h=some ⟨C,p.r,p.h,p.as⟩∧C)∨(∃ C,c10 xs h=some ⟨C,p.r,p.h,p.as⟩∧C)∨∃ C,c11 xs h=some ⟨C,p.r,p.h,p.as⟩∧C):aC P f c:=by
 refine⟨o00.1,fun args h' p hp hC G vs hh hbs hm hv=>?_⟩
 rcases h _ _ _ hp hC with ⟨C,h1,h2⟩ | ⟨C,h1,h2⟩ | ⟨C,h1,h2⟩ | ⟨C,h1,h2⟩
 ·exact o00.2 args h' _ h1 h2 G vs hh hbs hm hv
 ·exact o01.2 args h' _ h1 h2 G vs hh hbs hm hv
 ·exact o10.2 args h' _ h1 h2 G vs hh hbs hm hv
 ·exact o11.2 args h' _ h1 h2 G vs hh hbs hm hv
theorem kX:aC Tryz.prog 200 (ma Mg.U):=by
 refine BY yb yR xI yV fun xs h p hp hC=>?_
 unfold ma at hp
 split at hp
 ·rename_i a_n a_l d_n d_l
  cases hp
  have hk:a_n.length≤1000∧d_n.length≤1000∧a_l.length≤1000∧d_l.length≤1000:=of_decide_eq_true hC
  by_cases h1:a_n.length+d_n.length=0
  ·by_cases h2:a_l.length+d_l.length=0
   ·exact .inl ⟨_,rfl,decide_eq_true ⟨hk,h1,h2⟩⟩
   ·exact .inr (.inl ⟨_,rfl,decide_eq_true ⟨hk,h1,h2⟩⟩)
  ·by_cases h2:a_l.length+d_l.length=0
   ·exact .inr (.inr (.inl ⟨_,rfl,decide_eq_true ⟨hk,h1,h2⟩⟩))
   ·exact .inr (.inr (.inr ⟨_,rfl,decide_eq_true ⟨hk,h1,h2⟩⟩))
 ·cases hp
end Go.Proofs.YtakebkfhigadiaaGreat.MgR
