/-
  the view of two,as the code makes it. No condition.
-/
import Derived.Test.YtelhldgdnlppfaaGreatVdW33
import Derived.Test.YtelhldgdnlppfaaGreatVdW34
import Derived.Test.YtelhldgdnlppfaaGreatVdW35
import Derived.Test.YtelhldgdnlppfaaGreatVdW22
set_option cbv.maxSteps 4000000
set_option maxHeartbeats 4000000
set_option maxRecDepth 100000
namespace Go.Proofs.YtelhldgdnlppfaaGreat.MgR
open Go Ry Cmp ViR ViC
open CtI (sr mG kU jG)
open CtK (th nc kJ jI)
open SoN (fb ef dw dz)
def dU (n k:List Int):Bool:=n.any fun x=>k.contains x
def qy (n:List Int) (l:List E) (k:List Int) (q:List E):Bool:=(bf n l && bf k q) && !dU n k
def nJ (n:List Int) (l:List E) (k:List Int) (q:List E):List Int:=if qy n l k q=true then SoI.fu (n ++ k) else []
def mD (n:List Int) (l:List E) (k:List Int) (q:List E):List E:=if qy n l k q=true then SoK.kz (l ++ q) else []
def oE (n:List Int) (l:List E) (k:List Int) (q:List E):Int:=if (bf n l && bf k q)=true then (if dU n k=true then 11 else 0) else 1
structure XM where
 i:Int
def Uz (n k:List Int) (y:XM):Prop:=0≤y.i∧y.i≤n.length∧∀ j:Nat,j < y.i→k.contains (n.getD j 0)=false
def TG (n:List Int) (y:XM):Nat:=n.length - y.i.toNat
noncomputable def mgI (A:Ar) (n:List Int) (l:List E) (k:List Int) (q:List E) (y:XM):St:=cg Tryz.f113.ntmps [(2,.ptr 1 0),(3,.ptr 2 0),(4,.ptr 3 0),(19,.sl none (.ints .i64 n)),(20,.val (.int .i64 (A.fN n))),(21,.val (.int .i64 y.i))] [(1,.cells 29 [.sl none (.ints .i64 n),.sl none (.ah (.int .i64 (.int .i64 (.int .i64 (.int .i64 (.bool .nil))))) l)]),(2,.cells 29 [.sl none (.ints .i64 k),.sl none (.ah (.int .i64 (.int .i64 (.int .i64 (.int .i64 (.bool .nil))))) q)]),(3,.cells 29 [.val (.slice none 0 0),.val (.slice none 0 0)])] [Any,Any]
def mgR (st:St):XM:=⟨bQ st 21⟩
theorem ru (n k:List Int):Uz n k ⟨0⟩:=⟨Int.le_refl 0,Int.natCast_nonneg _,fun j hj=>by simp only at hj;omega⟩
theorem qE {n k:List Int} (hn:n.length≤1000) {i:Int} (h:Uz n k ⟨i⟩):0≤i∧i≤n.length∧(i < n.length→aN .add .i64 i 1=i+1∧TG n ⟨i+1⟩ < TG n ⟨i⟩∧(k.contains (n.getD i.toNat 0)=true→dU n k=true)∧(k.contains (n.getD i.toNat 0)=false→Uz n k ⟨i+1⟩))∧(¬i < n.length→dU n k=false):=by
 obtain⟨h0,h1,h2⟩:=h
 simp only at h0 h1 h2
 refine⟨h0,h1,fun c=>⟨by rw [bp,wr _ (by omega) (by omega)],by simp only [TG];omega,fun g=>?_,fun g=>⟨by simp only;omega,by simp only;omega,fun j hj=>?_⟩⟩,fun c=>?_⟩
 ·unfold dU
  rw [List.any_eq_true]
  refine⟨_,?_,g⟩
  rw [List.getD_eq_getElem?_getD,List.getElem?_eq_getElem (show i.toNat < n.length by omega),Option.getD_some]
  exact List.getElem_mem _
 ·simp only at hj
  by_cases z:j=i.toNat
  ·rw [z]
   exact g
  ·exact h2 j (by omega)
 ·unfold dU
  rw [← Bool.not_eq_true,List.any_eq_true]
  rintro⟨x,hx,g⟩
  obtain⟨j,hj,rfl⟩:=List.getElem_of_mem hx
  have:=h2 j (by omega)
  rw [List.getD_eq_getElem?_getD,List.getElem?_eq_getElem hj,Option.getD_some] at this
  rw [this] at g
  cases g
theorem CE (n k:List Int):CtI.dg [[D.ints n],[D.ints k]]=n ++ k:=by simp [CtI.dg,rl]
theorem DI (l q:List E):CtK.dg [[D.ah l],[D.ah q]]=l ++ q:=by simp [CtK.dg,rr]
structure Mg where
 Mp:List Int→List E→List Int→List E→List Int
 OD:List Int→List E→List Int→List E→List E
 Ms:List Int→List E→List Int→List E→Int
 aac:List Int→List E→List Int→List E→Bool
 Us:List Int→List E→List Int→List E→Bool
 TW:List Int→List E→List Int→List E→Bool
 TR:List Int→List E→List Int→List E→Bool
 Sy:List Int→List E→List Int→List E→Bool
def Mg.U:Mg:=⟨nJ,mD,oE,fun n l k q=>decide (n.length≤1000∧k.length≤1000∧l.length≤1000∧q.length≤1000),fun n l k q=>decide ((n.length≤1000∧k.length≤1000∧l.length≤1000∧q.length≤1000)∧( n.length+k.length=0)∧( l.length+q.length=0)),fun n l k q=>decide ((n.length≤1000∧k.length≤1000∧l.length≤1000∧q.length≤1000)∧( n.length+k.length=0)∧(¬l.length+q.length=0)),fun n l k q=>decide ((n.length≤1000∧k.length≤1000∧l.length≤1000∧q.length≤1000)∧(¬n.length+k.length=0)∧( l.length+q.length=0)),fun n l k q=>decide ((n.length≤1000∧k.length≤1000∧l.length≤1000∧q.length≤1000)∧(¬n.length+k.length=0)∧(¬l.length+q.length=0))⟩
def vn (F:Mg):aZ:=fun xs h=>match xs,h with
 |[.agg [.sl none (.ints .i64 a_n),.sl none (.ah (.int .i64 (.int .i64 (.int .i64 (.int .i64 (.bool .nil))))) a_l)],.agg [.sl none (.ints .i64 d_n),.sl none (.ah (.int .i64 (.int .i64 (.int .i64 (.int .i64 (.bool .nil))))) d_l)]],[]=>some ⟨F.Us a_n a_l d_n d_l=true,.bJ [.agg [.sl none (.ints .i64 (F.Mp a_n a_l d_n d_l)),.sl none (.ah (.int .i64 (.int .i64 (.int .i64 (.int .i64 (.bool .nil))))) (F.OD a_n a_l d_n d_l))],I (F.Ms a_n a_l d_n d_l)],[],[Any,Any]⟩
 |_,_=>none
theorem GC (a_n:List Int) (a_l:List E) (d_n:List Int) (d_l:List E) (hC:Mg.U.Us a_n a_l d_n d_l=true):aU [(129,dv ViC.Vc.U),(135,qk ViR.Vs.U),(136,sr CtI.Cs.U),(137,th CtK.Cs.U),(138,fb SoN.On.U),(139,ef SoN.On.U)] Tryz.f113 [.agg [.sl none (.ints .i64 a_n),.sl none (.ah (.int .i64 (.int .i64 (.int .i64 (.int .i64 (.bool .nil))))) a_l)],.agg [.sl none (.ints .i64 d_n),.sl none (.ah (.int .i64 (.int .i64 (.int .i64 (.int .i64 (.bool .nil))))) d_l)]] [] ⟨Mg.U.Us a_n a_l d_n d_l=true,.bJ [.agg [.sl none (.ints .i64 (Mg.U.Mp a_n a_l d_n d_l)),.sl none (.ah (.int .i64 (.int .i64 (.int .i64 (.int .i64 (.bool .nil))))) (Mg.U.OD a_n a_l d_n d_l))],I (Mg.U.Ms a_n a_l d_n d_l)],[],[Any,Any]⟩:=by
 intro b gv
 have hk:(a_n.length≤1000∧d_n.length≤1000∧a_l.length≤1000∧d_l.length≤1000)∧( a_n.length+d_n.length=0)∧( a_l.length+d_l.length=0):=of_decide_eq_true (show decide _=true from hC)
 obtain⟨⟨hk1,hk2,hk3,hk4⟩,hk5,hk6⟩:=hk
 have e1:qy a_n a_l d_n d_l=true→nJ a_n a_l d_n d_l=SoI.fu (a_n ++ d_n)∧mD a_n a_l d_n d_l=SoK.kz (a_l ++ d_l):=fun h=>⟨if_pos h,if_pos h⟩
 have e2:¬qy a_n a_l d_n d_l=true→nJ a_n a_l d_n d_l=[]∧mD a_n a_l d_n d_l=[]:=fun h=>⟨if_neg h,if_neg h⟩
 have e3:qy a_n a_l d_n d_l=((bf a_n a_l && bf d_n d_l) && !dU a_n d_n):=rfl
 have e4:oE a_n a_l d_n d_l=if (bf a_n a_l && bf d_n d_l)=true then (if dU a_n d_n=true then 11 else 0) else 1:=rfl
 have e5:=CE a_n d_n
 have e6:=DI a_l d_l
 have e7:mI a_n a_l=if bf a_n a_l=true then 0 else 1:=rfl
 have e8:mI d_n d_l=if bf d_n d_l=true then 0 else 1:=rfl
 have e9:=(SoI.cG (a_n ++ d_n)).1
 have e10:=(SoK.ep (a_l ++ d_l)).1
 have eb:bf d_n d_l=true→∀ t,OQ d_n t=d_n.contains t:=fun h t=>oY (by unfold bf at h;rw [Bool.and_eq_true] at h;exact h.1) t
 have hfs:=(af.cons bL (af.cons fJ (af.cons kU (af.cons kJ (af.cons dw (af.cons dz af.nil rfl) rfl) rfl) rfl) rfl) rfl)
 generalize hF:Mg.U=F at hC hfs ⊢
 generalize hG0:ViR.Vs.U=G0 at hC hfs ⊢
 generalize hG1:ViC.Vc.U=G1 at hC hfs ⊢
 generalize hG2:CtI.Cs.U=G2 at hC hfs ⊢
 generalize hG3:CtK.Cs.U=G3 at hC hfs ⊢
 generalize hG4:SoN.On.U=G4 at hC hfs ⊢
 generalize hA:Ar.U=A
 generalize hL:Lp _ _ _=L
 obtain⟨Z,zq⟩:=aP
 refine aD (aa hL) zq rfl ?_
 repeat' (first|(refine ay zq ?_;try dsimp only)|refine ax zq ?_ (aa hL)|refine aw zq ?_|refine az ?_|refine av ?_|refine au ?_|refine aq ?_|refine ar rfl ?_|refine ai rfl ?_|refine aj rfl ?_|(refine Cd.mk ?_;cbv)|(refine aE.mk ?_;cbv)|(refine aJ.mk ?_;cbv)|exact trivial|refine And.intro ?_ ?_|refine bn fun _=>?_|refine bo fun _=>?_)
 all_goals first|(show L _ _ _;skip)|(clear hL hfs zq Z;subst hA hF hG0 hG1 hG2 hG3 hG4;simp only [Mg.U,ViC.Vc.U,Ar.U] at * <;> grind [al];done)
 rename_i hx
 have hv:bf a_n a_l=true∧bf d_n d_l=true:=by
  clear hL hfs zq Z e1 e2 e3 e4 e5 e6 eb
  subst hA hF hG0 hG1 hG2 hG3 hG4
  simp only [Mg.U,ViC.Vc.U,Ar.U] at *
  grind [al]
 clear hx
 have eb:=eb hv.2
 subst hL
 refine aX (br hfs) (Uz a_n d_n) (mgI A a_n a_l d_n d_l) (TG a_n) mgR ⟨0⟩ ?_ ?_ ?_
 ·exact ru _ _
 ·cbv
  repeat' (first|exact trivial|exact rfl|refine And.intro ?_ ?_)
 rintro⟨i⟩ hq O hO
 have hst:=qE hk1 hq
 subst hA
 generalize hA:Ar.U=A
 generalize hL:Lp _ _ _=L
 refine aO zq ?_
 repeat' (first|(refine ay zq ?_;try dsimp only)|refine ax zq ?_ (aa hL)|refine aw zq ?_|refine az ?_|refine av ?_|refine au ?_|refine aq ?_|refine ar rfl ?_|refine ai rfl ?_|refine aj rfl ?_|(refine Cd.mk ?_;cbv)|(refine aE.mk ?_;cbv)|(refine aJ.mk ?_;cbv)|exact trivial|refine And.intro ?_ ?_|refine bn fun _=>?_|refine bo fun _=>?_)
 all_goals (clear hL hfs zq Z hq;subst hA hF hG0 hG1 hG2 hG3 hG4 hO;simp only [Mg.U,ViR.Vs.U,CtI.Cs.U,CtK.Cs.U,SoN.On.U,SoI.Oi.U,SoK.Ok.U,Ar.U] at * <;> grind [al];done)
theorem Cz:aA Tryz.prog 113 (vn Mg.U):=by
 refine aG (af.cons bL (af.cons fJ (af.cons kU (af.cons kJ (af.cons dw (af.cons dz af.nil rfl) rfl) rfl) rfl) rfl) rfl) Tryz.func113 rfl rfl fun xs h p hp=>?_
 unfold vn at hp
 split at hp
 ·cases hp
  exact⟨aB rfl,fun hC _=>GC _ _ _ _ hC⟩
 ·cases hp
def vk (F:Mg):aZ:=fun xs h=>match xs,h with
 |[.agg [.sl none (.ints .i64 a_n),.sl none (.ah (.int .i64 (.int .i64 (.int .i64 (.int .i64 (.bool .nil))))) a_l)],.agg [.sl none (.ints .i64 d_n),.sl none (.ah (.int .i64 (.int .i64 (.int .i64 (.int .i64 (.bool .nil))))) d_l)]],[]=>some ⟨F.TW a_n a_l d_n d_l=true,.bJ [.agg [.sl none (.ints .i64 (F.Mp a_n a_l d_n d_l)),.sl none (.ah (.int .i64 (.int .i64 (.int .i64 (.int .i64 (.bool .nil))))) (F.OD a_n a_l d_n d_l))],I (F.Ms a_n a_l d_n d_l)],[],[Any,Any]⟩
 |_,_=>none
theorem FO (a_n:List Int) (a_l:List E) (d_n:List Int) (d_l:List E) (hC:Mg.U.TW a_n a_l d_n d_l=true):aU [(129,dv ViC.Vc.U),(135,qk ViR.Vs.U),(136,sr CtI.Cs.U),(137,nc CtK.Cs.U),(138,fb SoN.On.U),(139,ef SoN.On.U)] Tryz.f113 [.agg [.sl none (.ints .i64 a_n),.sl none (.ah (.int .i64 (.int .i64 (.int .i64 (.int .i64 (.bool .nil))))) a_l)],.agg [.sl none (.ints .i64 d_n),.sl none (.ah (.int .i64 (.int .i64 (.int .i64 (.int .i64 (.bool .nil))))) d_l)]] [] ⟨Mg.U.TW a_n a_l d_n d_l=true,.bJ [.agg [.sl none (.ints .i64 (Mg.U.Mp a_n a_l d_n d_l)),.sl none (.ah (.int .i64 (.int .i64 (.int .i64 (.int .i64 (.bool .nil))))) (Mg.U.OD a_n a_l d_n d_l))],I (Mg.U.Ms a_n a_l d_n d_l)],[],[Any,Any]⟩:=by
 intro b gv
 have hk:(a_n.length≤1000∧d_n.length≤1000∧a_l.length≤1000∧d_l.length≤1000)∧( a_n.length+d_n.length=0)∧(¬a_l.length+d_l.length=0):=of_decide_eq_true (show decide _=true from hC)
 obtain⟨⟨hk1,hk2,hk3,hk4⟩,hk5,hk6⟩:=hk
 have e1:qy a_n a_l d_n d_l=true→nJ a_n a_l d_n d_l=SoI.fu (a_n ++ d_n)∧mD a_n a_l d_n d_l=SoK.kz (a_l ++ d_l):=fun h=>⟨if_pos h,if_pos h⟩
 have e2:¬qy a_n a_l d_n d_l=true→nJ a_n a_l d_n d_l=[]∧mD a_n a_l d_n d_l=[]:=fun h=>⟨if_neg h,if_neg h⟩
 have e3:qy a_n a_l d_n d_l=((bf a_n a_l && bf d_n d_l) && !dU a_n d_n):=rfl
 have e4:oE a_n a_l d_n d_l=if (bf a_n a_l && bf d_n d_l)=true then (if dU a_n d_n=true then 11 else 0) else 1:=rfl
 have e5:=CE a_n d_n
 have e6:=DI a_l d_l
 have e7:mI a_n a_l=if bf a_n a_l=true then 0 else 1:=rfl
 have e8:mI d_n d_l=if bf d_n d_l=true then 0 else 1:=rfl
 have e9:=(SoI.cG (a_n ++ d_n)).1
 have e10:=(SoK.ep (a_l ++ d_l)).1
 have eb:bf d_n d_l=true→∀ t,OQ d_n t=d_n.contains t:=fun h t=>oY (by unfold bf at h;rw [Bool.and_eq_true] at h;exact h.1) t
 have hfs:=(af.cons bL (af.cons fJ (af.cons kU (af.cons jI (af.cons dw (af.cons dz af.nil rfl) rfl) rfl) rfl) rfl) rfl)
 generalize hF:Mg.U=F at hC hfs ⊢
 generalize hG0:ViR.Vs.U=G0 at hC hfs ⊢
 generalize hG1:ViC.Vc.U=G1 at hC hfs ⊢
 generalize hG2:CtI.Cs.U=G2 at hC hfs ⊢
 generalize hG3:CtK.Cs.U=G3 at hC hfs ⊢
 generalize hG4:SoN.On.U=G4 at hC hfs ⊢
 generalize hA:Ar.U=A
 generalize hL:Lp _ _ _=L
 obtain⟨Z,zq⟩:=aP
 refine aD (aa hL) zq rfl ?_
 repeat' (first|(refine ay zq ?_;try dsimp only)|refine ax zq ?_ (aa hL)|refine aw zq ?_|refine az ?_|refine av ?_|refine au ?_|refine aq ?_|refine ar rfl ?_|refine ai rfl ?_|refine aj rfl ?_|(refine Cd.mk ?_;cbv)|(refine aE.mk ?_;cbv)|(refine aJ.mk ?_;cbv)|exact trivial|refine And.intro ?_ ?_|refine bn fun _=>?_|refine bo fun _=>?_)
 all_goals first|(show L _ _ _;skip)|(clear hL hfs zq Z;subst hA hF hG0 hG1 hG2 hG3 hG4;simp only [Mg.U,ViC.Vc.U,Ar.U] at * <;> grind [al];done)
 rename_i hx
 have hv:bf a_n a_l=true∧bf d_n d_l=true:=by
  clear hL hfs zq Z e1 e2 e3 e4 e5 e6 eb
  subst hA hF hG0 hG1 hG2 hG3 hG4
  simp only [Mg.U,ViC.Vc.U,Ar.U] at *
  grind [al]
 clear hx
 have eb:=eb hv.2
 subst hL
 refine aX (br hfs) (Uz a_n d_n) (mgI A a_n a_l d_n d_l) (TG a_n) mgR ⟨0⟩ ?_ ?_ ?_
 ·exact ru _ _
 ·cbv
  repeat' (first|exact trivial|exact rfl|refine And.intro ?_ ?_)
 rintro⟨i⟩ hq O hO
 have hst:=qE hk1 hq
 subst hA
 generalize hA:Ar.U=A
 generalize hL:Lp _ _ _=L
 refine aO zq ?_
 repeat' (first|(refine ay zq ?_;try dsimp only)|refine ax zq ?_ (aa hL)|refine aw zq ?_|refine az ?_|refine av ?_|refine au ?_|refine aq ?_|refine ar rfl ?_|refine ai rfl ?_|refine aj rfl ?_|(refine Cd.mk ?_;cbv)|(refine aE.mk ?_;cbv)|(refine aJ.mk ?_;cbv)|exact trivial|refine And.intro ?_ ?_|refine bn fun _=>?_|refine bo fun _=>?_)
 all_goals (clear hL hfs zq Z hq;subst hA hF hG0 hG1 hG2 hG3 hG4 hO;simp only [Mg.U,ViR.Vs.U,CtI.Cs.U,CtK.Cs.U,SoN.On.U,SoI.Oi.U,SoK.Ok.U,Ar.U] at * <;> grind [al];done)
theorem Ck:aA Tryz.prog 113 (vk Mg.U):=by
 refine aG (af.cons bL (af.cons fJ (af.cons kU (af.cons jI (af.cons dw (af.cons dz af.nil rfl) rfl) rfl) rfl) rfl) rfl) Tryz.func113 rfl rfl fun xs h p hp=>?_
 unfold vk at hp
 split at hp
 ·cases hp
  exact⟨aB rfl,fun hC _=>FO _ _ _ _ hC⟩
 ·cases hp
def va (F:Mg):aZ:=fun xs h=>match xs,h with
 |[.agg [.sl none (.ints .i64 a_n),.sl none (.ah (.int .i64 (.int .i64 (.int .i64 (.int .i64 (.bool .nil))))) a_l)],.agg [.sl none (.ints .i64 d_n),.sl none (.ah (.int .i64 (.int .i64 (.int .i64 (.int .i64 (.bool .nil))))) d_l)]],[]=>some ⟨F.TR a_n a_l d_n d_l=true,.bJ [.agg [.sl none (.ints .i64 (F.Mp a_n a_l d_n d_l)),.sl none (.ah (.int .i64 (.int .i64 (.int .i64 (.int .i64 (.bool .nil))))) (F.OD a_n a_l d_n d_l))],I (F.Ms a_n a_l d_n d_l)],[],[Any,Any]⟩
 |_,_=>none
theorem Ga (a_n:List Int) (a_l:List E) (d_n:List Int) (d_l:List E) (hC:Mg.U.TR a_n a_l d_n d_l=true):aU [(129,dv ViC.Vc.U),(135,qk ViR.Vs.U),(136,mG CtI.Cs.U),(137,th CtK.Cs.U),(138,fb SoN.On.U),(139,ef SoN.On.U)] Tryz.f113 [.agg [.sl none (.ints .i64 a_n),.sl none (.ah (.int .i64 (.int .i64 (.int .i64 (.int .i64 (.bool .nil))))) a_l)],.agg [.sl none (.ints .i64 d_n),.sl none (.ah (.int .i64 (.int .i64 (.int .i64 (.int .i64 (.bool .nil))))) d_l)]] [] ⟨Mg.U.TR a_n a_l d_n d_l=true,.bJ [.agg [.sl none (.ints .i64 (Mg.U.Mp a_n a_l d_n d_l)),.sl none (.ah (.int .i64 (.int .i64 (.int .i64 (.int .i64 (.bool .nil))))) (Mg.U.OD a_n a_l d_n d_l))],I (Mg.U.Ms a_n a_l d_n d_l)],[],[Any,Any]⟩:=by
 intro b gv
 have hk:(a_n.length≤1000∧d_n.length≤1000∧a_l.length≤1000∧d_l.length≤1000)∧(¬a_n.length+d_n.length=0)∧( a_l.length+d_l.length=0):=of_decide_eq_true (show decide _=true from hC)
 obtain⟨⟨hk1,hk2,hk3,hk4⟩,hk5,hk6⟩:=hk
 have e1:qy a_n a_l d_n d_l=true→nJ a_n a_l d_n d_l=SoI.fu (a_n ++ d_n)∧mD a_n a_l d_n d_l=SoK.kz (a_l ++ d_l):=fun h=>⟨if_pos h,if_pos h⟩
 have e2:¬qy a_n a_l d_n d_l=true→nJ a_n a_l d_n d_l=[]∧mD a_n a_l d_n d_l=[]:=fun h=>⟨if_neg h,if_neg h⟩
 have e3:qy a_n a_l d_n d_l=((bf a_n a_l && bf d_n d_l) && !dU a_n d_n):=rfl
 have e4:oE a_n a_l d_n d_l=if (bf a_n a_l && bf d_n d_l)=true then (if dU a_n d_n=true then 11 else 0) else 1:=rfl
 have e5:=CE a_n d_n
 have e6:=DI a_l d_l
 have e7:mI a_n a_l=if bf a_n a_l=true then 0 else 1:=rfl
 have e8:mI d_n d_l=if bf d_n d_l=true then 0 else 1:=rfl
 have e9:=(SoI.cG (a_n ++ d_n)).1
 have e10:=(SoK.ep (a_l ++ d_l)).1
 have eb:bf d_n d_l=true→∀ t,OQ d_n t=d_n.contains t:=fun h t=>oY (by unfold bf at h;rw [Bool.and_eq_true] at h;exact h.1) t
 have hfs:=(af.cons bL (af.cons fJ (af.cons jG (af.cons kJ (af.cons dw (af.cons dz af.nil rfl) rfl) rfl) rfl) rfl) rfl)
 generalize hF:Mg.U=F at hC hfs ⊢
 generalize hG0:ViR.Vs.U=G0 at hC hfs ⊢
 generalize hG1:ViC.Vc.U=G1 at hC hfs ⊢
 generalize hG2:CtI.Cs.U=G2 at hC hfs ⊢
 generalize hG3:CtK.Cs.U=G3 at hC hfs ⊢
 generalize hG4:SoN.On.U=G4 at hC hfs ⊢
 generalize hA:Ar.U=A
 generalize hL:Lp _ _ _=L
 obtain⟨Z,zq⟩:=aP
 refine aD (aa hL) zq rfl ?_
 repeat' (first|(refine ay zq ?_;try dsimp only)|refine ax zq ?_ (aa hL)|refine aw zq ?_|refine az ?_|refine av ?_|refine au ?_|refine aq ?_|refine ar rfl ?_|refine ai rfl ?_|refine aj rfl ?_|(refine Cd.mk ?_;cbv)|(refine aE.mk ?_;cbv)|(refine aJ.mk ?_;cbv)|exact trivial|refine And.intro ?_ ?_|refine bn fun _=>?_|refine bo fun _=>?_)
 all_goals first|(show L _ _ _;skip)|(clear hL hfs zq Z;subst hA hF hG0 hG1 hG2 hG3 hG4;simp only [Mg.U,ViC.Vc.U,Ar.U] at * <;> grind [al];done)
 rename_i hx
 have hv:bf a_n a_l=true∧bf d_n d_l=true:=by
  clear hL hfs zq Z e1 e2 e3 e4 e5 e6 eb
  subst hA hF hG0 hG1 hG2 hG3 hG4
  simp only [Mg.U,ViC.Vc.U,Ar.U] at *
  grind [al]
 clear hx
 have eb:=eb hv.2
 subst hL
 refine aX (br hfs) (Uz a_n d_n) (mgI A a_n a_l d_n d_l) (TG a_n) mgR ⟨0⟩ ?_ ?_ ?_
 ·exact ru _ _
 ·cbv
  repeat' (first|exact trivial|exact rfl|refine And.intro ?_ ?_)
 rintro⟨i⟩ hq O hO
 have hst:=qE hk1 hq
 subst hA
 generalize hA:Ar.U=A
 generalize hL:Lp _ _ _=L
 refine aO zq ?_
 repeat' (first|(refine ay zq ?_;try dsimp only)|refine ax zq ?_ (aa hL)|refine aw zq ?_|refine az ?_|refine av ?_|refine au ?_|refine aq ?_|refine ar rfl ?_|refine ai rfl ?_|refine aj rfl ?_|(refine Cd.mk ?_;cbv)|(refine aE.mk ?_;cbv)|(refine aJ.mk ?_;cbv)|exact trivial|refine And.intro ?_ ?_|refine bn fun _=>?_|refine bo fun _=>?_)
 all_goals (clear hL hfs zq Z hq;subst hA hF hG0 hG1 hG2 hG3 hG4 hO;simp only [Mg.U,ViR.Vs.U,CtI.Cs.U,CtK.Cs.U,SoN.On.U,SoI.Oi.U,SoK.Ok.U,Ar.U] at * <;> grind [al];done)
theorem Bz:aA Tryz.prog 113 (va Mg.U):=by
 refine aG (af.cons bL (af.cons fJ (af.cons jG (af.cons kJ (af.cons dw (af.cons dz af.nil rfl) rfl) rfl) rfl) rfl) rfl) Tryz.func113 rfl rfl fun xs h p hp=>?_
 unfold va at hp
 split at hp
 ·cases hp
  exact⟨aB rfl,fun hC _=>Ga _ _ _ _ hC⟩
 ·cases hp
def vr (F:Mg):aZ:=fun xs h=>match xs,h with
 |[.agg [.sl none (.ints .i64 a_n),.sl none (.ah (.int .i64 (.int .i64 (.int .i64 (.int .i64 (.bool .nil))))) a_l)],.agg [.sl none (.ints .i64 d_n),.sl none (.ah (.int .i64 (.int .i64 (.int .i64 (.int .i64 (.bool .nil))))) d_l)]],[]=>some ⟨F.Sy a_n a_l d_n d_l=true,.bJ [.agg [.sl none (.ints .i64 (F.Mp a_n a_l d_n d_l)),.sl none (.ah (.int .i64 (.int .i64 (.int .i64 (.int .i64 (.bool .nil))))) (F.OD a_n a_l d_n d_l))],I (F.Ms a_n a_l d_n d_l)],[],[Any,Any]⟩
 |_,_=>none
theorem FQ (a_n:List Int) (a_l:List E) (d_n:List Int) (d_l:List E) (hC:Mg.U.Sy a_n a_l d_n d_l=true):aU [(129,dv ViC.Vc.U),(135,qk ViR.Vs.U),(136,mG CtI.Cs.U),(137,nc CtK.Cs.U),(138,fb SoN.On.U),(139,ef SoN.On.U)] Tryz.f113 [.agg [.sl none (.ints .i64 a_n),.sl none (.ah (.int .i64 (.int .i64 (.int .i64 (.int .i64 (.bool .nil))))) a_l)],.agg [.sl none (.ints .i64 d_n),.sl none (.ah (.int .i64 (.int .i64 (.int .i64 (.int .i64 (.bool .nil))))) d_l)]] [] ⟨Mg.U.Sy a_n a_l d_n d_l=true,.bJ [.agg [.sl none (.ints .i64 (Mg.U.Mp a_n a_l d_n d_l)),.sl none (.ah (.int .i64 (.int .i64 (.int .i64 (.int .i64 (.bool .nil))))) (Mg.U.OD a_n a_l d_n d_l))],I (Mg.U.Ms a_n a_l d_n d_l)],[],[Any,Any]⟩:=by
 intro b gv
 have hk:(a_n.length≤1000∧d_n.length≤1000∧a_l.length≤1000∧d_l.length≤1000)∧(¬a_n.length+d_n.length=0)∧(¬a_l.length+d_l.length=0):=of_decide_eq_true (show decide _=true from hC)
 obtain⟨⟨hk1,hk2,hk3,hk4⟩,hk5,hk6⟩:=hk
 have e1:qy a_n a_l d_n d_l=true→nJ a_n a_l d_n d_l=SoI.fu (a_n ++ d_n)∧mD a_n a_l d_n d_l=SoK.kz (a_l ++ d_l):=fun h=>⟨if_pos h,if_pos h⟩
 have e2:¬qy a_n a_l d_n d_l=true→nJ a_n a_l d_n d_l=[]∧mD a_n a_l d_n d_l=[]:=fun h=>⟨if_neg h,if_neg h⟩
 have e3:qy a_n a_l d_n d_l=((bf a_n a_l && bf d_n d_l) && !dU a_n d_n):=rfl
 have e4:oE a_n a_l d_n d_l=if (bf a_n a_l && bf d_n d_l)=true then (if dU a_n d_n=true then 11 else 0) else 1:=rfl
 have e5:=CE a_n d_n
 have e6:=DI a_l d_l
 have e7:mI a_n a_l=if bf a_n a_l=true then 0 else 1:=rfl
 have e8:mI d_n d_l=if bf d_n d_l=true then 0 else 1:=rfl
 have e9:=(SoI.cG (a_n ++ d_n)).1
 have e10:=(SoK.ep (a_l ++ d_l)).1
 have eb:bf d_n d_l=true→∀ t,OQ d_n t=d_n.contains t:=fun h t=>oY (by unfold bf at h;rw [Bool.and_eq_true] at h;exact h.1) t
 have hfs:=(af.cons bL (af.cons fJ (af.cons jG (af.cons jI (af.cons dw (af.cons dz af.nil rfl) rfl) rfl) rfl) rfl) rfl)
 generalize hF:Mg.U=F at hC hfs ⊢
 generalize hG0:ViR.Vs.U=G0 at hC hfs ⊢
 generalize hG1:ViC.Vc.U=G1 at hC hfs ⊢
 generalize hG2:CtI.Cs.U=G2 at hC hfs ⊢
 generalize hG3:CtK.Cs.U=G3 at hC hfs ⊢
 generalize hG4:SoN.On.U=G4 at hC hfs ⊢
 generalize hA:Ar.U=A
 generalize hL:Lp _ _ _=L
 obtain⟨Z,zq⟩:=aP
 refine aD (aa hL) zq rfl ?_
 repeat' (first|(refine ay zq ?_;try dsimp only)|refine ax zq ?_ (aa hL)|refine aw zq ?_|refine az ?_|refine av ?_|refine au ?_|refine aq ?_|refine ar rfl ?_|refine ai rfl ?_|refine aj rfl ?_|(refine Cd.mk ?_;cbv)|(refine aE.mk ?_;cbv)|(refine aJ.mk ?_;cbv)|exact trivial|refine And.intro ?_ ?_|refine bn fun _=>?_|refine bo fun _=>?_)
 all_goals first|(show L _ _ _;skip)|(clear hL hfs zq Z;subst hA hF hG0 hG1 hG2 hG3 hG4;simp only [Mg.U,ViC.Vc.U,Ar.U] at * <;> grind [al];done)
 rename_i hx
 have hv:bf a_n a_l=true∧bf d_n d_l=true:=by
  clear hL hfs zq Z e1 e2 e3 e4 e5 e6 eb
  subst hA hF hG0 hG1 hG2 hG3 hG4
  simp only [Mg.U,ViC.Vc.U,Ar.U] at *
  grind [al]
 clear hx
 have eb:=eb hv.2
 subst hL
 refine aX (br hfs) (Uz a_n d_n) (mgI A a_n a_l d_n d_l) (TG a_n) mgR ⟨0⟩ ?_ ?_ ?_
 ·exact ru _ _
 ·cbv
  repeat' (first|exact trivial|exact rfl|refine And.intro ?_ ?_)
 rintro⟨i⟩ hq O hO
 have hst:=qE hk1 hq
 subst hA
 generalize hA:Ar.U=A
 generalize hL:Lp _ _ _=L
 refine aO zq ?_
 repeat' (first|(refine ay zq ?_;try dsimp only)|refine ax zq ?_ (aa hL)|refine aw zq ?_|refine az ?_|refine av ?_|refine au ?_|refine aq ?_|refine ar rfl ?_|refine ai rfl ?_|refine aj rfl ?_|(refine Cd.mk ?_;cbv)|(refine aE.mk ?_;cbv)|(refine aJ.mk ?_;cbv)|exact trivial|refine And.intro ?_ ?_|refine bn fun _=>?_|refine bo fun _=>?_)
 all_goals (clear hL hfs zq Z hq;subst hA hF hG0 hG1 hG2 hG3 hG4 hO;simp only [Mg.U,ViR.Vs.U,CtI.Cs.U,CtK.Cs.U,SoN.On.U,SoI.Oi.U,SoK.Ok.U,Ar.U] at * <;> grind [al];done)
theorem BO:aA Tryz.prog 113 (vr Mg.U):=by
 refine aG (af.cons bL (af.cons fJ (af.cons jG (af.cons jI (af.cons dw (af.cons dz af.nil rfl) rfl) rfl) rfl) rfl) rfl) Tryz.func113 rfl rfl fun xs h p hp=>?_
 unfold vr at hp
 split at hp
 ·cases hp
  exact⟨aB rfl,fun hC _=>FQ _ _ _ _ hC⟩
 ·cases hp
def kK (F:Mg):aZ:=fun xs h=>match xs,h with
 |[.agg [.sl none (.ints .i64 a_n),.sl none (.ah (.int .i64 (.int .i64 (.int .i64 (.int .i64 (.bool .nil))))) a_l)],.agg [.sl none (.ints .i64 d_n),.sl none (.ah (.int .i64 (.int .i64 (.int .i64 (.int .i64 (.bool .nil))))) d_l)]],[]=>some ⟨F.aac a_n a_l d_n d_l=true,.bJ [.agg [.sl none (.ints .i64 (F.Mp a_n a_l d_n d_l)),.sl none (.ah (.int .i64 (.int .i64 (.int .i64 (.int .i64 (.bool .nil))))) (F.OD a_n a_l d_n d_l))],I (F.Ms a_n a_l d_n d_l)],[],[Any,Any]⟩
 |_,_=>none
theorem Gu {P:Program} {f:FuncId} {c c00 c01 c10 c11:aZ} (o00:aA P f c00) (o01:aA P f c01) (o10:aA P f c10) (o11:aA P f c11)
  (h:∀ xs h p,c xs h=some p→p.C→(∃ C,c00 xs h=some ⟨C,p.r,p.h,p.as⟩∧C)∨(∃ C,c01 xs h=some ⟨C,p.r,p.h,p.as⟩∧C)∨(∃ C,c10 xs h=some ⟨C,p.r,p.h,p.as⟩∧C)∨∃ C,c11 xs h=some ⟨C,p.r,p.h,p.as⟩∧C):aA P f c:=by
 refine⟨o00.1,fun args h' p hp hC G vs hh hbs hm hv=>?_⟩
 rcases h _ _ _ hp hC with ⟨C,h1,h2⟩ | ⟨C,h1,h2⟩ | ⟨C,h1,h2⟩ | ⟨C,h1,h2⟩
 ·exact o00.2 args h' _ h1 h2 G vs hh hbs hm hv
 ·exact o01.2 args h' _ h1 h2 G vs hh hbs hm hv
 ·exact o10.2 args h' _ h1 h2 G vs hh hbs hm hv
 ·exact o11.2 args h' _ h1 h2 G vs hh hbs hm hv
theorem ic:aA Tryz.prog 113 (kK Mg.U):=by
 refine Gu Cz Ck Bz BO fun xs h p hp hC=>?_
 unfold kK at hp
 split at hp
 ·rename_i a_n a_l d_n d_l
  cases hp
  have hk:a_n.length≤1000∧d_n.length≤1000∧a_l.length≤1000∧d_l.length≤1000:=of_decide_eq_true hC
  by_cases h1:a_n.length+d_n.length=0
  ·by_cases h2:a_l.length+d_l.length=0
   ·exact .inl ⟨_,rfl,decide_eq_true ⟨hk,h1,h2⟩⟩
   ·exact .inr (.inl ⟨_,rfl,decide_eq_true ⟨hk,h1,h2⟩⟩)
  ·by_cases h2:a_l.length+d_l.length=0
   ·exact .inr (.inr (.inl ⟨_,rfl,decide_eq_true ⟨hk,h1,h2⟩⟩))
   ·exact .inr (.inr (.inr ⟨_,rfl,decide_eq_true ⟨hk,h1,h2⟩⟩))
 ·cases hp
end Go.Proofs.YtelhldgdnlppfaaGreat.MgR
