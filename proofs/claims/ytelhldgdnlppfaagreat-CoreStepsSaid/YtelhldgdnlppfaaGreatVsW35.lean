/-
  A core: what its choices make of it,and what begins itself again. No condition.
-/
import Derived.Test.YtelhldgdnlppfaaGreatVsW33
import Derived.Test.YtelhldgdnlppfaaGreatVsW34
import Derived.Test.YtelhldgdnlppfaaGreatVsW22
import Derived.Test.YtelhldgdnlppfaaGreatVsKsS
import Derived.Test.YtelhldgdnlppfaaGreatVsChQ
set_option cbv.maxSteps 4000000
set_option maxHeartbeats 4000000
set_option maxRecDepth 100000
namespace Go.Proofs.YtelhldgdnlppfaaGreat.MgR
open Go Ry Cmp ViR ViC
open CtI (Ef xX sf tw)
open CtK (Ed zb sN tF)
open SoN (mb jG gX im)
def eH (n k:List Int):Bool:=n.any fun x=>k.contains x
def rO (n:List Int) (l:List E) (k:List Int) (q:List E):Bool:=(aX n l && aX k q) && !eH n k
def oO (n:List Int) (l:List E) (k:List Int) (q:List E):List Int:=if rO n l k q=true then SoI.fR (n ++ k) else []
def nY (n:List Int) (l:List E) (k:List Int) (q:List E):List E:=if rO n l k q=true then SoK.kM (l ++ q) else []
def oo (n:List Int) (l:List E) (k:List Int) (q:List E):Int:=if (aX n l && aX k q)=true then (if eH n k=true then 11 else 0) else 1
structure XM where
 i:Int
def YB (n k:List Int) (y:XM):Prop:=0≤y.i∧y.i≤n.length∧∀ j:Nat,j < y.i→k.contains (n.getD j 0)=false
def mgM (n:List Int) (y:XM):Nat:=n.length - y.i.toNat
noncomputable def mgI (A:Ar) (n:List Int) (l:List E) (k:List Int) (q:List E) (y:XM):St:=br Tryz.f113.ntmps [(2,.ptr 1 0),(3,.ptr 2 0),(4,.ptr 3 0),(19,.sl none (.ints .i64 n)),(20,.ay (A.fT n)),(21,.ay y.i)] [(1,.cells 29 [.sl none (.ints .i64 n),.sl none (.ae .bg l)]),(2,.cells 29 [.sl none (.ints .i64 k),.sl none (.ae .bg q)]),(3,.cells 29 [.val (.slice none 0 0),.val (.slice none 0 0)])] [Any,Any]
def mgR (st:St):XM:=⟨bw st 21⟩
theorem sP (n k:List Int):YB n k ⟨0⟩:=⟨Int.le_refl 0,Int.natCast_nonneg _,fun j hj=>by simp only at hj;omega⟩
theorem sm {n k:List Int} (hn:n.length≤1000) {i:Int} (h:YB n k ⟨i⟩):0≤i∧i≤n.length∧(i < n.length→aD .add .i64 i 1=i+1∧mgM n ⟨i+1⟩ < mgM n ⟨i⟩∧(k.contains (n.getD i.toNat 0)=true→eH n k=true)∧(k.contains (n.getD i.toNat 0)=false→YB n k ⟨i+1⟩))∧(¬i < n.length→eH n k=false):=by
 obtain⟨h0,h1,h2⟩:=h;simp only at h0 h1 h2;refine⟨h0,h1,fun c=>⟨by rw [aW,wr _ (by omega) (by omega)],by simp only [mgM];omega,fun g=>?_,fun g=>⟨by simp only;omega,by simp only;omega,fun j hj=>?_⟩⟩,fun c=>?_⟩
 ·unfold eH;rw [List.any_eq_true];refine⟨_,?_,g⟩;rw [List.getD_eq_getElem?_getD,List.getElem?_eq_getElem (show i.toNat < n.length by omega),Option.getD_some];exact List.getElem_mem _
 ·simp only at hj
  by_cases z:j=i.toNat
  ·rw [z];exact g
  ·exact h2 j (by omega)
 ·unfold eH;rw [← Bool.not_eq_true,List.any_eq_true];rintro⟨x,hx,g⟩;obtain⟨j,hj,rfl⟩:=List.getElem_of_mem hx;have:=h2 j (by omega);rw [List.getD_eq_getElem?_getD,List.getElem?_eq_getElem hj,Option.getD_some] at this;rw [this] at g;cases g
theorem Ge (n k:List Int):CtI.dB [[D.ints n],[D.ints k]]=n ++ k:=by simp [CtI.dB,rl]
theorem GJ (l q:List E):CtK.dB [[D.ae l],[D.ae q]]=l ++ q:=by simp [CtK.dB,rr]
structure Mg where
 m_n:List Int→List E→List Int→List E→List Int
 m_l:List Int→List E→List Int→List E→List E
 m_e:List Int→List E→List Int→List E→Int
 SM:List Int→List E→List Int→List E→Bool
 ags:List Int→List E→List Int→List E→Bool
 agt:List Int→List E→List Int→List E→Bool
 afW:List Int→List E→List Int→List E→Bool
 agA:List Int→List E→List Int→List E→Bool
def Mg.aa:Mg:=⟨oO,nY,oo,fun n l k q=>decide (n.length≤1000∧k.length≤1000∧l.length≤1000∧q.length≤1000),fun n l k q=>decide ((n.length≤1000∧k.length≤1000∧l.length≤1000∧q.length≤1000)∧( n.length+k.length=0)∧( l.length+q.length=0)),fun n l k q=>decide ((n.length≤1000∧k.length≤1000∧l.length≤1000∧q.length≤1000)∧( n.length+k.length=0)∧(¬l.length+q.length=0)),fun n l k q=>decide ((n.length≤1000∧k.length≤1000∧l.length≤1000∧q.length≤1000)∧(¬n.length+k.length=0)∧( l.length+q.length=0)),fun n l k q=>decide ((n.length≤1000∧k.length≤1000∧l.length≤1000∧q.length≤1000)∧(¬n.length+k.length=0)∧(¬l.length+q.length=0))⟩
def wH (F:Mg):aO:=fun xs h=>match xs,h with
 |[.agg [.sl none (.ints .i64 a_n),.sl none (.ae (.int .i64 (.int .i64 (.int .i64 (.int .i64 (.bool .nil))))) a_l)],.agg [.sl none (.ints .i64 d_n),.sl none (.ae (.int .i64 (.int .i64 (.int .i64 (.int .i64 (.bool .nil))))) d_l)]],[]=>some ⟨F.ags a_n a_l d_n d_l=true,.cN [.agg [.sl none (.ints .i64 (F.m_n a_n a_l d_n d_l)),.sl none (.ae .bg (F.m_l a_n a_l d_n d_l))],I (F.m_e a_n a_l d_n d_l)],[],[Any,Any]⟩
 |_,_=>none
theorem DI:au Tryz.prog 113 (wH Mg.aa):=by
 have hfs:=(ak.cons dO (ak.cons qz (ak.cons sf (ak.cons sN (ak.cons gX (ak.cons im ak.nil rfl) rfl) rfl) rfl) rfl) rfl);refine aw hfs Tryz.func113 rfl rfl fun xs h p hp=>?_;unfold wH at hp;split at hp
 ·rename_i a_n a_l d_n d_l;cases hp;refine⟨av rfl,fun hC _=>?_⟩;dsimp only at hC;intro b gv;have hk:(a_n.length≤1000∧d_n.length≤1000∧a_l.length≤1000∧d_l.length≤1000)∧( a_n.length+d_n.length=0)∧( a_l.length+d_l.length=0):=of_decide_eq_true hC;obtain⟨⟨hk1,hk2,hk3,hk4⟩,hk5,hk6⟩:=hk;have e1:rO a_n a_l d_n d_l=true→oO a_n a_l d_n d_l=SoI.fR (a_n ++ d_n)∧nY a_n a_l d_n d_l=SoK.kM (a_l ++ d_l):=fun h=>⟨if_pos h,if_pos h⟩;have e2:¬rO a_n a_l d_n d_l=true→oO a_n a_l d_n d_l=[]∧nY a_n a_l d_n d_l=[]:=fun h=>⟨if_neg h,if_neg h⟩;have e3:rO a_n a_l d_n d_l=((aX a_n a_l && aX d_n d_l) && !eH a_n d_n):=rfl;have e4:oo a_n a_l d_n d_l=if (aX a_n a_l && aX d_n d_l)=true then (if eH a_n d_n=true then 11 else 0) else 1:=rfl
  have e5:=Ge a_n d_n;have e6:=GJ a_l d_l;have e7:oU a_n a_l=if aX a_n a_l=true then 0 else 1:=rfl
  have e8:oU d_n d_l=if aX d_n d_l=true then 0 else 1:=rfl
  have e9:=(SoI.cM (a_n ++ d_n)).1;have e10:=(SoK.fg (a_l ++ d_l)).1;have eb:aX d_n d_l=true→∀ t,Tp d_n t=d_n.contains t:=fun h t=>qH (by unfold aX at h;rw [Bool.and_eq_true] at h;exact h.1) t;generalize hF:Mg.aa=F,hG0:ViR.Vs.aa=G0,hG1:ViC.Vc.aa=G1,hG2:CtI.Cs.aa=G2,hG3:CtK.Cs.aa=G3,hG4:SoN.On.aa=G4 at hC hfs ⊢;refine bu fun Z zq A hA L hL=>?_
  repeat' (first|(apply al zq;try dsimp only)|apply aS zq (af hL)|apply aq zq|refine aT rfl ?_|apply ai|refine ah rfl ?_|refine aR rfl ?_|exact aA|apply aB|refine aP fun _=>?_|refine aQ fun _=>?_|(constructor;cbv))
  all_goals first|(show L _ _ _;skip)|(clear hL hfs zq Z;subst hA hF hG0 hG1 hG2 hG3 hG4;simp only [Mg.aa,ViC.Vc.aa,Ar.aa] at * <;> grind [aj];done)
  rename_i hx;have hv:aX a_n a_l=true∧aX d_n d_l=true:=by
   clear hL hfs zq Z e1 e2 e3 e4 e5 e6 eb;subst hA hF hG0 hG1 hG2 hG3 hG4;simp only [Mg.aa,ViC.Vc.aa,Ar.aa] at *
   grind [aj]
  clear hx;have eb:=eb hv.2;subst hL;refine aJ (aN hfs) (YB a_n d_n) (mgI A a_n a_l d_n d_l) (mgM a_n) mgR ⟨0⟩ ?_ ?_ ?_
  ·exact sP _ _
  ·cbv
   repeat' (first|exact trivial|exact rfl|refine And.intro ?_ ?_)
  rintro⟨i⟩ hq O hO;have hst:=sm hk1 hq;subst hA;generalize hA:Ar.aa=A;generalize hL:Lp _ _ _=L;refine az zq ?_
  repeat' (first|(apply al zq;try dsimp only)|apply aS zq (af hL)|apply aq zq|refine aT rfl ?_|apply ai|refine ah rfl ?_|refine aR rfl ?_|exact aA|apply aB|refine aP fun _=>?_|refine aQ fun _=>?_|(constructor;cbv))
  all_goals (clear hL hfs zq Z hq;subst hA hF hG0 hG1 hG2 hG3 hG4 hO;simp only [Mg.aa,ViR.Vs.aa,CtI.Cs.aa,CtK.Cs.aa,SoN.On.aa,SoI.Oi.aa,SoK.Ok.aa,Ar.aa] at * <;> grind [aj];done)
 ·cases hp
def we (F:Mg):aO:=fun xs h=>match xs,h with
 |[.agg [.sl none (.ints .i64 a_n),.sl none (.ae (.int .i64 (.int .i64 (.int .i64 (.int .i64 (.bool .nil))))) a_l)],.agg [.sl none (.ints .i64 d_n),.sl none (.ae (.int .i64 (.int .i64 (.int .i64 (.int .i64 (.bool .nil))))) d_l)]],[]=>some ⟨F.agt a_n a_l d_n d_l=true,.cN [.agg [.sl none (.ints .i64 (F.m_n a_n a_l d_n d_l)),.sl none (.ae .bg (F.m_l a_n a_l d_n d_l))],I (F.m_e a_n a_l d_n d_l)],[],[Any,Any]⟩
 |_,_=>none
theorem DM:au Tryz.prog 113 (we Mg.aa):=by
 have hfs:=(ak.cons dO (ak.cons qz (ak.cons sf (ak.cons tF (ak.cons gX (ak.cons im ak.nil rfl) rfl) rfl) rfl) rfl) rfl);refine aw hfs Tryz.func113 rfl rfl fun xs h p hp=>?_;unfold we at hp;split at hp
 ·rename_i a_n a_l d_n d_l;cases hp;refine⟨av rfl,fun hC _=>?_⟩;dsimp only at hC;intro b gv;have hk:(a_n.length≤1000∧d_n.length≤1000∧a_l.length≤1000∧d_l.length≤1000)∧( a_n.length+d_n.length=0)∧(¬a_l.length+d_l.length=0):=of_decide_eq_true hC;obtain⟨⟨hk1,hk2,hk3,hk4⟩,hk5,hk6⟩:=hk;have e1:rO a_n a_l d_n d_l=true→oO a_n a_l d_n d_l=SoI.fR (a_n ++ d_n)∧nY a_n a_l d_n d_l=SoK.kM (a_l ++ d_l):=fun h=>⟨if_pos h,if_pos h⟩;have e2:¬rO a_n a_l d_n d_l=true→oO a_n a_l d_n d_l=[]∧nY a_n a_l d_n d_l=[]:=fun h=>⟨if_neg h,if_neg h⟩;have e3:rO a_n a_l d_n d_l=((aX a_n a_l && aX d_n d_l) && !eH a_n d_n):=rfl;have e4:oo a_n a_l d_n d_l=if (aX a_n a_l && aX d_n d_l)=true then (if eH a_n d_n=true then 11 else 0) else 1:=rfl
  have e5:=Ge a_n d_n;have e6:=GJ a_l d_l;have e7:oU a_n a_l=if aX a_n a_l=true then 0 else 1:=rfl
  have e8:oU d_n d_l=if aX d_n d_l=true then 0 else 1:=rfl
  have e9:=(SoI.cM (a_n ++ d_n)).1;have e10:=(SoK.fg (a_l ++ d_l)).1;have eb:aX d_n d_l=true→∀ t,Tp d_n t=d_n.contains t:=fun h t=>qH (by unfold aX at h;rw [Bool.and_eq_true] at h;exact h.1) t;generalize hF:Mg.aa=F,hG0:ViR.Vs.aa=G0,hG1:ViC.Vc.aa=G1,hG2:CtI.Cs.aa=G2,hG3:CtK.Cs.aa=G3,hG4:SoN.On.aa=G4 at hC hfs ⊢;refine bu fun Z zq A hA L hL=>?_
  repeat' (first|(apply al zq;try dsimp only)|apply aS zq (af hL)|apply aq zq|refine aT rfl ?_|apply ai|refine ah rfl ?_|refine aR rfl ?_|exact aA|apply aB|refine aP fun _=>?_|refine aQ fun _=>?_|(constructor;cbv))
  all_goals first|(show L _ _ _;skip)|(clear hL hfs zq Z;subst hA hF hG0 hG1 hG2 hG3 hG4;simp only [Mg.aa,ViC.Vc.aa,Ar.aa] at * <;> grind [aj];done)
  rename_i hx;have hv:aX a_n a_l=true∧aX d_n d_l=true:=by
   clear hL hfs zq Z e1 e2 e3 e4 e5 e6 eb;subst hA hF hG0 hG1 hG2 hG3 hG4;simp only [Mg.aa,ViC.Vc.aa,Ar.aa] at *
   grind [aj]
  clear hx;have eb:=eb hv.2;subst hL;refine aJ (aN hfs) (YB a_n d_n) (mgI A a_n a_l d_n d_l) (mgM a_n) mgR ⟨0⟩ ?_ ?_ ?_
  ·exact sP _ _
  ·cbv
   repeat' (first|exact trivial|exact rfl|refine And.intro ?_ ?_)
  rintro⟨i⟩ hq O hO;have hst:=sm hk1 hq;subst hA;generalize hA:Ar.aa=A;generalize hL:Lp _ _ _=L;refine az zq ?_
  repeat' (first|(apply al zq;try dsimp only)|apply aS zq (af hL)|apply aq zq|refine aT rfl ?_|apply ai|refine ah rfl ?_|refine aR rfl ?_|exact aA|apply aB|refine aP fun _=>?_|refine aQ fun _=>?_|(constructor;cbv))
  all_goals (clear hL hfs zq Z hq;subst hA hF hG0 hG1 hG2 hG3 hG4 hO;simp only [Mg.aa,ViR.Vs.aa,CtI.Cs.aa,CtK.Cs.aa,SoN.On.aa,SoI.Oi.aa,SoK.Ok.aa,Ar.aa] at * <;> grind [aj];done)
 ·cases hp
def xj (F:Mg):aO:=fun xs h=>match xs,h with
 |[.agg [.sl none (.ints .i64 a_n),.sl none (.ae (.int .i64 (.int .i64 (.int .i64 (.int .i64 (.bool .nil))))) a_l)],.agg [.sl none (.ints .i64 d_n),.sl none (.ae (.int .i64 (.int .i64 (.int .i64 (.int .i64 (.bool .nil))))) d_l)]],[]=>some ⟨F.afW a_n a_l d_n d_l=true,.cN [.agg [.sl none (.ints .i64 (F.m_n a_n a_l d_n d_l)),.sl none (.ae .bg (F.m_l a_n a_l d_n d_l))],I (F.m_e a_n a_l d_n d_l)],[],[Any,Any]⟩
 |_,_=>none
theorem Ff:au Tryz.prog 113 (xj Mg.aa):=by
 have hfs:=(ak.cons dO (ak.cons qz (ak.cons tw (ak.cons sN (ak.cons gX (ak.cons im ak.nil rfl) rfl) rfl) rfl) rfl) rfl);refine aw hfs Tryz.func113 rfl rfl fun xs h p hp=>?_;unfold xj at hp;split at hp
 ·rename_i a_n a_l d_n d_l;cases hp;refine⟨av rfl,fun hC _=>?_⟩;dsimp only at hC;intro b gv;have hk:(a_n.length≤1000∧d_n.length≤1000∧a_l.length≤1000∧d_l.length≤1000)∧(¬a_n.length+d_n.length=0)∧( a_l.length+d_l.length=0):=of_decide_eq_true hC;obtain⟨⟨hk1,hk2,hk3,hk4⟩,hk5,hk6⟩:=hk;have e1:rO a_n a_l d_n d_l=true→oO a_n a_l d_n d_l=SoI.fR (a_n ++ d_n)∧nY a_n a_l d_n d_l=SoK.kM (a_l ++ d_l):=fun h=>⟨if_pos h,if_pos h⟩;have e2:¬rO a_n a_l d_n d_l=true→oO a_n a_l d_n d_l=[]∧nY a_n a_l d_n d_l=[]:=fun h=>⟨if_neg h,if_neg h⟩;have e3:rO a_n a_l d_n d_l=((aX a_n a_l && aX d_n d_l) && !eH a_n d_n):=rfl;have e4:oo a_n a_l d_n d_l=if (aX a_n a_l && aX d_n d_l)=true then (if eH a_n d_n=true then 11 else 0) else 1:=rfl
  have e5:=Ge a_n d_n;have e6:=GJ a_l d_l;have e7:oU a_n a_l=if aX a_n a_l=true then 0 else 1:=rfl
  have e8:oU d_n d_l=if aX d_n d_l=true then 0 else 1:=rfl
  have e9:=(SoI.cM (a_n ++ d_n)).1;have e10:=(SoK.fg (a_l ++ d_l)).1;have eb:aX d_n d_l=true→∀ t,Tp d_n t=d_n.contains t:=fun h t=>qH (by unfold aX at h;rw [Bool.and_eq_true] at h;exact h.1) t;generalize hF:Mg.aa=F,hG0:ViR.Vs.aa=G0,hG1:ViC.Vc.aa=G1,hG2:CtI.Cs.aa=G2,hG3:CtK.Cs.aa=G3,hG4:SoN.On.aa=G4 at hC hfs ⊢;refine bu fun Z zq A hA L hL=>?_
  repeat' (first|(apply al zq;try dsimp only)|apply aS zq (af hL)|apply aq zq|refine aT rfl ?_|apply ai|refine ah rfl ?_|refine aR rfl ?_|exact aA|apply aB|refine aP fun _=>?_|refine aQ fun _=>?_|(constructor;cbv))
  all_goals first|(show L _ _ _;skip)|(clear hL hfs zq Z;subst hA hF hG0 hG1 hG2 hG3 hG4;simp only [Mg.aa,ViC.Vc.aa,Ar.aa] at * <;> grind [aj];done)
  rename_i hx;have hv:aX a_n a_l=true∧aX d_n d_l=true:=by
   clear hL hfs zq Z e1 e2 e3 e4 e5 e6 eb;subst hA hF hG0 hG1 hG2 hG3 hG4;simp only [Mg.aa,ViC.Vc.aa,Ar.aa] at *
   grind [aj]
  clear hx;have eb:=eb hv.2;subst hL;refine aJ (aN hfs) (YB a_n d_n) (mgI A a_n a_l d_n d_l) (mgM a_n) mgR ⟨0⟩ ?_ ?_ ?_
  ·exact sP _ _
  ·cbv
   repeat' (first|exact trivial|exact rfl|refine And.intro ?_ ?_)
  rintro⟨i⟩ hq O hO;have hst:=sm hk1 hq;subst hA;generalize hA:Ar.aa=A;generalize hL:Lp _ _ _=L;refine az zq ?_
  repeat' (first|(apply al zq;try dsimp only)|apply aS zq (af hL)|apply aq zq|refine aT rfl ?_|apply ai|refine ah rfl ?_|refine aR rfl ?_|exact aA|apply aB|refine aP fun _=>?_|refine aQ fun _=>?_|(constructor;cbv))
  all_goals (clear hL hfs zq Z hq;subst hA hF hG0 hG1 hG2 hG3 hG4 hO;simp only [Mg.aa,ViR.Vs.aa,CtI.Cs.aa,CtK.Cs.aa,SoN.On.aa,SoI.Oi.aa,SoK.Ok.aa,Ar.aa] at * <;> grind [aj];done)
 ·cases hp
def wP (F:Mg):aO:=fun xs h=>match xs,h with
 |[.agg [.sl none (.ints .i64 a_n),.sl none (.ae (.int .i64 (.int .i64 (.int .i64 (.int .i64 (.bool .nil))))) a_l)],.agg [.sl none (.ints .i64 d_n),.sl none (.ae (.int .i64 (.int .i64 (.int .i64 (.int .i64 (.bool .nil))))) d_l)]],[]=>some ⟨F.agA a_n a_l d_n d_l=true,.cN [.agg [.sl none (.ints .i64 (F.m_n a_n a_l d_n d_l)),.sl none (.ae .bg (F.m_l a_n a_l d_n d_l))],I (F.m_e a_n a_l d_n d_l)],[],[Any,Any]⟩
 |_,_=>none
theorem DG:au Tryz.prog 113 (wP Mg.aa):=by
 have hfs:=(ak.cons dO (ak.cons qz (ak.cons tw (ak.cons tF (ak.cons gX (ak.cons im ak.nil rfl) rfl) rfl) rfl) rfl) rfl);refine aw hfs Tryz.func113 rfl rfl fun xs h p hp=>?_;unfold wP at hp;split at hp
 ·rename_i a_n a_l d_n d_l;cases hp;refine⟨av rfl,fun hC _=>?_⟩;dsimp only at hC;intro b gv;have hk:(a_n.length≤1000∧d_n.length≤1000∧a_l.length≤1000∧d_l.length≤1000)∧(¬a_n.length+d_n.length=0)∧(¬a_l.length+d_l.length=0):=of_decide_eq_true hC;obtain⟨⟨hk1,hk2,hk3,hk4⟩,hk5,hk6⟩:=hk;have e1:rO a_n a_l d_n d_l=true→oO a_n a_l d_n d_l=SoI.fR (a_n ++ d_n)∧nY a_n a_l d_n d_l=SoK.kM (a_l ++ d_l):=fun h=>⟨if_pos h,if_pos h⟩;have e2:¬rO a_n a_l d_n d_l=true→oO a_n a_l d_n d_l=[]∧nY a_n a_l d_n d_l=[]:=fun h=>⟨if_neg h,if_neg h⟩;have e3:rO a_n a_l d_n d_l=((aX a_n a_l && aX d_n d_l) && !eH a_n d_n):=rfl;have e4:oo a_n a_l d_n d_l=if (aX a_n a_l && aX d_n d_l)=true then (if eH a_n d_n=true then 11 else 0) else 1:=rfl
  have e5:=Ge a_n d_n;have e6:=GJ a_l d_l;have e7:oU a_n a_l=if aX a_n a_l=true then 0 else 1:=rfl
  have e8:oU d_n d_l=if aX d_n d_l=true then 0 else 1:=rfl
  have e9:=(SoI.cM (a_n ++ d_n)).1;have e10:=(SoK.fg (a_l ++ d_l)).1;have eb:aX d_n d_l=true→∀ t,Tp d_n t=d_n.contains t:=fun h t=>qH (by unfold aX at h;rw [Bool.and_eq_true] at h;exact h.1) t;generalize hF:Mg.aa=F,hG0:ViR.Vs.aa=G0,hG1:ViC.Vc.aa=G1,hG2:CtI.Cs.aa=G2,hG3:CtK.Cs.aa=G3,hG4:SoN.On.aa=G4 at hC hfs ⊢;refine bu fun Z zq A hA L hL=>?_
  repeat' (first|(apply al zq;try dsimp only)|apply aS zq (af hL)|apply aq zq|refine aT rfl ?_|apply ai|refine ah rfl ?_|refine aR rfl ?_|exact aA|apply aB|refine aP fun _=>?_|refine aQ fun _=>?_|(constructor;cbv))
  all_goals first|(show L _ _ _;skip)|(clear hL hfs zq Z;subst hA hF hG0 hG1 hG2 hG3 hG4;simp only [Mg.aa,ViC.Vc.aa,Ar.aa] at * <;> grind [aj];done)
  rename_i hx;have hv:aX a_n a_l=true∧aX d_n d_l=true:=by
   clear hL hfs zq Z e1 e2 e3 e4 e5 e6 eb;subst hA hF hG0 hG1 hG2 hG3 hG4;simp only [Mg.aa,ViC.Vc.aa,Ar.aa] at *
   grind [aj]
  clear hx;have eb:=eb hv.2;subst hL;refine aJ (aN hfs) (YB a_n d_n) (mgI A a_n a_l d_n d_l) (mgM a_n) mgR ⟨0⟩ ?_ ?_ ?_
  ·exact sP _ _
  ·cbv
   repeat' (first|exact trivial|exact rfl|refine And.intro ?_ ?_)
  rintro⟨i⟩ hq O hO;have hst:=sm hk1 hq;subst hA;generalize hA:Ar.aa=A;generalize hL:Lp _ _ _=L;refine az zq ?_
  repeat' (first|(apply al zq;try dsimp only)|apply aS zq (af hL)|apply aq zq|refine aT rfl ?_|apply ai|refine ah rfl ?_|refine aR rfl ?_|exact aA|apply aB|refine aP fun _=>?_|refine aQ fun _=>?_|(constructor;cbv))
  all_goals (clear hL hfs zq Z hq;subst hA hF hG0 hG1 hG2 hG3 hG4 hO;simp only [Mg.aa,ViR.Vs.aa,CtI.Cs.aa,CtK.Cs.aa,SoN.On.aa,SoI.Oi.aa,SoK.Ok.aa,Ar.aa] at * <;> grind [aj];done)
 ·cases hp
def sF (F:Mg):aO:=fun xs h=>match xs,h with
 |[.agg [.sl none (.ints .i64 a_n),.sl none (.ae (.int .i64 (.int .i64 (.int .i64 (.int .i64 (.bool .nil))))) a_l)],.agg [.sl none (.ints .i64 d_n),.sl none (.ae (.int .i64 (.int .i64 (.int .i64 (.int .i64 (.bool .nil))))) d_l)]],[]=>some ⟨F.SM a_n a_l d_n d_l=true,.cN [.agg [.sl none (.ints .i64 (F.m_n a_n a_l d_n d_l)),.sl none (.ae .bg (F.m_l a_n a_l d_n d_l))],I (F.m_e a_n a_l d_n d_l)],[],[Any,Any]⟩
 |_,_=>none
theorem Jp {P:Program} {f:FuncId} {c c00 c01 c10 c11:aO} (o00:au P f c00) (o01:au P f c01) (o10:au P f c10) (o11:au P f c11)
  (h:∀ xs h p,c xs h=some p→p.C→(∃ C,c00 xs h=some ⟨C,p.r,p.h,p.as⟩∧C)∨(∃ C,c01 xs h=some ⟨C,p.r,p.h,p.as⟩∧C)∨(∃ C,c10 xs h=some ⟨C,p.r,p.h,p.as⟩∧C)∨∃ C,c11 xs h=some ⟨C,p.r,p.h,p.as⟩∧C):au P f c:=by
 refine⟨o00.1,fun args h' p hp hC G vs hh hbs hm hv=>?_⟩;rcases h _ _ _ hp hC with ⟨C,h1,h2⟩ | ⟨C,h1,h2⟩ | ⟨C,h1,h2⟩ | ⟨C,h1,h2⟩
 ·exact o00.2 args h' _ h1 h2 G vs hh hbs hm hv
 ·exact o01.2 args h' _ h1 h2 G vs hh hbs hm hv
 ·exact o10.2 args h' _ h1 h2 G vs hh hbs hm hv
 ·exact o11.2 args h' _ h1 h2 G vs hh hbs hm hv
theorem oT:au Tryz.prog 113 (sF Mg.aa):=by
 refine Jp DI DM Ff DG fun xs h p hp hC=>?_;unfold sF at hp;split at hp
 ·rename_i a_n a_l d_n d_l;cases hp;have hk:a_n.length≤1000∧d_n.length≤1000∧a_l.length≤1000∧d_l.length≤1000:=of_decide_eq_true hC
  by_cases h1:a_n.length+d_n.length=0
  ·by_cases h2:a_l.length+d_l.length=0
   ·exact .inl ⟨_,rfl,decide_eq_true ⟨hk,h1,h2⟩⟩
   ·exact .inr (.inl ⟨_,rfl,decide_eq_true ⟨hk,h1,h2⟩⟩)
  ·by_cases h2:a_l.length+d_l.length=0
   ·exact .inr (.inr (.inl ⟨_,rfl,decide_eq_true ⟨hk,h1,h2⟩⟩))
   ·exact .inr (.inr (.inr ⟨_,rfl,decide_eq_true ⟨hk,h1,h2⟩⟩))
 ·cases hp
end Go.Proofs.YtelhldgdnlppfaaGreat.MgR
namespace Go.Proofs.YtelhldgdnlppfaaGreat.KsT
open Go Ry ViR VoR KsS
open MgR (oO nY oo)
open ChQ (jt ef CH)
def cW (d:CS):List Int:=if oo [d.i] (dx d.i d.U) d.gn d.gl=0 then oO [d.i] (dx d.i d.U) d.gn d.gl else [d.i]
def cT (d:CS):List E:=if oo [d.i] (dx d.i d.U) d.gn d.gl=0 then nY [d.i] (dx d.i d.U) d.gn d.gl else dx d.i d.U
def ecW (d:CS) (n:List Int) (l:List E):WK:=⟨2,d.ee,d.er,n,l,0,0,0,0⟩
def rM (d:CS) (c:CH) (n:List Int) (l:List E):WK:=⟨3,d.ee,d.er,if c.k=1 then n else [],if c.k=1 then l else [],c.k,c.a,c.b,c.s⟩
def dH (d:CS) (c:CH) (n:List Int) (l:List E):CS:=if c.k=1 then { ed d (bJ d.U d.p) (rM d c n l) with ph:=4,tn:=n,tl:=l } else { ed d (bJ d.U d.p) (rM d c n l) with ph:=3 }
def ja (d:CS) (c:CH):Bool:=decide (¬c.k=1∧c.a=d.i∧0≤bA d.U c.b∧ri (tie d (bA d.U c.b)) 2=c.s)
def stops (d:CS):Bool:=d.o || (!decide (d.ph=1) || (decide (0 < d.w.length) || qo d.U))
structure Lv where
 B:CS→CS
 ok:CS→Bool
def jh (L:Lv) (d:CS) (k a:Int):CS :=
 if k=2 then (if (pE (tie d a)).tb=true then L.B (aE d a (pE (tie d a))) else aE d a (pE (tie d a)))
 else if k=3 then (if (kq (tie d a)).tp=true then L.B (aE d a (kq (tie d a))) else aE d a (kq (tie d a)))
 else d
def szI (d:CS) (a:Int):Bool:=decide (0≤a∧a < d.U.length∧d.U.length≤1000∧d.q.length≤99000)
def kK (L:Lv) (d:CS) (k a:Int):Bool:=szI d a && ((!decide (k=2) || (!(pE (tie d a)).tb || L.ok (aE d a (pE (tie d a))))) && (!decide (k=3) || (!(kq (tie d a)).tp || L.ok (aE d a (kq (tie d a))))))
def mh (L:Lv) (d:CS) (c:CH) (v:List Int) (l:List E):CS:=if ja d c=true then jh L (dH d c v l) c.k (bA d.U c.b) else dH d c v l
def qP (L:Lv) (d:CS) (c:CH) (v:List Int) (l:List E):Bool:=decide (d.U.length≤500∧d.q.length≤90000∧v.length≤1000∧l.length≤1000) && (!ja d c || kK L (dH d c v l) c.k (bA d.U c.b))
def cy (L:Lv) (d:CS):CS :=
 if stops d=true then d
 else if ¬d.p=0 then { jz d d.p (ecW d (cW d) (cT d)) with ph:=2 }
 else if ¬jt (cW d) (cT d)=0 then { d with ph:=3 }
 else mh L d (ef (cW d) (cT d)) (cW d) (cT d)
def szD (d:CS):Bool:=decide (d.U.length≤400∧d.q.length≤89000∧d.gn.length≤500∧d.gl.length≤500)
def eN (L:Lv) (d:CS):Bool:=szD d && (stops d || (!decide (d.p=0) || (!decide (jt (cW d) (cT d)=0) || qP L d (ef (cW d) (cT d)) (cW d) (cT d))))
def gG (L:Lv) (d:CS) (e r p:Int):Bool:=decide (d.U.length≤400∧d.q.length≤80000) && eN L (eR d e r p)
def nZ (d:CS):Bool:=decide (d.U.length≤400∧d.q.length≤80000)
def gu (L:Lv) (d:CS):CS:=if d.o=true then d else if zy (dz d.t d.ee) d.l d.i=0 then cy L (eR d (dz d.t d.ee+1) d.i 0) else mj d
def kY (L:Lv) (d:CS):Bool:=nZ d && (d.o || (!decide (zy (dz d.t d.ee) d.l d.i=0) || gG L d (dz d.t d.ee+1) d.i 0))
def Lv.up (L:Lv):Lv:=⟨gu L,kY L⟩
def vF:Lv:=⟨id,fun _=>false⟩
theorem IB (d:CS):(cW d).length≤1+d.gn.length∧(cT d).length≤d.U.length+d.gl.length:=by
 have hl:(dx d.i d.U).length=d.U.length:=List.length_map _;unfold cW cT;constructor
 ·split
  ·unfold oO;split
   ·rw [(SoI.cM _).1,List.length_append,List.length_singleton];omega
   ·exact Nat.zero_le _
  ·rw [List.length_singleton];omega
 ·split
  ·unfold nY;split
   ·rw [(SoK.fg _).1,List.length_append,hl];omega
   ·exact Nat.zero_le _
  ·rw [hl];omega
theorem sL (l:List E) (p:Int):(bJ l p).length≤l.length:=by
 unfold bJ;rw [List.length_map];exact List.length_filter_le _ _
end Go.Proofs.YtelhldgdnlppfaaGreat.KsT
