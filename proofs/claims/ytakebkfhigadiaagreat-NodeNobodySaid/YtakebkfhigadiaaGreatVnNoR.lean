/-
  a node that has one port,by the code;nobody's node. No condition but what is asked.
-/
import Derived.Test.YtakebkfhigadiaaGreatVnCoP
import Derived.Test.YtakebkfhigadiaaGreatVnLkR
import Derived.Test.YtakebkfhigadiaaGreatVnFrQ
import Derived.Test.YtakebkfhigadiaaGreatVnInK
import Derived.Test.YtakebkfhigadiaaGreatVnRyK
set_option cbv.maxSteps 4000000
set_option maxHeartbeats 4000000
set_option maxRecDepth 100000
namespace Go.Proofs.YtakebkfhigadiaaGreat.NoR
open Go Ry HaR FrR LiR LkR
set_option maxRecDepth 100000
open CoP (gX iL)
open CoN (vX)
open InK (xe sZ)
def x0L:LN:=⟨0,0,1,false,0,0,[],0,0,false⟩
def VC:KN:=⟨2,5,x0L,0,0⟩
def nF:E:=[.int 2,.int 5,.int 0,.int 0,.int 1,.bool false,.int 0,.int 0,.ae [],.int 0,.int 0,.bool false,.int 0,.int 0]
def VK:E:=[.int 1,.int 1,.int 0,.int 0,.ints []]
def uW:E:=[.int 1,.int 2,.ints (qX 1 1 0 0 []),.bool false]
theorem cj:Lo VC=⟨VC,zN,0⟩:=by rfl
theorem TS:UG VC=true:=by rfl
def RF (n:Int):Bool:=decide (1≤n∧n≤2147483647)
def qk (out fs:List E):List E:=if fs.length=0 then out else [uW]
def RV (fs out:List E) (to:Int):Bool:=decide (fs.length=0) || (decide (fs.length=1∧out=[]∧to=2) && decide (ri (fs.getD 0 []) 0=1∧ri (fs.getD 0 []) 1=1∧ri (fs.getD 0 []) 2=0∧ri (fs.getD 0 []) 3=0∧rl (fs.getD 0 []) 4=[]))
def Sd (fs out:List E) (to:Int):Prop:=fs.length=0∨((fs.length=1∧out=[]∧to=2)∧ri (fs.getD 0 []) 0=1∧ri (fs.getD 0 []) 1=1∧ri (fs.getD 0 []) 2=0∧ri (fs.getD 0 []) 3=0∧rl (fs.getD 0 []) 4=[])
structure XS where
 i:Int
 o:List E
def sR (k:Nat) (st:St):XS:=⟨bA st k,Pr st.heap (nm st 0 1)⟩
def sQ (out fs:List E) (y:XS):Prop:=(y.i=0∧y.o=out)∨(y.i=1∧fs.length=1∧y.o=[uW])
def sM (y:XS):Nat:=2 - y.i.toNat
theorem MM (a b:List E):sM ⟨1,a⟩ < sM ⟨0,b⟩:=by
 show 2 - (1:Int).toNat < 2 - (0:Int).toNat
 decide
theorem TH {fs out:List E} {to:Int} (h:RV fs out to=true):Sd fs out to:=by
 unfold RV at h
 simp only [Bool.and_eq_true,Bool.or_eq_true,decide_eq_true_eq] at h
 exact h
def fE (f:E) (to:Int):E:=[D.int 1,D.int to,D.ints (qX (ri f 0) (ri f 1) (ri f 2) (ri f 3) (rl f 4)),D.bool false]
theorem UM {fs out:List E} {to:Int} (hs:Sd fs out to) {i:Int} {o:List E} (hq:sQ out fs ⟨i,o⟩):0≤i∧(¬i < fs.length→qk out fs=o)∧(i < fs.length→o.length=0∧Lt (ri (fs.getD i.toNat []) 0) (ri (fs.getD i.toNat []) 1) (ri (fs.getD i.toNat []) 2) (ri (fs.getD i.toNat []) 3) (rl (fs.getD i.toNat []) 4)=0∧(∀ a,sM ⟨aB .add .i64 i 1,a⟩ < sM ⟨i,o⟩)∧sQ out fs ⟨aB .add .i64 i 1,o ++ [fE (fs.getD i.toNat []) to]⟩):=by
 have hq:(i=0∧o=out)∨(i=1∧fs.length=1∧o=[uW]):=hq
 refine⟨by rcases hq with ⟨rfl,_⟩ | ⟨rfl,_⟩ <;> decide,fun g=>?_,fun g=>?_⟩
 ·unfold qk
  rcases hq with ⟨rfl,rfl⟩ | ⟨rfl,h,rfl⟩
  ·rw [if_pos (by omega)]
  ·rw [if_neg (by omega)]
 ·rcases hq with ⟨rfl,rfl⟩ | ⟨rfl,h,rfl⟩
  ·rcases hs with h | ⟨⟨h1,h2,h3⟩,h4,h5,h6,h7,h8⟩
   ·omega
   ·have e:fs.getD (Int.toNat 0) []=fs.getD 0 []:=rfl
    have e1:aB .add .i64 0 1=1:=rfl
    subst h2 h3
    rw [e,e1]
    refine⟨rfl,?_,fun a=>MM _ _,.inr ⟨rfl,h1,?_⟩⟩
    ·rw [h4,h5,h6,h7,h8]
     rfl
    ·unfold fE uW
     rw [h4,h5,h6,h7,h8]
     rfl
  ·omega
structure XI where
 i:Int
def zQ (y:XI):Prop:=y.i=0
def zM (_:XI):Nat:=0
def oQ (y:XI):Prop:=y.i=0∨y.i=1
def oM (y:XI):Nat:=2 - y.i.toNat
theorem Fv:oM ⟨1⟩ < oM ⟨0⟩:=by decide
theorem NS:oQ ⟨1⟩:=.inr rfl
theorem Iy:aB .add .i64 0 1=1:=by rfl
theorem ji:Lo ⟨2,5,⟨0,0,1,false,0,0,[],0,0,false⟩,0,0⟩=⟨⟨2,5,⟨0,0,1,false,0,0,[],0,0,false⟩,0,0⟩,⟨[],[],false,0⟩,0⟩:=by rfl
theorem iJ:Qm ⟨2,5,⟨0,0,1,false,0,0,[],0,0,false⟩,0,0⟩ 2147483647=⟨⟨2,5,⟨0,0,1,false,0,0,[],0,0,false⟩,0,0⟩,⟨[VK],[],false,0⟩,0⟩:=by rfl
theorem cV:Ra 2 5 2147483647=⟨⟨2,5,⟨0,0,1,false,0,0,[],0,0,false⟩,0,0⟩,⟨[],[],false,0⟩,0⟩:=by rfl
theorem nN:UG ⟨2,5,⟨0,0,1,false,0,0,[],0,0,false⟩,0,0⟩=true:=by rfl
theorem fL (o:List E) (t:Int):RV [] o t=true:=rfl
theorem ij:RV [VK] [] 2=true:=by rfl
theorem dz (o:List E):qk o []=o:=rfl
theorem eT (o:List E):qk o [VK]=[uW]:=rfl
theorem iq:List.set [nF] (Int.toNat 0) [D.int 2,D.int 5,D.int 0,D.int 0,D.int 1,D.bool false,D.int 0,D.int 0,D.ae [],D.int 0,D.int 0,D.bool false,D.int 0,D.int 0]=[nF]:=rfl
theorem UI:VC=⟨2,5,⟨0,0,1,false,0,0,[],0,0,false⟩,0,0⟩:=by rfl
theorem kS:[nF].getD (Int.toNat 0) []=nF∧ri nF 0=2∧ri nF 1=5∧ri nF 2=0∧ri nF 3=0∧ri nF 4=1∧rb nF 5=false∧ri nF 6=0∧ri nF 7=0∧rr nF 8=[]∧ri nF 9=0∧ri nF 10=0∧rb nF 11=false∧ri nF 12=0∧ri nF 13=0∧[nF].length=1:=⟨rfl,rfl,rfl,rfl,rfl,rfl,rfl,rfl,rfl,rfl,rfl,rfl,rfl,rfl,rfl,rfl⟩
def sI (k:Nat) (st:St):XI:=⟨bA st k⟩
abbrev Iv:=CoP.gX
theorem zV:aC Tryz.prog 67 (Iv CoN.Cn.U):=CoP.iL
structure No where
 NJ:Int→Bool
 IB:List E→List E→List E
 vv:E
 DJ:E
 Mb:E
 Ql:List E→List E→Int→Bool
 Fu:List E→Bool
def No.U:No:=⟨RF,qk,nF,VK,uW,RV,fun l=>decide (l.length=0)⟩
def FN (F:No):aW:=fun xs h=>match xs,h with
 |[.one (.val (.int .i64 n))],[]=>some ⟨True,.sa (B (F.NJ n)),[],[Any]⟩
 |_,_=>none
theorem TE (n:Int):aR [] Tryz.f66 [.one (.val (.int .i64 n))] [] ⟨True,.sa (B (No.U.NJ n)),[],[Any]⟩:=by
 intro b gv
 have hfs:=af.nil
 generalize hF:No.U=F at hfs ⊢
 generalize hG0:CoN.Cn.U=G0 at hfs ⊢
 generalize hG1:LkR.Ts.U=G1 at hfs ⊢
 generalize hG2:FrR.Rs.U=G2 at hfs ⊢
 generalize hG3:InK.Nf.U=G3 at hfs ⊢
 generalize hA:Ar.U=A
 generalize hL:Lp _ _ _=L
 obtain⟨Z,zq⟩:=aH
 refine @aA _ _ _ _ _ _ _ (aa hL) _ _ zq rfl ?_
 repeat' (first|(refine ay zq ?_;try dsimp only)|refine ax zq ?_ (aa hL)|refine az zq ?_|refine aw ?_|refine aq ?_|refine au ?_|refine ar ?_|refine al rfl ?_|refine ai rfl ?_|refine aj rfl ?_|(refine Cd.mk ?_;cbv)|(refine aF.mk ?_;cbv)|(refine aK.mk ?_;cbv)|exact trivial|refine And.intro ?_ ?_|refine aZ fun _=>?_|refine ba fun _=>?_)
 all_goals
  clear hL zq Z
  try clear hfs
  subst hA hF hG0 hG1 hG2 hG3
  simp only [No.U,Ar.U] at *
  try (grind [ah,RF])
theorem HS:aC Tryz.prog 66 (FN No.U):=by
 refine aD af.nil Tryz.func66 rfl rfl fun xs h p hp=>?_
 unfold FN at hp
 split at hp
 ·cases hp
  exact⟨av rfl,fun _ _=>@TE _⟩
 ·cases hp
def iz (_:No):aW:=fun xs h=>match xs,h with
 |[.one (.val (.pointer none))],[]=>some ⟨True,.sa (B false),[],[Any]⟩
 |_,_=>none
theorem Pf:aR [] Tryz.f18 [.one (.val (.pointer none))] [] ⟨True,.sa (B false),[],[Any]⟩:=by
 intro b gv
 generalize hF:No.U=F
 generalize hG0:CoN.Cn.U=G0
 generalize hG1:LkR.Ts.U=G1
 generalize hG2:FrR.Rs.U=G2
 generalize hG3:InK.Nf.U=G3
 generalize hA:Ar.U=A
 generalize hL:Lp _ _ _=L
 obtain⟨Z,zq⟩:=aH
 refine @aA _ _ _ _ _ _ _ (aa hL) _ _ zq rfl ?_
 repeat' (first|(refine ay zq ?_;try dsimp only)|refine ax zq ?_ (aa hL)|refine az zq ?_|refine aw ?_|refine aq ?_|refine au ?_|refine ar ?_|refine al rfl ?_|refine ai rfl ?_|refine aj rfl ?_|(refine Cd.mk ?_;cbv)|(refine aF.mk ?_;cbv)|(refine aK.mk ?_;cbv)|exact trivial|refine And.intro ?_ ?_|refine aZ fun _=>?_|refine ba fun _=>?_)
 all_goals first|(show L _ _ _;skip)|(clear hL zq Z;subst hA hF hG0 hG1 hG2 hG3;simp only [No.U,CoN.Cn.U,LkR.Ts.U,FrR.Rs.U,InK.Nf.U,Ar.U,List.nil_append] at * <;> grind [ah];done)
theorem jt:aC Tryz.prog 18 (iz No.U):=by
 refine aD af.nil Tryz.func18 rfl rfl fun xs h p hp=>?_
 unfold iz at hp
 split at hp
 ·cases hp
  exact⟨av rfl,fun _ _=>@Pf ⟩
 ·cases hp
def fU (_:No):aW:=fun xs h=>match xs,h with
 |[.one (.ptr 0 0)],[(0,.cells 42 [.val (.int .i64 z0),.val (.int .i64 z1),.val (.int .i64 z2),.val (.int .i64 z3),.val (.int .i64 z4),.val (.int .i64 z5),.val (.int .i64 z6),.val (.int .i64 z7),.val (.slice none 0 0),.val (.slice none 0 0),.val (.slice none 0 0),.val (.slice none 0 0),.val (.int .i64 z8),.val (.slice none 0 0),.val (.slice none 0 0),.val (.int .i64 z9),.val (.bool zo),.val (.slice none 0 0),.val (.slice none 0 0)])]=>some ⟨z3=0,.sa (B false),[(0,.cells 42 [.val (.int .i64 z0),.val (.int .i64 z1),.val (.int .i64 z2),.val (.int .i64 z3),.val (.int .i64 z4),.val (.int .i64 z5),.val (.int .i64 z6),.val (.int .i64 z7),.val (.slice none 0 0),.val (.slice none 0 0),.val (.slice none 0 0),.val (.slice none 0 0),.val (.int .i64 z8),.val (.slice none 0 0),.val (.slice none 0 0),.val (.int .i64 z9),.val (.bool zo),.val (.slice none 0 0),.val (.slice none 0 0)])],[.one (.ptr 0 0)]⟩
 |_,_=>none
theorem OL (z0:Int) (z1:Int) (z2:Int) (z3:Int) (z4:Int) (z5:Int) (z6:Int) (z7:Int) (z8:Int) (z9:Int) (zo:Bool) (hC:z3=0):aR [] Tryz.f18 [.one (.ptr 0 0)] [(0,.cells 42 [.val (.int .i64 z0),.val (.int .i64 z1),.val (.int .i64 z2),.val (.int .i64 z3),.val (.int .i64 z4),.val (.int .i64 z5),.val (.int .i64 z6),.val (.int .i64 z7),.val (.slice none 0 0),.val (.slice none 0 0),.val (.slice none 0 0),.val (.slice none 0 0),.val (.int .i64 z8),.val (.slice none 0 0),.val (.slice none 0 0),.val (.int .i64 z9),.val (.bool zo),.val (.slice none 0 0),.val (.slice none 0 0)])] ⟨z3=0,.sa (B false),[(0,.cells 42 [.val (.int .i64 z0),.val (.int .i64 z1),.val (.int .i64 z2),.val (.int .i64 z3),.val (.int .i64 z4),.val (.int .i64 z5),.val (.int .i64 z6),.val (.int .i64 z7),.val (.slice none 0 0),.val (.slice none 0 0),.val (.slice none 0 0),.val (.slice none 0 0),.val (.int .i64 z8),.val (.slice none 0 0),.val (.slice none 0 0),.val (.int .i64 z9),.val (.bool zo),.val (.slice none 0 0),.val (.slice none 0 0)])],[.one (.ptr 0 0)]⟩:=by
 intro b gv
 have hz:z3=0:=hC
 subst hz
 generalize hF:No.U=F at hC ⊢
 generalize hG0:CoN.Cn.U=G0 at hC ⊢
 generalize hG1:LkR.Ts.U=G1 at hC ⊢
 generalize hG2:FrR.Rs.U=G2 at hC ⊢
 generalize hG3:InK.Nf.U=G3 at hC ⊢
 generalize hA:Ar.U=A
 generalize hL:Lp _ _ _=L
 obtain⟨Z,zq⟩:=aH
 refine @aA _ _ _ _ _ _ _ (aa hL) _ _ zq rfl ?_
 repeat' (first|(refine ay zq ?_;try dsimp only)|refine ax zq ?_ (aa hL)|refine az zq ?_|refine aw ?_|refine aq ?_|refine au ?_|refine ar ?_|refine al rfl ?_|refine ai rfl ?_|refine aj rfl ?_|(refine Cd.mk ?_;cbv)|(refine aF.mk ?_;cbv)|(refine aK.mk ?_;cbv)|exact trivial|refine And.intro ?_ ?_|refine aZ fun _=>?_|refine ba fun _=>?_)
 all_goals first|(show L _ _ _;skip)|(clear hL zq Z;subst hA hF hG0 hG1 hG2 hG3;simp only [Ar.U] at * <;> grind [ah];done)
theorem jr:aC Tryz.prog 18 (fU No.U):=by
 refine aD af.nil Tryz.func18 rfl rfl fun xs h p hp=>?_
 unfold fU at hp
 split at hp
 ·cases hp
  exact⟨av rfl,fun hC _=>@OL _ _ _ _ _ _ _ _ _ _ _ hC⟩
 ·cases hp
theorem jH:bY (fU No.U):=by
 intro xs h p hp
 unfold fU at hp
 split at hp
 ·cases hp
  rfl
 ·cases hp
def mn (_:No):aW:=fun xs h=>match xs,h with
 |[.one (.ptr 0 0)],[(0,.cells 42 [.val (.int .i64 2147483647),.val (.int .i64 2147483647),.val (.int .i64 2147483647),.val (.int .i64 1),.val (.int .i64 1),.val (.int .i64 1),.val (.int .i64 1),.val (.int .i64 0),.sl none (.ae (.int .i64 (.int .i64 (.int .i64 (.int .i64 (.bool (.bool (.int .i64 .nil))))))) []),.sl none (.ints .i64 []),.sl none (.ints .i64 []),.sl none (.ae (.int .i64 (.int .i64 (.int .i64 (.int .i64 (.bool .nil))))) []),.val (.int .i64 4),.sl none (.ints .i64 [1]),.sl none (.ae (.int .i64 (.int .i64 (.int .i64 (.int .i64 (.bool .nil))))) []),.val (.int .i64 2147483647),.val (.bool false),.own 1,.val (.slice none 0 0)]),(1,.row 59 (.ae (.int .i64 (.int .i64 (.int .i64 (.int .i64 (.int .i64 (.bool (.int .i64 (.int .i64 (.ae (.ints .u8 .nil) (.int .i64 (.int .i64 (.bool (.int .i64 (.int .i64 .nil)))))))))))))) lk))]=>some ⟨True,.sa (B true),[(0,.cells 42 [.val (.int .i64 2147483647),.val (.int .i64 2147483647),.val (.int .i64 2147483647),.val (.int .i64 1),.val (.int .i64 1),.val (.int .i64 1),.val (.int .i64 1),.val (.int .i64 0),.sl none (.ae (.int .i64 (.int .i64 (.int .i64 (.int .i64 (.bool (.bool (.int .i64 .nil))))))) []),.sl none (.ints .i64 []),.sl none (.ints .i64 []),.sl none (.ae (.int .i64 (.int .i64 (.int .i64 (.int .i64 (.bool .nil))))) []),.val (.int .i64 4),.sl none (.ints .i64 [1]),.sl none (.ae (.int .i64 (.int .i64 (.int .i64 (.int .i64 (.bool .nil))))) []),.val (.int .i64 2147483647),.val (.bool false),.own 1,.val (.slice none 0 0)]),(1,.row 59 (.ae (.int .i64 (.int .i64 (.int .i64 (.int .i64 (.int .i64 (.bool (.int .i64 (.int .i64 (.ae (.ints .u8 .nil) (.int .i64 (.int .i64 (.bool (.int .i64 (.int .i64 .nil)))))))))))))) lk))],[.one (.ptr 0 0)]⟩
 |_,_=>none
theorem Re (lk:List E):aR [] Tryz.f18 [.one (.ptr 0 0)] [(0,.cells 42 [.val (.int .i64 2147483647),.val (.int .i64 2147483647),.val (.int .i64 2147483647),.val (.int .i64 1),.val (.int .i64 1),.val (.int .i64 1),.val (.int .i64 1),.val (.int .i64 0),.sl none (.ae (.int .i64 (.int .i64 (.int .i64 (.int .i64 (.bool (.bool (.int .i64 .nil))))))) []),.sl none (.ints .i64 []),.sl none (.ints .i64 []),.sl none (.ae (.int .i64 (.int .i64 (.int .i64 (.int .i64 (.bool .nil))))) []),.val (.int .i64 4),.sl none (.ints .i64 [1]),.sl none (.ae (.int .i64 (.int .i64 (.int .i64 (.int .i64 (.bool .nil))))) []),.val (.int .i64 2147483647),.val (.bool false),.own 1,.val (.slice none 0 0)]),(1,.row 59 (.ae (.int .i64 (.int .i64 (.int .i64 (.int .i64 (.int .i64 (.bool (.int .i64 (.int .i64 (.ae (.ints .u8 .nil) (.int .i64 (.int .i64 (.bool (.int .i64 (.int .i64 .nil)))))))))))))) lk))] ⟨True,.sa (B true),[(0,.cells 42 [.val (.int .i64 2147483647),.val (.int .i64 2147483647),.val (.int .i64 2147483647),.val (.int .i64 1),.val (.int .i64 1),.val (.int .i64 1),.val (.int .i64 1),.val (.int .i64 0),.sl none (.ae (.int .i64 (.int .i64 (.int .i64 (.int .i64 (.bool (.bool (.int .i64 .nil))))))) []),.sl none (.ints .i64 []),.sl none (.ints .i64 []),.sl none (.ae (.int .i64 (.int .i64 (.int .i64 (.int .i64 (.bool .nil))))) []),.val (.int .i64 4),.sl none (.ints .i64 [1]),.sl none (.ae (.int .i64 (.int .i64 (.int .i64 (.int .i64 (.bool .nil))))) []),.val (.int .i64 2147483647),.val (.bool false),.own 1,.val (.slice none 0 0)]),(1,.row 59 (.ae (.int .i64 (.int .i64 (.int .i64 (.int .i64 (.int .i64 (.bool (.int .i64 (.int .i64 (.ae (.ints .u8 .nil) (.int .i64 (.int .i64 (.bool (.int .i64 (.int .i64 .nil)))))))))))))) lk))],[.one (.ptr 0 0)]⟩:=by
 intro b gv
 generalize hF:No.U=F
 generalize hG0:CoN.Cn.U=G0
 generalize hG1:LkR.Ts.U=G1
 generalize hG2:FrR.Rs.U=G2
 generalize hG3:InK.Nf.U=G3
 generalize hA:Ar.U=A
 generalize hL:Lp _ _ _=L
 obtain⟨Z,zq⟩:=aH
 refine @aA _ _ _ _ _ _ _ (aa hL) _ _ zq rfl ?_
 repeat' (first|(refine ay zq ?_;try dsimp only)|refine ax zq ?_ (aa hL)|refine az zq ?_|refine aw ?_|refine aq ?_|refine au ?_|refine ar ?_|refine al rfl ?_|refine ai rfl ?_|refine aj rfl ?_|(refine Cd.mk ?_;cbv)|(refine aF.mk ?_;cbv)|(refine aK.mk ?_;cbv)|exact trivial|refine And.intro ?_ ?_|refine aZ fun _=>?_|refine ba fun _=>?_)
 all_goals first|(show L _ _ _;skip)|(clear hL zq Z;subst hA hF hG0 hG1 hG2 hG3;simp only [Ar.U] at * <;> grind [ah];done)
theorem nY:aC Tryz.prog 18 (mn No.U):=by
 refine aD af.nil Tryz.func18 rfl rfl fun xs h p hp=>?_
 unfold mn at hp
 split at hp
 ·cases hp
  exact⟨av rfl,fun _ _=>@Re _⟩
 ·cases hp
theorem nR:bY (mn No.U):=by
 intro xs h p hp
 unfold mn at hp
 split at hp
 ·cases hp
  rfl
 ·cases hp
def iv (_:No):aW:=fun xs h=>match xs,h with
 |[.one (.val (.pointer none)),.one (.val (.int .i64 _)),.one (.val (.int .i64 _))],[]=>some ⟨True,.bB [.one (.val (.slice none 0 0)),I 1],[],[Any,Any,Any]⟩
 |_,_=>none
theorem Iz (p:Int) (w:Int):aR [(18,iz No.U)] Tryz.f5 [.one (.val (.pointer none)),.one (.val (.int .i64 p)),.one (.val (.int .i64 w))] [] ⟨True,.bB [.one (.val (.slice none 0 0)),I 1],[],[Any,Any,Any]⟩:=by
 intro b gv
 generalize hF:No.U=F
 generalize hG0:CoN.Cn.U=G0
 generalize hG1:LkR.Ts.U=G1
 generalize hG2:FrR.Rs.U=G2
 generalize hG3:InK.Nf.U=G3
 generalize hA:Ar.U=A
 generalize hL:Lp _ _ _=L
 obtain⟨Z,zq⟩:=aH
 refine @aA _ _ _ _ _ _ _ (aa hL) _ _ zq rfl ?_
 repeat' (first|(refine ay zq ?_;try dsimp only)|refine ax zq ?_ (aa hL)|refine az zq ?_|refine aw ?_|refine aq ?_|refine au ?_|refine ar ?_|refine al rfl ?_|refine ai rfl ?_|refine aj rfl ?_|(refine Cd.mk ?_;cbv)|(refine aF.mk ?_;cbv)|(refine aK.mk ?_;cbv)|exact trivial|refine And.intro ?_ ?_|refine aZ fun _=>?_|refine ba fun _=>?_)
 all_goals first|(exfalso;clear hL zq Z;subst hA hF hG0 hG1 hG2 hG3;simp only [No.U,CoN.Cn.U,LkR.Ts.U,FrR.Rs.U,InK.Nf.U,Ar.U,List.nil_append] at * <;> grind [ah];done)|(show L _ _ _;skip)|(clear hL zq Z;subst hA hF hG0 hG1 hG2 hG3;simp only [Ar.U] at * <;> grind [ah];done)
theorem Dc:aC Tryz.prog 5 (iv No.U):=by
 refine aD (af.cons jt af.nil rfl) Tryz.func5 rfl rfl fun xs h p hp=>?_
 unfold iv at hp
 split at hp
 ·cases hp
  exact⟨av rfl,fun _ _=>@Iz _ _⟩
 ·cases hp
def iE (_:No):aW:=fun xs h=>match xs,h with
 |[.one (.ptr 0 0),.one (.val (.int .i64 _)),.one (.val (.int .i64 _))],[(0,.cells 42 [.val (.int .i64 z0),.val (.int .i64 z1),.val (.int .i64 z2),.val (.int .i64 z3),.val (.int .i64 z4),.val (.int .i64 z5),.val (.int .i64 z6),.val (.int .i64 z7),.val (.slice none 0 0),.val (.slice none 0 0),.val (.slice none 0 0),.val (.slice none 0 0),.val (.int .i64 z8),.val (.slice none 0 0),.val (.slice none 0 0),.val (.int .i64 z9),.val (.bool zo),.val (.slice none 0 0),.val (.slice none 0 0)])]=>some ⟨z3=0,.bB [.one (.val (.slice none 0 0)),I 1],[(0,.cells 42 [.val (.int .i64 z0),.val (.int .i64 z1),.val (.int .i64 z2),.val (.int .i64 z3),.val (.int .i64 z4),.val (.int .i64 z5),.val (.int .i64 z6),.val (.int .i64 z7),.val (.slice none 0 0),.val (.slice none 0 0),.val (.slice none 0 0),.val (.slice none 0 0),.val (.int .i64 z8),.val (.slice none 0 0),.val (.slice none 0 0),.val (.int .i64 z9),.val (.bool zo),.val (.slice none 0 0),.val (.slice none 0 0)])],[.one (.ptr 0 0),Any,Any]⟩
 |_,_=>none
theorem GA (p:Int) (w:Int) (z0:Int) (z1:Int) (z2:Int) (z3:Int) (z4:Int) (z5:Int) (z6:Int) (z7:Int) (z8:Int) (z9:Int) (zo:Bool) (hC:z3=0):aR [(18,fU No.U),(bn 18,cT)] Tryz.f5 [.one (.ptr 0 0),.one (.val (.int .i64 p)),.one (.val (.int .i64 w))] [(0,.cells 42 [.val (.int .i64 z0),.val (.int .i64 z1),.val (.int .i64 z2),.val (.int .i64 z3),.val (.int .i64 z4),.val (.int .i64 z5),.val (.int .i64 z6),.val (.int .i64 z7),.val (.slice none 0 0),.val (.slice none 0 0),.val (.slice none 0 0),.val (.slice none 0 0),.val (.int .i64 z8),.val (.slice none 0 0),.val (.slice none 0 0),.val (.int .i64 z9),.val (.bool zo),.val (.slice none 0 0),.val (.slice none 0 0)])] ⟨z3=0,.bB [.one (.val (.slice none 0 0)),I 1],[(0,.cells 42 [.val (.int .i64 z0),.val (.int .i64 z1),.val (.int .i64 z2),.val (.int .i64 z3),.val (.int .i64 z4),.val (.int .i64 z5),.val (.int .i64 z6),.val (.int .i64 z7),.val (.slice none 0 0),.val (.slice none 0 0),.val (.slice none 0 0),.val (.slice none 0 0),.val (.int .i64 z8),.val (.slice none 0 0),.val (.slice none 0 0),.val (.int .i64 z9),.val (.bool zo),.val (.slice none 0 0),.val (.slice none 0 0)])],[.one (.ptr 0 0),Any,Any]⟩:=by
 intro b gv
 have hz:z3=0:=hC
 subst hz
 generalize hF:No.U=F at hC ⊢
 generalize hG0:CoN.Cn.U=G0 at hC ⊢
 generalize hG1:LkR.Ts.U=G1 at hC ⊢
 generalize hG2:FrR.Rs.U=G2 at hC ⊢
 generalize hG3:InK.Nf.U=G3 at hC ⊢
 generalize hA:Ar.U=A
 generalize hL:Lp _ _ _=L
 obtain⟨Z,zq⟩:=aH
 refine @aA _ _ _ _ _ _ _ (aa hL) _ _ zq rfl ?_
 repeat' (first|(refine ay zq ?_;try dsimp only)|refine ax zq ?_ (aa hL)|refine az zq ?_|refine aw ?_|refine aq ?_|refine au ?_|refine ar ?_|refine al rfl ?_|refine ai rfl ?_|refine aj rfl ?_|(refine Cd.mk ?_;cbv)|(refine aF.mk ?_;cbv)|(refine aK.mk ?_;cbv)|exact trivial|refine And.intro ?_ ?_|refine aZ fun _=>?_|refine ba fun _=>?_)
 all_goals first|(exfalso;clear hL zq Z;subst hA hF hG0 hG1 hG2 hG3;simp only [Ar.U] at * <;> grind [ah];done)|(show L _ _ _;skip)|(clear hL zq Z;subst hA hF hG0 hG1 hG2 hG3;simp only [No.U,CoN.Cn.U,LkR.Ts.U,FrR.Rs.U,InK.Nf.U,Ar.U,List.nil_append] at * <;> grind [ah];done)
theorem CD:aC Tryz.prog 5 (iE No.U):=by
 refine aD (af.keeps jr jH af.nil) Tryz.func5 rfl rfl fun xs h p hp=>?_
 unfold iE at hp
 split at hp
 ·cases hp
  exact⟨av rfl,fun hC _=>@GA _ _ _ _ _ _ _ _ _ _ _ _ _ hC⟩
 ·cases hp
theorem CQ:bY (iE No.U):=by
 intro xs h p hp
 unfold iE at hp
 split at hp
 ·cases hp
  rfl
 ·cases hp
def uL (F:No):aW:=hG (iv F) (iE F)
theorem wY:aC Tryz.prog 5 (uL No.U):=nb Dc CD
def jk (_:No):aW:=fun xs h=>match xs,h with
 |[.one (.val (.pointer none)),.one (.val (.int .i64 _)),.one (.sl none (.ints .u8 _))],[]=>some ⟨True,.sa (.one (.val (.slice none 0 0))),[],[Any,Any,Any]⟩
 |_,_=>none
theorem Fy (p:Int) (b:List Int):aR [(18,iz No.U)] Tryz.f7 [.one (.val (.pointer none)),.one (.val (.int .i64 p)),.one (.sl none (.ints .u8 b))] [] ⟨True,.sa (.one (.val (.slice none 0 0))),[],[Any,Any,Any]⟩:=by
 intro b gv
 generalize hF:No.U=F
 generalize hG0:CoN.Cn.U=G0
 generalize hG1:LkR.Ts.U=G1
 generalize hG2:FrR.Rs.U=G2
 generalize hG3:InK.Nf.U=G3
 generalize hA:Ar.U=A
 generalize hL:Lp _ _ _=L
 obtain⟨Z,zq⟩:=aH
 refine @aA _ _ _ _ _ _ _ (aa hL) _ _ zq rfl ?_
 repeat' (first|(refine ay zq ?_;try dsimp only)|refine ax zq ?_ (aa hL)|refine az zq ?_|refine aw ?_|refine aq ?_|refine au ?_|refine ar ?_|refine al rfl ?_|refine ai rfl ?_|refine aj rfl ?_|(refine Cd.mk ?_;cbv)|(refine aF.mk ?_;cbv)|(refine aK.mk ?_;cbv)|exact trivial|refine And.intro ?_ ?_|refine aZ fun _=>?_|refine ba fun _=>?_)
 all_goals first|(exfalso;clear hL zq Z;subst hA hF hG0 hG1 hG2 hG3;simp only [Ar.U] at * <;> grind [ah];done)|(show L _ _ _;skip)|(clear hL zq Z;subst hA hF hG0 hG1 hG2 hG3;simp only [No.U,CoN.Cn.U,LkR.Ts.U,FrR.Rs.U,InK.Nf.U,Ar.U,List.nil_append] at * <;> grind [ah];done)
theorem Cv:aC Tryz.prog 7 (jk No.U):=by
 refine aD (af.cons jt af.nil rfl) Tryz.func7 rfl rfl fun xs h p hp=>?_
 unfold jk at hp
 split at hp
 ·cases hp
  exact⟨av rfl,fun _ _=>@Fy _ _⟩
 ·cases hp
def ir (_:No):aW:=fun xs h=>match xs,h with
 |[.one (.ptr 0 0),.one (.val (.int .i64 _)),.one (.sl none (.ints .u8 _))],[(0,.cells 42 [.val (.int .i64 z0),.val (.int .i64 z1),.val (.int .i64 z2),.val (.int .i64 z3),.val (.int .i64 z4),.val (.int .i64 z5),.val (.int .i64 z6),.val (.int .i64 z7),.val (.slice none 0 0),.val (.slice none 0 0),.val (.slice none 0 0),.val (.slice none 0 0),.val (.int .i64 z8),.val (.slice none 0 0),.val (.slice none 0 0),.val (.int .i64 z9),.val (.bool zo),.val (.slice none 0 0),.val (.slice none 0 0)])]=>some ⟨z3=0,.sa (.one (.val (.slice none 0 0))),[(0,.cells 42 [.val (.int .i64 z0),.val (.int .i64 z1),.val (.int .i64 z2),.val (.int .i64 z3),.val (.int .i64 z4),.val (.int .i64 z5),.val (.int .i64 z6),.val (.int .i64 z7),.val (.slice none 0 0),.val (.slice none 0 0),.val (.slice none 0 0),.val (.slice none 0 0),.val (.int .i64 z8),.val (.slice none 0 0),.val (.slice none 0 0),.val (.int .i64 z9),.val (.bool zo),.val (.slice none 0 0),.val (.slice none 0 0)])],[.one (.ptr 0 0),Any,Any]⟩
 |_,_=>none
theorem GS (p:Int) (b:List Int) (z0:Int) (z1:Int) (z2:Int) (z3:Int) (z4:Int) (z5:Int) (z6:Int) (z7:Int) (z8:Int) (z9:Int) (zo:Bool) (hC:z3=0):aR [(18,fU No.U),(bn 18,cT)] Tryz.f7 [.one (.ptr 0 0),.one (.val (.int .i64 p)),.one (.sl none (.ints .u8 b))] [(0,.cells 42 [.val (.int .i64 z0),.val (.int .i64 z1),.val (.int .i64 z2),.val (.int .i64 z3),.val (.int .i64 z4),.val (.int .i64 z5),.val (.int .i64 z6),.val (.int .i64 z7),.val (.slice none 0 0),.val (.slice none 0 0),.val (.slice none 0 0),.val (.slice none 0 0),.val (.int .i64 z8),.val (.slice none 0 0),.val (.slice none 0 0),.val (.int .i64 z9),.val (.bool zo),.val (.slice none 0 0),.val (.slice none 0 0)])] ⟨z3=0,.sa (.one (.val (.slice none 0 0))),[(0,.cells 42 [.val (.int .i64 z0),.val (.int .i64 z1),.val (.int .i64 z2),.val (.int .i64 z3),.val (.int .i64 z4),.val (.int .i64 z5),.val (.int .i64 z6),.val (.int .i64 z7),.val (.slice none 0 0),.val (.slice none 0 0),.val (.slice none 0 0),.val (.slice none 0 0),.val (.int .i64 z8),.val (.slice none 0 0),.val (.slice none 0 0),.val (.int .i64 z9),.val (.bool zo),.val (.slice none 0 0),.val (.slice none 0 0)])],[.one (.ptr 0 0),Any,Any]⟩:=by
 intro b gv
 have hz:z3=0:=hC
 subst hz
 generalize hF:No.U=F at hC ⊢
 generalize hG0:CoN.Cn.U=G0 at hC ⊢
 generalize hG1:LkR.Ts.U=G1 at hC ⊢
 generalize hG2:FrR.Rs.U=G2 at hC ⊢
 generalize hG3:InK.Nf.U=G3 at hC ⊢
 generalize hA:Ar.U=A
 generalize hL:Lp _ _ _=L
 obtain⟨Z,zq⟩:=aH
 refine @aA _ _ _ _ _ _ _ (aa hL) _ _ zq rfl ?_
 repeat' (first|(refine ay zq ?_;try dsimp only)|refine ax zq ?_ (aa hL)|refine az zq ?_|refine aw ?_|refine aq ?_|refine au ?_|refine ar ?_|refine al rfl ?_|refine ai rfl ?_|refine aj rfl ?_|(refine Cd.mk ?_;cbv)|(refine aF.mk ?_;cbv)|(refine aK.mk ?_;cbv)|exact trivial|refine And.intro ?_ ?_|refine aZ fun _=>?_|refine ba fun _=>?_)
 all_goals first|(exfalso;clear hL zq Z;subst hA hF hG0 hG1 hG2 hG3;simp only [Ar.U] at * <;> grind [ah];done)|(show L _ _ _;skip)|(clear hL zq Z;subst hA hF hG0 hG1 hG2 hG3;simp only [No.U,CoN.Cn.U,LkR.Ts.U,FrR.Rs.U,InK.Nf.U,Ar.U,List.nil_append] at * <;> grind [ah];done)
theorem CF:aC Tryz.prog 7 (ir No.U):=by
 refine aD (af.keeps jr jH af.nil) Tryz.func7 rfl rfl fun xs h p hp=>?_
 unfold ir at hp
 split at hp
 ·cases hp
  exact⟨av rfl,fun hC _=>@GS _ _ _ _ _ _ _ _ _ _ _ _ _ hC⟩
 ·cases hp
theorem Cg:bY (ir No.U):=by
 intro xs h p hp
 unfold ir at hp
 split at hp
 ·cases hp
  rfl
 ·cases hp
def uK (F:No):aW:=hG (jk F) (ir F)
theorem wC:aC Tryz.prog 7 (uK No.U):=nb Cv CF
def jf (_:No):aW:=fun xs h=>match xs,h with
 |[.one (.val (.pointer none))],[]=>some ⟨True,.sa (.one (.val (.slice none 0 0))),[],[Any]⟩
 |_,_=>none
theorem Hj:aR [(18,iz No.U)] Tryz.f8 [.one (.val (.pointer none))] [] ⟨True,.sa (.one (.val (.slice none 0 0))),[],[Any]⟩:=by
 intro b gv
 generalize hF:No.U=F
 generalize hG0:CoN.Cn.U=G0
 generalize hG1:LkR.Ts.U=G1
 generalize hG2:FrR.Rs.U=G2
 generalize hG3:InK.Nf.U=G3
 generalize hA:Ar.U=A
 generalize hL:Lp _ _ _=L
 obtain⟨Z,zq⟩:=aH
 refine @aA _ _ _ _ _ _ _ (aa hL) _ _ zq rfl ?_
 repeat' (first|(refine ay zq ?_;try dsimp only)|refine ax zq ?_ (aa hL)|refine az zq ?_|refine aw ?_|refine aq ?_|refine au ?_|refine ar ?_|refine al rfl ?_|refine ai rfl ?_|refine aj rfl ?_|(refine Cd.mk ?_;cbv)|(refine aF.mk ?_;cbv)|(refine aK.mk ?_;cbv)|exact trivial|refine And.intro ?_ ?_|refine aZ fun _=>?_|refine ba fun _=>?_)
 all_goals first|(exfalso;clear hL zq Z;subst hA hF hG0 hG1 hG2 hG3;simp only [Ar.U] at * <;> grind [ah];done)|(show L _ _ _;skip)|(clear hL zq Z;subst hA hF hG0 hG1 hG2 hG3;simp only [No.U,CoN.Cn.U,LkR.Ts.U,FrR.Rs.U,InK.Nf.U,Ar.U,List.nil_append] at * <;> grind [ah];done)
theorem DC:aC Tryz.prog 8 (jf No.U):=by
 refine aD (af.cons jt af.nil rfl) Tryz.func8 rfl rfl fun xs h p hp=>?_
 unfold jf at hp
 split at hp
 ·cases hp
  exact⟨av rfl,fun _ _=>@Hj ⟩
 ·cases hp
def iS (_:No):aW:=fun xs h=>match xs,h with
 |[.one (.ptr 0 0)],[(0,.cells 42 [.val (.int .i64 z0),.val (.int .i64 z1),.val (.int .i64 z2),.val (.int .i64 z3),.val (.int .i64 z4),.val (.int .i64 z5),.val (.int .i64 z6),.val (.int .i64 z7),.val (.slice none 0 0),.val (.slice none 0 0),.val (.slice none 0 0),.val (.slice none 0 0),.val (.int .i64 z8),.val (.slice none 0 0),.val (.slice none 0 0),.val (.int .i64 z9),.val (.bool zo),.val (.slice none 0 0),.val (.slice none 0 0)])]=>some ⟨z3=0,.sa (.one (.val (.slice none 0 0))),[(0,.cells 42 [.val (.int .i64 z0),.val (.int .i64 z1),.val (.int .i64 z2),.val (.int .i64 z3),.val (.int .i64 z4),.val (.int .i64 z5),.val (.int .i64 z6),.val (.int .i64 z7),.val (.slice none 0 0),.val (.slice none 0 0),.val (.slice none 0 0),.val (.slice none 0 0),.val (.int .i64 z8),.val (.slice none 0 0),.val (.slice none 0 0),.val (.int .i64 z9),.val (.bool zo),.val (.slice none 0 0),.val (.slice none 0 0)])],[.one (.ptr 0 0)]⟩
 |_,_=>none
theorem Hw (z0:Int) (z1:Int) (z2:Int) (z3:Int) (z4:Int) (z5:Int) (z6:Int) (z7:Int) (z8:Int) (z9:Int) (zo:Bool) (hC:z3=0):aR [(18,fU No.U),(bn 18,cT)] Tryz.f8 [.one (.ptr 0 0)] [(0,.cells 42 [.val (.int .i64 z0),.val (.int .i64 z1),.val (.int .i64 z2),.val (.int .i64 z3),.val (.int .i64 z4),.val (.int .i64 z5),.val (.int .i64 z6),.val (.int .i64 z7),.val (.slice none 0 0),.val (.slice none 0 0),.val (.slice none 0 0),.val (.slice none 0 0),.val (.int .i64 z8),.val (.slice none 0 0),.val (.slice none 0 0),.val (.int .i64 z9),.val (.bool zo),.val (.slice none 0 0),.val (.slice none 0 0)])] ⟨z3=0,.sa (.one (.val (.slice none 0 0))),[(0,.cells 42 [.val (.int .i64 z0),.val (.int .i64 z1),.val (.int .i64 z2),.val (.int .i64 z3),.val (.int .i64 z4),.val (.int .i64 z5),.val (.int .i64 z6),.val (.int .i64 z7),.val (.slice none 0 0),.val (.slice none 0 0),.val (.slice none 0 0),.val (.slice none 0 0),.val (.int .i64 z8),.val (.slice none 0 0),.val (.slice none 0 0),.val (.int .i64 z9),.val (.bool zo),.val (.slice none 0 0),.val (.slice none 0 0)])],[.one (.ptr 0 0)]⟩:=by
 intro b gv
 have hz:z3=0:=hC
 subst hz
 generalize hF:No.U=F at hC ⊢
 generalize hG0:CoN.Cn.U=G0 at hC ⊢
 generalize hG1:LkR.Ts.U=G1 at hC ⊢
 generalize hG2:FrR.Rs.U=G2 at hC ⊢
 generalize hG3:InK.Nf.U=G3 at hC ⊢
 generalize hA:Ar.U=A
 generalize hL:Lp _ _ _=L
 obtain⟨Z,zq⟩:=aH
 refine @aA _ _ _ _ _ _ _ (aa hL) _ _ zq rfl ?_
 repeat' (first|(refine ay zq ?_;try dsimp only)|refine ax zq ?_ (aa hL)|refine az zq ?_|refine aw ?_|refine aq ?_|refine au ?_|refine ar ?_|refine al rfl ?_|refine ai rfl ?_|refine aj rfl ?_|(refine Cd.mk ?_;cbv)|(refine aF.mk ?_;cbv)|(refine aK.mk ?_;cbv)|exact trivial|refine And.intro ?_ ?_|refine aZ fun _=>?_|refine ba fun _=>?_)
 all_goals first|(exfalso;clear hL zq Z;subst hA hF hG0 hG1 hG2 hG3;simp only [Ar.U] at * <;> grind [ah];done)|(show L _ _ _;skip)|(clear hL zq Z;subst hA hF hG0 hG1 hG2 hG3;simp only [No.U,CoN.Cn.U,LkR.Ts.U,FrR.Rs.U,InK.Nf.U,Ar.U,List.nil_append] at * <;> grind [ah];done)
theorem CI:aC Tryz.prog 8 (iS No.U):=by
 refine aD (af.keeps jr jH af.nil) Tryz.func8 rfl rfl fun xs h p hp=>?_
 unfold iS at hp
 split at hp
 ·cases hp
  exact⟨av rfl,fun hC _=>@Hw _ _ _ _ _ _ _ _ _ _ _ hC⟩
 ·cases hp
theorem CZ:bY (iS No.U):=by
 intro xs h p hp
 unfold iS at hp
 split at hp
 ·cases hp
  rfl
 ·cases hp
def sJ (F:No):aW:=hG (jf F) (iS F)
theorem xz:aC Tryz.prog 8 (sJ No.U):=nb DC CI
def jj (_:No):aW:=fun xs h=>match xs,h with
 |[.one (.val (.pointer none))],[]=>some ⟨True,.sa (.agg [.val (.int .i64 0),.any,.any,.any,.any,.any,.any,.any,.any,.any,.any,.any,.any,.any]),[],[Any]⟩
 |_,_=>none
theorem Gk:aR [(18,iz No.U)] Tryz.f9 [.one (.val (.pointer none))] [] ⟨True,.sa (.agg [.val (.int .i64 0),.any,.any,.any,.any,.any,.any,.any,.any,.any,.any,.any,.any,.any]),[],[Any]⟩:=by
 intro b gv
 generalize hF:No.U=F
 generalize hG0:CoN.Cn.U=G0
 generalize hG1:LkR.Ts.U=G1
 generalize hG2:FrR.Rs.U=G2
 generalize hG3:InK.Nf.U=G3
 generalize hA:Ar.U=A
 generalize hL:Lp _ _ _=L
 obtain⟨Z,zq⟩:=aH
 refine @aA _ _ _ _ _ _ _ (aa hL) _ _ zq rfl ?_
 repeat' (first|(refine ay zq ?_;try dsimp only)|refine ax zq ?_ (aa hL)|refine az zq ?_|refine aw ?_|refine aq ?_|refine au ?_|refine ar ?_|refine al rfl ?_|refine ai rfl ?_|refine aj rfl ?_|(refine Cd.mk ?_;cbv)|(refine aF.mk ?_;cbv)|(refine aK.mk ?_;cbv)|exact trivial|refine And.intro ?_ ?_|refine aZ fun _=>?_|refine ba fun _=>?_)
 all_goals first|(exfalso;clear hL zq Z;subst hA hF hG0 hG1 hG2 hG3;simp only [Ar.U] at * <;> grind [ah];done)|(show L _ _ _;skip)|(clear hL zq Z;subst hA hF hG0 hG1 hG2 hG3;simp only [No.U,CoN.Cn.U,LkR.Ts.U,FrR.Rs.U,InK.Nf.U,Ar.U,List.nil_append] at * <;> grind [ah];done)
theorem DT:aC Tryz.prog 9 (jj No.U):=by
 refine aD (af.cons jt af.nil rfl) Tryz.func9 rfl rfl fun xs h p hp=>?_
 unfold jj at hp
 split at hp
 ·cases hp
  exact⟨av rfl,fun _ _=>@Gk ⟩
 ·cases hp
def jg (_:No):aW:=fun xs h=>match xs,h with
 |[.one (.ptr 0 0)],[(0,.cells 42 [.val (.int .i64 z0),.val (.int .i64 z1),.val (.int .i64 z2),.val (.int .i64 z3),.val (.int .i64 z4),.val (.int .i64 z5),.val (.int .i64 z6),.val (.int .i64 z7),.val (.slice none 0 0),.val (.slice none 0 0),.val (.slice none 0 0),.val (.slice none 0 0),.val (.int .i64 z8),.val (.slice none 0 0),.val (.slice none 0 0),.val (.int .i64 z9),.val (.bool zo),.val (.slice none 0 0),.val (.slice none 0 0)])]=>some ⟨z3=0,.sa (.agg [.val (.int .i64 0),.any,.any,.any,.any,.any,.any,.any,.any,.any,.any,.any,.any,.any]),[(0,.cells 42 [.val (.int .i64 z0),.val (.int .i64 z1),.val (.int .i64 z2),.val (.int .i64 z3),.val (.int .i64 z4),.val (.int .i64 z5),.val (.int .i64 z6),.val (.int .i64 z7),.val (.slice none 0 0),.val (.slice none 0 0),.val (.slice none 0 0),.val (.slice none 0 0),.val (.int .i64 z8),.val (.slice none 0 0),.val (.slice none 0 0),.val (.int .i64 z9),.val (.bool zo),.val (.slice none 0 0),.val (.slice none 0 0)])],[.one (.ptr 0 0)]⟩
 |_,_=>none
theorem Gd (z0:Int) (z1:Int) (z2:Int) (z3:Int) (z4:Int) (z5:Int) (z6:Int) (z7:Int) (z8:Int) (z9:Int) (zo:Bool) (hC:z3=0):aR [(18,fU No.U),(bn 18,cT)] Tryz.f9 [.one (.ptr 0 0)] [(0,.cells 42 [.val (.int .i64 z0),.val (.int .i64 z1),.val (.int .i64 z2),.val (.int .i64 z3),.val (.int .i64 z4),.val (.int .i64 z5),.val (.int .i64 z6),.val (.int .i64 z7),.val (.slice none 0 0),.val (.slice none 0 0),.val (.slice none 0 0),.val (.slice none 0 0),.val (.int .i64 z8),.val (.slice none 0 0),.val (.slice none 0 0),.val (.int .i64 z9),.val (.bool zo),.val (.slice none 0 0),.val (.slice none 0 0)])] ⟨z3=0,.sa (.agg [.val (.int .i64 0),.any,.any,.any,.any,.any,.any,.any,.any,.any,.any,.any,.any,.any]),[(0,.cells 42 [.val (.int .i64 z0),.val (.int .i64 z1),.val (.int .i64 z2),.val (.int .i64 z3),.val (.int .i64 z4),.val (.int .i64 z5),.val (.int .i64 z6),.val (.int .i64 z7),.val (.slice none 0 0),.val (.slice none 0 0),.val (.slice none 0 0),.val (.slice none 0 0),.val (.int .i64 z8),.val (.slice none 0 0),.val (.slice none 0 0),.val (.int .i64 z9),.val (.bool zo),.val (.slice none 0 0),.val (.slice none 0 0)])],[.one (.ptr 0 0)]⟩:=by
 intro b gv
 have hz:z3=0:=hC
 subst hz
 generalize hF:No.U=F at hC ⊢
 generalize hG0:CoN.Cn.U=G0 at hC ⊢
 generalize hG1:LkR.Ts.U=G1 at hC ⊢
 generalize hG2:FrR.Rs.U=G2 at hC ⊢
 generalize hG3:InK.Nf.U=G3 at hC ⊢
 generalize hA:Ar.U=A
 generalize hL:Lp _ _ _=L
 obtain⟨Z,zq⟩:=aH
 refine @aA _ _ _ _ _ _ _ (aa hL) _ _ zq rfl ?_
 repeat' (first|(refine ay zq ?_;try dsimp only)|refine ax zq ?_ (aa hL)|refine az zq ?_|refine aw ?_|refine aq ?_|refine au ?_|refine ar ?_|refine al rfl ?_|refine ai rfl ?_|refine aj rfl ?_|(refine Cd.mk ?_;cbv)|(refine aF.mk ?_;cbv)|(refine aK.mk ?_;cbv)|exact trivial|refine And.intro ?_ ?_|refine aZ fun _=>?_|refine ba fun _=>?_)
 all_goals first|(exfalso;clear hL zq Z;subst hA hF hG0 hG1 hG2 hG3;simp only [Ar.U] at * <;> grind [ah];done)|(show L _ _ _;skip)|(clear hL zq Z;subst hA hF hG0 hG1 hG2 hG3;simp only [No.U,CoN.Cn.U,LkR.Ts.U,FrR.Rs.U,InK.Nf.U,Ar.U,List.nil_append] at * <;> grind [ah];done)
theorem DV:aC Tryz.prog 9 (jg No.U):=by
 refine aD (af.keeps jr jH af.nil) Tryz.func9 rfl rfl fun xs h p hp=>?_
 unfold jg at hp
 split at hp
 ·cases hp
  exact⟨av rfl,fun hC _=>@Gd _ _ _ _ _ _ _ _ _ _ _ hC⟩
 ·cases hp
theorem Cy:bY (jg No.U):=by
 intro xs h p hp
 unfold jg at hp
 split at hp
 ·cases hp
  rfl
 ·cases hp
def uY (F:No):aW:=hG (jj F) (jg F)
theorem vh:aC Tryz.prog 9 (uY No.U):=nb DT DV
def pk (_:No):aW:=fun xs h=>match xs,h with
 |[.one (.val (.pointer none))],[]=>some ⟨True,.sa (.one (.val (.slice none 0 0))),[],[Any]⟩
 |_,_=>none
theorem Rp:aR [(18,iz No.U)] Tryz.f10 [.one (.val (.pointer none))] [] ⟨True,.sa (.one (.val (.slice none 0 0))),[],[Any]⟩:=by
 intro b gv
 generalize hF:No.U=F
 generalize hG0:CoN.Cn.U=G0
 generalize hG1:LkR.Ts.U=G1
 generalize hG2:FrR.Rs.U=G2
 generalize hG3:InK.Nf.U=G3
 generalize hA:Ar.U=A
 generalize hL:Lp _ _ _=L
 obtain⟨Z,zq⟩:=aH
 refine @aA _ _ _ _ _ _ _ (aa hL) _ _ zq rfl ?_
 repeat' (first|(refine ay zq ?_;try dsimp only)|refine ax zq ?_ (aa hL)|refine az zq ?_|refine aw ?_|refine aq ?_|refine au ?_|refine ar ?_|refine al rfl ?_|refine ai rfl ?_|refine aj rfl ?_|(refine Cd.mk ?_;cbv)|(refine aF.mk ?_;cbv)|(refine aK.mk ?_;cbv)|exact trivial|refine And.intro ?_ ?_|refine aZ fun _=>?_|refine ba fun _=>?_)
 all_goals first|(exfalso;clear hL zq Z;subst hA hF hG0 hG1 hG2 hG3;simp only [Ar.U] at * <;> grind [ah];done)|(show L _ _ _;skip)|(clear hL zq Z;subst hA hF hG0 hG1 hG2 hG3;simp only [No.U,CoN.Cn.U,LkR.Ts.U,FrR.Rs.U,InK.Nf.U,Ar.U,List.nil_append] at * <;> grind [ah];done)
theorem Lc:aC Tryz.prog 10 (pk No.U):=by
 refine aD (af.cons jt af.nil rfl) Tryz.func10 rfl rfl fun xs h p hp=>?_
 unfold pk at hp
 split at hp
 ·cases hp
  exact⟨av rfl,fun _ _=>@Rp ⟩
 ·cases hp
def pJ (_:No):aW:=fun xs h=>match xs,h with
 |[.one (.ptr 0 0)],[(0,.cells 42 [.val (.int .i64 z0),.val (.int .i64 z1),.val (.int .i64 z2),.val (.int .i64 z3),.val (.int .i64 z4),.val (.int .i64 z5),.val (.int .i64 z6),.val (.int .i64 z7),.val (.slice none 0 0),.val (.slice none 0 0),.val (.slice none 0 0),.val (.slice none 0 0),.val (.int .i64 z8),.val (.slice none 0 0),.val (.slice none 0 0),.val (.int .i64 z9),.val (.bool zo),.val (.slice none 0 0),.val (.slice none 0 0)])]=>some ⟨z3=0,.sa (.one (.val (.slice none 0 0))),[(0,.cells 42 [.val (.int .i64 z0),.val (.int .i64 z1),.val (.int .i64 z2),.val (.int .i64 z3),.val (.int .i64 z4),.val (.int .i64 z5),.val (.int .i64 z6),.val (.int .i64 z7),.val (.slice none 0 0),.val (.slice none 0 0),.val (.slice none 0 0),.val (.slice none 0 0),.val (.int .i64 z8),.val (.slice none 0 0),.val (.slice none 0 0),.val (.int .i64 z9),.val (.bool zo),.val (.slice none 0 0),.val (.slice none 0 0)])],[.one (.ptr 0 0)]⟩
 |_,_=>none
theorem QP (z0:Int) (z1:Int) (z2:Int) (z3:Int) (z4:Int) (z5:Int) (z6:Int) (z7:Int) (z8:Int) (z9:Int) (zo:Bool) (hC:z3=0):aR [(18,fU No.U),(bn 18,cT)] Tryz.f10 [.one (.ptr 0 0)] [(0,.cells 42 [.val (.int .i64 z0),.val (.int .i64 z1),.val (.int .i64 z2),.val (.int .i64 z3),.val (.int .i64 z4),.val (.int .i64 z5),.val (.int .i64 z6),.val (.int .i64 z7),.val (.slice none 0 0),.val (.slice none 0 0),.val (.slice none 0 0),.val (.slice none 0 0),.val (.int .i64 z8),.val (.slice none 0 0),.val (.slice none 0 0),.val (.int .i64 z9),.val (.bool zo),.val (.slice none 0 0),.val (.slice none 0 0)])] ⟨z3=0,.sa (.one (.val (.slice none 0 0))),[(0,.cells 42 [.val (.int .i64 z0),.val (.int .i64 z1),.val (.int .i64 z2),.val (.int .i64 z3),.val (.int .i64 z4),.val (.int .i64 z5),.val (.int .i64 z6),.val (.int .i64 z7),.val (.slice none 0 0),.val (.slice none 0 0),.val (.slice none 0 0),.val (.slice none 0 0),.val (.int .i64 z8),.val (.slice none 0 0),.val (.slice none 0 0),.val (.int .i64 z9),.val (.bool zo),.val (.slice none 0 0),.val (.slice none 0 0)])],[.one (.ptr 0 0)]⟩:=by
 intro b gv
 have hz:z3=0:=hC
 subst hz
 generalize hF:No.U=F at hC ⊢
 generalize hG0:CoN.Cn.U=G0 at hC ⊢
 generalize hG1:LkR.Ts.U=G1 at hC ⊢
 generalize hG2:FrR.Rs.U=G2 at hC ⊢
 generalize hG3:InK.Nf.U=G3 at hC ⊢
 generalize hA:Ar.U=A
 generalize hL:Lp _ _ _=L
 obtain⟨Z,zq⟩:=aH
 refine @aA _ _ _ _ _ _ _ (aa hL) _ _ zq rfl ?_
 repeat' (first|(refine ay zq ?_;try dsimp only)|refine ax zq ?_ (aa hL)|refine az zq ?_|refine aw ?_|refine aq ?_|refine au ?_|refine ar ?_|refine al rfl ?_|refine ai rfl ?_|refine aj rfl ?_|(refine Cd.mk ?_;cbv)|(refine aF.mk ?_;cbv)|(refine aK.mk ?_;cbv)|exact trivial|refine And.intro ?_ ?_|refine aZ fun _=>?_|refine ba fun _=>?_)
 all_goals first|(exfalso;clear hL zq Z;subst hA hF hG0 hG1 hG2 hG3;simp only [Ar.U] at * <;> grind [ah];done)|(show L _ _ _;skip)|(clear hL zq Z;subst hA hF hG0 hG1 hG2 hG3;simp only [No.U,CoN.Cn.U,LkR.Ts.U,FrR.Rs.U,InK.Nf.U,Ar.U,List.nil_append] at * <;> grind [ah];done)
theorem KP:aC Tryz.prog 10 (pJ No.U):=by
 refine aD (af.keeps jr jH af.nil) Tryz.func10 rfl rfl fun xs h p hp=>?_
 unfold pJ at hp
 split at hp
 ·cases hp
  exact⟨av rfl,fun hC _=>@QP _ _ _ _ _ _ _ _ _ _ _ hC⟩
 ·cases hp
theorem Lk:bY (pJ No.U):=by
 intro xs h p hp
 unfold pJ at hp
 split at hp
 ·cases hp
  rfl
 ·cases hp
def IK (F:No):aW:=hG (pk F) (pJ F)
theorem Fx:aC Tryz.prog 10 (IK No.U):=nb Lc KP
def sW (_:No):aW:=fun xs h=>match xs,h with
 |[.one (.own 0),.one (.val (.int .i64 _)),.one (.val (.func (.func 42) ⟨[]⟩ ⟨[]⟩))],[(0,.row 59 (.ae (.int .i64 (.int .i64 (.int .i64 (.int .i64 (.int .i64 (.bool (.int .i64 (.int .i64 (.ae (.ints .u8 .nil) (.int .i64 (.int .i64 (.bool (.int .i64 (.int .i64 .nil)))))))))))))) lk))]=>some ⟨lk=[],.bB [I 0,B false],[(0,.row 59 (.ae (.int .i64 (.int .i64 (.int .i64 (.int .i64 (.int .i64 (.bool (.int .i64 (.int .i64 (.ae (.ints .u8 .nil) (.int .i64 (.int .i64 (.bool (.int .i64 (.int .i64 .nil)))))))))))))) lk))],[.one (.own 0),Any,Any]⟩
 |_,_=>none
theorem Qp (p:Int) (lk:List E) (hC:lk=[]):aR [] Tryz.f41 [.one (.own 0),.one (.val (.int .i64 p)),.one (.val (.func (.func 42) ⟨[]⟩ ⟨[]⟩))] [(0,.row 59 (.ae (.int .i64 (.int .i64 (.int .i64 (.int .i64 (.int .i64 (.bool (.int .i64 (.int .i64 (.ae (.ints .u8 .nil) (.int .i64 (.int .i64 (.bool (.int .i64 (.int .i64 .nil)))))))))))))) lk))] ⟨lk=[],.bB [I 0,B false],[(0,.row 59 (.ae (.int .i64 (.int .i64 (.int .i64 (.int .i64 (.int .i64 (.bool (.int .i64 (.int .i64 (.ae (.ints .u8 .nil) (.int .i64 (.int .i64 (.bool (.int .i64 (.int .i64 .nil)))))))))))))) lk))],[.one (.own 0),Any,Any]⟩:=by
 intro b gv
 have h0:lk=[]:=hC
 subst h0
 have hfs:=af.nil
 generalize hF:No.U=F at hC hfs ⊢
 generalize hG0:CoN.Cn.U=G0 at hC hfs ⊢
 generalize hG1:LkR.Ts.U=G1 at hC hfs ⊢
 generalize hG2:FrR.Rs.U=G2 at hC hfs ⊢
 generalize hG3:InK.Nf.U=G3 at hC hfs ⊢
 generalize hA:Ar.U=A
 generalize hL:Lp _ _ _=L
 obtain⟨Z,zq⟩:=aH
 refine @aA _ _ _ _ _ _ _ (aa hL) _ _ zq rfl ?_
 repeat' (first|(refine ay zq ?_;try dsimp only)|refine ax zq ?_ (aa hL)|refine az zq ?_|refine aw ?_|refine aq ?_|refine au ?_|refine ar ?_|refine al rfl ?_|refine ai rfl ?_|refine aj rfl ?_|(refine Cd.mk ?_;cbv)|(refine aF.mk ?_;cbv)|(refine aK.mk ?_;cbv)|exact trivial|refine And.intro ?_ ?_|refine aZ fun _=>?_|refine ba fun _=>?_)
 all_goals first|(show L _ _ _;skip)|(clear hL zq Z;subst hA hF hG0 hG1 hG2 hG3;simp only [No.U,CoN.Cn.U,LkR.Ts.U,FrR.Rs.U,InK.Nf.U,Ar.U,List.nil_append] at * <;> grind [ah];done)
 subst hL
 refine bj (bo hfs) (zQ) (fun y=>bW Tryz.f41.ntmps [(0,.own 1),(8,.val (.int .i64 (A.dw []))),(9,.val (.int .i64 y.i)),(10,.val (.int .i64 (A.dw [])))] [(1,.row 59 (.ae (.int .i64 (.int .i64 (.int .i64 (.int .i64 (.int .i64 (.bool (.int .i64 (.int .i64 (.ae (.ints .u8 .nil) (.int .i64 (.int .i64 (.bool (.int .i64 (.int .i64 .nil)))))))))))))) []))] [.one (.own 1),Any,Any]) (zM) (sI 9) ⟨0⟩ ?_ ?_ ?_
 ·rfl
 ·cbv
  repeat' (first|exact trivial|exact rfl|refine And.intro ?_ ?_)
 rintro⟨i⟩ hq O hO
 have hi0:i=0:=hq
 subst hi0
 subst hA
 generalize hA:Ar.U=A
 generalize hL:Lp _ _ _=L
 refine aT zq ?_
 repeat' (first|(refine ay zq ?_;try dsimp only)|refine ax zq ?_ (aa hL)|refine az zq ?_|refine aw ?_|refine aq ?_|refine au ?_|refine ar ?_|refine al rfl ?_|refine ai rfl ?_|refine aj rfl ?_|(refine Cd.mk ?_;cbv)|(refine aF.mk ?_;cbv)|(refine aK.mk ?_;cbv)|exact trivial|refine And.intro ?_ ?_|refine aZ fun _=>?_|refine ba fun _=>?_)
 all_goals first|(show L _ _ _;skip)|(clear hL zq Z hq;subst hA hF hG0 hG1 hG2 hG3 hO;simp only [Ar.U] at * <;> grind [ah];done)
theorem Aq:aC Tryz.prog 41 (sW No.U):=by
 refine aD af.nil Tryz.func41 rfl rfl fun xs h p hp=>?_
 unfold sW at hp
 split at hp
 ·cases hp
  exact⟨av rfl,fun hC _=>@Qp _ _ hC⟩
 ·cases hp
theorem SI:bY (sW No.U):=by
 intro xs h p hp
 unfold sW at hp
 split at hp
 ·cases hp
  rfl
 ·cases hp
def HP (_:No):aW:=fun xs h=>match xs,h with
 |[.one (.ptr 0 0),.one (.val (.int .i64 _))],[(0,.cells 42 [.val (.int .i64 2147483647),.val (.int .i64 2147483647),.val (.int .i64 2147483647),.val (.int .i64 1),.val (.int .i64 1),.val (.int .i64 1),.val (.int .i64 1),.val (.int .i64 0),.sl none (.ae (.int .i64 (.int .i64 (.int .i64 (.int .i64 (.bool (.bool (.int .i64 .nil))))))) []),.sl none (.ints .i64 []),.sl none (.ints .i64 []),.sl none (.ae (.int .i64 (.int .i64 (.int .i64 (.int .i64 (.bool .nil))))) []),.val (.int .i64 4),.sl none (.ints .i64 [1]),.sl none (.ae (.int .i64 (.int .i64 (.int .i64 (.int .i64 (.bool .nil))))) []),.val (.int .i64 2147483647),.val (.bool false),.own 1,.val (.slice none 0 0)]),(1,.row 59 (.ae (.int .i64 (.int .i64 (.int .i64 (.int .i64 (.int .i64 (.bool (.int .i64 (.int .i64 (.ae (.ints .u8 .nil) (.int .i64 (.int .i64 (.bool (.int .i64 (.int .i64 .nil)))))))))))))) lk))]=>some ⟨lk=[],.bB [I 0,B false],[(0,.cells 42 [.val (.int .i64 2147483647),.val (.int .i64 2147483647),.val (.int .i64 2147483647),.val (.int .i64 1),.val (.int .i64 1),.val (.int .i64 1),.val (.int .i64 1),.val (.int .i64 0),.sl none (.ae (.int .i64 (.int .i64 (.int .i64 (.int .i64 (.bool (.bool (.int .i64 .nil))))))) []),.sl none (.ints .i64 []),.sl none (.ints .i64 []),.sl none (.ae (.int .i64 (.int .i64 (.int .i64 (.int .i64 (.bool .nil))))) []),.val (.int .i64 4),.sl none (.ints .i64 [1]),.sl none (.ae (.int .i64 (.int .i64 (.int .i64 (.int .i64 (.bool .nil))))) []),.val (.int .i64 2147483647),.val (.bool false),.own 1,.val (.slice none 0 0)]),(1,.row 59 (.ae (.int .i64 (.int .i64 (.int .i64 (.int .i64 (.int .i64 (.bool (.int .i64 (.int .i64 (.ae (.ints .u8 .nil) (.int .i64 (.int .i64 (.bool (.int .i64 (.int .i64 .nil)))))))))))))) lk))],[.one (.ptr 0 0),Any]⟩
 |_,_=>none
theorem XH (p:Int) (lk:List E) (hC:lk=[]):aR [(41,sW No.U),(bn 41,cT)] Tryz.f20 [.one (.ptr 0 0),.one (.val (.int .i64 p))] [(0,.cells 42 [.val (.int .i64 2147483647),.val (.int .i64 2147483647),.val (.int .i64 2147483647),.val (.int .i64 1),.val (.int .i64 1),.val (.int .i64 1),.val (.int .i64 1),.val (.int .i64 0),.sl none (.ae (.int .i64 (.int .i64 (.int .i64 (.int .i64 (.bool (.bool (.int .i64 .nil))))))) []),.sl none (.ints .i64 []),.sl none (.ints .i64 []),.sl none (.ae (.int .i64 (.int .i64 (.int .i64 (.int .i64 (.bool .nil))))) []),.val (.int .i64 4),.sl none (.ints .i64 [1]),.sl none (.ae (.int .i64 (.int .i64 (.int .i64 (.int .i64 (.bool .nil))))) []),.val (.int .i64 2147483647),.val (.bool false),.own 1,.val (.slice none 0 0)]),(1,.row 59 (.ae (.int .i64 (.int .i64 (.int .i64 (.int .i64 (.int .i64 (.bool (.int .i64 (.int .i64 (.ae (.ints .u8 .nil) (.int .i64 (.int .i64 (.bool (.int .i64 (.int .i64 .nil)))))))))))))) lk))] ⟨lk=[],.bB [I 0,B false],[(0,.cells 42 [.val (.int .i64 2147483647),.val (.int .i64 2147483647),.val (.int .i64 2147483647),.val (.int .i64 1),.val (.int .i64 1),.val (.int .i64 1),.val (.int .i64 1),.val (.int .i64 0),.sl none (.ae (.int .i64 (.int .i64 (.int .i64 (.int .i64 (.bool (.bool (.int .i64 .nil))))))) []),.sl none (.ints .i64 []),.sl none (.ints .i64 []),.sl none (.ae (.int .i64 (.int .i64 (.int .i64 (.int .i64 (.bool .nil))))) []),.val (.int .i64 4),.sl none (.ints .i64 [1]),.sl none (.ae (.int .i64 (.int .i64 (.int .i64 (.int .i64 (.bool .nil))))) []),.val (.int .i64 2147483647),.val (.bool false),.own 1,.val (.slice none 0 0)]),(1,.row 59 (.ae (.int .i64 (.int .i64 (.int .i64 (.int .i64 (.int .i64 (.bool (.int .i64 (.int .i64 (.ae (.ints .u8 .nil) (.int .i64 (.int .i64 (.bool (.int .i64 (.int .i64 .nil)))))))))))))) lk))],[.one (.ptr 0 0),Any]⟩:=by
 intro b gv
 have h0:lk=[]:=hC
 subst h0
 generalize hF:No.U=F at hC ⊢
 generalize hG0:CoN.Cn.U=G0 at hC ⊢
 generalize hG1:LkR.Ts.U=G1 at hC ⊢
 generalize hG2:FrR.Rs.U=G2 at hC ⊢
 generalize hG3:InK.Nf.U=G3 at hC ⊢
 generalize hA:Ar.U=A
 generalize hL:Lp _ _ _=L
 obtain⟨Z,zq⟩:=aH
 refine @aA _ _ _ _ _ _ _ (aa hL) _ _ zq rfl ?_
 repeat' (first|(refine ay zq ?_;try dsimp only)|refine ax zq ?_ (aa hL)|refine az zq ?_|refine aw ?_|refine aq ?_|refine au ?_|refine ar ?_|refine al rfl ?_|refine ai rfl ?_|refine aj rfl ?_|(refine Cd.mk ?_;cbv)|(refine aF.mk ?_;cbv)|(refine aK.mk ?_;cbv)|exact trivial|refine And.intro ?_ ?_|refine aZ fun _=>?_|refine ba fun _=>?_)
 all_goals first|(show L _ _ _;skip)|(clear hL zq Z;subst hA hF hG0 hG1 hG2 hG3;simp only [No.U,CoN.Cn.U,LkR.Ts.U,FrR.Rs.U,InK.Nf.U,Ar.U,List.nil_append] at * <;> grind [ah];done)
theorem NV:aC Tryz.prog 20 (HP No.U):=by
 refine aD (af.keeps Aq SI af.nil) Tryz.func20 rfl rfl fun xs h p hp=>?_
 unfold HP at hp
 split at hp
 ·cases hp
  exact⟨av rfl,fun hC _=>@XH _ _ hC⟩
 ·cases hp
theorem Nu:bY (HP No.U):=by
 intro xs h p hp
 unfold HP at hp
 split at hp
 ·cases hp
  rfl
 ·cases hp
def FA (_:No):aW:=fun xs h=>match xs,h with
 |[.agg [.val (.int .i64 _),.val (.int .i64 _),.val (.int .i64 _),.val (.int .i64 _),.val (.int .i64 _),.val (.bool v_xo),.val (.int .i64 _),.val (.int .i64 _),.sl none (.ae (.ints .u8 .nil) _),.val (.int .i64 _),.val (.int .i64 _),.val (.bool _),.val (.int .i64 _),.val (.int .i64 _)]],[]=>some ⟨True,.sa (B v_xo),[],[Any]⟩
 |_,_=>none
theorem SO (v_h:Int) (v_g:Int) (v_xl:Int) (v_xc:Int) (v_xp:Int) (v_xo:Bool) (v_xb:Int) (v_xs:Int) (v_xq:List E) (v_xt:Int) (v_xn:Int) (v_xw:Bool) (v_u:Int) (v_v:Int):aR [] Tryz.f52 [.agg [.val (.int .i64 v_h),.val (.int .i64 v_g),.val (.int .i64 v_xl),.val (.int .i64 v_xc),.val (.int .i64 v_xp),.val (.bool v_xo),.val (.int .i64 v_xb),.val (.int .i64 v_xs),.sl none (.ae (.ints .u8 .nil) v_xq),.val (.int .i64 v_xt),.val (.int .i64 v_xn),.val (.bool v_xw),.val (.int .i64 v_u),.val (.int .i64 v_v)]] [] ⟨True,.sa (B v_xo),[],[Any]⟩:=by
 intro b gv
 generalize hF:No.U=F
 generalize hG0:CoN.Cn.U=G0
 generalize hG1:LkR.Ts.U=G1
 generalize hG2:FrR.Rs.U=G2
 generalize hG3:InK.Nf.U=G3
 generalize hA:Ar.U=A
 generalize hL:Lp _ _ _=L
 obtain⟨Z,zq⟩:=aH
 refine @aA _ _ _ _ _ _ _ (aa hL) _ _ zq rfl ?_
 repeat' (first|(refine ay zq ?_;try dsimp only)|refine ax zq ?_ (aa hL)|refine az zq ?_|refine aw ?_|refine aq ?_|refine au ?_|refine ar ?_|refine al rfl ?_|refine ai rfl ?_|refine aj rfl ?_|(refine Cd.mk ?_;cbv)|(refine aF.mk ?_;cbv)|(refine aK.mk ?_;cbv)|exact trivial|refine And.intro ?_ ?_|refine aZ fun _=>?_|refine ba fun _=>?_)
 all_goals first|(show L _ _ _;skip)|(clear hL zq Z;subst hA hF hG0 hG1 hG2 hG3;simp only [No.U,CoN.Cn.U,LkR.Ts.U,FrR.Rs.U,InK.Nf.U,Ar.U,List.nil_append,kS,ji,iJ,cV,nN,fL,ij,dz,eT,iq] at * <;> grind [ah];done)
theorem Ik:aC Tryz.prog 52 (FA No.U):=by
 refine aD af.nil Tryz.func52 rfl rfl fun xs h p hp=>?_
 unfold FA at hp
 split at hp
 ·cases hp
  exact⟨av rfl,fun _ _=>@SO _ _ _ _ _ _ _ _ _ _ _ _ _ _⟩
 ·cases hp
def wu (F:No):aW:=fun xs h=>match xs,h with
 |[.one (.own 0),.one (.val (.func (.func 52) ⟨[]⟩ ⟨[]⟩))],[(0,.row 59 (.ae (.int .i64 (.int .i64 (.int .i64 (.int .i64 (.int .i64 (.bool (.int .i64 (.int .i64 (.ae (.ints .u8 .nil) (.int .i64 (.int .i64 (.bool (.int .i64 (.int .i64 .nil)))))))))))))) lk))]=>some ⟨lk=[F.vv],.sa (.one (.val (.int .i64 (-1)))),[(0,.row 59 (.ae (.int .i64 (.int .i64 (.int .i64 (.int .i64 (.int .i64 (.bool (.int .i64 (.int .i64 (.ae (.ints .u8 .nil) (.int .i64 (.int .i64 (.bool (.int .i64 (.int .i64 .nil)))))))))))))) lk))],[.one (.own 0),Any]⟩
 |_,_=>none
theorem SM (lk:List E) (hC:lk=[No.U.vv]):aR [(52,FA No.U)] Tryz.f90 [.one (.own 0),.one (.val (.func (.func 52) ⟨[]⟩ ⟨[]⟩))] [(0,.row 59 (.ae (.int .i64 (.int .i64 (.int .i64 (.int .i64 (.int .i64 (.bool (.int .i64 (.int .i64 (.ae (.ints .u8 .nil) (.int .i64 (.int .i64 (.bool (.int .i64 (.int .i64 .nil)))))))))))))) lk))] ⟨lk=[No.U.vv],.sa (.one (.val (.int .i64 (-1)))),[(0,.row 59 (.ae (.int .i64 (.int .i64 (.int .i64 (.int .i64 (.int .i64 (.bool (.int .i64 (.int .i64 (.ae (.ints .u8 .nil) (.int .i64 (.int .i64 (.bool (.int .i64 (.int .i64 .nil)))))))))))))) lk))],[.one (.own 0),Any]⟩:=by
 intro b gv
 have h1:lk=[nF]:=hC
 have hfs:=(af.cons Ik af.nil rfl)
 generalize hF:No.U=F at hC hfs ⊢
 generalize hG0:CoN.Cn.U=G0 at hC hfs ⊢
 generalize hG1:LkR.Ts.U=G1 at hC hfs ⊢
 generalize hG2:FrR.Rs.U=G2 at hC hfs ⊢
 generalize hG3:InK.Nf.U=G3 at hC hfs ⊢
 generalize hA:Ar.U=A
 generalize hL:Lp _ _ _=L
 obtain⟨Z,zq⟩:=aH
 refine @aA _ _ _ _ _ _ _ (aa hL) _ _ zq rfl ?_
 repeat' (first|(refine ay zq ?_;try dsimp only)|refine ax zq ?_ (aa hL)|refine az zq ?_|refine aw ?_|refine aq ?_|refine au ?_|refine ar ?_|refine al rfl ?_|refine ai rfl ?_|refine aj rfl ?_|(refine Cd.mk ?_;cbv)|(refine aF.mk ?_;cbv)|(refine aK.mk ?_;cbv)|exact trivial|refine And.intro ?_ ?_|refine aZ fun _=>?_|refine ba fun _=>?_)
 all_goals first|(show L _ _ _;skip)|(clear hL zq Z hfs;subst hA hF hG0 hG1 hG2 hG3 h1;simp only [No.U,CoN.Cn.U,LkR.Ts.U,FrR.Rs.U,InK.Nf.U,Ar.U,List.nil_append,kS,ji,iJ,cV,nN,fL,ij,dz,eT,iq] at * <;> grind [ah];done)
 subst hL
 refine bj (bo hfs) (oQ) (fun y=>bW Tryz.f90.ntmps [(0,.own 1),(1,.val (.func (.func 52) ⟨[]⟩ ⟨[]⟩)),(7,.val (.int .i64 (A.dw lk))),(8,.val (.int .i64 y.i))] [(1,.row 59 (.ae (.int .i64 (.int .i64 (.int .i64 (.int .i64 (.int .i64 (.bool (.int .i64 (.int .i64 (.ae (.ints .u8 .nil) (.int .i64 (.int .i64 (.bool (.int .i64 (.int .i64 .nil)))))))))))))) lk))] [.one (.own 1),Any]) (oM) (sI 8) ⟨0⟩ ?_ ?_ ?_
 ·exact .inl rfl
 ·cbv
  repeat' (first|exact trivial|exact rfl|refine And.intro ?_ ?_)
 rintro⟨i⟩ hq O hO
 have hcase:i=0∨i=1:=hq
 have hl9:=Fv
 have hq9:=NS
 have ha9:=Iy
 subst hA
 generalize hA:Ar.U=A
 generalize hL:Lp _ _ _=L
 refine aT zq ?_
 repeat' (first|(refine ay zq ?_;try dsimp only)|refine ax zq ?_ (aa hL)|refine az zq ?_|refine aw ?_|refine aq ?_|refine au ?_|refine ar ?_|refine al rfl ?_|refine ai rfl ?_|refine aj rfl ?_|(refine Cd.mk ?_;cbv)|(refine aF.mk ?_;cbv)|(refine aK.mk ?_;cbv)|exact trivial|refine And.intro ?_ ?_|refine aZ fun _=>?_|refine ba fun _=>?_)
 all_goals (rcases hcase with hi|hi <;> subst hi)
 all_goals first|(show L _ _ _;skip)|(clear hL zq Z hq hfs;subst hA hF hG0 hG1 hG2 hG3 hO h1;simp only [No.U,Ar.U,kS] at * <;> grind [ah];done)
theorem GJ:aC Tryz.prog 90 (wu No.U):=by
 refine aD (af.cons Ik af.nil rfl) Tryz.func90 rfl rfl fun xs h p hp=>?_
 unfold wu at hp
 split at hp
 ·cases hp
  exact⟨av rfl,fun hC _=>@SM _ hC⟩
 ·cases hp
theorem FH:bY (wu No.U):=by
 intro xs h p hp
 unfold wu at hp
 split at hp
 ·cases hp
  rfl
 ·cases hp
def wm (F:No):aW:=fun xs h=>match xs,h with
 |[.one (.own 0),.one (.val (.func (.func 52) ⟨[]⟩ ⟨[]⟩))],[(0,.row 59 (.ae (.int .i64 (.int .i64 (.int .i64 (.int .i64 (.int .i64 (.bool (.int .i64 (.int .i64 (.ae (.ints .u8 .nil) (.int .i64 (.int .i64 (.bool (.int .i64 (.int .i64 .nil)))))))))))))) lk))]=>some ⟨lk=[F.vv],.sa (B false),[(0,.row 59 (.ae (.int .i64 (.int .i64 (.int .i64 (.int .i64 (.int .i64 (.bool (.int .i64 (.int .i64 (.ae (.ints .u8 .nil) (.int .i64 (.int .i64 (.bool (.int .i64 (.int .i64 .nil)))))))))))))) lk))],[.one (.own 0),Any]⟩
 |_,_=>none
theorem UB (lk:List E) (hC:lk=[No.U.vv]):aR [(90,wu No.U),(bn 90,cT)] Tryz.f53 [.one (.own 0),.one (.val (.func (.func 52) ⟨[]⟩ ⟨[]⟩))] [(0,.row 59 (.ae (.int .i64 (.int .i64 (.int .i64 (.int .i64 (.int .i64 (.bool (.int .i64 (.int .i64 (.ae (.ints .u8 .nil) (.int .i64 (.int .i64 (.bool (.int .i64 (.int .i64 .nil)))))))))))))) lk))] ⟨lk=[No.U.vv],.sa (B false),[(0,.row 59 (.ae (.int .i64 (.int .i64 (.int .i64 (.int .i64 (.int .i64 (.bool (.int .i64 (.int .i64 (.ae (.ints .u8 .nil) (.int .i64 (.int .i64 (.bool (.int .i64 (.int .i64 .nil)))))))))))))) lk))],[.one (.own 0),Any]⟩:=by
 intro b gv
 have h1:lk=[nF]:=hC
 have hfs:=(af.keeps GJ FH af.nil)
 generalize hF:No.U=F at hC hfs ⊢
 generalize hG0:CoN.Cn.U=G0 at hC hfs ⊢
 generalize hG1:LkR.Ts.U=G1 at hC hfs ⊢
 generalize hG2:FrR.Rs.U=G2 at hC hfs ⊢
 generalize hG3:InK.Nf.U=G3 at hC hfs ⊢
 generalize hA:Ar.U=A
 generalize hL:Lp _ _ _=L
 obtain⟨Z,zq⟩:=aH
 refine @aA _ _ _ _ _ _ _ (aa hL) _ _ zq rfl ?_
 repeat' (first|(refine ay zq ?_;try dsimp only)|refine ax zq ?_ (aa hL)|refine az zq ?_|refine aw ?_|refine aq ?_|refine au ?_|refine ar ?_|refine al rfl ?_|refine ai rfl ?_|refine aj rfl ?_|(refine Cd.mk ?_;cbv)|(refine aF.mk ?_;cbv)|(refine aK.mk ?_;cbv)|exact trivial|refine And.intro ?_ ?_|refine aZ fun _=>?_|refine ba fun _=>?_)
 all_goals first|(show L _ _ _;skip)|(clear hL zq Z hfs;subst hA hF hG0 hG1 hG2 hG3 h1;simp only [No.U,Ar.U] at * <;> grind [ah];done)
theorem FB:aC Tryz.prog 53 (wm No.U):=by
 refine aD (af.keeps GJ FH af.nil) Tryz.func53 rfl rfl fun xs h p hp=>?_
 unfold wm at hp
 split at hp
 ·cases hp
  exact⟨av rfl,fun hC _=>@UB _ hC⟩
 ·cases hp
theorem Gp:bY (wm No.U):=by
 intro xs h p hp
 unfold wm at hp
 split at hp
 ·cases hp
  rfl
 ·cases hp
def yn (F:No):aW:=fun xs h=>match xs,h with
 |[.one (.ptr 0 0),.one (.val (.int .i64 to)),.one (.sl none (.ae (.int .i64 (.int .i64 (.int .i64 (.int .i64 (.ints .u8 .nil))))) fs))],[(0,.cells 76 [.ptr 1 0,.sl (some (3,102)) (.ae (.int .i64 (.int .i64 (.ints .u8 (.bool .nil)))) out),.val (.slice none 0 0)]),(1,.cells 42 [.val (.int .i64 2147483647),.val (.int .i64 2147483647),.val (.int .i64 2147483647),.val (.int .i64 1),.val (.int .i64 1),.val (.int .i64 1),.val (.int .i64 1),.val (.int .i64 0),.sl none (.ae (.int .i64 (.int .i64 (.int .i64 (.int .i64 (.bool (.bool (.int .i64 .nil))))))) []),.sl none (.ints .i64 []),.sl none (.ints .i64 []),.sl none (.ae (.int .i64 (.int .i64 (.int .i64 (.int .i64 (.bool .nil))))) []),.val (.int .i64 4),.sl none (.ints .i64 [1]),.sl none (.ae (.int .i64 (.int .i64 (.int .i64 (.int .i64 (.bool .nil))))) []),.val (.int .i64 2147483647),.val (.bool false),.own 2,.val (.slice none 0 0)]),(2,.row 59 (.ae (.int .i64 (.int .i64 (.int .i64 (.int .i64 (.int .i64 (.bool (.int .i64 (.int .i64 (.ae (.ints .u8 .nil) (.int .i64 (.int .i64 (.bool (.int .i64 (.int .i64 .nil)))))))))))))) lk)),(3,.tok)]=>some ⟨F.Ql fs out to=true,.bB [],[(0,.cells 76 [.ptr 1 0,.sl (some (3,102)) (.ae (.int .i64 (.int .i64 (.ints .u8 (.bool .nil)))) (F.IB out fs)),.val (.slice none 0 0)]),(1,.cells 42 [.val (.int .i64 2147483647),.val (.int .i64 2147483647),.val (.int .i64 2147483647),.val (.int .i64 1),.val (.int .i64 1),.val (.int .i64 1),.val (.int .i64 1),.val (.int .i64 0),.sl none (.ae (.int .i64 (.int .i64 (.int .i64 (.int .i64 (.bool (.bool (.int .i64 .nil))))))) []),.sl none (.ints .i64 []),.sl none (.ints .i64 []),.sl none (.ae (.int .i64 (.int .i64 (.int .i64 (.int .i64 (.bool .nil))))) []),.val (.int .i64 4),.sl none (.ints .i64 [1]),.sl none (.ae (.int .i64 (.int .i64 (.int .i64 (.int .i64 (.bool .nil))))) []),.val (.int .i64 2147483647),.val (.bool false),.own 2,.val (.slice none 0 0)]),(2,.row 59 (.ae (.int .i64 (.int .i64 (.int .i64 (.int .i64 (.int .i64 (.bool (.int .i64 (.int .i64 (.ae (.ints .u8 .nil) (.int .i64 (.int .i64 (.bool (.int .i64 (.int .i64 .nil)))))))))))))) lk)),(3,.tok)],[.one (.ptr 0 0),Any,Any,.one (.ptr 1 0),.one (.own 2)]⟩
 |_,_=>none
theorem Ro (to:Int) (fs:List E) (lk:List E) (out:List E) (hC:No.U.Ql fs out to=true):aR [(82,qq FrR.Rs.U)] Tryz.f47 [.one (.ptr 0 0),.one (.val (.int .i64 to)),.one (.sl none (.ae (.int .i64 (.int .i64 (.int .i64 (.int .i64 (.ints .u8 .nil))))) fs))] [(0,.cells 76 [.ptr 1 0,.sl (some (3,102)) (.ae (.int .i64 (.int .i64 (.ints .u8 (.bool .nil)))) out),.val (.slice none 0 0)]),(1,.cells 42 [.val (.int .i64 2147483647),.val (.int .i64 2147483647),.val (.int .i64 2147483647),.val (.int .i64 1),.val (.int .i64 1),.val (.int .i64 1),.val (.int .i64 1),.val (.int .i64 0),.sl none (.ae (.int .i64 (.int .i64 (.int .i64 (.int .i64 (.bool (.bool (.int .i64 .nil))))))) []),.sl none (.ints .i64 []),.sl none (.ints .i64 []),.sl none (.ae (.int .i64 (.int .i64 (.int .i64 (.int .i64 (.bool .nil))))) []),.val (.int .i64 4),.sl none (.ints .i64 [1]),.sl none (.ae (.int .i64 (.int .i64 (.int .i64 (.int .i64 (.bool .nil))))) []),.val (.int .i64 2147483647),.val (.bool false),.own 2,.val (.slice none 0 0)]),(2,.row 59 (.ae (.int .i64 (.int .i64 (.int .i64 (.int .i64 (.int .i64 (.bool (.int .i64 (.int .i64 (.ae (.ints .u8 .nil) (.int .i64 (.int .i64 (.bool (.int .i64 (.int .i64 .nil)))))))))))))) lk)),(3,.tok)] ⟨No.U.Ql fs out to=true,.bB [],[(0,.cells 76 [.ptr 1 0,.sl (some (3,102)) (.ae (.int .i64 (.int .i64 (.ints .u8 (.bool .nil)))) (No.U.IB out fs)),.val (.slice none 0 0)]),(1,.cells 42 [.val (.int .i64 2147483647),.val (.int .i64 2147483647),.val (.int .i64 2147483647),.val (.int .i64 1),.val (.int .i64 1),.val (.int .i64 1),.val (.int .i64 1),.val (.int .i64 0),.sl none (.ae (.int .i64 (.int .i64 (.int .i64 (.int .i64 (.bool (.bool (.int .i64 .nil))))))) []),.sl none (.ints .i64 []),.sl none (.ints .i64 []),.sl none (.ae (.int .i64 (.int .i64 (.int .i64 (.int .i64 (.bool .nil))))) []),.val (.int .i64 4),.sl none (.ints .i64 [1]),.sl none (.ae (.int .i64 (.int .i64 (.int .i64 (.int .i64 (.bool .nil))))) []),.val (.int .i64 2147483647),.val (.bool false),.own 2,.val (.slice none 0 0)]),(2,.row 59 (.ae (.int .i64 (.int .i64 (.int .i64 (.int .i64 (.int .i64 (.bool (.int .i64 (.int .i64 (.ae (.ints .u8 .nil) (.int .i64 (.int .i64 (.bool (.int .i64 (.int .i64 .nil)))))))))))))) lk)),(3,.tok)],[.one (.ptr 0 0),Any,Any,.one (.ptr 1 0),.one (.own 2)]⟩:=by
 intro b gv
 have hs9:=TH (show RV fs out to=true from hC)
 have hfs:=(af.cons rH af.nil rfl)
 generalize hF:No.U=F at hC hfs ⊢
 generalize hG0:CoN.Cn.U=G0 at hC hfs ⊢
 generalize hG1:LkR.Ts.U=G1 at hC hfs ⊢
 generalize hG2:FrR.Rs.U=G2 at hC hfs ⊢
 generalize hG3:InK.Nf.U=G3 at hC hfs ⊢
 generalize hA:Ar.U=A
 generalize hL:Lp _ _ _=L
 obtain⟨Z,zq⟩:=aH
 refine @aA _ _ _ _ _ _ _ (aa hL) _ _ zq rfl ?_
 repeat' (first|(refine ay zq ?_;try dsimp only)|refine ax zq ?_ (aa hL)|refine az zq ?_|refine aw ?_|refine aq ?_|refine au ?_|refine ar ?_|refine al rfl ?_|refine ai rfl ?_|refine aj rfl ?_|(refine Cd.mk ?_;cbv)|(refine aF.mk ?_;cbv)|(refine aK.mk ?_;cbv)|exact trivial|refine And.intro ?_ ?_|refine aZ fun _=>?_|refine ba fun _=>?_)
 all_goals first|(show L _ _ _;skip)|(clear hL zq Z hfs;subst hA hF hG0 hG1 hG2 hG3;simp only [No.U,CoN.Cn.U,LkR.Ts.U,FrR.Rs.U,InK.Nf.U,Ar.U,List.nil_append,kS,ji,iJ,cV,nN,fL,ij,dz,eT,iq] at * <;> grind [ah];done)
 subst hL
 refine bj (bo hfs) (sQ out fs) (fun y=>bW Tryz.f47.ntmps [(0,.ptr 1 0),(1,.val (.int .i64 to)),(10,.sl none (.ae (.int .i64 (.int .i64 (.int .i64 (.int .i64 (.ints .u8 .nil))))) fs)),(11,.val (.int .i64 (A.dw fs))),(12,.val (.int .i64 y.i))] [(1,.cells 76 [.ptr 2 0,.sl (some (4,102)) (.ae (.int .i64 (.int .i64 (.ints .u8 (.bool .nil)))) y.o),.val (.slice none 0 0)]),(2,.cells 42 [.val (.int .i64 2147483647),.val (.int .i64 2147483647),.val (.int .i64 2147483647),.val (.int .i64 1),.val (.int .i64 1),.val (.int .i64 1),.val (.int .i64 1),.val (.int .i64 0),.sl none (.ae (.int .i64 (.int .i64 (.int .i64 (.int .i64 (.bool (.bool (.int .i64 .nil))))))) []),.sl none (.ints .i64 []),.sl none (.ints .i64 []),.sl none (.ae (.int .i64 (.int .i64 (.int .i64 (.int .i64 (.bool .nil))))) []),.val (.int .i64 4),.sl none (.ints .i64 [1]),.sl none (.ae (.int .i64 (.int .i64 (.int .i64 (.int .i64 (.bool .nil))))) []),.val (.int .i64 2147483647),.val (.bool false),.own 3,.val (.slice none 0 0)]),(3,.row 59 (.ae (.int .i64 (.int .i64 (.int .i64 (.int .i64 (.int .i64 (.bool (.int .i64 (.int .i64 (.ae (.ints .u8 .nil) (.int .i64 (.int .i64 (.bool (.int .i64 (.int .i64 .nil)))))))))))))) lk)),(4,.tok)] [.one (.ptr 1 0),Any,Any,.one (.ptr 2 0),.one (.own 3)]) (sM) (sR 12) ⟨0,out⟩ ?_ ?_ ?_
 ·exact .inl ⟨rfl,rfl⟩
 ·cbv
  repeat' (first|exact trivial|exact rfl|refine And.intro ?_ ?_)
 rintro⟨i,o⟩ hq O hO
 have hst:=UM hs9 hq
 have hfe:=fun f t=>show fE f t=[D.int 1,D.int t,D.ints (qX (ri f 0) (ri f 1) (ri f 2) (ri f 3) (rl f 4)),D.bool false] from rfl
 subst hA
 generalize hA:Ar.U=A
 generalize hL:Lp _ _ _=L
 refine aT zq ?_
 repeat' (first|(refine ay zq ?_;try dsimp only)|refine ax zq ?_ (aa hL)|refine az zq ?_|refine aw ?_|refine aq ?_|refine au ?_|refine ar ?_|refine al rfl ?_|refine ai rfl ?_|refine aj rfl ?_|(refine Cd.mk ?_;cbv)|(refine aF.mk ?_;cbv)|(refine aK.mk ?_;cbv)|exact trivial|refine And.intro ?_ ?_|refine aZ fun _=>?_|refine ba fun _=>?_)
 all_goals first|(show L _ _ _;skip)|(clear hL zq Z hq hfs;subst hA hF hG0 hG1 hG2 hG3 hO;simp only [No.U,FrR.Rs.U,Ar.U] at * <;> grind [ah];done)
theorem Ax:aC Tryz.prog 47 (yn No.U):=by
 refine aD (af.cons rH af.nil rfl) Tryz.func47 rfl rfl fun xs h p hp=>?_
 unfold yn at hp
 split at hp
 ·cases hp
  exact⟨av rfl,fun hC _=>@Ro _ _ _ _ hC⟩
 ·cases hp
theorem u_send (F:No):(Ry.look [(47,yn F)] 1).isSome=false:=by
  cbv
def tP (F:No):aW:=fun xs h=>match xs,h with
 |[.one (.ptr 0 0),.one (.val (.int .i64 _)),.one (.sl none (.ae (.int .i64 (.int .i64 (.int .i64 (.int .i64 (.ints .u8 .nil))))) fs))],[(0,.cells 76 [.ptr 1 0,.sl (some (3,102)) (.ae (.int .i64 (.int .i64 (.ints .u8 (.bool .nil)))) out),.val (.slice none 0 0)]),(1,.cells 42 [.val (.int .i64 2147483647),.val (.int .i64 2147483647),.val (.int .i64 2147483647),.val (.int .i64 1),.val (.int .i64 1),.val (.int .i64 1),.val (.int .i64 1),.val (.int .i64 0),.sl none (.ae (.int .i64 (.int .i64 (.int .i64 (.int .i64 (.bool (.bool (.int .i64 .nil))))))) []),.sl none (.ints .i64 []),.sl none (.ints .i64 []),.sl none (.ae (.int .i64 (.int .i64 (.int .i64 (.int .i64 (.bool .nil))))) []),.val (.int .i64 4),.sl none (.ints .i64 [1]),.sl none (.ae (.int .i64 (.int .i64 (.int .i64 (.int .i64 (.bool .nil))))) []),.val (.int .i64 2147483647),.val (.bool false),.own 2,.val (.slice none 0 0)]),(2,.row 59 (.ae (.int .i64 (.int .i64 (.int .i64 (.int .i64 (.int .i64 (.bool (.int .i64 (.int .i64 (.ae (.ints .u8 .nil) (.int .i64 (.int .i64 (.bool (.int .i64 (.int .i64 .nil)))))))))))))) lk)),(3,.tok)]=>some ⟨F.Fu fs=true,.bB [],[(0,.cells 76 [.ptr 1 0,.sl (some (3,102)) (.ae (.int .i64 (.int .i64 (.ints .u8 (.bool .nil)))) out),.val (.slice none 0 0)]),(1,.cells 42 [.val (.int .i64 2147483647),.val (.int .i64 2147483647),.val (.int .i64 2147483647),.val (.int .i64 1),.val (.int .i64 1),.val (.int .i64 1),.val (.int .i64 1),.val (.int .i64 0),.sl none (.ae (.int .i64 (.int .i64 (.int .i64 (.int .i64 (.bool (.bool (.int .i64 .nil))))))) []),.sl none (.ints .i64 []),.sl none (.ints .i64 []),.sl none (.ae (.int .i64 (.int .i64 (.int .i64 (.int .i64 (.bool .nil))))) []),.val (.int .i64 4),.sl none (.ints .i64 [1]),.sl none (.ae (.int .i64 (.int .i64 (.int .i64 (.int .i64 (.bool .nil))))) []),.val (.int .i64 2147483647),.val (.bool false),.own 2,.val (.slice none 0 0)]),(2,.row 59 (.ae (.int .i64 (.int .i64 (.int .i64 (.int .i64 (.int .i64 (.bool (.int .i64 (.int .i64 (.ae (.ints .u8 .nil) (.int .i64 (.int .i64 (.bool (.int .i64 (.int .i64 .nil)))))))))))))) lk)),(3,.tok)],[.one (.ptr 0 0),Any,Any,.one (.ptr 1 0),.one (.own 2)]⟩
 |_,_=>none
theorem KS (to:Int) (fs:List E) (lk:List E) (out:List E) (hC:No.U.Fu fs=true):aR [] Tryz.f47 [.one (.ptr 0 0),.one (.val (.int .i64 to)),.one (.sl none (.ae (.int .i64 (.int .i64 (.int .i64 (.int .i64 (.ints .u8 .nil))))) fs))] [(0,.cells 76 [.ptr 1 0,.sl (some (3,102)) (.ae (.int .i64 (.int .i64 (.ints .u8 (.bool .nil)))) out),.val (.slice none 0 0)]),(1,.cells 42 [.val (.int .i64 2147483647),.val (.int .i64 2147483647),.val (.int .i64 2147483647),.val (.int .i64 1),.val (.int .i64 1),.val (.int .i64 1),.val (.int .i64 1),.val (.int .i64 0),.sl none (.ae (.int .i64 (.int .i64 (.int .i64 (.int .i64 (.bool (.bool (.int .i64 .nil))))))) []),.sl none (.ints .i64 []),.sl none (.ints .i64 []),.sl none (.ae (.int .i64 (.int .i64 (.int .i64 (.int .i64 (.bool .nil))))) []),.val (.int .i64 4),.sl none (.ints .i64 [1]),.sl none (.ae (.int .i64 (.int .i64 (.int .i64 (.int .i64 (.bool .nil))))) []),.val (.int .i64 2147483647),.val (.bool false),.own 2,.val (.slice none 0 0)]),(2,.row 59 (.ae (.int .i64 (.int .i64 (.int .i64 (.int .i64 (.int .i64 (.bool (.int .i64 (.int .i64 (.ae (.ints .u8 .nil) (.int .i64 (.int .i64 (.bool (.int .i64 (.int .i64 .nil)))))))))))))) lk)),(3,.tok)] ⟨No.U.Fu fs=true,.bB [],[(0,.cells 76 [.ptr 1 0,.sl (some (3,102)) (.ae (.int .i64 (.int .i64 (.ints .u8 (.bool .nil)))) out),.val (.slice none 0 0)]),(1,.cells 42 [.val (.int .i64 2147483647),.val (.int .i64 2147483647),.val (.int .i64 2147483647),.val (.int .i64 1),.val (.int .i64 1),.val (.int .i64 1),.val (.int .i64 1),.val (.int .i64 0),.sl none (.ae (.int .i64 (.int .i64 (.int .i64 (.int .i64 (.bool (.bool (.int .i64 .nil))))))) []),.sl none (.ints .i64 []),.sl none (.ints .i64 []),.sl none (.ae (.int .i64 (.int .i64 (.int .i64 (.int .i64 (.bool .nil))))) []),.val (.int .i64 4),.sl none (.ints .i64 [1]),.sl none (.ae (.int .i64 (.int .i64 (.int .i64 (.int .i64 (.bool .nil))))) []),.val (.int .i64 2147483647),.val (.bool false),.own 2,.val (.slice none 0 0)]),(2,.row 59 (.ae (.int .i64 (.int .i64 (.int .i64 (.int .i64 (.int .i64 (.bool (.int .i64 (.int .i64 (.ae (.ints .u8 .nil) (.int .i64 (.int .i64 (.bool (.int .i64 (.int .i64 .nil)))))))))))))) lk)),(3,.tok)],[.one (.ptr 0 0),Any,Any,.one (.ptr 1 0),.one (.own 2)]⟩:=by
 intro b gv
 have hs9:fs.length=0:=of_decide_eq_true (show decide (fs.length=0)=true from hC)
 generalize hF:No.U=F at hC ⊢
 generalize hG0:CoN.Cn.U=G0 at hC ⊢
 generalize hG1:LkR.Ts.U=G1 at hC ⊢
 generalize hG2:FrR.Rs.U=G2 at hC ⊢
 generalize hG3:InK.Nf.U=G3 at hC ⊢
 generalize hA:Ar.U=A
 generalize hL:Lp _ _ _=L
 obtain⟨Z,zq⟩:=aH
 refine @aA _ _ _ _ _ _ _ (aa hL) _ _ zq rfl ?_
 repeat' (first|(refine ay zq ?_;try dsimp only)|refine ax zq ?_ (aa hL)|refine az zq ?_|refine aw ?_|refine aq ?_|refine au ?_|refine ar ?_|refine al rfl ?_|refine ai rfl ?_|refine aj rfl ?_|(refine Cd.mk ?_;cbv)|(refine aF.mk ?_;cbv)|(refine aK.mk ?_;cbv)|exact trivial|refine And.intro ?_ ?_|refine aZ fun _=>?_|refine ba fun _=>?_)
 all_goals first|(show L _ _ _;skip)|(clear hL zq Z;subst hA hF hG0 hG1 hG2 hG3;simp only [No.U,CoN.Cn.U,LkR.Ts.U,FrR.Rs.U,InK.Nf.U,Ar.U,List.nil_append,kS,ji,iJ,cV,nN,fL,ij,dz,eT,iq] at * <;> grind [ah];done)
 subst hL
 refine bj (bo af.nil) (zQ) (fun y=>bW Tryz.f47.ntmps [(0,.ptr 1 0),(1,.val (.int .i64 to)),(10,.sl none (.ae (.int .i64 (.int .i64 (.int .i64 (.int .i64 (.ints .u8 .nil))))) fs)),(11,.val (.int .i64 (A.dw fs))),(12,.val (.int .i64 y.i))] [(1,.cells 76 [.ptr 2 0,.sl (some (4,102)) (.ae (.int .i64 (.int .i64 (.ints .u8 (.bool .nil)))) out),.val (.slice none 0 0)]),(2,.cells 42 [.val (.int .i64 2147483647),.val (.int .i64 2147483647),.val (.int .i64 2147483647),.val (.int .i64 1),.val (.int .i64 1),.val (.int .i64 1),.val (.int .i64 1),.val (.int .i64 0),.sl none (.ae (.int .i64 (.int .i64 (.int .i64 (.int .i64 (.bool (.bool (.int .i64 .nil))))))) []),.sl none (.ints .i64 []),.sl none (.ints .i64 []),.sl none (.ae (.int .i64 (.int .i64 (.int .i64 (.int .i64 (.bool .nil))))) []),.val (.int .i64 4),.sl none (.ints .i64 [1]),.sl none (.ae (.int .i64 (.int .i64 (.int .i64 (.int .i64 (.bool .nil))))) []),.val (.int .i64 2147483647),.val (.bool false),.own 3,.val (.slice none 0 0)]),(3,.row 59 (.ae (.int .i64 (.int .i64 (.int .i64 (.int .i64 (.int .i64 (.bool (.int .i64 (.int .i64 (.ae (.ints .u8 .nil) (.int .i64 (.int .i64 (.bool (.int .i64 (.int .i64 .nil)))))))))))))) lk)),(4,.tok)] [.one (.ptr 1 0),Any,Any,.one (.ptr 2 0),.one (.own 3)]) (zM) (sI 12) ⟨0⟩ ?_ ?_ ?_
 ·rfl
 ·cbv
  repeat' (first|exact trivial|exact rfl|refine And.intro ?_ ?_)
 rintro⟨i⟩ hq O hO
 have hi0:i=0:=hq
 subst hi0
 subst hA
 generalize hA:Ar.U=A
 generalize hL:Lp _ _ _=L
 refine aT zq ?_
 repeat' (first|(refine ay zq ?_;try dsimp only)|refine ax zq ?_ (aa hL)|refine az zq ?_|refine aw ?_|refine aq ?_|refine au ?_|refine ar ?_|refine al rfl ?_|refine ai rfl ?_|refine aj rfl ?_|(refine Cd.mk ?_;cbv)|(refine aF.mk ?_;cbv)|(refine aK.mk ?_;cbv)|exact trivial|refine And.intro ?_ ?_|refine aZ fun _=>?_|refine ba fun _=>?_)
 all_goals first|(exfalso;clear hL zq Z hq;subst hA hF hG0 hG1 hG2 hG3 hO;simp only [No.U,Ar.U] at * <;> grind [ah];done)|(show L _ _ _;skip)|(clear hL zq Z hq;subst hA hF hG0 hG1 hG2 hG3 hO;simp only [No.U,CoN.Cn.U,LkR.Ts.U,FrR.Rs.U,InK.Nf.U,Ar.U,List.nil_append,kS,ji,iJ,cV,nN,fL,ij,dz,eT,iq] at * <;> grind [ah];done)
theorem xy:aC Tryz.prog 47 (tP No.U):=by
 refine aD af.nil Tryz.func47 rfl rfl fun xs h p hp=>?_
 unfold tP at hp
 split at hp
 ·cases hp
  exact⟨av rfl,fun hC _=>@KS _ _ _ _ hC⟩
 ·cases hp
def yO (_:No):aW:=fun xs h=>match xs,h with
 |[.one (.ptr 0 0)],[(0,.cells 76 [.ptr 1 0,.sl (some (3,102)) (.ae (.int .i64 (.int .i64 (.ints .u8 (.bool .nil)))) out),.val (.slice none 0 0)]),(1,.cells 42 [.val (.int .i64 2147483647),.val (.int .i64 2147483647),.val (.int .i64 2147483647),.val (.int .i64 1),.val (.int .i64 1),.val (.int .i64 1),.val (.int .i64 1),.val (.int .i64 0),.sl none (.ae (.int .i64 (.int .i64 (.int .i64 (.int .i64 (.bool (.bool (.int .i64 .nil))))))) []),.sl none (.ints .i64 []),.sl none (.ints .i64 []),.sl none (.ae (.int .i64 (.int .i64 (.int .i64 (.int .i64 (.bool .nil))))) []),.val (.int .i64 4),.sl none (.ints .i64 [1]),.sl none (.ae (.int .i64 (.int .i64 (.int .i64 (.int .i64 (.bool .nil))))) []),.val (.int .i64 2147483647),.val (.bool false),.own 2,.val (.slice none 0 0)]),(2,.row 59 (.ae (.int .i64 (.int .i64 (.int .i64 (.int .i64 (.int .i64 (.bool (.int .i64 (.int .i64 (.ae (.ints .u8 .nil) (.int .i64 (.int .i64 (.bool (.int .i64 (.int .i64 .nil)))))))))))))) lk)),(3,.tok)]=>some ⟨True,.bB [],[(0,.cells 76 [.ptr 1 0,.sl (some (3,102)) (.ae (.int .i64 (.int .i64 (.ints .u8 (.bool .nil)))) out),.val (.slice none 0 0)]),(1,.cells 42 [.val (.int .i64 2147483647),.val (.int .i64 2147483647),.val (.int .i64 2147483647),.val (.int .i64 1),.val (.int .i64 1),.val (.int .i64 1),.val (.int .i64 1),.val (.int .i64 0),.sl none (.ae (.int .i64 (.int .i64 (.int .i64 (.int .i64 (.bool (.bool (.int .i64 .nil))))))) []),.sl none (.ints .i64 []),.sl none (.ints .i64 []),.sl none (.ae (.int .i64 (.int .i64 (.int .i64 (.int .i64 (.bool .nil))))) []),.val (.int .i64 4),.sl none (.ints .i64 [1]),.sl none (.ae (.int .i64 (.int .i64 (.int .i64 (.int .i64 (.bool .nil))))) []),.val (.int .i64 2147483647),.val (.bool false),.own 2,.val (.slice none 0 0)]),(2,.row 59 (.ae (.int .i64 (.int .i64 (.int .i64 (.int .i64 (.int .i64 (.bool (.int .i64 (.int .i64 (.ae (.ints .u8 .nil) (.int .i64 (.int .i64 (.bool (.int .i64 (.int .i64 .nil)))))))))))))) lk)),(3,.tok)],[.one (.ptr 0 0),.one (.ptr 1 0),.one (.own 2)]⟩
 |_,_=>none
theorem Qr (lk:List E) (out:List E):aR [] Tryz.f49 [.one (.ptr 0 0)] [(0,.cells 76 [.ptr 1 0,.sl (some (3,102)) (.ae (.int .i64 (.int .i64 (.ints .u8 (.bool .nil)))) out),.val (.slice none 0 0)]),(1,.cells 42 [.val (.int .i64 2147483647),.val (.int .i64 2147483647),.val (.int .i64 2147483647),.val (.int .i64 1),.val (.int .i64 1),.val (.int .i64 1),.val (.int .i64 1),.val (.int .i64 0),.sl none (.ae (.int .i64 (.int .i64 (.int .i64 (.int .i64 (.bool (.bool (.int .i64 .nil))))))) []),.sl none (.ints .i64 []),.sl none (.ints .i64 []),.sl none (.ae (.int .i64 (.int .i64 (.int .i64 (.int .i64 (.bool .nil))))) []),.val (.int .i64 4),.sl none (.ints .i64 [1]),.sl none (.ae (.int .i64 (.int .i64 (.int .i64 (.int .i64 (.bool .nil))))) []),.val (.int .i64 2147483647),.val (.bool false),.own 2,.val (.slice none 0 0)]),(2,.row 59 (.ae (.int .i64 (.int .i64 (.int .i64 (.int .i64 (.int .i64 (.bool (.int .i64 (.int .i64 (.ae (.ints .u8 .nil) (.int .i64 (.int .i64 (.bool (.int .i64 (.int .i64 .nil)))))))))))))) lk)),(3,.tok)] ⟨True,.bB [],[(0,.cells 76 [.ptr 1 0,.sl (some (3,102)) (.ae (.int .i64 (.int .i64 (.ints .u8 (.bool .nil)))) out),.val (.slice none 0 0)]),(1,.cells 42 [.val (.int .i64 2147483647),.val (.int .i64 2147483647),.val (.int .i64 2147483647),.val (.int .i64 1),.val (.int .i64 1),.val (.int .i64 1),.val (.int .i64 1),.val (.int .i64 0),.sl none (.ae (.int .i64 (.int .i64 (.int .i64 (.int .i64 (.bool (.bool (.int .i64 .nil))))))) []),.sl none (.ints .i64 []),.sl none (.ints .i64 []),.sl none (.ae (.int .i64 (.int .i64 (.int .i64 (.int .i64 (.bool .nil))))) []),.val (.int .i64 4),.sl none (.ints .i64 [1]),.sl none (.ae (.int .i64 (.int .i64 (.int .i64 (.int .i64 (.bool .nil))))) []),.val (.int .i64 2147483647),.val (.bool false),.own 2,.val (.slice none 0 0)]),(2,.row 59 (.ae (.int .i64 (.int .i64 (.int .i64 (.int .i64 (.int .i64 (.bool (.int .i64 (.int .i64 (.ae (.ints .u8 .nil) (.int .i64 (.int .i64 (.bool (.int .i64 (.int .i64 .nil)))))))))))))) lk)),(3,.tok)],[.one (.ptr 0 0),.one (.ptr 1 0),.one (.own 2)]⟩:=by
 intro b gv
 generalize hF:No.U=F
 generalize hG0:CoN.Cn.U=G0
 generalize hG1:LkR.Ts.U=G1
 generalize hG2:FrR.Rs.U=G2
 generalize hG3:InK.Nf.U=G3
 generalize hA:Ar.U=A
 generalize hL:Lp _ _ _=L
 obtain⟨Z,zq⟩:=aH
 refine @aA _ _ _ _ _ _ _ (aa hL) _ _ zq rfl ?_
 repeat' (first|(refine ay zq ?_;try dsimp only)|refine ax zq ?_ (aa hL)|refine az zq ?_|refine aw ?_|refine aq ?_|refine au ?_|refine ar ?_|refine al rfl ?_|refine ai rfl ?_|refine aj rfl ?_|(refine Cd.mk ?_;cbv)|(refine aF.mk ?_;cbv)|(refine aK.mk ?_;cbv)|exact trivial|refine And.intro ?_ ?_|refine aZ fun _=>?_|refine ba fun _=>?_)
 all_goals first|(show L _ _ _;skip)|(clear hL zq Z;subst hA hF hG0 hG1 hG2 hG3;simp only [No.U,CoN.Cn.U,LkR.Ts.U,FrR.Rs.U,InK.Nf.U,Ar.U,List.nil_append,kS,ji,iJ,cV,nN,fL,ij,dz,eT,iq] at * <;> grind [ah];done)
 subst hL
 refine bj (bo af.nil) (zQ) (fun y=>bW Tryz.f49.ntmps [(0,.ptr 1 0)] [(1,.cells 76 [.ptr 2 0,.sl (some (4,102)) (.ae (.int .i64 (.int .i64 (.ints .u8 (.bool .nil)))) out),.val (.slice none 0 0)]),(2,.cells 42 [.val (.int .i64 2147483647),.val (.int .i64 2147483647),.val (.int .i64 2147483647),.val (.int .i64 1),.val (.int .i64 1),.val (.int .i64 1),.val (.int .i64 1),.val (.int .i64 0),.sl none (.ae (.int .i64 (.int .i64 (.int .i64 (.int .i64 (.bool (.bool (.int .i64 .nil))))))) []),.sl none (.ints .i64 []),.sl none (.ints .i64 []),.sl none (.ae (.int .i64 (.int .i64 (.int .i64 (.int .i64 (.bool .nil))))) []),.val (.int .i64 4),.sl none (.ints .i64 [1]),.sl none (.ae (.int .i64 (.int .i64 (.int .i64 (.int .i64 (.bool .nil))))) []),.val (.int .i64 2147483647),.val (.bool false),.own 3,.val (.slice none 0 0)]),(3,.row 59 (.ae (.int .i64 (.int .i64 (.int .i64 (.int .i64 (.int .i64 (.bool (.int .i64 (.int .i64 (.ae (.ints .u8 .nil) (.int .i64 (.int .i64 (.bool (.int .i64 (.int .i64 .nil)))))))))))))) lk)),(4,.tok)] [.one (.ptr 1 0),.one (.ptr 2 0),.one (.own 3)]) (zM) (fun _=>⟨0⟩) ⟨0⟩ ?_ ?_ ?_
 ·rfl
 ·cbv
  repeat' (first|exact trivial|exact rfl|refine And.intro ?_ ?_)
 rintro⟨i⟩ hq O hO
 have hi0:i=0:=hq
 subst hi0
 subst hA
 generalize hA:Ar.U=A
 generalize hL:Lp _ _ _=L
 refine aT zq ?_
 repeat' (first|(refine ay zq ?_;try dsimp only)|refine ax zq ?_ (aa hL)|refine az zq ?_|refine aw ?_|refine aq ?_|refine au ?_|refine ar ?_|refine al rfl ?_|refine ai rfl ?_|refine aj rfl ?_|(refine Cd.mk ?_;cbv)|(refine aF.mk ?_;cbv)|(refine aK.mk ?_;cbv)|exact trivial|refine And.intro ?_ ?_|refine aZ fun _=>?_|refine ba fun _=>?_)
 all_goals first|(exfalso;clear hL zq Z hq;subst hA hF hG0 hG1 hG2 hG3 hO;simp only [No.U,CoN.Cn.U,LkR.Ts.U,FrR.Rs.U,InK.Nf.U,Ar.U,List.nil_append,kS,ji,iJ,cV,nN,fL,ij,dz,eT,iq] at * <;> grind [ah];done)|(show L _ _ _;skip)|(clear hL zq Z hq;subst hA hF hG0 hG1 hG2 hG3 hO;simp only [No.U,CoN.Cn.U,LkR.Ts.U,FrR.Rs.U,InK.Nf.U,Ar.U,List.nil_append,kS,ji,iJ,cV,nN,fL,ij,dz,eT,iq] at * <;> grind [ah];done)
theorem Aj:aC Tryz.prog 49 (yO No.U):=by
 refine aD af.nil Tryz.func49 rfl rfl fun xs h p hp=>?_
 unfold yO at hp
 split at hp
 ·cases hp
  exact⟨av rfl,fun _ _=>@Qr _ _⟩
 ·cases hp
def Av (F:No):aW:=fun xs h=>match xs,h with
 |[.one (.ptr 0 0)],[(0,.cells 76 [.ptr 1 0,.sl (some (3,102)) (.ae (.int .i64 (.int .i64 (.ints .u8 (.bool .nil)))) out),.val (.slice none 0 0)]),(1,.cells 42 [.val (.int .i64 2147483647),.val (.int .i64 2147483647),.val (.int .i64 2147483647),.val (.int .i64 1),.val (.int .i64 1),.val (.int .i64 1),.val (.int .i64 1),.val (.int .i64 0),.sl none (.ae (.int .i64 (.int .i64 (.int .i64 (.int .i64 (.bool (.bool (.int .i64 .nil))))))) []),.sl none (.ints .i64 []),.sl none (.ints .i64 []),.sl none (.ae (.int .i64 (.int .i64 (.int .i64 (.int .i64 (.bool .nil))))) []),.val (.int .i64 4),.sl none (.ints .i64 [1]),.sl none (.ae (.int .i64 (.int .i64 (.int .i64 (.int .i64 (.bool .nil))))) []),.val (.int .i64 2147483647),.val (.bool false),.own 2,.val (.slice none 0 0)]),(2,.row 59 (.ae (.int .i64 (.int .i64 (.int .i64 (.int .i64 (.int .i64 (.bool (.int .i64 (.int .i64 (.ae (.ints .u8 .nil) (.int .i64 (.int .i64 (.bool (.int .i64 (.int .i64 .nil)))))))))))))) lk)),(3,.tok)]=>some ⟨lk=[F.vv],.sa (.one (.sl none (.ae (.int .i64 (.int .i64 (.ints .u8 (.bool .nil)))) out))),[(0,.cells 76 [.ptr 1 0,.sl (some (3,102)) (.ae (.int .i64 (.int .i64 (.ints .u8 (.bool .nil)))) out),.val (.slice none 0 0)]),(1,.cells 42 [.val (.int .i64 2147483647),.val (.int .i64 2147483647),.val (.int .i64 2147483647),.val (.int .i64 1),.val (.int .i64 1),.val (.int .i64 1),.val (.int .i64 1),.val (.int .i64 0),.sl none (.ae (.int .i64 (.int .i64 (.int .i64 (.int .i64 (.bool (.bool (.int .i64 .nil))))))) []),.sl none (.ints .i64 []),.sl none (.ints .i64 []),.sl none (.ae (.int .i64 (.int .i64 (.int .i64 (.int .i64 (.bool .nil))))) []),.val (.int .i64 4),.sl none (.ints .i64 [1]),.sl none (.ae (.int .i64 (.int .i64 (.int .i64 (.int .i64 (.bool .nil))))) []),.val (.int .i64 2147483647),.val (.bool false),.own 2,.val (.slice none 0 0)]),(2,.row 59 (.ae (.int .i64 (.int .i64 (.int .i64 (.int .i64 (.int .i64 (.bool (.int .i64 (.int .i64 (.ae (.ints .u8 .nil) (.int .i64 (.int .i64 (.bool (.int .i64 (.int .i64 .nil)))))))))))))) lk)),(3,.tok)],[.one (.ptr 0 0),.one (.ptr 1 0),.one (.own 2)]⟩
 |_,_=>none
theorem Tl (lk:List E) (out:List E) (hC:lk=[No.U.vv]):aR [(53,wm No.U),(bn 53,cT),(54,qw LkR.Ts.U),(47,tP No.U)] Tryz.f24 [.one (.ptr 0 0)] [(0,.cells 76 [.ptr 1 0,.sl (some (3,102)) (.ae (.int .i64 (.int .i64 (.ints .u8 (.bool .nil)))) out),.val (.slice none 0 0)]),(1,.cells 42 [.val (.int .i64 2147483647),.val (.int .i64 2147483647),.val (.int .i64 2147483647),.val (.int .i64 1),.val (.int .i64 1),.val (.int .i64 1),.val (.int .i64 1),.val (.int .i64 0),.sl none (.ae (.int .i64 (.int .i64 (.int .i64 (.int .i64 (.bool (.bool (.int .i64 .nil))))))) []),.sl none (.ints .i64 []),.sl none (.ints .i64 []),.sl none (.ae (.int .i64 (.int .i64 (.int .i64 (.int .i64 (.bool .nil))))) []),.val (.int .i64 4),.sl none (.ints .i64 [1]),.sl none (.ae (.int .i64 (.int .i64 (.int .i64 (.int .i64 (.bool .nil))))) []),.val (.int .i64 2147483647),.val (.bool false),.own 2,.val (.slice none 0 0)]),(2,.row 59 (.ae (.int .i64 (.int .i64 (.int .i64 (.int .i64 (.int .i64 (.bool (.int .i64 (.int .i64 (.ae (.ints .u8 .nil) (.int .i64 (.int .i64 (.bool (.int .i64 (.int .i64 .nil)))))))))))))) lk)),(3,.tok)] ⟨lk=[No.U.vv],.sa (.one (.sl none (.ae (.int .i64 (.int .i64 (.ints .u8 (.bool .nil)))) out))),[(0,.cells 76 [.ptr 1 0,.sl (some (3,102)) (.ae (.int .i64 (.int .i64 (.ints .u8 (.bool .nil)))) out),.val (.slice none 0 0)]),(1,.cells 42 [.val (.int .i64 2147483647),.val (.int .i64 2147483647),.val (.int .i64 2147483647),.val (.int .i64 1),.val (.int .i64 1),.val (.int .i64 1),.val (.int .i64 1),.val (.int .i64 0),.sl none (.ae (.int .i64 (.int .i64 (.int .i64 (.int .i64 (.bool (.bool (.int .i64 .nil))))))) []),.sl none (.ints .i64 []),.sl none (.ints .i64 []),.sl none (.ae (.int .i64 (.int .i64 (.int .i64 (.int .i64 (.bool .nil))))) []),.val (.int .i64 4),.sl none (.ints .i64 [1]),.sl none (.ae (.int .i64 (.int .i64 (.int .i64 (.int .i64 (.bool .nil))))) []),.val (.int .i64 2147483647),.val (.bool false),.own 2,.val (.slice none 0 0)]),(2,.row 59 (.ae (.int .i64 (.int .i64 (.int .i64 (.int .i64 (.int .i64 (.bool (.int .i64 (.int .i64 (.ae (.ints .u8 .nil) (.int .i64 (.int .i64 (.bool (.int .i64 (.int .i64 .nil)))))))))))))) lk)),(3,.tok)],[.one (.ptr 0 0),.one (.ptr 1 0),.one (.own 2)]⟩:=by
 intro b gv
 have h1:lk=[nF]:=hC
 have hfs:=(af.keeps FB Gp (af.cons rB (af.cons xy af.nil rfl) rfl))
 generalize hF:No.U=F at hC hfs ⊢
 generalize hG0:CoN.Cn.U=G0 at hC hfs ⊢
 generalize hG1:LkR.Ts.U=G1 at hC hfs ⊢
 generalize hG2:FrR.Rs.U=G2 at hC hfs ⊢
 generalize hG3:InK.Nf.U=G3 at hC hfs ⊢
 generalize hA:Ar.U=A
 generalize hL:Lp _ _ _=L
 obtain⟨Z,zq⟩:=aH
 refine @aA _ _ _ _ _ _ _ (aa hL) _ _ zq rfl ?_
 repeat' (first|(refine ay zq ?_;try dsimp only)|refine ax zq ?_ (aa hL)|refine az zq ?_|refine aw ?_|refine aq ?_|refine au ?_|refine ar ?_|refine al rfl ?_|refine ai rfl ?_|refine aj rfl ?_|(refine Cd.mk ?_;cbv)|(refine aF.mk ?_;cbv)|(refine aK.mk ?_;cbv)|exact trivial|refine And.intro ?_ ?_|refine aZ fun _=>?_|refine ba fun _=>?_)
 all_goals first|(exfalso;clear hL zq Z hfs;subst hA hF hG0 hG1 hG2 hG3 h1;simp only [No.U,Ar.U] at * <;> grind [ah];done)|(show L _ _ _;skip)|(clear hL zq Z hfs;subst hA hF hG0 hG1 hG2 hG3 h1;simp only [No.U,Ar.U] at * <;> grind [ah];done)
 subst hL
 refine bj (bo hfs) (oQ) (fun y=>bW Tryz.f24.ntmps [(0,.ptr 1 0),(47,.own 3),(48,.val (.int .i64 (A.dw lk))),(49,.val (.int .i64 y.i))] [(1,.cells 76 [.ptr 2 0,.sl (some (4,102)) (.ae (.int .i64 (.int .i64 (.ints .u8 (.bool .nil)))) out),.val (.slice none 0 0)]),(2,.cells 42 [.val (.int .i64 2147483647),.val (.int .i64 2147483647),.val (.int .i64 2147483647),.val (.int .i64 1),.val (.int .i64 1),.val (.int .i64 1),.val (.int .i64 1),.val (.int .i64 0),.sl none (.ae (.int .i64 (.int .i64 (.int .i64 (.int .i64 (.bool (.bool (.int .i64 .nil))))))) []),.sl none (.ints .i64 []),.sl none (.ints .i64 []),.sl none (.ae (.int .i64 (.int .i64 (.int .i64 (.int .i64 (.bool .nil))))) []),.val (.int .i64 4),.sl none (.ints .i64 [1]),.sl none (.ae (.int .i64 (.int .i64 (.int .i64 (.int .i64 (.bool .nil))))) []),.val (.int .i64 2147483647),.val (.bool false),.own 3,.val (.slice none 0 0)]),(3,.row 59 (.ae (.int .i64 (.int .i64 (.int .i64 (.int .i64 (.int .i64 (.bool (.int .i64 (.int .i64 (.ae (.ints .u8 .nil) (.int .i64 (.int .i64 (.bool (.int .i64 (.int .i64 .nil)))))))))))))) lk)),(4,.tok)] [.one (.ptr 1 0),.one (.ptr 2 0),.one (.own 3)]) (oM) (sI 49) ⟨0⟩ ?_ ?_ ?_
 ·exact .inl rfl
 ·cbv
  repeat' (first|exact trivial|exact rfl|refine And.intro ?_ ?_)
 rintro⟨i⟩ hq O hO
 have hcase:i=0∨i=1:=hq
 have hl9:=Fv
 have hq9:=NS
 have ha9:=Iy
 have hk9:=cj
 have hkb:=TS
 have hx9:=UI
 subst hA
 generalize hA:Ar.U=A
 generalize hL:Lp _ _ _=L
 refine aT zq ?_
 repeat' (first|(refine ay zq ?_;try dsimp only)|refine ax zq ?_ (aa hL)|refine az zq ?_|refine aw ?_|refine aq ?_|refine au ?_|refine ar ?_|refine al rfl ?_|refine ai rfl ?_|refine aj rfl ?_|(refine Cd.mk ?_;cbv)|(refine aF.mk ?_;cbv)|(refine aK.mk ?_;cbv)|exact trivial|refine And.intro ?_ ?_|refine aZ fun _=>?_|refine ba fun _=>?_)
 all_goals (rcases hcase with hi|hi <;> subst hi)
 all_goals first|(show L _ _ _;skip)|(clear hL zq Z hq hfs;subst hA hF hG0 hG1 hG2 hG3 hO h1;simp only [No.U,LkR.Ts.U,Ar.U,kS,ji,nN,iq] at * <;> grind [ah];done)
theorem xV:aC Tryz.prog 24 (Av No.U):=by
 refine aD (af.keeps FB Gp (af.cons rB (af.cons xy af.nil rfl) rfl)) Tryz.func24 rfl rfl fun xs h p hp=>?_
 unfold Av at hp
 split at hp
 ·cases hp
  exact⟨av rfl,fun hC _=>@Tl _ _ hC⟩
 ·cases hp
end Go.Proofs.YtakebkfhigadiaaGreat.NoR
