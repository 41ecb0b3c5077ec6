/-
  inner and outer links je the reckoner. No condition.
-/
import Derived.Test.YtakebkfhigadiaaGreatVnViC
set_option cbv.maxSteps 4000000
set_option maxHeartbeats 4000000
set_option maxRecDepth 100000
namespace Go.Proofs.YtakebkfhigadiaaGreat.ViL
open Go Ry Cmp ViR ViC
theorem yv (f:Int→Bool):∀ (k:Nat) (i j:Int),i≤j→i≤nL f k i j∧nL f k i j≤j
 |0,i,j,h=>⟨Int.le_refl i,h⟩
 |k+1,i,j,h=>by
  unfold nL
  by_cases c:i < j
  ·rw [if_pos c]
   have hb:i≤hf i j∧hf i j < j:=by unfold hf;omega
   split
   ·have:=yv f k (hf i j+1) j (by omega)
    omega
   ·have:=yv f k i (hf i j) (by omega)
    omega
  ·rw [if_neg c]
   omega
theorem SY (l:List E) (n p:Int):0≤Cf l n p∧Cf l n p≤l.length:=yv _ _ 0 _ (Int.natCast_nonneg _)
noncomputable def bfS (A:Ar) (l:List E) (n p w s:Int) (mk:Bool) (y:XJ):St:=bW Tryz.f267.ntmps [(0,.sl none (.ae (.int .i64 (.int .i64 (.int .i64 (.int .i64 (.bool .nil))))) l)),(2,.val (.func (.func 209) ⟨[]⟩ ⟨[]⟩)),(4,.ptr 1 0),(8,.val (.int .i64 (A.dw l))),(9,.val (.int .i64 y.i)),(10,.val (.int .i64 y.j))] [(1,.cells 176 [.val (.int .i64 n),.val (.int .i64 p),.val (.int .i64 w),.val (.int .i64 s),.val (.bool mk)])] [Any,Any,Any]
def bfR (st:St):XJ:=⟨bA st 9,bA st 10⟩
structure KK where
 n:Int
 p:Int
 w:Int
 s:Int
 m:Bool
def GY (l:List E) (n p:Int):KK:=if Kx l n p=true then ⟨ri (l.getD (Cf l n p).toNat []) 0,ri (l.getD (Cf l n p).toNat []) 1,ri (l.getD (Cf l n p).toNat []) 2,ri (l.getD (Cf l n p).toNat []) 3,rb (l.getD (Cf l n p).toNat []) 4⟩ else ⟨0,0,0,0,false⟩
def Ot (l:List E) (y:E):List E:=if ri y 0 < ri y 1∧Kx l (ri y 1) (ri y 0)=true∧(GY l (ri y 1) (ri y 0)).w=ri y 2∧(GY l (ri y 1) (ri y 0)).s=ri y 3 then [[D.int (ri y 0),D.int (ri y 1),D.int (ri y 2),D.int (ri y 3),D.bool (rb y 4 && (GY l (ri y 1) (ri y 0)).m)]] else []
def SQ (n:List Int) (y:E):List E:=if n.contains (ri y 1)=true then [] else [[D.int (ri y 0),D.int (ri y 1),D.int (ri y 2),D.int (ri y 3),D.bool (rb y 4)]]
def Rh (n p:Int):Int:=if p < n then p else n
def Ow (n p:Int):Int:=if p < n then n else p
def Su (y:E):List E:=if rb y 4=true then [[D.int (Rh (ri y 0) (ri y 1)),D.int (Ow (ri y 0) (ri y 1)),D.int (ri y 2)]] else []
def sX (l:List E):List E:=l.flatMap (Ot l)
def Ws (n:List Int) (l:List E):List E:=l.flatMap (SQ n)
def YR (l:List E):List E:=l.flatMap Su
def Bp (n:List Int) (l:List E):List E:=if bE n l=true then sX l else []
def Qq (n:List Int) (l:List E):List E:=if bE n l=true then Ws n l else []
def Uw (n:List Int) (l:List E):List E:=if bE n l=true then YR (sX l) else []
structure XC where
 i:Int
 o:List E
def JC (l:List E) (f:E→List E) (y:XC):Prop:=0≤y.i∧y.i≤l.length∧y.o=(l.take y.i.toNat).flatMap f
def Sc (l:List E) (y:XC):Nat:=l.length - y.i.toNat
theorem uA (l:List E) (f:E→List E):JC l f ⟨0,[]⟩:=⟨Int.le_refl 0,Int.natCast_nonneg _,rfl⟩
theorem xY {f:E→List E} (hf:∀ y,(f y).length≤1):∀ l:List E,(l.flatMap f).length≤l.length
 |[]=>Nat.le_refl _
 |y :: l=>by
  have:=xY hf l
  have:=hf y
  rw [List.flatMap_cons,List.length_append,List.length_cons]
  omega
theorem yY {l:List E} {f:E→List E} (hf:∀ y,(f y).length≤1) {i:Int} {o:List E} (hq:JC l f ⟨i,o⟩):o.length≤l.length:=by
 have h:=xY hf (l.take i.toNat)
 have h2:=hq.2.2
 simp only at h2
 rw [h2]
 rw [List.length_take] at h
 omega
theorem sO {l:List E} {f:E→List E} (hl:l.length≤1000000) {i:Int} {o:List E} (hq:JC l f ⟨i,o⟩) (h:i < l.length):aB .add .i64 i 1=i+1∧(∀ p,Sc l ⟨i+1,p⟩ < Sc l ⟨i,o⟩)∧(f (l.getD i.toNat [])=[]→JC l f ⟨i+1,o⟩)∧(∀ e,f (l.getD i.toNat [])=[e]→JC l f ⟨i+1,o ++ [e]⟩):=by
 obtain⟨h0,h1,h2⟩:=hq
 simp only at h0 h1 h2
 have ht:=dh l i h0 h
 refine⟨by rw [aY,wr _ (by omega) (by omega)],fun p=>by simp only [Sc];omega,fun g=>⟨by simp only;omega,by simp only;omega,?_⟩,fun e g=>⟨by simp only;omega,by simp only;omega,?_⟩⟩
 ·simp only
  rw [ht,List.flatMap_append,← h2]
  simp [List.flatMap_cons,List.getD_eq_getElem?_getD] at g ⊢
  exact g
 ·simp only
  rw [ht,List.flatMap_append,← h2]
  simp [List.flatMap_cons,List.getD_eq_getElem?_getD] at g ⊢
  exact g.symm
theorem yc {l:List E} {f:E→List E} {i:Int} {o:List E} (hq:JC l f ⟨i,o⟩) (h:¬i < l.length):o=l.flatMap f:=by
 obtain⟨h0,h1,h2⟩:=hq
 simp only at h0 h1 h2
 have e:i=l.length:=by omega
 rw [e,Int.toNat_natCast,List.take_length] at h2
 exact h2
theorem Ap (l:List E) (y:E):(Ot l y).length≤1:=by unfold Ot;split <;> simp
theorem JW (n:List Int) (y:E):(SQ n y).length≤1:=by unfold SQ;split <;> simp
theorem MH (y:E):(Su y).length≤1:=by unfold Su;split <;> simp
theorem PI (l:List E):(sX l).length≤l.length:=xY (Ap l) l
noncomputable def inS (A:Ar) (n:List Int) (l:List E) (y:XC):St:=bW Tryz.f225.ntmps [(1,.ptr 1 0),(4,.sl (some (2,176)) (.ae (.int .i64 (.int .i64 (.int .i64 (.int .i64 (.bool .nil))))) y.o)),(13,.sl none (.ae (.int .i64 (.int .i64 (.int .i64 (.int .i64 (.bool .nil))))) l)),(14,.val (.int .i64 (A.dw l))),(15,.val (.int .i64 y.i))] [(1,.cells 36 [.sl none (.ints .i64 n),.sl none (.ae (.int .i64 (.int .i64 (.int .i64 (.int .i64 (.bool .nil))))) l)]),(2,.tok)] [Any]
noncomputable def ZX (A:Ar) (n:List Int) (l:List E) (y:XC):St:=bW Tryz.f229.ntmps [(1,.ptr 1 0),(4,.sl (some (2,176)) (.ae (.int .i64 (.int .i64 (.int .i64 (.int .i64 (.bool .nil))))) y.o)),(11,.sl none (.ae (.int .i64 (.int .i64 (.int .i64 (.int .i64 (.bool .nil))))) l)),(12,.val (.int .i64 (A.dw l))),(13,.val (.int .i64 y.i))] [(1,.cells 36 [.sl none (.ints .i64 n),.sl none (.ae (.int .i64 (.int .i64 (.int .i64 (.int .i64 (.bool .nil))))) l)]),(2,.tok)] [Any]
noncomputable def boS (A:Ar) (l:List E) (y:XC):St:=bW Tryz.f226.ntmps [(6,.sl (some (2,325)) (.ae (.int .i64 (.int .i64 (.int .i64 .nil))) y.o)),(17,.sl none (.ae (.int .i64 (.int .i64 (.int .i64 (.int .i64 (.bool .nil))))) l)),(18,.val (.int .i64 (A.dw l))),(19,.val (.int .i64 y.i))] [(2,.tok)] [Any]
def Wy (i o:Nat) (st:St):XC:=⟨bA st i,Sb (match jS st o with | .sl _ c=>c|_=>.ae .nil [])⟩
structure Vl where
 TF:List E→Int→Int→Int
 MB:List E→Int→Int→Bool
 qM:List E→Int→Int→KK
 PC:List Int→List E→List E
 Te:List Int→List E→List E
 TQ:List Int→List E→List E
 YF:Int→Int→Int
 Yo:Int→Int→Int
 Db:List Int→List E→Int
 Cz:List E→Bool
 ue:List Int→List E→Bool
def Vl.U:Vl:=⟨Cf,Kx,GY,Bp,Qq,Uw,Rh,Ow,mi,fun l=>decide (l.length≤1000000),fun n l=>decide (n.length≤1000000∧l.length≤1000000)⟩
def ED (F:Vl):aW:=fun xs h=>match xs,h with
 |[.one (.sl none (.ae (.int .i64 (.int .i64 (.int .i64 (.int .i64 (.bool .nil))))) l)),.agg [.val (.int .i64 k_n),.val (.int .i64 qG),.val (.int .i64 _),.val (.int .i64 _),.val (.bool _)],.one (.val (.func (.func 209) ⟨[]⟩ ⟨[]⟩))],[]=>some ⟨F.Cz l=true,.bB [I (F.TF l k_n qG),B (F.MB l k_n qG)],[],[Any,Any,Any]⟩
 |_,_=>none
theorem UQ (l:List E) (k_n:Int) (qG:Int) (k_w:Int) (k_s:Int) (k_m:Bool) (hC:Vl.U.Cz l=true):aR [(209,tN ViR.Vs.U)] Tryz.f267 [.one (.sl none (.ae (.int .i64 (.int .i64 (.int .i64 (.int .i64 (.bool .nil))))) l)),.agg [.val (.int .i64 k_n),.val (.int .i64 qG),.val (.int .i64 k_w),.val (.int .i64 k_s),.val (.bool k_m)],.one (.val (.func (.func 209) ⟨[]⟩ ⟨[]⟩))] [] ⟨Vl.U.Cz l=true,.bB [I (Vl.U.TF l k_n qG),B (Vl.U.MB l k_n qG)],[],[Any,Any,Any]⟩:=by
 intro b gv
 have hk:l.length≤1000000:=of_decide_eq_true (show decide (l.length≤1000000)=true from hC)
 have hfs:=(af.cons oq af.nil rfl)
 generalize hF:Vl.U=F at hC hfs ⊢
 generalize hG0:ViR.Vs.U=G0 at hC hfs ⊢
 generalize hG1:ViC.Vc.U=G1 at hC hfs ⊢
 generalize hA:Ar.U=A
 generalize hL:Lp _ _ _=L
 obtain⟨Z,zq⟩:=aH
 refine aA (aa hL) zq rfl ?_
 repeat' (first|(refine ay zq ?_;try dsimp only)|refine ax zq ?_ (aa hL)|refine az zq ?_|refine aw ?_|refine aq ?_|refine au ?_|refine ar ?_|refine al rfl ?_|refine ai rfl ?_|refine aj rfl ?_|(refine Cd.mk ?_;cbv)|(refine aF.mk ?_;cbv)|(refine aK.mk ?_;cbv)|exact trivial|refine And.intro ?_ ?_|refine aZ fun _=>?_|refine ba fun _=>?_)
 subst hL
 refine bj (bo hfs) (Qu (VZ l k_n qG) l.length) (bfS A l k_n qG k_w k_s k_m) (Jd) bfR ⟨0,A.dw l⟩ ?_ ?_ ?_
 ·(subst hA;exact As _ _)
 ·cbv
  repeat' (first|exact trivial|exact rfl|refine And.intro ?_ ?_)
 rintro⟨i,j⟩ hq O hO
 have hst:=fun h=>An hk hq h
 have hen:=fun h=>Hi hq h
 have q0:=hq.1
 have q1:=hq.2.1
 have q2:=hq.2.2.1
 dsimp only at q0 q1 q2
 subst hA
 generalize hA:Ar.U=A
 generalize hL:Lp _ _ _=L
 refine aT zq ?_
 repeat' (first|(refine ay zq ?_;try dsimp only)|refine ax zq ?_ (aa hL)|refine az zq ?_|refine aw ?_|refine aq ?_|refine au ?_|refine ar ?_|refine al rfl ?_|refine ai rfl ?_|refine aj rfl ?_|(refine Cd.mk ?_;cbv)|(refine aF.mk ?_;cbv)|(refine aK.mk ?_;cbv)|exact trivial|refine And.intro ?_ ?_|refine aZ fun _=>?_|refine ba fun _=>?_)
 all_goals (clear hL hfs zq Z hq;subst hA hF hG0 hG1 hO;simp only [Vl.U,ViR.Vs.U,Ar.U] at *)
 all_goals first|(have h1:=hst (of_decide_eq_true (show decide (i < j)=true from ‹ah .lss i j=true›));clear hst hen;grind [ah,Jd,VZ,Cf,Kx])|(have h1:i=Cf l k_n qG∧0≤i∧i≤l.length:=hen (of_decide_eq_false (show decide (i < j)=false from ‹ah .lss i j=false›));clear hst hen;first|assumption|(obtain⟨h1,h2,h3⟩:=h1;subst h1;unfold Kx;grind [ah])|(grind [ah,Kx]))
theorem Hf:aC Tryz.prog 267 (ED Vl.U):=by
 refine aD (af.cons oq af.nil rfl) Tryz.func267 rfl rfl fun xs h p hp=>?_
 unfold ED at hp
 split at hp
 ·cases hp
  exact⟨av rfl,fun hC _=>UQ _ _ _ _ _ _ hC⟩
 ·cases hp
def ob (F:Vl):aW:=fun xs h=>match xs,h with
 |[.agg [.sl none (.ints .i64 _),.sl none (.ae (.int .i64 (.int .i64 (.int .i64 (.int .i64 (.bool .nil))))) v_l)],.one (.val (.int .i64 t)),.one (.val (.int .i64 p))],[]=>some ⟨F.Cz v_l=true,.bB [.agg [.val (.int .i64 (F.qM v_l t p).n),.val (.int .i64 (F.qM v_l t p).p),.val (.int .i64 (F.qM v_l t p).w),.val (.int .i64 (F.qM v_l t p).s),.val (.bool (F.qM v_l t p).m)],B (F.MB v_l t p)],[],[Any,Any,Any]⟩
 |_,_=>none
theorem Mi (v_n:List Int) (v_l:List E) (t:Int) (p:Int) (hC:Vl.U.Cz v_l=true):aR [(267,ED Vl.U)] Tryz.f241 [.agg [.sl none (.ints .i64 v_n),.sl none (.ae (.int .i64 (.int .i64 (.int .i64 (.int .i64 (.bool .nil))))) v_l)],.one (.val (.int .i64 t)),.one (.val (.int .i64 p))] [] ⟨Vl.U.Cz v_l=true,.bB [.agg [.val (.int .i64 (Vl.U.qM v_l t p).n),.val (.int .i64 (Vl.U.qM v_l t p).p),.val (.int .i64 (Vl.U.qM v_l t p).w),.val (.int .i64 (Vl.U.qM v_l t p).s),.val (.bool (Vl.U.qM v_l t p).m)],B (Vl.U.MB v_l t p)],[],[Any,Any,Any]⟩:=by
 intro b gv
 have h1:=SY v_l t p
 have hfs:=(af.cons Hf af.nil rfl)
 generalize hF:Vl.U=F at hC hfs ⊢
 generalize hG0:ViR.Vs.U=G0 at hC hfs ⊢
 generalize hG1:ViC.Vc.U=G1 at hC hfs ⊢
 generalize hA:Ar.U=A
 generalize hL:Lp _ _ _=L
 obtain⟨Z,zq⟩:=aH
 refine aA (aa hL) zq rfl ?_
 repeat' (first|(refine ay zq ?_;try dsimp only)|refine ax zq ?_ (aa hL)|refine az zq ?_|refine aw ?_|refine aq ?_|refine au ?_|refine ar ?_|refine al rfl ?_|refine ai rfl ?_|refine aj rfl ?_|(refine Cd.mk ?_;cbv)|(refine aF.mk ?_;cbv)|(refine aK.mk ?_;cbv)|exact trivial|refine And.intro ?_ ?_|refine aZ fun _=>?_|refine ba fun _=>?_)
 all_goals
  clear hL zq Z
  try clear hfs
  subst hA hF hG0 hG1
  simp only [Vl.U,Ar.U] at *
  try (grind [ah,GY,Kx])
theorem lf:aC Tryz.prog 241 (ob Vl.U):=by
 refine aD (af.cons Hf af.nil rfl) Tryz.func241 rfl rfl fun xs h p hp=>?_
 unfold ob at hp
 split at hp
 ·cases hp
  exact⟨av rfl,fun hC _=>Mi _ _ _ _ hC⟩
 ·cases hp
def tE (F:Vl):aW:=fun xs h=>match xs,h with
 |[.agg [.sl none (.ints .i64 v_n),.sl none (.ae (.int .i64 (.int .i64 (.int .i64 (.int .i64 (.bool .nil))))) v_l)]],[]=>some ⟨F.ue v_n v_l=true,.bB [.one (.sl none (.ae (.int .i64 (.int .i64 (.int .i64 (.int .i64 (.bool .nil))))) (F.PC v_n v_l))),I (F.Db v_n v_l)],[],[Any]⟩
 |_,_=>none
theorem JM (v_n:List Int) (v_l:List E) (hC:Vl.U.ue v_n v_l=true):aR [(182,dv ViC.Vc.U),(241,ob Vl.U)] Tryz.f225 [.agg [.sl none (.ints .i64 v_n),.sl none (.ae (.int .i64 (.int .i64 (.int .i64 (.int .i64 (.bool .nil))))) v_l)]] [] ⟨Vl.U.ue v_n v_l=true,.bB [.one (.sl none (.ae (.int .i64 (.int .i64 (.int .i64 (.int .i64 (.bool .nil))))) (Vl.U.PC v_n v_l))),I (Vl.U.Db v_n v_l)],[],[Any]⟩:=by
 intro b gv
 have hk:v_n.length≤1000000∧v_l.length≤1000000:=of_decide_eq_true (show decide (v_n.length≤1000000∧v_l.length≤1000000)=true from hC)
 have hfs:=(af.cons bP (af.cons lf af.nil rfl) rfl)
 generalize hF:Vl.U=F at hC hfs ⊢
 generalize hG0:ViR.Vs.U=G0 at hC hfs ⊢
 generalize hG1:ViC.Vc.U=G1 at hC hfs ⊢
 generalize hA:Ar.U=A
 generalize hL:Lp _ _ _=L
 obtain⟨Z,zq⟩:=aH
 refine aA (aa hL) zq rfl ?_
 repeat' (first|(refine ay zq ?_;try dsimp only)|refine ax zq ?_ (aa hL)|refine az zq ?_|refine aw ?_|refine aq ?_|refine au ?_|refine ar ?_|refine al rfl ?_|refine ai rfl ?_|refine aj rfl ?_|(refine Cd.mk ?_;cbv)|(refine aF.mk ?_;cbv)|(refine aK.mk ?_;cbv)|exact trivial|refine And.intro ?_ ?_|refine aZ fun _=>?_|refine ba fun _=>?_)
 all_goals first|(show L _ _ _;skip)|(clear hL hfs zq Z;subst hA hF hG0 hG1;simp only [Vl.U,ViC.Vc.U,Ar.U] at * <;> grind [ah,Bp,Qq,mi];done)
 rename_i hx
 have hv:bE v_n v_l=true:=by
  clear hL hfs zq Z
  subst hA hF hG0 hG1
  simp only [ViC.Vc.U,Ar.U] at hx
  grind [ah,mi]
 clear hx
 subst hL
 refine bj (bo hfs) (JC v_l (Ot v_l)) (inS A v_n v_l) (Sc v_l) (Wy 15 4) ⟨0,[]⟩ ?_ ?_ ?_
 ·exact uA _ _
 ·cbv
  repeat' (first|exact trivial|exact rfl|refine And.intro ?_ ?_)
 rintro⟨i,o⟩ hq O hO
 have hst:=fun h=>sO hk.2 hq h
 have hlen:=yY (Ap v_l) hq
 have hen:=fun h=>yc hq h
 have q0:=hq.1
 have q1:=hq.2.1
 dsimp only at q0 q1 hst
 have hin:Ot v_l (v_l.getD i.toNat [])=if ri (v_l.getD i.toNat []) 0 < ri (v_l.getD i.toNat []) 1∧Kx v_l (ri (v_l.getD i.toNat []) 1) (ri (v_l.getD i.toNat []) 0)=true∧(GY v_l (ri (v_l.getD i.toNat []) 1) (ri (v_l.getD i.toNat []) 0)).w=ri (v_l.getD i.toNat []) 2∧(GY v_l (ri (v_l.getD i.toNat []) 1) (ri (v_l.getD i.toNat []) 0)).s=ri (v_l.getD i.toNat []) 3 then [[D.int (ri (v_l.getD i.toNat []) 0),D.int (ri (v_l.getD i.toNat []) 1),D.int (ri (v_l.getD i.toNat []) 2),D.int (ri (v_l.getD i.toNat []) 3),D.bool (rb (v_l.getD i.toNat []) 4 && (GY v_l (ri (v_l.getD i.toNat []) 1) (ri (v_l.getD i.toNat []) 0)).m)]] else []:=rfl
 subst hA
 generalize hA:Ar.U=A
 generalize hL:Lp _ _ _=L
 refine aT zq ?_
 repeat' (first|(refine ay zq ?_;try dsimp only)|refine ax zq ?_ (aa hL)|refine az zq ?_|refine aw ?_|refine aq ?_|refine au ?_|refine ar ?_|refine al rfl ?_|refine ai rfl ?_|refine aj rfl ?_|(refine Cd.mk ?_;cbv)|(refine aF.mk ?_;cbv)|(refine aK.mk ?_;cbv)|exact trivial|refine And.intro ?_ ?_|refine aZ fun _=>?_|refine ba fun _=>?_)
 all_goals (clear hL hfs zq Z hq;subst hA hF hG0 hG1 hO;simp only [Vl.U,Ar.U] at * <;> grind [ah,Bp,Qq,sX,Ws,mi])
theorem vr:aC Tryz.prog 225 (tE Vl.U):=by
 refine aD (af.cons bP (af.cons lf af.nil rfl) rfl) Tryz.func225 rfl rfl fun xs h p hp=>?_
 unfold tE at hp
 split at hp
 ·cases hp
  exact⟨av rfl,fun hC _=>JM _ _ hC⟩
 ·cases hp
def sP (F:Vl):aW:=fun xs h=>match xs,h with
 |[.agg [.sl none (.ints .i64 v_n),.sl none (.ae (.int .i64 (.int .i64 (.int .i64 (.int .i64 (.bool .nil))))) v_l)]],[]=>some ⟨F.ue v_n v_l=true,.bB [.one (.sl none (.ae (.int .i64 (.int .i64 (.int .i64 (.int .i64 (.bool .nil))))) (F.Te v_n v_l))),I (F.Db v_n v_l)],[],[Any]⟩
 |_,_=>none
theorem Lx (v_n:List Int) (v_l:List E) (hC:Vl.U.ue v_n v_l=true):aR [(182,dv ViC.Vc.U),(208,nG ViR.Vs.U)] Tryz.f229 [.agg [.sl none (.ints .i64 v_n),.sl none (.ae (.int .i64 (.int .i64 (.int .i64 (.int .i64 (.bool .nil))))) v_l)]] [] ⟨Vl.U.ue v_n v_l=true,.bB [.one (.sl none (.ae (.int .i64 (.int .i64 (.int .i64 (.int .i64 (.bool .nil))))) (Vl.U.Te v_n v_l))),I (Vl.U.Db v_n v_l)],[],[Any]⟩:=by
 intro b gv
 have hk:v_n.length≤1000000∧v_l.length≤1000000:=of_decide_eq_true (show decide (v_n.length≤1000000∧v_l.length≤1000000)=true from hC)
 have hfs:=(af.cons bP (af.cons eS af.nil rfl) rfl)
 generalize hF:Vl.U=F at hC hfs ⊢
 generalize hG0:ViR.Vs.U=G0 at hC hfs ⊢
 generalize hG1:ViC.Vc.U=G1 at hC hfs ⊢
 generalize hA:Ar.U=A
 generalize hL:Lp _ _ _=L
 obtain⟨Z,zq⟩:=aH
 refine aA (aa hL) zq rfl ?_
 repeat' (first|(refine ay zq ?_;try dsimp only)|refine ax zq ?_ (aa hL)|refine az zq ?_|refine aw ?_|refine aq ?_|refine au ?_|refine ar ?_|refine al rfl ?_|refine ai rfl ?_|refine aj rfl ?_|(refine Cd.mk ?_;cbv)|(refine aF.mk ?_;cbv)|(refine aK.mk ?_;cbv)|exact trivial|refine And.intro ?_ ?_|refine aZ fun _=>?_|refine ba fun _=>?_)
 all_goals first|(show L _ _ _;skip)|(clear hL hfs zq Z;subst hA hF hG0 hG1;simp only [Vl.U,ViC.Vc.U,Ar.U] at * <;> grind [ah,Bp,Qq,mi];done)
 rename_i hx
 have hv:bE v_n v_l=true:=by
  clear hL hfs zq Z
  subst hA hF hG0 hG1
  simp only [ViC.Vc.U,Ar.U] at hx
  grind [ah,mi]
 clear hx
 have hbs:∀ t,JI v_n t=v_n.contains t:=fun t=>mv (by unfold bE at hv;rw [Bool.and_eq_true] at hv;exact hv.1) t
 subst hL
 refine bj (bo hfs) (JC v_l (SQ v_n)) (ZX A v_n v_l) (Sc v_l) (Wy 13 4) ⟨0,[]⟩ ?_ ?_ ?_
 ·exact uA _ _
 ·cbv
  repeat' (first|exact trivial|exact rfl|refine And.intro ?_ ?_)
 rintro⟨i,o⟩ hq O hO
 have hst:=fun h=>sO hk.2 hq h
 have hlen:=yY (JW v_n) hq
 have hen:=fun h=>yc hq h
 have q0:=hq.1
 have q1:=hq.2.1
 dsimp only at q0 q1 hst
 have hin:SQ v_n (v_l.getD i.toNat [])=if v_n.contains (ri (v_l.getD i.toNat []) 1)=true then [] else [[D.int (ri (v_l.getD i.toNat []) 0),D.int (ri (v_l.getD i.toNat []) 1),D.int (ri (v_l.getD i.toNat []) 2),D.int (ri (v_l.getD i.toNat []) 3),D.bool (rb (v_l.getD i.toNat []) 4)]]:=rfl
 subst hA
 generalize hA:Ar.U=A
 generalize hL:Lp _ _ _=L
 refine aT zq ?_
 repeat' (first|(refine ay zq ?_;try dsimp only)|refine ax zq ?_ (aa hL)|refine az zq ?_|refine aw ?_|refine aq ?_|refine au ?_|refine ar ?_|refine al rfl ?_|refine ai rfl ?_|refine aj rfl ?_|(refine Cd.mk ?_;cbv)|(refine aF.mk ?_;cbv)|(refine aK.mk ?_;cbv)|exact trivial|refine And.intro ?_ ?_|refine aZ fun _=>?_|refine ba fun _=>?_)
 all_goals (clear hL hfs zq Z hq;subst hA hF hG0 hG1 hO;simp only [Vl.U,ViR.Vs.U,Ar.U] at * <;> grind [ah,Bp,Qq,sX,Ws,mi])
theorem wa:aC Tryz.prog 229 (sP Vl.U):=by
 refine aD (af.cons bP (af.cons eS af.nil rfl) rfl) Tryz.func229 rfl rfl fun xs h p hp=>?_
 unfold sP at hp
 split at hp
 ·cases hp
  exact⟨av rfl,fun hC _=>Lx _ _ hC⟩
 ·cases hp
def tK (F:Vl):aW:=fun xs h=>match xs,h with
 |[.agg [.val (.int .i64 k_n),.val (.int .i64 qG),.val (.int .i64 k_w),.val (.int .i64 _),.val (.bool _)]],[]=>some ⟨True,.sa (.agg [.val (.int .i64 (F.YF k_n qG)),.val (.int .i64 (F.Yo k_n qG)),.val (.int .i64 k_w)]),[],[Any]⟩
 |_,_=>none
theorem Me (k_n:Int) (qG:Int) (k_w:Int) (k_s:Int) (k_m:Bool):aR [] Tryz.f242 [.agg [.val (.int .i64 k_n),.val (.int .i64 qG),.val (.int .i64 k_w),.val (.int .i64 k_s),.val (.bool k_m)]] [] ⟨True,.sa (.agg [.val (.int .i64 (Vl.U.YF k_n qG)),.val (.int .i64 (Vl.U.Yo k_n qG)),.val (.int .i64 k_w)]),[],[Any]⟩:=by
 intro b gv
 have hfs:=af.nil
 generalize hF:Vl.U=F at hfs ⊢
 generalize hG0:ViR.Vs.U=G0 at hfs ⊢
 generalize hG1:ViC.Vc.U=G1 at hfs ⊢
 generalize hA:Ar.U=A
 generalize hL:Lp _ _ _=L
 obtain⟨Z,zq⟩:=aH
 refine aA (aa hL) zq rfl ?_
 repeat' (first|(refine ay zq ?_;try dsimp only)|refine ax zq ?_ (aa hL)|refine az zq ?_|refine aw ?_|refine aq ?_|refine au ?_|refine ar ?_|refine al rfl ?_|refine ai rfl ?_|refine aj rfl ?_|(refine Cd.mk ?_;cbv)|(refine aF.mk ?_;cbv)|(refine aK.mk ?_;cbv)|exact trivial|refine And.intro ?_ ?_|refine aZ fun _=>?_|refine ba fun _=>?_)
 all_goals
  clear hL zq Z
  try clear hfs
  subst hA hF hG0 hG1
  simp only [Vl.U,Ar.U] at *
  try (grind [ah,Rh,Ow])
theorem xd:aC Tryz.prog 242 (tK Vl.U):=by
 refine aD af.nil Tryz.func242 rfl rfl fun xs h p hp=>?_
 unfold tK at hp
 split at hp
 ·cases hp
  exact⟨av rfl,fun _ _=>Me _ _ _ _ _⟩
 ·cases hp
def tm (F:Vl):aW:=fun xs h=>match xs,h with
 |[.agg [.sl none (.ints .i64 v_n),.sl none (.ae (.int .i64 (.int .i64 (.int .i64 (.int .i64 (.bool .nil))))) v_l)]],[]=>some ⟨F.ue v_n v_l=true,.bB [.one (.sl none (.ae (.int .i64 (.int .i64 (.int .i64 .nil))) (F.TQ v_n v_l))),I (F.Db v_n v_l)],[],[Any]⟩
 |_,_=>none
theorem KC (v_n:List Int) (v_l:List E) (hC:Vl.U.ue v_n v_l=true):aR [(225,tE Vl.U),(242,tK Vl.U)] Tryz.f226 [.agg [.sl none (.ints .i64 v_n),.sl none (.ae (.int .i64 (.int .i64 (.int .i64 (.int .i64 (.bool .nil))))) v_l)]] [] ⟨Vl.U.ue v_n v_l=true,.bB [.one (.sl none (.ae (.int .i64 (.int .i64 (.int .i64 .nil))) (Vl.U.TQ v_n v_l))),I (Vl.U.Db v_n v_l)],[],[Any]⟩:=by
 intro b gv
 have hk:v_n.length≤1000000∧v_l.length≤1000000:=of_decide_eq_true (show decide (v_n.length≤1000000∧v_l.length≤1000000)=true from hC)
 have hil:=PI v_l
 have hfs:=(af.cons vr (af.cons xd af.nil rfl) rfl)
 generalize hF:Vl.U=F at hC hfs ⊢
 generalize hG0:ViR.Vs.U=G0 at hC hfs ⊢
 generalize hG1:ViC.Vc.U=G1 at hC hfs ⊢
 generalize hA:Ar.U=A
 generalize hL:Lp _ _ _=L
 obtain⟨Z,zq⟩:=aH
 refine aA (aa hL) zq rfl ?_
 repeat' (first|(refine ay zq ?_;try dsimp only)|refine ax zq ?_ (aa hL)|refine az zq ?_|refine aw ?_|refine aq ?_|refine au ?_|refine ar ?_|refine al rfl ?_|refine ai rfl ?_|refine aj rfl ?_|(refine Cd.mk ?_;cbv)|(refine aF.mk ?_;cbv)|(refine aK.mk ?_;cbv)|exact trivial|refine And.intro ?_ ?_|refine aZ fun _=>?_|refine ba fun _=>?_)
 all_goals first|(show L _ _ _;skip)|(clear hL hfs zq Z;subst hA hF hG0 hG1;simp only [Vl.U,Ar.U] at * <;> grind [ah,Bp,Uw,mi];done)
 rename_i hx
 have hv:bE v_n v_l=true:=by
  clear hL hfs zq Z
  subst hA hF hG0 hG1
  simp only [Vl.U,Ar.U] at hx
  grind [ah,mi]
 have hiv:Bp v_n v_l=sX v_l:=if_pos hv
 clear hx
 subst hL
 refine bj (bo hfs) (JC (sX v_l) Su) (boS A (F.PC v_n v_l)) (Sc (sX v_l)) (Wy 19 6) ⟨0,[]⟩ ?_ ?_ ?_
 ·exact uA _ _
 ·cbv
  repeat' (first|exact trivial|exact rfl|refine And.intro ?_ ?_)
 rintro⟨i,o⟩ hq O hO
 have hst:=fun h=>sO (by omega) hq h
 have hlen:=yY MH hq
 have hen:=fun h=>yc hq h
 have q0:=hq.1
 have q1:=hq.2.1
 dsimp only at q0 q1 hst
 have hin:Su ((sX v_l).getD i.toNat [])=if rb ((sX v_l).getD i.toNat []) 4=true then [[D.int (Rh (ri ((sX v_l).getD i.toNat []) 0) (ri ((sX v_l).getD i.toNat []) 1)),D.int (Ow (ri ((sX v_l).getD i.toNat []) 0) (ri ((sX v_l).getD i.toNat []) 1)),D.int (ri ((sX v_l).getD i.toNat []) 2)]] else []:=rfl
 subst hA
 generalize hA:Ar.U=A
 generalize hL:Lp _ _ _=L
 refine aT zq ?_
 repeat' (first|(refine ay zq ?_;try dsimp only)|refine ax zq ?_ (aa hL)|refine az zq ?_|refine aw ?_|refine aq ?_|refine au ?_|refine ar ?_|refine al rfl ?_|refine ai rfl ?_|refine aj rfl ?_|(refine Cd.mk ?_;cbv)|(refine aF.mk ?_;cbv)|(refine aK.mk ?_;cbv)|exact trivial|refine And.intro ?_ ?_|refine aZ fun _=>?_|refine ba fun _=>?_)
 all_goals (clear hL hfs zq Z hq;subst hA hF hG0 hG1 hO;simp only [Vl.U,Ar.U] at * <;> grind [ah,Uw,YR,mi])
theorem wE:aC Tryz.prog 226 (tm Vl.U):=by
 refine aD (af.cons vr (af.cons xd af.nil rfl) rfl) Tryz.func226 rfl rfl fun xs h p hp=>?_
 unfold tm at hp
 split at hp
 ·cases hp
  exact⟨av rfl,fun hC _=>KC _ _ hC⟩
 ·cases hp
end Go.Proofs.YtakebkfhigadiaaGreat.ViL
