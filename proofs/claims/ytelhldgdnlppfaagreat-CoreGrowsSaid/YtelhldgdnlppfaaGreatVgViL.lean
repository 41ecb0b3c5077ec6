/-
  inner and outer links sj the reckoner. No condition.
-/
import Derived.Test.YtelhldgdnlppfaaGreatVgW23
set_option cbv.maxSteps 4000000
set_option maxHeartbeats 4000000
set_option maxRecDepth 100000
namespace Go.Proofs.YtelhldgdnlppfaaGreat.ViL
open Go Ry Cmp ViR ViC
theorem BR (f:Int→Bool):∀ (k:Nat) (i j:Int),i≤j→i≤mz f k i j∧mz f k i j≤j
 |0,i,j,h=>⟨Int.le_refl i,h⟩
 |k+1,i,j,h=>by
  unfold mz
  by_cases c:i < j
  ·rw [if_pos c]
   have hb:i≤hf i j∧hf i j < j:=by unfold hf;omega
   split
   ·have:=BR f k (hf i j+1) j (by omega)
    omega
   ·have:=BR f k i (hf i j) (by omega)
    omega
  ·rw [if_neg c]
   omega
theorem Wj (l:List E) (n p:Int):0≤Gu l n p∧Gu l n p≤l.length:=BR _ _ 0 _ (Int.natCast_nonneg _)
noncomputable def bfS (A:Ar) (l:List E) (n p w s:Int) (mk:Bool) (y:XJ):St:=cC Tryz.f197.ntmps [(0,.sl none (.ah (.int .i64 (.int .i64 (.int .i64 (.int .i64 (.bool .nil))))) l)),(2,.val (.func (.func 140) ⟨[]⟩ ⟨[]⟩)),(4,.ptr 1 0),(8,.val (.int .i64 (A.dN l))),(9,.val (.int .i64 y.i)),(10,.val (.int .i64 y.j))] [(1,.cells 94 [.val (.int .i64 n),.val (.int .i64 p),.val (.int .i64 w),.val (.int .i64 s),.val (.bool mk)])] [Any,Any,Any]
def bfR (st:St):XJ:=⟨bR st 9,bR st 10⟩
structure KK where
 n:Int
 p:Int
 w:Int
 s:Int
 m:Bool
def KB (l:List E) (n p:Int):KK:=if Pg l n p=true then ⟨ri (l.getD (Gu l n p).toNat []) 0,ri (l.getD (Gu l n p).toNat []) 1,ri (l.getD (Gu l n p).toNat []) 2,ri (l.getD (Gu l n p).toNat []) 3,rb (l.getD (Gu l n p).toNat []) 4⟩ else ⟨0,0,0,0,false⟩
def OX (l:List E) (y:E):List E:=if ri y 0 < ri y 1∧Pg l (ri y 1) (ri y 0)=true∧(KB l (ri y 1) (ri y 0)).w=ri y 2∧(KB l (ri y 1) (ri y 0)).s=ri y 3 then [[D.int (ri y 0),D.int (ri y 1),D.int (ri y 2),D.int (ri y 3),D.bool (rb y 4 && (KB l (ri y 1) (ri y 0)).m)]] else []
def XH (n:List Int) (y:E):List E:=if n.contains (ri y 1)=true then [] else [[D.int (ri y 0),D.int (ri y 1),D.int (ri y 2),D.int (ri y 3),D.bool (rb y 4)]]
def Hy (n p:Int):Int:=if p < n then p else n
def IW (n p:Int):Int:=if p < n then n else p
def WH (y:E):List E:=if rb y 4=true then [[D.int (Hy (ri y 0) (ri y 1)),D.int (IW (ri y 0) (ri y 1)),D.int (ri y 2)]] else []
def tY (l:List E):List E:=l.flatMap (OX l)
def Vj (n:List Int) (l:List E):List E:=l.flatMap (XH n)
def boF (l:List E):List E:=l.flatMap WH
def lF (n:List Int) (l:List E):List E:=if bf n l=true then tY l else []
def tZ (n:List Int) (l:List E):List E:=if bf n l=true then Vj n l else []
def vC (n:List Int) (l:List E):List E:=if bf n l=true then boF (tY l) else []
structure XC where
 i:Int
 o:List E
def Mj (l:List E) (f:E→List E) (y:XC):Prop:=0≤y.i∧y.i≤l.length∧y.o=(l.take y.i.toNat).flatMap f
def Vo (l:List E) (y:XC):Nat:=l.length - y.i.toNat
theorem xg (l:List E) (f:E→List E):Mj l f ⟨0,[]⟩:=⟨Int.le_refl 0,Int.natCast_nonneg _,rfl⟩
theorem sd {f:E→List E} (hf:∀ y,(f y).length≤1):∀ l:List E,(l.flatMap f).length≤l.length
 |[]=>Nat.le_refl _
 |y :: l=>by
  have:=sd hf l
  have:=hf y
  rw [List.flatMap_cons,List.length_append,List.length_cons]
  omega
theorem BQ {l:List E} {f:E→List E} (hf:∀ y,(f y).length≤1) {i:Int} {o:List E} (hq:Mj l f ⟨i,o⟩):o.length≤l.length:=by
 have h:=sd hf (l.take i.toNat)
 have h2:=hq.2.2
 simp only at h2
 rw [h2]
 rw [List.length_take] at h
 omega
theorem xB {l:List E} {f:E→List E} (hl:l.length≤1000000) {i:Int} {o:List E} (hq:Mj l f ⟨i,o⟩) (h:i < l.length):aO .add .i64 i 1=i+1∧(∀ p,Vo l ⟨i+1,p⟩ < Vo l ⟨i,o⟩)∧(f (l.getD i.toNat [])=[]→Mj l f ⟨i+1,o⟩)∧(∀ e,f (l.getD i.toNat [])=[e]→Mj l f ⟨i+1,o ++ [e]⟩):=by
 obtain⟨h0,h1,h2⟩:=hq
 simp only at h0 h1 h2
 have ht:=fa l i h0 h
 refine⟨by rw [bo,wr _ (by omega) (by omega)],fun p=>by simp only [Vo];omega,fun g=>⟨by simp only;omega,by simp only;omega,?_⟩,fun e g=>⟨by simp only;omega,by simp only;omega,?_⟩⟩
 ·simp only
  rw [ht,List.flatMap_append,← h2]
  simp [List.flatMap_cons,List.getD_eq_getElem?_getD] at g ⊢
  exact g
 ·simp only
  rw [ht,List.flatMap_append,← h2]
  simp [List.flatMap_cons,List.getD_eq_getElem?_getD] at g ⊢
  exact g.symm
theorem BC {l:List E} {f:E→List E} {i:Int} {o:List E} (hq:Mj l f ⟨i,o⟩) (h:¬i < l.length):o=l.flatMap f:=by
 obtain⟨h0,h1,h2⟩:=hq
 simp only at h0 h1 h2
 have e:i=l.length:=by omega
 rw [e,Int.toNat_natCast,List.take_length] at h2
 exact h2
theorem CV (l:List E) (y:E):(OX l y).length≤1:=by unfold OX;split <;> simp
theorem CM (n:List Int) (y:E):(XH n y).length≤1:=by unfold XH;split <;> simp
theorem EC (y:E):(WH y).length≤1:=by unfold WH;split <;> simp
theorem By (l:List E):(tY l).length≤l.length:=sd (CV l) l
noncomputable def inS (A:Ar) (n:List Int) (l:List E) (y:XC):St:=cC Tryz.f151.ntmps [(1,.ptr 1 0),(4,.sl (some (2,94)) (.ah (.int .i64 (.int .i64 (.int .i64 (.int .i64 (.bool .nil))))) y.o)),(13,.sl none (.ah (.int .i64 (.int .i64 (.int .i64 (.int .i64 (.bool .nil))))) l)),(14,.val (.int .i64 (A.dN l))),(15,.val (.int .i64 y.i))] [(1,.cells 29 [.sl none (.ints .i64 n),.sl none (.ah (.int .i64 (.int .i64 (.int .i64 (.int .i64 (.bool .nil))))) l)]),(2,.tok)] [Any]
noncomputable def ouS (A:Ar) (n:List Int) (l:List E) (y:XC):St:=cC Tryz.f155.ntmps [(1,.ptr 1 0),(4,.sl (some (2,94)) (.ah (.int .i64 (.int .i64 (.int .i64 (.int .i64 (.bool .nil))))) y.o)),(11,.sl none (.ah (.int .i64 (.int .i64 (.int .i64 (.int .i64 (.bool .nil))))) l)),(12,.val (.int .i64 (A.dN l))),(13,.val (.int .i64 y.i))] [(1,.cells 29 [.sl none (.ints .i64 n),.sl none (.ah (.int .i64 (.int .i64 (.int .i64 (.int .i64 (.bool .nil))))) l)]),(2,.tok)] [Any]
noncomputable def boS (A:Ar) (l:List E) (y:XC):St:=cC Tryz.f152.ntmps [(6,.sl (some (2,183)) (.ah (.int .i64 (.int .i64 (.int .i64 .nil))) y.o)),(17,.sl none (.ah (.int .i64 (.int .i64 (.int .i64 (.int .i64 (.bool .nil))))) l)),(18,.val (.int .i64 (A.dN l))),(19,.val (.int .i64 y.i))] [(2,.tok)] [Any]
def coR (i o:Nat) (st:St):XC:=⟨bR st i,ZS (match jA st o with | .sl _ c=>c|_=>.ah .nil [])⟩
structure Vl where
 Xk:List E→Int→Int→Int
 Pd:List E→Int→Int→Bool
 uw:List E→Int→Int→KK
 RC:List Int→List E→List E
 Yy:List Int→List E→List E
 Wv:List Int→List E→List E
 l_a:Int→Int→Int
 l_b:Int→Int→Int
 FF:List Int→List E→Int
 Fv:List E→Bool
 wJ:List Int→List E→Bool
def Vl.U:Vl:=⟨Gu,Pg,KB,lF,tZ,vC,Hy,IW,ob,fun l=>decide (l.length≤1000000),fun n l=>decide (n.length≤1000000∧l.length≤1000000)⟩
def sD (F:Vl):aY:=fun xs h=>match xs,h with
 |[.one (.sl none (.ah (.int .i64 (.int .i64 (.int .i64 (.int .i64 (.bool .nil))))) l)),.agg [.val (.int .i64 k_n),.val (.int .i64 k_p),.val (.int .i64 _),.val (.int .i64 _),.val (.bool _)],.one (.val (.func (.func 140) ⟨[]⟩ ⟨[]⟩))],[]=>some ⟨F.Fv l=true,.bK [I (F.Xk l k_n k_p),B (F.Pd l k_n k_p)],[],[Any,Any,Any]⟩
 |_,_=>none
theorem GU (l:List E) (k_n:Int) (k_p:Int) (k_w:Int) (k_s:Int) (k_m:Bool) (hC:Vl.U.Fv l=true):aV [(140,xV ViR.Vs.U)] Tryz.f197 [.one (.sl none (.ah (.int .i64 (.int .i64 (.int .i64 (.int .i64 (.bool .nil))))) l)),.agg [.val (.int .i64 k_n),.val (.int .i64 k_p),.val (.int .i64 k_w),.val (.int .i64 k_s),.val (.bool k_m)],.one (.val (.func (.func 140) ⟨[]⟩ ⟨[]⟩))] [] ⟨Vl.U.Fv l=true,.bK [I (Vl.U.Xk l k_n k_p),B (Vl.U.Pd l k_n k_p)],[],[Any,Any,Any]⟩:=by
 intro b gv
 have hk:l.length≤1000000:=of_decide_eq_true (show decide (l.length≤1000000)=true from hC)
 have hfs:=(af.cons rn af.nil rfl)
 generalize hF:Vl.U=F at hC hfs ⊢
 generalize hG0:ViR.Vs.U=G0 at hC hfs ⊢
 generalize hG1:ViC.Vc.U=G1 at hC hfs ⊢
 generalize hA:Ar.U=A
 generalize hL:Lp _ _ _=L
 obtain⟨Z,zq⟩:=aQ
 refine aD (ae hL) zq rfl ?_
 repeat' (first|(refine aw zq ?_;try dsimp only)|refine ax zq ?_ (ae hL)|refine az zq ?_|refine ay ?_|refine aq ?_|refine ar ?_|refine av ?_|refine au rfl ?_|refine ai rfl ?_|refine aj rfl ?_|(refine Cd.mk ?_;cbv)|(refine aE.mk ?_;cbv)|(refine aM.mk ?_;cbv)|exact trivial|refine And.intro ?_ ?_|refine bu fun _=>?_|refine br fun _=>?_)
 subst hL
 refine ba (bx hfs) (Mf (ltK l k_n k_p) l.length) (bfS A l k_n k_p k_w k_s k_m) (JY) bfR ⟨0,A.dN l⟩ ?_ ?_ ?_
 ·(subst hA;exact wP _ _)
 ·cbv
  repeat' (first|exact trivial|exact rfl|refine And.intro ?_ ?_)
 rintro⟨i,j⟩ hq O hO
 have hst:=fun h=>xh hk hq h
 have hen:=fun h=>KW hq h
 have q0:=hq.1
 have q1:=hq.2.1
 have q2:=hq.2.2.1
 dsimp only at q0 q1 q2
 subst hA
 generalize hA:Ar.U=A
 generalize hL:Lp _ _ _=L
 refine aR zq ?_
 repeat' (first|(refine aw zq ?_;try dsimp only)|refine ax zq ?_ (ae hL)|refine az zq ?_|refine ay ?_|refine aq ?_|refine ar ?_|refine av ?_|refine au rfl ?_|refine ai rfl ?_|refine aj rfl ?_|(refine Cd.mk ?_;cbv)|(refine aE.mk ?_;cbv)|(refine aM.mk ?_;cbv)|exact trivial|refine And.intro ?_ ?_|refine bu fun _=>?_|refine br fun _=>?_)
 all_goals (clear hL hfs zq Z hq;subst hA hF hG0 hG1 hO;simp only [Vl.U,ViR.Vs.U,Ar.U] at *)
 all_goals first|(have h1:=hst (of_decide_eq_true (show decide (i < j)=true from ‹al .lss i j=true›));clear hst hen;grind [al,JY,ltK,Gu,Pg])|(have h1:i=Gu l k_n k_p∧0≤i∧i≤l.length:=hen (of_decide_eq_false (show decide (i < j)=false from ‹al .lss i j=false›));clear hst hen;first|assumption|(obtain⟨h1,h2,h3⟩:=h1;subst h1;unfold Pg;grind [al])|(grind [al,Pg]))
theorem rO:aA Tryz.prog 197 (sD Vl.U):=by
 refine aG (af.cons rn af.nil rfl) Tryz.func197 rfl rfl fun xs h p hp=>?_
 unfold sD at hp
 split at hp
 ·cases hp
  exact⟨aB rfl,fun hC _=>GU _ _ _ _ _ _ hC⟩
 ·cases hp
def qz (F:Vl):aY:=fun xs h=>match xs,h with
 |[.agg [.sl none (.ints .i64 _),.sl none (.ah (.int .i64 (.int .i64 (.int .i64 (.int .i64 (.bool .nil))))) v_l)],.one (.val (.int .i64 t)),.one (.val (.int .i64 p))],[]=>some ⟨F.Fv v_l=true,.bK [.agg [.val (.int .i64 (F.uw v_l t p).n),.val (.int .i64 (F.uw v_l t p).p),.val (.int .i64 (F.uw v_l t p).w),.val (.int .i64 (F.uw v_l t p).s),.val (.bool (F.uw v_l t p).m)],B (F.Pd v_l t p)],[],[Any,Any,Any]⟩
 |_,_=>none
theorem OE (v_n:List Int) (v_l:List E) (t:Int) (p:Int) (hC:Vl.U.Fv v_l=true):aV [(197,sD Vl.U)] Tryz.f169 [.agg [.sl none (.ints .i64 v_n),.sl none (.ah (.int .i64 (.int .i64 (.int .i64 (.int .i64 (.bool .nil))))) v_l)],.one (.val (.int .i64 t)),.one (.val (.int .i64 p))] [] ⟨Vl.U.Fv v_l=true,.bK [.agg [.val (.int .i64 (Vl.U.uw v_l t p).n),.val (.int .i64 (Vl.U.uw v_l t p).p),.val (.int .i64 (Vl.U.uw v_l t p).w),.val (.int .i64 (Vl.U.uw v_l t p).s),.val (.bool (Vl.U.uw v_l t p).m)],B (Vl.U.Pd v_l t p)],[],[Any,Any,Any]⟩:=by
 intro b gv
 have h1:=Wj v_l t p
 have hfs:=(af.cons rO af.nil rfl)
 generalize hF:Vl.U=F at hC hfs ⊢
 generalize hG0:ViR.Vs.U=G0 at hC hfs ⊢
 generalize hG1:ViC.Vc.U=G1 at hC hfs ⊢
 generalize hA:Ar.U=A
 generalize hL:Lp _ _ _=L
 obtain⟨Z,zq⟩:=aQ
 refine aD (ae hL) zq rfl ?_
 repeat' (first|(refine aw zq ?_;try dsimp only)|refine ax zq ?_ (ae hL)|refine az zq ?_|refine ay ?_|refine aq ?_|refine ar ?_|refine av ?_|refine au rfl ?_|refine ai rfl ?_|refine aj rfl ?_|(refine Cd.mk ?_;cbv)|(refine aE.mk ?_;cbv)|(refine aM.mk ?_;cbv)|exact trivial|refine And.intro ?_ ?_|refine bu fun _=>?_|refine br fun _=>?_)
 all_goals
  clear hL zq Z
  try clear hfs
  subst hA hF hG0 hG1
  simp only [Vl.U,Ar.U] at *
  try (grind [al,KB,Pg])
theorem nQ:aA Tryz.prog 169 (qz Vl.U):=by
 refine aG (af.cons rO af.nil rfl) Tryz.func169 rfl rfl fun xs h p hp=>?_
 unfold qz at hp
 split at hp
 ·cases hp
  exact⟨aB rfl,fun hC _=>OE _ _ _ _ hC⟩
 ·cases hp
def qD (F:Vl):aY:=fun xs h=>match xs,h with
 |[.agg [.sl none (.ints .i64 v_n),.sl none (.ah (.int .i64 (.int .i64 (.int .i64 (.int .i64 (.bool .nil))))) v_l)]],[]=>some ⟨F.wJ v_n v_l=true,.bK [.one (.sl none (.ah (.int .i64 (.int .i64 (.int .i64 (.int .i64 (.bool .nil))))) (F.RC v_n v_l))),I (F.FF v_n v_l)],[],[Any]⟩
 |_,_=>none
theorem Og (v_n:List Int) (v_l:List E) (hC:Vl.U.wJ v_n v_l=true):aV [(129,dD ViC.Vc.U),(169,qz Vl.U)] Tryz.f151 [.agg [.sl none (.ints .i64 v_n),.sl none (.ah (.int .i64 (.int .i64 (.int .i64 (.int .i64 (.bool .nil))))) v_l)]] [] ⟨Vl.U.wJ v_n v_l=true,.bK [.one (.sl none (.ah (.int .i64 (.int .i64 (.int .i64 (.int .i64 (.bool .nil))))) (Vl.U.RC v_n v_l))),I (Vl.U.FF v_n v_l)],[],[Any]⟩:=by
 intro b gv
 have hk:v_n.length≤1000000∧v_l.length≤1000000:=of_decide_eq_true (show decide (v_n.length≤1000000∧v_l.length≤1000000)=true from hC)
 have hfs:=(af.cons bM (af.cons nQ af.nil rfl) rfl)
 generalize hF:Vl.U=F at hC hfs ⊢
 generalize hG0:ViR.Vs.U=G0 at hC hfs ⊢
 generalize hG1:ViC.Vc.U=G1 at hC hfs ⊢
 generalize hA:Ar.U=A
 generalize hL:Lp _ _ _=L
 obtain⟨Z,zq⟩:=aQ
 refine aD (ae hL) zq rfl ?_
 repeat' (first|(refine aw zq ?_;try dsimp only)|refine ax zq ?_ (ae hL)|refine az zq ?_|refine ay ?_|refine aq ?_|refine ar ?_|refine av ?_|refine au rfl ?_|refine ai rfl ?_|refine aj rfl ?_|(refine Cd.mk ?_;cbv)|(refine aE.mk ?_;cbv)|(refine aM.mk ?_;cbv)|exact trivial|refine And.intro ?_ ?_|refine bu fun _=>?_|refine br fun _=>?_)
 all_goals first|(show L _ _ _;skip)|(clear hL hfs zq Z;subst hA hF hG0 hG1;simp only [Vl.U,ViC.Vc.U,Ar.U] at * <;> grind [al,lF,tZ,ob];done)
 rename_i hx
 have hv:bf v_n v_l=true:=by
  clear hL hfs zq Z
  subst hA hF hG0 hG1
  simp only [ViC.Vc.U,Ar.U] at hx
  grind [al,ob]
 clear hx
 subst hL
 refine ba (bx hfs) (Mj v_l (OX v_l)) (inS A v_n v_l) (Vo v_l) (coR 15 4) ⟨0,[]⟩ ?_ ?_ ?_
 ·exact xg _ _
 ·cbv
  repeat' (first|exact trivial|exact rfl|refine And.intro ?_ ?_)
 rintro⟨i,o⟩ hq O hO
 have hst:=fun h=>xB hk.2 hq h
 have hlen:=BQ (CV v_l) hq
 have hen:=fun h=>BC hq h
 have q0:=hq.1
 have q1:=hq.2.1
 dsimp only at q0 q1 hst
 have hin:OX v_l (v_l.getD i.toNat [])=if ri (v_l.getD i.toNat []) 0 < ri (v_l.getD i.toNat []) 1∧Pg v_l (ri (v_l.getD i.toNat []) 1) (ri (v_l.getD i.toNat []) 0)=true∧(KB v_l (ri (v_l.getD i.toNat []) 1) (ri (v_l.getD i.toNat []) 0)).w=ri (v_l.getD i.toNat []) 2∧(KB v_l (ri (v_l.getD i.toNat []) 1) (ri (v_l.getD i.toNat []) 0)).s=ri (v_l.getD i.toNat []) 3 then [[D.int (ri (v_l.getD i.toNat []) 0),D.int (ri (v_l.getD i.toNat []) 1),D.int (ri (v_l.getD i.toNat []) 2),D.int (ri (v_l.getD i.toNat []) 3),D.bool (rb (v_l.getD i.toNat []) 4 && (KB v_l (ri (v_l.getD i.toNat []) 1) (ri (v_l.getD i.toNat []) 0)).m)]] else []:=rfl
 subst hA
 generalize hA:Ar.U=A
 generalize hL:Lp _ _ _=L
 refine aR zq ?_
 repeat' (first|(refine aw zq ?_;try dsimp only)|refine ax zq ?_ (ae hL)|refine az zq ?_|refine ay ?_|refine aq ?_|refine ar ?_|refine av ?_|refine au rfl ?_|refine ai rfl ?_|refine aj rfl ?_|(refine Cd.mk ?_;cbv)|(refine aE.mk ?_;cbv)|(refine aM.mk ?_;cbv)|exact trivial|refine And.intro ?_ ?_|refine bu fun _=>?_|refine br fun _=>?_)
 all_goals (clear hL hfs zq Z hq;subst hA hF hG0 hG1 hO;simp only [Vl.U,Ar.U] at * <;> grind [al,lF,tZ,tY,Vj,ob])
theorem nX:aA Tryz.prog 151 (qD Vl.U):=by
 refine aG (af.cons bM (af.cons nQ af.nil rfl) rfl) Tryz.func151 rfl rfl fun xs h p hp=>?_
 unfold qD at hp
 split at hp
 ·cases hp
  exact⟨aB rfl,fun hC _=>Og _ _ hC⟩
 ·cases hp
def qZ (F:Vl):aY:=fun xs h=>match xs,h with
 |[.agg [.sl none (.ints .i64 v_n),.sl none (.ah (.int .i64 (.int .i64 (.int .i64 (.int .i64 (.bool .nil))))) v_l)]],[]=>some ⟨F.wJ v_n v_l=true,.bK [.one (.sl none (.ah (.int .i64 (.int .i64 (.int .i64 (.int .i64 (.bool .nil))))) (F.Yy v_n v_l))),I (F.FF v_n v_l)],[],[Any]⟩
 |_,_=>none
theorem MY (v_n:List Int) (v_l:List E) (hC:Vl.U.wJ v_n v_l=true):aV [(129,dD ViC.Vc.U),(135,qa ViR.Vs.U)] Tryz.f155 [.agg [.sl none (.ints .i64 v_n),.sl none (.ah (.int .i64 (.int .i64 (.int .i64 (.int .i64 (.bool .nil))))) v_l)]] [] ⟨Vl.U.wJ v_n v_l=true,.bK [.one (.sl none (.ah (.int .i64 (.int .i64 (.int .i64 (.int .i64 (.bool .nil))))) (Vl.U.Yy v_n v_l))),I (Vl.U.FF v_n v_l)],[],[Any]⟩:=by
 intro b gv
 have hk:v_n.length≤1000000∧v_l.length≤1000000:=of_decide_eq_true (show decide (v_n.length≤1000000∧v_l.length≤1000000)=true from hC)
 have hfs:=(af.cons bM (af.cons fK af.nil rfl) rfl)
 generalize hF:Vl.U=F at hC hfs ⊢
 generalize hG0:ViR.Vs.U=G0 at hC hfs ⊢
 generalize hG1:ViC.Vc.U=G1 at hC hfs ⊢
 generalize hA:Ar.U=A
 generalize hL:Lp _ _ _=L
 obtain⟨Z,zq⟩:=aQ
 refine aD (ae hL) zq rfl ?_
 repeat' (first|(refine aw zq ?_;try dsimp only)|refine ax zq ?_ (ae hL)|refine az zq ?_|refine ay ?_|refine aq ?_|refine ar ?_|refine av ?_|refine au rfl ?_|refine ai rfl ?_|refine aj rfl ?_|(refine Cd.mk ?_;cbv)|(refine aE.mk ?_;cbv)|(refine aM.mk ?_;cbv)|exact trivial|refine And.intro ?_ ?_|refine bu fun _=>?_|refine br fun _=>?_)
 all_goals first|(show L _ _ _;skip)|(clear hL hfs zq Z;subst hA hF hG0 hG1;simp only [Vl.U,ViC.Vc.U,Ar.U] at * <;> grind [al,lF,tZ,ob];done)
 rename_i hx
 have hv:bf v_n v_l=true:=by
  clear hL hfs zq Z
  subst hA hF hG0 hG1
  simp only [ViC.Vc.U,Ar.U] at hx
  grind [al,ob]
 clear hx
 have hbs:∀ t,Pv v_n t=v_n.contains t:=fun t=>pB (by unfold bf at hv;rw [Bool.and_eq_true] at hv;exact hv.1) t
 subst hL
 refine ba (bx hfs) (Mj v_l (XH v_n)) (ouS A v_n v_l) (Vo v_l) (coR 13 4) ⟨0,[]⟩ ?_ ?_ ?_
 ·exact xg _ _
 ·cbv
  repeat' (first|exact trivial|exact rfl|refine And.intro ?_ ?_)
 rintro⟨i,o⟩ hq O hO
 have hst:=fun h=>xB hk.2 hq h
 have hlen:=BQ (CM v_n) hq
 have hen:=fun h=>BC hq h
 have q0:=hq.1
 have q1:=hq.2.1
 dsimp only at q0 q1 hst
 have hin:XH v_n (v_l.getD i.toNat [])=if v_n.contains (ri (v_l.getD i.toNat []) 1)=true then [] else [[D.int (ri (v_l.getD i.toNat []) 0),D.int (ri (v_l.getD i.toNat []) 1),D.int (ri (v_l.getD i.toNat []) 2),D.int (ri (v_l.getD i.toNat []) 3),D.bool (rb (v_l.getD i.toNat []) 4)]]:=rfl
 subst hA
 generalize hA:Ar.U=A
 generalize hL:Lp _ _ _=L
 refine aR zq ?_
 repeat' (first|(refine aw zq ?_;try dsimp only)|refine ax zq ?_ (ae hL)|refine az zq ?_|refine ay ?_|refine aq ?_|refine ar ?_|refine av ?_|refine au rfl ?_|refine ai rfl ?_|refine aj rfl ?_|(refine Cd.mk ?_;cbv)|(refine aE.mk ?_;cbv)|(refine aM.mk ?_;cbv)|exact trivial|refine And.intro ?_ ?_|refine bu fun _=>?_|refine br fun _=>?_)
 all_goals (clear hL hfs zq Z hq;subst hA hF hG0 hG1 hO;simp only [Vl.U,ViR.Vs.U,Ar.U] at * <;> grind [al,lF,tZ,tY,Vj,ob])
theorem nZ:aA Tryz.prog 155 (qZ Vl.U):=by
 refine aG (af.cons bM (af.cons fK af.nil rfl) rfl) Tryz.func155 rfl rfl fun xs h p hp=>?_
 unfold qZ at hp
 split at hp
 ·cases hp
  exact⟨aB rfl,fun hC _=>MY _ _ hC⟩
 ·cases hp
def iP (F:Vl):aY:=fun xs h=>match xs,h with
 |[.agg [.val (.int .i64 k_n),.val (.int .i64 k_p),.val (.int .i64 k_w),.val (.int .i64 _),.val (.bool _)]],[]=>some ⟨True,.sa (.agg [.val (.int .i64 (F.l_a k_n k_p)),.val (.int .i64 (F.l_b k_n k_p)),.val (.int .i64 k_w)]),[],[Any]⟩
 |_,_=>none
theorem Mv (k_n:Int) (k_p:Int) (k_w:Int) (k_s:Int) (k_m:Bool):aV [] Tryz.f170 [.agg [.val (.int .i64 k_n),.val (.int .i64 k_p),.val (.int .i64 k_w),.val (.int .i64 k_s),.val (.bool k_m)]] [] ⟨True,.sa (.agg [.val (.int .i64 (Vl.U.l_a k_n k_p)),.val (.int .i64 (Vl.U.l_b k_n k_p)),.val (.int .i64 k_w)]),[],[Any]⟩:=by
 intro b gv
 have hfs:=af.nil
 generalize hF:Vl.U=F at hfs ⊢
 generalize hG0:ViR.Vs.U=G0 at hfs ⊢
 generalize hG1:ViC.Vc.U=G1 at hfs ⊢
 generalize hA:Ar.U=A
 generalize hL:Lp _ _ _=L
 obtain⟨Z,zq⟩:=aQ
 refine aD (ae hL) zq rfl ?_
 repeat' (first|(refine aw zq ?_;try dsimp only)|refine ax zq ?_ (ae hL)|refine az zq ?_|refine ay ?_|refine aq ?_|refine ar ?_|refine av ?_|refine au rfl ?_|refine ai rfl ?_|refine aj rfl ?_|(refine Cd.mk ?_;cbv)|(refine aE.mk ?_;cbv)|(refine aM.mk ?_;cbv)|exact trivial|refine And.intro ?_ ?_|refine bu fun _=>?_|refine br fun _=>?_)
 all_goals
  clear hL zq Z
  try clear hfs
  subst hA hF hG0 hG1
  simp only [Vl.U,Ar.U] at *
  try (grind [al,Hy,IW])
theorem dO:aA Tryz.prog 170 (iP Vl.U):=by
 refine aG af.nil Tryz.func170 rfl rfl fun xs h p hp=>?_
 unfold iP at hp
 split at hp
 ·cases hp
  exact⟨aB rfl,fun _ _=>Mv _ _ _ _ _⟩
 ·cases hp
def qB (F:Vl):aY:=fun xs h=>match xs,h with
 |[.agg [.sl none (.ints .i64 v_n),.sl none (.ah (.int .i64 (.int .i64 (.int .i64 (.int .i64 (.bool .nil))))) v_l)]],[]=>some ⟨F.wJ v_n v_l=true,.bK [.one (.sl none (.ah (.int .i64 (.int .i64 (.int .i64 .nil))) (F.Wv v_n v_l))),I (F.FF v_n v_l)],[],[Any]⟩
 |_,_=>none
theorem MJ (v_n:List Int) (v_l:List E) (hC:Vl.U.wJ v_n v_l=true):aV [(151,qD Vl.U),(170,iP Vl.U)] Tryz.f152 [.agg [.sl none (.ints .i64 v_n),.sl none (.ah (.int .i64 (.int .i64 (.int .i64 (.int .i64 (.bool .nil))))) v_l)]] [] ⟨Vl.U.wJ v_n v_l=true,.bK [.one (.sl none (.ah (.int .i64 (.int .i64 (.int .i64 .nil))) (Vl.U.Wv v_n v_l))),I (Vl.U.FF v_n v_l)],[],[Any]⟩:=by
 intro b gv
 have hk:v_n.length≤1000000∧v_l.length≤1000000:=of_decide_eq_true (show decide (v_n.length≤1000000∧v_l.length≤1000000)=true from hC)
 have hil:=By v_l
 have hfs:=(af.cons nX (af.cons dO af.nil rfl) rfl)
 generalize hF:Vl.U=F at hC hfs ⊢
 generalize hG0:ViR.Vs.U=G0 at hC hfs ⊢
 generalize hG1:ViC.Vc.U=G1 at hC hfs ⊢
 generalize hA:Ar.U=A
 generalize hL:Lp _ _ _=L
 obtain⟨Z,zq⟩:=aQ
 refine aD (ae hL) zq rfl ?_
 repeat' (first|(refine aw zq ?_;try dsimp only)|refine ax zq ?_ (ae hL)|refine az zq ?_|refine ay ?_|refine aq ?_|refine ar ?_|refine av ?_|refine au rfl ?_|refine ai rfl ?_|refine aj rfl ?_|(refine Cd.mk ?_;cbv)|(refine aE.mk ?_;cbv)|(refine aM.mk ?_;cbv)|exact trivial|refine And.intro ?_ ?_|refine bu fun _=>?_|refine br fun _=>?_)
 all_goals first|(show L _ _ _;skip)|(clear hL hfs zq Z;subst hA hF hG0 hG1;simp only [Vl.U,Ar.U] at * <;> grind [al,lF,vC,ob];done)
 rename_i hx
 have hv:bf v_n v_l=true:=by
  clear hL hfs zq Z
  subst hA hF hG0 hG1
  simp only [Vl.U,Ar.U] at hx
  grind [al,ob]
 have hiv:lF v_n v_l=tY v_l:=if_pos hv
 clear hx
 subst hL
 refine ba (bx hfs) (Mj (tY v_l) WH) (boS A (F.RC v_n v_l)) (Vo (tY v_l)) (coR 19 6) ⟨0,[]⟩ ?_ ?_ ?_
 ·exact xg _ _
 ·cbv
  repeat' (first|exact trivial|exact rfl|refine And.intro ?_ ?_)
 rintro⟨i,o⟩ hq O hO
 have hst:=fun h=>xB (by omega) hq h
 have hlen:=BQ EC hq
 have hen:=fun h=>BC hq h
 have q0:=hq.1
 have q1:=hq.2.1
 dsimp only at q0 q1 hst
 have hin:WH ((tY v_l).getD i.toNat [])=if rb ((tY v_l).getD i.toNat []) 4=true then [[D.int (Hy (ri ((tY v_l).getD i.toNat []) 0) (ri ((tY v_l).getD i.toNat []) 1)),D.int (IW (ri ((tY v_l).getD i.toNat []) 0) (ri ((tY v_l).getD i.toNat []) 1)),D.int (ri ((tY v_l).getD i.toNat []) 2)]] else []:=rfl
 subst hA
 generalize hA:Ar.U=A
 generalize hL:Lp _ _ _=L
 refine aR zq ?_
 repeat' (first|(refine aw zq ?_;try dsimp only)|refine ax zq ?_ (ae hL)|refine az zq ?_|refine ay ?_|refine aq ?_|refine ar ?_|refine av ?_|refine au rfl ?_|refine ai rfl ?_|refine aj rfl ?_|(refine Cd.mk ?_;cbv)|(refine aE.mk ?_;cbv)|(refine aM.mk ?_;cbv)|exact trivial|refine And.intro ?_ ?_|refine bu fun _=>?_|refine br fun _=>?_)
 all_goals (clear hL hfs zq Z hq;subst hA hF hG0 hG1 hO;simp only [Vl.U,Ar.U] at * <;> grind [al,vC,boF,ob])
theorem mU:aA Tryz.prog 152 (qB Vl.U):=by
 refine aG (af.cons nX (af.cons dO af.nil rfl) rfl) Tryz.func152 rfl rfl fun xs h p hp=>?_
 unfold qB at hp
 split at hp
 ·cases hp
  exact⟨aB rfl,fun hC _=>MJ _ _ hC⟩
 ·cases hp
end Go.Proofs.YtelhldgdnlppfaaGreat.ViL
