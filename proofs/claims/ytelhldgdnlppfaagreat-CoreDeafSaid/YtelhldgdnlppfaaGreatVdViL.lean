/-
  inner and outer links yz the reckoner. No condition.
-/
import Derived.Test.YtelhldgdnlppfaaGreatVdW22
set_option cbv.maxSteps 4000000
set_option maxHeartbeats 4000000
set_option maxRecDepth 100000
namespace Go.Proofs.YtelhldgdnlppfaaGreat.ViL
open Go Ry Cmp ViR ViC
theorem AU (f:Int→Bool):∀ (k:Nat) (i j:Int),i≤j→i≤mv f k i j∧mv f k i j≤j
 |0,i,j,h=>⟨Int.le_refl i,h⟩
 |k+1,i,j,h=>by
  unfold mv
  by_cases c:i < j
  ·rw [if_pos c]
   have hb:i≤hf i j∧hf i j < j:=by unfold hf;omega
   split
   ·have:=AU f k (hf i j+1) j (by omega)
    omega
   ·have:=AU f k i (hf i j) (by omega)
    omega
  ·rw [if_neg c]
   omega
theorem WZ (l:List E) (n p:Int):0≤FH l n p∧FH l n p≤l.length:=AU _ _ 0 _ (Int.natCast_nonneg _)
noncomputable def bfS (A:Ar) (l:List E) (n p w s:Int) (mk:Bool) (y:XJ):St:=cg Tryz.f197.ntmps [(0,.sl none (.ah (.int .i64 (.int .i64 (.int .i64 (.int .i64 (.bool .nil))))) l)),(2,.val (.func (.func 140) ⟨[]⟩ ⟨[]⟩)),(4,.ptr 1 0),(8,.val (.int .i64 (A.dK l))),(9,.val (.int .i64 y.i)),(10,.val (.int .i64 y.j))] [(1,.cells 94 [.val (.int .i64 n),.val (.int .i64 p),.val (.int .i64 w),.val (.int .i64 s),.val (.bool mk)])] [Any,Any,Any]
def bfR (st:St):XJ:=⟨bQ st 9,bQ st 10⟩
structure KK where
 n:Int
 p:Int
 w:Int
 s:Int
 m:Bool
def HZ (l:List E) (n p:Int):KK:=if Pp l n p=true then ⟨ri (l.getD (FH l n p).toNat []) 0,ri (l.getD (FH l n p).toNat []) 1,ri (l.getD (FH l n p).toNat []) 2,ri (l.getD (FH l n p).toNat []) 3,rb (l.getD (FH l n p).toNat []) 4⟩ else ⟨0,0,0,0,false⟩
def OV (l:List E) (y:E):List E:=if ri y 0 < ri y 1∧Pp l (ri y 1) (ri y 0)=true∧(HZ l (ri y 1) (ri y 0)).w=ri y 2∧(HZ l (ri y 1) (ri y 0)).s=ri y 3 then [[D.int (ri y 0),D.int (ri y 1),D.int (ri y 2),D.int (ri y 3),D.bool (rb y 4 && (HZ l (ri y 1) (ri y 0)).m)]] else []
def YL (n:List Int) (y:E):List E:=if n.contains (ri y 1)=true then [] else [[D.int (ri y 0),D.int (ri y 1),D.int (ri y 2),D.int (ri y 3),D.bool (rb y 4)]]
def IJ (n p:Int):Int:=if p < n then p else n
def Hj (n p:Int):Int:=if p < n then n else p
def XR (y:E):List E:=if rb y 4=true then [[D.int (IJ (ri y 0) (ri y 1)),D.int (Hj (ri y 0) (ri y 1)),D.int (ri y 2)]] else []
def uk (l:List E):List E:=l.flatMap (OV l)
def VB (n:List Int) (l:List E):List E:=l.flatMap (YL n)
def boF (l:List E):List E:=l.flatMap XR
def lH (n:List Int) (l:List E):List E:=if bf n l=true then uk l else []
def um (n:List Int) (l:List E):List E:=if bf n l=true then VB n l else []
def vI (n:List Int) (l:List E):List E:=if bf n l=true then boF (uk l) else []
structure XC where
 i:Int
 o:List E
def MV (l:List E) (f:E→List E) (y:XC):Prop:=0≤y.i∧y.i≤l.length∧y.o=(l.take y.i.toNat).flatMap f
def VL (l:List E) (y:XC):Nat:=l.length - y.i.toNat
theorem yt (l:List E) (f:E→List E):MV l f ⟨0,[]⟩:=⟨Int.le_refl 0,Int.natCast_nonneg _,rfl⟩
theorem tg {f:E→List E} (hf:∀ y,(f y).length≤1):∀ l:List E,(l.flatMap f).length≤l.length
 |[]=>Nat.le_refl _
 |y :: l=>by
  have:=tg hf l
  have:=hf y
  rw [List.flatMap_cons,List.length_append,List.length_cons]
  omega
theorem Bg {l:List E} {f:E→List E} (hf:∀ y,(f y).length≤1) {i:Int} {o:List E} (hq:MV l f ⟨i,o⟩):o.length≤l.length:=by
 have h:=tg hf (l.take i.toNat)
 have h2:=hq.2.2
 simp only at h2
 rw [h2]
 rw [List.length_take] at h
 omega
theorem yw {l:List E} {f:E→List E} (hl:l.length≤1000000) {i:Int} {o:List E} (hq:MV l f ⟨i,o⟩) (h:i < l.length):aN .add .i64 i 1=i+1∧(∀ p,VL l ⟨i+1,p⟩ < VL l ⟨i,o⟩)∧(f (l.getD i.toNat [])=[]→MV l f ⟨i+1,o⟩)∧(∀ e,f (l.getD i.toNat [])=[e]→MV l f ⟨i+1,o ++ [e]⟩):=by
 obtain⟨h0,h1,h2⟩:=hq
 simp only at h0 h1 h2
 have ht:=eO l i h0 h
 refine⟨by rw [bp,wr _ (by omega) (by omega)],fun p=>by simp only [VL];omega,fun g=>⟨by simp only;omega,by simp only;omega,?_⟩,fun e g=>⟨by simp only;omega,by simp only;omega,?_⟩⟩
 ·simp only
  rw [ht,List.flatMap_append,← h2]
  simp [List.flatMap_cons,List.getD_eq_getElem?_getD] at g ⊢
  exact g
 ·simp only
  rw [ht,List.flatMap_append,← h2]
  simp [List.flatMap_cons,List.getD_eq_getElem?_getD] at g ⊢
  exact g.symm
theorem BG {l:List E} {f:E→List E} {i:Int} {o:List E} (hq:MV l f ⟨i,o⟩) (h:¬i < l.length):o=l.flatMap f:=by
 obtain⟨h0,h1,h2⟩:=hq
 simp only at h0 h1 h2
 have e:i=l.length:=by omega
 rw [e,Int.toNat_natCast,List.take_length] at h2
 exact h2
theorem Ed (l:List E) (y:E):(OV l y).length≤1:=by unfold OV;split <;> simp
theorem Eb (n:List Int) (y:E):(YL n y).length≤1:=by unfold YL;split <;> simp
theorem Ds (y:E):(XR y).length≤1:=by unfold XR;split <;> simp
theorem AY (l:List E):(uk l).length≤l.length:=tg (Ed l) l
noncomputable def inS (A:Ar) (n:List Int) (l:List E) (y:XC):St:=cg Tryz.f151.ntmps [(1,.ptr 1 0),(4,.sl (some (2,94)) (.ah (.int .i64 (.int .i64 (.int .i64 (.int .i64 (.bool .nil))))) y.o)),(13,.sl none (.ah (.int .i64 (.int .i64 (.int .i64 (.int .i64 (.bool .nil))))) l)),(14,.val (.int .i64 (A.dK l))),(15,.val (.int .i64 y.i))] [(1,.cells 29 [.sl none (.ints .i64 n),.sl none (.ah (.int .i64 (.int .i64 (.int .i64 (.int .i64 (.bool .nil))))) l)]),(2,.tok)] [Any]
noncomputable def ouS (A:Ar) (n:List Int) (l:List E) (y:XC):St:=cg Tryz.f155.ntmps [(1,.ptr 1 0),(4,.sl (some (2,94)) (.ah (.int .i64 (.int .i64 (.int .i64 (.int .i64 (.bool .nil))))) y.o)),(11,.sl none (.ah (.int .i64 (.int .i64 (.int .i64 (.int .i64 (.bool .nil))))) l)),(12,.val (.int .i64 (A.dK l))),(13,.val (.int .i64 y.i))] [(1,.cells 29 [.sl none (.ints .i64 n),.sl none (.ah (.int .i64 (.int .i64 (.int .i64 (.int .i64 (.bool .nil))))) l)]),(2,.tok)] [Any]
noncomputable def boS (A:Ar) (l:List E) (y:XC):St:=cg Tryz.f152.ntmps [(6,.sl (some (2,183)) (.ah (.int .i64 (.int .i64 (.int .i64 .nil))) y.o)),(17,.sl none (.ah (.int .i64 (.int .i64 (.int .i64 (.int .i64 (.bool .nil))))) l)),(18,.val (.int .i64 (A.dK l))),(19,.val (.int .i64 y.i))] [(2,.tok)] [Any]
def coR (i o:Nat) (st:St):XC:=⟨bQ st i,ctR (match kE st o with | .sl _ c=>c|_=>.ah .nil [])⟩
structure Vl where
 ZA:List E→Int→Int→Int
 PW:List E→Int→Int→Bool
 uz:List E→Int→Int→KK
 UK:List Int→List E→List E
 Xz:List Int→List E→List E
 Yo:List Int→List E→List E
 l_a:Int→Int→Int
 l_b:Int→Int→Int
 FL:List Int→List E→Int
 Gj:List E→Bool
 xZ:List Int→List E→Bool
def Vl.U:Vl:=⟨FH,Pp,HZ,lH,um,vI,IJ,Hj,mI,fun l=>decide (l.length≤1000000),fun n l=>decide (n.length≤1000000∧l.length≤1000000)⟩
def sv (F:Vl):aZ:=fun xs h=>match xs,h with
 |[.one (.sl none (.ah (.int .i64 (.int .i64 (.int .i64 (.int .i64 (.bool .nil))))) l)),.agg [.val (.int .i64 k_n),.val (.int .i64 k_p),.val (.int .i64 _),.val (.int .i64 _),.val (.bool _)],.one (.val (.func (.func 140) ⟨[]⟩ ⟨[]⟩))],[]=>some ⟨F.Gj l=true,.bJ [I (F.ZA l k_n k_p),B (F.PW l k_n k_p)],[],[Any,Any,Any]⟩
 |_,_=>none
theorem LR (l:List E) (k_n:Int) (k_p:Int) (k_w:Int) (k_s:Int) (k_m:Bool) (hC:Vl.U.Gj l=true):aU [(140,xy ViR.Vs.U)] Tryz.f197 [.one (.sl none (.ah (.int .i64 (.int .i64 (.int .i64 (.int .i64 (.bool .nil))))) l)),.agg [.val (.int .i64 k_n),.val (.int .i64 k_p),.val (.int .i64 k_w),.val (.int .i64 k_s),.val (.bool k_m)],.one (.val (.func (.func 140) ⟨[]⟩ ⟨[]⟩))] [] ⟨Vl.U.Gj l=true,.bJ [I (Vl.U.ZA l k_n k_p),B (Vl.U.PW l k_n k_p)],[],[Any,Any,Any]⟩:=by
 intro b gv
 have hk:l.length≤1000000:=of_decide_eq_true (show decide (l.length≤1000000)=true from hC)
 have hfs:=(af.cons qK af.nil rfl)
 generalize hF:Vl.U=F at hC hfs ⊢
 generalize hG0:ViR.Vs.U=G0 at hC hfs ⊢
 generalize hG1:ViC.Vc.U=G1 at hC hfs ⊢
 generalize hA:Ar.U=A
 generalize hL:Lp _ _ _=L
 obtain⟨Z,zq⟩:=aP
 refine aD (aa hL) zq rfl ?_
 repeat' (first|(refine ay zq ?_;try dsimp only)|refine ax zq ?_ (aa hL)|refine aw zq ?_|refine az ?_|refine av ?_|refine au ?_|refine aq ?_|refine ar rfl ?_|refine ai rfl ?_|refine aj rfl ?_|(refine Cd.mk ?_;cbv)|(refine aE.mk ?_;cbv)|(refine aJ.mk ?_;cbv)|exact trivial|refine And.intro ?_ ?_|refine bn fun _=>?_|refine bo fun _=>?_)
 subst hL
 refine aX (br hfs) (Nj (ltK l k_n k_p) l.length) (bfS A l k_n k_p k_w k_s k_m) (LL) bfR ⟨0,A.dK l⟩ ?_ ?_ ?_
 ·(subst hA;exact xA _ _)
 ·cbv
  repeat' (first|exact trivial|exact rfl|refine And.intro ?_ ?_)
 rintro⟨i,j⟩ hq O hO
 have hst:=fun h=>wJ hk hq h
 have hen:=fun h=>KC hq h
 have q0:=hq.1
 have q1:=hq.2.1
 have q2:=hq.2.2.1
 dsimp only at q0 q1 q2
 subst hA
 generalize hA:Ar.U=A
 generalize hL:Lp _ _ _=L
 refine aO zq ?_
 repeat' (first|(refine ay zq ?_;try dsimp only)|refine ax zq ?_ (aa hL)|refine aw zq ?_|refine az ?_|refine av ?_|refine au ?_|refine aq ?_|refine ar rfl ?_|refine ai rfl ?_|refine aj rfl ?_|(refine Cd.mk ?_;cbv)|(refine aE.mk ?_;cbv)|(refine aJ.mk ?_;cbv)|exact trivial|refine And.intro ?_ ?_|refine bn fun _=>?_|refine bo fun _=>?_)
 all_goals (clear hL hfs zq Z hq;subst hA hF hG0 hG1 hO;simp only [Vl.U,ViR.Vs.U,Ar.U] at *)
 all_goals first|(have h1:=hst (of_decide_eq_true (show decide (i < j)=true from ‹al .lss i j=true›));clear hst hen;grind [al,LL,ltK,FH,Pp])|(have h1:i=FH l k_n k_p∧0≤i∧i≤l.length:=hen (of_decide_eq_false (show decide (i < j)=false from ‹al .lss i j=false›));clear hst hen;first|assumption|(obtain⟨h1,h2,h3⟩:=h1;subst h1;unfold Pp;grind [al])|(grind [al,Pp]))
theorem sS:aA Tryz.prog 197 (sv Vl.U):=by
 refine aG (af.cons qK af.nil rfl) Tryz.func197 rfl rfl fun xs h p hp=>?_
 unfold sv at hp
 split at hp
 ·cases hp
  exact⟨aB rfl,fun hC _=>LR _ _ _ _ _ _ hC⟩
 ·cases hp
def rf (F:Vl):aZ:=fun xs h=>match xs,h with
 |[.agg [.sl none (.ints .i64 _),.sl none (.ah (.int .i64 (.int .i64 (.int .i64 (.int .i64 (.bool .nil))))) v_l)],.one (.val (.int .i64 t)),.one (.val (.int .i64 p))],[]=>some ⟨F.Gj v_l=true,.bJ [.agg [.val (.int .i64 (F.uz v_l t p).n),.val (.int .i64 (F.uz v_l t p).p),.val (.int .i64 (F.uz v_l t p).w),.val (.int .i64 (F.uz v_l t p).s),.val (.bool (F.uz v_l t p).m)],B (F.PW v_l t p)],[],[Any,Any,Any]⟩
 |_,_=>none
theorem OH (v_n:List Int) (v_l:List E) (t:Int) (p:Int) (hC:Vl.U.Gj v_l=true):aU [(197,sv Vl.U)] Tryz.f169 [.agg [.sl none (.ints .i64 v_n),.sl none (.ah (.int .i64 (.int .i64 (.int .i64 (.int .i64 (.bool .nil))))) v_l)],.one (.val (.int .i64 t)),.one (.val (.int .i64 p))] [] ⟨Vl.U.Gj v_l=true,.bJ [.agg [.val (.int .i64 (Vl.U.uz v_l t p).n),.val (.int .i64 (Vl.U.uz v_l t p).p),.val (.int .i64 (Vl.U.uz v_l t p).w),.val (.int .i64 (Vl.U.uz v_l t p).s),.val (.bool (Vl.U.uz v_l t p).m)],B (Vl.U.PW v_l t p)],[],[Any,Any,Any]⟩:=by
 intro b gv
 have h1:=WZ v_l t p
 have hfs:=(af.cons sS af.nil rfl)
 generalize hF:Vl.U=F at hC hfs ⊢
 generalize hG0:ViR.Vs.U=G0 at hC hfs ⊢
 generalize hG1:ViC.Vc.U=G1 at hC hfs ⊢
 generalize hA:Ar.U=A
 generalize hL:Lp _ _ _=L
 obtain⟨Z,zq⟩:=aP
 refine aD (aa hL) zq rfl ?_
 repeat' (first|(refine ay zq ?_;try dsimp only)|refine ax zq ?_ (aa hL)|refine aw zq ?_|refine az ?_|refine av ?_|refine au ?_|refine aq ?_|refine ar rfl ?_|refine ai rfl ?_|refine aj rfl ?_|(refine Cd.mk ?_;cbv)|(refine aE.mk ?_;cbv)|(refine aJ.mk ?_;cbv)|exact trivial|refine And.intro ?_ ?_|refine bn fun _=>?_|refine bo fun _=>?_)
 all_goals
  clear hL zq Z
  try clear hfs
  subst hA hF hG0 hG1
  simp only [Vl.U,Ar.U] at *
  try (grind [al,HZ,Pp])
theorem nf:aA Tryz.prog 169 (rf Vl.U):=by
 refine aG (af.cons sS af.nil rfl) Tryz.func169 rfl rfl fun xs h p hp=>?_
 unfold rf at hp
 split at hp
 ·cases hp
  exact⟨aB rfl,fun hC _=>OH _ _ _ _ hC⟩
 ·cases hp
def qF (F:Vl):aZ:=fun xs h=>match xs,h with
 |[.agg [.sl none (.ints .i64 v_n),.sl none (.ah (.int .i64 (.int .i64 (.int .i64 (.int .i64 (.bool .nil))))) v_l)]],[]=>some ⟨F.xZ v_n v_l=true,.bJ [.one (.sl none (.ah (.int .i64 (.int .i64 (.int .i64 (.int .i64 (.bool .nil))))) (F.UK v_n v_l))),I (F.FL v_n v_l)],[],[Any]⟩
 |_,_=>none
theorem NL (v_n:List Int) (v_l:List E) (hC:Vl.U.xZ v_n v_l=true):aU [(129,dv ViC.Vc.U),(169,rf Vl.U)] Tryz.f151 [.agg [.sl none (.ints .i64 v_n),.sl none (.ah (.int .i64 (.int .i64 (.int .i64 (.int .i64 (.bool .nil))))) v_l)]] [] ⟨Vl.U.xZ v_n v_l=true,.bJ [.one (.sl none (.ah (.int .i64 (.int .i64 (.int .i64 (.int .i64 (.bool .nil))))) (Vl.U.UK v_n v_l))),I (Vl.U.FL v_n v_l)],[],[Any]⟩:=by
 intro b gv
 have hk:v_n.length≤1000000∧v_l.length≤1000000:=of_decide_eq_true (show decide (v_n.length≤1000000∧v_l.length≤1000000)=true from hC)
 have hfs:=(af.cons bL (af.cons nf af.nil rfl) rfl)
 generalize hF:Vl.U=F at hC hfs ⊢
 generalize hG0:ViR.Vs.U=G0 at hC hfs ⊢
 generalize hG1:ViC.Vc.U=G1 at hC hfs ⊢
 generalize hA:Ar.U=A
 generalize hL:Lp _ _ _=L
 obtain⟨Z,zq⟩:=aP
 refine aD (aa hL) zq rfl ?_
 repeat' (first|(refine ay zq ?_;try dsimp only)|refine ax zq ?_ (aa hL)|refine aw zq ?_|refine az ?_|refine av ?_|refine au ?_|refine aq ?_|refine ar rfl ?_|refine ai rfl ?_|refine aj rfl ?_|(refine Cd.mk ?_;cbv)|(refine aE.mk ?_;cbv)|(refine aJ.mk ?_;cbv)|exact trivial|refine And.intro ?_ ?_|refine bn fun _=>?_|refine bo fun _=>?_)
 all_goals first|(show L _ _ _;skip)|(clear hL hfs zq Z;subst hA hF hG0 hG1;simp only [Vl.U,ViC.Vc.U,Ar.U] at * <;> grind [al,lH,um,mI];done)
 rename_i hx
 have hv:bf v_n v_l=true:=by
  clear hL hfs zq Z
  subst hA hF hG0 hG1
  simp only [ViC.Vc.U,Ar.U] at hx
  grind [al,mI]
 clear hx
 subst hL
 refine aX (br hfs) (MV v_l (OV v_l)) (inS A v_n v_l) (VL v_l) (coR 15 4) ⟨0,[]⟩ ?_ ?_ ?_
 ·exact yt _ _
 ·cbv
  repeat' (first|exact trivial|exact rfl|refine And.intro ?_ ?_)
 rintro⟨i,o⟩ hq O hO
 have hst:=fun h=>yw hk.2 hq h
 have hlen:=Bg (Ed v_l) hq
 have hen:=fun h=>BG hq h
 have q0:=hq.1
 have q1:=hq.2.1
 dsimp only at q0 q1 hst
 have hin:OV v_l (v_l.getD i.toNat [])=if ri (v_l.getD i.toNat []) 0 < ri (v_l.getD i.toNat []) 1∧Pp v_l (ri (v_l.getD i.toNat []) 1) (ri (v_l.getD i.toNat []) 0)=true∧(HZ v_l (ri (v_l.getD i.toNat []) 1) (ri (v_l.getD i.toNat []) 0)).w=ri (v_l.getD i.toNat []) 2∧(HZ v_l (ri (v_l.getD i.toNat []) 1) (ri (v_l.getD i.toNat []) 0)).s=ri (v_l.getD i.toNat []) 3 then [[D.int (ri (v_l.getD i.toNat []) 0),D.int (ri (v_l.getD i.toNat []) 1),D.int (ri (v_l.getD i.toNat []) 2),D.int (ri (v_l.getD i.toNat []) 3),D.bool (rb (v_l.getD i.toNat []) 4 && (HZ v_l (ri (v_l.getD i.toNat []) 1) (ri (v_l.getD i.toNat []) 0)).m)]] else []:=rfl
 subst hA
 generalize hA:Ar.U=A
 generalize hL:Lp _ _ _=L
 refine aO zq ?_
 repeat' (first|(refine ay zq ?_;try dsimp only)|refine ax zq ?_ (aa hL)|refine aw zq ?_|refine az ?_|refine av ?_|refine au ?_|refine aq ?_|refine ar rfl ?_|refine ai rfl ?_|refine aj rfl ?_|(refine Cd.mk ?_;cbv)|(refine aE.mk ?_;cbv)|(refine aJ.mk ?_;cbv)|exact trivial|refine And.intro ?_ ?_|refine bn fun _=>?_|refine bo fun _=>?_)
 all_goals (clear hL hfs zq Z hq;subst hA hF hG0 hG1 hO;simp only [Vl.U,Ar.U] at * <;> grind [al,lH,um,uk,VB,mI])
theorem oH:aA Tryz.prog 151 (qF Vl.U):=by
 refine aG (af.cons bL (af.cons nf af.nil rfl) rfl) Tryz.func151 rfl rfl fun xs h p hp=>?_
 unfold qF at hp
 split at hp
 ·cases hp
  exact⟨aB rfl,fun hC _=>NL _ _ hC⟩
 ·cases hp
def qT (F:Vl):aZ:=fun xs h=>match xs,h with
 |[.agg [.sl none (.ints .i64 v_n),.sl none (.ah (.int .i64 (.int .i64 (.int .i64 (.int .i64 (.bool .nil))))) v_l)]],[]=>some ⟨F.xZ v_n v_l=true,.bJ [.one (.sl none (.ah (.int .i64 (.int .i64 (.int .i64 (.int .i64 (.bool .nil))))) (F.Xz v_n v_l))),I (F.FL v_n v_l)],[],[Any]⟩
 |_,_=>none
theorem Pt (v_n:List Int) (v_l:List E) (hC:Vl.U.xZ v_n v_l=true):aU [(129,dv ViC.Vc.U),(135,qk ViR.Vs.U)] Tryz.f155 [.agg [.sl none (.ints .i64 v_n),.sl none (.ah (.int .i64 (.int .i64 (.int .i64 (.int .i64 (.bool .nil))))) v_l)]] [] ⟨Vl.U.xZ v_n v_l=true,.bJ [.one (.sl none (.ah (.int .i64 (.int .i64 (.int .i64 (.int .i64 (.bool .nil))))) (Vl.U.Xz v_n v_l))),I (Vl.U.FL v_n v_l)],[],[Any]⟩:=by
 intro b gv
 have hk:v_n.length≤1000000∧v_l.length≤1000000:=of_decide_eq_true (show decide (v_n.length≤1000000∧v_l.length≤1000000)=true from hC)
 have hfs:=(af.cons bL (af.cons fJ af.nil rfl) rfl)
 generalize hF:Vl.U=F at hC hfs ⊢
 generalize hG0:ViR.Vs.U=G0 at hC hfs ⊢
 generalize hG1:ViC.Vc.U=G1 at hC hfs ⊢
 generalize hA:Ar.U=A
 generalize hL:Lp _ _ _=L
 obtain⟨Z,zq⟩:=aP
 refine aD (aa hL) zq rfl ?_
 repeat' (first|(refine ay zq ?_;try dsimp only)|refine ax zq ?_ (aa hL)|refine aw zq ?_|refine az ?_|refine av ?_|refine au ?_|refine aq ?_|refine ar rfl ?_|refine ai rfl ?_|refine aj rfl ?_|(refine Cd.mk ?_;cbv)|(refine aE.mk ?_;cbv)|(refine aJ.mk ?_;cbv)|exact trivial|refine And.intro ?_ ?_|refine bn fun _=>?_|refine bo fun _=>?_)
 all_goals first|(show L _ _ _;skip)|(clear hL hfs zq Z;subst hA hF hG0 hG1;simp only [Vl.U,ViC.Vc.U,Ar.U] at * <;> grind [al,lH,um,mI];done)
 rename_i hx
 have hv:bf v_n v_l=true:=by
  clear hL hfs zq Z
  subst hA hF hG0 hG1
  simp only [ViC.Vc.U,Ar.U] at hx
  grind [al,mI]
 clear hx
 have hbs:∀ t,OQ v_n t=v_n.contains t:=fun t=>oY (by unfold bf at hv;rw [Bool.and_eq_true] at hv;exact hv.1) t
 subst hL
 refine aX (br hfs) (MV v_l (YL v_n)) (ouS A v_n v_l) (VL v_l) (coR 13 4) ⟨0,[]⟩ ?_ ?_ ?_
 ·exact yt _ _
 ·cbv
  repeat' (first|exact trivial|exact rfl|refine And.intro ?_ ?_)
 rintro⟨i,o⟩ hq O hO
 have hst:=fun h=>yw hk.2 hq h
 have hlen:=Bg (Eb v_n) hq
 have hen:=fun h=>BG hq h
 have q0:=hq.1
 have q1:=hq.2.1
 dsimp only at q0 q1 hst
 have hin:YL v_n (v_l.getD i.toNat [])=if v_n.contains (ri (v_l.getD i.toNat []) 1)=true then [] else [[D.int (ri (v_l.getD i.toNat []) 0),D.int (ri (v_l.getD i.toNat []) 1),D.int (ri (v_l.getD i.toNat []) 2),D.int (ri (v_l.getD i.toNat []) 3),D.bool (rb (v_l.getD i.toNat []) 4)]]:=rfl
 subst hA
 generalize hA:Ar.U=A
 generalize hL:Lp _ _ _=L
 refine aO zq ?_
 repeat' (first|(refine ay zq ?_;try dsimp only)|refine ax zq ?_ (aa hL)|refine aw zq ?_|refine az ?_|refine av ?_|refine au ?_|refine aq ?_|refine ar rfl ?_|refine ai rfl ?_|refine aj rfl ?_|(refine Cd.mk ?_;cbv)|(refine aE.mk ?_;cbv)|(refine aJ.mk ?_;cbv)|exact trivial|refine And.intro ?_ ?_|refine bn fun _=>?_|refine bo fun _=>?_)
 all_goals (clear hL hfs zq Z hq;subst hA hF hG0 hG1 hO;simp only [Vl.U,ViR.Vs.U,Ar.U] at * <;> grind [al,lH,um,uk,VB,mI])
theorem nu:aA Tryz.prog 155 (qT Vl.U):=by
 refine aG (af.cons bL (af.cons fJ af.nil rfl) rfl) Tryz.func155 rfl rfl fun xs h p hp=>?_
 unfold qT at hp
 split at hp
 ·cases hp
  exact⟨aB rfl,fun hC _=>Pt _ _ hC⟩
 ·cases hp
def ja (F:Vl):aZ:=fun xs h=>match xs,h with
 |[.agg [.val (.int .i64 k_n),.val (.int .i64 k_p),.val (.int .i64 k_w),.val (.int .i64 _),.val (.bool _)]],[]=>some ⟨True,.sa (.agg [.val (.int .i64 (F.l_a k_n k_p)),.val (.int .i64 (F.l_b k_n k_p)),.val (.int .i64 k_w)]),[],[Any]⟩
 |_,_=>none
theorem Nu (k_n:Int) (k_p:Int) (k_w:Int) (k_s:Int) (k_m:Bool):aU [] Tryz.f170 [.agg [.val (.int .i64 k_n),.val (.int .i64 k_p),.val (.int .i64 k_w),.val (.int .i64 k_s),.val (.bool k_m)]] [] ⟨True,.sa (.agg [.val (.int .i64 (Vl.U.l_a k_n k_p)),.val (.int .i64 (Vl.U.l_b k_n k_p)),.val (.int .i64 k_w)]),[],[Any]⟩:=by
 intro b gv
 have hfs:=af.nil
 generalize hF:Vl.U=F at hfs ⊢
 generalize hG0:ViR.Vs.U=G0 at hfs ⊢
 generalize hG1:ViC.Vc.U=G1 at hfs ⊢
 generalize hA:Ar.U=A
 generalize hL:Lp _ _ _=L
 obtain⟨Z,zq⟩:=aP
 refine aD (aa hL) zq rfl ?_
 repeat' (first|(refine ay zq ?_;try dsimp only)|refine ax zq ?_ (aa hL)|refine aw zq ?_|refine az ?_|refine av ?_|refine au ?_|refine aq ?_|refine ar rfl ?_|refine ai rfl ?_|refine aj rfl ?_|(refine Cd.mk ?_;cbv)|(refine aE.mk ?_;cbv)|(refine aJ.mk ?_;cbv)|exact trivial|refine And.intro ?_ ?_|refine bn fun _=>?_|refine bo fun _=>?_)
 all_goals
  clear hL zq Z
  try clear hfs
  subst hA hF hG0 hG1
  simp only [Vl.U,Ar.U] at *
  try (grind [al,IJ,Hj])
theorem dN:aA Tryz.prog 170 (ja Vl.U):=by
 refine aG af.nil Tryz.func170 rfl rfl fun xs h p hp=>?_
 unfold ja at hp
 split at hp
 ·cases hp
  exact⟨aB rfl,fun _ _=>Nu _ _ _ _ _⟩
 ·cases hp
def qB (F:Vl):aZ:=fun xs h=>match xs,h with
 |[.agg [.sl none (.ints .i64 v_n),.sl none (.ah (.int .i64 (.int .i64 (.int .i64 (.int .i64 (.bool .nil))))) v_l)]],[]=>some ⟨F.xZ v_n v_l=true,.bJ [.one (.sl none (.ah (.int .i64 (.int .i64 (.int .i64 .nil))) (F.Yo v_n v_l))),I (F.FL v_n v_l)],[],[Any]⟩
 |_,_=>none
theorem Oo (v_n:List Int) (v_l:List E) (hC:Vl.U.xZ v_n v_l=true):aU [(151,qF Vl.U),(170,ja Vl.U)] Tryz.f152 [.agg [.sl none (.ints .i64 v_n),.sl none (.ah (.int .i64 (.int .i64 (.int .i64 (.int .i64 (.bool .nil))))) v_l)]] [] ⟨Vl.U.xZ v_n v_l=true,.bJ [.one (.sl none (.ah (.int .i64 (.int .i64 (.int .i64 .nil))) (Vl.U.Yo v_n v_l))),I (Vl.U.FL v_n v_l)],[],[Any]⟩:=by
 intro b gv
 have hk:v_n.length≤1000000∧v_l.length≤1000000:=of_decide_eq_true (show decide (v_n.length≤1000000∧v_l.length≤1000000)=true from hC)
 have hil:=AY v_l
 have hfs:=(af.cons oH (af.cons dN af.nil rfl) rfl)
 generalize hF:Vl.U=F at hC hfs ⊢
 generalize hG0:ViR.Vs.U=G0 at hC hfs ⊢
 generalize hG1:ViC.Vc.U=G1 at hC hfs ⊢
 generalize hA:Ar.U=A
 generalize hL:Lp _ _ _=L
 obtain⟨Z,zq⟩:=aP
 refine aD (aa hL) zq rfl ?_
 repeat' (first|(refine ay zq ?_;try dsimp only)|refine ax zq ?_ (aa hL)|refine aw zq ?_|refine az ?_|refine av ?_|refine au ?_|refine aq ?_|refine ar rfl ?_|refine ai rfl ?_|refine aj rfl ?_|(refine Cd.mk ?_;cbv)|(refine aE.mk ?_;cbv)|(refine aJ.mk ?_;cbv)|exact trivial|refine And.intro ?_ ?_|refine bn fun _=>?_|refine bo fun _=>?_)
 all_goals first|(show L _ _ _;skip)|(clear hL hfs zq Z;subst hA hF hG0 hG1;simp only [Vl.U,Ar.U] at * <;> grind [al,lH,vI,mI];done)
 rename_i hx
 have hv:bf v_n v_l=true:=by
  clear hL hfs zq Z
  subst hA hF hG0 hG1
  simp only [Vl.U,Ar.U] at hx
  grind [al,mI]
 have hiv:lH v_n v_l=uk v_l:=if_pos hv
 clear hx
 subst hL
 refine aX (br hfs) (MV (uk v_l) XR) (boS A (F.UK v_n v_l)) (VL (uk v_l)) (coR 19 6) ⟨0,[]⟩ ?_ ?_ ?_
 ·exact yt _ _
 ·cbv
  repeat' (first|exact trivial|exact rfl|refine And.intro ?_ ?_)
 rintro⟨i,o⟩ hq O hO
 have hst:=fun h=>yw (by omega) hq h
 have hlen:=Bg Ds hq
 have hen:=fun h=>BG hq h
 have q0:=hq.1
 have q1:=hq.2.1
 dsimp only at q0 q1 hst
 have hin:XR ((uk v_l).getD i.toNat [])=if rb ((uk v_l).getD i.toNat []) 4=true then [[D.int (IJ (ri ((uk v_l).getD i.toNat []) 0) (ri ((uk v_l).getD i.toNat []) 1)),D.int (Hj (ri ((uk v_l).getD i.toNat []) 0) (ri ((uk v_l).getD i.toNat []) 1)),D.int (ri ((uk v_l).getD i.toNat []) 2)]] else []:=rfl
 subst hA
 generalize hA:Ar.U=A
 generalize hL:Lp _ _ _=L
 refine aO zq ?_
 repeat' (first|(refine ay zq ?_;try dsimp only)|refine ax zq ?_ (aa hL)|refine aw zq ?_|refine az ?_|refine av ?_|refine au ?_|refine aq ?_|refine ar rfl ?_|refine ai rfl ?_|refine aj rfl ?_|(refine Cd.mk ?_;cbv)|(refine aE.mk ?_;cbv)|(refine aJ.mk ?_;cbv)|exact trivial|refine And.intro ?_ ?_|refine bn fun _=>?_|refine bo fun _=>?_)
 all_goals (clear hL hfs zq Z hq;subst hA hF hG0 hG1 hO;simp only [Vl.U,Ar.U] at * <;> grind [al,vI,boF,mI])
theorem ng:aA Tryz.prog 152 (qB Vl.U):=by
 refine aG (af.cons oH (af.cons dN af.nil rfl) rfl) Tryz.func152 rfl rfl fun xs h p hp=>?_
 unfold qB at hp
 split at hp
 ·cases hp
  exact⟨aB rfl,fun hC _=>Oo _ _ hC⟩
 ·cases hp
end Go.Proofs.YtelhldgdnlppfaaGreat.ViL
