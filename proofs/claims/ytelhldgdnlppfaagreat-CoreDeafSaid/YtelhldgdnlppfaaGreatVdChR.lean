/-
  the order of links;the first of them;copies;which choices may be. No condition.
-/
import Derived.Test.YtelhldgdnlppfaaGreatVdW22
import Derived.Test.YtelhldgdnlppfaaGreatVdViL
import Derived.Test.YtelhldgdnlppfaaGreatVdW24
set_option cbv.maxSteps 4000000
set_option maxHeartbeats 4000000
set_option maxRecDepth 100000
namespace Go.Proofs.YtelhldgdnlppfaaGreat.ChR
open Go Ry Cmp ViR ViL
open ViC (dv bL)
open EgR (jS fa)
open EcX (gZ)
abbrev K5:=Int × Int × Int × Int × Bool
def k5 (y:E):K5:=(ri y 0,ri y 1,ri y 2,ri y 3,rb y 4)
def cK (n p w n' p' w' : Int):Int:=gZ (IJ n p) (Hj n p) w (IJ n' p') (Hj n' p') w'
def Vy (c:K5) (y:E):K5:=if cK (ri y 0) (ri y 1) (ri y 2) c.1 c.2.1 c.2.2.1 < 0 then k5 y else c
def xE (l:List E):K5:=l.foldl Vy (k5 (l.getD 0 []))
theorem MS (y:E):Vy (k5 y) y=k5 y:=by unfold Vy;split <;> rfl
structure XN where
 i:Int
 n:Int
 p:Int
 w:Int
 s:Int
 b:Bool
def Yw (l:List E) (y:XN):Prop:=1≤y.i∧y.i≤l.length∧((y.n,y.p,y.w,y.s,y.b):K5)=xE (l.take y.i.toNat)
def ZU (l:List E) (y:XN):Nat:=l.length - y.i.toNat
noncomputable def mnI (l:List E) (y:XN):St:=cg Tryz.f156.ntmps [(0,.sl none (.ah (.int .i64 (.int .i64 (.int .i64 (.int .i64 (.bool .nil))))) l)),(1,.val (.func (.func 157) ⟨[]⟩ ⟨[]⟩)),(4,.ptr 1 0),(5,.ptr 2 0),(6,.val (.int .i64 y.i))] [(1,.cells 94 [.num .i64 0,.num .i64 0,.num .i64 0,.num .i64 0,.tf false]),(2,.cells 94 [.val (.int .i64 y.n),.val (.int .i64 y.p),.val (.int .i64 y.w),.val (.int .i64 y.s),.val (.bool y.b)])] [Any,Any]
def mnR (st:St):XN:=⟨bQ st 6,uA (gF st 5 0),uA (gF st 5 1),uA (gF st 5 2),uA (gF st 5 3),aaj (gF st 5 4)⟩
theorem qH (l:List E) (i:Int) (h0:0≤i) (h:i < l.length):l.take (i+1).toNat=l.take i.toNat ++ [l.getD i.toNat []]:=by
 have e:(i+1).toNat=i.toNat+1:=by omega
 have hi:i.toNat < l.length:=by omega
 rw [e,List.take_add_one,List.getD_eq_getElem?_getD,List.getElem?_eq_getElem hi]
 rfl
theorem ED {l:List E} {i:Int} (h0:1≤i) (h:i < l.length):xE (l.take (i+1).toNat)=Vy (xE (l.take i.toNat)) (l.getD i.toNat []):=by
 unfold xE
 have hd:∀ k:Nat,1≤k→(l.take k).getD 0 []=l.getD 0 []:=fun k hk=>by rw [List.getD_eq_getElem?_getD,List.getD_eq_getElem?_getD,List.getElem?_take_of_lt (by omega)]
 rw [hd _ (by omega),hd _ (by omega),qH l i (by omega) h,List.foldl_append]
 rfl
theorem Oa {l:List E} (h:0 < l.length):Yw l ⟨1,ri (l.getD 0 []) 0,ri (l.getD 0 []) 1,ri (l.getD 0 []) 2,ri (l.getD 0 []) 3,rb (l.getD 0 []) 4⟩:=by
 refine⟨Int.le_refl 1,by simp only;omega,?_⟩
 cases l with
 |nil=>exact absurd h (Nat.lt_irrefl 0)
 |cons y l=>exact (MS y).symm
theorem MU {l:List E} (hl:l.length≤1000000) {i n p w s:Int} {b:Bool} (hq:Yw l ⟨i,n,p,w,s,b⟩):1≤i∧i≤l.length∧(i < l.length→aN .add .i64 i 1=i+1∧(∀ n' p' w' s' b',ZU l ⟨i+1,n',p',w',s',b'⟩ < ZU l ⟨i,n,p,w,s,b⟩) ∧
  (cK (ri (l.getD i.toNat []) 0) (ri (l.getD i.toNat []) 1) (ri (l.getD i.toNat []) 2) n p w < 0→Yw l ⟨i+1,ri (l.getD i.toNat []) 0,ri (l.getD i.toNat []) 1,ri (l.getD i.toNat []) 2,ri (l.getD i.toNat []) 3,rb (l.getD i.toNat []) 4⟩) ∧
  (¬cK (ri (l.getD i.toNat []) 0) (ri (l.getD i.toNat []) 1) (ri (l.getD i.toNat []) 2) n p w < 0→Yw l ⟨i+1,n,p,w,s,b⟩))∧(¬i < l.length→n=(xE l).1∧p=(xE l).2.1∧w=(xE l).2.2.1∧s=(xE l).2.2.2.1∧b=(xE l).2.2.2.2):=by
 obtain⟨h0,h1,h2⟩:=hq
 simp only at h0 h1 h2
 refine⟨h0,h1,fun h=>⟨by rw [bp,wr _ (by omega) (by omega)],fun _ _ _ _ _=>by simp only [ZU];omega,fun g=>⟨by simp only;omega,by simp only;omega,?_⟩,fun g=>⟨by simp only;omega,by simp only;omega,?_⟩⟩,fun h=>?_⟩
 ·simp only
  rw [ED h0 h,← h2]
  unfold Vy
  rw [if_pos g]
  rfl
 ·simp only
  rw [ED h0 h,← h2]
  unfold Vy
  rw [if_neg g]
 ·have e:i=l.length:=by omega
  rw [e,Int.toNat_natCast,List.take_length] at h2
  rw [← h2]
  exact⟨rfl,rfl,rfl,rfl,rfl⟩
def LZ (a b w:Int) (y:E):Bool:=decide (IJ (ri y 0) (ri y 1)=a∧Hj (ri y 0) (ri y 1)=b∧ri y 2=w)
def PB (l:List E) (a b w:Int):Int:=match l.find? (LZ a b w) with
 |some y=>ri y 3
 |none=>0
structure XI where
 i:Int
def seQ (l:List E) (a b w:Int) (y:XI):Prop:=0≤y.i∧y.i≤l.length∧PB l a b w=PB (l.drop y.i.toNat) a b w
def pA (l:List E) (y:XI):Nat:=l.length - y.i.toNat
noncomputable def seI (A:Ar) (l:List E) (a b w:Int) (y:XI):St:=cg Tryz.f176.ntmps [(3,.ptr 1 0),(7,.sl none (.ah (.int .i64 (.int .i64 (.int .i64 (.int .i64 (.bool .nil))))) l)),(8,.val (.int .i64 (A.dK l))),(9,.val (.int .i64 y.i))] [(1,.cells 183 [.val (.int .i64 a),.val (.int .i64 b),.val (.int .i64 w)])] [Any,Any]
def iR (k:Nat) (st:St):XI:=⟨bQ st k⟩
theorem qR (l:List E) (i:Int) (h0:0≤i) (h:i < l.length):l.drop i.toNat=l.getD i.toNat [] :: l.drop (i+1).toNat:=by
 have e:(i+1).toNat=i.toNat+1:=by omega
 have hi:i.toNat < l.length:=by omega
 rw [e,List.drop_eq_getElem_cons hi,List.getD_eq_getElem?_getD,List.getElem?_eq_getElem hi]
 rfl
theorem NC {l:List E} (hl:l.length≤1000000) {a b w i:Int} (hq:seQ l a b w ⟨i⟩):0≤i∧i≤l.length∧(i < l.length→aN .add .i64 i 1=i+1∧pA l ⟨i+1⟩ < pA l ⟨i⟩ ∧
  ((IJ (ri (l.getD i.toNat []) 0) (ri (l.getD i.toNat []) 1)=a∧Hj (ri (l.getD i.toNat []) 0) (ri (l.getD i.toNat []) 1)=b∧ri (l.getD i.toNat []) 2=w)→PB l a b w=ri (l.getD i.toNat []) 3) ∧
  (¬(IJ (ri (l.getD i.toNat []) 0) (ri (l.getD i.toNat []) 1)=a∧Hj (ri (l.getD i.toNat []) 0) (ri (l.getD i.toNat []) 1)=b∧ri (l.getD i.toNat []) 2=w)→seQ l a b w ⟨i+1⟩))∧(¬i < l.length→PB l a b w=0):=by
 obtain⟨h0,h1,h2⟩:=hq
 simp only at h0 h1 h2
 refine⟨h0,h1,fun h=>⟨by rw [bp,wr _ (by omega) (by omega)],by simp only [pA];omega,fun g=>?_,fun g=>⟨by simp only;omega,by simp only;omega,?_⟩⟩,fun h=>?_⟩
 ·rw [h2,qR l i h0 h]
  unfold PB
  rw [List.find?_cons_of_pos (by unfold LZ;exact decide_eq_true g)]
 ·simp only
  rw [h2,qR l i h0 h]
  unfold PB
  rw [List.find?_cons_of_neg (by unfold LZ;rw [decide_eq_true_eq];exact g)]
 ·rw [h2,List.drop_of_length_le (by omega)]
  rfl
noncomputable def i0I (A:Ar) (n:List Int) (l:List E) (y:XI):St:=cg Tryz.f151.ntmps [(1,.ptr 1 0),(4,.val (.slice none 0 0)),(13,.sl none (.ah (.int .i64 (.int .i64 (.int .i64 (.int .i64 (.bool .nil))))) l)),(14,.val (.int .i64 (A.dK l))),(15,.val (.int .i64 y.i))] [(1,.cells 29 [.sl none (.ints .i64 n),.sl none (.ah (.int .i64 (.int .i64 (.int .i64 (.int .i64 (.bool .nil))))) l)])] [Any]
def lnQ (l:List E) (y:XI):Prop:=0≤y.i∧y.i≤l.length
theorem Pd {l:List E} (hl:l.length≤1000000) {i:Int} (hq:lnQ l ⟨i⟩):0≤i∧i≤l.length∧(i < l.length→aN .add .i64 i 1=i+1∧pA l ⟨i+1⟩ < pA l ⟨i⟩∧lnQ l ⟨i+1⟩):=by
 obtain⟨h0,h1⟩:=hq
 simp only at h0 h1
 exact⟨h0,h1,fun h=>⟨by rw [bp,wr _ (by omega) (by omega)],by simp only [pA];omega,by simp only;omega,by simp only;omega⟩⟩
theorem Ou {l:List E} (h:uk l=[]) {i:Int} (h0:0≤i) (hi:i < l.length):OV l (l.getD i.toNat [])=[]:=by
 unfold uk at h
 have hk:i.toNat < l.length:=by omega
 rw [List.flatMap_eq_nil_iff] at h
 refine h _ ?_
 rw [List.getD_eq_getElem?_getD,List.getElem?_eq_getElem hk]
 exact List.getElem_mem hk
def ckC (k a b s:Int):Int:=if k=1∧a=0∧b=0∧s=0 then 0 else if ¬k=2∧¬k=3 then 1 else if ¬cq a=true∨¬cq b=true∨a=b∨s < 1∨s > 2147483647 then 1 else if k=3∧a > b then 1 else 0
def JB (k a b s:Int):Bool:=decide (k=1∧a=0∧b=0∧s=0∨(k=2∨k=3)∧cq a=true∧cq b=true∧a≠b∧1≤s∧s≤2147483647∧(k=2∨a < b))
structure Ch where
 abA:Int→Int→Int→Int→Int
 aaP:Int→Int→Int→Int→Bool
 VU:Int→Int→Int→Int→Int→Int→Int
 uU:List E→K5
 Wz:List E→Int→Int→Int→Int
 Ux:List E→Bool
 vR:List E→Bool
 KU:List Int→List E→Bool
 VR:List Int→List E→Int
def Ch.U:Ch:=⟨ckC,JB,cK,xE,PB,fun l=>decide (l.length≤1000000),fun l=>decide (0 < l.length∧l.length≤1000000),fun n l=>decide (n.length≤1000000∧l.length≤1000000∧(lH n l).length=0),mI⟩
def BK (F:Ch):aZ:=fun xs h=>match xs,h with
 |[.agg [.val (.int .i64 a_n),.val (.int .i64 a_p),.val (.int .i64 a_w),.val (.int .i64 _),.val (.bool _)],.agg [.val (.int .i64 d_n),.val (.int .i64 d_p),.val (.int .i64 d_w),.val (.int .i64 _),.val (.bool _)]],[]=>some ⟨True,.sa (I (F.VU a_n a_p a_w d_n d_p d_w)),[],[Any,Any]⟩
 |_,_=>none
theorem UL (a_n:Int) (a_p:Int) (a_w:Int) (a_s:Int) (a_m:Bool) (d_n:Int) (d_p:Int) (d_w:Int) (d_s:Int) (d_m:Bool):aU [(170,ja ViL.Vl.U),(175,jS EgR.Fs.U)] Tryz.f157 [.agg [.val (.int .i64 a_n),.val (.int .i64 a_p),.val (.int .i64 a_w),.val (.int .i64 a_s),.val (.bool a_m)],.agg [.val (.int .i64 d_n),.val (.int .i64 d_p),.val (.int .i64 d_w),.val (.int .i64 d_s),.val (.bool d_m)]] [] ⟨True,.sa (I (Ch.U.VU a_n a_p a_w d_n d_p d_w)),[],[Any,Any]⟩:=by
 intro b gv
 have hfs:=(af.cons dN (af.cons fa af.nil rfl) rfl)
 generalize hF:Ch.U=F at hfs ⊢
 generalize hG0:ViL.Vl.U=G0 at hfs ⊢
 generalize hG1:ViC.Vc.U=G1 at hfs ⊢
 generalize hG2:EgR.Fs.U=G2 at hfs ⊢
 generalize hG3:ViR.Vs.U=G3 at hfs ⊢
 generalize hA:Ar.U=A
 generalize hL:Lp _ _ _=L
 obtain⟨Z,zq⟩:=aP
 refine aD (aa hL) zq rfl ?_
 repeat' (first|(refine ay zq ?_;try dsimp only)|refine ax zq ?_ (aa hL)|refine aw zq ?_|refine az ?_|refine av ?_|refine au ?_|refine aq ?_|refine ar rfl ?_|refine ai rfl ?_|refine aj rfl ?_|(refine Cd.mk ?_;cbv)|(refine aE.mk ?_;cbv)|(refine aJ.mk ?_;cbv)|exact trivial|refine And.intro ?_ ?_|refine bn fun _=>?_|refine bo fun _=>?_)
 all_goals
  clear hL zq Z
  try clear hfs
  subst hA hF hG0 hG1 hG2 hG3
  simp only [Ch.U,ViL.Vl.U,EgR.Fs.U] at *
  try (grind [al,cK])
theorem Di:aA Tryz.prog 157 (BK Ch.U):=by
 refine aG (af.cons dN (af.cons fa af.nil rfl) rfl) Tryz.func157 rfl rfl fun xs h p hp=>?_
 unfold BK at hp
 split at hp
 ·cases hp
  exact⟨aB rfl,fun _ _=>UL _ _ _ _ _ _ _ _ _ _⟩
 ·cases hp
def wR (F:Ch):aZ:=fun xs h=>match xs,h with
 |[.one (.sl none (.ah (.int .i64 (.int .i64 (.int .i64 (.int .i64 (.bool .nil))))) l))],[]=>some ⟨F.vR l=true,.sa (.one (.own 0)),[(0,.row 94 (.ah (.int .i64 (.int .i64 (.int .i64 (.int .i64 (.bool .nil))))) l))],[Any]⟩
 |_,_=>none
theorem PF (l:List E) (hC:Ch.U.vR l=true):aU [(dG 3000,fy)] Tryz.f173 [.one (.sl none (.ah (.int .i64 (.int .i64 (.int .i64 (.int .i64 (.bool .nil))))) l))] [] ⟨Ch.U.vR l=true,.sa (.one (.own 0)),[(0,.row 94 (.ah (.int .i64 (.int .i64 (.int .i64 (.int .i64 (.bool .nil))))) l))],[Any]⟩:=by
 intro b gv
 have hk:0 < l.length∧l.length≤1000000:=of_decide_eq_true (show decide (0 < l.length∧l.length≤1000000)=true from hC)
 have hfs:=(af.own (u:=3000) af.nil)
 generalize hF:Ch.U=F at hC hfs ⊢
 generalize hG0:ViL.Vl.U=G0 at hC hfs ⊢
 generalize hG1:ViC.Vc.U=G1 at hC hfs ⊢
 generalize hG2:EgR.Fs.U=G2 at hC hfs ⊢
 generalize hG3:ViR.Vs.U=G3 at hC hfs ⊢
 generalize hA:Ar.U=A
 generalize hL:Lp _ _ _=L
 obtain⟨Z,zq⟩:=aP
 refine aD (aa hL) zq rfl ?_
 repeat' (first|(refine ay zq ?_;try dsimp only)|refine ax zq ?_ (aa hL)|refine aw zq ?_|refine az ?_|refine av ?_|refine au ?_|refine aq ?_|refine ar rfl ?_|refine ai rfl ?_|refine aj rfl ?_|(refine Cd.mk ?_;cbv)|(refine aE.mk ?_;cbv)|(refine aJ.mk ?_;cbv)|exact trivial|refine And.intro ?_ ?_|refine bn fun _=>?_|refine bo fun _=>?_)
 all_goals
  clear hL zq Z
  try clear hfs
  subst hA hF hG0 hG1 hG2 hG3
  simp only [Ch.U,Ar.U,List.nil_append] at *
  try (grind [al])
theorem Aq:aA Tryz.prog 173 (wR Ch.U):=by
 refine aG (af.own (u:=3000) af.nil) Tryz.func173 rfl rfl fun xs h p hp=>?_
 unfold wR at hp
 split at hp
 ·cases hp
  exact⟨aB rfl,fun hC _=>PF _ hC⟩
 ·cases hp
def tO (_:Ch):aZ:=fun xs h=>match xs,h with
 |[.one (.val (.slice none 0 0))],[]=>some ⟨True,.sa (.one (.val (.slice none 0 0))),[],[Any]⟩
 |_,_=>none
theorem HW:aU [] Tryz.f173 [.one (.val (.slice none 0 0))] [] ⟨True,.sa (.one (.val (.slice none 0 0))),[],[Any]⟩:=by
 intro b gv
 have hfs:=af.nil
 generalize hF:Ch.U=F at hfs ⊢
 generalize hG0:ViL.Vl.U=G0 at hfs ⊢
 generalize hG1:ViC.Vc.U=G1 at hfs ⊢
 generalize hG2:EgR.Fs.U=G2 at hfs ⊢
 generalize hG3:ViR.Vs.U=G3 at hfs ⊢
 generalize hA:Ar.U=A
 generalize hL:Lp _ _ _=L
 obtain⟨Z,zq⟩:=aP
 refine aD (aa hL) zq rfl ?_
 repeat' (first|(refine ay zq ?_;try dsimp only)|refine ax zq ?_ (aa hL)|refine aw zq ?_|refine az ?_|refine av ?_|refine au ?_|refine aq ?_|refine ar rfl ?_|refine ai rfl ?_|refine aj rfl ?_|(refine Cd.mk ?_;cbv)|(refine aE.mk ?_;cbv)|(refine aJ.mk ?_;cbv)|exact trivial|refine And.intro ?_ ?_|refine bn fun _=>?_|refine bo fun _=>?_)
 all_goals
  clear hL zq Z
  try clear hfs
  subst hA hF hG0 hG1 hG2 hG3
  simp only [Ch.U,ViR.Vs.U,ViL.Vl.U,ViC.Vc.U,EgR.Fs.U,Ar.U,List.nil_append] at *
  try (grind [al])
theorem vP:aA Tryz.prog 173 (tO Ch.U):=by
 refine aG af.nil Tryz.func173 rfl rfl fun xs h p hp=>?_
 unfold tO at hp
 split at hp
 ·cases hp
  exact⟨aB rfl,fun _ _=>HW ⟩
 ·cases hp
def BQ (F:Ch):aZ:=fun xs h=>match xs,h with
 |[.one (.sl none (.ah (.int .i64 (.int .i64 (.int .i64 (.int .i64 (.bool .nil))))) l)),.agg [.val (.int .i64 e_a),.val (.int .i64 e_b),.val (.int .i64 e_w)]],[]=>some ⟨F.Ux l=true,.sa (I (F.Wz l e_a e_b e_w)),[],[Any,Any]⟩
 |_,_=>none
theorem TS (l:List E) (e_a:Int) (e_b:Int) (e_w:Int) (hC:Ch.U.Ux l=true):aU [(170,ja ViL.Vl.U)] Tryz.f176 [.one (.sl none (.ah (.int .i64 (.int .i64 (.int .i64 (.int .i64 (.bool .nil))))) l)),.agg [.val (.int .i64 e_a),.val (.int .i64 e_b),.val (.int .i64 e_w)]] [] ⟨Ch.U.Ux l=true,.sa (I (Ch.U.Wz l e_a e_b e_w)),[],[Any,Any]⟩:=by
 intro b gv
 have hk:l.length≤1000000:=of_decide_eq_true (show decide (l.length≤1000000)=true from hC)
 have hfs:=(af.cons dN af.nil rfl)
 generalize hF:Ch.U=F at hC hfs ⊢
 generalize hG0:ViL.Vl.U=G0 at hC hfs ⊢
 generalize hG1:ViC.Vc.U=G1 at hC hfs ⊢
 generalize hG2:EgR.Fs.U=G2 at hC hfs ⊢
 generalize hG3:ViR.Vs.U=G3 at hC hfs ⊢
 generalize hA:Ar.U=A
 generalize hL:Lp _ _ _=L
 obtain⟨Z,zq⟩:=aP
 refine aD (aa hL) zq rfl ?_
 repeat' (first|(refine ay zq ?_;try dsimp only)|refine ax zq ?_ (aa hL)|refine aw zq ?_|refine az ?_|refine av ?_|refine au ?_|refine aq ?_|refine ar rfl ?_|refine ai rfl ?_|refine aj rfl ?_|(refine Cd.mk ?_;cbv)|(refine aE.mk ?_;cbv)|(refine aJ.mk ?_;cbv)|exact trivial|refine And.intro ?_ ?_|refine bn fun _=>?_|refine bo fun _=>?_)
 subst hL
 refine aX (br hfs) (seQ l e_a e_b e_w) (seI A l e_a e_b e_w) (pA l) (iR 9) ⟨0⟩ ?_ ?_ ?_
 ·exact⟨Int.le_refl 0,Int.natCast_nonneg _,rfl⟩
 ·cbv
  repeat' (first|exact trivial|exact rfl|refine And.intro ?_ ?_)
 rintro⟨i⟩ hq O hO
 have hst:=NC hk hq
 subst hA
 generalize hA:Ar.U=A
 generalize hL:Lp _ _ _=L
 refine aO zq ?_
 repeat' (first|(refine ay zq ?_;try dsimp only)|refine ax zq ?_ (aa hL)|refine aw zq ?_|refine az ?_|refine av ?_|refine au ?_|refine aq ?_|refine ar rfl ?_|refine ai rfl ?_|refine aj rfl ?_|(refine Cd.mk ?_;cbv)|(refine aE.mk ?_;cbv)|(refine aJ.mk ?_;cbv)|exact trivial|refine And.intro ?_ ?_|refine bn fun _=>?_|refine bo fun _=>?_)
 all_goals (clear hL hfs zq Z hq;subst hA hF hG0 hG1 hG2 hG3 hO;simp only [Ch.U,ViL.Vl.U,Ar.U] at * <;> grind [al];done)
theorem Dw:aA Tryz.prog 176 (BQ Ch.U):=by
 refine aG (af.cons dN af.nil rfl) Tryz.func176 rfl rfl fun xs h p hp=>?_
 unfold BQ at hp
 split at hp
 ·cases hp
  exact⟨aB rfl,fun hC _=>TS _ _ _ _ hC⟩
 ·cases hp
def xa (F:Ch):aZ:=fun xs h=>match xs,h with
 |[.one (.sl none (.ah (.int .i64 (.int .i64 (.int .i64 (.int .i64 (.bool .nil))))) l)),.one (.val (.func (.func 157) ⟨[]⟩ ⟨[]⟩))],[]=>some ⟨F.vR l=true,.sa (.agg [.val (.int .i64 (F.uU l).1),.val (.int .i64 (F.uU l).2.1),.val (.int .i64 (F.uU l).2.2.1),.val (.int .i64 (F.uU l).2.2.2.1),.val (.bool (F.uU l).2.2.2.2)]),[],[Any,Any]⟩
 |_,_=>none
theorem Si (l:List E) (hC:Ch.U.vR l=true):aU [(157,BK Ch.U)] Tryz.f156 [.one (.sl none (.ah (.int .i64 (.int .i64 (.int .i64 (.int .i64 (.bool .nil))))) l)),.one (.val (.func (.func 157) ⟨[]⟩ ⟨[]⟩))] [] ⟨Ch.U.vR l=true,.sa (.agg [.val (.int .i64 (Ch.U.uU l).1),.val (.int .i64 (Ch.U.uU l).2.1),.val (.int .i64 (Ch.U.uU l).2.2.1),.val (.int .i64 (Ch.U.uU l).2.2.2.1),.val (.bool (Ch.U.uU l).2.2.2.2)]),[],[Any,Any]⟩:=by
 intro b gv
 have hk:0 < l.length∧l.length≤1000000:=of_decide_eq_true (show decide (0 < l.length∧l.length≤1000000)=true from hC)
 have hfs:=(af.cons Di af.nil rfl)
 generalize hF:Ch.U=F at hC hfs ⊢
 generalize hG0:ViL.Vl.U=G0 at hC hfs ⊢
 generalize hG1:ViC.Vc.U=G1 at hC hfs ⊢
 generalize hG2:EgR.Fs.U=G2 at hC hfs ⊢
 generalize hG3:ViR.Vs.U=G3 at hC hfs ⊢
 generalize hA:Ar.U=A
 generalize hL:Lp _ _ _=L
 obtain⟨Z,zq⟩:=aP
 refine aD (aa hL) zq rfl ?_
 repeat' (first|(refine ay zq ?_;try dsimp only)|refine ax zq ?_ (aa hL)|refine aw zq ?_|refine az ?_|refine av ?_|refine au ?_|refine aq ?_|refine ar rfl ?_|refine ai rfl ?_|refine aj rfl ?_|(refine Cd.mk ?_;cbv)|(refine aE.mk ?_;cbv)|(refine aJ.mk ?_;cbv)|exact trivial|refine And.intro ?_ ?_|refine bn fun _=>?_|refine bo fun _=>?_)
 all_goals first|(show L _ _ _;skip)|(clear hL hfs zq Z;subst hA hF hG0 hG1 hG2 hG3;simp only [Ch.U,Ar.U] at * <;> grind [al];done)
 subst hL
 refine aX (br hfs) (Yw l) (mnI l) (ZU l) mnR ⟨1,A.ri (A.bh l 0) 0,A.ri (A.bh l 0) 1,A.ri (A.bh l 0) 2,A.ri (A.bh l 0) 3,A.rb (A.bh l 0) 4⟩ ?_ ?_ ?_
 ·(subst hA;exact Oa hk.1)
 ·cbv
  repeat' (first|exact trivial|exact rfl|refine And.intro ?_ ?_)
 rintro⟨i,n,p,w,s,b⟩ hq O hO
 have hst:=MU hk.2 hq
 subst hA
 generalize hA:Ar.U=A
 generalize hL:Lp _ _ _=L
 refine aO zq ?_
 repeat' (first|(refine ay zq ?_;try dsimp only)|refine ax zq ?_ (aa hL)|refine aw zq ?_|refine az ?_|refine av ?_|refine au ?_|refine aq ?_|refine ar rfl ?_|refine ai rfl ?_|refine aj rfl ?_|(refine Cd.mk ?_;cbv)|(refine aE.mk ?_;cbv)|(refine aJ.mk ?_;cbv)|exact trivial|refine And.intro ?_ ?_|refine bn fun _=>?_|refine bo fun _=>?_)
 all_goals (clear hL hfs zq Z hq;subst hA hF hG0 hG1 hG2 hG3 hO;simp only [Ch.U,Ar.U] at * <;> grind [al];done)
theorem qZ:aA Tryz.prog 156 (xa Ch.U):=by
 refine aG (af.cons Di af.nil rfl) Tryz.func156 rfl rfl fun xs h p hp=>?_
 unfold xa at hp
 split at hp
 ·cases hp
  exact⟨aB rfl,fun hC _=>Si _ hC⟩
 ·cases hp
def sX (F:Ch):aZ:=fun xs h=>match xs,h with
 |[.agg [.sl none (.ints .i64 v_n),.sl none (.ah (.int .i64 (.int .i64 (.int .i64 (.int .i64 (.bool .nil))))) v_l)]],[]=>some ⟨F.KU v_n v_l=true,.bJ [.one (.val (.slice none 0 0)),I (F.VR v_n v_l)],[],[Any]⟩
 |_,_=>none
theorem Jz (v_n:List Int) (v_l:List E) (hC:Ch.U.KU v_n v_l=true):aU [(129,dv ViC.Vc.U),(169,rf ViL.Vl.U)] Tryz.f151 [.agg [.sl none (.ints .i64 v_n),.sl none (.ah (.int .i64 (.int .i64 (.int .i64 (.int .i64 (.bool .nil))))) v_l)]] [] ⟨Ch.U.KU v_n v_l=true,.bJ [.one (.val (.slice none 0 0)),I (Ch.U.VR v_n v_l)],[],[Any]⟩:=by
 intro b gv
 have hk:v_n.length≤1000000∧v_l.length≤1000000∧(lH v_n v_l).length=0:=of_decide_eq_true (show decide (v_n.length≤1000000∧v_l.length≤1000000∧(lH v_n v_l).length=0)=true from hC)
 have hz:bf v_n v_l=true→uk v_l=[]:=fun h=>by have e:lH v_n v_l=uk v_l:=if_pos h;rw [← e];exact List.eq_nil_of_length_eq_zero hk.2.2
 have hfs:=(af.cons bL (af.cons nf af.nil rfl) rfl)
 generalize hF:Ch.U=F at hC hfs ⊢
 generalize hG0:ViL.Vl.U=G0 at hC hfs ⊢
 generalize hG1:ViC.Vc.U=G1 at hC hfs ⊢
 generalize hG2:EgR.Fs.U=G2 at hC hfs ⊢
 generalize hG3:ViR.Vs.U=G3 at hC hfs ⊢
 generalize hA:Ar.U=A
 generalize hL:Lp _ _ _=L
 obtain⟨Z,zq⟩:=aP
 refine aD (aa hL) zq rfl ?_
 repeat' (first|(refine ay zq ?_;try dsimp only)|refine ax zq ?_ (aa hL)|refine aw zq ?_|refine az ?_|refine av ?_|refine au ?_|refine aq ?_|refine ar rfl ?_|refine ai rfl ?_|refine aj rfl ?_|(refine Cd.mk ?_;cbv)|(refine aE.mk ?_;cbv)|(refine aJ.mk ?_;cbv)|exact trivial|refine And.intro ?_ ?_|refine bn fun _=>?_|refine bo fun _=>?_)
 all_goals first|(show L _ _ _;skip)|(clear hL hfs zq Z;subst hA hF hG0 hG1 hG2 hG3;simp only [Ch.U,ViC.Vc.U,Ar.U] at * <;> grind [al,mI];done)
 rename_i hx
 have hv:bf v_n v_l=true:=by
  clear hL hfs zq Z
  subst hA hF hG0 hG1 hG2 hG3
  simp only [ViC.Vc.U,Ar.U] at hx
  grind [al,mI]
 clear hx
 have hz:=hz hv
 subst hL
 refine aX (br hfs) (lnQ v_l) (i0I A v_n v_l) (pA v_l) (iR 15) ⟨0⟩ ?_ ?_ ?_
 ·exact⟨Int.le_refl 0,Int.natCast_nonneg _⟩
 ·cbv
  repeat' (first|exact trivial|exact rfl|refine And.intro ?_ ?_)
 rintro⟨i⟩ hq O hO
 have hst:=Pd hk.2.1 hq
 have hn:=fun h=>Ou hz hq.1 h
 dsimp only at hn
 have hin:OV v_l (v_l.getD i.toNat [])=if ri (v_l.getD i.toNat []) 0 < ri (v_l.getD i.toNat []) 1∧Pp v_l (ri (v_l.getD i.toNat []) 1) (ri (v_l.getD i.toNat []) 0)=true∧(HZ v_l (ri (v_l.getD i.toNat []) 1) (ri (v_l.getD i.toNat []) 0)).w=ri (v_l.getD i.toNat []) 2∧(HZ v_l (ri (v_l.getD i.toNat []) 1) (ri (v_l.getD i.toNat []) 0)).s=ri (v_l.getD i.toNat []) 3 then [[D.int (ri (v_l.getD i.toNat []) 0),D.int (ri (v_l.getD i.toNat []) 1),D.int (ri (v_l.getD i.toNat []) 2),D.int (ri (v_l.getD i.toNat []) 3),D.bool (rb (v_l.getD i.toNat []) 4 && (HZ v_l (ri (v_l.getD i.toNat []) 1) (ri (v_l.getD i.toNat []) 0)).m)]] else []:=rfl
 subst hA
 generalize hA:Ar.U=A
 generalize hL:Lp _ _ _=L
 refine aO zq ?_
 repeat' (first|(refine ay zq ?_;try dsimp only)|refine ax zq ?_ (aa hL)|refine aw zq ?_|refine az ?_|refine av ?_|refine au ?_|refine aq ?_|refine ar rfl ?_|refine ai rfl ?_|refine aj rfl ?_|(refine Cd.mk ?_;cbv)|(refine aE.mk ?_;cbv)|(refine aJ.mk ?_;cbv)|exact trivial|refine And.intro ?_ ?_|refine bn fun _=>?_|refine bo fun _=>?_)
 all_goals (clear hL hfs zq Z hq;subst hA hF hG0 hG1 hG2 hG3 hO;simp only [Ch.U,ViL.Vl.U,Ar.U,List.nil_append] at * <;> grind [al,mI];done)
theorem vW:aA Tryz.prog 151 (sX Ch.U):=by
 refine aG (af.cons bL (af.cons nf af.nil rfl) rfl) Tryz.func151 rfl rfl fun xs h p hp=>?_
 unfold sX at hp
 split at hp
 ·cases hp
  exact⟨aB rfl,fun hC _=>Jz _ _ hC⟩
 ·cases hp
end Go.Proofs.YtelhldgdnlppfaaGreat.ChR
