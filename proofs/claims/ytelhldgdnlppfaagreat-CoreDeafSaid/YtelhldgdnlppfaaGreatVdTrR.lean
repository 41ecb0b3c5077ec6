
/-
  ways yz the reckoner. No condition.
-/
import Derived.Test.YtelhldgdnlppfaaGreatVdTrB
set_option cbv.maxSteps 4000000
set_option maxHeartbeats 4000000
set_option maxRecDepth 100000
namespace Go.Proofs.YtelhldgdnlppfaaGreat.TrR
open Go Ry Go.Proofs.YtelhldgdnlppfaaGreat.So JoS EgR SpR SpK SpT SpN TrK TrB
def rdI (st:St) (s:Nat):List Int:=match ak st.heap (match kE st s with | .ptr n _=>n|_=>0) with|some (.row _ (.ints _ l))=>l|_=>[]
def rdS (st:St) (s:Nat):List Int:=match kE st s with | .sl _ (.ints _ l)=>l|_=>[]
theorem xS {l:List E} (h:kV l=true):oM l=0∧Fo (l.map fZ)∧l.length≤512:=by
 unfold kV at h
 rw [Bool.and_eq_true,decide_eq_true_eq] at h
 obtain⟨h1,h2⟩:=h
 obtain⟨g1,g2⟩:=(iZ l).1 h1
 refine⟨h1,⟨g1,(DM l JD YC fun y hy=>?_).1 h2⟩,g2⟩
 have:=DP (g1.1 _ (List.mem_map_of_mem hy))
 exact⟨this.1,this.2.1⟩
structure XB where
 i:Int
 h:List Int
 m:List Int
def toQ (l:List E) (e:Int) (y:XB):Prop:=0≤y.i∧y.i≤y.m.length∧BI (l.map fZ) e ⟨y.h,y.m⟩∧MI l (65 - y.i.toNat) y.i.toNat ⟨y.h,y.m⟩=Er l e
def ZR (y:XB):Nat:=65 - y.i.toNat
noncomputable def toI (A:Ar) (l:List E) (y:XB):St:=cg Tryz.f216.ntmps [(0,.sl none (.ah (.int .i64 (.int .i64 (.int .i64 .nil))) l)),(4,.ptr 1 0),(5,.ptr 2 0),(6,.sl (some (3,3)) (.ints .i64 y.m)),(7,.val (.int .i64 y.i))] [(1,.row 241 (.ints .i64 (A.wD 65))),(2,.row 241 (.ints .i64 y.h)),(3,.tok)] [Any,Any]
def toR (st:St):XB:=⟨bQ st 7,rdI st 5,rdS st 6⟩
def Wg (l:List E) (c:Int) (s:BT) (y:XB):Prop:=0≤y.i∧y.i≤l.length∧(⟨y.h,y.m⟩:BT)=Mf (l.take y.i.toNat) c s
def tiM (l:List E) (y:XB):Nat:=l.length - y.i.toNat
noncomputable def tiI (A:Ar) (l:List E) (i:Int) (y:XB):St:=cg Tryz.f216.ntmps [(0,.sl none (.ah (.int .i64 (.int .i64 (.int .i64 .nil))) l)),(4,.ptr 1 0),(5,.ptr 2 0),(6,.sl (some (3,3)) (.ints .i64 y.m)),(7,.val (.int .i64 i)),(22,.sl none (.ah (.int .i64 (.int .i64 (.int .i64 .nil))) l)),(23,.val (.int .i64 (A.dK l))),(24,.val (.int .i64 y.i))] [(1,.row 241 (.ints .i64 (A.wD 65))),(2,.row 241 (.ints .i64 y.h)),(3,.tok)] [Any,Any]
def tiR (st:St):XB:=⟨bQ st 24,rdI st 5,rdS st 6⟩
theorem PQ {l:List E} {e:Int} (he:gz e):toQ l e ⟨0,(List.replicate 65 0).set e.toNat e,[e]⟩:=⟨Int.le_refl 0,Int.natCast_nonneg _,Xh _ he,rfl⟩
theorem MC (l:List E) (c:Int) (h m:List Int):Wg l c ⟨h,m⟩ ⟨0,h,m⟩:=⟨Int.le_refl 0,Int.natCast_nonneg _,rfl⟩
theorem Tu {m t:List Int} {i:Nat} (h:i < m.length):(m ++ t).getD i 0=m.getD i 0:=by
 rw [List.getD_eq_getElem?_getD,List.getD_eq_getElem?_getD,List.getElem?_append_left h]
theorem IA {m:List Int} {i:Nat} (h:i < m.length):m.getD i 0∈m:=by
 rw [List.getD_eq_getElem?_getD,List.getElem?_eq_getElem h]
 exact List.getElem_mem h
theorem OO {l:List E} (f:Fo (l.map fZ)) (hl:l.length≤512) {e i:Int} {h0 m0:List Int} (hq:toQ l e ⟨i,h0,m0⟩) (hi:i < m0.length) {k:Int} {h m:List Int} (hk:Wg l (m0.getD i.toNat 0) ⟨h0,m0⟩ ⟨k,h,m⟩) :
  h.length=65∧m.length≤64∧i < m.length∧(k < l.length→aN .add .i64 k 1=k+1∧0≤pk (ri (l.getD k.toNat []) 0) (ri (l.getD k.toNat []) 1) (m.getD i.toNat 0)∧pk (ri (l.getD k.toNat []) 0) (ri (l.getD k.toNat []) 1) (m.getD i.toNat 0) < 65 ∧
   (∀ h' m',tiM l ⟨k+1,h',m'⟩ < tiM l ⟨k,h,m⟩) ∧
   (¬pk (ri (l.getD k.toNat []) 0) (ri (l.getD k.toNat []) 1) (m.getD i.toNat 0)=0∧h.getD (pk (ri (l.getD k.toNat []) 0) (ri (l.getD k.toNat []) 1) (m.getD i.toNat 0)).toNat 0=0→Wg l (m0.getD i.toNat 0) ⟨h0,m0⟩ ⟨k+1,h.set (pk (ri (l.getD k.toNat []) 0) (ri (l.getD k.toNat []) 1) (m.getD i.toNat 0)).toNat (m.getD i.toNat 0),m ++ [pk (ri (l.getD k.toNat []) 0) (ri (l.getD k.toNat []) 1) (m.getD i.toNat 0)]⟩) ∧
   (¬(¬pk (ri (l.getD k.toNat []) 0) (ri (l.getD k.toNat []) 1) (m.getD i.toNat 0)=0∧h.getD (pk (ri (l.getD k.toNat []) 0) (ri (l.getD k.toNat []) 1) (m.getD i.toNat 0)).toNat 0=0)→Wg l (m0.getD i.toNat 0) ⟨h0,m0⟩ ⟨k+1,h,m⟩)) ∧
  (¬k < l.length→aN .add .i64 i 1=i+1∧toQ l e ⟨i+1,h,m⟩∧(∀ h' m',ZR ⟨i+1,h',m'⟩ < ZR ⟨i,h0,m0⟩)):=by
 obtain⟨q0,q1,q2,q3⟩:=hq
 obtain⟨k0,k1,k2⟩:=hk
 simp only at q0 q1 q2 q3 k0 k1 k2
 have hm0:i.toNat < m0.length:=by omega
 have hc:=IA hm0
 have l0:=wK q2
 simp only at l0
 obtain⟨b1,⟨t,b2⟩,_⟩:=Vb f.ok (l:=l.take k.toNat) q2 hc fun y hy=>List.mem_map_of_mem (List.mem_of_mem_take hy)
 rw [← k2] at b1 b2
 simp only at b2
 have eg:m.getD i.toNat 0=m0.getD i.toNat 0:=by rw [b2];exact Tu hm0
 have l1:=wK b1
 simp only at l1
 refine⟨b1.len,l1,by rw [b2,List.length_append];omega,fun g=>?_,fun g=>?_⟩
 ·have hy:=wC k0 g
  have en:0≤ot (l.getD k.toNat []) (m0.getD i.toNat 0)∧ot (l.getD k.toNat []) (m0.getD i.toNat 0) < 65:=by
   by_cases z:ot (l.getD k.toNat []) (m0.getD i.toNat 0)=0
   ·rw [z]
    omega
   ·have:=(wM (f.ok _ (List.mem_map_of_mem hy)) (HJ z)).2
    unfold gz at this
    omega
  have nx:Mf (l.take (k+1).toNat) (m0.getD i.toNat 0) ⟨h0,m0⟩=QY (m0.getD i.toNat 0) ⟨h,m⟩ (l.getD k.toNat []):=by
   rw [eO l k k0 g]
   unfold Mf at k2 ⊢
   rw [List.foldl_append,← k2]
   rfl
  rw [eg]
  refine⟨by rw [bp,wr _ (by omega) (by omega)],en.1,en.2,fun _ _=>by simp only [tiM];omega,fun z=>⟨by simp only;omega,by simp only;omega,?_⟩,fun z=>⟨by simp only;omega,by simp only;omega,?_⟩⟩
  ·simp only
   rw [nx]
   exact (if_pos z).symm
  ·simp only
   rw [nx]
   exact (if_neg z).symm
 ·have e:k=l.length:=by omega
  rw [e,Int.toNat_natCast,List.take_length] at k2
  have s1:65 - i.toNat=(65 - (i+1).toNat)+1:=by omega
  have s2:(i+1).toNat=i.toNat+1:=by omega
  rw [s1,MI,if_pos hm0,← k2] at q3
  refine⟨by rw [bp,wr _ (by omega) (by omega)],⟨by simp only;omega,by simp only;rw [b2,List.length_append];omega,b1,?_⟩,fun _ _=>by simp only [ZR];omega⟩
  simp only
  rw [s2] at q3 ⊢
  exact q3
theorem UO {l:List E} {e i:Int} {h m:List Int} (hq:toQ l e ⟨i,h,m⟩):h.length=65∧m.length≤64∧(¬i < m.length→h=qt l e):=by
 obtain⟨q0,q1,q2,q3⟩:=hq
 simp only at q0 q1 q2 q3
 have l1:=wK q2
 simp only at l1
 refine⟨q2.len,l1,fun g=>?_⟩
 show h=(Er l e).h
 rw [← q3]
 have s1:65 - i.toNat=(64 - i.toNat)+1:=by omega
 rw [s1,MI,if_neg (by simp only;omega)]
def Fy (l:List E) (e:Int):Bool:=kV l && cq e
structure XY where
 a:Int
 o:List Int
def okW (h:List Int) (n:Int):Bool:=decide (h.length=65) && LV 65 h n
def wyQ (h:List Int) (a:Int) (y:XY):Prop:=1≤y.o.length∧y.o.length≤65∧LV (66 - y.o.length) h y.a=true∧y.o ++ (wF (66 - y.o.length) h y.a).drop 1=wF 65 h a
def wyM (y:XY):Nat:=65 - y.o.length
noncomputable def wyI (h:List Int) (y:XY):St:=cg Tryz.f203.ntmps [(2,.ptr 1 0),(1,.val (.int .i64 y.a)),(5,.sl (some (2,3)) (.ints .i64 y.o))] [(1,.row 241 (.ints .i64 h)),(2,.tok)] [Any,Any]
def wyR (st:St):XY:=⟨bQ st 1,rdS st 5⟩
theorem Om {h:List Int} {a:Int} (hw:LV 65 h a=true):wyQ h a ⟨a,[a]⟩:=⟨by simp,by simp,hw,by
 show [a] ++ (wF 65 h a).drop 1=wF 65 h a
 unfold wF
 rfl⟩
theorem OY {h:List Int} {a n:Int} {o:List Int} (hq:wyQ h a ⟨n,o⟩):0≤n∧n < 65∧o.length≤65∧(¬h.getD n.toNat 0=n→wyQ h a ⟨h.getD n.toNat 0,o ++ [h.getD n.toNat 0]⟩∧(∀ x,wyM ⟨h.getD n.toNat 0,o ++ [x]⟩ < wyM ⟨n,o⟩))∧(h.getD n.toNat 0=n→o=wF 65 h a):=by
 obtain⟨q0,q1,q2,q3⟩:=hq
 simp only at q0 q1 q2 q3
 have s1:66 - o.length=(65 - o.length)+1:=by omega
 rw [s1,LV,Bool.and_eq_true,decide_eq_true_eq,Bool.or_eq_true,decide_eq_true_eq] at q2
 rw [s1,wF] at q3
 refine⟨q2.1.1,q2.1.2,q1,fun g=>?_,fun g=>?_⟩
 ·have k:=q2.2.resolve_left g
  rw [if_neg (show ¬ix h n=n from g)] at q3
  have pos:0 < 65 - o.length:=by
   cases e:65 - o.length with
   |zero=>rw [e] at k;cases k
   |succ n=>omega
  have s2:66 - (o ++ [h.getD n.toNat 0]).length=65 - o.length:=by rw [List.length_append,List.length_singleton];omega
  refine⟨⟨by simp,by simp only [List.length_append,List.length_singleton];omega,by simp only;rw [s2];exact k,?_⟩,fun x=>by simp only [wyM,List.length_append,List.length_singleton];omega⟩
  simp only
  rw [s2,← q3]
  obtain⟨j,e⟩:∃ j,65 - o.length=j+1:=⟨64 - o.length,by omega⟩
  rw [e,wF]
  simp
 ·rw [if_pos (show ix h n=n from g)] at q3
  simpa using q3
def lkF (h:List Int) (n:Nat):List Int:=((List.range n).filter fun i=>decide (¬h.getD i 0=0)).map fun i:Nat=>(i:Int)
structure XLk where
 i:Int
 o:List Int
def Ha (l:List E) (a b:Int):Int:=if cq a=true∧cq b=true∧kV l=true then 0 else 1
def GJ (l:List E) (a b:Int):Int:=if Ha l a b=0 then (if (qt l b).getD a.toNat 0=0 then 9 else 0) else 1
def Wc (l:List E) (a b:Int):List Int:=if GJ l a b=0 then qt l b else List.replicate 65 0
def wyB (l:List E) (a b:Int):List Int:=if GJ l a b=0 then wF 65 (qt l b) a else []
def nxB (l:List E) (a b:Int):Int:=if GJ l a b=0 then (qt l b).getD a.toNat 0 else 0
theorem YH {l:List E} {a b:Int} (h:Ha l a b=0):cq a=true∧cq b=true∧kV l=true:=by
 unfold Ha at h
 split at h
 ·assumption
 ·cases h
theorem Xk (l:List E) (a b:Int):Ha l a b=0∨Ha l a b=1:=by
 unfold Ha
 split
 ·exact .inl rfl
 ·exact .inr rfl
theorem ku (n:Int):cq n=true↔gz n:=by
 unfold cq gz
 rw [decide_eq_true_eq]
theorem QA {l:List E} {a b:Int} (h:Ha l a b=0):Fy l b=true∧(qt l b).length=65∧0≤a∧a < 65:=by
 obtain⟨h1,h2,h3⟩:=YH h
 have n:=(ku a).1 h1
 unfold gz at n
 refine⟨by unfold Fy;rw [h2,h3];rfl,Ig (xS h3).2.1 ((ku b).1 h2),by omega,by omega⟩
theorem VX {l:List E} {a b:Int} (h:GJ l a b=0):gz a∧gz b∧oM l=0∧Fo (l.map fZ)∧Cn (l.map fZ) a b∧Wy (l.map fZ) b a (wF 65 (qt l b) a)∧Jg (qt l b) a (wF 65 (qt l b) a)∧okW (qt l b) a=true∧(wF 65 (qt l b) a).length≤64∧Ha l a b=0:=by
 unfold GJ at h
 split at h
 ·rename_i c
  obtain⟨h1,h2,h3⟩:=YH c
  have na:=(ku a).1 h1
  have nb:=(ku b).1 h2
  obtain⟨f1,f2,f3⟩:=xS h3
  split at h
  ·cases h
  ·rename_i g
   have cn:=(OB f2 nb na).1 g
   obtain⟨w1,w2,w3,w4⟩:=NM f2 nb cn
   refine⟨na,nb,f1,f2,rv cn,w1,w3,?_,w4,c⟩
   unfold okW
   rw [w2,decide_eq_true (Ig f2 nb)]
   rfl
 ·cases h
theorem UZ {l:List E} {a b:Int}:(Wc l a b).length=65:=by
 unfold Wc
 split
 ·rename_i h
  exact (QA (VX h).2.2.2.2.2.2.2.2.2).2.1
 ·exact List.length_replicate
def bE (l:List Int) (x:Int):Bool:=decide (x∈l)
def cD (l:List Int) (x:Int):Int:=if x∈l then (l.idxOf x:Int) else -1
structure XN where
 i:Int
def ixQ (l:List Int) (x:Int) (y:XN):Prop:=0≤y.i∧y.i≤l.length∧∀ j:Nat,j < y.i→¬l.getD j 0=x
def ZS (l:List Int) (y:XN):Nat:=l.length - y.i.toNat
noncomputable def ixI (A:Ar) (l:List Int) (x:Int) (y:XN):St:=cg Tryz.f112.ntmps [(0,.sl none (.ints .i64 l)),(1,.val (.int .i64 x)),(7,.val (.int .i64 (A.fN l))),(8,.val (.int .i64 y.i))] [] [Any,Any]
def ixR (st:St):XN:=⟨bQ st 8⟩
theorem Ov {l:List Int} {x i:Int} (hl:l.length≤1000000) (hq:ixQ l x ⟨i⟩):(i < l.length→aN .add .i64 i 1=i+1∧ZS l ⟨i+1⟩ < ZS l ⟨i⟩∧(x=l.getD i.toNat 0→cD l x=i)∧(¬x=l.getD i.toNat 0→ixQ l x ⟨i+1⟩))∧(¬i < l.length→cD l x = -1):=by
 obtain⟨q0,q1,q2⟩:=hq
 simp only at q0 q1 q2
 refine⟨fun g=>⟨by rw [bp,wr _ (by omega) (by omega)],by simp only [ZS];omega,fun e=>?_,fun e=>⟨by simp only;omega,by simp only;omega,fun j hj=>?_⟩⟩,fun g=>?_⟩
 ·have hi:i.toNat < l.length:=by omega
  have hx:x∈l:=by rw [e];exact IA hi
  unfold cD
  rw [if_pos hx]
  have a:l.idxOf x=i.toNat:=by
   have k1:=List.idxOf_lt_length_of_mem hx
   have k2:l[l.idxOf x]=x:=List.getElem_idxOf k1
   refine Nat.le_antisymm ?_ ?_
   ·refine Classical.byContradiction fun n=>?_
    have:=List.not_of_lt_findIdx (p:=(· == x)) (xs:=l) (i:=i.toNat) (show i.toNat < l.idxOf x by omega)
    rw [List.getD_eq_getElem?_getD,List.getElem?_eq_getElem hi,Option.getD_some] at e
    simp [← e] at this
   ·refine Classical.byContradiction fun n=>?_
    have:=q2 (l.idxOf x) (by omega)
    rw [List.getD_eq_getElem?_getD,List.getElem?_eq_getElem k1,Option.getD_some] at this
    exact this k2
  rw [a,Int.toNat_of_nonneg q0]
 ·simp only at hj
  by_cases z:j=i.toNat
  ·rw [z]
   exact fun k=>e k.symm
  ·exact q2 j (by omega)
 ·unfold cD
  rw [if_neg]
  intro hx
  obtain⟨j,hj,e⟩:=List.getElem_of_mem hx
  have:=q2 j (by omega)
  rw [List.getD_eq_getElem?_getD,List.getElem?_eq_getElem hj,Option.getD_some] at this
  exact this e
theorem OL (l:List Int) (x:Int):decide (cD l x≥0)=bE l x:=by
 unfold cD bE
 split
 ·rename_i h
  rw [decide_eq_true h,decide_eq_true (by omega)]
 ·rename_i h
  rw [decide_eq_false h,decide_eq_false (by omega)]
structure Tr where
 Yn:List E→Int→List Int
 HU:List E→Int→Bool
 uj:List Int→Int→List Int
 JX:List Int→Int→Bool
 abJ:List Int→List Int
 aas:List Int→Bool
 Yi:List E→Int→Int→Int
 Xq:List E→Int→Int→Int
 ON:List E→Int→Int→List Int
 abz:List E→Int→Int→List Int
 abE:List E→Int→Int→Int
 Qt:List Int→Int→Bool
 Re:List Int→Int→Int
 uW:List Int→Bool
 Fe:List E→Bool
def Tr.U:Tr:=⟨qt,Fy,wF 65,okW,fun h=>lkF h 65,fun h=>decide (h.length=65),Ha,GJ,Wc,wyB,nxB,bE,cD,fun l=>decide (l.length≤1000000),fun l=>decide (l.length≤1000000)⟩
def sj (F:Tr):aZ:=fun xs h=>match xs,h with
 |[.one (.sl none (.ah (.int .i64 (.int .i64 (.int .i64 .nil))) l)),.one (.val (.int .i64 e))],[]=>some ⟨F.HU l e=true,.sa (.dZ (.ints .i64 (F.Yn l e))),[],[Any,Any]⟩
 |_,_=>none
theorem GU (l:List E) (e:Int) (hC:Tr.U.HU l e=true):aU [(219,xb EgR.Fs.U)] Tryz.f216 [.one (.sl none (.ah (.int .i64 (.int .i64 (.int .i64 .nil))) l)),.one (.val (.int .i64 e))] [] ⟨Tr.U.HU l e=true,.sa (.dZ (.ints .i64 (Tr.U.Yn l e))),[],[Any,Any]⟩:=by
 intro b gv
 have hk:kV l=true∧cq e=true:=by
  have h:Fy l e=true:=hC
  unfold Fy at h
  rw [Bool.and_eq_true] at h
  exact h
 obtain⟨f1,f2,f3⟩:=xS hk.1
 have he:=(ku e).1 hk.2
 have he2:1≤e∧e≤64:=he
 have hfs:=(af.cons AQ af.nil rfl)
 generalize hF:Tr.U=F at hC hfs ⊢
 generalize hG0:EgR.Fs.U=G0 at hC hfs ⊢
 generalize hG1:SpR.Sp.U=G1 at hC hfs ⊢
 generalize hA:Ar.U=A
 generalize hL:Lp _ _ _=L
 obtain⟨Z,zq⟩:=aP
 refine aD (aa hL) zq rfl ?_
 repeat' (first|(refine ay zq ?_;try dsimp only)|refine ax zq ?_ (aa hL)|refine aw zq ?_|refine az ?_|refine av ?_|refine au ?_|refine aq ?_|refine ar rfl ?_|refine ai rfl ?_|refine aj rfl ?_|(refine Cd.mk ?_;cbv)|(refine aE.mk ?_;cbv)|(refine aJ.mk ?_;cbv)|exact trivial|refine And.intro ?_ ?_|refine bn fun _=>?_|refine bo fun _=>?_)
 all_goals first|(show L _ _ _;skip)|(clear hL hfs zq Z;subst hA hF hG0 hG1;simp only [Tr.U,Ar.U] at * <;> grind [al];done)
 subst hL
 refine aX (br hfs) (toQ l e) (toI A l) (ZR) toR ⟨0,A.Tt (A.wD 65) e e,[e]⟩ ?_ ?_ ?_
 ·(subst hA;exact PQ he)
 ·cbv
  repeat' (first|exact trivial|exact rfl|refine And.intro ?_ ?_)
 rintro⟨i,h0,m0⟩ hq O hO
 have hen:=UO hq
 have q0:=hq.1
 have q1:=hq.2.1
 dsimp only at q0 q1
 subst hA
 generalize hA:Ar.U=A
 generalize hL:Lp _ _ _=L
 refine aO zq ?_
 repeat' (first|(refine ay zq ?_;try dsimp only)|refine ax zq ?_ (aa hL)|refine aw zq ?_|refine az ?_|refine av ?_|refine au ?_|refine aq ?_|refine ar rfl ?_|refine ai rfl ?_|refine aj rfl ?_|(refine Cd.mk ?_;cbv)|(refine aE.mk ?_;cbv)|(refine aJ.mk ?_;cbv)|exact trivial|refine And.intro ?_ ?_|refine bn fun _=>?_|refine bo fun _=>?_)
 all_goals first|(show L _ _ _;skip)|(clear hL hfs zq Z hq;subst hA hF hG0 hG1 hO;simp only [Tr.U,Ar.U] at * <;> grind [al];done)
 rename_i hx
 have hi:i < m0.length:=by
  clear hL hfs zq Z hF hG0 hG1 hO hen
  subst hA
  simp only [Ar.U] at hx
  grind [al]
 clear hx hen
 subst hL
 refine aX (br hfs) (Wg l (m0.getD i.toNat 0) ⟨h0,m0⟩) (tiI A l i) (tiM l) tiR ⟨0,h0,m0⟩ ?_ ?_ ?_
 ·exact MC _ _ _ _
 ·cbv
  repeat' (first|exact trivial|exact rfl|refine And.intro ?_ ?_)
 rintro⟨k,h,m⟩ hq2 O2 hO2
 have hst:=OO f2 f3 hq hi hq2
 have k0:=hq2.1
 have k1:=hq2.2.1
 dsimp only at k0 k1
 subst hA
 generalize hA:Ar.U=A
 generalize hL:Lp _ _ _=L
 refine aO zq ?_
 repeat' (first|(refine ay zq ?_;try dsimp only)|refine ax zq ?_ (aa hL)|refine aw zq ?_|refine az ?_|refine av ?_|refine au ?_|refine aq ?_|refine ar rfl ?_|refine ai rfl ?_|refine aj rfl ?_|(refine Cd.mk ?_;cbv)|(refine aE.mk ?_;cbv)|(refine aJ.mk ?_;cbv)|exact trivial|refine And.intro ?_ ?_|refine bn fun _=>?_|refine bo fun _=>?_)
 all_goals (clear hL hfs zq Z hq hq2;subst hA hF hG0 hG1 hO hO2;simp only [Tr.U,EgR.Fs.U,Ar.U] at * <;> grind [al];done)
theorem vu:aA Tryz.prog 216 (sj Tr.U):=by
 refine aG (af.cons AQ af.nil rfl) Tryz.func216 rfl rfl fun xs h p hp=>?_
 unfold sj at hp
 split at hp
 ·cases hp
  exact⟨aB rfl,fun hC _=>GU _ _ hC⟩
 ·cases hp
def Hm (F:Tr):aZ:=fun xs h=>match xs,h with
 |[.dZ (.ints .i64 h),.one (.val (.int .i64 n))],[]=>some ⟨F.JX h n=true,.sa (.one (.sl none (.ints .i64 (F.uj h n)))),[],[Any,Any]⟩
 |_,_=>none
theorem Yr (h:List Int) (n:Int) (hC:Tr.U.JX h n=true):aU [] Tryz.f203 [.dZ (.ints .i64 h),.one (.val (.int .i64 n))] [] ⟨Tr.U.JX h n=true,.sa (.one (.sl none (.ints .i64 (Tr.U.uj h n)))),[],[Any,Any]⟩:=by
 intro b gv
 have hk:h.length=65∧LV 65 h n=true:=by
  have g:okW h n=true:=hC
  unfold okW at g
  rw [Bool.and_eq_true,decide_eq_true_eq] at g
  exact g
 have hk1:=hk.1
 have hfs:=af.nil
 generalize hF:Tr.U=F at hC hfs ⊢
 generalize hG0:EgR.Fs.U=G0 at hC hfs ⊢
 generalize hG1:SpR.Sp.U=G1 at hC hfs ⊢
 generalize hA:Ar.U=A
 generalize hL:Lp _ _ _=L
 obtain⟨Z,zq⟩:=aP
 refine aD (aa hL) zq rfl ?_
 repeat' (first|(refine ay zq ?_;try dsimp only)|refine ax zq ?_ (aa hL)|refine aw zq ?_|refine az ?_|refine av ?_|refine au ?_|refine aq ?_|refine ar rfl ?_|refine ai rfl ?_|refine aj rfl ?_|(refine Cd.mk ?_;cbv)|(refine aE.mk ?_;cbv)|(refine aJ.mk ?_;cbv)|exact trivial|refine And.intro ?_ ?_|refine bn fun _=>?_|refine bo fun _=>?_)
 all_goals first|(show L _ _ _;skip)|(clear hL hfs zq Z;subst hA hF hG0 hG1;simp only [Tr.U,EgR.Fs.U,SpR.Sp.U,Ar.U,List.nil_append] at * <;> grind [al];done)
 subst hL
 refine aX (br hfs) (wyQ h n) (wyI h) (wyM) wyR ⟨n,[n]⟩ ?_ ?_ ?_
 ·exact Om hk.2
 ·cbv
  repeat' (first|exact trivial|exact rfl|refine And.intro ?_ ?_)
 rintro⟨c,o⟩ hq O hO
 have hst:=OY hq
 subst hA
 generalize hA:Ar.U=A
 generalize hL:Lp _ _ _=L
 refine aO zq ?_
 repeat' (first|(refine ay zq ?_;try dsimp only)|refine ax zq ?_ (aa hL)|refine aw zq ?_|refine az ?_|refine av ?_|refine au ?_|refine aq ?_|refine ar rfl ?_|refine ai rfl ?_|refine aj rfl ?_|(refine Cd.mk ?_;cbv)|(refine aE.mk ?_;cbv)|(refine aJ.mk ?_;cbv)|exact trivial|refine And.intro ?_ ?_|refine bn fun _=>?_|refine bo fun _=>?_)
 all_goals (clear hL hfs zq Z hq;subst hA hF hG0 hG1 hO;simp only [Tr.U,Ar.U] at * <;> grind [al];done)
theorem JW:aA Tryz.prog 203 (Hm Tr.U):=by
 refine aG af.nil Tryz.func203 rfl rfl fun xs h p hp=>?_
 unfold Hm at hp
 split at hp
 ·cases hp
  exact⟨aB rfl,fun hC _=>Yr _ _ hC⟩
 ·cases hp
def rZ (F:Tr):aZ:=fun xs h=>match xs,h with
 |[.one (.sl none (.ah (.int .i64 (.int .i64 (.int .i64 .nil))) l)),.one (.val (.int .i64 a)),.one (.val (.int .i64 d))],[]=>some ⟨F.Fe l=true,.sa (I (F.Yi l a d)),[],[Any,Any,Any]⟩
 |_,_=>none
theorem Hd (l:List E) (a:Int) (d:Int) (hC:Tr.U.Fe l=true):aU [(32,wQ EgR.Fs.U),(153,il SpR.Sp.U)] Tryz.f215 [.one (.sl none (.ah (.int .i64 (.int .i64 (.int .i64 .nil))) l)),.one (.val (.int .i64 a)),.one (.val (.int .i64 d))] [] ⟨Tr.U.Fe l=true,.sa (I (Tr.U.Yi l a d)),[],[Any,Any,Any]⟩:=by
 intro b gv
 have hfs:=(af.cons yq (af.cons eZ af.nil rfl) rfl)
 generalize hF:Tr.U=F at hC hfs ⊢
 generalize hG0:EgR.Fs.U=G0 at hC hfs ⊢
 generalize hG1:SpR.Sp.U=G1 at hC hfs ⊢
 generalize hA:Ar.U=A
 generalize hL:Lp _ _ _=L
 obtain⟨Z,zq⟩:=aP
 refine aD (aa hL) zq rfl ?_
 repeat' (first|(refine ay zq ?_;try dsimp only)|refine ax zq ?_ (aa hL)|refine aw zq ?_|refine az ?_|refine av ?_|refine au ?_|refine aq ?_|refine ar rfl ?_|refine ai rfl ?_|refine aj rfl ?_|(refine Cd.mk ?_;cbv)|(refine aE.mk ?_;cbv)|(refine aJ.mk ?_;cbv)|exact trivial|refine And.intro ?_ ?_|refine bn fun _=>?_|refine bo fun _=>?_)
 all_goals
  clear hL zq Z
  try clear hfs
  subst hA hF hG0 hG1
  simp only [Tr.U,EgR.Fs.U,SpR.Sp.U,Ar.U] at *
  try (grind [al,Ha])
theorem vY:aA Tryz.prog 215 (rZ Tr.U):=by
 refine aG (af.cons yq (af.cons eZ af.nil rfl) rfl) Tryz.func215 rfl rfl fun xs h p hp=>?_
 unfold rZ at hp
 split at hp
 ·cases hp
  exact⟨aB rfl,fun hC _=>Hd _ _ _ hC⟩
 ·cases hp
def yd (F:Tr):aZ:=fun xs h=>match xs,h with
 |[.one (.sl none (.ah (.int .i64 (.int .i64 (.int .i64 .nil))) l)),.one (.val (.int .i64 a)),.one (.val (.int .i64 d))],[]=>some ⟨F.Fe l=true,.bJ [.dZ (.ints .i64 (F.ON l a d)),I (F.Xq l a d)],[],[Any,Any,Any]⟩
 |_,_=>none
theorem Pe (l:List E) (a:Int) (d:Int) (hC:Tr.U.Fe l=true):aU [(215,rZ Tr.U),(216,sj Tr.U)] Tryz.f202 [.one (.sl none (.ah (.int .i64 (.int .i64 (.int .i64 .nil))) l)),.one (.val (.int .i64 a)),.one (.val (.int .i64 d))] [] ⟨Tr.U.Fe l=true,.bJ [.dZ (.ints .i64 (Tr.U.ON l a d)),I (Tr.U.Xq l a d)],[],[Any,Any,Any]⟩:=by
 intro b gv
 have h1:=fun h=>QA (l:=l) (a:=a) (b:=d) h
 have h2:=Xk l a d
 have hfs:=(af.cons vY (af.cons vu af.nil rfl) rfl)
 generalize hF:Tr.U=F at hC hfs ⊢
 generalize hG0:EgR.Fs.U=G0 at hC hfs ⊢
 generalize hG1:SpR.Sp.U=G1 at hC hfs ⊢
 generalize hA:Ar.U=A
 generalize hL:Lp _ _ _=L
 obtain⟨Z,zq⟩:=aP
 refine aD (aa hL) zq rfl ?_
 repeat' (first|(refine ay zq ?_;try dsimp only)|refine ax zq ?_ (aa hL)|refine aw zq ?_|refine az ?_|refine av ?_|refine au ?_|refine aq ?_|refine ar rfl ?_|refine ai rfl ?_|refine aj rfl ?_|(refine Cd.mk ?_;cbv)|(refine aE.mk ?_;cbv)|(refine aJ.mk ?_;cbv)|exact trivial|refine And.intro ?_ ?_|refine bn fun _=>?_|refine bo fun _=>?_)
 all_goals
  clear hL zq Z
  try clear hfs
  subst hA hF hG0 hG1
  simp only [Tr.U,Ar.U] at *
  try (grind [al,GJ,Wc,Fy])
theorem AL:aA Tryz.prog 202 (yd Tr.U):=by
 refine aG (af.cons vY (af.cons vu af.nil rfl) rfl) Tryz.func202 rfl rfl fun xs h p hp=>?_
 unfold yd at hp
 split at hp
 ·cases hp
  exact⟨aB rfl,fun hC _=>Pe _ _ _ hC⟩
 ·cases hp
def nL (F:Tr):aZ:=fun xs h=>match xs,h with
 |[.one (.sl none (.ints .i64 l)),.one (.val (.int .i64 x))],[]=>some ⟨F.uW l=true,.sa (I (F.Re l x)),[],[Any,Any]⟩
 |_,_=>none
theorem Mo (l:List Int) (x:Int) (hC:Tr.U.uW l=true):aU [] Tryz.f112 [.one (.sl none (.ints .i64 l)),.one (.val (.int .i64 x))] [] ⟨Tr.U.uW l=true,.sa (I (Tr.U.Re l x)),[],[Any,Any]⟩:=by
 intro b gv
 have hk:l.length≤1000000:=of_decide_eq_true (show decide (l.length≤1000000)=true from hC)
 have hfs:=af.nil
 generalize hF:Tr.U=F at hC hfs ⊢
 generalize hG0:EgR.Fs.U=G0 at hC hfs ⊢
 generalize hG1:SpR.Sp.U=G1 at hC hfs ⊢
 generalize hA:Ar.U=A
 generalize hL:Lp _ _ _=L
 obtain⟨Z,zq⟩:=aP
 refine aD (aa hL) zq rfl ?_
 repeat' (first|(refine ay zq ?_;try dsimp only)|refine ax zq ?_ (aa hL)|refine aw zq ?_|refine az ?_|refine av ?_|refine au ?_|refine aq ?_|refine ar rfl ?_|refine ai rfl ?_|refine aj rfl ?_|(refine Cd.mk ?_;cbv)|(refine aE.mk ?_;cbv)|(refine aJ.mk ?_;cbv)|exact trivial|refine And.intro ?_ ?_|refine bn fun _=>?_|refine bo fun _=>?_)
 subst hL
 refine aX (br hfs) (ixQ l x) (ixI A l x) (ZS l) ixR ⟨0⟩ ?_ ?_ ?_
 ·exact⟨Int.le_refl 0,Int.natCast_nonneg _,fun j hj=>by simp only at hj;omega⟩
 ·cbv
  repeat' (first|exact trivial|exact rfl|refine And.intro ?_ ?_)
 rintro⟨i⟩ hq O hO
 have hst:=Ov hk hq
 have q0:=hq.1
 have q1:=hq.2.1
 dsimp only at q0 q1
 subst hA
 generalize hA:Ar.U=A
 generalize hL:Lp _ _ _=L
 refine aO zq ?_
 repeat' (first|(refine ay zq ?_;try dsimp only)|refine ax zq ?_ (aa hL)|refine aw zq ?_|refine az ?_|refine av ?_|refine au ?_|refine aq ?_|refine ar rfl ?_|refine ai rfl ?_|refine aj rfl ?_|(refine Cd.mk ?_;cbv)|(refine aE.mk ?_;cbv)|(refine aJ.mk ?_;cbv)|exact trivial|refine And.intro ?_ ?_|refine bn fun _=>?_|refine bo fun _=>?_)
 all_goals (clear hL hfs zq Z hq;subst hA hF hG0 hG1 hO;simp only [Tr.U,Ar.U] at * <;> grind [al];done)
theorem jY:aA Tryz.prog 112 (nL Tr.U):=by
 refine aG af.nil Tryz.func112 rfl rfl fun xs h p hp=>?_
 unfold nL at hp
 split at hp
 ·cases hp
  exact⟨aB rfl,fun hC _=>Mo _ _ hC⟩
 ·cases hp
def lM (F:Tr):aZ:=fun xs h=>match xs,h with
 |[.one (.sl none (.ints .i64 l)),.one (.val (.int .i64 x))],[]=>some ⟨F.uW l=true,.sa (B (F.Qt l x)),[],[Any,Any]⟩
 |_,_=>none
theorem Br (l:List Int) (x:Int) (hC:Tr.U.uW l=true):aU [(112,nL Tr.U)] Tryz.f204 [.one (.sl none (.ints .i64 l)),.one (.val (.int .i64 x))] [] ⟨Tr.U.uW l=true,.sa (B (Tr.U.Qt l x)),[],[Any,Any]⟩:=by
 intro b gv
 have h1:=OL l x
 have hfs:=(af.cons jY af.nil rfl)
 generalize hF:Tr.U=F at hC hfs ⊢
 generalize hG0:EgR.Fs.U=G0 at hC hfs ⊢
 generalize hG1:SpR.Sp.U=G1 at hC hfs ⊢
 generalize hA:Ar.U=A
 generalize hL:Lp _ _ _=L
 obtain⟨Z,zq⟩:=aP
 refine aD (aa hL) zq rfl ?_
 repeat' (first|(refine ay zq ?_;try dsimp only)|refine ax zq ?_ (aa hL)|refine aw zq ?_|refine az ?_|refine av ?_|refine au ?_|refine aq ?_|refine ar rfl ?_|refine ai rfl ?_|refine aj rfl ?_|(refine Cd.mk ?_;cbv)|(refine aE.mk ?_;cbv)|(refine aJ.mk ?_;cbv)|exact trivial|refine And.intro ?_ ?_|refine bn fun _=>?_|refine bo fun _=>?_)
 all_goals
  clear hL zq Z
  try clear hfs
  subst hA hF hG0 hG1
  simp only [Tr.U,Ar.U] at *
  try (grind [al])
theorem pT:aA Tryz.prog 204 (lM Tr.U):=by
 refine aG (af.cons jY af.nil rfl) Tryz.func204 rfl rfl fun xs h p hp=>?_
 unfold lM at hp
 split at hp
 ·cases hp
  exact⟨aB rfl,fun hC _=>Br _ _ hC⟩
 ·cases hp
end Go.Proofs.YtelhldgdnlppfaaGreat.TrR
