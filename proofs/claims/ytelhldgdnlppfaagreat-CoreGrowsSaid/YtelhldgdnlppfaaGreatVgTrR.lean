
/-
  ways sj the reckoner. No condition.
-/
import Derived.Test.YtelhldgdnlppfaaGreatVgTrB
set_option cbv.maxSteps 4000000
set_option maxHeartbeats 4000000
set_option maxRecDepth 100000
namespace Go.Proofs.YtelhldgdnlppfaaGreat.TrR
open Go Ry Go.Proofs.YtelhldgdnlppfaaGreat.So JoS EgR SpR SpK SpT SpN TrK TrB
def rdI (st:St) (s:Nat):List Int:=match ak st.heap (match jA st s with | .ptr n _=>n|_=>0) with|some (.row _ (.ints _ l))=>l|_=>[]
def rdS (st:St) (s:Nat):List Int:=match jA st s with | .sl _ (.ints _ l)=>l|_=>[]
theorem xc {l:List E} (h:kU l=true):oQ l=0∧Fo (l.map gi)∧l.length≤512:=by
 unfold kU at h
 rw [Bool.and_eq_true,decide_eq_true_eq] at h
 obtain⟨h1,h2⟩:=h
 obtain⟨g1,g2⟩:=(mK l).1 h1
 refine⟨h1,⟨g1,(EM l IN YM fun y hy=>?_).1 h2⟩,g2⟩
 have:=EI (g1.1 _ (List.mem_map_of_mem hy))
 exact⟨this.1,this.2.1⟩
structure XB where
 i:Int
 h:List Int
 m:List Int
def toQ (l:List E) (e:Int) (y:XB):Prop:=0≤y.i∧y.i≤y.m.length∧BI (l.map gi) e ⟨y.h,y.m⟩∧NP l (65 - y.i.toNat) y.i.toNat ⟨y.h,y.m⟩=Da l e
def ZQ (y:XB):Nat:=65 - y.i.toNat
noncomputable def toI (A:Ar) (l:List E) (y:XB):St:=cC Tryz.f216.ntmps [(0,.sl none (.ah (.int .i64 (.int .i64 (.int .i64 .nil))) l)),(4,.ptr 1 0),(5,.ptr 2 0),(6,.sl (some (3,3)) (.ints .i64 y.m)),(7,.val (.int .i64 y.i))] [(1,.row 241 (.ints .i64 (A.wL 65))),(2,.row 241 (.ints .i64 y.h)),(3,.tok)] [Any,Any]
def toR (st:St):XB:=⟨bR st 7,rdI st 5,rdS st 6⟩
def Vv (l:List E) (c:Int) (s:BT) (y:XB):Prop:=0≤y.i∧y.i≤l.length∧(⟨y.h,y.m⟩:BT)=LR (l.take y.i.toNat) c s
def ZK (l:List E) (y:XB):Nat:=l.length - y.i.toNat
noncomputable def tiI (A:Ar) (l:List E) (i:Int) (y:XB):St:=cC Tryz.f216.ntmps [(0,.sl none (.ah (.int .i64 (.int .i64 (.int .i64 .nil))) l)),(4,.ptr 1 0),(5,.ptr 2 0),(6,.sl (some (3,3)) (.ints .i64 y.m)),(7,.val (.int .i64 i)),(22,.sl none (.ah (.int .i64 (.int .i64 (.int .i64 .nil))) l)),(23,.val (.int .i64 (A.dN l))),(24,.val (.int .i64 y.i))] [(1,.row 241 (.ints .i64 (A.wL 65))),(2,.row 241 (.ints .i64 y.h)),(3,.tok)] [Any,Any]
def tiR (st:St):XB:=⟨bR st 24,rdI st 5,rdS st 6⟩
theorem ML {l:List E} {e:Int} (he:gm e):toQ l e ⟨0,(List.replicate 65 0).set e.toNat e,[e]⟩:=⟨Int.le_refl 0,Int.natCast_nonneg _,Yn _ he,rfl⟩
theorem Px (l:List E) (c:Int) (h m:List Int):Vv l c ⟨h,m⟩ ⟨0,h,m⟩:=⟨Int.le_refl 0,Int.natCast_nonneg _,rfl⟩
theorem TZ {m t:List Int} {i:Nat} (h:i < m.length):(m ++ t).getD i 0=m.getD i 0:=by
 rw [List.getD_eq_getElem?_getD,List.getD_eq_getElem?_getD,List.getElem?_append_left h]
theorem Li {m:List Int} {i:Nat} (h:i < m.length):m.getD i 0∈m:=by
 rw [List.getD_eq_getElem?_getD,List.getElem?_eq_getElem h]
 exact List.getElem_mem h
theorem Mi {l:List E} (f:Fo (l.map gi)) (hl:l.length≤512) {e i:Int} {h0 m0:List Int} (hq:toQ l e ⟨i,h0,m0⟩) (hi:i < m0.length) {k:Int} {h m:List Int} (hk:Vv l (m0.getD i.toNat 0) ⟨h0,m0⟩ ⟨k,h,m⟩) :
  h.length=65∧m.length≤64∧i < m.length∧(k < l.length→aO .add .i64 k 1=k+1∧0≤px (ri (l.getD k.toNat []) 0) (ri (l.getD k.toNat []) 1) (m.getD i.toNat 0)∧px (ri (l.getD k.toNat []) 0) (ri (l.getD k.toNat []) 1) (m.getD i.toNat 0) < 65 ∧
   (∀ h' m',ZK l ⟨k+1,h',m'⟩ < ZK l ⟨k,h,m⟩) ∧
   (¬px (ri (l.getD k.toNat []) 0) (ri (l.getD k.toNat []) 1) (m.getD i.toNat 0)=0∧h.getD (px (ri (l.getD k.toNat []) 0) (ri (l.getD k.toNat []) 1) (m.getD i.toNat 0)).toNat 0=0→Vv l (m0.getD i.toNat 0) ⟨h0,m0⟩ ⟨k+1,h.set (px (ri (l.getD k.toNat []) 0) (ri (l.getD k.toNat []) 1) (m.getD i.toNat 0)).toNat (m.getD i.toNat 0),m ++ [px (ri (l.getD k.toNat []) 0) (ri (l.getD k.toNat []) 1) (m.getD i.toNat 0)]⟩) ∧
   (¬(¬px (ri (l.getD k.toNat []) 0) (ri (l.getD k.toNat []) 1) (m.getD i.toNat 0)=0∧h.getD (px (ri (l.getD k.toNat []) 0) (ri (l.getD k.toNat []) 1) (m.getD i.toNat 0)).toNat 0=0)→Vv l (m0.getD i.toNat 0) ⟨h0,m0⟩ ⟨k+1,h,m⟩)) ∧
  (¬k < l.length→aO .add .i64 i 1=i+1∧toQ l e ⟨i+1,h,m⟩∧(∀ h' m',ZQ ⟨i+1,h',m'⟩ < ZQ ⟨i,h0,m0⟩)):=by
 obtain⟨q0,q1,q2,q3⟩:=hq
 obtain⟨k0,k1,k2⟩:=hk
 simp only at q0 q1 q2 q3 k0 k1 k2
 have hm0:i.toNat < m0.length:=by omega
 have hc:=Li hm0
 have l0:=xD q2
 simp only at l0
 obtain⟨b1,⟨t,b2⟩,_⟩:=SL f.ok (l:=l.take k.toNat) q2 hc fun y hy=>List.mem_map_of_mem (List.mem_of_mem_take hy)
 rw [← k2] at b1 b2
 simp only at b2
 have eg:m.getD i.toNat 0=m0.getD i.toNat 0:=by rw [b2];exact TZ hm0
 have l1:=xD b1
 simp only at l1
 refine⟨b1.len,l1,by rw [b2,List.length_append];omega,fun g=>?_,fun g=>?_⟩
 ·have hy:=tO k0 g
  have en:0≤ot (l.getD k.toNat []) (m0.getD i.toNat 0)∧ot (l.getD k.toNat []) (m0.getD i.toNat 0) < 65:=by
   by_cases z:ot (l.getD k.toNat []) (m0.getD i.toNat 0)=0
   ·rw [z]
    omega
   ·have:=(xz (f.ok _ (List.mem_map_of_mem hy)) (Ly z)).2
    unfold gm at this
    omega
  have nx:LR (l.take (k+1).toNat) (m0.getD i.toNat 0) ⟨h0,m0⟩=Qp (m0.getD i.toNat 0) ⟨h,m⟩ (l.getD k.toNat []):=by
   rw [fa l k k0 g]
   unfold LR at k2 ⊢
   rw [List.foldl_append,← k2]
   rfl
  rw [eg]
  refine⟨by rw [bo,wr _ (by omega) (by omega)],en.1,en.2,fun _ _=>by simp only [ZK];omega,fun z=>⟨by simp only;omega,by simp only;omega,?_⟩,fun z=>⟨by simp only;omega,by simp only;omega,?_⟩⟩
  ·simp only
   rw [nx]
   exact (if_pos z).symm
  ·simp only
   rw [nx]
   exact (if_neg z).symm
 ·have e:k=l.length:=by omega
  rw [e,Int.toNat_natCast,List.take_length] at k2
  have s1:65 - i.toNat=(65 - (i+1).toNat)+1:=by omega
  have s2:(i+1).toNat=i.toNat+1:=by omega
  rw [s1,NP,if_pos hm0,← k2] at q3
  refine⟨by rw [bo,wr _ (by omega) (by omega)],⟨by simp only;omega,by simp only;rw [b2,List.length_append];omega,b1,?_⟩,fun _ _=>by simp only [ZQ];omega⟩
  simp only
  rw [s2] at q3 ⊢
  exact q3
theorem RF {l:List E} {e i:Int} {h m:List Int} (hq:toQ l e ⟨i,h,m⟩):h.length=65∧m.length≤64∧(¬i < m.length→h=qk l e):=by
 obtain⟨q0,q1,q2,q3⟩:=hq
 simp only at q0 q1 q2 q3
 have l1:=xD q2
 simp only at l1
 refine⟨q2.len,l1,fun g=>?_⟩
 show h=(Da l e).h
 rw [← q3]
 have s1:65 - i.toNat=(64 - i.toNat)+1:=by omega
 rw [s1,NP,if_neg (by simp only;omega)]
def FZ (l:List E) (e:Int):Bool:=kU l && cm e
structure XY where
 a:Int
 o:List Int
def okW (h:List Int) (n:Int):Bool:=decide (h.length=65) && Je 65 h n
def ZB (h:List Int) (a:Int) (y:XY):Prop:=1≤y.o.length∧y.o.length≤65∧Je (66 - y.o.length) h y.a=true∧y.o ++ (wF (66 - y.o.length) h y.a).drop 1=wF 65 h a
def Zt (y:XY):Nat:=65 - y.o.length
noncomputable def wyI (h:List Int) (y:XY):St:=cC Tryz.f203.ntmps [(2,.ptr 1 0),(1,.val (.int .i64 y.a)),(5,.sl (some (2,3)) (.ints .i64 y.o))] [(1,.row 241 (.ints .i64 h)),(2,.tok)] [Any,Any]
def wyR (st:St):XY:=⟨bR st 1,rdS st 5⟩
theorem NA {h:List Int} {a:Int} (hw:Je 65 h a=true):ZB h a ⟨a,[a]⟩:=⟨by simp,by simp,hw,by
 show [a] ++ (wF 65 h a).drop 1=wF 65 h a
 unfold wF
 rfl⟩
theorem Nx {h:List Int} {a n:Int} {o:List Int} (hq:ZB h a ⟨n,o⟩):0≤n∧n < 65∧o.length≤65∧(¬h.getD n.toNat 0=n→ZB h a ⟨h.getD n.toNat 0,o ++ [h.getD n.toNat 0]⟩∧(∀ x,Zt ⟨h.getD n.toNat 0,o ++ [x]⟩ < Zt ⟨n,o⟩))∧(h.getD n.toNat 0=n→o=wF 65 h a):=by
 obtain⟨q0,q1,q2,q3⟩:=hq
 simp only at q0 q1 q2 q3
 have s1:66 - o.length=(65 - o.length)+1:=by omega
 rw [s1,Je,Bool.and_eq_true,decide_eq_true_eq,Bool.or_eq_true,decide_eq_true_eq] at q2
 rw [s1,wF] at q3
 refine⟨q2.1.1,q2.1.2,q1,fun g=>?_,fun g=>?_⟩
 ·have k:=q2.2.resolve_left g
  rw [if_neg (show ¬ix h n=n from g)] at q3
  have pos:0 < 65 - o.length:=by
   cases e:65 - o.length with
   |zero=>rw [e] at k;cases k
   |succ n=>omega
  have s2:66 - (o ++ [h.getD n.toNat 0]).length=65 - o.length:=by rw [List.length_append,List.length_singleton];omega
  refine⟨⟨by simp,by simp only [List.length_append,List.length_singleton];omega,by simp only;rw [s2];exact k,?_⟩,fun x=>by simp only [Zt,List.length_append,List.length_singleton];omega⟩
  simp only
  rw [s2,← q3]
  obtain⟨j,e⟩:∃ j,65 - o.length=j+1:=⟨64 - o.length,by omega⟩
  rw [e,wF]
  simp
 ·rw [if_pos (show ix h n=n from g)] at q3
  simpa using q3
def lkF (h:List Int) (n:Nat):List Int:=((List.range n).filter fun i=>decide (¬h.getD i 0=0)).map fun i:Nat=>(i:Int)
structure XLk where
 i:Int
 o:List Int
def JW (l:List E) (a b:Int):Int:=if cm a=true∧cm b=true∧kU l=true then 0 else 1
def GB (l:List E) (a b:Int):Int:=if JW l a b=0 then (if (qk l b).getD a.toNat 0=0 then 9 else 0) else 1
def VQ (l:List E) (a b:Int):List Int:=if GB l a b=0 then qk l b else List.replicate 65 0
def wyB (l:List E) (a b:Int):List Int:=if GB l a b=0 then wF 65 (qk l b) a else []
def nxB (l:List E) (a b:Int):Int:=if GB l a b=0 then (qk l b).getD a.toNat 0 else 0
theorem Ze {l:List E} {a b:Int} (h:JW l a b=0):cm a=true∧cm b=true∧kU l=true:=by
 unfold JW at h
 split at h
 ·assumption
 ·cases h
theorem Ys (l:List E) (a b:Int):JW l a b=0∨JW l a b=1:=by
 unfold JW
 split
 ·exact .inl rfl
 ·exact .inr rfl
theorem ki (n:Int):cm n=true↔gm n:=by
 unfold cm gm
 rw [decide_eq_true_eq]
theorem Rf {l:List E} {a b:Int} (h:JW l a b=0):FZ l b=true∧(qk l b).length=65∧0≤a∧a < 65:=by
 obtain⟨h1,h2,h3⟩:=Ze h
 have n:=(ki a).1 h1
 unfold gm at n
 refine⟨by unfold FZ;rw [h2,h3];rfl,Ik (xc h3).2.1 ((ki b).1 h2),by omega,by omega⟩
theorem Ww {l:List E} {a b:Int} (h:GB l a b=0):gm a∧gm b∧oQ l=0∧Fo (l.map gi)∧Cn (l.map gi) a b∧Wy (l.map gi) b a (wF 65 (qk l b) a)∧Il (qk l b) a (wF 65 (qk l b) a)∧okW (qk l b) a=true∧(wF 65 (qk l b) a).length≤64∧JW l a b=0:=by
 unfold GB at h
 split at h
 ·rename_i c
  obtain⟨h1,h2,h3⟩:=Ze c
  have na:=(ki a).1 h1
  have nb:=(ki b).1 h2
  obtain⟨f1,f2,f3⟩:=xc h3
  split at h
  ·cases h
  ·rename_i g
   have cn:=(NS f2 nb na).1 g
   obtain⟨w1,w2,w3,w4⟩:=OW f2 nb cn
   refine⟨na,nb,f1,f2,rh cn,w1,w3,?_,w4,c⟩
   unfold okW
   rw [w2,decide_eq_true (Ik f2 nb)]
   rfl
 ·cases h
theorem Um {l:List E} {a b:Int}:(VQ l a b).length=65:=by
 unfold VQ
 split
 ·rename_i h
  exact (Rf (Ww h).2.2.2.2.2.2.2.2.2).2.1
 ·exact List.length_replicate
def bE (l:List Int) (x:Int):Bool:=decide (x∈l)
def cE (l:List Int) (x:Int):Int:=if x∈l then (l.idxOf x:Int) else -1
structure XN where
 i:Int
def ZY (l:List Int) (x:Int) (y:XN):Prop:=0≤y.i∧y.i≤l.length∧∀ j:Nat,j < y.i→¬l.getD j 0=x
def ZI (l:List Int) (y:XN):Nat:=l.length - y.i.toNat
noncomputable def ixI (A:Ar) (l:List Int) (x:Int) (y:XN):St:=cC Tryz.f112.ntmps [(0,.sl none (.ints .i64 l)),(1,.val (.int .i64 x)),(7,.val (.int .i64 (A.fE l))),(8,.val (.int .i64 y.i))] [] [Any,Any]
def ixR (st:St):XN:=⟨bR st 8⟩
theorem OY {l:List Int} {x i:Int} (hl:l.length≤1000000) (hq:ZY l x ⟨i⟩):(i < l.length→aO .add .i64 i 1=i+1∧ZI l ⟨i+1⟩ < ZI l ⟨i⟩∧(x=l.getD i.toNat 0→cE l x=i)∧(¬x=l.getD i.toNat 0→ZY l x ⟨i+1⟩))∧(¬i < l.length→cE l x = -1):=by
 obtain⟨q0,q1,q2⟩:=hq
 simp only at q0 q1 q2
 refine⟨fun g=>⟨by rw [bo,wr _ (by omega) (by omega)],by simp only [ZI];omega,fun e=>?_,fun e=>⟨by simp only;omega,by simp only;omega,fun j hj=>?_⟩⟩,fun g=>?_⟩
 ·have hi:i.toNat < l.length:=by omega
  have hx:x∈l:=by rw [e];exact Li hi
  unfold cE
  rw [if_pos hx]
  have a:l.idxOf x=i.toNat:=by
   have k1:=List.idxOf_lt_length_of_mem hx
   have k2:l[l.idxOf x]=x:=List.getElem_idxOf k1
   refine Nat.le_antisymm ?_ ?_
   ·refine Classical.byContradiction fun n=>?_
    have:=List.not_of_lt_findIdx (p:=(· == x)) (xs:=l) (i:=i.toNat) (show i.toNat < l.idxOf x by omega)
    rw [List.getD_eq_getElem?_getD,List.getElem?_eq_getElem hi,Option.getD_some] at e
    simp [← e] at this
   ·refine Classical.byContradiction fun n=>?_
    have:=q2 (l.idxOf x) (by omega)
    rw [List.getD_eq_getElem?_getD,List.getElem?_eq_getElem k1,Option.getD_some] at this
    exact this k2
  rw [a,Int.toNat_of_nonneg q0]
 ·simp only at hj
  by_cases z:j=i.toNat
  ·rw [z]
   exact fun k=>e k.symm
  ·exact q2 j (by omega)
 ·unfold cE
  rw [if_neg]
  intro hx
  obtain⟨j,hj,e⟩:=List.getElem_of_mem hx
  have:=q2 j (by omega)
  rw [List.getD_eq_getElem?_getD,List.getElem?_eq_getElem hj,Option.getD_some] at this
  exact this e
theorem ND (l:List Int) (x:Int):decide (cE l x≥0)=bE l x:=by
 unfold cE bE
 split
 ·rename_i h
  rw [decide_eq_true h,decide_eq_true (by omega)]
 ·rename_i h
  rw [decide_eq_false h,decide_eq_false (by omega)]
structure Tr where
 Wg:List E→Int→List Int
 Hz:List E→Int→Bool
 LQ:List Int→Int→List Int
 Ij:List Int→Int→Bool
 abF:List Int→List Int
 aaD:List Int→Bool
 Xg:List E→Int→Int→Int
 Xn:List E→Int→Int→Int
 LS:List E→Int→Int→List Int
 abr:List E→Int→Int→List Int
 abn:List E→Int→Int→Int
 QW:List Int→Int→Bool
 Qw:List Int→Int→Int
 vB:List Int→Bool
 ET:List E→Bool
def Tr.U:Tr:=⟨qk,FZ,wF 65,okW,fun h=>lkF h 65,fun h=>decide (h.length=65),JW,GB,VQ,wyB,nxB,bE,cE,fun l=>decide (l.length≤1000000),fun l=>decide (l.length≤1000000)⟩
def rJ (F:Tr):aY:=fun xs h=>match xs,h with
 |[.one (.sl none (.ah (.int .i64 (.int .i64 (.int .i64 .nil))) l)),.one (.val (.int .i64 e))],[]=>some ⟨F.Hz l e=true,.sa (.ef (.ints .i64 (F.Wg l e))),[],[Any,Any]⟩
 |_,_=>none
theorem Ki (l:List E) (e:Int) (hC:Tr.U.Hz l e=true):aV [(219,xQ EgR.Fs.U)] Tryz.f216 [.one (.sl none (.ah (.int .i64 (.int .i64 (.int .i64 .nil))) l)),.one (.val (.int .i64 e))] [] ⟨Tr.U.Hz l e=true,.sa (.ef (.ints .i64 (Tr.U.Wg l e))),[],[Any,Any]⟩:=by
 intro b gv
 have hk:kU l=true∧cm e=true:=by
  have h:FZ l e=true:=hC
  unfold FZ at h
  rw [Bool.and_eq_true] at h
  exact h
 obtain⟨f1,f2,f3⟩:=xc hk.1
 have he:=(ki e).1 hk.2
 have he2:1≤e∧e≤64:=he
 have hfs:=(af.cons zh af.nil rfl)
 generalize hF:Tr.U=F at hC hfs ⊢
 generalize hG0:EgR.Fs.U=G0 at hC hfs ⊢
 generalize hG1:SpR.Sp.U=G1 at hC hfs ⊢
 generalize hA:Ar.U=A
 generalize hL:Lp _ _ _=L
 obtain⟨Z,zq⟩:=aQ
 refine aD (ae hL) zq rfl ?_
 repeat' (first|(refine aw zq ?_;try dsimp only)|refine ax zq ?_ (ae hL)|refine az zq ?_|refine ay ?_|refine aq ?_|refine ar ?_|refine av ?_|refine au rfl ?_|refine ai rfl ?_|refine aj rfl ?_|(refine Cd.mk ?_;cbv)|(refine aE.mk ?_;cbv)|(refine aM.mk ?_;cbv)|exact trivial|refine And.intro ?_ ?_|refine bu fun _=>?_|refine br fun _=>?_)
 all_goals first|(show L _ _ _;skip)|(clear hL hfs zq Z;subst hA hF hG0 hG1;simp only [Tr.U,Ar.U] at * <;> grind [al];done)
 subst hL
 refine ba (bx hfs) (toQ l e) (toI A l) (ZQ) toR ⟨0,A.TR (A.wL 65) e e,[e]⟩ ?_ ?_ ?_
 ·(subst hA;exact ML he)
 ·cbv
  repeat' (first|exact trivial|exact rfl|refine And.intro ?_ ?_)
 rintro⟨i,h0,m0⟩ hq O hO
 have hen:=RF hq
 have q0:=hq.1
 have q1:=hq.2.1
 dsimp only at q0 q1
 subst hA
 generalize hA:Ar.U=A
 generalize hL:Lp _ _ _=L
 refine aR zq ?_
 repeat' (first|(refine aw zq ?_;try dsimp only)|refine ax zq ?_ (ae hL)|refine az zq ?_|refine ay ?_|refine aq ?_|refine ar ?_|refine av ?_|refine au rfl ?_|refine ai rfl ?_|refine aj rfl ?_|(refine Cd.mk ?_;cbv)|(refine aE.mk ?_;cbv)|(refine aM.mk ?_;cbv)|exact trivial|refine And.intro ?_ ?_|refine bu fun _=>?_|refine br fun _=>?_)
 all_goals first|(show L _ _ _;skip)|(clear hL hfs zq Z hq;subst hA hF hG0 hG1 hO;simp only [Tr.U,Ar.U] at * <;> grind [al];done)
 rename_i hx
 have hi:i < m0.length:=by
  clear hL hfs zq Z hF hG0 hG1 hO hen
  subst hA
  simp only [Ar.U] at hx
  grind [al]
 clear hx hen
 subst hL
 refine ba (bx hfs) (Vv l (m0.getD i.toNat 0) ⟨h0,m0⟩) (tiI A l i) (ZK l) tiR ⟨0,h0,m0⟩ ?_ ?_ ?_
 ·exact Px _ _ _ _
 ·cbv
  repeat' (first|exact trivial|exact rfl|refine And.intro ?_ ?_)
 rintro⟨k,h,m⟩ hq2 O2 hO2
 have hst:=Mi f2 f3 hq hi hq2
 have k0:=hq2.1
 have k1:=hq2.2.1
 dsimp only at k0 k1
 subst hA
 generalize hA:Ar.U=A
 generalize hL:Lp _ _ _=L
 refine aR zq ?_
 repeat' (first|(refine aw zq ?_;try dsimp only)|refine ax zq ?_ (ae hL)|refine az zq ?_|refine ay ?_|refine aq ?_|refine ar ?_|refine av ?_|refine au rfl ?_|refine ai rfl ?_|refine aj rfl ?_|(refine Cd.mk ?_;cbv)|(refine aE.mk ?_;cbv)|(refine aM.mk ?_;cbv)|exact trivial|refine And.intro ?_ ?_|refine bu fun _=>?_|refine br fun _=>?_)
 all_goals (clear hL hfs zq Z hq hq2;subst hA hF hG0 hG1 hO hO2;simp only [Tr.U,EgR.Fs.U,Ar.U] at * <;> grind [al];done)
theorem vq:aA Tryz.prog 216 (rJ Tr.U):=by
 refine aG (af.cons zh af.nil rfl) Tryz.func216 rfl rfl fun xs h p hp=>?_
 unfold rJ at hp
 split at hp
 ·cases hp
  exact⟨aB rfl,fun hC _=>Ki _ _ hC⟩
 ·cases hp
def IS (F:Tr):aY:=fun xs h=>match xs,h with
 |[.ef (.ints .i64 h),.one (.val (.int .i64 n))],[]=>some ⟨F.Ij h n=true,.sa (.one (.sl none (.ints .i64 (F.LQ h n)))),[],[Any,Any]⟩
 |_,_=>none
theorem WZ (h:List Int) (n:Int) (hC:Tr.U.Ij h n=true):aV [] Tryz.f203 [.ef (.ints .i64 h),.one (.val (.int .i64 n))] [] ⟨Tr.U.Ij h n=true,.sa (.one (.sl none (.ints .i64 (Tr.U.LQ h n)))),[],[Any,Any]⟩:=by
 intro b gv
 have hk:h.length=65∧Je 65 h n=true:=by
  have g:okW h n=true:=hC
  unfold okW at g
  rw [Bool.and_eq_true,decide_eq_true_eq] at g
  exact g
 have hk1:=hk.1
 have hfs:=af.nil
 generalize hF:Tr.U=F at hC hfs ⊢
 generalize hG0:EgR.Fs.U=G0 at hC hfs ⊢
 generalize hG1:SpR.Sp.U=G1 at hC hfs ⊢
 generalize hA:Ar.U=A
 generalize hL:Lp _ _ _=L
 obtain⟨Z,zq⟩:=aQ
 refine aD (ae hL) zq rfl ?_
 repeat' (first|(refine aw zq ?_;try dsimp only)|refine ax zq ?_ (ae hL)|refine az zq ?_|refine ay ?_|refine aq ?_|refine ar ?_|refine av ?_|refine au rfl ?_|refine ai rfl ?_|refine aj rfl ?_|(refine Cd.mk ?_;cbv)|(refine aE.mk ?_;cbv)|(refine aM.mk ?_;cbv)|exact trivial|refine And.intro ?_ ?_|refine bu fun _=>?_|refine br fun _=>?_)
 all_goals first|(show L _ _ _;skip)|(clear hL hfs zq Z;subst hA hF hG0 hG1;simp only [Tr.U,EgR.Fs.U,SpR.Sp.U,Ar.U,List.nil_append] at * <;> grind [al];done)
 subst hL
 refine ba (bx hfs) (ZB h n) (wyI h) (Zt) wyR ⟨n,[n]⟩ ?_ ?_ ?_
 ·exact NA hk.2
 ·cbv
  repeat' (first|exact trivial|exact rfl|refine And.intro ?_ ?_)
 rintro⟨c,o⟩ hq O hO
 have hst:=Nx hq
 subst hA
 generalize hA:Ar.U=A
 generalize hL:Lp _ _ _=L
 refine aR zq ?_
 repeat' (first|(refine aw zq ?_;try dsimp only)|refine ax zq ?_ (ae hL)|refine az zq ?_|refine ay ?_|refine aq ?_|refine ar ?_|refine av ?_|refine au rfl ?_|refine ai rfl ?_|refine aj rfl ?_|(refine Cd.mk ?_;cbv)|(refine aE.mk ?_;cbv)|(refine aM.mk ?_;cbv)|exact trivial|refine And.intro ?_ ?_|refine bu fun _=>?_|refine br fun _=>?_)
 all_goals (clear hL hfs zq Z hq;subst hA hF hG0 hG1 hO;simp only [Tr.U,Ar.U] at * <;> grind [al];done)
theorem Kb:aA Tryz.prog 203 (IS Tr.U):=by
 refine aG af.nil Tryz.func203 rfl rfl fun xs h p hp=>?_
 unfold IS at hp
 split at hp
 ·cases hp
  exact⟨aB rfl,fun hC _=>WZ _ _ hC⟩
 ·cases hp
def tQ (F:Tr):aY:=fun xs h=>match xs,h with
 |[.one (.sl none (.ah (.int .i64 (.int .i64 (.int .i64 .nil))) l)),.one (.val (.int .i64 a)),.one (.val (.int .i64 d))],[]=>some ⟨F.ET l=true,.sa (I (F.Xg l a d)),[],[Any,Any,Any]⟩
 |_,_=>none
theorem GY (l:List E) (a:Int) (d:Int) (hC:Tr.U.ET l=true):aV [(32,xJ EgR.Fs.U),(153,ia SpR.Sp.U)] Tryz.f215 [.one (.sl none (.ah (.int .i64 (.int .i64 (.int .i64 .nil))) l)),.one (.val (.int .i64 a)),.one (.val (.int .i64 d))] [] ⟨Tr.U.ET l=true,.sa (I (Tr.U.Xg l a d)),[],[Any,Any,Any]⟩:=by
 intro b gv
 have hfs:=(af.cons wI (af.cons eR af.nil rfl) rfl)
 generalize hF:Tr.U=F at hC hfs ⊢
 generalize hG0:EgR.Fs.U=G0 at hC hfs ⊢
 generalize hG1:SpR.Sp.U=G1 at hC hfs ⊢
 generalize hA:Ar.U=A
 generalize hL:Lp _ _ _=L
 obtain⟨Z,zq⟩:=aQ
 refine aD (ae hL) zq rfl ?_
 repeat' (first|(refine aw zq ?_;try dsimp only)|refine ax zq ?_ (ae hL)|refine az zq ?_|refine ay ?_|refine aq ?_|refine ar ?_|refine av ?_|refine au rfl ?_|refine ai rfl ?_|refine aj rfl ?_|(refine Cd.mk ?_;cbv)|(refine aE.mk ?_;cbv)|(refine aM.mk ?_;cbv)|exact trivial|refine And.intro ?_ ?_|refine bu fun _=>?_|refine br fun _=>?_)
 all_goals
  clear hL zq Z
  try clear hfs
  subst hA hF hG0 hG1
  simp only [Tr.U,EgR.Fs.U,SpR.Sp.U,Ar.U] at *
  try (grind [al,JW])
theorem vi:aA Tryz.prog 215 (tQ Tr.U):=by
 refine aG (af.cons wI (af.cons eR af.nil rfl) rfl) Tryz.func215 rfl rfl fun xs h p hp=>?_
 unfold tQ at hp
 split at hp
 ·cases hp
  exact⟨aB rfl,fun hC _=>GY _ _ _ hC⟩
 ·cases hp
def wk (F:Tr):aY:=fun xs h=>match xs,h with
 |[.one (.sl none (.ah (.int .i64 (.int .i64 (.int .i64 .nil))) l)),.one (.val (.int .i64 a)),.one (.val (.int .i64 d))],[]=>some ⟨F.ET l=true,.bK [.ef (.ints .i64 (F.LS l a d)),I (F.Xn l a d)],[],[Any,Any,Any]⟩
 |_,_=>none
theorem Nb (l:List E) (a:Int) (d:Int) (hC:Tr.U.ET l=true):aV [(215,tQ Tr.U),(216,rJ Tr.U)] Tryz.f202 [.one (.sl none (.ah (.int .i64 (.int .i64 (.int .i64 .nil))) l)),.one (.val (.int .i64 a)),.one (.val (.int .i64 d))] [] ⟨Tr.U.ET l=true,.bK [.ef (.ints .i64 (Tr.U.LS l a d)),I (Tr.U.Xn l a d)],[],[Any,Any,Any]⟩:=by
 intro b gv
 have h1:=fun h=>Rf (l:=l) (a:=a) (b:=d) h
 have h2:=Ys l a d
 have hfs:=(af.cons vi (af.cons vq af.nil rfl) rfl)
 generalize hF:Tr.U=F at hC hfs ⊢
 generalize hG0:EgR.Fs.U=G0 at hC hfs ⊢
 generalize hG1:SpR.Sp.U=G1 at hC hfs ⊢
 generalize hA:Ar.U=A
 generalize hL:Lp _ _ _=L
 obtain⟨Z,zq⟩:=aQ
 refine aD (ae hL) zq rfl ?_
 repeat' (first|(refine aw zq ?_;try dsimp only)|refine ax zq ?_ (ae hL)|refine az zq ?_|refine ay ?_|refine aq ?_|refine ar ?_|refine av ?_|refine au rfl ?_|refine ai rfl ?_|refine aj rfl ?_|(refine Cd.mk ?_;cbv)|(refine aE.mk ?_;cbv)|(refine aM.mk ?_;cbv)|exact trivial|refine And.intro ?_ ?_|refine bu fun _=>?_|refine br fun _=>?_)
 all_goals
  clear hL zq Z
  try clear hfs
  subst hA hF hG0 hG1
  simp only [Tr.U,Ar.U] at *
  try (grind [al,GB,VQ,FZ])
theorem yG:aA Tryz.prog 202 (wk Tr.U):=by
 refine aG (af.cons vi (af.cons vq af.nil rfl) rfl) Tryz.func202 rfl rfl fun xs h p hp=>?_
 unfold wk at hp
 split at hp
 ·cases hp
  exact⟨aB rfl,fun hC _=>Nb _ _ _ hC⟩
 ·cases hp
def nI (F:Tr):aY:=fun xs h=>match xs,h with
 |[.one (.sl none (.ints .i64 l)),.one (.val (.int .i64 x))],[]=>some ⟨F.vB l=true,.sa (I (F.Qw l x)),[],[Any,Any]⟩
 |_,_=>none
theorem NM (l:List Int) (x:Int) (hC:Tr.U.vB l=true):aV [] Tryz.f112 [.one (.sl none (.ints .i64 l)),.one (.val (.int .i64 x))] [] ⟨Tr.U.vB l=true,.sa (I (Tr.U.Qw l x)),[],[Any,Any]⟩:=by
 intro b gv
 have hk:l.length≤1000000:=of_decide_eq_true (show decide (l.length≤1000000)=true from hC)
 have hfs:=af.nil
 generalize hF:Tr.U=F at hC hfs ⊢
 generalize hG0:EgR.Fs.U=G0 at hC hfs ⊢
 generalize hG1:SpR.Sp.U=G1 at hC hfs ⊢
 generalize hA:Ar.U=A
 generalize hL:Lp _ _ _=L
 obtain⟨Z,zq⟩:=aQ
 refine aD (ae hL) zq rfl ?_
 repeat' (first|(refine aw zq ?_;try dsimp only)|refine ax zq ?_ (ae hL)|refine az zq ?_|refine ay ?_|refine aq ?_|refine ar ?_|refine av ?_|refine au rfl ?_|refine ai rfl ?_|refine aj rfl ?_|(refine Cd.mk ?_;cbv)|(refine aE.mk ?_;cbv)|(refine aM.mk ?_;cbv)|exact trivial|refine And.intro ?_ ?_|refine bu fun _=>?_|refine br fun _=>?_)
 subst hL
 refine ba (bx hfs) (ZY l x) (ixI A l x) (ZI l) ixR ⟨0⟩ ?_ ?_ ?_
 ·exact⟨Int.le_refl 0,Int.natCast_nonneg _,fun j hj=>by simp only at hj;omega⟩
 ·cbv
  repeat' (first|exact trivial|exact rfl|refine And.intro ?_ ?_)
 rintro⟨i⟩ hq O hO
 have hst:=OY hk hq
 have q0:=hq.1
 have q1:=hq.2.1
 dsimp only at q0 q1
 subst hA
 generalize hA:Ar.U=A
 generalize hL:Lp _ _ _=L
 refine aR zq ?_
 repeat' (first|(refine aw zq ?_;try dsimp only)|refine ax zq ?_ (ae hL)|refine az zq ?_|refine ay ?_|refine aq ?_|refine ar ?_|refine av ?_|refine au rfl ?_|refine ai rfl ?_|refine aj rfl ?_|(refine Cd.mk ?_;cbv)|(refine aE.mk ?_;cbv)|(refine aM.mk ?_;cbv)|exact trivial|refine And.intro ?_ ?_|refine bu fun _=>?_|refine br fun _=>?_)
 all_goals (clear hL hfs zq Z hq;subst hA hF hG0 hG1 hO;simp only [Tr.U,Ar.U] at * <;> grind [al];done)
theorem jX:aA Tryz.prog 112 (nI Tr.U):=by
 refine aG af.nil Tryz.func112 rfl rfl fun xs h p hp=>?_
 unfold nI at hp
 split at hp
 ·cases hp
  exact⟨aB rfl,fun hC _=>NM _ _ hC⟩
 ·cases hp
def lO (F:Tr):aY:=fun xs h=>match xs,h with
 |[.one (.sl none (.ints .i64 l)),.one (.val (.int .i64 x))],[]=>some ⟨F.vB l=true,.sa (B (F.QW l x)),[],[Any,Any]⟩
 |_,_=>none
theorem Bx (l:List Int) (x:Int) (hC:Tr.U.vB l=true):aV [(112,nI Tr.U)] Tryz.f204 [.one (.sl none (.ints .i64 l)),.one (.val (.int .i64 x))] [] ⟨Tr.U.vB l=true,.sa (B (Tr.U.QW l x)),[],[Any,Any]⟩:=by
 intro b gv
 have h1:=ND l x
 have hfs:=(af.cons jX af.nil rfl)
 generalize hF:Tr.U=F at hC hfs ⊢
 generalize hG0:EgR.Fs.U=G0 at hC hfs ⊢
 generalize hG1:SpR.Sp.U=G1 at hC hfs ⊢
 generalize hA:Ar.U=A
 generalize hL:Lp _ _ _=L
 obtain⟨Z,zq⟩:=aQ
 refine aD (ae hL) zq rfl ?_
 repeat' (first|(refine aw zq ?_;try dsimp only)|refine ax zq ?_ (ae hL)|refine az zq ?_|refine ay ?_|refine aq ?_|refine ar ?_|refine av ?_|refine au rfl ?_|refine ai rfl ?_|refine aj rfl ?_|(refine Cd.mk ?_;cbv)|(refine aE.mk ?_;cbv)|(refine aM.mk ?_;cbv)|exact trivial|refine And.intro ?_ ?_|refine bu fun _=>?_|refine br fun _=>?_)
 all_goals
  clear hL zq Z
  try clear hfs
  subst hA hF hG0 hG1
  simp only [Tr.U,Ar.U] at *
  try (grind [al])
theorem pI:aA Tryz.prog 204 (lO Tr.U):=by
 refine aG (af.cons jX af.nil rfl) Tryz.func204 rfl rfl fun xs h p hp=>?_
 unfold lO at hp
 split at hp
 ·cases hp
  exact⟨aB rfl,fun hC _=>Bx _ _ hC⟩
 ·cases hp
end Go.Proofs.YtelhldgdnlppfaaGreat.TrR
