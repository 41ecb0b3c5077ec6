
/-
  ways El the reckoner. No condition.
-/
import Derived.Test.YtelhldgdnlppfaaGreatVsW29
set_option cbv.maxSteps 4000000
set_option maxHeartbeats 4000000
set_option maxRecDepth 100000
namespace Go.Proofs.YtelhldgdnlppfaaGreat.TrR
open Go Ry Go.Proofs.YtelhldgdnlppfaaGreat.So JoS EgR SpR SpK SpT SpN TrK TrB
def rdI (st:St) (s:Nat):List Int:=match ar st.heap (match fW st s with | .ptr n _=>n|_=>0) with|some (.row _ (.ints _ l))=>l|_=>[]
def rdS (st:St) (s:Nat):List Int:=match fW st s with | .sl _ (.ints _ l)=>l|_=>[]
theorem qn {l:List E} (h:gw l=true):kS l=0∧Fo (l.map bM)∧l.length≤512:=by
 unfold gw at h;rw [Bool.and_eq_true,decide_eq_true_eq] at h;obtain⟨h1,h2⟩:=h;obtain⟨g1,g2⟩:=(gK l).1 h1;refine⟨h1,⟨g1,(yA l HN OK fun y hy=>?_).1 h2⟩,g2⟩;have:=CO (g1.1 _ (List.mem_map_of_mem hy));exact⟨this.1,this.2.1⟩
structure XB where
 i:Int
 h:List Int
 m:List Int
def toQ (l:List E) (e:Int) (y:XB):Prop:=0≤y.i∧y.i≤y.m.length∧BI (l.map bM) e ⟨y.h,y.m⟩∧QI l (65 - y.i.toNat) y.i.toNat ⟨y.h,y.m⟩=Gd l e
def toM (y:XB):Nat:=65 - y.i.toNat
noncomputable def toI (A:Ar) (l:List E) (y:XB):St:=br Tryz.f216.ntmps [(0,.sl none (.ae .pY l)),(4,.ptr 1 0),(5,.ptr 2 0),(6,.sl (some (3,3)) (.ints .i64 y.m)),(7,.ay y.i)] [(1,.row 241 (.ints .i64 (A.yI 65))),(2,.row 241 (.ints .i64 y.h)),(3,.tok)] [Any,Any]
def toR (st:St):XB:=⟨bw st 7,rdI st 5,rdS st 6⟩
def tiQ (l:List E) (c:Int) (s:BT) (y:XB):Prop:=0≤y.i∧y.i≤l.length∧(⟨y.h,y.m⟩:BT)=QE (l.take y.i.toNat) c s
def tiM (l:List E) (y:XB):Nat:=l.length - y.i.toNat
noncomputable def tiI (A:Ar) (l:List E) (i:Int) (y:XB):St:=br Tryz.f216.ntmps [(0,.sl none (.ae .pY l)),(4,.ptr 1 0),(5,.ptr 2 0),(6,.sl (some (3,3)) (.ints .i64 y.m)),(7,.ay i),(22,.sl none (.ae .pY l)),(23,.ay (A.dN l)),(24,.ay y.i)] [(1,.row 241 (.ints .i64 (A.yI 65))),(2,.row 241 (.ints .i64 y.h)),(3,.tok)] [Any,Any]
def tiR (st:St):XB:=⟨bw st 24,rdI st 5,rdS st 6⟩
theorem Tv {l:List E} {e:Int} (he:cZ e):toQ l e ⟨0,(List.replicate 65 0).set e.toNat e,[e]⟩:=⟨Int.le_refl 0,Int.natCast_nonneg _,adk _ he,rfl⟩
theorem Tj (l:List E) (c:Int) (h m:List Int):tiQ l c ⟨h,m⟩ ⟨0,h,m⟩:=⟨Int.le_refl 0,Int.natCast_nonneg _,rfl⟩
theorem YQ {m t:List Int} {i:Nat} (h:i < m.length):(m ++ t).getD i 0=m.getD i 0:=by
 rw [List.getD_eq_getElem?_getD,List.getD_eq_getElem?_getD,List.getElem?_append_left h]
theorem yr {m:List Int} {i:Nat} (h:i < m.length):m.getD i 0∈m:=by
 rw [List.getD_eq_getElem?_getD,List.getElem?_eq_getElem h];exact List.getElem_mem h
theorem Ri {l:List E} (f:Fo (l.map bM)) (hl:l.length≤512) {e i:Int} {h0 m0:List Int} (hq:toQ l e ⟨i,h0,m0⟩) (hi:i < m0.length) {k:Int} {h m:List Int} (hk:tiQ l (m0.getD i.toNat 0) ⟨h0,m0⟩ ⟨k,h,m⟩) :
  h.length=65∧m.length≤64∧i < m.length∧(k < l.length→aD .add .i64 k 1=k+1∧0≤qM (ri (l.getD k.toNat []) 0) (ri (l.getD k.toNat []) 1) (m.getD i.toNat 0)∧qM (ri (l.getD k.toNat []) 0) (ri (l.getD k.toNat []) 1) (m.getD i.toNat 0) < 65 ∧
   (∀ h' m',tiM l ⟨k+1,h',m'⟩ < tiM l ⟨k,h,m⟩) ∧
   (¬qM (ri (l.getD k.toNat []) 0) (ri (l.getD k.toNat []) 1) (m.getD i.toNat 0)=0∧h.getD (qM (ri (l.getD k.toNat []) 0) (ri (l.getD k.toNat []) 1) (m.getD i.toNat 0)).toNat 0=0→tiQ l (m0.getD i.toNat 0) ⟨h0,m0⟩ ⟨k+1,h.set (qM (ri (l.getD k.toNat []) 0) (ri (l.getD k.toNat []) 1) (m.getD i.toNat 0)).toNat (m.getD i.toNat 0),m ++ [qM (ri (l.getD k.toNat []) 0) (ri (l.getD k.toNat []) 1) (m.getD i.toNat 0)]⟩) ∧
   (¬(¬qM (ri (l.getD k.toNat []) 0) (ri (l.getD k.toNat []) 1) (m.getD i.toNat 0)=0∧h.getD (qM (ri (l.getD k.toNat []) 0) (ri (l.getD k.toNat []) 1) (m.getD i.toNat 0)).toNat 0=0)→tiQ l (m0.getD i.toNat 0) ⟨h0,m0⟩ ⟨k+1,h,m⟩)) ∧
  (¬k < l.length→aD .add .i64 i 1=i+1∧toQ l e ⟨i+1,h,m⟩∧(∀ h' m',toM ⟨i+1,h',m'⟩ < toM ⟨i,h0,m0⟩)):=by
 obtain⟨q0,q1,q2,q3⟩:=hq;obtain⟨k0,k1,k2⟩:=hk;simp only at q0 q1 q2 q3 k0 k1 k2;have hm0:i.toNat < m0.length:=by omega
 have hc:=yr hm0;have l0:=yU q2;simp only at l0;obtain⟨b1,⟨t,b2⟩,_⟩:=WS f.ok (l:=l.take k.toNat) q2 hc fun y hy=>List.mem_map_of_mem (List.mem_of_mem_take hy);rw [← k2] at b1 b2;simp only at b2;have eg:m.getD i.toNat 0=m0.getD i.toNat 0:=by rw [b2];exact YQ hm0
 have l1:=yU b1;simp only at l1;refine⟨b1.len,l1,by rw [b2,List.length_append];omega,fun g=>?_,fun g=>?_⟩
 ·have hy:=nh k0 g;have en:0≤ot (l.getD k.toNat []) (m0.getD i.toNat 0)∧ot (l.getD k.toNat []) (m0.getD i.toNat 0) < 65:=by
   by_cases z:ot (l.getD k.toNat []) (m0.getD i.toNat 0)=0
   ·rw [z];omega
   ·have:=(zW (f.ok _ (List.mem_map_of_mem hy)) (Ou z)).2;unfold cZ at this;omega
  have nx:QE (l.take (k+1).toNat) (m0.getD i.toNat 0) ⟨h0,m0⟩=UN (m0.getD i.toNat 0) ⟨h,m⟩ (l.getD k.toNat []):=by
   rw [cC l k k0 g];unfold QE at k2 ⊢;rw [List.foldl_append,← k2];rfl
  rw [eg];refine⟨by rw [aW,wr _ (by omega) (by omega)],en.1,en.2,fun _ _=>by simp only [tiM];omega,fun z=>⟨by simp only;omega,by simp only;omega,?_⟩,fun z=>⟨by simp only;omega,by simp only;omega,?_⟩⟩
  ·simp only;rw [nx];exact (if_pos z).symm
  ·simp only;rw [nx];exact (if_neg z).symm
 ·have e:k=l.length:=by omega
  rw [e,Int.toNat_natCast,List.take_length] at k2;have s1:65 - i.toNat=(65 - (i+1).toNat)+1:=by omega
  have s2:(i+1).toNat=i.toNat+1:=by omega
  rw [s1,QI,if_pos hm0,← k2] at q3;refine⟨by rw [aW,wr _ (by omega) (by omega)],⟨by simp only;omega,by simp only;rw [b2,List.length_append];omega,b1,?_⟩,fun _ _=>by simp only [toM];omega⟩;simp only;rw [s2] at q3 ⊢;exact q3
theorem Yq {l:List E} {e i:Int} {h m:List Int} (hq:toQ l e ⟨i,h,m⟩):h.length=65∧m.length≤64∧(¬i < m.length→h=qQ l e):=by
 obtain⟨q0,q1,q2,q3⟩:=hq;simp only at q0 q1 q2 q3;have l1:=yU q2;simp only at l1;refine⟨q2.len,l1,fun g=>?_⟩;show h=(Gd l e).h;rw [← q3];have s1:65 - i.toNat=(64 - i.toNat)+1:=by omega
 rw [s1,QI,if_neg (by simp only;omega)]
def JN (l:List E) (e:Int):Bool:=gw l && bG e
structure XY where
 a:Int
 o:List Int
def okW (h:List Int) (n:Int):Bool:=decide (h.length=65) && Pn 65 h n
def wyQ (h:List Int) (a:Int) (y:XY):Prop:=1≤y.o.length∧y.o.length≤65∧Pn (66 - y.o.length) h y.a=true∧y.o ++ (wF (66 - y.o.length) h y.a).drop 1=wF 65 h a
def wyM (y:XY):Nat:=65 - y.o.length
noncomputable def wyI (h:List Int) (y:XY):St:=br Tryz.f203.ntmps [(2,.ptr 1 0),(1,.ay y.a),(5,.sl (some (2,3)) (.ints .i64 y.o))] [(1,.row 241 (.ints .i64 h)),(2,.tok)] [Any,Any]
def wyR (st:St):XY:=⟨bw st 1,rdS st 5⟩
theorem SG {h:List Int} {a:Int} (hw:Pn 65 h a=true):wyQ h a ⟨a,[a]⟩:=⟨by simp,by simp,hw,by
 show [a] ++ (wF 65 h a).drop 1=wF 65 h a;unfold wF;rfl⟩
theorem Rs {h:List Int} {a n:Int} {o:List Int} (hq:wyQ h a ⟨n,o⟩):0≤n∧n < 65∧o.length≤65∧(¬h.getD n.toNat 0=n→wyQ h a ⟨h.getD n.toNat 0,o ++ [h.getD n.toNat 0]⟩∧(∀ x,wyM ⟨h.getD n.toNat 0,o ++ [x]⟩ < wyM ⟨n,o⟩))∧(h.getD n.toNat 0=n→o=wF 65 h a):=by
 obtain⟨q0,q1,q2,q3⟩:=hq;simp only at q0 q1 q2 q3;have s1:66 - o.length=(65 - o.length)+1:=by omega
 rw [s1,Pn,Bool.and_eq_true,decide_eq_true_eq,Bool.or_eq_true,decide_eq_true_eq] at q2;rw [s1,wF] at q3;refine⟨q2.1.1,q2.1.2,q1,fun g=>?_,fun g=>?_⟩
 ·have k:=q2.2.resolve_left g;rw [if_neg (show ¬ix h n=n from g)] at q3;have pos:0 < 65 - o.length:=by
   cases e:65 - o.length with
   |zero=>rw [e] at k;cases k
   |succ n=>omega
  have s2:66 - (o ++ [h.getD n.toNat 0]).length=65 - o.length:=by rw [List.length_append,List.length_singleton];omega
  refine⟨⟨by simp,by simp only [List.length_append,List.length_singleton];omega,by simp only;rw [s2];exact k,?_⟩,fun x=>by simp only [wyM,List.length_append,List.length_singleton];omega⟩;simp only;rw [s2,← q3];obtain⟨j,e⟩:∃ j,65 - o.length=j+1:=⟨64 - o.length,by omega⟩;rw [e,wF];simp
 ·rw [if_pos (show ix h n=n from g)] at q3;simpa using q3
def lkF (h:List Int) (n:Nat):List Int:=((List.range n).filter fun i=>decide (¬h.getD i 0=0)).map fun i:Nat=>(i:Int)
structure XLk where
 i:Int
 o:List Int
def De (l:List E) (a b:Int):Int:=if bG a=true∧bG b=true∧gw l=true then 0 else 1
def qc (l:List E) (a b:Int):Int:=if De l a b=0 then (if (qQ l b).getD a.toNat 0=0 then 9 else 0) else 1
def rtH (l:List E) (a b:Int):List Int:=if qc l a b=0 then qQ l b else List.replicate 65 0
def Zy (l:List E) (a b:Int):List Int:=if qc l a b=0 then wF 65 (qQ l b) a else []
def nxB (l:List E) (a b:Int):Int:=if qc l a b=0 then (qQ l b).getD a.toNat 0 else 0
theorem WT {l:List E} {a b:Int} (h:De l a b=0):bG a=true∧bG b=true∧gw l=true:=by
 unfold De at h;split at h
 ·assumption
 ·cases h
theorem acL (l:List E) (a b:Int):De l a b=0∨De l a b=1:=by
 unfold De;split
 ·exact .inl rfl
 ·exact .inr rfl
theorem gZ (n:Int):bG n=true↔cZ n:=by
 unfold bG cZ;rw [decide_eq_true_eq]
theorem VI {l:List E} {a b:Int} (h:De l a b=0):JN l b=true∧(qQ l b).length=65∧0≤a∧a < 65:=by
 obtain⟨h1,h2,h3⟩:=WT h;have n:=(gZ a).1 h1;unfold cZ at n;refine⟨by unfold JN;rw [h2,h3];rfl,Mr (qn h3).2.1 ((gZ b).1 h2),by omega,by omega⟩
theorem aaq {l:List E} {a b:Int} (h:qc l a b=0):cZ a∧cZ b∧kS l=0∧Fo (l.map bM)∧Cn (l.map bM) a b∧Wy (l.map bM) b a (wF 65 (qQ l b) a)∧JQ (qQ l b) a (wF 65 (qQ l b) a)∧okW (qQ l b) a=true∧(wF 65 (qQ l b) a).length≤64∧De l a b=0:=by
 unfold qc at h;split at h
 ·rename_i c;obtain⟨h1,h2,h3⟩:=WT c;have na:=(gZ a).1 h1;have nb:=(gZ b).1 h2;obtain⟨f1,f2,f3⟩:=qn h3;split at h
  ·cases h
  ·rename_i g;have cn:=(HT f2 nb na).1 g;obtain⟨w1,w2,w3,w4⟩:=TE f2 nb cn;refine⟨na,nb,f1,f2,fM cn,w1,w3,?_,w4,c⟩;unfold okW;rw [w2,decide_eq_true (Mr f2 nb)];rfl
 ·cases h
theorem aaF {l:List E} {a b:Int}:(rtH l a b).length=65:=by
 unfold rtH;split
 ·rename_i h;exact (VI (aaq h).2.2.2.2.2.2.2.2.2).2.1
 ·exact List.length_replicate
def bC (l:List Int) (x:Int):Bool:=decide (x∈l)
def bS (l:List Int) (x:Int):Int:=if x∈l then (l.idxOf x:Int) else -1
structure XN where
 i:Int
def ixQ (l:List Int) (x:Int) (y:XN):Prop:=0≤y.i∧y.i≤l.length∧∀ j:Nat,j < y.i→¬l.getD j 0=x
def ixM (l:List Int) (y:XN):Nat:=l.length - y.i.toNat
noncomputable def ixI (A:Ar) (l:List Int) (x:Int) (y:XN):St:=br Tryz.f112.ntmps [(0,.sl none (.ints .i64 l)),(1,.ay x),(7,.ay (A.fT l)),(8,.ay y.i)] [] [Any,Any]
def ixR (st:St):XN:=⟨bw st 8⟩
theorem QR {l:List Int} {x i:Int} (hl:l.length≤1000000) (hq:ixQ l x ⟨i⟩):(i < l.length→aD .add .i64 i 1=i+1∧ixM l ⟨i+1⟩ < ixM l ⟨i⟩∧(x=l.getD i.toNat 0→bS l x=i)∧(¬x=l.getD i.toNat 0→ixQ l x ⟨i+1⟩))∧(¬i < l.length→bS l x = -1):=by
 obtain⟨q0,q1,q2⟩:=hq;simp only at q0 q1 q2;refine⟨fun g=>⟨by rw [aW,wr _ (by omega) (by omega)],by simp only [ixM];omega,fun e=>?_,fun e=>⟨by simp only;omega,by simp only;omega,fun j hj=>?_⟩⟩,fun g=>?_⟩
 ·have hi:i.toNat < l.length:=by omega
  have hx:x∈l:=by rw [e];exact yr hi
  unfold bS;rw [if_pos hx];have a:l.idxOf x=i.toNat:=by
   have k1:=List.idxOf_lt_length_of_mem hx;have k2:l[l.idxOf x]=x:=List.getElem_idxOf k1;refine Nat.le_antisymm ?_ ?_
   ·refine Classical.byContradiction fun n=>?_;have:=List.not_of_lt_findIdx (p:=(· == x)) (xs:=l) (i:=i.toNat) (show i.toNat < l.idxOf x by omega);rw [List.getD_eq_getElem?_getD,List.getElem?_eq_getElem hi,Option.getD_some] at e;simp [← e] at this
   ·refine Classical.byContradiction fun n=>?_;have:=q2 (l.idxOf x) (by omega);rw [List.getD_eq_getElem?_getD,List.getElem?_eq_getElem k1,Option.getD_some] at this;exact this k2
  rw [a,Int.toNat_of_nonneg q0]
 ·simp only at hj
  by_cases z:j=i.toNat
  ·rw [z];exact fun k=>e k.symm
  ·exact q2 j (by omega)
 ·unfold bS;rw [if_neg];intro hx;obtain⟨j,hj,e⟩:=List.getElem_of_mem hx;have:=q2 j (by omega);rw [List.getD_eq_getElem?_getD,List.getElem?_eq_getElem hj,Option.getD_some] at this;exact this e
theorem Tm (l:List Int) (x:Int):decide (bS l x≥0)=bC l x:=by
 unfold bS bC;split
 ·rename_i h;rw [decide_eq_true h,decide_eq_true (by omega)]
 ·rename_i h;rw [decide_eq_false h,decide_eq_false (by omega)]
structure Tr where
 afU:List E→Int→List Int
 adU:List E→Int→Bool
 sw:List Int→Int→List Int
 acR:List Int→Int→Bool
 ahh:List Int→List Int
 aeQ:List Int→Bool
 afn:List E→Int→Int→Int
 ago:List E→Int→Int→Int
 Yh:List E→Int→Int→List Int
 ahs:List E→Int→Int→List Int
 aht:List E→Int→Int→Int
 adq:List Int→Int→Bool
 abv:List Int→Int→Int
 UQ:List Int→Bool
 abQ:List E→Bool
def Tr.aa:Tr:=⟨qQ,JN,wF 65,okW,fun h=>lkF h 65,fun h=>decide (h.length=65),De,qc,rtH,Zy,nxB,bC,bS,fun l=>decide (l.length≤1000000),fun l=>decide (l.length≤1000000)⟩
def Cg (F:Tr):aO:=fun xs h=>match xs,h with
 |[.one (.sl none (.ae (.int .i64 (.int .i64 (.int .i64 .nil))) l)),.one (.val (.int .i64 e))],[]=>some ⟨F.adU l e=true,.sa (.fo (.ints .i64 (F.afU l e))),[],[Any,Any]⟩
 |_,_=>none
theorem IG:au Tryz.prog 216 (Cg Tr.aa):=by
 have hfs:=(ak.cons My ak.nil rfl);refine aw hfs Tryz.func216 rfl rfl fun xs h p hp=>?_;unfold Cg at hp;split at hp
 ·rename_i l e;cases hp;refine⟨av rfl,fun hC _=>?_⟩;dsimp only at hC;intro b gv;have hk:gw l=true∧bG e=true:=by
   have h:JN l e=true:=hC;unfold JN at h;rw [Bool.and_eq_true] at h;exact h
  obtain⟨f1,f2,f3⟩:=qn hk.1;have he:=(gZ e).1 hk.2;have he2:1≤e∧e≤64:=he;generalize hF:Tr.aa=F,hG0:EgR.Fs.aa=G0,hG1:SpR.Sp.aa=G1 at hC hfs ⊢;refine bu fun Z zq A hA L hL=>?_
  repeat' (first|(apply al zq;try dsimp only)|apply aS zq (af hL)|apply aq zq|refine aT rfl ?_|apply ai|refine ah rfl ?_|refine aR rfl ?_|exact aA|apply aB|refine aP fun _=>?_|refine aQ fun _=>?_|(constructor;cbv))
  all_goals first|(show L _ _ _;skip)|(clear hL hfs zq Z;subst hA hF hG0 hG1;simp only [Tr.aa,Ar.aa] at * <;> grind [aj];done)
  subst hL;refine aJ (aN hfs) (toQ l e) (toI A l) (toM) toR ⟨0,A.Yl (A.yI 65) e e,[e]⟩ ?_ ?_ ?_
  ·(subst hA;exact Tv he)
  ·cbv
   repeat' (first|exact trivial|exact rfl|refine And.intro ?_ ?_)
  rintro⟨i,h0,m0⟩ hq O hO;have hen:=Yq hq;have q0:=hq.1;have q1:=hq.2.1;dsimp only at q0 q1;subst hA;generalize hA:Ar.aa=A;generalize hL:Lp _ _ _=L;refine az zq ?_
  repeat' (first|(apply al zq;try dsimp only)|apply aS zq (af hL)|apply aq zq|refine aT rfl ?_|apply ai|refine ah rfl ?_|refine aR rfl ?_|exact aA|apply aB|refine aP fun _=>?_|refine aQ fun _=>?_|(constructor;cbv))
  all_goals first|(show L _ _ _;skip)|(clear hL hfs zq Z hq;subst hA hF hG0 hG1 hO;simp only [Tr.aa,Ar.aa] at * <;> grind [aj];done)
  rename_i hx;have hi:i < m0.length:=by
   clear hL hfs zq Z hF hG0 hG1 hO hen;subst hA;simp only [Ar.aa] at hx
   grind [aj]
  clear hx hen;subst hL;refine aJ (aN hfs) (tiQ l (m0.getD i.toNat 0) ⟨h0,m0⟩) (tiI A l i) (tiM l) tiR ⟨0,h0,m0⟩ ?_ ?_ ?_
  ·exact Tj _ _ _ _
  ·cbv
   repeat' (first|exact trivial|exact rfl|refine And.intro ?_ ?_)
  rintro⟨k,h,m⟩ hq2 O2 hO2;have hst:=Ri f2 f3 hq hi hq2;have k0:=hq2.1;have k1:=hq2.2.1;dsimp only at k0 k1;subst hA;generalize hA:Ar.aa=A;generalize hL:Lp _ _ _=L;refine az zq ?_
  repeat' (first|(apply al zq;try dsimp only)|apply aS zq (af hL)|apply aq zq|refine aT rfl ?_|apply ai|refine ah rfl ?_|refine aR rfl ?_|exact aA|apply aB|refine aP fun _=>?_|refine aQ fun _=>?_|(constructor;cbv))
  all_goals (clear hL hfs zq Z hq hq2;subst hA hF hG0 hG1 hO hO2;simp only [Tr.aa,EgR.Fs.aa,Ar.aa] at * <;> grind [aj];done)
 ·cases hp
def Wm (F:Tr):aO:=fun xs h=>match xs,h with
 |[.fo (.ints .i64 h),.one (.val (.int .i64 n))],[]=>some ⟨F.acR h n=true,.sa (.one (.sl none (.ints .i64 (F.sw h n)))),[],[Any,Any]⟩
 |_,_=>none
theorem Zp:au Tryz.prog 203 (Wm Tr.aa):=by
 have hfs:=ak.nil;refine aw hfs Tryz.func203 rfl rfl fun xs h p hp=>?_;unfold Wm at hp;split at hp
 ·rename_i h n;cases hp;refine⟨av rfl,fun hC _=>?_⟩;dsimp only at hC;intro b gv;have hk:h.length=65∧Pn 65 h n=true:=by
   have g:okW h n=true:=hC;unfold okW at g;rw [Bool.and_eq_true,decide_eq_true_eq] at g;exact g
  have hk1:=hk.1;generalize hF:Tr.aa=F,hG0:EgR.Fs.aa=G0,hG1:SpR.Sp.aa=G1 at hC hfs ⊢;refine bu fun Z zq A hA L hL=>?_
  repeat' (first|(apply al zq;try dsimp only)|apply aS zq (af hL)|apply aq zq|refine aT rfl ?_|apply ai|refine ah rfl ?_|refine aR rfl ?_|exact aA|apply aB|refine aP fun _=>?_|refine aQ fun _=>?_|(constructor;cbv))
  all_goals first|(show L _ _ _;skip)|(clear hL hfs zq Z;subst hA hF hG0 hG1;simp only [Tr.aa,EgR.Fs.aa,SpR.Sp.aa,Ar.aa,List.nil_append] at * <;> grind [aj];done)
  subst hL;refine aJ (aN hfs) (wyQ h n) (wyI h) (wyM) wyR ⟨n,[n]⟩ ?_ ?_ ?_
  ·exact SG hk.2
  ·cbv
   repeat' (first|exact trivial|exact rfl|refine And.intro ?_ ?_)
  rintro⟨c,o⟩ hq O hO;have hst:=Rs hq;subst hA;generalize hA:Ar.aa=A;generalize hL:Lp _ _ _=L;refine az zq ?_
  repeat' (first|(apply al zq;try dsimp only)|apply aS zq (af hL)|apply aq zq|refine aT rfl ?_|apply ai|refine ah rfl ?_|refine aR rfl ?_|exact aA|apply aB|refine aP fun _=>?_|refine aQ fun _=>?_|(constructor;cbv))
  all_goals (clear hL hfs zq Z hq;subst hA hF hG0 hG1 hO;simp only [Tr.aa,Ar.aa] at * <;> grind [aj];done)
 ·cases hp
def CP (F:Tr):aO:=fun xs h=>match xs,h with
 |[.one (.sl none (.ae (.int .i64 (.int .i64 (.int .i64 .nil))) l)),.one (.val (.int .i64 a)),.one (.val (.int .i64 d))],[]=>some ⟨F.abQ l=true,.sa (I (F.afn l a d)),[],[Any,Any,Any]⟩
 |_,_=>none
theorem JR:au Tryz.prog 215 (CP Tr.aa):=by
 have hfs:=(ak.cons Gi (ak.cons lY ak.nil rfl) rfl);refine aw hfs Tryz.func215 rfl rfl fun xs h p hp=>?_;unfold CP at hp;split at hp
 ·rename_i l a d;cases hp;refine⟨av rfl,fun hC _=>?_⟩;dsimp only at hC;intro b gv;generalize hF:Tr.aa=F,hG0:EgR.Fs.aa=G0,hG1:SpR.Sp.aa=G1 at hC hfs ⊢;refine bu fun Z zq A hA L hL=>?_
  repeat' (first|(apply al zq;try dsimp only)|apply aS zq (af hL)|apply aq zq|refine aT rfl ?_|apply ai|refine ah rfl ?_|refine aR rfl ?_|exact aA|apply aB|refine aP fun _=>?_|refine aQ fun _=>?_|(constructor;cbv))
  all_goals
   clear hL zq Z
   try clear hfs
   subst hA hF hG0 hG1;simp only [Tr.aa,EgR.Fs.aa,SpR.Sp.aa,Ar.aa] at *
   try (grind [aj,De])
 ·cases hp
def Hm (F:Tr):aO:=fun xs h=>match xs,h with
 |[.one (.sl none (.ae (.int .i64 (.int .i64 (.int .i64 .nil))) l)),.one (.val (.int .i64 a)),.one (.val (.int .i64 d))],[]=>some ⟨F.abQ l=true,.cN [.fo (.ints .i64 (F.Yh l a d)),I (F.ago l a d)],[],[Any,Any,Any]⟩
 |_,_=>none
theorem LK:au Tryz.prog 202 (Hm Tr.aa):=by
 have hfs:=(ak.cons JR (ak.cons IG ak.nil rfl) rfl);refine aw hfs Tryz.func202 rfl rfl fun xs h p hp=>?_;unfold Hm at hp;split at hp
 ·rename_i l a d;cases hp;refine⟨av rfl,fun hC _=>?_⟩;dsimp only at hC;intro b gv;have h1:=fun h=>VI (l:=l) (a:=a) (b:=d) h;have h2:=acL l a d;generalize hF:Tr.aa=F,hG0:EgR.Fs.aa=G0,hG1:SpR.Sp.aa=G1 at hC hfs ⊢;refine bu fun Z zq A hA L hL=>?_
  repeat' (first|(apply al zq;try dsimp only)|apply aS zq (af hL)|apply aq zq|refine aT rfl ?_|apply ai|refine ah rfl ?_|refine aR rfl ?_|exact aA|apply aB|refine aP fun _=>?_|refine aQ fun _=>?_|(constructor;cbv))
  all_goals
   clear hL zq Z
   try clear hfs
   subst hA hF hG0 hG1;simp only [Tr.aa,Ar.aa] at *
   try (grind [aj,qc,rtH,JN])
 ·cases hp
def xV (F:Tr):aO:=fun xs h=>match xs,h with
 |[.one (.sl none (.ints .i64 l)),.one (.val (.int .i64 x))],[]=>some ⟨F.UQ l=true,.sa (I (F.abv l x)),[],[Any,Any]⟩
 |_,_=>none
theorem va:au Tryz.prog 112 (xV Tr.aa):=by
 have hfs:=ak.nil;refine aw hfs Tryz.func112 rfl rfl fun xs h p hp=>?_;unfold xV at hp;split at hp
 ·rename_i l x;cases hp;refine⟨av rfl,fun hC _=>?_⟩;dsimp only at hC;intro b gv;have hk:l.length≤1000000:=of_decide_eq_true hC;generalize hF:Tr.aa=F,hG0:EgR.Fs.aa=G0,hG1:SpR.Sp.aa=G1 at hC hfs ⊢;refine bu fun Z zq A hA L hL=>?_
  repeat' (first|(apply al zq;try dsimp only)|apply aS zq (af hL)|apply aq zq|refine aT rfl ?_|apply ai|refine ah rfl ?_|refine aR rfl ?_|exact aA|apply aB|refine aP fun _=>?_|refine aQ fun _=>?_|(constructor;cbv))
  subst hL;refine aJ (aN hfs) (ixQ l x) (ixI A l x) (ixM l) ixR ⟨0⟩ ?_ ?_ ?_
  ·exact⟨Int.le_refl 0,Int.natCast_nonneg _,fun j hj=>by simp only at hj;omega⟩
  ·cbv
   repeat' (first|exact trivial|exact rfl|refine And.intro ?_ ?_)
  rintro⟨i⟩ hq O hO;have hst:=QR hk hq;have q0:=hq.1;have q1:=hq.2.1;dsimp only at q0 q1;subst hA;generalize hA:Ar.aa=A;generalize hL:Lp _ _ _=L;refine az zq ?_
  repeat' (first|(apply al zq;try dsimp only)|apply aS zq (af hL)|apply aq zq|refine aT rfl ?_|apply ai|refine ah rfl ?_|refine aR rfl ?_|exact aA|apply aB|refine aP fun _=>?_|refine aQ fun _=>?_|(constructor;cbv))
  all_goals (clear hL hfs zq Z hq;subst hA hF hG0 hG1 hO;simp only [Tr.aa,Ar.aa] at * <;> grind [aj];done)
 ·cases hp
def ur (F:Tr):aO:=fun xs h=>match xs,h with
 |[.one (.sl none (.ints .i64 l)),.one (.val (.int .i64 x))],[]=>some ⟨F.UQ l=true,.sa (B (F.adq l x)),[],[Any,Any]⟩
 |_,_=>none
theorem Ay:au Tryz.prog 204 (ur Tr.aa):=by
 have hfs:=(ak.cons va ak.nil rfl);refine aw hfs Tryz.func204 rfl rfl fun xs h p hp=>?_;unfold ur at hp;split at hp
 ·rename_i l x;cases hp;refine⟨av rfl,fun hC _=>?_⟩;dsimp only at hC;intro b gv;have h1:=Tm l x;generalize hF:Tr.aa=F,hG0:EgR.Fs.aa=G0,hG1:SpR.Sp.aa=G1 at hC hfs ⊢;refine bu fun Z zq A hA L hL=>?_
  repeat' (first|(apply al zq;try dsimp only)|apply aS zq (af hL)|apply aq zq|refine aT rfl ?_|apply ai|refine ah rfl ?_|refine aR rfl ?_|exact aA|apply aB|refine aP fun _=>?_|refine aQ fun _=>?_|(constructor;cbv))
  all_goals
   clear hL zq Z
   try clear hfs
   subst hA hF hG0 hG1;simp only [Tr.aa,Ar.aa] at *
   try (grind [aj])
 ·cases hp
end Go.Proofs.YtelhldgdnlppfaaGreat.TrR
