/-
  views yz the reckoner: what they may be,what is searched in them. No condition.
-/
import Derived.Test.YtelhldgdnlppfaaGreatVdW14
import Derived.Test.YtelhldgdnlppfaaGreatVdW16
import Derived.Test.YtelhldgdnlppfaaGreatVdW16
set_option maxHeartbeats 4000000
set_option maxRecDepth 100000
set_option cbv.maxSteps 4000000
namespace Go.Proofs.YtelhldgdnlppfaaGreat.ViR
open Go Ry Cmp
def cq (n:Int):Bool:=decide (1≤n∧n≤64)
theorem eB (l:List Int) (j:Nat) (h:j < l.length):l.getD j 0=l[j]:=by rw [List.getD_eq_getElem?_getD,List.getElem?_eq_getElem h];rfl
theorem hD (l:List E) (j:Nat) (h:j < l.length):l.getD j []=l[j]:=by rw [List.getD_eq_getElem?_getD,List.getElem?_eq_getElem h];rfl
theorem eO (l:List E) (i:Int) (h0:0≤i) (h:i < l.length):l.take (i+1).toNat=l.take i.toNat ++ [l.getD i.toNat []]:=by
 have e:(i+1).toNat=i.toNat+1:=by omega
 have hi:i.toNat < l.length:=by omega
 rw [e,List.take_add_one,List.getD_eq_getElem?_getD,List.getElem?_eq_getElem hi]
 rfl
theorem wC {q:List E} {i:Int} (h0:0≤i) (h:i < q.length):q.getD i.toNat []∈q:=by
 have hi:i.toNat < q.length:=by omega
 rw [hD q _ hi]
 exact List.getElem_mem hi
structure XI where
 i:Int
def xv (n:Nat) (p:Nat→Bool) (y:XI):Prop:=0≤y.i∧y.i≤n∧∀ j:Nat,j < y.i→p j=true
def allM (n:Nat) (y:XI):Nat:=n - y.i.toNat
def uv (n:Nat) (p:Nat→Bool):Bool:=(List.range n).all p
theorem all_zero (n:Nat) (p:Nat→Bool):xv n p ⟨0⟩:=⟨Int.le_refl 0,Int.natCast_nonneg _,fun j hj=>by simp only at hj;omega⟩
theorem nQ {n:Nat} {p:Nat→Bool} (hn:n≤1000000) {i:Int} (hq:xv n p ⟨i⟩) (h:i < n):allM n ⟨i+1⟩ < allM n ⟨i⟩∧(p i.toNat=true→xv n p ⟨i+1⟩)∧(p i.toNat=false→uv n p=false):=by
 obtain⟨h0,h1,h2⟩:=hq
 simp only at h0 h1 h2
 refine⟨by simp only [allM];omega,fun g=>⟨by simp only;omega,by simp only;omega,fun j hj=>?_⟩,fun g=>?_⟩
 ·simp only at hj
  by_cases e:j=i.toNat
  ·rw [e]
   exact g
  ·exact h2 j (by omega)
 ·unfold uv
  rw [← Bool.not_eq_true,List.all_eq_true]
  intro w
  rw [w i.toNat (List.mem_range.2 (by omega))] at g
  cases g
theorem rj {n:Nat} {p:Nat→Bool} (hn:n≤1000000) {i:Int} (hq:xv n p ⟨i⟩):aN .add .i64 i 1=i+1∧aN .sub .i64 i 1=i - 1:=by
 obtain⟨h0,h1,_⟩:=hq
 simp only at h0 h1
 exact⟨by rw [bp,wr _ (by omega) (by omega)],by rw [lz,wr _ (by omega) (by omega)]⟩
theorem qS {n:Nat} {p:Nat→Bool} {i:Int} (hq:xv n p ⟨i⟩) (h:¬i < n):uv n p=true:=by
 obtain⟨h0,h1,h2⟩:=hq
 simp only at h0 h1 h2
 unfold uv
 rw [List.all_eq_true]
 intro j hj
 exact h2 j (by have:=List.mem_range.1 hj;omega)
theorem iZ {n:Nat} {p:Nat→Bool}:uv n p=true↔∀ j,j < n→p j=true:=by
 unfold uv
 rw [List.all_eq_true]
 exact⟨fun h j hj=>h j (List.mem_range.2 hj),fun h j hj=>h j (List.mem_range.1 hj)⟩
def orR (st:St):XI:=⟨bQ st 8⟩
def ML (l:List Int) (y:XI):Prop:=0≤y.i∧y.i≤l.length∧jt (l.drop y.i.toNat)=jt l
def orM (l:List Int) (y:XI):Nat:=l.length - y.i.toNat
noncomputable def orI (A:Ar) (l:List Int) (y:XI):St:=cg Tryz.f111.ntmps [(3,.num .i64 0),(6,.sl none (.ints .i64 l)),(7,.val (.int .i64 (A.fN l))),(8,.val (.int .i64 y.i))] [] [Any]
theorem xg (l:List Int) (i:Int) (hq:ML l ⟨i⟩) (h:i < l.length) (hl:l.length≤1000000):aN .add .i64 i 1=i+1∧(l.getD i.toNat 0=0→ML l ⟨i+1⟩)∧(¬l.getD i.toNat 0=0→jt l=l.getD i.toNat 0):=by
 obtain⟨h0,h1,h2⟩:=hq
 simp only at h0 h1 h2
 have hi:i.toNat < l.length:=by omega
 have e2:(i+1).toNat=i.toNat+1:=by omega
 rw [List.drop_eq_getElem_cons hi] at h2
 rw [eB l _ hi]
 refine⟨by rw [bp,wr _ (by omega) (by omega)],fun g=>⟨by simp only;omega,by simp only;omega,?_⟩,fun g=>?_⟩
 ·simp only
  rw [e2,← h2]
  rw [g]
  simp [jt]
 ·rw [← h2]
  simp [jt,g]
theorem Cw (l:List Int) (i:Int) (hq:ML l ⟨i⟩) (h:¬i < l.length):jt l=0:=by
 obtain⟨h0,h1,h2⟩:=hq
 simp only at h0 h1 h2
 rw [← h2,List.drop_eq_nil_of_le (by omega)]
 rfl
def hf (i j:Int):Int:=(i+j) / 2
def mv (f:Int→Bool):Nat→Int→Int→Int
 |0,i,_=>i
 |k+1,i,j=>if i < j then (if f (hf i j)=true then mv f k (hf i j+1) j else mv f k i (hf i j)) else i
theorem xq (f:Int→Bool):∀ (k m:Nat) (i j:Int),j - i≤k→j - i≤m→mv f k i j=mv f m i j
 |0,0,_,_,_,_=>rfl
 |0,m+1,i,j,h,_=>by
  unfold mv
  rw [if_neg (by omega)]
 |k+1,0,i,j,_,h=>by
  conv=>rhs;unfold mv
  unfold mv
  rw [if_neg (by omega)]
 |k+1,m+1,i,j,h,g=>by
  unfold mv
  by_cases c:i < j
  ·rw [if_pos c,if_pos c]
   unfold hf
   split
   ·exact xq f k m _ _ (by omega) (by omega)
   ·exact xq f k m _ _ (by omega) (by omega)
  ·rw [if_neg c,if_neg c]
def RG (f:Int→Bool) (n:Nat):Int:=mv f n 0 n
structure XJ where
 i:Int
 j:Int
def Nj (f:Int→Bool) (n:Nat) (y:XJ):Prop:=0≤y.i∧y.i≤y.j∧y.j≤n∧mv f n y.i y.j=RG f n
def LL (y:XJ):Nat:=(y.j - y.i).toNat
theorem xA (f:Int→Bool) (n:Nat):Nj f n ⟨0,n⟩:=⟨Int.le_refl 0,Int.natCast_nonneg _,Int.le_refl _,rfl⟩
theorem Yk (i j:Int) (h0:0≤i) (h1:i≤j) (h2:j≤1000000):IntKind.i64.wrap (aN .shr .u64 (IntKind.u64.wrap (aN .add .i64 i j)) 1)=hf i j:=by
 rw [bp,wr (i+j) (by omega) (by omega)]
 have e:IntKind.u64.wrap (i+j)=i+j:=IntWalk.u64_in _ (by omega)
 rw [e]
 have e2:aN .shr .u64 (i+j) 1=(i+j) / 2:=by
  show (i+j).fdiv (2 ^ (min (1:Int).toNat IntKind.u64.bits))=_
  rw [show min (1:Int).toNat IntKind.u64.bits=1 by decide]
  exact Int.fdiv_eq_ediv_of_nonneg _ (by omega)
 rw [e2,wr _ (by omega) (by omega)]
 rfl
theorem wJ {f:Int→Bool} {n:Nat} (hn:n≤1000000) {i j:Int} (hq:Nj f n ⟨i,j⟩) (h:i < j):IntKind.i64.wrap (aN .shr .u64 (IntKind.u64.wrap (aN .add .i64 i j)) 1)=hf i j∧0≤hf i j∧hf i j < n∧aN .add .i64 (hf i j) 1=hf i j+1 ∧
  (f (hf i j)=true→Nj f n ⟨hf i j+1,j⟩∧LL ⟨hf i j+1,j⟩ < LL ⟨i,j⟩)∧(f (hf i j)=false→Nj f n ⟨i,hf i j⟩∧LL ⟨i,hf i j⟩ < LL ⟨i,j⟩):=by
 obtain⟨h0,h1,h2,h3⟩:=hq
 simp only at h0 h1 h2 h3
 have e:=Yk i j h0 h1 (by omega)
 have hb:i≤hf i j∧hf i j < j:=by unfold hf;omega
 have hs:mv f n i j=if f (hf i j)=true then mv f n (hf i j+1) j else mv f n i (hf i j):=by
  cases n with
  |zero=>omega
  |succ n =>
   rw [xq f (n+1) (n+1+1) i j (by omega) (by omega)]
   conv=>lhs;unfold mv
   rw [if_pos h]
 rw [h3] at hs
 refine⟨e,by omega,by omega,by rw [bp,wr _ (by omega) (by omega)],fun g=>⟨⟨by simp only;omega,by simp only;omega,h2,?_⟩,by simp only [LL];omega⟩,fun g=>⟨⟨h0,by simp only;omega,by simp only;omega,?_⟩,by simp only [LL];omega⟩⟩
 ·rw [if_pos g] at hs
  exact hs.symm
 ·rw [if_neg (by rw [g];decide)] at hs
  exact hs.symm
theorem KC {f:Int→Bool} {n:Nat} {i j:Int} (hq:Nj f n ⟨i,j⟩) (h:¬i < j):i=RG f n∧0≤i∧i≤n:=by
 obtain⟨h0,h1,h2,h3⟩:=hq
 simp only at h0 h1 h2 h3
 refine⟨?_,h0,by omega⟩
 rw [← h3]
 cases n with
 |zero=>rfl
 |succ n =>
  unfold mv
  rw [if_neg h]
theorem qL (f:Int→Bool) (n:Nat):∀ (k:Nat) (i j:Int),0≤i→i≤j→j≤n→j - i≤k→(∀ x:Int,0≤x→x < i→f x=true)→(∀ x:Int,j≤x→x < n→f x=false)→(∀ x y:Int,0≤x→x≤y→y < n→f y=true→f x=true) →
  0≤mv f k i j∧mv f k i j≤n∧(∀ x:Int,0≤x→x < mv f k i j→f x=true)∧(∀ x:Int,mv f k i j≤x→x < n→f x=false)
 |0,i,j,h0,h1,h2,h3,h4,h5,_=>by
  have e:i=j:=by omega
  unfold mv
  exact⟨h0,by omega,h4,by rw [e];exact h5⟩
 |k+1,i,j,h0,h1,h2,h3,h4,h5,hm=>by
  unfold mv
  by_cases c:i < j
  ·rw [if_pos c]
   have hb:i≤hf i j∧hf i j < j:=by unfold hf;omega
   split
   ·rename_i g
    refine qL f n k _ _ (by omega) (by omega) h2 (by omega) (fun x x0 x1=>hm x (hf i j) x0 (by omega) (by omega) g) h5 hm
   ·rename_i g
    refine qL f n k _ _ h0 (by omega) (by omega) (by omega) h4 (fun x x0 x1=>?_) hm
    rw [← Bool.not_eq_true]
    exact fun w=>g (hm (hf i j) x (by omega) x0 x1 w)
  ·rw [if_neg c]
   have e:i=j:=by omega
   exact⟨h0,by omega,h4,by rw [e];exact h5⟩
def DD (l:List Int) (t:Int) (x:Int):Bool:=decide (l.getD x.toNat 0 < t)
def GI (l:List Int) (t:Int):Int:=RG (DD l t) l.length
def OQ (l:List Int) (t:Int):Bool:=decide (GI l t < l.length∧l.getD (GI l t).toNat 0=t)
noncomputable def bsS (A:Ar) (l:List Int) (t:Int) (y:XJ):St:=cg Tryz.f161.ntmps [(0,.sl none (.ints .i64 l)),(1,.val (.int .i64 t)),(6,.val (.int .i64 (A.fN l))),(7,.val (.int .i64 y.i)),(8,.val (.int .i64 y.j))] [] [Any,Any]
def bsR (st:St):XJ:=⟨bQ st 7,bQ st 8⟩
def Mc (n p n' p' : Int):Int:=if n=n' then iA p p' else iA n n'
theorem Sa (n p n' p' : Int):jt [iA n n',iA p p']=Mc n p n' p':=by
 unfold Mc
 by_cases h:n=n'
 ·rw [if_pos h,Hc h]
  simp only [jt,if_true]
  split <;> simp_all
 ·rw [if_neg h]
  have:¬iA n n' = 0:=by
   unfold iA
   split <;> (try split) <;> omega
  simp only [jt,if_neg this]
theorem Li (n p n' p' : Int):Mc n p n' p' < 0↔n < n'∨n=n'∧p < p':=by
 unfold Mc iA
 split <;> split <;> (try split) <;> omega
def ltK (l:List E) (n p:Int) (x:Int):Bool:=decide (Mc (ri (l.getD x.toNat []) 0) (ri (l.getD x.toNat []) 1) n p < 0)
def FH (l:List E) (n p:Int):Int:=RG (ltK l n p) l.length
def Pp (l:List E) (n p:Int):Bool:=decide (FH l n p < l.length∧Mc (ri (l.getD (FH l n p).toNat []) 0) (ri (l.getD (FH l n p).toNat []) 1) n p=0)
def ZX (n p w s:Int):Bool:=decide (cq n=true∧cq p=true∧n≠p∧0≤w∧w≤2147483647∧1≤s∧s≤2147483647)
def Yf (n:List Int) (i:Nat):Bool:=decide (cq (n.getD i 0)=true∧(0 < i→n.getD (i - 1) 0 < n.getD i 0))
def dJ (n:List Int):Bool:=uv n.length (Yf n)
def QC (y:E):Bool:=ZX (ri y 0) (ri y 1) (ri y 2) (ri y 3)
def VJ (n:List Int) (l:List E) (i:Nat):Bool:=decide (QC (l.getD i [])=true∧n.contains (ri (l.getD i []) 0)=true∧(0 < i→Mc (ri (l.getD (i - 1) []) 0) (ri (l.getD (i - 1) []) 1) (ri (l.getD i []) 0) (ri (l.getD i []) 1) < 0))
def bf (n:List Int) (l:List E):Bool:=dJ n && uv l.length (VJ n l)
def mI (n:List Int) (l:List E):Int:=if bf n l=true then 0 else 1
theorem tW {n:List Int}:dJ n=true↔∀ i,i < n.length→cq (n.getD i 0)=true∧(0 < i→n.getD (i - 1) 0 < n.getD i 0):=by
 unfold dJ
 rw [iZ]
 unfold Yf
 simp only [decide_eq_true_eq]
theorem qM {n:List Int} (h:dJ n=true):∀ (j i:Nat),i < j→j < n.length→n.getD i 0 < n.getD j 0
 |0,_,h1,_=>absurd h1 (Nat.not_lt_zero _)
 |j+1,i,h1,h2=>by
  have g:=(tW.1 h (j+1) h2).2 (Nat.zero_lt_succ _)
  rw [Nat.add_sub_cancel] at g
  by_cases e:i=j
  ·rw [e]
   exact g
  ·have:=qM h j i (by omega) (by omega)
   omega
theorem oY {n:List Int} (h:dJ n=true) (t:Int):OQ n t=n.contains t:=by
 have hs:=qL (DD n t) n.length n.length 0 n.length (Int.le_refl 0) (Int.natCast_nonneg _) (Int.le_refl _) (by omega) (fun x x0 x1=>by omega) (fun x x0 x1=>by omega) (fun x y x0 hxy hy hf=>by
  unfold DD at *
  rw [decide_eq_true_eq] at *
  by_cases e:x=y
  ·rw [e];exact hf
  ·have:=qM h y.toNat x.toNat (by omega) (by omega)
   omega)
 obtain⟨s0,s1,s2,s3⟩:=hs
 have e:mv (DD n t) n.length 0 n.length=GI n t:=rfl
 rw [e] at s0 s1 s2 s3
 rw [Bool.eq_iff_iff,List.contains_iff_mem]
 unfold OQ
 rw [decide_eq_true_eq]
 constructor
 ·rintro⟨h1,h2⟩
  have hi:(GI n t).toNat < n.length:=by omega
  rw [eB n _ hi] at h2
  rw [← h2]
  exact List.getElem_mem hi
 ·intro hm
  obtain⟨k,hk,hkt⟩:=List.getElem_of_mem hm
  have hk2:n.getD k 0=t:=by rw [eB n k hk];exact hkt
  have k1:GI n t≤k:=by
   by_cases c:GI n t≤k
   ·exact c
   ·have:=s2 k (by omega) (by omega)
    unfold DD at this
    rw [decide_eq_true_eq,Int.toNat_natCast] at this
    omega
  have k2:¬GI n t < k:=fun c=>by
   have a:=qM h k (GI n t).toNat (by omega) hk
   have b:=s3 (GI n t) (Int.le_refl _) (by omega)
   unfold DD at b
   rw [decide_eq_false_iff_not] at b
   omega
  have ee:GI n t=k:=by omega
  rw [ee,Int.toNat_natCast]
  exact⟨by omega,hk2⟩
theorem FP {n:List Int} (h:dJ n=true) (t:Int) (ht:n.contains t=true):cq t=true:=by
 rw [List.contains_iff_mem] at ht
 obtain⟨k,hk,hkt⟩:=List.getElem_of_mem ht
 have:=(tW.1 h k hk).1
 rw [eB n k hk,hkt] at this
 exact this
theorem YY {n:List Int} {i:Int} (h0:0≤i) (_:i < n.length):(Yf n i.toNat=true↔cq (n.getD i.toNat 0)=true∧(i > 0→n.getD (i - 1).toNat 0 < n.getD i.toNat 0)):=by
 unfold Yf
 rw [decide_eq_true_eq]
 have e:(i - 1).toNat=i.toNat - 1:=by omega
 rw [e]
 constructor
 ·rintro⟨a,b⟩
  exact⟨a,fun g=>b (by omega)⟩
 ·rintro⟨a,b⟩
  exact⟨a,fun g=>b (by omega)⟩
theorem ZB {n:List Int} {l:List E} {i:Int} (h0:0≤i) (_:i < l.length):(VJ n l i.toNat=true↔QC (l.getD i.toNat [])=true∧n.contains (ri (l.getD i.toNat []) 0)=true∧(i > 0→Mc (ri (l.getD (i - 1).toNat []) 0) (ri (l.getD (i - 1).toNat []) 1) (ri (l.getD i.toNat []) 0) (ri (l.getD i.toNat []) 1) < 0)):=by
 unfold VJ
 rw [decide_eq_true_eq]
 have e:(i - 1).toNat=i.toNat - 1:=by omega
 rw [e]
 constructor
 ·rintro⟨a,c,b⟩
  exact⟨a,c,fun g=>b (by omega)⟩
 ·rintro⟨a,c,b⟩
  exact⟨a,c,fun g=>b (by omega)⟩
noncomputable def aaw (A:Ar) (n:List Int) (l:List E) (y:XI):St:=cg Tryz.f129.ntmps [(1,.ptr 1 0),(8,.sl none (.ints .i64 n)),(9,.val (.int .i64 (A.fN n))),(10,.val (.int .i64 y.i))] [(1,.cells 29 [.sl none (.ints .i64 n),.sl none (.ah (.int .i64 (.int .i64 (.int .i64 (.int .i64 (.bool .nil))))) l)])] [Any]
def iR (k:Nat) (st:St):XI:=⟨bQ st k⟩
noncomputable def aaH (A:Ar) (n:List Int) (l:List E) (y:XI):St:=cg Tryz.f129.ntmps [(1,.ptr 1 0),(34,.sl none (.ah (.int .i64 (.int .i64 (.int .i64 (.int .i64 (.bool .nil))))) l)),(35,.val (.int .i64 (A.dK l))),(36,.val (.int .i64 y.i))] [(1,.cells 29 [.sl none (.ints .i64 n),.sl none (.ah (.int .i64 (.int .i64 (.int .i64 (.int .i64 (.bool .nil))))) l)])] [Any]
structure Vs where
 IL:Int→Bool
 Ql:Int→Int→Int
 WW:List Int→Int
 Rv:Int→Int→Int→Int→Int
 QS:List Int→Int→Int
 Eg:List Int→Int→Bool
 Ze:Int→Int→Int→Int→Bool
 aby:List Int→List E→Int
 abf:List Int→List E→Bool
 abw:List Int→Int→Bool
 Wb:Int→Int→Bool
 abO:Int→Int→Int→Int→Bool
 oq:List Int→Bool
 PJ:List Int→List E→Bool
def Vs.U:Vs:=⟨cq,iA,jt,Mc,GI,OQ,ZX,mI,bf,fun l t=>l.contains t,fun a b=>decide (a < b),fun n p n2 p2=>decide (Mc n p n2 p2 < 0),fun l=>decide (l.length≤1000000),fun n l=>decide (n.length≤1000000∧l.length≤1000000)⟩
def qb (_:Vs):aZ:=fun xs h=>match xs,h with
 |[.one (.val (.int .i64 _))],[]=>some ⟨True,.sa (B false),[],[Any]⟩
 |_,_=>none
theorem KD (a:Int):aU [] Tryz.f131 [.one (.val (.int .i64 a))] [] ⟨True,.sa (B false),[],[Any]⟩:=by
 intro b gv
 have hfs:=af.nil
 generalize hF:Vs.U=F at hfs ⊢
 generalize hA:Ar.U=A
 generalize hL:Lp _ _ _=L
 obtain⟨Z,zq⟩:=aP
 refine aD (aa hL) zq rfl ?_
 repeat' (first|(refine ay zq ?_;try dsimp only)|refine ax zq ?_ (aa hL)|refine aw zq ?_|refine az ?_|refine av ?_|refine au ?_|refine aq ?_|refine ar rfl ?_|refine ai rfl ?_|refine aj rfl ?_|(refine Cd.mk ?_;cbv)|(refine aE.mk ?_;cbv)|(refine aJ.mk ?_;cbv)|exact trivial|refine And.intro ?_ ?_|refine bn fun _=>?_|refine bo fun _=>?_)
 all_goals
  clear hL zq Z
  try clear hfs
  subst hA hF
  simp only [Ar.U] at *
  try (first|(simp [al];done)|grind [al])
theorem pj:aA Tryz.prog 131 (qb Vs.U):=by
 refine aG af.nil Tryz.func131 rfl rfl fun xs h p hp=>?_
 unfold qb at hp
 split at hp
 ·cases hp
  exact⟨aB rfl,fun _ _=>KD _⟩
 ·cases hp
def Cc (_:Vs):aZ:=fun xs h=>match xs,h with
 |[.one (.val (.int .i64 _))],[]=>some ⟨True,.sa (B false),[],[Any]⟩
 |_,_=>none
theorem RJ (a:Int):aU [] Tryz.f178 [.one (.val (.int .i64 a))] [] ⟨True,.sa (B false),[],[Any]⟩:=by
 intro b gv
 have hfs:=af.nil
 generalize hF:Vs.U=F at hfs ⊢
 generalize hA:Ar.U=A
 generalize hL:Lp _ _ _=L
 obtain⟨Z,zq⟩:=aP
 refine aD (aa hL) zq rfl ?_
 repeat' (first|(refine ay zq ?_;try dsimp only)|refine ax zq ?_ (aa hL)|refine aw zq ?_|refine az ?_|refine av ?_|refine au ?_|refine aq ?_|refine ar rfl ?_|refine ai rfl ?_|refine aj rfl ?_|(refine Cd.mk ?_;cbv)|(refine aE.mk ?_;cbv)|(refine aJ.mk ?_;cbv)|exact trivial|refine And.intro ?_ ?_|refine bn fun _=>?_|refine bo fun _=>?_)
 all_goals
  clear hL zq Z
  try clear hfs
  subst hA hF
  simp only [Ar.U] at *
  try (first|(simp [al];done)|grind [al])
theorem Dl:aA Tryz.prog 178 (Cc Vs.U):=by
 refine aG af.nil Tryz.func178 rfl rfl fun xs h p hp=>?_
 unfold Cc at hp
 split at hp
 ·cases hp
  exact⟨aB rfl,fun _ _=>RJ _⟩
 ·cases hp
def iJ (F:Vs):aZ:=fun xs h=>match xs,h with
 |[.one (.val (.int .i64 a)),.one (.val (.int .i64 d))],[]=>some ⟨True,.sa (I (F.Ql a d)),[],[Any,Any]⟩
 |_,_=>none
theorem Cp (a:Int) (d:Int):aU [(131,qb Vs.U)] Tryz.f104 [.one (.val (.int .i64 a)),.one (.val (.int .i64 d))] [] ⟨True,.sa (I (Vs.U.Ql a d)),[],[Any,Any]⟩:=by
 intro b gv
 have hfs:=(af.cons pj af.nil rfl)
 generalize hF:Vs.U=F at hfs ⊢
 generalize hA:Ar.U=A
 generalize hL:Lp _ _ _=L
 obtain⟨Z,zq⟩:=aP
 refine aD (aa hL) zq rfl ?_
 repeat' (first|(refine ay zq ?_;try dsimp only)|refine ax zq ?_ (aa hL)|refine aw zq ?_|refine az ?_|refine av ?_|refine au ?_|refine aq ?_|refine ar rfl ?_|refine ai rfl ?_|refine aj rfl ?_|(refine Cd.mk ?_;cbv)|(refine aE.mk ?_;cbv)|(refine aJ.mk ?_;cbv)|exact trivial|refine And.intro ?_ ?_|refine bn fun _=>?_|refine bo fun _=>?_)
 all_goals
  clear hL zq Z
  try clear hfs
  subst hA hF
  simp only [Vs.U,Ar.U] at *
  try (grind [al,iA])
theorem gE:aA Tryz.prog 104 (iJ Vs.U):=by
 refine aG (af.cons pj af.nil rfl) Tryz.func104 rfl rfl fun xs h p hp=>?_
 unfold iJ at hp
 split at hp
 ·cases hp
  exact⟨aB rfl,fun _ _=>Cp _ _⟩
 ·cases hp
def xI (F:Vs):aZ:=fun xs h=>match xs,h with
 |[.one (.val (.int .i64 a)),.one (.val (.int .i64 d))],[]=>some ⟨True,.sa (B (F.Wb a d)),[],[Any,Any]⟩
 |_,_=>none
theorem Um (a:Int) (d:Int):aU [(131,qb Vs.U)] Tryz.f177 [.one (.val (.int .i64 a)),.one (.val (.int .i64 d))] [] ⟨True,.sa (B (Vs.U.Wb a d)),[],[Any,Any]⟩:=by
 intro b gv
 have hfs:=(af.cons pj af.nil rfl)
 generalize hF:Vs.U=F at hfs ⊢
 generalize hA:Ar.U=A
 generalize hL:Lp _ _ _=L
 obtain⟨Z,zq⟩:=aP
 refine aD (aa hL) zq rfl ?_
 repeat' (first|(refine ay zq ?_;try dsimp only)|refine ax zq ?_ (aa hL)|refine aw zq ?_|refine az ?_|refine av ?_|refine au ?_|refine aq ?_|refine ar rfl ?_|refine ai rfl ?_|refine aj rfl ?_|(refine Cd.mk ?_;cbv)|(refine aE.mk ?_;cbv)|(refine aJ.mk ?_;cbv)|exact trivial|refine And.intro ?_ ?_|refine bn fun _=>?_|refine bo fun _=>?_)
 all_goals
  clear hL zq Z
  try clear hfs
  subst hA hF
  simp only [Vs.U,Ar.U] at *
  try (grind [al])
theorem EJ:aA Tryz.prog 177 (xI Vs.U):=by
 refine aG (af.cons pj af.nil rfl) Tryz.func177 rfl rfl fun xs h p hp=>?_
 unfold xI at hp
 split at hp
 ·cases hp
  exact⟨aB rfl,fun _ _=>Um _ _⟩
 ·cases hp
def qd (F:Vs):aZ:=fun xs h=>match xs,h with
 |[.one (.sl none (.ints .i64 l))],[]=>some ⟨F.oq l=true,.sa (I (F.WW l)),[],[Any]⟩
 |_,_=>none
theorem JP (l:List Int) (hC:Vs.U.oq l=true):aU [] Tryz.f111 [.one (.sl none (.ints .i64 l))] [] ⟨Vs.U.oq l=true,.sa (I (Vs.U.WW l)),[],[Any]⟩:=by
 intro b gv
 have hk:l.length≤1000000:=of_decide_eq_true (show decide (l.length≤1000000)=true from hC)
 generalize hF:Vs.U=F at hC ⊢
 generalize hA:Ar.U=A
 generalize hL:Lp _ _ _=L
 obtain⟨Z,zq⟩:=aP
 refine aD (aa hL) zq rfl ?_
 repeat' (first|(refine ay zq ?_;try dsimp only)|refine ax zq ?_ (aa hL)|refine aw zq ?_|refine az ?_|refine av ?_|refine au ?_|refine aq ?_|refine ar rfl ?_|refine ai rfl ?_|refine aj rfl ?_|(refine Cd.mk ?_;cbv)|(refine aE.mk ?_;cbv)|(refine aJ.mk ?_;cbv)|exact trivial|refine And.intro ?_ ?_|refine bn fun _=>?_|refine bo fun _=>?_)
 subst hL
 refine aX (br af.nil) (ML l) (orI A l) (orM l) orR ⟨0⟩ ?_ ?_ ?_
 ·exact⟨Int.le_refl 0,Int.natCast_nonneg _,rfl⟩
 ·cbv
  repeat' (first|exact trivial|exact rfl|refine And.intro ?_ ?_)
 rintro⟨i⟩ hq O hO
 have hst:=fun h=>xg l i hq h hk
 have hen:=Cw l i hq
 have q0:=hq.1
 have q1:=hq.2.1
 dsimp only at q0 q1
 subst hA
 generalize hA:Ar.U=A
 generalize hL:Lp _ _ _=L
 refine aO zq ?_
 repeat' (first|(refine ay zq ?_;try dsimp only)|refine ax zq ?_ (aa hL)|refine aw zq ?_|refine az ?_|refine av ?_|refine au ?_|refine aq ?_|refine ar rfl ?_|refine ai rfl ?_|refine aj rfl ?_|(refine Cd.mk ?_;cbv)|(refine aE.mk ?_;cbv)|(refine aJ.mk ?_;cbv)|exact trivial|refine And.intro ?_ ?_|refine bn fun _=>?_|refine bo fun _=>?_)
 all_goals (clear hL zq Z hq;subst hA hF hO;simp only [Vs.U,Ar.U] at * <;> grind [al,orM])
theorem po:aA Tryz.prog 111 (qd Vs.U):=by
 refine aG af.nil Tryz.func111 rfl rfl fun xs h p hp=>?_
 unfold qd at hp
 split at hp
 ·cases hp
  exact⟨aB rfl,fun hC _=>JP _ hC⟩
 ·cases hp
def fW (F:Vs):aZ:=fun xs h=>match xs,h with
 |[.one (.val (.int .i64 n))],[]=>some ⟨True,.sa (B (F.IL n)),[],[Any]⟩
 |_,_=>none
theorem MM (n:Int):aU [] Tryz.f32 [.one (.val (.int .i64 n))] [] ⟨True,.sa (B (Vs.U.IL n)),[],[Any]⟩:=by
 intro b gv
 have hfs:=af.nil
 generalize hF:Vs.U=F at hfs ⊢
 generalize hA:Ar.U=A
 generalize hL:Lp _ _ _=L
 obtain⟨Z,zq⟩:=aP
 refine aD (aa hL) zq rfl ?_
 repeat' (first|(refine ay zq ?_;try dsimp only)|refine ax zq ?_ (aa hL)|refine aw zq ?_|refine az ?_|refine av ?_|refine au ?_|refine aq ?_|refine ar rfl ?_|refine ai rfl ?_|refine aj rfl ?_|(refine Cd.mk ?_;cbv)|(refine aE.mk ?_;cbv)|(refine aJ.mk ?_;cbv)|exact trivial|refine And.intro ?_ ?_|refine bn fun _=>?_|refine bo fun _=>?_)
 all_goals
  clear hL zq Z
  try clear hfs
  subst hA hF
  simp only [Vs.U,Ar.U] at *
  try (grind [al,cq])
theorem cL:aA Tryz.prog 32 (fW Vs.U):=by
 refine aG af.nil Tryz.func32 rfl rfl fun xs h p hp=>?_
 unfold fW at hp
 split at hp
 ·cases hp
  exact⟨aB rfl,fun _ _=>MM _⟩
 ·cases hp
def Tl (F:Vs):aZ:=fun xs h=>match xs,h with
 |[.one (.sl none (.ints .i64 l)),.one (.val (.int .i64 t))],[]=>some ⟨F.oq l=true,.bJ [I (F.QS l t),B (F.Eg l t)],[],[Any,Any]⟩
 |_,_=>none
theorem aae (l:List Int) (t:Int) (hC:Vs.U.oq l=true):aU [(177,xI Vs.U),(178,Cc Vs.U)] Tryz.f161 [.one (.sl none (.ints .i64 l)),.one (.val (.int .i64 t))] [] ⟨Vs.U.oq l=true,.bJ [I (Vs.U.QS l t),B (Vs.U.Eg l t)],[],[Any,Any]⟩:=by
 intro b gv
 have hk:l.length≤1000000:=of_decide_eq_true (show decide (l.length≤1000000)=true from hC)
 have hfs:=(af.cons EJ (af.cons Dl af.nil rfl) rfl)
 generalize hF:Vs.U=F at hC hfs ⊢
 generalize hA:Ar.U=A
 generalize hL:Lp _ _ _=L
 obtain⟨Z,zq⟩:=aP
 refine aD (aa hL) zq rfl ?_
 repeat' (first|(refine ay zq ?_;try dsimp only)|refine ax zq ?_ (aa hL)|refine aw zq ?_|refine az ?_|refine av ?_|refine au ?_|refine aq ?_|refine ar rfl ?_|refine ai rfl ?_|refine aj rfl ?_|(refine Cd.mk ?_;cbv)|(refine aE.mk ?_;cbv)|(refine aJ.mk ?_;cbv)|exact trivial|refine And.intro ?_ ?_|refine bn fun _=>?_|refine bo fun _=>?_)
 subst hL
 refine aX (br hfs) (Nj (DD l t) l.length) (bsS A l t) (LL) bsR ⟨0,A.fN l⟩ ?_ ?_ ?_
 ·exact (by subst hA;exact xA _ _)
 ·cbv
  repeat' (first|exact trivial|exact rfl|refine And.intro ?_ ?_)
 rintro⟨i,j⟩ hq O hO
 have hst:=fun h=>wJ hk hq h
 have hen:=fun h=>KC hq h
 have q0:=hq.1
 have q1:=hq.2.1
 have q2:=hq.2.2.1
 dsimp only at q0 q1 q2
 subst hA
 generalize hA:Ar.U=A
 generalize hL:Lp _ _ _=L
 refine aO zq ?_
 repeat' (first|(refine ay zq ?_;try dsimp only)|refine ax zq ?_ (aa hL)|refine aw zq ?_|refine az ?_|refine av ?_|refine au ?_|refine aq ?_|refine ar rfl ?_|refine ai rfl ?_|refine aj rfl ?_|(refine Cd.mk ?_;cbv)|(refine aE.mk ?_;cbv)|(refine aJ.mk ?_;cbv)|exact trivial|refine And.intro ?_ ?_|refine bn fun _=>?_|refine bo fun _=>?_)
 all_goals (clear hL hfs zq Z hq;subst hA hF hO;simp only [Vs.U,Ar.U] at * <;> grind [al,LL,DD,GI,OQ])
theorem QM:aA Tryz.prog 161 (Tl Vs.U):=by
 refine aG (af.cons EJ (af.cons Dl af.nil rfl) rfl) Tryz.func161 rfl rfl fun xs h p hp=>?_
 unfold Tl at hp
 split at hp
 ·cases hp
  exact⟨aB rfl,fun hC _=>aae _ _ hC⟩
 ·cases hp
def qk (F:Vs):aZ:=fun xs h=>match xs,h with
 |[.agg [.sl none (.ints .i64 v_n),.sl none (.ah (.int .i64 (.int .i64 (.int .i64 (.int .i64 (.bool .nil))))) _)],.one (.val (.int .i64 t))],[]=>some ⟨F.oq v_n=true,.sa (B (F.Eg v_n t)),[],[Any,Any]⟩
 |_,_=>none
theorem Xy (v_n:List Int) (v_l:List E) (t:Int) (hC:Vs.U.oq v_n=true):aU [(161,Tl Vs.U)] Tryz.f135 [.agg [.sl none (.ints .i64 v_n),.sl none (.ah (.int .i64 (.int .i64 (.int .i64 (.int .i64 (.bool .nil))))) v_l)],.one (.val (.int .i64 t))] [] ⟨Vs.U.oq v_n=true,.sa (B (Vs.U.Eg v_n t)),[],[Any,Any]⟩:=by
 intro b gv
 have hfs:=(af.cons QM af.nil rfl)
 generalize hF:Vs.U=F at hC hfs ⊢
 generalize hA:Ar.U=A
 generalize hL:Lp _ _ _=L
 obtain⟨Z,zq⟩:=aP
 refine aD (aa hL) zq rfl ?_
 repeat' (first|(refine ay zq ?_;try dsimp only)|refine ax zq ?_ (aa hL)|refine aw zq ?_|refine az ?_|refine av ?_|refine au ?_|refine aq ?_|refine ar rfl ?_|refine ai rfl ?_|refine aj rfl ?_|(refine Cd.mk ?_;cbv)|(refine aE.mk ?_;cbv)|(refine aJ.mk ?_;cbv)|exact trivial|refine And.intro ?_ ?_|refine bn fun _=>?_|refine bo fun _=>?_)
 all_goals
  clear hL zq Z
  try clear hfs
  subst hA hF
  simp only [Vs.U] at *
  try (grind [al])
theorem fJ:aA Tryz.prog 135 (qk Vs.U):=by
 refine aG (af.cons QM af.nil rfl) Tryz.func135 rfl rfl fun xs h p hp=>?_
 unfold qk at hp
 split at hp
 ·cases hp
  exact⟨aB rfl,fun hC _=>Xy _ _ _ hC⟩
 ·cases hp
def xO (F:Vs):aZ:=fun xs h=>match xs,h with
 |[.agg [.val (.int .i64 k_n),.val (.int .i64 k_p),.val (.int .i64 k_w),.val (.int .i64 k_s),.val (.bool _)]],[]=>some ⟨True,.sa (B (F.Ze k_n k_p k_w k_s)),[],[Any]⟩
 |_,_=>none
theorem Nv (k_n:Int) (k_p:Int) (k_w:Int) (k_s:Int) (k_m:Bool):aU [(32,fW Vs.U)] Tryz.f158 [.agg [.val (.int .i64 k_n),.val (.int .i64 k_p),.val (.int .i64 k_w),.val (.int .i64 k_s),.val (.bool k_m)]] [] ⟨True,.sa (B (Vs.U.Ze k_n k_p k_w k_s)),[],[Any]⟩:=by
 intro b gv
 have hfs:=(af.cons cL af.nil rfl)
 generalize hF:Vs.U=F at hfs ⊢
 generalize hA:Ar.U=A
 generalize hL:Lp _ _ _=L
 obtain⟨Z,zq⟩:=aP
 refine aD (aa hL) zq rfl ?_
 repeat' (first|(refine ay zq ?_;try dsimp only)|refine ax zq ?_ (aa hL)|refine aw zq ?_|refine az ?_|refine av ?_|refine au ?_|refine aq ?_|refine ar rfl ?_|refine ai rfl ?_|refine aj rfl ?_|(refine Cd.mk ?_;cbv)|(refine aE.mk ?_;cbv)|(refine aJ.mk ?_;cbv)|exact trivial|refine And.intro ?_ ?_|refine bn fun _=>?_|refine bo fun _=>?_)
 all_goals
  clear hL zq Z
  try clear hfs
  subst hA hF
  simp only [Vs.U,Ar.U] at *
  try (grind [al,ZX])
theorem yJ:aA Tryz.prog 158 (xO Vs.U):=by
 refine aG (af.cons cL af.nil rfl) Tryz.func158 rfl rfl fun xs h p hp=>?_
 unfold xO at hp
 split at hp
 ·cases hp
  exact⟨aB rfl,fun _ _=>Nv _ _ _ _ _⟩
 ·cases hp
def xy (F:Vs):aZ:=fun xs h=>match xs,h with
 |[.agg [.val (.int .i64 a_n),.val (.int .i64 a_p),.val (.int .i64 _),.val (.int .i64 _),.val (.bool _)],.agg [.val (.int .i64 d_n),.val (.int .i64 d_p),.val (.int .i64 _),.val (.int .i64 _),.val (.bool _)]],[]=>some ⟨True,.sa (I (F.Rv a_n a_p d_n d_p)),[],[Any,Any]⟩
 |_,_=>none
theorem RK (a_n:Int) (a_p:Int) (a_w:Int) (a_s:Int) (a_m:Bool) (d_n:Int) (d_p:Int) (d_w:Int) (d_s:Int) (d_m:Bool):aU [(104,iJ Vs.U),(111,qd Vs.U)] Tryz.f140 [.agg [.val (.int .i64 a_n),.val (.int .i64 a_p),.val (.int .i64 a_w),.val (.int .i64 a_s),.val (.bool a_m)],.agg [.val (.int .i64 d_n),.val (.int .i64 d_p),.val (.int .i64 d_w),.val (.int .i64 d_s),.val (.bool d_m)]] [] ⟨True,.sa (I (Vs.U.Rv a_n a_p d_n d_p)),[],[Any,Any]⟩:=by
 intro b gv
 have h1:=Sa a_n a_p d_n d_p
 have hfs:=(af.cons gE (af.cons po af.nil rfl) rfl)
 generalize hF:Vs.U=F at hfs ⊢
 generalize hA:Ar.U=A
 generalize hL:Lp _ _ _=L
 obtain⟨Z,zq⟩:=aP
 refine aD (aa hL) zq rfl ?_
 repeat' (first|(refine ay zq ?_;try dsimp only)|refine ax zq ?_ (aa hL)|refine aw zq ?_|refine az ?_|refine av ?_|refine au ?_|refine aq ?_|refine ar rfl ?_|refine ai rfl ?_|refine aj rfl ?_|(refine Cd.mk ?_;cbv)|(refine aE.mk ?_;cbv)|(refine aJ.mk ?_;cbv)|exact trivial|refine And.intro ?_ ?_|refine bn fun _=>?_|refine bo fun _=>?_)
 all_goals
  clear hL zq Z
  try clear hfs
  subst hA hF
  simp only [Vs.U] at *
  try (grind [al])
theorem qK:aA Tryz.prog 140 (xy Vs.U):=by
 refine aG (af.cons gE (af.cons po af.nil rfl) rfl) Tryz.func140 rfl rfl fun xs h p hp=>?_
 unfold xy at hp
 split at hp
 ·cases hp
  exact⟨aB rfl,fun _ _=>RK _ _ _ _ _ _ _ _ _ _⟩
 ·cases hp
end Go.Proofs.YtelhldgdnlppfaaGreat.ViR
