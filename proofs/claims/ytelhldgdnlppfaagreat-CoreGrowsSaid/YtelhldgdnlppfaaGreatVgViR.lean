/-
  views sj the reckoner: what they may be,what is searched in them. No condition.
-/
import Derived.Test.YtelhldgdnlppfaaGreatVgW14
import Derived.Test.YtelhldgdnlppfaaGreatVgW17
import Derived.Test.YtelhldgdnlppfaaGreatVgW17
set_option maxHeartbeats 4000000
set_option maxRecDepth 100000
set_option cbv.maxSteps 4000000
namespace Go.Proofs.YtelhldgdnlppfaaGreat.ViR
open Go Ry Cmp
def cm (n:Int):Bool:=decide (1≤n∧n≤64)
theorem gh (l:List Int) (j:Nat) (h:j < l.length):l.getD j 0=l[j]:=by rw [List.getD_eq_getElem?_getD,List.getElem?_eq_getElem h];rfl
theorem pd (l:List E) (j:Nat) (h:j < l.length):l.getD j []=l[j]:=by rw [List.getD_eq_getElem?_getD,List.getElem?_eq_getElem h];rfl
theorem fa (l:List E) (i:Int) (h0:0≤i) (h:i < l.length):l.take (i+1).toNat=l.take i.toNat ++ [l.getD i.toNat []]:=by
 have e:(i+1).toNat=i.toNat+1:=by omega
 have hi:i.toNat < l.length:=by omega
 rw [e,List.take_add_one,List.getD_eq_getElem?_getD,List.getElem?_eq_getElem hi]
 rfl
theorem tO {q:List E} {i:Int} (h0:0≤i) (h:i < q.length):q.getD i.toNat []∈q:=by
 have hi:i.toNat < q.length:=by omega
 rw [pd q _ hi]
 exact List.getElem_mem hi
structure XI where
 i:Int
def AM (n:Nat) (p:Nat→Bool) (y:XI):Prop:=0≤y.i∧y.i≤n∧∀ j:Nat,j < y.i→p j=true
def allM (n:Nat) (y:XI):Nat:=n - y.i.toNat
def yX (n:Nat) (p:Nat→Bool):Bool:=(List.range n).all p
theorem all_zero (n:Nat) (p:Nat→Bool):AM n p ⟨0⟩:=⟨Int.le_refl 0,Int.natCast_nonneg _,fun j hj=>by simp only at hj;omega⟩
theorem yQ {n:Nat} {p:Nat→Bool} (hn:n≤1000000) {i:Int} (hq:AM n p ⟨i⟩) (h:i < n):allM n ⟨i+1⟩ < allM n ⟨i⟩∧(p i.toNat=true→AM n p ⟨i+1⟩)∧(p i.toNat=false→yX n p=false):=by
 obtain⟨h0,h1,h2⟩:=hq
 simp only at h0 h1 h2
 refine⟨by simp only [allM];omega,fun g=>⟨by simp only;omega,by simp only;omega,fun j hj=>?_⟩,fun g=>?_⟩
 ·simp only at hj
  by_cases e:j=i.toNat
  ·rw [e]
   exact g
  ·exact h2 j (by omega)
 ·unfold yX
  rw [← Bool.not_eq_true,List.all_eq_true]
  intro w
  rw [w i.toNat (List.mem_range.2 (by omega))] at g
  cases g
theorem DE {n:Nat} {p:Nat→Bool} (hn:n≤1000000) {i:Int} (hq:AM n p ⟨i⟩):aO .add .i64 i 1=i+1∧aO .sub .i64 i 1=i - 1:=by
 obtain⟨h0,h1,_⟩:=hq
 simp only at h0 h1
 exact⟨by rw [bo,wr _ (by omega) (by omega)],by rw [lk,wr _ (by omega) (by omega)]⟩
theorem EH {n:Nat} {p:Nat→Bool} {i:Int} (hq:AM n p ⟨i⟩) (h:¬i < n):yX n p=true:=by
 obtain⟨h0,h1,h2⟩:=hq
 simp only at h0 h1 h2
 unfold yX
 rw [List.all_eq_true]
 intro j hj
 exact h2 j (by have:=List.mem_range.1 hj;omega)
theorem mK {n:Nat} {p:Nat→Bool}:yX n p=true↔∀ j,j < n→p j=true:=by
 unfold yX
 rw [List.all_eq_true]
 exact⟨fun h j hj=>h j (List.mem_range.2 hj),fun h j hj=>h j (List.mem_range.1 hj)⟩
def orR (st:St):XI:=⟨bR st 8⟩
def Pp (l:List Int) (y:XI):Prop:=0≤y.i∧y.i≤l.length∧jj (l.drop y.i.toNat)=jj l
def orM (l:List Int) (y:XI):Nat:=l.length - y.i.toNat
noncomputable def orI (A:Ar) (l:List Int) (y:XI):St:=cC Tryz.f111.ntmps [(3,.num .i64 0),(6,.sl none (.ints .i64 l)),(7,.val (.int .i64 (A.fE l))),(8,.val (.int .i64 y.i))] [] [Any]
theorem xF (l:List Int) (i:Int) (hq:Pp l ⟨i⟩) (h:i < l.length) (hl:l.length≤1000000):aO .add .i64 i 1=i+1∧(l.getD i.toNat 0=0→Pp l ⟨i+1⟩)∧(¬l.getD i.toNat 0=0→jj l=l.getD i.toNat 0):=by
 obtain⟨h0,h1,h2⟩:=hq
 simp only at h0 h1 h2
 have hi:i.toNat < l.length:=by omega
 have e2:(i+1).toNat=i.toNat+1:=by omega
 rw [List.drop_eq_getElem_cons hi] at h2
 rw [gh l _ hi]
 refine⟨by rw [bo,wr _ (by omega) (by omega)],fun g=>⟨by simp only;omega,by simp only;omega,?_⟩,fun g=>?_⟩
 ·simp only
  rw [e2,← h2]
  rw [g]
  simp [jj]
 ·rw [← h2]
  simp [jj,g]
theorem AS (l:List Int) (i:Int) (hq:Pp l ⟨i⟩) (h:¬i < l.length):jj l=0:=by
 obtain⟨h0,h1,h2⟩:=hq
 simp only at h0 h1 h2
 rw [← h2,List.drop_eq_nil_of_le (by omega)]
 rfl
def hf (i j:Int):Int:=(i+j) / 2
def mz (f:Int→Bool):Nat→Int→Int→Int
 |0,i,_=>i
 |k+1,i,j=>if i < j then (if f (hf i j)=true then mz f k (hf i j+1) j else mz f k i (hf i j)) else i
theorem yn (f:Int→Bool):∀ (k m:Nat) (i j:Int),j - i≤k→j - i≤m→mz f k i j=mz f m i j
 |0,0,_,_,_,_=>rfl
 |0,m+1,i,j,h,_=>by
  unfold mz
  rw [if_neg (by omega)]
 |k+1,0,i,j,_,h=>by
  conv=>rhs;unfold mz
  unfold mz
  rw [if_neg (by omega)]
 |k+1,m+1,i,j,h,g=>by
  unfold mz
  by_cases c:i < j
  ·rw [if_pos c,if_pos c]
   unfold hf
   split
   ·exact yn f k m _ _ (by omega) (by omega)
   ·exact yn f k m _ _ (by omega) (by omega)
  ·rw [if_neg c,if_neg c]
def Qs (f:Int→Bool) (n:Nat):Int:=mz f n 0 n
structure XJ where
 i:Int
 j:Int
def Mf (f:Int→Bool) (n:Nat) (y:XJ):Prop:=0≤y.i∧y.i≤y.j∧y.j≤n∧mz f n y.i y.j=Qs f n
def JY (y:XJ):Nat:=(y.j - y.i).toNat
theorem wP (f:Int→Bool) (n:Nat):Mf f n ⟨0,n⟩:=⟨Int.le_refl 0,Int.natCast_nonneg _,Int.le_refl _,rfl⟩
theorem Zh (i j:Int) (h0:0≤i) (h1:i≤j) (h2:j≤1000000):IntKind.i64.wrap (aO .shr .u64 (IntKind.u64.wrap (aO .add .i64 i j)) 1)=hf i j:=by
 rw [bo,wr (i+j) (by omega) (by omega)]
 have e:IntKind.u64.wrap (i+j)=i+j:=IntWalk.u64_in _ (by omega)
 rw [e]
 have e2:aO .shr .u64 (i+j) 1=(i+j) / 2:=by
  show (i+j).fdiv (2 ^ (min (1:Int).toNat IntKind.u64.bits))=_
  rw [show min (1:Int).toNat IntKind.u64.bits=1 by decide]
  exact Int.fdiv_eq_ediv_of_nonneg _ (by omega)
 rw [e2,wr _ (by omega) (by omega)]
 rfl
theorem xh {f:Int→Bool} {n:Nat} (hn:n≤1000000) {i j:Int} (hq:Mf f n ⟨i,j⟩) (h:i < j):IntKind.i64.wrap (aO .shr .u64 (IntKind.u64.wrap (aO .add .i64 i j)) 1)=hf i j∧0≤hf i j∧hf i j < n∧aO .add .i64 (hf i j) 1=hf i j+1 ∧
  (f (hf i j)=true→Mf f n ⟨hf i j+1,j⟩∧JY ⟨hf i j+1,j⟩ < JY ⟨i,j⟩)∧(f (hf i j)=false→Mf f n ⟨i,hf i j⟩∧JY ⟨i,hf i j⟩ < JY ⟨i,j⟩):=by
 obtain⟨h0,h1,h2,h3⟩:=hq
 simp only at h0 h1 h2 h3
 have e:=Zh i j h0 h1 (by omega)
 have hb:i≤hf i j∧hf i j < j:=by unfold hf;omega
 have hs:mz f n i j=if f (hf i j)=true then mz f n (hf i j+1) j else mz f n i (hf i j):=by
  cases n with
  |zero=>omega
  |succ n =>
   rw [yn f (n+1) (n+1+1) i j (by omega) (by omega)]
   conv=>lhs;unfold mz
   rw [if_pos h]
 rw [h3] at hs
 refine⟨e,by omega,by omega,by rw [bo,wr _ (by omega) (by omega)],fun g=>⟨⟨by simp only;omega,by simp only;omega,h2,?_⟩,by simp only [JY];omega⟩,fun g=>⟨⟨h0,by simp only;omega,by simp only;omega,?_⟩,by simp only [JY];omega⟩⟩
 ·rw [if_pos g] at hs
  exact hs.symm
 ·rw [if_neg (by rw [g];decide)] at hs
  exact hs.symm
theorem KW {f:Int→Bool} {n:Nat} {i j:Int} (hq:Mf f n ⟨i,j⟩) (h:¬i < j):i=Qs f n∧0≤i∧i≤n:=by
 obtain⟨h0,h1,h2,h3⟩:=hq
 simp only at h0 h1 h2 h3
 refine⟨?_,h0,by omega⟩
 rw [← h3]
 cases n with
 |zero=>rfl
 |succ n =>
  unfold mz
  rw [if_neg h]
theorem qx (f:Int→Bool) (n:Nat):∀ (k:Nat) (i j:Int),0≤i→i≤j→j≤n→j - i≤k→(∀ x:Int,0≤x→x < i→f x=true)→(∀ x:Int,j≤x→x < n→f x=false)→(∀ x y:Int,0≤x→x≤y→y < n→f y=true→f x=true) →
  0≤mz f k i j∧mz f k i j≤n∧(∀ x:Int,0≤x→x < mz f k i j→f x=true)∧(∀ x:Int,mz f k i j≤x→x < n→f x=false)
 |0,i,j,h0,h1,h2,h3,h4,h5,_=>by
  have e:i=j:=by omega
  unfold mz
  exact⟨h0,by omega,h4,by rw [e];exact h5⟩
 |k+1,i,j,h0,h1,h2,h3,h4,h5,hm=>by
  unfold mz
  by_cases c:i < j
  ·rw [if_pos c]
   have hb:i≤hf i j∧hf i j < j:=by unfold hf;omega
   split
   ·rename_i g
    refine qx f n k _ _ (by omega) (by omega) h2 (by omega) (fun x x0 x1=>hm x (hf i j) x0 (by omega) (by omega) g) h5 hm
   ·rename_i g
    refine qx f n k _ _ h0 (by omega) (by omega) (by omega) h4 (fun x x0 x1=>?_) hm
    rw [← Bool.not_eq_true]
    exact fun w=>g (hm (hf i j) x (by omega) x0 x1 w)
  ·rw [if_neg c]
   have e:i=j:=by omega
   exact⟨h0,by omega,h4,by rw [e];exact h5⟩
def Dw (l:List Int) (t:Int) (x:Int):Bool:=decide (l.getD x.toNat 0 < t)
def GC (l:List Int) (t:Int):Int:=Qs (Dw l t) l.length
def Pv (l:List Int) (t:Int):Bool:=decide (GC l t < l.length∧l.getD (GC l t).toNat 0=t)
noncomputable def bsS (A:Ar) (l:List Int) (t:Int) (y:XJ):St:=cC Tryz.f161.ntmps [(0,.sl none (.ints .i64 l)),(1,.val (.int .i64 t)),(6,.val (.int .i64 (A.fE l))),(7,.val (.int .i64 y.i)),(8,.val (.int .i64 y.j))] [] [Any,Any]
def bsR (st:St):XJ:=⟨bR st 7,bR st 8⟩
def LL (n p n' p' : Int):Int:=if n=n' then ic p p' else ic n n'
theorem Ty (n p n' p' : Int):jj [ic n n',ic p p']=LL n p n' p':=by
 unfold LL
 by_cases h:n=n'
 ·rw [if_pos h,KU h]
  simp only [jj,if_true]
  split <;> simp_all
 ·rw [if_neg h]
  have:¬ic n n' = 0:=by
   unfold ic
   split <;> (try split) <;> omega
  simp only [jj,if_neg this]
theorem Kp (n p n' p' : Int):LL n p n' p' < 0↔n < n'∨n=n'∧p < p':=by
 unfold LL ic
 split <;> split <;> (try split) <;> omega
def ltK (l:List E) (n p:Int) (x:Int):Bool:=decide (LL (ri (l.getD x.toNat []) 0) (ri (l.getD x.toNat []) 1) n p < 0)
def Gu (l:List E) (n p:Int):Int:=Qs (ltK l n p) l.length
def Pg (l:List E) (n p:Int):Bool:=decide (Gu l n p < l.length∧LL (ri (l.getD (Gu l n p).toNat []) 0) (ri (l.getD (Gu l n p).toNat []) 1) n p=0)
def Zu (n p w s:Int):Bool:=decide (cm n=true∧cm p=true∧n≠p∧0≤w∧w≤2147483647∧1≤s∧s≤2147483647)
def VD (n:List Int) (i:Nat):Bool:=decide (cm (n.getD i 0)=true∧(0 < i→n.getD (i - 1) 0 < n.getD i 0))
def dL (n:List Int):Bool:=yX n.length (VD n)
def Qt (y:E):Bool:=Zu (ri y 0) (ri y 1) (ri y 2) (ri y 3)
def UZ (n:List Int) (l:List E) (i:Nat):Bool:=decide (Qt (l.getD i [])=true∧n.contains (ri (l.getD i []) 0)=true∧(0 < i→LL (ri (l.getD (i - 1) []) 0) (ri (l.getD (i - 1) []) 1) (ri (l.getD i []) 0) (ri (l.getD i []) 1) < 0))
def bf (n:List Int) (l:List E):Bool:=dL n && yX l.length (UZ n l)
def ob (n:List Int) (l:List E):Int:=if bf n l=true then 0 else 1
theorem tI {n:List Int}:dL n=true↔∀ i,i < n.length→cm (n.getD i 0)=true∧(0 < i→n.getD (i - 1) 0 < n.getD i 0):=by
 unfold dL
 rw [mK]
 unfold VD
 simp only [decide_eq_true_eq]
theorem qX {n:List Int} (h:dL n=true):∀ (j i:Nat),i < j→j < n.length→n.getD i 0 < n.getD j 0
 |0,_,h1,_=>absurd h1 (Nat.not_lt_zero _)
 |j+1,i,h1,h2=>by
  have g:=(tI.1 h (j+1) h2).2 (Nat.zero_lt_succ _)
  rw [Nat.add_sub_cancel] at g
  by_cases e:i=j
  ·rw [e]
   exact g
  ·have:=qX h j i (by omega) (by omega)
   omega
theorem pB {n:List Int} (h:dL n=true) (t:Int):Pv n t=n.contains t:=by
 have hs:=qx (Dw n t) n.length n.length 0 n.length (Int.le_refl 0) (Int.natCast_nonneg _) (Int.le_refl _) (by omega) (fun x x0 x1=>by omega) (fun x x0 x1=>by omega) (fun x y x0 hxy hy hf=>by
  unfold Dw at *
  rw [decide_eq_true_eq] at *
  by_cases e:x=y
  ·rw [e];exact hf
  ·have:=qX h y.toNat x.toNat (by omega) (by omega)
   omega)
 obtain⟨s0,s1,s2,s3⟩:=hs
 have e:mz (Dw n t) n.length 0 n.length=GC n t:=rfl
 rw [e] at s0 s1 s2 s3
 rw [Bool.eq_iff_iff,List.contains_iff_mem]
 unfold Pv
 rw [decide_eq_true_eq]
 constructor
 ·rintro⟨h1,h2⟩
  have hi:(GC n t).toNat < n.length:=by omega
  rw [gh n _ hi] at h2
  rw [← h2]
  exact List.getElem_mem hi
 ·intro hm
  obtain⟨k,hk,hkt⟩:=List.getElem_of_mem hm
  have hk2:n.getD k 0=t:=by rw [gh n k hk];exact hkt
  have k1:GC n t≤k:=by
   by_cases c:GC n t≤k
   ·exact c
   ·have:=s2 k (by omega) (by omega)
    unfold Dw at this
    rw [decide_eq_true_eq,Int.toNat_natCast] at this
    omega
  have k2:¬GC n t < k:=fun c=>by
   have a:=qX h k (GC n t).toNat (by omega) hk
   have b:=s3 (GC n t) (Int.le_refl _) (by omega)
   unfold Dw at b
   rw [decide_eq_false_iff_not] at b
   omega
  have ee:GC n t=k:=by omega
  rw [ee,Int.toNat_natCast]
  exact⟨by omega,hk2⟩
theorem FE {n:List Int} (h:dL n=true) (t:Int) (ht:n.contains t=true):cm t=true:=by
 rw [List.contains_iff_mem] at ht
 obtain⟨k,hk,hkt⟩:=List.getElem_of_mem ht
 have:=(tI.1 h k hk).1
 rw [gh n k hk,hkt] at this
 exact this
theorem VZ {n:List Int} {i:Int} (h0:0≤i) (_:i < n.length):(VD n i.toNat=true↔cm (n.getD i.toNat 0)=true∧(i > 0→n.getD (i - 1).toNat 0 < n.getD i.toNat 0)):=by
 unfold VD
 rw [decide_eq_true_eq]
 have e:(i - 1).toNat=i.toNat - 1:=by omega
 rw [e]
 constructor
 ·rintro⟨a,b⟩
  exact⟨a,fun g=>b (by omega)⟩
 ·rintro⟨a,b⟩
  exact⟨a,fun g=>b (by omega)⟩
theorem Zo {n:List Int} {l:List E} {i:Int} (h0:0≤i) (_:i < l.length):(UZ n l i.toNat=true↔Qt (l.getD i.toNat [])=true∧n.contains (ri (l.getD i.toNat []) 0)=true∧(i > 0→LL (ri (l.getD (i - 1).toNat []) 0) (ri (l.getD (i - 1).toNat []) 1) (ri (l.getD i.toNat []) 0) (ri (l.getD i.toNat []) 1) < 0)):=by
 unfold UZ
 rw [decide_eq_true_eq]
 have e:(i - 1).toNat=i.toNat - 1:=by omega
 rw [e]
 constructor
 ·rintro⟨a,c,b⟩
  exact⟨a,c,fun g=>b (by omega)⟩
 ·rintro⟨a,c,b⟩
  exact⟨a,c,fun g=>b (by omega)⟩
noncomputable def aaa (A:Ar) (n:List Int) (l:List E) (y:XI):St:=cC Tryz.f129.ntmps [(1,.ptr 1 0),(8,.sl none (.ints .i64 n)),(9,.val (.int .i64 (A.fE n))),(10,.val (.int .i64 y.i))] [(1,.cells 29 [.sl none (.ints .i64 n),.sl none (.ah (.int .i64 (.int .i64 (.int .i64 (.int .i64 (.bool .nil))))) l)])] [Any]
def iR (k:Nat) (st:St):XI:=⟨bR st k⟩
noncomputable def aad (A:Ar) (n:List Int) (l:List E) (y:XI):St:=cC Tryz.f129.ntmps [(1,.ptr 1 0),(34,.sl none (.ah (.int .i64 (.int .i64 (.int .i64 (.int .i64 (.bool .nil))))) l)),(35,.val (.int .i64 (A.dN l))),(36,.val (.int .i64 y.i))] [(1,.cells 29 [.sl none (.ints .i64 n),.sl none (.ah (.int .i64 (.int .i64 (.int .i64 (.int .i64 (.bool .nil))))) l)])] [Any]
structure Vs where
 IL:Int→Bool
 QS:Int→Int→Int
 Yj:List Int→Int
 Qf:Int→Int→Int→Int→Int
 QN:List Int→Int→Int
 Er:List Int→Int→Bool
 YZ:Int→Int→Int→Int→Bool
 abC:List Int→List E→Int
 aaJ:List Int→List E→Bool
 abL:List Int→Int→Bool
 YY:Int→Int→Bool
 abH:Int→Int→Int→Int→Bool
 nS:List Int→Bool
 Mk:List Int→List E→Bool
def Vs.U:Vs:=⟨cm,ic,jj,LL,GC,Pv,Zu,ob,bf,fun l t=>l.contains t,fun a b=>decide (a < b),fun n p n2 p2=>decide (LL n p n2 p2 < 0),fun l=>decide (l.length≤1000000),fun n l=>decide (n.length≤1000000∧l.length≤1000000)⟩
def qb (_:Vs):aY:=fun xs h=>match xs,h with
 |[.one (.val (.int .i64 _))],[]=>some ⟨True,.sa (B false),[],[Any]⟩
 |_,_=>none
theorem Jw (a:Int):aV [] Tryz.f131 [.one (.val (.int .i64 a))] [] ⟨True,.sa (B false),[],[Any]⟩:=by
 intro b gv
 have hfs:=af.nil
 generalize hF:Vs.U=F at hfs ⊢
 generalize hA:Ar.U=A
 generalize hL:Lp _ _ _=L
 obtain⟨Z,zq⟩:=aQ
 refine aD (ae hL) zq rfl ?_
 repeat' (first|(refine aw zq ?_;try dsimp only)|refine ax zq ?_ (ae hL)|refine az zq ?_|refine ay ?_|refine aq ?_|refine ar ?_|refine av ?_|refine au rfl ?_|refine ai rfl ?_|refine aj rfl ?_|(refine Cd.mk ?_;cbv)|(refine aE.mk ?_;cbv)|(refine aM.mk ?_;cbv)|exact trivial|refine And.intro ?_ ?_|refine bu fun _=>?_|refine br fun _=>?_)
 all_goals
  clear hL zq Z
  try clear hfs
  subst hA hF
  simp only [Ar.U] at *
  try (first|(simp [al];done)|grind [al])
theorem pz:aA Tryz.prog 131 (qb Vs.U):=by
 refine aG af.nil Tryz.func131 rfl rfl fun xs h p hp=>?_
 unfold qb at hp
 split at hp
 ·cases hp
  exact⟨aB rfl,fun _ _=>Jw _⟩
 ·cases hp
def AT (_:Vs):aY:=fun xs h=>match xs,h with
 |[.one (.val (.int .i64 _))],[]=>some ⟨True,.sa (B false),[],[Any]⟩
 |_,_=>none
theorem UH (a:Int):aV [] Tryz.f178 [.one (.val (.int .i64 a))] [] ⟨True,.sa (B false),[],[Any]⟩:=by
 intro b gv
 have hfs:=af.nil
 generalize hF:Vs.U=F at hfs ⊢
 generalize hA:Ar.U=A
 generalize hL:Lp _ _ _=L
 obtain⟨Z,zq⟩:=aQ
 refine aD (ae hL) zq rfl ?_
 repeat' (first|(refine aw zq ?_;try dsimp only)|refine ax zq ?_ (ae hL)|refine az zq ?_|refine ay ?_|refine aq ?_|refine ar ?_|refine av ?_|refine au rfl ?_|refine ai rfl ?_|refine aj rfl ?_|(refine Cd.mk ?_;cbv)|(refine aE.mk ?_;cbv)|(refine aM.mk ?_;cbv)|exact trivial|refine And.intro ?_ ?_|refine bu fun _=>?_|refine br fun _=>?_)
 all_goals
  clear hL zq Z
  try clear hfs
  subst hA hF
  simp only [Ar.U] at *
  try (first|(simp [al];done)|grind [al])
theorem Dq:aA Tryz.prog 178 (AT Vs.U):=by
 refine aG af.nil Tryz.func178 rfl rfl fun xs h p hp=>?_
 unfold AT at hp
 split at hp
 ·cases hp
  exact⟨aB rfl,fun _ _=>UH _⟩
 ·cases hp
def iM (F:Vs):aY:=fun xs h=>match xs,h with
 |[.one (.val (.int .i64 a)),.one (.val (.int .i64 d))],[]=>some ⟨True,.sa (I (F.QS a d)),[],[Any,Any]⟩
 |_,_=>none
theorem Bq (a:Int) (d:Int):aV [(131,qb Vs.U)] Tryz.f104 [.one (.val (.int .i64 a)),.one (.val (.int .i64 d))] [] ⟨True,.sa (I (Vs.U.QS a d)),[],[Any,Any]⟩:=by
 intro b gv
 have hfs:=(af.cons pz af.nil rfl)
 generalize hF:Vs.U=F at hfs ⊢
 generalize hA:Ar.U=A
 generalize hL:Lp _ _ _=L
 obtain⟨Z,zq⟩:=aQ
 refine aD (ae hL) zq rfl ?_
 repeat' (first|(refine aw zq ?_;try dsimp only)|refine ax zq ?_ (ae hL)|refine az zq ?_|refine ay ?_|refine aq ?_|refine ar ?_|refine av ?_|refine au rfl ?_|refine ai rfl ?_|refine aj rfl ?_|(refine Cd.mk ?_;cbv)|(refine aE.mk ?_;cbv)|(refine aM.mk ?_;cbv)|exact trivial|refine And.intro ?_ ?_|refine bu fun _=>?_|refine br fun _=>?_)
 all_goals
  clear hL zq Z
  try clear hfs
  subst hA hF
  simp only [Vs.U,Ar.U] at *
  try (grind [al,ic])
theorem gM:aA Tryz.prog 104 (iM Vs.U):=by
 refine aG (af.cons pz af.nil rfl) Tryz.func104 rfl rfl fun xs h p hp=>?_
 unfold iM at hp
 split at hp
 ·cases hp
  exact⟨aB rfl,fun _ _=>Bq _ _⟩
 ·cases hp
def lY (F:Vs):aY:=fun xs h=>match xs,h with
 |[.one (.val (.int .i64 a)),.one (.val (.int .i64 d))],[]=>some ⟨True,.sa (B (F.YY a d)),[],[Any,Any]⟩
 |_,_=>none
theorem BY (a:Int) (d:Int):aV [(131,qb Vs.U)] Tryz.f177 [.one (.val (.int .i64 a)),.one (.val (.int .i64 d))] [] ⟨True,.sa (B (Vs.U.YY a d)),[],[Any,Any]⟩:=by
 intro b gv
 have hfs:=(af.cons pz af.nil rfl)
 generalize hF:Vs.U=F at hfs ⊢
 generalize hA:Ar.U=A
 generalize hL:Lp _ _ _=L
 obtain⟨Z,zq⟩:=aQ
 refine aD (ae hL) zq rfl ?_
 repeat' (first|(refine aw zq ?_;try dsimp only)|refine ax zq ?_ (ae hL)|refine az zq ?_|refine ay ?_|refine aq ?_|refine ar ?_|refine av ?_|refine au rfl ?_|refine ai rfl ?_|refine aj rfl ?_|(refine Cd.mk ?_;cbv)|(refine aE.mk ?_;cbv)|(refine aM.mk ?_;cbv)|exact trivial|refine And.intro ?_ ?_|refine bu fun _=>?_|refine br fun _=>?_)
 all_goals
  clear hL zq Z
  try clear hfs
  subst hA hF
  simp only [Vs.U,Ar.U] at *
  try (grind [al])
theorem nM:aA Tryz.prog 177 (lY Vs.U):=by
 refine aG (af.cons pz af.nil rfl) Tryz.func177 rfl rfl fun xs h p hp=>?_
 unfold lY at hp
 split at hp
 ·cases hp
  exact⟨aB rfl,fun _ _=>BY _ _⟩
 ·cases hp
def pY (F:Vs):aY:=fun xs h=>match xs,h with
 |[.one (.sl none (.ints .i64 l))],[]=>some ⟨F.nS l=true,.sa (I (F.Yj l)),[],[Any]⟩
 |_,_=>none
theorem La (l:List Int) (hC:Vs.U.nS l=true):aV [] Tryz.f111 [.one (.sl none (.ints .i64 l))] [] ⟨Vs.U.nS l=true,.sa (I (Vs.U.Yj l)),[],[Any]⟩:=by
 intro b gv
 have hk:l.length≤1000000:=of_decide_eq_true (show decide (l.length≤1000000)=true from hC)
 generalize hF:Vs.U=F at hC ⊢
 generalize hA:Ar.U=A
 generalize hL:Lp _ _ _=L
 obtain⟨Z,zq⟩:=aQ
 refine aD (ae hL) zq rfl ?_
 repeat' (first|(refine aw zq ?_;try dsimp only)|refine ax zq ?_ (ae hL)|refine az zq ?_|refine ay ?_|refine aq ?_|refine ar ?_|refine av ?_|refine au rfl ?_|refine ai rfl ?_|refine aj rfl ?_|(refine Cd.mk ?_;cbv)|(refine aE.mk ?_;cbv)|(refine aM.mk ?_;cbv)|exact trivial|refine And.intro ?_ ?_|refine bu fun _=>?_|refine br fun _=>?_)
 subst hL
 refine ba (bx af.nil) (Pp l) (orI A l) (orM l) orR ⟨0⟩ ?_ ?_ ?_
 ·exact⟨Int.le_refl 0,Int.natCast_nonneg _,rfl⟩
 ·cbv
  repeat' (first|exact trivial|exact rfl|refine And.intro ?_ ?_)
 rintro⟨i⟩ hq O hO
 have hst:=fun h=>xF l i hq h hk
 have hen:=AS l i hq
 have q0:=hq.1
 have q1:=hq.2.1
 dsimp only at q0 q1
 subst hA
 generalize hA:Ar.U=A
 generalize hL:Lp _ _ _=L
 refine aR zq ?_
 repeat' (first|(refine aw zq ?_;try dsimp only)|refine ax zq ?_ (ae hL)|refine az zq ?_|refine ay ?_|refine aq ?_|refine ar ?_|refine av ?_|refine au rfl ?_|refine ai rfl ?_|refine aj rfl ?_|(refine Cd.mk ?_;cbv)|(refine aE.mk ?_;cbv)|(refine aM.mk ?_;cbv)|exact trivial|refine And.intro ?_ ?_|refine bu fun _=>?_|refine br fun _=>?_)
 all_goals (clear hL zq Z hq;subst hA hF hO;simp only [Vs.U,Ar.U] at * <;> grind [al,orM])
theorem oH:aA Tryz.prog 111 (pY Vs.U):=by
 refine aG af.nil Tryz.func111 rfl rfl fun xs h p hp=>?_
 unfold pY at hp
 split at hp
 ·cases hp
  exact⟨aB rfl,fun hC _=>La _ hC⟩
 ·cases hp
def gf (F:Vs):aY:=fun xs h=>match xs,h with
 |[.one (.val (.int .i64 n))],[]=>some ⟨True,.sa (B (F.IL n)),[],[Any]⟩
 |_,_=>none
theorem Ny (n:Int):aV [] Tryz.f32 [.one (.val (.int .i64 n))] [] ⟨True,.sa (B (Vs.U.IL n)),[],[Any]⟩:=by
 intro b gv
 have hfs:=af.nil
 generalize hF:Vs.U=F at hfs ⊢
 generalize hA:Ar.U=A
 generalize hL:Lp _ _ _=L
 obtain⟨Z,zq⟩:=aQ
 refine aD (ae hL) zq rfl ?_
 repeat' (first|(refine aw zq ?_;try dsimp only)|refine ax zq ?_ (ae hL)|refine az zq ?_|refine ay ?_|refine aq ?_|refine ar ?_|refine av ?_|refine au rfl ?_|refine ai rfl ?_|refine aj rfl ?_|(refine Cd.mk ?_;cbv)|(refine aE.mk ?_;cbv)|(refine aM.mk ?_;cbv)|exact trivial|refine And.intro ?_ ?_|refine bu fun _=>?_|refine br fun _=>?_)
 all_goals
  clear hL zq Z
  try clear hfs
  subst hA hF
  simp only [Vs.U,Ar.U] at *
  try (grind [al,cm])
theorem cN:aA Tryz.prog 32 (gf Vs.U):=by
 refine aG af.nil Tryz.func32 rfl rfl fun xs h p hp=>?_
 unfold gf at hp
 split at hp
 ·cases hp
  exact⟨aB rfl,fun _ _=>Ny _⟩
 ·cases hp
def Tg (F:Vs):aY:=fun xs h=>match xs,h with
 |[.one (.sl none (.ints .i64 l)),.one (.val (.int .i64 t))],[]=>some ⟨F.nS l=true,.bK [I (F.QN l t),B (F.Er l t)],[],[Any,Any]⟩
 |_,_=>none
theorem aax (l:List Int) (t:Int) (hC:Vs.U.nS l=true):aV [(177,lY Vs.U),(178,AT Vs.U)] Tryz.f161 [.one (.sl none (.ints .i64 l)),.one (.val (.int .i64 t))] [] ⟨Vs.U.nS l=true,.bK [I (Vs.U.QN l t),B (Vs.U.Er l t)],[],[Any,Any]⟩:=by
 intro b gv
 have hk:l.length≤1000000:=of_decide_eq_true (show decide (l.length≤1000000)=true from hC)
 have hfs:=(af.cons nM (af.cons Dq af.nil rfl) rfl)
 generalize hF:Vs.U=F at hC hfs ⊢
 generalize hA:Ar.U=A
 generalize hL:Lp _ _ _=L
 obtain⟨Z,zq⟩:=aQ
 refine aD (ae hL) zq rfl ?_
 repeat' (first|(refine aw zq ?_;try dsimp only)|refine ax zq ?_ (ae hL)|refine az zq ?_|refine ay ?_|refine aq ?_|refine ar ?_|refine av ?_|refine au rfl ?_|refine ai rfl ?_|refine aj rfl ?_|(refine Cd.mk ?_;cbv)|(refine aE.mk ?_;cbv)|(refine aM.mk ?_;cbv)|exact trivial|refine And.intro ?_ ?_|refine bu fun _=>?_|refine br fun _=>?_)
 subst hL
 refine ba (bx hfs) (Mf (Dw l t) l.length) (bsS A l t) (JY) bsR ⟨0,A.fE l⟩ ?_ ?_ ?_
 ·exact (by subst hA;exact wP _ _)
 ·cbv
  repeat' (first|exact trivial|exact rfl|refine And.intro ?_ ?_)
 rintro⟨i,j⟩ hq O hO
 have hst:=fun h=>xh hk hq h
 have hen:=fun h=>KW hq h
 have q0:=hq.1
 have q1:=hq.2.1
 have q2:=hq.2.2.1
 dsimp only at q0 q1 q2
 subst hA
 generalize hA:Ar.U=A
 generalize hL:Lp _ _ _=L
 refine aR zq ?_
 repeat' (first|(refine aw zq ?_;try dsimp only)|refine ax zq ?_ (ae hL)|refine az zq ?_|refine ay ?_|refine aq ?_|refine ar ?_|refine av ?_|refine au rfl ?_|refine ai rfl ?_|refine aj rfl ?_|(refine Cd.mk ?_;cbv)|(refine aE.mk ?_;cbv)|(refine aM.mk ?_;cbv)|exact trivial|refine And.intro ?_ ?_|refine bu fun _=>?_|refine br fun _=>?_)
 all_goals (clear hL hfs zq Z hq;subst hA hF hO;simp only [Vs.U,Ar.U] at * <;> grind [al,JY,Dw,GC,Pv])
theorem QT:aA Tryz.prog 161 (Tg Vs.U):=by
 refine aG (af.cons nM (af.cons Dq af.nil rfl) rfl) Tryz.func161 rfl rfl fun xs h p hp=>?_
 unfold Tg at hp
 split at hp
 ·cases hp
  exact⟨aB rfl,fun hC _=>aax _ _ hC⟩
 ·cases hp
def qa (F:Vs):aY:=fun xs h=>match xs,h with
 |[.agg [.sl none (.ints .i64 v_n),.sl none (.ah (.int .i64 (.int .i64 (.int .i64 (.int .i64 (.bool .nil))))) _)],.one (.val (.int .i64 t))],[]=>some ⟨F.nS v_n=true,.sa (B (F.Er v_n t)),[],[Any,Any]⟩
 |_,_=>none
theorem Xl (v_n:List Int) (v_l:List E) (t:Int) (hC:Vs.U.nS v_n=true):aV [(161,Tg Vs.U)] Tryz.f135 [.agg [.sl none (.ints .i64 v_n),.sl none (.ah (.int .i64 (.int .i64 (.int .i64 (.int .i64 (.bool .nil))))) v_l)],.one (.val (.int .i64 t))] [] ⟨Vs.U.nS v_n=true,.sa (B (Vs.U.Er v_n t)),[],[Any,Any]⟩:=by
 intro b gv
 have hfs:=(af.cons QT af.nil rfl)
 generalize hF:Vs.U=F at hC hfs ⊢
 generalize hA:Ar.U=A
 generalize hL:Lp _ _ _=L
 obtain⟨Z,zq⟩:=aQ
 refine aD (ae hL) zq rfl ?_
 repeat' (first|(refine aw zq ?_;try dsimp only)|refine ax zq ?_ (ae hL)|refine az zq ?_|refine ay ?_|refine aq ?_|refine ar ?_|refine av ?_|refine au rfl ?_|refine ai rfl ?_|refine aj rfl ?_|(refine Cd.mk ?_;cbv)|(refine aE.mk ?_;cbv)|(refine aM.mk ?_;cbv)|exact trivial|refine And.intro ?_ ?_|refine bu fun _=>?_|refine br fun _=>?_)
 all_goals
  clear hL zq Z
  try clear hfs
  subst hA hF
  simp only [Vs.U] at *
  try (grind [al])
theorem fK:aA Tryz.prog 135 (qa Vs.U):=by
 refine aG (af.cons QT af.nil rfl) Tryz.func135 rfl rfl fun xs h p hp=>?_
 unfold qa at hp
 split at hp
 ·cases hp
  exact⟨aB rfl,fun hC _=>Xl _ _ _ hC⟩
 ·cases hp
def xM (F:Vs):aY:=fun xs h=>match xs,h with
 |[.agg [.val (.int .i64 k_n),.val (.int .i64 k_p),.val (.int .i64 k_w),.val (.int .i64 k_s),.val (.bool _)]],[]=>some ⟨True,.sa (B (F.YZ k_n k_p k_w k_s)),[],[Any]⟩
 |_,_=>none
theorem Np (k_n:Int) (k_p:Int) (k_w:Int) (k_s:Int) (k_m:Bool):aV [(32,gf Vs.U)] Tryz.f158 [.agg [.val (.int .i64 k_n),.val (.int .i64 k_p),.val (.int .i64 k_w),.val (.int .i64 k_s),.val (.bool k_m)]] [] ⟨True,.sa (B (Vs.U.YZ k_n k_p k_w k_s)),[],[Any]⟩:=by
 intro b gv
 have hfs:=(af.cons cN af.nil rfl)
 generalize hF:Vs.U=F at hfs ⊢
 generalize hA:Ar.U=A
 generalize hL:Lp _ _ _=L
 obtain⟨Z,zq⟩:=aQ
 refine aD (ae hL) zq rfl ?_
 repeat' (first|(refine aw zq ?_;try dsimp only)|refine ax zq ?_ (ae hL)|refine az zq ?_|refine ay ?_|refine aq ?_|refine ar ?_|refine av ?_|refine au rfl ?_|refine ai rfl ?_|refine aj rfl ?_|(refine Cd.mk ?_;cbv)|(refine aE.mk ?_;cbv)|(refine aM.mk ?_;cbv)|exact trivial|refine And.intro ?_ ?_|refine bu fun _=>?_|refine br fun _=>?_)
 all_goals
  clear hL zq Z
  try clear hfs
  subst hA hF
  simp only [Vs.U,Ar.U] at *
  try (grind [al,Zu])
theorem AF:aA Tryz.prog 158 (xM Vs.U):=by
 refine aG (af.cons cN af.nil rfl) Tryz.func158 rfl rfl fun xs h p hp=>?_
 unfold xM at hp
 split at hp
 ·cases hp
  exact⟨aB rfl,fun _ _=>Np _ _ _ _ _⟩
 ·cases hp
def xV (F:Vs):aY:=fun xs h=>match xs,h with
 |[.agg [.val (.int .i64 a_n),.val (.int .i64 a_p),.val (.int .i64 _),.val (.int .i64 _),.val (.bool _)],.agg [.val (.int .i64 d_n),.val (.int .i64 d_p),.val (.int .i64 _),.val (.int .i64 _),.val (.bool _)]],[]=>some ⟨True,.sa (I (F.Qf a_n a_p d_n d_p)),[],[Any,Any]⟩
 |_,_=>none
theorem UQ (a_n:Int) (a_p:Int) (a_w:Int) (a_s:Int) (a_m:Bool) (d_n:Int) (d_p:Int) (d_w:Int) (d_s:Int) (d_m:Bool):aV [(104,iM Vs.U),(111,pY Vs.U)] Tryz.f140 [.agg [.val (.int .i64 a_n),.val (.int .i64 a_p),.val (.int .i64 a_w),.val (.int .i64 a_s),.val (.bool a_m)],.agg [.val (.int .i64 d_n),.val (.int .i64 d_p),.val (.int .i64 d_w),.val (.int .i64 d_s),.val (.bool d_m)]] [] ⟨True,.sa (I (Vs.U.Qf a_n a_p d_n d_p)),[],[Any,Any]⟩:=by
 intro b gv
 have h1:=Ty a_n a_p d_n d_p
 have hfs:=(af.cons gM (af.cons oH af.nil rfl) rfl)
 generalize hF:Vs.U=F at hfs ⊢
 generalize hA:Ar.U=A
 generalize hL:Lp _ _ _=L
 obtain⟨Z,zq⟩:=aQ
 refine aD (ae hL) zq rfl ?_
 repeat' (first|(refine aw zq ?_;try dsimp only)|refine ax zq ?_ (ae hL)|refine az zq ?_|refine ay ?_|refine aq ?_|refine ar ?_|refine av ?_|refine au rfl ?_|refine ai rfl ?_|refine aj rfl ?_|(refine Cd.mk ?_;cbv)|(refine aE.mk ?_;cbv)|(refine aM.mk ?_;cbv)|exact trivial|refine And.intro ?_ ?_|refine bu fun _=>?_|refine br fun _=>?_)
 all_goals
  clear hL zq Z
  try clear hfs
  subst hA hF
  simp only [Vs.U] at *
  try (grind [al])
theorem rn:aA Tryz.prog 140 (xV Vs.U):=by
 refine aG (af.cons gM (af.cons oH af.nil rfl) rfl) Tryz.func140 rfl rfl fun xs h p hp=>?_
 unfold xV at hp
 split at hp
 ·cases hp
  exact⟨aB rfl,fun _ _=>UQ _ _ _ _ _ _ _ _ _ _⟩
 ·cases hp
end Go.Proofs.YtelhldgdnlppfaaGreat.ViR
