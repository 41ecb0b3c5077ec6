/-
  views El the reckoner: what they may be,what is searched in them. No condition.
-/
import Derived.Test.YtelhldgdnlppfaaGreatVsW14
import Derived.Test.YtelhldgdnlppfaaGreatVsW16
import Derived.Test.YtelhldgdnlppfaaGreatVsW16
set_option maxHeartbeats 4000000
set_option maxRecDepth 100000
set_option cbv.maxSteps 4000000
namespace Go.Proofs.YtelhldgdnlppfaaGreat.ViR
open Go Ry Cmp
def bG (n:Int):Bool:=decide (1≤n∧n≤64)
theorem dR (l:List Int) (j:Nat) (h:j < l.length):l.getD j 0=l[j]:=by rw [List.getD_eq_getElem?_getD,List.getElem?_eq_getElem h];rfl
theorem fF (l:List E) (j:Nat) (h:j < l.length):l.getD j []=l[j]:=by rw [List.getD_eq_getElem?_getD,List.getElem?_eq_getElem h];rfl
theorem cC (l:List E) (i:Int) (h0:0≤i) (h:i < l.length):l.take (i+1).toNat=l.take i.toNat ++ [l.getD i.toNat []]:=by
 have e:(i+1).toNat=i.toNat+1:=by omega
 have hi:i.toNat < l.length:=by omega
 rw [e,List.take_add_one,List.getD_eq_getElem?_getD,List.getElem?_eq_getElem hi];rfl
theorem nh {q:List E} {i:Int} (h0:0≤i) (h:i < q.length):q.getD i.toNat []∈q:=by
 have hi:i.toNat < q.length:=by omega
 rw [fF q _ hi];exact List.getElem_mem hi
structure XI where
 i:Int
def ov (n:Nat) (p:Nat→Bool) (y:XI):Prop:=0≤y.i∧y.i≤n∧∀ j:Nat,j < y.i→p j=true
def allM (n:Nat) (y:XI):Nat:=n - y.i.toNat
def tK (n:Nat) (p:Nat→Bool):Bool:=(List.range n).all p
theorem all_zero (n:Nat) (p:Nat→Bool):ov n p ⟨0⟩:=⟨Int.le_refl 0,Int.natCast_nonneg _,fun j hj=>by simp only at hj;omega⟩
theorem eY {n:Nat} {p:Nat→Bool} (hn:n≤1000000) {i:Int} (hq:ov n p ⟨i⟩) (h:i < n):allM n ⟨i+1⟩ < allM n ⟨i⟩∧(p i.toNat=true→ov n p ⟨i+1⟩)∧(p i.toNat=false→tK n p=false):=by
 obtain⟨h0,h1,h2⟩:=hq;simp only at h0 h1 h2;refine⟨by simp only [allM];omega,fun g=>⟨by simp only;omega,by simp only;omega,fun j hj=>?_⟩,fun g=>?_⟩
 ·simp only at hj
  by_cases e:j=i.toNat
  ·rw [e];exact g
  ·exact h2 j (by omega)
 ·unfold tK;rw [← Bool.not_eq_true,List.all_eq_true];intro w;rw [w i.toNat (List.mem_range.2 (by omega))] at g;cases g
theorem gP {n:Nat} {p:Nat→Bool} (hn:n≤1000000) {i:Int} (hq:ov n p ⟨i⟩):aD .add .i64 i 1=i+1∧aD .sub .i64 i 1=i - 1:=by
 obtain⟨h0,h1,_⟩:=hq;simp only at h0 h1;exact⟨by rw [aW,wr _ (by omega) (by omega)],by rw [ir,wr _ (by omega) (by omega)]⟩
theorem gO {n:Nat} {p:Nat→Bool} {i:Int} (hq:ov n p ⟨i⟩) (h:¬i < n):tK n p=true:=by
 obtain⟨h0,h1,h2⟩:=hq;simp only at h0 h1 h2;unfold tK;rw [List.all_eq_true];intro j hj;exact h2 j (by have:=List.mem_range.1 hj;omega)
theorem gK {n:Nat} {p:Nat→Bool}:tK n p=true↔∀ j,j < n→p j=true:=by
 unfold tK;rw [List.all_eq_true];exact⟨fun h j hj=>h j (List.mem_range.2 hj),fun h j hj=>h j (List.mem_range.1 hj)⟩
def orR (st:St):XI:=⟨bw st 8⟩
def RJ (l:List Int) (y:XI):Prop:=0≤y.i∧y.i≤l.length∧iZ (l.drop y.i.toNat)=iZ l
def orM (l:List Int) (y:XI):Nat:=l.length - y.i.toNat
noncomputable def orI (A:Ar) (l:List Int) (y:XI):St:=br Tryz.f111.ntmps [(3,.num .i64 0),(6,.sl none (.ints .i64 l)),(7,.ay (A.fT l)),(8,.ay y.i)] [] [Any]
theorem xK (l:List Int) (i:Int) (hq:RJ l ⟨i⟩) (h:i < l.length) (hl:l.length≤1000000):aD .add .i64 i 1=i+1∧(l.getD i.toNat 0=0→RJ l ⟨i+1⟩)∧(¬l.getD i.toNat 0=0→iZ l=l.getD i.toNat 0):=by
 obtain⟨h0,h1,h2⟩:=hq;simp only at h0 h1 h2;have hi:i.toNat < l.length:=by omega
 have e2:(i+1).toNat=i.toNat+1:=by omega
 rw [List.drop_eq_getElem_cons hi] at h2;rw [dR l _ hi];refine⟨by rw [aW,wr _ (by omega) (by omega)],fun g=>⟨by simp only;omega,by simp only;omega,?_⟩,fun g=>?_⟩
 ·simp only;rw [e2,← h2];rw [g];simp [iZ]
 ·rw [← h2];simp [iZ,g]
theorem Dx (l:List Int) (i:Int) (hq:RJ l ⟨i⟩) (h:¬i < l.length):iZ l=0:=by
 obtain⟨h0,h1,h2⟩:=hq;simp only at h0 h1 h2;rw [← h2,List.drop_eq_nil_of_le (by omega)];rfl
def hf (i j:Int):Int:=(i+j) / 2
def nL (f:Int→Bool):Nat→Int→Int→Int
 |0,i,_=>i
 |k+1,i,j=>if i < j then (if f (hf i j)=true then nL f k (hf i j+1) j else nL f k i (hf i j)) else i
theorem xM (f:Int→Bool):∀ (k m:Nat) (i j:Int),j - i≤k→j - i≤m→nL f k i j=nL f m i j
 |0,0,_,_,_,_=>rfl
 |0,m+1,i,j,h,_=>by
  unfold nL;rw [if_neg (by omega)]
 |k+1,0,i,j,_,h=>by
  conv=>rhs;unfold nL
  unfold nL;rw [if_neg (by omega)]
 |k+1,m+1,i,j,h,g=>by
  unfold nL
  by_cases c:i < j
  ·rw [if_pos c,if_pos c];unfold hf;split
   ·exact xM f k m _ _ (by omega) (by omega)
   ·exact xM f k m _ _ (by omega) (by omega)
  ·rw [if_neg c,if_neg c]
def VK (f:Int→Bool) (n:Nat):Int:=nL f n 0 n
structure XJ where
 i:Int
 j:Int
def QQ (f:Int→Bool) (n:Nat) (y:XJ):Prop:=0≤y.i∧y.i≤y.j∧y.j≤n∧nL f n y.i y.j=VK f n
def Pw (y:XJ):Nat:=(y.j - y.i).toNat
theorem yK (f:Int→Bool) (n:Nat):QQ f n ⟨0,n⟩:=⟨Int.le_refl 0,Int.natCast_nonneg _,Int.le_refl _,rfl⟩
theorem abY (i j:Int) (h0:0≤i) (h1:i≤j) (h2:j≤1000000):IntKind.i64.wrap (aD .shr .u64 (IntKind.u64.wrap (aD .add .i64 i j)) 1)=hf i j:=by
 rw [aW,wr (i+j) (by omega) (by omega)];have e:IntKind.u64.wrap (i+j)=i+j:=IntWalk.u64_in _ (by omega);rw [e];have e2:aD .shr .u64 (i+j) 1=(i+j) / 2:=by
  show (i+j).fdiv (2 ^ (min (1:Int).toNat IntKind.u64.bits))=_;rw [show min (1:Int).toNat IntKind.u64.bits=1 by decide];exact Int.fdiv_eq_ediv_of_nonneg _ (by omega)
 rw [e2,wr _ (by omega) (by omega)];rfl
theorem xT {f:Int→Bool} {n:Nat} (hn:n≤1000000) {i j:Int} (hq:QQ f n ⟨i,j⟩) (h:i < j):IntKind.i64.wrap (aD .shr .u64 (IntKind.u64.wrap (aD .add .i64 i j)) 1)=hf i j∧0≤hf i j∧hf i j < n∧aD .add .i64 (hf i j) 1=hf i j+1 ∧
  (f (hf i j)=true→QQ f n ⟨hf i j+1,j⟩∧Pw ⟨hf i j+1,j⟩ < Pw ⟨i,j⟩)∧(f (hf i j)=false→QQ f n ⟨i,hf i j⟩∧Pw ⟨i,hf i j⟩ < Pw ⟨i,j⟩):=by
 obtain⟨h0,h1,h2,h3⟩:=hq;simp only at h0 h1 h2 h3;have e:=abY i j h0 h1 (by omega);have hb:i≤hf i j∧hf i j < j:=by unfold hf;omega
 have hs:nL f n i j=if f (hf i j)=true then nL f n (hf i j+1) j else nL f n i (hf i j):=by
  cases n with
  |zero=>omega
  |succ n =>
   rw [xM f (n+1) (n+1+1) i j (by omega) (by omega)]
   conv=>lhs;unfold nL
   rw [if_pos h]
 rw [h3] at hs;refine⟨e,by omega,by omega,by rw [aW,wr _ (by omega) (by omega)],fun g=>⟨⟨by simp only;omega,by simp only;omega,h2,?_⟩,by simp only [Pw];omega⟩,fun g=>⟨⟨h0,by simp only;omega,by simp only;omega,?_⟩,by simp only [Pw];omega⟩⟩
 ·rw [if_pos g] at hs;exact hs.symm
 ·rw [if_neg (by rw [g];decide)] at hs;exact hs.symm
theorem Lc {f:Int→Bool} {n:Nat} {i j:Int} (hq:QQ f n ⟨i,j⟩) (h:¬i < j):i=VK f n∧0≤i∧i≤n:=by
 obtain⟨h0,h1,h2,h3⟩:=hq;simp only at h0 h1 h2 h3;refine⟨?_,h0,by omega⟩;rw [← h3];cases n with
 |zero=>rfl
 |succ n =>
  unfold nL;rw [if_neg h]
theorem pD (f:Int→Bool) (n:Nat):∀ (k:Nat) (i j:Int),0≤i→i≤j→j≤n→j - i≤k→(∀ x:Int,0≤x→x < i→f x=true)→(∀ x:Int,j≤x→x < n→f x=false)→(∀ x y:Int,0≤x→x≤y→y < n→f y=true→f x=true) →
  0≤nL f k i j∧nL f k i j≤n∧(∀ x:Int,0≤x→x < nL f k i j→f x=true)∧(∀ x:Int,nL f k i j≤x→x < n→f x=false)
 |0,i,j,h0,h1,h2,h3,h4,h5,_=>by
  have e:i=j:=by omega
  unfold nL;exact⟨h0,by omega,h4,by rw [e];exact h5⟩
 |k+1,i,j,h0,h1,h2,h3,h4,h5,hm=>by
  unfold nL
  by_cases c:i < j
  ·rw [if_pos c];have hb:i≤hf i j∧hf i j < j:=by unfold hf;omega
   split
   ·rename_i g;refine pD f n k _ _ (by omega) (by omega) h2 (by omega) (fun x x0 x1=>hm x (hf i j) x0 (by omega) (by omega) g) h5 hm
   ·rename_i g;refine pD f n k _ _ h0 (by omega) (by omega) (by omega) h4 (fun x x0 x1=>?_) hm;rw [← Bool.not_eq_true];exact fun w=>g (hm (hf i j) x (by omega) x0 x1 w)
  ·rw [if_neg c];have e:i=j:=by omega
   exact⟨h0,by omega,h4,by rw [e];exact h5⟩
def Hv (l:List Int) (t:Int) (x:Int):Bool:=decide (l.getD x.toNat 0 < t)
def KL (l:List Int) (t:Int):Int:=VK (Hv l t) l.length
def Tp (l:List Int) (t:Int):Bool:=decide (KL l t < l.length∧l.getD (KL l t).toNat 0=t)
noncomputable def bsS (A:Ar) (l:List Int) (t:Int) (y:XJ):St:=br Tryz.f161.ntmps [(0,.sl none (.ints .i64 l)),(1,.ay t),(6,.ay (A.fT l)),(7,.ay y.i),(8,.ay y.j)] [] [Any,Any]
def bsR (st:St):XJ:=⟨bw st 7,bw st 8⟩
def KI (n p n' p' : Int):Int:=if n=n' then iK p p' else iK n n'
theorem Zj (n p n' p' : Int):iZ [iK n n',iK p p']=KI n p n' p':=by
 unfold KI
 by_cases h:n=n'
 ·rw [if_pos h,MM h];simp only [iZ,if_true];split <;> simp_all
 ·rw [if_neg h];have:¬iK n n' = 0:=by
   unfold iK;split <;> (try split) <;> omega
  simp only [iZ,if_neg this]
theorem qV (n p n' p' : Int):KI n p n' p' < 0↔n < n'∨n=n'∧p < p':=by
 unfold KI iK;split <;> split <;> (try split) <;> omega
theorem UG (n p n' p' : Int):KI n p n' p' = 0↔n=n'∧p=p':=by
 unfold KI iK;split <;> split <;> (try split) <;> omega
def VP (l:List E) (n p:Int) (x:Int):Bool:=decide (KI (ri (l.getD x.toNat []) 0) (ri (l.getD x.toNat []) 1) n p < 0)
def pG (l:List E) (n p:Int):Int:=VK (VP l n p) l.length
def Gy (l:List E) (n p:Int):Bool:=decide (pG l n p < l.length∧KI (ri (l.getD (pG l n p).toNat []) 0) (ri (l.getD (pG l n p).toNat []) 1) n p=0)
def QF (n p w s:Int):Bool:=decide (bG n=true∧bG p=true∧n≠p∧0≤w∧w≤2147483647∧1≤s∧s≤2147483647)
def okN (n:List Int) (i:Nat):Bool:=decide (bG (n.getD i 0)=true∧(0 < i→n.getD (i - 1) 0 < n.getD i 0))
def dM (n:List Int):Bool:=tK n.length (okN n)
def JY (y:E):Bool:=QF (ri y 0) (ri y 1) (ri y 2) (ri y 3)
def okL (n:List Int) (l:List E) (i:Nat):Bool:=decide (JY (l.getD i [])=true∧n.contains (ri (l.getD i []) 0)=true∧(0 < i→KI (ri (l.getD (i - 1) []) 0) (ri (l.getD (i - 1) []) 1) (ri (l.getD i []) 0) (ri (l.getD i []) 1) < 0))
def aX (n:List Int) (l:List E):Bool:=dM n && tK l.length (okL n l)
def oU (n:List Int) (l:List E):Int:=if aX n l=true then 0 else 1
theorem tg {n:List Int}:dM n=true↔∀ i,i < n.length→bG (n.getD i 0)=true∧(0 < i→n.getD (i - 1) 0 < n.getD i 0):=by
 unfold dM;rw [gK];unfold okN;simp only [decide_eq_true_eq]
theorem rT {n:List Int} (h:dM n=true):∀ (j i:Nat),i < j→j < n.length→n.getD i 0 < n.getD j 0
 |0,_,h1,_=>absurd h1 (Nat.not_lt_zero _)
 |j+1,i,h1,h2=>by
  have g:=(tg.1 h (j+1) h2).2 (Nat.zero_lt_succ _);rw [Nat.add_sub_cancel] at g
  by_cases e:i=j
  ·rw [e];exact g
  ·have:=rT h j i (by omega) (by omega);omega
theorem qH {n:List Int} (h:dM n=true) (t:Int):Tp n t=n.contains t:=by
 have hs:=pD (Hv n t) n.length n.length 0 n.length (Int.le_refl 0) (Int.natCast_nonneg _) (Int.le_refl _) (by omega) (fun x x0 x1=>by omega) (fun x x0 x1=>by omega) (fun x y x0 hxy hy hf=>by
  unfold Hv at *;rw [decide_eq_true_eq] at *
  by_cases e:x=y
  ·rw [e];exact hf
  ·have:=rT h y.toNat x.toNat (by omega) (by omega);omega)
 obtain⟨s0,s1,s2,s3⟩:=hs;have e:nL (Hv n t) n.length 0 n.length=KL n t:=rfl;rw [e] at s0 s1 s2 s3;rw [Bool.eq_iff_iff,List.contains_iff_mem];unfold Tp;rw [decide_eq_true_eq];constructor
 ·rintro⟨h1,h2⟩;have hi:(KL n t).toNat < n.length:=by omega
  rw [dR n _ hi] at h2;rw [← h2];exact List.getElem_mem hi
 ·intro hm;obtain⟨k,hk,hkt⟩:=List.getElem_of_mem hm;have hk2:n.getD k 0=t:=by rw [dR n k hk];exact hkt
  have k1:KL n t≤k:=by
   by_cases c:KL n t≤k
   ·exact c
   ·have:=s2 k (by omega) (by omega);unfold Hv at this;rw [decide_eq_true_eq,Int.toNat_natCast] at this;omega
  have k2:¬KL n t < k:=fun c=>by
   have a:=rT h k (KL n t).toNat (by omega) hk;have b:=s3 (KL n t) (Int.le_refl _) (by omega);unfold Hv at b;rw [decide_eq_false_iff_not] at b;omega
  have ee:KL n t=k:=by omega
  rw [ee,Int.toNat_natCast];exact⟨by omega,hk2⟩
theorem xw {n:List Int} (h:dM n=true) (t:Int) (ht:n.contains t=true):bG t=true:=by
 rw [List.contains_iff_mem] at ht;obtain⟨k,hk,hkt⟩:=List.getElem_of_mem ht;have:=(tg.1 h k hk).1;rw [dR n k hk,hkt] at this;exact this
theorem UT {n:List Int} {i:Int} (h0:0≤i) (_:i < n.length):(okN n i.toNat=true↔bG (n.getD i.toNat 0)=true∧(i > 0→n.getD (i - 1).toNat 0 < n.getD i.toNat 0)):=by
 unfold okN;rw [decide_eq_true_eq];have e:(i - 1).toNat=i.toNat - 1:=by omega
 rw [e];constructor
 ·rintro⟨a,b⟩;exact⟨a,fun g=>b (by omega)⟩
 ·rintro⟨a,b⟩;exact⟨a,fun g=>b (by omega)⟩
theorem VF {n:List Int} {l:List E} {i:Int} (h0:0≤i) (_:i < l.length):(okL n l i.toNat=true↔JY (l.getD i.toNat [])=true∧n.contains (ri (l.getD i.toNat []) 0)=true∧(i > 0→KI (ri (l.getD (i - 1).toNat []) 0) (ri (l.getD (i - 1).toNat []) 1) (ri (l.getD i.toNat []) 0) (ri (l.getD i.toNat []) 1) < 0)):=by
 unfold okL;rw [decide_eq_true_eq];have e:(i - 1).toNat=i.toNat - 1:=by omega
 rw [e];constructor
 ·rintro⟨a,c,b⟩;exact⟨a,c,fun g=>b (by omega)⟩
 ·rintro⟨a,c,b⟩;exact⟨a,c,fun g=>b (by omega)⟩
noncomputable def aeT (A:Ar) (n:List Int) (l:List E) (y:XI):St:=br Tryz.f129.ntmps [(1,.ptr 1 0),(8,.sl none (.ints .i64 n)),(9,.ay (A.fT n)),(10,.ay y.i)] [(1,.cells 29 [.sl none (.ints .i64 n),.sl none (.ae .bg l)])] [Any]
def iR (k:Nat) (st:St):XI:=⟨bw st k⟩
noncomputable def agp (A:Ar) (n:List Int) (l:List E) (y:XI):St:=br Tryz.f129.ntmps [(1,.ptr 1 0),(34,.sl none (.ae .bg l)),(35,.ay (A.dN l)),(36,.ay y.i)] [(1,.cells 29 [.sl none (.ints .i64 n),.sl none (.ae .bg l)])] [Any]
noncomputable def afH (n:List Int) (l:List E) (y:XI):St:=br Tryz.f78.ntmps [(1,.ptr 1 0),(3,.ay y.i)] [(1,.cells 29 [.sl none (.ints .i64 n),.sl none (.ae .bg l)])] [Any]
noncomputable def aeL (n:List Int) (l:List E) (y:XI):St:=br Tryz.f78.ntmps [(1,.ptr 1 0),(4,.ay y.i)] [(1,.cells 29 [.sl none (.ints .i64 n),.sl none (.ae .bg l)])] [Any]
noncomputable def inI (l:List Int) (t:Int) (y:XI):St:=br Tryz.f117.ntmps [(0,.sl none (.ints .i64 l)),(1,.ay t),(5,.ay y.i)] [] [Any,Any]
theorem acd {l:List Int} {t:Int} {i:Int} (h0:0≤i) (hi:i < l.length) (e:l.getD i.toNat 0=t):l.contains t=true:=by
 rw [List.contains_iff_mem,← e];have h:i.toNat < l.length:=by omega
 rw [dR l _ h];exact List.getElem_mem h
theorem aaI {l:List Int} {t:Int} (h:tK l.length (fun j=>!decide (l.getD j 0=t))=true):l.contains t=false:=by
 rw [← Bool.not_eq_true,List.contains_iff_mem];intro hm;obtain⟨k,hk,hkt⟩:=List.getElem_of_mem hm;have:=gK.1 h k hk;rw [dR l k hk,hkt] at this;simp at this
structure Vs where
 KS:Int→Bool
 ady:Int→Int→Int
 afO:List Int→Int
 abz:Int→Int→Int→Int→Int
 aei:List Int→Int→Int
 WN:List Int→Int→Bool
 aff:Int→Int→Int→Int→Bool
 ahf:List Int→List E→Int
 agS:List Int→List E→Bool
 aeV:List Int→Int→Bool
 afj:Int→Int→Bool
 afb:Int→Int→Int→Int→Bool
 Ip:List Int→Bool
 Lw:List Int→List E→Bool
def Vs.aa:Vs:=⟨bG,iK,iZ,KI,KL,Tp,QF,oU,aX,fun l t=>l.contains t,fun a b=>decide (a < b),fun n p n2 p2=>decide (KI n p n2 p2 < 0),fun l=>decide (l.length≤1000000),fun n l=>decide (n.length≤1000000∧l.length≤1000000)⟩
def Cw (_:Vs):aO:=fun xs h=>match xs,h with
 |[.one (.val (.int .i64 _))],[]=>some ⟨True,.sa (B false),[],[Any]⟩
 |_,_=>none
theorem zc:au Tryz.prog 131 (Cw Vs.aa):=by
 have hfs:=ak.nil;refine aw hfs Tryz.func131 rfl rfl fun xs h p hp=>?_;unfold Cw at hp;split at hp
 ·rename_i a;cases hp;refine⟨av rfl,fun _ _=>?_⟩;intro b gv;generalize hF:Vs.aa=F at hfs ⊢;refine bu fun Z zq A hA L hL=>?_
  repeat' (first|(apply al zq;try dsimp only)|apply aS zq (af hL)|apply aq zq|refine aT rfl ?_|apply ai|refine ah rfl ?_|refine aR rfl ?_|exact aA|apply aB|refine aP fun _=>?_|refine aQ fun _=>?_|(constructor;cbv))
  all_goals
   clear hL zq Z
   try clear hfs
   subst hA hF;simp only [Ar.aa] at *
   try (first|(simp [aj];done)|grind [aj])
 ·cases hp
def Lj (_:Vs):aO:=fun xs h=>match xs,h with
 |[.one (.val (.int .i64 _))],[]=>some ⟨True,.sa (B false),[],[Any]⟩
 |_,_=>none
theorem SP:au Tryz.prog 178 (Lj Vs.aa):=by
 have hfs:=ak.nil;refine aw hfs Tryz.func178 rfl rfl fun xs h p hp=>?_;unfold Lj at hp;split at hp
 ·rename_i a;cases hp;refine⟨av rfl,fun _ _=>?_⟩;intro b gv;generalize hF:Vs.aa=F at hfs ⊢;refine bu fun Z zq A hA L hL=>?_
  repeat' (first|(apply al zq;try dsimp only)|apply aS zq (af hL)|apply aq zq|refine aT rfl ?_|apply ai|refine ah rfl ?_|refine aR rfl ?_|exact aA|apply aB|refine aP fun _=>?_|refine aQ fun _=>?_|(constructor;cbv))
  all_goals
   clear hL zq Z
   try clear hfs
   subst hA hF;simp only [Ar.aa] at *
   try (first|(simp [aj];done)|grind [aj])
 ·cases hp
def tJ (F:Vs):aO:=fun xs h=>match xs,h with
 |[.one (.val (.int .i64 a)),.one (.val (.int .i64 d))],[]=>some ⟨True,.sa (I (F.ady a d)),[],[Any,Any]⟩
 |_,_=>none
theorem pH:au Tryz.prog 104 (tJ Vs.aa):=by
 have hfs:=(ak.cons zc ak.nil rfl);refine aw hfs Tryz.func104 rfl rfl fun xs h p hp=>?_;unfold tJ at hp;split at hp
 ·rename_i a d;cases hp;refine⟨av rfl,fun _ _=>?_⟩;intro b gv;generalize hF:Vs.aa=F at hfs ⊢;refine bu fun Z zq A hA L hL=>?_
  repeat' (first|(apply al zq;try dsimp only)|apply aS zq (af hL)|apply aq zq|refine aT rfl ?_|apply ai|refine ah rfl ?_|refine aR rfl ?_|exact aA|apply aB|refine aP fun _=>?_|refine aQ fun _=>?_|(constructor;cbv))
  all_goals
   clear hL zq Z
   try clear hfs
   subst hA hF;simp only [Vs.aa,Ar.aa] at *
   try (grind [aj,iK])
 ·cases hp
def qT (F:Vs):aO:=fun xs h=>match xs,h with
 |[.one (.val (.int .i64 a)),.one (.val (.int .i64 d))],[]=>some ⟨True,.sa (B (F.afj a d)),[],[Any,Any]⟩
 |_,_=>none
theorem yi:au Tryz.prog 177 (qT Vs.aa):=by
 have hfs:=(ak.cons zc ak.nil rfl);refine aw hfs Tryz.func177 rfl rfl fun xs h p hp=>?_;unfold qT at hp;split at hp
 ·rename_i a d;cases hp;refine⟨av rfl,fun _ _=>?_⟩;intro b gv;generalize hF:Vs.aa=F at hfs ⊢;refine bu fun Z zq A hA L hL=>?_
  repeat' (first|(apply al zq;try dsimp only)|apply aS zq (af hL)|apply aq zq|refine aT rfl ?_|apply ai|refine ah rfl ?_|refine aR rfl ?_|exact aA|apply aB|refine aP fun _=>?_|refine aQ fun _=>?_|(constructor;cbv))
  all_goals
   clear hL zq Z
   try clear hfs
   subst hA hF;simp only [Vs.aa,Ar.aa] at *
   try (grind [aj])
 ·cases hp
def Br (F:Vs):aO:=fun xs h=>match xs,h with
 |[.one (.sl none (.ints .i64 l))],[]=>some ⟨F.Ip l=true,.sa (I (F.afO l)),[],[Any]⟩
 |_,_=>none
theorem yw:au Tryz.prog 111 (Br Vs.aa):=by
 refine aw ak.nil Tryz.func111 rfl rfl fun xs h p hp=>?_;unfold Br at hp;split at hp
 ·rename_i l;cases hp;refine⟨av rfl,fun hC _=>?_⟩;dsimp only at hC;intro b gv;have hk:l.length≤1000000:=of_decide_eq_true hC;generalize hF:Vs.aa=F at hC ⊢;refine bu fun Z zq A hA L hL=>?_
  repeat' (first|(apply al zq;try dsimp only)|apply aS zq (af hL)|apply aq zq|refine aT rfl ?_|apply ai|refine ah rfl ?_|refine aR rfl ?_|exact aA|apply aB|refine aP fun _=>?_|refine aQ fun _=>?_|(constructor;cbv))
  subst hL;refine aJ (aN ak.nil) (RJ l) (orI A l) (orM l) orR ⟨0⟩ ?_ ?_ ?_
  ·exact⟨Int.le_refl 0,Int.natCast_nonneg _,rfl⟩
  ·cbv
   repeat' (first|exact trivial|exact rfl|refine And.intro ?_ ?_)
  rintro⟨i⟩ hq O hO;have hst:=fun h=>xK l i hq h hk;have hen:=Dx l i hq;have q0:=hq.1;have q1:=hq.2.1;dsimp only at q0 q1;subst hA;generalize hA:Ar.aa=A;generalize hL:Lp _ _ _=L;refine az zq ?_
  repeat' (first|(apply al zq;try dsimp only)|apply aS zq (af hL)|apply aq zq|refine aT rfl ?_|apply ai|refine ah rfl ?_|refine aR rfl ?_|exact aA|apply aB|refine aP fun _=>?_|refine aQ fun _=>?_|(constructor;cbv))
  all_goals (clear hL zq Z hq;subst hA hF hO;simp only [Vs.aa,Ar.aa] at * <;> grind [aj,orM])
 ·cases hp
def Hq (F:Vs):aO:=fun xs h=>match xs,h with
 |[.one (.val (.int .i64 n))],[]=>some ⟨True,.sa (B (F.KS n)),[],[Any]⟩
 |_,_=>none
theorem ia:au Tryz.prog 32 (Hq Vs.aa):=by
 have hfs:=ak.nil;refine aw hfs Tryz.func32 rfl rfl fun xs h p hp=>?_;unfold Hq at hp;split at hp
 ·rename_i n;cases hp;refine⟨av rfl,fun _ _=>?_⟩;intro b gv;generalize hF:Vs.aa=F at hfs ⊢;refine bu fun Z zq A hA L hL=>?_
  repeat' (first|(apply al zq;try dsimp only)|apply aS zq (af hL)|apply aq zq|refine aT rfl ?_|apply ai|refine ah rfl ?_|refine aR rfl ?_|exact aA|apply aB|refine aP fun _=>?_|refine aQ fun _=>?_|(constructor;cbv))
  all_goals
   clear hL zq Z
   try clear hfs
   subst hA hF;simp only [Vs.aa,Ar.aa] at *
   try (grind [aj,bG])
 ·cases hp
def pO (F:Vs):aO:=fun xs h=>match xs,h with
 |[.one (.val (.int .i64 n))],[]=>some ⟨True,.sa (B (F.KS n)),[],[Any]⟩
 |_,_=>none
theorem fY:au Tryz.prog 23 (pO Vs.aa):=by
 have hfs:=ak.nil;refine aw hfs Tryz.func23 rfl rfl fun xs h p hp=>?_;unfold pO at hp;split at hp
 ·rename_i n;cases hp;refine⟨av rfl,fun _ _=>?_⟩;intro b gv;generalize hF:Vs.aa=F at hfs ⊢;refine bu fun Z zq A hA L hL=>?_
  repeat' (first|(apply al zq;try dsimp only)|apply aS zq (af hL)|apply aq zq|refine aT rfl ?_|apply ai|refine ah rfl ?_|refine aR rfl ?_|exact aA|apply aB|refine aP fun _=>?_|refine aQ fun _=>?_|(constructor;cbv))
  all_goals
   clear hL zq Z
   try clear hfs
   subst hA hF;simp only [Vs.aa,Ar.aa] at *
   try (grind [aj,bG])
 ·cases hp
def acs (F:Vs):aO:=fun xs h=>match xs,h with
 |[.one (.sl none (.ints .i64 l)),.one (.val (.int .i64 t))],[]=>some ⟨F.Ip l=true,.cN [I (F.aei l t),B (F.WN l t)],[],[Any,Any]⟩
 |_,_=>none
theorem abG:au Tryz.prog 161 (acs Vs.aa):=by
 have hfs:=(ak.cons yi (ak.cons SP ak.nil rfl) rfl);refine aw hfs Tryz.func161 rfl rfl fun xs h p hp=>?_;unfold acs at hp;split at hp
 ·rename_i l t;cases hp;refine⟨av rfl,fun hC _=>?_⟩;dsimp only at hC;intro b gv;have hk:l.length≤1000000:=of_decide_eq_true hC;generalize hF:Vs.aa=F at hC hfs ⊢;refine bu fun Z zq A hA L hL=>?_
  repeat' (first|(apply al zq;try dsimp only)|apply aS zq (af hL)|apply aq zq|refine aT rfl ?_|apply ai|refine ah rfl ?_|refine aR rfl ?_|exact aA|apply aB|refine aP fun _=>?_|refine aQ fun _=>?_|(constructor;cbv))
  subst hL;refine aJ (aN hfs) (QQ (Hv l t) l.length) (bsS A l t) (Pw) bsR ⟨0,A.fT l⟩ ?_ ?_ ?_
  ·exact (by subst hA;exact yK _ _)
  ·cbv
   repeat' (first|exact trivial|exact rfl|refine And.intro ?_ ?_)
  rintro⟨i,j⟩ hq O hO;have hst:=fun h=>xT hk hq h;have hen:=fun h=>Lc hq h;have q0:=hq.1;have q1:=hq.2.1;have q2:=hq.2.2.1;dsimp only at q0 q1 q2;subst hA;generalize hA:Ar.aa=A;generalize hL:Lp _ _ _=L;refine az zq ?_
  repeat' (first|(apply al zq;try dsimp only)|apply aS zq (af hL)|apply aq zq|refine aT rfl ?_|apply ai|refine ah rfl ?_|refine aR rfl ?_|exact aA|apply aB|refine aP fun _=>?_|refine aQ fun _=>?_|(constructor;cbv))
  all_goals (clear hL hfs zq Z hq;subst hA hF hO;simp only [Vs.aa,Ar.aa] at * <;> grind [aj,Pw,Hv,KL,Tp])
 ·cases hp
def Vu (F:Vs):aO:=fun xs h=>match xs,h with
 |[.agg [.sl none (.ints .i64 v_n),.sl none (.ae (.int .i64 (.int .i64 (.int .i64 (.int .i64 (.bool .nil))))) _)],.one (.val (.int .i64 t))],[]=>some ⟨F.Ip v_n=true,.sa (B (F.WN v_n t)),[],[Any,Any]⟩
 |_,_=>none
theorem qz:au Tryz.prog 135 (Vu Vs.aa):=by
 have hfs:=(ak.cons abG ak.nil rfl);refine aw hfs Tryz.func135 rfl rfl fun xs h p hp=>?_;unfold Vu at hp;split at hp
 ·rename_i v_n v_l t;cases hp;refine⟨av rfl,fun hC _=>?_⟩;dsimp only at hC;intro b gv;generalize hF:Vs.aa=F at hC hfs ⊢;refine bu fun Z zq A hA L hL=>?_
  repeat' (first|(apply al zq;try dsimp only)|apply aS zq (af hL)|apply aq zq|refine aT rfl ?_|apply ai|refine ah rfl ?_|refine aR rfl ?_|exact aA|apply aB|refine aP fun _=>?_|refine aQ fun _=>?_|(constructor;cbv))
  all_goals
   clear hL zq Z
   try clear hfs
   subst hA hF;simp only [Vs.aa] at *
   try (grind [aj])
 ·cases hp
def FG (F:Vs):aO:=fun xs h=>match xs,h with
 |[.agg [.val (.int .i64 k_n),.val (.int .i64 k_p),.val (.int .i64 k_w),.val (.int .i64 k_s),.val (.bool _)]],[]=>some ⟨True,.sa (B (F.aff k_n k_p k_w k_s)),[],[Any]⟩
 |_,_=>none
theorem NB:au Tryz.prog 158 (FG Vs.aa):=by
 have hfs:=(ak.cons ia ak.nil rfl);refine aw hfs Tryz.func158 rfl rfl fun xs h p hp=>?_;unfold FG at hp;split at hp
 ·rename_i k_n k_p k_w k_s k_m;cases hp;refine⟨av rfl,fun _ _=>?_⟩;intro b gv;generalize hF:Vs.aa=F at hfs ⊢;refine bu fun Z zq A hA L hL=>?_
  repeat' (first|(apply al zq;try dsimp only)|apply aS zq (af hL)|apply aq zq|refine aT rfl ?_|apply ai|refine ah rfl ?_|refine aR rfl ?_|exact aA|apply aB|refine aP fun _=>?_|refine aQ fun _=>?_|(constructor;cbv))
  all_goals
   clear hL zq Z
   try clear hfs
   subst hA hF;simp only [Vs.aa,Ar.aa] at *
   try (grind [aj,QF])
 ·cases hp
def NW (F:Vs):aO:=fun xs h=>match xs,h with
 |[.agg [.val (.int .i64 a_n),.val (.int .i64 a_p),.val (.int .i64 _),.val (.int .i64 _),.val (.bool _)],.agg [.val (.int .i64 d_n),.val (.int .i64 d_p),.val (.int .i64 _),.val (.int .i64 _),.val (.bool _)]],[]=>some ⟨True,.sa (I (F.abz a_n a_p d_n d_p)),[],[Any,Any]⟩
 |_,_=>none
theorem Hw:au Tryz.prog 140 (NW Vs.aa):=by
 have hfs:=(ak.cons pH (ak.cons yw ak.nil rfl) rfl);refine aw hfs Tryz.func140 rfl rfl fun xs h p hp=>?_;unfold NW at hp;split at hp
 ·rename_i a_n a_p a_w a_s a_m d_n d_p d_w d_s d_m;cases hp;refine⟨av rfl,fun _ _=>?_⟩;intro b gv;have h1:=Zj a_n a_p d_n d_p;generalize hF:Vs.aa=F at hfs ⊢;refine bu fun Z zq A hA L hL=>?_
  repeat' (first|(apply al zq;try dsimp only)|apply aS zq (af hL)|apply aq zq|refine aT rfl ?_|apply ai|refine ah rfl ?_|refine aR rfl ?_|exact aA|apply aB|refine aP fun _=>?_|refine aQ fun _=>?_|(constructor;cbv))
  all_goals
   clear hL zq Z
   try clear hfs
   subst hA hF;simp only [Vs.aa] at *
   try (grind [aj])
 ·cases hp
def HQ (F:Vs):aO:=fun xs h=>match xs,h with
 |[.agg [.val (.int .i64 a_n),.val (.int .i64 a_p),.val (.int .i64 _),.val (.int .i64 _),.val (.bool _)],.agg [.val (.int .i64 d_n),.val (.int .i64 d_p),.val (.int .i64 _),.val (.int .i64 _),.val (.bool _)]],[]=>some ⟨True,.sa (B (F.afb a_n a_p d_n d_p)),[],[Any,Any]⟩
 |_,_=>none
theorem Mm:au Tryz.prog 118 (HQ Vs.aa):=by
 have hfs:=ak.nil;refine aw hfs Tryz.func118 rfl rfl fun xs h p hp=>?_;unfold HQ at hp;split at hp
 ·rename_i a_n a_p a_w a_s a_m d_n d_p d_w d_s d_m;cases hp;refine⟨av rfl,fun _ _=>?_⟩;intro b gv;have h1:=qV a_n a_p d_n d_p;generalize hF:Vs.aa=F at hfs ⊢;refine bu fun Z zq A hA L hL=>?_
  repeat' (first|(apply al zq;try dsimp only)|apply aS zq (af hL)|apply aq zq|refine aT rfl ?_|apply ai|refine ah rfl ?_|refine aR rfl ?_|exact aA|apply aB|refine aP fun _=>?_|refine aQ fun _=>?_|(constructor;cbv))
  all_goals
   clear hL zq Z
   try clear hfs
   subst hA hF;simp only [Vs.aa,Ar.aa] at *
   try (grind [aj])
 ·cases hp
def VL (F:Vs):aO:=fun xs h=>match xs,h with
 |[.one (.sl none (.ints .i64 l)),.one (.val (.int .i64 t))],[]=>some ⟨F.Ip l=true,.sa (B (F.aeV l t)),[],[Any,Any]⟩
 |_,_=>none
theorem DR:au Tryz.prog 117 (VL Vs.aa):=by
 refine aw ak.nil Tryz.func117 rfl rfl fun xs h p hp=>?_;unfold VL at hp;split at hp
 ·rename_i l t;cases hp;refine⟨av rfl,fun hC _=>?_⟩;dsimp only at hC;intro b gv;have hk:l.length≤1000000:=of_decide_eq_true hC;generalize hF:Vs.aa=F at hC ⊢;refine bu fun Z zq A hA L hL=>?_
  repeat' (first|(apply al zq;try dsimp only)|apply aS zq (af hL)|apply aq zq|refine aT rfl ?_|apply ai|refine ah rfl ?_|refine aR rfl ?_|exact aA|apply aB|refine aP fun _=>?_|refine aQ fun _=>?_|(constructor;cbv))
  subst hL;refine aJ (aN ak.nil) (ov l.length (fun j=>!decide (l.getD j 0=t))) (inI l t) (allM l.length) (iR 5) ⟨0⟩ ?_ ?_ ?_
  ·exact all_zero _ _
  ·cbv
   repeat' (first|exact trivial|exact rfl|refine And.intro ?_ ?_)
  rintro⟨i⟩ hq O hO;obtain⟨e1,_⟩:=gP hk hq;have hst:=fun h=>eY hk hq h;have hen:=fun h=>aaI (gO hq h);have hno:=fun h e=>acd (l:=l) (t:=t) hq.1 h e;have q0:=hq.1;have q1:=hq.2.1;dsimp only at q0 q1 hst hno;subst hA;generalize hA:Ar.aa=A;generalize hL:Lp _ _ _=L;refine az zq ?_
  repeat' (first|(apply al zq;try dsimp only)|apply aS zq (af hL)|apply aq zq|refine aT rfl ?_|apply ai|refine ah rfl ?_|refine aR rfl ?_|exact aA|apply aB|refine aP fun _=>?_|refine aQ fun _=>?_|(constructor;cbv))
  all_goals (clear hL zq Z hq;subst hA hF hO;simp only [Vs.aa,Ar.aa] at * <;> grind [aj])
 ·cases hp
end Go.Proofs.YtelhldgdnlppfaaGreat.ViR
