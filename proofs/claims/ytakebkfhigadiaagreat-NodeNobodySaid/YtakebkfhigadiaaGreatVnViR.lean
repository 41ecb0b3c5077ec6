
/-
  views je the reckoner: what they may be,what is searched in them. No condition.
-/
import Derived.Test.YtakebkfhigadiaaGreatVnW15
import Derived.Test.YtakebkfhigadiaaGreatVnW17
import Derived.Test.YtakebkfhigadiaaGreatVnW20
set_option maxHeartbeats 4000000
set_option maxRecDepth 100000
set_option cbv.maxSteps 4000000
namespace Go.Proofs.YtakebkfhigadiaaGreat.ViR
open Go Ry Cmp
def dI (n:Int):Bool:=decide (1≤n∧n≤64)
theorem uD (l:List Int) (j:Nat) (h:j < l.length):l.getD j 0=l[j]:=by rw [List.getD_eq_getElem?_getD,List.getElem?_eq_getElem h];rfl
theorem dh (l:List E) (i:Int) (h0:0≤i) (h:i < l.length):l.take (i+1).toNat=l.take i.toNat ++ [l.getD i.toNat []]:=by
 have e:(i+1).toNat=i.toNat+1:=by omega
 have hi:i.toNat < l.length:=by omega
 rw [e,List.take_add_one,List.getD_eq_getElem?_getD,List.getElem?_eq_getElem hi]
 rfl
structure XI where
 i:Int
def yt (n:Nat) (p:Nat→Bool) (y:XI):Prop:=0≤y.i∧y.i≤n∧∀ j:Nat,j < y.i→p j=true
def allM (n:Nat) (y:XI):Nat:=n - y.i.toNat
def xh (n:Nat) (p:Nat→Bool):Bool:=(List.range n).all p
theorem all_zero (n:Nat) (p:Nat→Bool):yt n p ⟨0⟩:=⟨Int.le_refl 0,Int.natCast_nonneg _,fun j hj=>by simp only at hj;omega⟩
theorem vk {n:Nat} {p:Nat→Bool} (hn:n≤1000000) {i:Int} (hq:yt n p ⟨i⟩) (h:i < n):allM n ⟨i+1⟩ < allM n ⟨i⟩∧(p i.toNat=true→yt n p ⟨i+1⟩)∧(p i.toNat=false→xh n p=false):=by
 obtain⟨h0,h1,h2⟩:=hq
 simp only at h0 h1 h2
 refine⟨by simp only [allM];omega,fun g=>⟨by simp only;omega,by simp only;omega,fun j hj=>?_⟩,fun g=>?_⟩
 ·simp only at hj
  by_cases e:j=i.toNat
  ·rw [e]
   exact g
  ·exact h2 j (by omega)
 ·unfold xh
  rw [← Bool.not_eq_true,List.all_eq_true]
  intro w
  rw [w i.toNat (List.mem_range.2 (by omega))] at g
  cases g
theorem Ah {n:Nat} {p:Nat→Bool} (hn:n≤1000000) {i:Int} (hq:yt n p ⟨i⟩):aB .add .i64 i 1=i+1∧aB .sub .i64 i 1=i - 1:=by
 obtain⟨h0,h1,_⟩:=hq
 simp only at h0 h1
 exact⟨by rw [aY,wr _ (by omega) (by omega)],by rw [ew,wr _ (by omega) (by omega)]⟩
theorem BQ {n:Nat} {p:Nat→Bool} {i:Int} (hq:yt n p ⟨i⟩) (h:¬i < n):xh n p=true:=by
 obtain⟨h0,h1,h2⟩:=hq
 simp only at h0 h1 h2
 unfold xh
 rw [List.all_eq_true]
 intro j hj
 exact h2 j (by have:=List.mem_range.1 hj;omega)
theorem Lq {n:Nat} {p:Nat→Bool}:xh n p=true↔∀ j,j < n→p j=true:=by
 unfold xh
 rw [List.all_eq_true]
 exact⟨fun h j hj=>h j (List.mem_range.2 hj),fun h j hj=>h j (List.mem_range.1 hj)⟩
def orR (st:St):XI:=⟨bA st 8⟩
def VG (l:List Int) (y:XI):Prop:=0≤y.i∧y.i≤l.length∧kl (l.drop y.i.toNat)=kl l
def orM (l:List Int) (y:XI):Nat:=l.length - y.i.toNat
noncomputable def orI (A:Ar) (l:List Int) (y:XI):St:=bW Tryz.f198.ntmps [(3,.num .i64 0),(6,.sl none (.ints .i64 l)),(7,.val (.int .i64 (A.gr l))),(8,.val (.int .i64 y.i))] [] [Any]
theorem Kj (l:List Int) (i:Int) (hq:VG l ⟨i⟩) (h:i < l.length) (hl:l.length≤1000000):aB .add .i64 i 1=i+1∧(l.getD i.toNat 0=0→VG l ⟨i+1⟩)∧(¬l.getD i.toNat 0=0→kl l=l.getD i.toNat 0):=by
 obtain⟨h0,h1,h2⟩:=hq
 simp only at h0 h1 h2
 have hi:i.toNat < l.length:=by omega
 have e2:(i+1).toNat=i.toNat+1:=by omega
 rw [List.drop_eq_getElem_cons hi] at h2
 rw [uD l _ hi]
 refine⟨by rw [aY,wr _ (by omega) (by omega)],fun g=>⟨by simp only;omega,by simp only;omega,?_⟩,fun g=>?_⟩
 ·simp only
  rw [e2,← h2]
  rw [g]
  simp [kl]
 ·rw [← h2]
  simp [kl,g]
theorem OO (l:List Int) (i:Int) (hq:VG l ⟨i⟩) (h:¬i < l.length):kl l=0:=by
 obtain⟨h0,h1,h2⟩:=hq
 simp only at h0 h1 h2
 rw [← h2,List.drop_eq_nil_of_le (by omega)]
 rfl
def hf (i j:Int):Int:=(i+j) / 2
def nL (f:Int→Bool):Nat→Int→Int→Int
 |0,i,_=>i
 |k+1,i,j=>if i < j then (if f (hf i j)=true then nL f k (hf i j+1) j else nL f k i (hf i j)) else i
theorem tq (f:Int→Bool):∀ (k m:Nat) (i j:Int),j - i≤k→j - i≤m→nL f k i j=nL f m i j
 |0,0,_,_,_,_=>rfl
 |0,m+1,i,j,h,_=>by
  unfold nL
  rw [if_neg (by omega)]
 |k+1,0,i,j,_,h=>by
  conv=>rhs;unfold nL
  unfold nL
  rw [if_neg (by omega)]
 |k+1,m+1,i,j,h,g=>by
  unfold nL
  by_cases c:i < j
  ·rw [if_pos c,if_pos c]
   unfold hf
   split
   ·exact tq f k m _ _ (by omega) (by omega)
   ·exact tq f k m _ _ (by omega) (by omega)
  ·rw [if_neg c,if_neg c]
def VF (f:Int→Bool) (n:Nat):Int:=nL f n 0 n
structure XJ where
 i:Int
 j:Int
def Qu (f:Int→Bool) (n:Nat) (y:XJ):Prop:=0≤y.i∧y.i≤y.j∧y.j≤n∧nL f n y.i y.j=VF f n
def Jd (y:XJ):Nat:=(y.j - y.i).toNat
theorem As (f:Int→Bool) (n:Nat):Qu f n ⟨0,n⟩:=⟨Int.le_refl 0,Int.natCast_nonneg _,Int.le_refl _,rfl⟩
theorem SL (i j:Int) (h0:0≤i) (h1:i≤j) (h2:j≤1000000):IntKind.i64.wrap (aB .shr .u64 (IntKind.u64.wrap (aB .add .i64 i j)) 1)=hf i j:=by
 rw [aY,wr (i+j) (by omega) (by omega)]
 have e:IntKind.u64.wrap (i+j)=i+j:=IntWalk.u64_in _ (by omega)
 rw [e]
 have e2:aB .shr .u64 (i+j) 1=(i+j) / 2:=by
  show (i+j).fdiv (2 ^ (min (1:Int).toNat IntKind.u64.bits))=_
  rw [show min (1:Int).toNat IntKind.u64.bits=1 by decide]
  exact Int.fdiv_eq_ediv_of_nonneg _ (by omega)
 rw [e2,wr _ (by omega) (by omega)]
 rfl
theorem An {f:Int→Bool} {n:Nat} (hn:n≤1000000) {i j:Int} (hq:Qu f n ⟨i,j⟩) (h:i < j):IntKind.i64.wrap (aB .shr .u64 (IntKind.u64.wrap (aB .add .i64 i j)) 1)=hf i j∧0≤hf i j∧hf i j < n∧aB .add .i64 (hf i j) 1=hf i j+1 ∧
  (f (hf i j)=true→Qu f n ⟨hf i j+1,j⟩∧Jd ⟨hf i j+1,j⟩ < Jd ⟨i,j⟩)∧(f (hf i j)=false→Qu f n ⟨i,hf i j⟩∧Jd ⟨i,hf i j⟩ < Jd ⟨i,j⟩):=by
 obtain⟨h0,h1,h2,h3⟩:=hq
 simp only at h0 h1 h2 h3
 have e:=SL i j h0 h1 (by omega)
 have hb:i≤hf i j∧hf i j < j:=by unfold hf;omega
 have hs:nL f n i j=if f (hf i j)=true then nL f n (hf i j+1) j else nL f n i (hf i j):=by
  cases n with
  |zero=>omega
  |succ n =>
   rw [tq f (n+1) (n+1+1) i j (by omega) (by omega)]
   conv=>lhs;unfold nL
   rw [if_pos h]
 rw [h3] at hs
 refine⟨e,by omega,by omega,by rw [aY,wr _ (by omega) (by omega)],fun g=>⟨⟨by simp only;omega,by simp only;omega,h2,?_⟩,by simp only [Jd];omega⟩,fun g=>⟨⟨h0,by simp only;omega,by simp only;omega,?_⟩,by simp only [Jd];omega⟩⟩
 ·rw [if_pos g] at hs
  exact hs.symm
 ·rw [if_neg (by rw [g];decide)] at hs
  exact hs.symm
theorem Hi {f:Int→Bool} {n:Nat} {i j:Int} (hq:Qu f n ⟨i,j⟩) (h:¬i < j):i=VF f n∧0≤i∧i≤n:=by
 obtain⟨h0,h1,h2,h3⟩:=hq
 simp only at h0 h1 h2 h3
 refine⟨?_,h0,by omega⟩
 rw [← h3]
 cases n with
 |zero=>rfl
 |succ n =>
  unfold nL
  rw [if_neg h]
theorem uB (f:Int→Bool) (n:Nat):∀ (k:Nat) (i j:Int),0≤i→i≤j→j≤n→j - i≤k→(∀ x:Int,0≤x→x < i→f x=true)→(∀ x:Int,j≤x→x < n→f x=false)→(∀ x y:Int,0≤x→x≤y→y < n→f y=true→f x=true) →
  0≤nL f k i j∧nL f k i j≤n∧(∀ x:Int,0≤x→x < nL f k i j→f x=true)∧(∀ x:Int,nL f k i j≤x→x < n→f x=false)
 |0,i,j,h0,h1,h2,h3,h4,h5,_=>by
  have e:i=j:=by omega
  unfold nL
  exact⟨h0,by omega,h4,by rw [e];exact h5⟩
 |k+1,i,j,h0,h1,h2,h3,h4,h5,hm=>by
  unfold nL
  by_cases c:i < j
  ·rw [if_pos c]
   have hb:i≤hf i j∧hf i j < j:=by unfold hf;omega
   split
   ·rename_i g
    refine uB f n k _ _ (by omega) (by omega) h2 (by omega) (fun x x0 x1=>hm x (hf i j) x0 (by omega) (by omega) g) h5 hm
   ·rename_i g
    refine uB f n k _ _ h0 (by omega) (by omega) (by omega) h4 (fun x x0 x1=>?_) hm
    rw [← Bool.not_eq_true]
    exact fun w=>g (hm (hf i j) x (by omega) x0 x1 w)
  ·rw [if_neg c]
   have e:i=j:=by omega
   exact⟨h0,by omega,h4,by rw [e];exact h5⟩
def AO (l:List Int) (t:Int) (x:Int):Bool:=decide (l.getD x.toNat 0 < t)
def Eb (l:List Int) (t:Int):Int:=VF (AO l t) l.length
def JI (l:List Int) (t:Int):Bool:=decide (Eb l t < l.length∧l.getD (Eb l t).toNat 0=t)
noncomputable def bsS (A:Ar) (l:List Int) (t:Int) (y:XJ):St:=bW Tryz.f223.ntmps [(0,.sl none (.ints .i64 l)),(1,.val (.int .i64 t)),(6,.val (.int .i64 (A.gr l))),(7,.val (.int .i64 y.i)),(8,.val (.int .i64 y.j))] [] [Any,Any]
def bsR (st:St):XJ:=⟨bA st 7,bA st 8⟩
def MV (n p n' p' : Int):Int:=if n=n' then lA p p' else lA n n'
theorem QD (n p n' p' : Int):kl [lA n n',lA p p']=MV n p n' p':=by
 unfold MV
 by_cases h:n=n'
 ·rw [if_pos h,IH h]
  simp only [kl,if_true]
  split <;> simp_all
 ·rw [if_neg h]
  have:¬lA n n' = 0:=by
   unfold lA
   split <;> (try split) <;> omega
  simp only [kl,if_neg this]
def VZ (l:List E) (n p:Int) (x:Int):Bool:=decide (MV (ri (l.getD x.toNat []) 0) (ri (l.getD x.toNat []) 1) n p < 0)
def Cf (l:List E) (n p:Int):Int:=VF (VZ l n p) l.length
def Kx (l:List E) (n p:Int):Bool:=decide (Cf l n p < l.length∧MV (ri (l.getD (Cf l n p).toNat []) 0) (ri (l.getD (Cf l n p).toNat []) 1) n p=0)
def Xw (n p w s:Int):Bool:=decide (dI n=true∧dI p=true∧n≠p∧0≤w∧w≤2147483647∧1≤s∧s≤2147483647)
def CX (n:List Int) (i:Nat):Bool:=decide (dI (n.getD i 0)=true∧(0 < i→n.getD (i - 1) 0 < n.getD i 0))
def oP (n:List Int):Bool:=xh n.length (CX n)
def Xc (y:E):Bool:=Xw (ri y 0) (ri y 1) (ri y 2) (ri y 3)
def VI (n:List Int) (l:List E) (i:Nat):Bool:=decide (Xc (l.getD i [])=true∧n.contains (ri (l.getD i []) 0)=true∧(0 < i→MV (ri (l.getD (i - 1) []) 0) (ri (l.getD (i - 1) []) 1) (ri (l.getD i []) 0) (ri (l.getD i []) 1) < 0))
def bE (n:List Int) (l:List E):Bool:=oP n && xh l.length (VI n l)
def mi (n:List Int) (l:List E):Int:=if bE n l=true then 0 else 1
theorem Ff {n:List Int}:oP n=true↔∀ i,i < n.length→dI (n.getD i 0)=true∧(0 < i→n.getD (i - 1) 0 < n.getD i 0):=by
 unfold oP
 rw [Lq]
 unfold CX
 simp only [decide_eq_true_eq]
theorem tc {n:List Int} (h:oP n=true):∀ (j i:Nat),i < j→j < n.length→n.getD i 0 < n.getD j 0
 |0,_,h1,_=>absurd h1 (Nat.not_lt_zero _)
 |j+1,i,h1,h2=>by
  have g:=(Ff.1 h (j+1) h2).2 (Nat.zero_lt_succ _)
  rw [Nat.add_sub_cancel] at g
  by_cases e:i=j
  ·rw [e]
   exact g
  ·have:=tc h j i (by omega) (by omega)
   omega
theorem mv {n:List Int} (h:oP n=true) (t:Int):JI n t=n.contains t:=by
 have hs:=uB (AO n t) n.length n.length 0 n.length (Int.le_refl 0) (Int.natCast_nonneg _) (Int.le_refl _) (by omega) (fun x x0 x1=>by omega) (fun x x0 x1=>by omega) (fun x y x0 hxy hy hf=>by
  unfold AO at *
  rw [decide_eq_true_eq] at *
  by_cases e:x=y
  ·rw [e];exact hf
  ·have:=tc h y.toNat x.toNat (by omega) (by omega)
   omega)
 obtain⟨s0,s1,s2,s3⟩:=hs
 have e:nL (AO n t) n.length 0 n.length=Eb n t:=rfl
 rw [e] at s0 s1 s2 s3
 rw [Bool.eq_iff_iff,List.contains_iff_mem]
 unfold JI
 rw [decide_eq_true_eq]
 constructor
 ·rintro⟨h1,h2⟩
  have hi:(Eb n t).toNat < n.length:=by omega
  rw [uD n _ hi] at h2
  rw [← h2]
  exact List.getElem_mem hi
 ·intro hm
  obtain⟨k,hk,hkt⟩:=List.getElem_of_mem hm
  have hk2:n.getD k 0=t:=by rw [uD n k hk];exact hkt
  have k1:Eb n t≤k:=by
   by_cases c:Eb n t≤k
   ·exact c
   ·have:=s2 k (by omega) (by omega)
    unfold AO at this
    rw [decide_eq_true_eq,Int.toNat_natCast] at this
    omega
  have k2:¬Eb n t < k:=fun c=>by
   have a:=tc h k (Eb n t).toNat (by omega) hk
   have b:=s3 (Eb n t) (Int.le_refl _) (by omega)
   unfold AO at b
   rw [decide_eq_false_iff_not] at b
   omega
  have ee:Eb n t=k:=by omega
  rw [ee,Int.toNat_natCast]
  exact⟨by omega,hk2⟩
theorem Sz {n:List Int} {i:Int} (h0:0≤i) (_:i < n.length):(CX n i.toNat=true↔dI (n.getD i.toNat 0)=true∧(i > 0→n.getD (i - 1).toNat 0 < n.getD i.toNat 0)):=by
 unfold CX
 rw [decide_eq_true_eq]
 have e:(i - 1).toNat=i.toNat - 1:=by omega
 rw [e]
 constructor
 ·rintro⟨a,b⟩
  exact⟨a,fun g=>b (by omega)⟩
 ·rintro⟨a,b⟩
  exact⟨a,fun g=>b (by omega)⟩
theorem SP {n:List Int} {l:List E} {i:Int} (h0:0≤i) (_:i < l.length):(VI n l i.toNat=true↔Xc (l.getD i.toNat [])=true∧n.contains (ri (l.getD i.toNat []) 0)=true∧(i > 0→MV (ri (l.getD (i - 1).toNat []) 0) (ri (l.getD (i - 1).toNat []) 1) (ri (l.getD i.toNat []) 0) (ri (l.getD i.toNat []) 1) < 0)):=by
 unfold VI
 rw [decide_eq_true_eq]
 have e:(i - 1).toNat=i.toNat - 1:=by omega
 rw [e]
 constructor
 ·rintro⟨a,c,b⟩
  exact⟨a,c,fun g=>b (by omega)⟩
 ·rintro⟨a,c,b⟩
  exact⟨a,c,fun g=>b (by omega)⟩
noncomputable def XQ (A:Ar) (n:List Int) (l:List E) (y:XI):St:=bW Tryz.f182.ntmps [(1,.ptr 1 0),(8,.sl none (.ints .i64 n)),(9,.val (.int .i64 (A.gr n))),(10,.val (.int .i64 y.i))] [(1,.cells 36 [.sl none (.ints .i64 n),.sl none (.ae (.int .i64 (.int .i64 (.int .i64 (.int .i64 (.bool .nil))))) l)])] [Any]
def iR (k:Nat) (st:St):XI:=⟨bA st k⟩
noncomputable def Wz (A:Ar) (n:List Int) (l:List E) (y:XI):St:=bW Tryz.f182.ntmps [(1,.ptr 1 0),(34,.sl none (.ae (.int .i64 (.int .i64 (.int .i64 (.int .i64 (.bool .nil))))) l)),(35,.val (.int .i64 (A.dw l))),(36,.val (.int .i64 y.i))] [(1,.cells 36 [.sl none (.ints .i64 n),.sl none (.ae (.int .i64 (.int .i64 (.int .i64 (.int .i64 (.bool .nil))))) l)])] [Any]
structure Vs where
 Gg:Int→Bool
 NB:Int→Int→Int
 SE:List Int→Int
 Oe:Int→Int→Int→Int→Int
 NZ:List Int→Int→Int
 Ay:List Int→Int→Bool
 QT:Int→Int→Int→Int→Bool
 aam:List Int→List E→Int
 SJ:List Int→List E→Bool
 aaa:List Int→Int→Bool
 Tx:Int→Int→Bool
 aav:Int→Int→Int→Int→Bool
 kH:List Int→Bool
 aai:List Int→List E→Bool
def Vs.U:Vs:=⟨dI,lA,kl,MV,Eb,JI,Xw,mi,bE,fun l t=>l.contains t,fun a b=>decide (a < b),fun n p n2 p2=>decide (MV n p n2 p2 < 0),fun l=>decide (l.length≤1000000),fun n l=>decide (n.length≤1000000∧l.length≤1000000)⟩
def AR (_:Vs):aW:=fun xs h=>match xs,h with
 |[.one (.val (.int .i64 _))],[]=>some ⟨True,.sa (B false),[],[Any]⟩
 |_,_=>none
theorem Td (a:Int):aR [] Tryz.f80 [.one (.val (.int .i64 a))] [] ⟨True,.sa (B false),[],[Any]⟩:=by
 intro b gv
 have hfs:=af.nil
 generalize hF:Vs.U=F at hfs ⊢
 generalize hA:Ar.U=A
 generalize hL:Lp _ _ _=L
 obtain⟨Z,zq⟩:=aH
 refine aA (aa hL) zq rfl ?_
 repeat' (first|(refine ay zq ?_;try dsimp only)|refine ax zq ?_ (aa hL)|refine az zq ?_|refine aw ?_|refine aq ?_|refine au ?_|refine ar ?_|refine al rfl ?_|refine ai rfl ?_|refine aj rfl ?_|(refine Cd.mk ?_;cbv)|(refine aF.mk ?_;cbv)|(refine aK.mk ?_;cbv)|exact trivial|refine And.intro ?_ ?_|refine aZ fun _=>?_|refine ba fun _=>?_)
 all_goals
  clear hL zq Z
  try clear hfs
  subst hA hF
  simp only [Ar.U] at *
  try (first|(simp [ah];done)|grind [ah])
theorem tY:aC Tryz.prog 80 (AR Vs.U):=by
 refine aD af.nil Tryz.func80 rfl rfl fun xs h p hp=>?_
 unfold AR at hp
 split at hp
 ·cases hp
  exact⟨av rfl,fun _ _=>Td _⟩
 ·cases hp
def yS (_:Vs):aW:=fun xs h=>match xs,h with
 |[.one (.val (.int .i64 _))],[]=>some ⟨True,.sa (B false),[],[Any]⟩
 |_,_=>none
theorem QQ (a:Int):aR [] Tryz.f240 [.one (.val (.int .i64 a))] [] ⟨True,.sa (B false),[],[Any]⟩:=by
 intro b gv
 have hfs:=af.nil
 generalize hF:Vs.U=F at hfs ⊢
 generalize hA:Ar.U=A
 generalize hL:Lp _ _ _=L
 obtain⟨Z,zq⟩:=aH
 refine aA (aa hL) zq rfl ?_
 repeat' (first|(refine ay zq ?_;try dsimp only)|refine ax zq ?_ (aa hL)|refine az zq ?_|refine aw ?_|refine aq ?_|refine au ?_|refine ar ?_|refine al rfl ?_|refine ai rfl ?_|refine aj rfl ?_|(refine Cd.mk ?_;cbv)|(refine aF.mk ?_;cbv)|(refine aK.mk ?_;cbv)|exact trivial|refine And.intro ?_ ?_|refine aZ fun _=>?_|refine ba fun _=>?_)
 all_goals
  clear hL zq Z
  try clear hfs
  subst hA hF
  simp only [Ar.U] at *
  try (first|(simp [ah];done)|grind [ah])
theorem AV:aC Tryz.prog 240 (yS Vs.U):=by
 refine aD af.nil Tryz.func240 rfl rfl fun xs h p hp=>?_
 unfold yS at hp
 split at hp
 ·cases hp
  exact⟨av rfl,fun _ _=>QQ _⟩
 ·cases hp
def yE (F:Vs):aW:=fun xs h=>match xs,h with
 |[.one (.val (.int .i64 a)),.one (.val (.int .i64 d))],[]=>some ⟨True,.sa (I (F.NB a d)),[],[Any,Any]⟩
 |_,_=>none
theorem Qj (a:Int) (d:Int):aR [(80,AR Vs.U)] Tryz.f43 [.one (.val (.int .i64 a)),.one (.val (.int .i64 d))] [] ⟨True,.sa (I (Vs.U.NB a d)),[],[Any,Any]⟩:=by
 intro b gv
 have hfs:=(af.cons tY af.nil rfl)
 generalize hF:Vs.U=F at hfs ⊢
 generalize hA:Ar.U=A
 generalize hL:Lp _ _ _=L
 obtain⟨Z,zq⟩:=aH
 refine aA (aa hL) zq rfl ?_
 repeat' (first|(refine ay zq ?_;try dsimp only)|refine ax zq ?_ (aa hL)|refine az zq ?_|refine aw ?_|refine aq ?_|refine au ?_|refine ar ?_|refine al rfl ?_|refine ai rfl ?_|refine aj rfl ?_|(refine Cd.mk ?_;cbv)|(refine aF.mk ?_;cbv)|(refine aK.mk ?_;cbv)|exact trivial|refine And.intro ?_ ?_|refine aZ fun _=>?_|refine ba fun _=>?_)
 all_goals
  clear hL zq Z
  try clear hfs
  subst hA hF
  simp only [Vs.U,Ar.U] at *
  try (grind [ah,lA])
theorem AI:aC Tryz.prog 43 (yE Vs.U):=by
 refine aD (af.cons tY af.nil rfl) Tryz.func43 rfl rfl fun xs h p hp=>?_
 unfold yE at hp
 split at hp
 ·cases hp
  exact⟨av rfl,fun _ _=>Qj _ _⟩
 ·cases hp
def xW (F:Vs):aW:=fun xs h=>match xs,h with
 |[.one (.val (.int .i64 a)),.one (.val (.int .i64 d))],[]=>some ⟨True,.sa (B (F.Tx a d)),[],[Any,Any]⟩
 |_,_=>none
theorem Rq (a:Int) (d:Int):aR [(80,AR Vs.U)] Tryz.f239 [.one (.val (.int .i64 a)),.one (.val (.int .i64 d))] [] ⟨True,.sa (B (Vs.U.Tx a d)),[],[Any,Any]⟩:=by
 intro b gv
 have hfs:=(af.cons tY af.nil rfl)
 generalize hF:Vs.U=F at hfs ⊢
 generalize hA:Ar.U=A
 generalize hL:Lp _ _ _=L
 obtain⟨Z,zq⟩:=aH
 refine aA (aa hL) zq rfl ?_
 repeat' (first|(refine ay zq ?_;try dsimp only)|refine ax zq ?_ (aa hL)|refine az zq ?_|refine aw ?_|refine aq ?_|refine au ?_|refine ar ?_|refine al rfl ?_|refine ai rfl ?_|refine aj rfl ?_|(refine Cd.mk ?_;cbv)|(refine aF.mk ?_;cbv)|(refine aK.mk ?_;cbv)|exact trivial|refine And.intro ?_ ?_|refine aZ fun _=>?_|refine ba fun _=>?_)
 all_goals
  clear hL zq Z
  try clear hfs
  subst hA hF
  simp only [Vs.U,Ar.U] at *
  try (grind [ah])
theorem Bv:aC Tryz.prog 239 (xW Vs.U):=by
 refine aD (af.cons tY af.nil rfl) Tryz.func239 rfl rfl fun xs h p hp=>?_
 unfold xW at hp
 split at hp
 ·cases hp
  exact⟨av rfl,fun _ _=>Rq _ _⟩
 ·cases hp
def GD (F:Vs):aW:=fun xs h=>match xs,h with
 |[.one (.sl none (.ints .i64 l))],[]=>some ⟨F.kH l=true,.sa (I (F.SE l)),[],[Any]⟩
 |_,_=>none
theorem Ty (l:List Int) (hC:Vs.U.kH l=true):aR [] Tryz.f198 [.one (.sl none (.ints .i64 l))] [] ⟨Vs.U.kH l=true,.sa (I (Vs.U.SE l)),[],[Any]⟩:=by
 intro b gv
 have hk:l.length≤1000000:=of_decide_eq_true (show decide (l.length≤1000000)=true from hC)
 generalize hF:Vs.U=F at hC ⊢
 generalize hA:Ar.U=A
 generalize hL:Lp _ _ _=L
 obtain⟨Z,zq⟩:=aH
 refine aA (aa hL) zq rfl ?_
 repeat' (first|(refine ay zq ?_;try dsimp only)|refine ax zq ?_ (aa hL)|refine az zq ?_|refine aw ?_|refine aq ?_|refine au ?_|refine ar ?_|refine al rfl ?_|refine ai rfl ?_|refine aj rfl ?_|(refine Cd.mk ?_;cbv)|(refine aF.mk ?_;cbv)|(refine aK.mk ?_;cbv)|exact trivial|refine And.intro ?_ ?_|refine aZ fun _=>?_|refine ba fun _=>?_)
 subst hL
 refine bj (bo af.nil) (VG l) (orI A l) (orM l) orR ⟨0⟩ ?_ ?_ ?_
 ·exact⟨Int.le_refl 0,Int.natCast_nonneg _,rfl⟩
 ·cbv
  repeat' (first|exact trivial|exact rfl|refine And.intro ?_ ?_)
 rintro⟨i⟩ hq O hO
 have hst:=fun h=>Kj l i hq h hk
 have hen:=OO l i hq
 have q0:=hq.1
 have q1:=hq.2.1
 dsimp only at q0 q1
 subst hA
 generalize hA:Ar.U=A
 generalize hL:Lp _ _ _=L
 refine aT zq ?_
 repeat' (first|(refine ay zq ?_;try dsimp only)|refine ax zq ?_ (aa hL)|refine az zq ?_|refine aw ?_|refine aq ?_|refine au ?_|refine ar ?_|refine al rfl ?_|refine ai rfl ?_|refine aj rfl ?_|(refine Cd.mk ?_;cbv)|(refine aF.mk ?_;cbv)|(refine aK.mk ?_;cbv)|exact trivial|refine And.intro ?_ ?_|refine aZ fun _=>?_|refine ba fun _=>?_)
 all_goals (clear hL zq Z hq;subst hA hF hO;simp only [Vs.U,Ar.U] at * <;> grind [ah,orM])
theorem FR:aC Tryz.prog 198 (GD Vs.U):=by
 refine aD af.nil Tryz.func198 rfl rfl fun xs h p hp=>?_
 unfold GD at hp
 split at hp
 ·cases hp
  exact⟨av rfl,fun hC _=>Ty _ hC⟩
 ·cases hp
def jx (F:Vs):aW:=fun xs h=>match xs,h with
 |[.one (.val (.int .i64 n))],[]=>some ⟨True,.sa (B (F.Gg n)),[],[Any]⟩
 |_,_=>none
theorem Ly (n:Int):aR [] Tryz.f108 [.one (.val (.int .i64 n))] [] ⟨True,.sa (B (Vs.U.Gg n)),[],[Any]⟩:=by
 intro b gv
 have hfs:=af.nil
 generalize hF:Vs.U=F at hfs ⊢
 generalize hA:Ar.U=A
 generalize hL:Lp _ _ _=L
 obtain⟨Z,zq⟩:=aH
 refine aA (aa hL) zq rfl ?_
 repeat' (first|(refine ay zq ?_;try dsimp only)|refine ax zq ?_ (aa hL)|refine az zq ?_|refine aw ?_|refine aq ?_|refine au ?_|refine ar ?_|refine al rfl ?_|refine ai rfl ?_|refine aj rfl ?_|(refine Cd.mk ?_;cbv)|(refine aF.mk ?_;cbv)|(refine aK.mk ?_;cbv)|exact trivial|refine And.intro ?_ ?_|refine aZ fun _=>?_|refine ba fun _=>?_)
 all_goals
  clear hL zq Z
  try clear hfs
  subst hA hF
  simp only [Vs.U,Ar.U] at *
  try (grind [ah,dI])
theorem er:aC Tryz.prog 108 (jx Vs.U):=by
 refine aD af.nil Tryz.func108 rfl rfl fun xs h p hp=>?_
 unfold jx at hp
 split at hp
 ·cases hp
  exact⟨av rfl,fun _ _=>Ly _⟩
 ·cases hp
def sW (F:Vs):aW:=fun xs h=>match xs,h with
 |[.one (.sl none (.ints .i64 l)),.one (.val (.int .i64 t))],[]=>some ⟨F.kH l=true,.bB [I (F.NZ l t),B (F.Ay l t)],[],[Any,Any]⟩
 |_,_=>none
theorem Qp (l:List Int) (t:Int) (hC:Vs.U.kH l=true):aR [(239,xW Vs.U),(240,yS Vs.U)] Tryz.f223 [.one (.sl none (.ints .i64 l)),.one (.val (.int .i64 t))] [] ⟨Vs.U.kH l=true,.bB [I (Vs.U.NZ l t),B (Vs.U.Ay l t)],[],[Any,Any]⟩:=by
 intro b gv
 have hk:l.length≤1000000:=of_decide_eq_true (show decide (l.length≤1000000)=true from hC)
 have hfs:=(af.cons Bv (af.cons AV af.nil rfl) rfl)
 generalize hF:Vs.U=F at hC hfs ⊢
 generalize hA:Ar.U=A
 generalize hL:Lp _ _ _=L
 obtain⟨Z,zq⟩:=aH
 refine aA (aa hL) zq rfl ?_
 repeat' (first|(refine ay zq ?_;try dsimp only)|refine ax zq ?_ (aa hL)|refine az zq ?_|refine aw ?_|refine aq ?_|refine au ?_|refine ar ?_|refine al rfl ?_|refine ai rfl ?_|refine aj rfl ?_|(refine Cd.mk ?_;cbv)|(refine aF.mk ?_;cbv)|(refine aK.mk ?_;cbv)|exact trivial|refine And.intro ?_ ?_|refine aZ fun _=>?_|refine ba fun _=>?_)
 subst hL
 refine bj (bo hfs) (Qu (AO l t) l.length) (bsS A l t) (Jd) bsR ⟨0,A.gr l⟩ ?_ ?_ ?_
 ·exact (by subst hA;exact As _ _)
 ·cbv
  repeat' (first|exact trivial|exact rfl|refine And.intro ?_ ?_)
 rintro⟨i,j⟩ hq O hO
 have hst:=fun h=>An hk hq h
 have hen:=fun h=>Hi hq h
 have q0:=hq.1
 have q1:=hq.2.1
 have q2:=hq.2.2.1
 dsimp only at q0 q1 q2
 subst hA
 generalize hA:Ar.U=A
 generalize hL:Lp _ _ _=L
 refine aT zq ?_
 repeat' (first|(refine ay zq ?_;try dsimp only)|refine ax zq ?_ (aa hL)|refine az zq ?_|refine aw ?_|refine aq ?_|refine au ?_|refine ar ?_|refine al rfl ?_|refine ai rfl ?_|refine aj rfl ?_|(refine Cd.mk ?_;cbv)|(refine aF.mk ?_;cbv)|(refine aK.mk ?_;cbv)|exact trivial|refine And.intro ?_ ?_|refine aZ fun _=>?_|refine ba fun _=>?_)
 all_goals (clear hL hfs zq Z hq;subst hA hF hO;simp only [Vs.U,Ar.U] at * <;> grind [ah,Jd,AO,Eb,JI])
theorem Aq:aC Tryz.prog 223 (sW Vs.U):=by
 refine aD (af.cons Bv (af.cons AV af.nil rfl) rfl) Tryz.func223 rfl rfl fun xs h p hp=>?_
 unfold sW at hp
 split at hp
 ·cases hp
  exact⟨av rfl,fun hC _=>Qp _ _ hC⟩
 ·cases hp
def nG (F:Vs):aW:=fun xs h=>match xs,h with
 |[.agg [.sl none (.ints .i64 v_n),.sl none (.ae (.int .i64 (.int .i64 (.int .i64 (.int .i64 (.bool .nil))))) _)],.one (.val (.int .i64 t))],[]=>some ⟨F.kH v_n=true,.sa (B (F.Ay v_n t)),[],[Any,Any]⟩
 |_,_=>none
theorem Tw (v_n:List Int) (v_l:List E) (t:Int) (hC:Vs.U.kH v_n=true):aR [(223,sW Vs.U)] Tryz.f208 [.agg [.sl none (.ints .i64 v_n),.sl none (.ae (.int .i64 (.int .i64 (.int .i64 (.int .i64 (.bool .nil))))) v_l)],.one (.val (.int .i64 t))] [] ⟨Vs.U.kH v_n=true,.sa (B (Vs.U.Ay v_n t)),[],[Any,Any]⟩:=by
 intro b gv
 have hfs:=(af.cons Aq af.nil rfl)
 generalize hF:Vs.U=F at hC hfs ⊢
 generalize hA:Ar.U=A
 generalize hL:Lp _ _ _=L
 obtain⟨Z,zq⟩:=aH
 refine aA (aa hL) zq rfl ?_
 repeat' (first|(refine ay zq ?_;try dsimp only)|refine ax zq ?_ (aa hL)|refine az zq ?_|refine aw ?_|refine aq ?_|refine au ?_|refine ar ?_|refine al rfl ?_|refine ai rfl ?_|refine aj rfl ?_|(refine Cd.mk ?_;cbv)|(refine aF.mk ?_;cbv)|(refine aK.mk ?_;cbv)|exact trivial|refine And.intro ?_ ?_|refine aZ fun _=>?_|refine ba fun _=>?_)
 all_goals
  clear hL zq Z
  try clear hfs
  subst hA hF
  simp only [Vs.U] at *
  try (grind [ah])
theorem eS:aC Tryz.prog 208 (nG Vs.U):=by
 refine aD (af.cons Aq af.nil rfl) Tryz.func208 rfl rfl fun xs h p hp=>?_
 unfold nG at hp
 split at hp
 ·cases hp
  exact⟨av rfl,fun hC _=>Tw _ _ _ hC⟩
 ·cases hp
def uq (F:Vs):aW:=fun xs h=>match xs,h with
 |[.agg [.val (.int .i64 k_n),.val (.int .i64 qG),.val (.int .i64 k_w),.val (.int .i64 k_s),.val (.bool _)]],[]=>some ⟨True,.sa (B (F.QT k_n qG k_w k_s)),[],[Any]⟩
 |_,_=>none
theorem Ko (k_n:Int) (qG:Int) (k_w:Int) (k_s:Int) (k_m:Bool):aR [(108,jx Vs.U)] Tryz.f207 [.agg [.val (.int .i64 k_n),.val (.int .i64 qG),.val (.int .i64 k_w),.val (.int .i64 k_s),.val (.bool k_m)]] [] ⟨True,.sa (B (Vs.U.QT k_n qG k_w k_s)),[],[Any]⟩:=by
 intro b gv
 have hfs:=(af.cons er af.nil rfl)
 generalize hF:Vs.U=F at hfs ⊢
 generalize hA:Ar.U=A
 generalize hL:Lp _ _ _=L
 obtain⟨Z,zq⟩:=aH
 refine aA (aa hL) zq rfl ?_
 repeat' (first|(refine ay zq ?_;try dsimp only)|refine ax zq ?_ (aa hL)|refine az zq ?_|refine aw ?_|refine aq ?_|refine au ?_|refine ar ?_|refine al rfl ?_|refine ai rfl ?_|refine aj rfl ?_|(refine Cd.mk ?_;cbv)|(refine aF.mk ?_;cbv)|(refine aK.mk ?_;cbv)|exact trivial|refine And.intro ?_ ?_|refine aZ fun _=>?_|refine ba fun _=>?_)
 all_goals
  clear hL zq Z
  try clear hfs
  subst hA hF
  simp only [Vs.U,Ar.U] at *
  try (grind [ah,Xw])
theorem vU:aC Tryz.prog 207 (uq Vs.U):=by
 refine aD (af.cons er af.nil rfl) Tryz.func207 rfl rfl fun xs h p hp=>?_
 unfold uq at hp
 split at hp
 ·cases hp
  exact⟨av rfl,fun _ _=>Ko _ _ _ _ _⟩
 ·cases hp
def tN (F:Vs):aW:=fun xs h=>match xs,h with
 |[.agg [.val (.int .i64 a_n),.val (.int .i64 a_p),.val (.int .i64 _),.val (.int .i64 _),.val (.bool _)],.agg [.val (.int .i64 d_n),.val (.int .i64 d_p),.val (.int .i64 _),.val (.int .i64 _),.val (.bool _)]],[]=>some ⟨True,.sa (I (F.Oe a_n a_p d_n d_p)),[],[Any,Any]⟩
 |_,_=>none
theorem OH (a_n:Int) (a_p:Int) (a_w:Int) (a_s:Int) (a_m:Bool) (d_n:Int) (d_p:Int) (d_w:Int) (d_s:Int) (d_m:Bool):aR [(43,yE Vs.U),(198,GD Vs.U)] Tryz.f209 [.agg [.val (.int .i64 a_n),.val (.int .i64 a_p),.val (.int .i64 a_w),.val (.int .i64 a_s),.val (.bool a_m)],.agg [.val (.int .i64 d_n),.val (.int .i64 d_p),.val (.int .i64 d_w),.val (.int .i64 d_s),.val (.bool d_m)]] [] ⟨True,.sa (I (Vs.U.Oe a_n a_p d_n d_p)),[],[Any,Any]⟩:=by
 intro b gv
 have h1:=QD a_n a_p d_n d_p
 have hfs:=(af.cons AI (af.cons FR af.nil rfl) rfl)
 generalize hF:Vs.U=F at hfs ⊢
 generalize hA:Ar.U=A
 generalize hL:Lp _ _ _=L
 obtain⟨Z,zq⟩:=aH
 refine aA (aa hL) zq rfl ?_
 repeat' (first|(refine ay zq ?_;try dsimp only)|refine ax zq ?_ (aa hL)|refine az zq ?_|refine aw ?_|refine aq ?_|refine au ?_|refine ar ?_|refine al rfl ?_|refine ai rfl ?_|refine aj rfl ?_|(refine Cd.mk ?_;cbv)|(refine aF.mk ?_;cbv)|(refine aK.mk ?_;cbv)|exact trivial|refine And.intro ?_ ?_|refine aZ fun _=>?_|refine ba fun _=>?_)
 all_goals
  clear hL zq Z
  try clear hfs
  subst hA hF
  simp only [Vs.U] at *
  try (grind [ah])
theorem oq:aC Tryz.prog 209 (tN Vs.U):=by
 refine aD (af.cons AI (af.cons FR af.nil rfl) rfl) Tryz.func209 rfl rfl fun xs h p hp=>?_
 unfold tN at hp
 split at hp
 ·cases hp
  exact⟨av rfl,fun _ _=>OH _ _ _ _ _ _ _ _ _ _⟩
 ·cases hp
end Go.Proofs.YtakebkfhigadiaaGreat.ViR
