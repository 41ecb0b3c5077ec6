
/-
  What joinings mI,and what sizes make up. No condition.
-/
import Derived.Test.YtakebkfhigadiaaGreatVnW15
import Derived.Test.YtakebkfhigadiaaGreatVnRyOp
set_option maxHeartbeats 2000000
set_option maxRecDepth 100000
namespace Go.Proofs.YtakebkfhigadiaaGreat.JoS
open Go Ry
abbrev ix (l:List Int) (i:Int):Int:=l.getD i.toNat 0
theorem iu (l:List Int) (i j v:Int) (hi:0≤i) (hj:0≤j) (hl:j < l.length):ix (l.set j.toNat v) i=if i=j then v else ix l i:=by
 unfold ix
 rw [List.getD_eq_getElem?_getD,List.getD_eq_getElem?_getD]
 by_cases h:i=j
 ·subst h
  rw [List.getElem?_set_self (by omega)]
  simp
 ·rw [List.getElem?_set_ne (by omega)]
  simp [h]
structure RQ (W:List Int):Prop where
 pos:1≤W.length
 lo:∀ i:Int,1≤i→i < W.length→1≤ix W i
 hi:∀ i:Int,1≤i→i < W.length→ix W i≤i
 fix:∀ i:Int,1≤i→i < W.length→ix W (ix W i)=ix W i
structure Up (u W:List Int):Prop where
 len:u.length=W.length
 lo:∀ i:Int,1≤i→i < W.length→1≤ix u i
 hi:∀ i:Int,1≤i→i < W.length→ix u i≤i
 w:∀ i:Int,1≤i→i < W.length→ix W (ix u i)=ix W i
 fix:∀ i:Int,1≤i→i < W.length→(ix u i=i↔ix W i=i)
theorem IE {u W:List Int} (h:Up u W) {a:Int} (h1:1≤a) (h2:a < W.length) (hne:ix u a≠a):1≤ix u (ix u a)∧ix u (ix u a) < a∧ix W (ix u (ix u a))=ix W a∧Up (u.set a.toNat (ix u (ix u a))) W:=by
 have l1:=h.lo a h1 h2
 have l2:=h.hi a h1 h2
 have l3:=h.lo (ix u a) l1 (by omega)
 have l4:=h.hi (ix u a) l1 (by omega)
 have l5:=(h.w (ix u a) l1 (by omega)).trans (h.w a h1 h2)
 refine⟨l3,by omega,l5,by rw [List.length_set];exact h.len,fun i i1 i2=>?_,fun i i1 i2=>?_,fun i i1 i2=>?_,fun i i1 i2=>?_⟩ <;>
  rw [iu _ _ _ _ (by omega) (by omega) (by rw [h.len];exact h2)] <;> split
 ·exact l3
 ·exact h.lo i i1 i2
 ·omega
 ·exact h.hi i i1 i2
 ·rename_i e
  rw [e]
  exact l5
 ·exact h.w i i1 i2
 ·rename_i e
  subst e
  have:¬ix W i=i:=fun q=>hne ((h.fix i h1 h2).2 q)
  constructor
  ·intro q;omega
  ·intro q;exact absurd q this
 ·exact h.fix i i1 i2
def vd:Nat→List Int→Int→List Int
 |0,u,_=>u
 |k+1,u,a=>if ix u a=a then u else vd k (u.set a.toNat (ix u (ix u a))) (ix u (ix u a))
theorem NT {W:List Int}:∀ (k:Nat) (u:List Int) (a:Int),Up u W→1≤a→a < W.length→Up (vd k u a) W
 |0,_,_,h,_,_=>h
 |k+1,u,a,h,h1,h2=>by
  unfold vd
  split
  ·exact h
  ·rename_i hne
   obtain⟨q1,q2,_,q4⟩:=IE h h1 h2 hne
   exact NT k _ _ q4 q1 (by omega)
def join (W:List Int) (lo hi:Int):List Int:=W.map fun x=>if x=hi then lo else x
theorem pD (W:List Int) (f:Int→Int) (i:Int) (h0:0≤i) (h:i < W.length):ix (W.map f) i=f (ix W i):=by
 unfold ix
 rw [List.getD_eq_getElem?_getD,List.getD_eq_getElem?_getD,List.getElem?_map,List.getElem?_eq_getElem (by omega)]
 rfl
theorem Kr {u W:List Int} (hu:Up u W) (hw:RQ W) {lo hi:Int} (h1:1≤lo) (h2:lo < hi) (h3:hi < W.length) (flo:ix W lo=lo) (fhi:ix W hi=hi):Up (u.set hi.toNat lo) (join W lo hi)∧RQ (join W lo hi):=by
 have hlen:(join W lo hi).length=W.length:=by unfold join;rw [List.length_map]
 have hix:∀ i:Int,0≤i→i < W.length→ix (join W lo hi) i=if ix W i=hi then lo else ix W i:=fun i h0 h=>pD W _ i h0 h
 have jlo:ix (join W lo hi) lo=lo:=by
  rw [hix lo (by omega) (by omega),flo]
  split <;> omega
 refine⟨⟨by rw [List.length_set,hlen];exact hu.len,fun i i1 i2=>?_,fun i i1 i2=>?_,fun i i1 i2=>?_,fun i i1 i2=>?_⟩,⟨by rw [hlen];exact hw.pos,fun i i1 i2=>?_,fun i i1 i2=>?_,fun i i1 i2=>?_⟩⟩
 ·rw [hlen] at i2
  rw [iu _ _ _ _ (by omega) (by omega) (by rw [hu.len];exact h3)]
  split
  ·exact h1
  ·exact hu.lo i i1 i2
 ·rw [hlen] at i2
  rw [iu _ _ _ _ (by omega) (by omega) (by rw [hu.len];exact h3)]
  split
  ·omega
  ·exact hu.hi i i1 i2
 ·rw [hlen] at i2
  rw [iu _ _ _ _ (by omega) (by omega) (by rw [hu.len];exact h3)]
  split
  ·rename_i e
   subst e
   rw [jlo,hix i (by omega) i2,fhi]
   simp
  ·have l1:=hu.lo i i1 i2
   have l2:=hu.hi i i1 i2
   rw [hix _ (by omega) (by omega),hix i (by omega) i2,hu.w i i1 i2]
 ·rw [hlen] at i2
  rw [iu _ _ _ _ (by omega) (by omega) (by rw [hu.len];exact h3),hix i (by omega) i2]
  have l1:=hw.hi i i1 i2
  split
  ·rename_i e
   subst e
   rw [fhi]
   simp
  ·rename_i e
   have f:=hu.fix i i1 i2
   split
   ·rename_i e2
    constructor
    ·intro q
     have:=f.1 q
     omega
    ·intro q
     omega
   ·exact f
 ·rw [hlen] at i2
  rw [hix i (by omega) i2]
  split
  ·exact h1
  ·exact hw.lo i i1 i2
 ·rw [hlen] at i2
  have:=hw.hi i i1 i2
  rw [hix i (by omega) i2]
  split
  ·omega
  ·exact this
 ·rw [hlen] at i2
  have l1:=hw.lo i i1 i2
  have l2:=hw.hi i i1 i2
  have l3:=hw.fix i i1 i2
  rw [hix i (by omega) i2]
  split
  ·exact jlo
  ·rename_i e
   rw [hix _ (by omega) (by omega),l3,if_neg e]
def xJ (W:List Int):Nat:=(List.range W.length).countP fun i:Nat=>decide (1≤(i:Int)∧ix W i=i)
def size (W:List Int) (r:Int):Nat:=(List.range W.length).countP fun i:Nat=>decide (1≤(i:Int)∧ix W i=r)
theorem lF {α:Type} (p q r:α→Bool) (l:List α) (h:∀ x∈l,p x=(q x || r x)) (h2:∀ x∈l,¬(q x=true∧r x=true)):l.countP p=l.countP q+l.countP r:=by
 induction l with
 |nil=>rfl
 |cons x l ih =>
  have ih:=ih (fun y hy=>h y (List.mem_cons_of_mem _ hy)) (fun y hy=>h2 y (List.mem_cons_of_mem _ hy))
  have e:=h x (List.mem_cons_self ..)
  have e2:=h2 x (List.mem_cons_self ..)
  rw [List.countP_cons,List.countP_cons,List.countP_cons,ih,e]
  cases hq:q x <;> cases hr:r x <;> simp_all <;> omega
theorem Dh {W:List Int} {lo hi:Int} (h1:1≤lo) (h2:lo < hi) (r:Int):size (join W lo hi) r=if r=lo then size W lo+size W hi else if r=hi then 0 else size W r:=by
 have hlen:(join W lo hi).length=W.length:=by unfold join;rw [List.length_map]
 have hix:∀ i:Nat,i < W.length→ix (join W lo hi) i=if ix W i=hi then lo else ix W i:=fun i h=>pD W _ i (by omega) (by omega)
 unfold size
 rw [hlen]
 split
 ·rename_i e
  subst e
  refine lF _ _ _ _ (fun i hi'=>?_) (fun i hi'=>?_)
  ·rw [hix i (List.mem_range.1 hi'),Bool.eq_iff_iff]
   simp only [decide_eq_true_eq,Bool.or_eq_true]
   split <;> omega
  ·simp only [decide_eq_true_eq]
   omega
 ·rename_i e
  split
  ·rename_i e2
   subst e2
   rw [List.countP_eq_zero]
   intro i hi'
   rw [hix i (List.mem_range.1 hi')]
   simp only [decide_eq_true_eq]
   split <;> omega
  ·rename_i e2
   apply List.countP_congr
   intro i hi'
   rw [hix i (List.mem_range.1 hi')]
   simp only [decide_eq_true_eq]
   split <;> omega
theorem CR {W:List Int} (hw:RQ W) {lo hi:Int} (h1:1≤lo) (h2:lo < hi) (h3:hi < W.length) (fhi:ix W hi=hi):xJ (join W lo hi)+1=xJ W:=by
 have hlen:(join W lo hi).length=W.length:=by unfold join;rw [List.length_map]
 have hix:∀ i:Nat,i < W.length→ix (join W lo hi) i=if ix W i=hi then lo else ix W i:=fun i h=>pD W _ i (by omega) (by omega)
 unfold xJ
 rw [hlen]
 have one:(List.range W.length).countP (fun i:Nat=>decide ((i:Int)=hi))=1:=by
  have e:(List.range W.length).countP (fun i:Nat=>decide ((i:Int)=hi))=(List.range W.length).count hi.toNat:=by
   unfold List.count
   apply List.countP_congr
   intro i _
   simp only [decide_eq_true_eq,beq_iff_eq]
   omega
  rw [e,List.count_range]
  have:hi.toNat < W.length:=by omega
  simp [this]
 rw [← one]
 refine (lF _ _ _ _ (fun i hi'=>?_) (fun i hi'=>?_)).symm
 ·rw [hix i (List.mem_range.1 hi'),Bool.eq_iff_iff]
  simp only [decide_eq_true_eq,Bool.or_eq_true]
  have hb:1≤(i:Int)→ix W i≤i:=fun q=>hw.hi i q (by have:=List.mem_range.1 hi';omega)
  by_cases hz:(i:Int)=hi
  ·rw [hz,fhi]
   simp
   omega
  ·split <;> omega
 ·rw [hix i (List.mem_range.1 hi')]
  simp only [decide_eq_true_eq]
  rintro⟨q1,q2⟩
  rw [q2,fhi] at q1
  simp at q1
  omega
end Go.Proofs.YtakebkfhigadiaaGreat.JoS
namespace Go.Proofs.YtakebkfhigadiaaGreat.JoR
open Go Ry JoS
def Va (u:List Int):Prop:=∀ i:Int,1≤i→i < u.length→1≤ix u i∧ix u i≤i
def IT (u:List Int):Bool:=decide (1≤u.length∧u.length≤5000) && (List.range u.length).all fun i:Nat=>decide (i=0) || decide (1≤ix u i∧ix u i≤i)
theorem nW {u:List Int}:IT u=true↔(1≤u.length∧u.length≤5000)∧Va u:=by
 unfold IT Va
 simp only [Bool.and_eq_true,decide_eq_true_eq,List.all_eq_true,Bool.or_eq_true,List.mem_range]
 refine and_congr_right fun _=>⟨fun h i h1 h2=>?_,fun h i hi=>?_⟩
 ·have:=h i.toNat (by omega)
  have e:((i.toNat:Nat):Int)=i:=by omega
  rw [e] at this
  omega
 ·by_cases h0:i=0
  ·exact .inl h0
  ·exact .inr (h i (by omega) (by omega))
theorem sG {u:List Int} (h:Va u) {a:Int} (h1:1≤a) (h2:a < u.length) (hne:ix u a≠a):1≤ix u (ix u a)∧ix u (ix u a) < a∧Va (u.set a.toNat (ix u (ix u a))):=by
 obtain⟨l1,l2⟩:=h a h1 h2
 obtain⟨l3,l4⟩:=h (ix u a) l1 (by omega)
 refine⟨l3,by omega,fun i i1 i2=>?_⟩
 rw [List.length_set] at i2
 rw [iu _ _ _ _ (by omega) (by omega) h2]
 split
 ·omega
 ·exact h i i1 i2
def xr:Nat→List Int→Int→Int
 |0,_,a=>a
 |k+1,u,a=>if ix u a=a then a else xr k (u.set a.toNat (ix u (ix u a))) (ix u (ix u a))
theorem BI:∀ (k j:Nat) (u:List Int) (a:Int),Va u→1≤a→a < u.length→a≤k→a≤j→vd k u a=vd j u a∧xr k u a=xr j u a
 |0,_,_,_,_,h1,_,h3,_=>by omega
 |_,0,_,_,_,h1,_,_,h4=>by omega
 |k+1,j+1,u,a,h,h1,h2,h3,h4=>by
  unfold vd xr
  split
  ·exact⟨rfl,rfl⟩
  ·rename_i hne
   obtain⟨q1,q2,q4⟩:=sG h h1 h2 hne
   exact BI k j _ _ q4 q1 (by rw [List.length_set];omega) (by omega) (by omega)
theorem Na:∀ (k:Nat) (u:List Int) (a:Int),Va u→1≤a→a < u.length→Va (vd k u a)∧(vd k u a).length=u.length
 |0,_,_,h,_,_=>⟨h,rfl⟩
 |k+1,u,a,h,h1,h2=>by
  unfold vd
  split
  ·exact⟨h,rfl⟩
  ·rename_i hne
   obtain⟨q1,q2,q4⟩:=sG h h1 h2 hne
   have:=Na k _ _ q4 q1 (by rw [List.length_set];omega)
   rw [List.length_set] at this
   exact this
theorem Nr:∀ (k:Nat) (u:List Int) (a:Int),Va u→1≤a→a < u.length→1≤xr k u a∧xr k u a≤a
 |0,_,_,_,h1,_=>⟨h1,Int.le_refl _⟩
 |k+1,u,a,h,h1,h2=>by
  unfold xr
  split
  ·exact⟨h1,Int.le_refl _⟩
  ·rename_i hne
   obtain⟨q1,q2,q4⟩:=sG h h1 h2 hne
   have:=Nr k _ _ q4 q1 (by rw [List.length_set];omega)
   omega
def hasB (u:List Int) (a:Int):Bool:=decide (1≤a∧a < u.length)
def iO (u:List Int) (a:Int):Int:=if hasB u a=true then xr a.toNat u a else 0
def jO (u:List Int) (a:Int):List Int:=if hasB u a=true then vd a.toNat u a else u
theorem Is {u:List Int} (a:Int) (h:IT u=true):IT (jO u a)=true∧(jO u a).length=u.length∧0≤iO u a∧iO u a < u.length:=by
 obtain⟨h1,h2⟩:=nW.1 h
 unfold jO iO
 split
 ·rename_i hb
  have hb:=of_decide_eq_true hb
  obtain⟨k1,k2⟩:=Na a.toNat u a h2 hb.1 hb.2
  have:=Nr a.toNat u a h2 hb.1 hb.2
  exact⟨nW.2 ⟨by omega,k1⟩,k2,by omega,by omega⟩
 ·exact⟨h,rfl,by omega,by omega⟩
def IW (u:List Int) (a _b:Int):Int:=iO u a
def IY (u:List Int) (a b:Int):Int:=iO (jO u a) b
def WZ (u:List Int) (a b:Int):List Int:=jO (jO u a) b
def xF (u:List Int) (a b:Int):Bool:=decide (IW u a b≠0∧IY u a b≠0∧IW u a b≠IY u a b)
def yC (u:List Int) (a b:Int):Int:=if IY u a b < IW u a b then IY u a b else IW u a b
def Ca (u:List Int) (a b:Int):Int:=if IW u a b < IY u a b then IY u a b else IW u a b
def IV (u:List Int) (a b:Int):List Int:=if xF u a b=true then (WZ u a b).set (Ca u a b).toNat (yC u a b) else WZ u a b
def Ha (u z:List Int) (a b:Int):List Int:=if xF u a b=true then z.set (yC u a b).toNat (aB .add .i64 (ix z (yC u a b)) (ix z (Ca u a b))) else z
def Fk (u:List Int) (s:Int) (a b:Int):Int:=if xF u a b=true then aB .sub .i64 s 1 else s
def Jx (u z:List Int):Bool:=IT u && decide (z.length=u.length)
def szI (u z:List Int) (a:Int):Int:=if iO u a=0 then 0 else ix z (iO u a)
structure XL where
 u:List Int
 a:Int
def Wg (u0:List Int) (a0:Int) (y:XL):Prop:=Va y.u∧y.u.length=u0.length∧1≤y.a∧y.a < u0.length∧vd y.a.toNat y.u y.a=vd a0.toNat u0 a0∧xr y.a.toNat y.u y.a=xr a0.toNat u0 a0
theorem NP (k:Nat) (u:List Int) (a:Int):vd (k+1) u a=if ix u a=a then u else vd k (u.set a.toNat (ix u (ix u a))) (ix u (ix u a)):=rfl
theorem GK (k:Nat) (u:List Int) (a:Int):xr (k+1) u a=if ix u a=a then a else xr k (u.set a.toNat (ix u (ix u a))) (ix u (ix u a)):=rfl
def NA (y:XL):Nat:=y.a.toNat
theorem le_step {u0:List Int} {a0:Int} {u:List Int} {a:Int} (h:Wg u0 a0 ⟨u,a⟩):(¬ix u a=a→Wg u0 a0 ⟨u.set a.toNat (ix u (ix u a)),ix u (ix u a)⟩∧ix u (ix u a) < a∧ix (u.set a.toNat (ix u (ix u a))) a=ix u (ix u a))∧(ix u a=a→u=vd a0.toNat u0 a0∧a=xr a0.toNat u0 a0)∧0≤ix u a∧ix u a < u.length∧0≤ix u (ix u a)∧ix u (ix u a) < u.length:=by
 obtain⟨h1,h2,h3,h4,h5,h6⟩:=h
 simp only at h1 h2 h3 h4 h5 h6
 have l1:=h1 a h3 (by omega)
 have l2:=h1 (ix u a) l1.1 (by omega)
 refine⟨fun hne=>?_,fun he=>?_,by omega,by omega,by omega,by omega⟩
 ·obtain⟨q1,q2,q4⟩:=sG h1 h3 (by omega) hne
  have e:a.toNat=(a.toNat - 1)+1:=by omega
  have f5:vd a.toNat u a=vd (a.toNat - 1) (u.set a.toNat (ix u (ix u a))) (ix u (ix u a)):=by
   have h:=NP (a.toNat - 1) u a
   rw [← e,if_neg hne] at h
   exact h
  have f6:xr a.toNat u a=xr (a.toNat - 1) (u.set a.toNat (ix u (ix u a))) (ix u (ix u a)):=by
   have h:=GK (a.toNat - 1) u a
   rw [← e,if_neg hne] at h
   exact h
  have g:=BI (ix u (ix u a)).toNat (a.toNat - 1) (u.set a.toNat (ix u (ix u a))) (ix u (ix u a)) q4 q1 (by rw [List.length_set];omega) (by omega) (by omega)
  refine⟨⟨q4,by simp only [List.length_set];exact h2,q1,by simp only;omega,?_,?_⟩,q2,?_⟩
  ·exact (g.1.trans f5.symm).trans h5
  ·exact (g.2.trans f6.symm).trans h6
  ·rw [iu _ _ _ _ (by omega) (by omega) (by omega)]
   simp
 ·have e:a.toNat=(a.toNat - 1)+1:=by omega
  have g5:=NP (a.toNat - 1) u a
  have g6:=GK (a.toNat - 1) u a
  rw [← e,if_pos he] at g5 g6
  exact⟨g5.symm.trans h5,g6.symm.trans h6⟩
noncomputable def leI (s:Int) (z:List Int) (y:XL):St:=bW Tryz.f284.ntmps [(0,.ptr 1 0),(1,.val (.int .i64 y.a))] [(1,.cells 371 [.own 2,.own 3,.val (.int .i64 s)]),(2,.row 3 (.ints .i64 y.u)),(3,.row 3 (.ints .i64 z))] [.one (.ptr 1 0),Any]
def ZY (st:St):XL:=⟨xj st.heap (nm st 0 0),bA st 1⟩
structure Fs where
 PQ:List Int→Bool
 HN:List Int→List Int→Bool
 Zu:List Int→Int→Int
 Za:List Int→Int→List Int
 Yt:List Int→Int→Int→Bool
 Um:List Int→Int→Int→List Int
 UL:List Int→List Int→Int→Int→List Int
 TC:List Int→Int→Int→Int→Int
 aaD:List Int→List Int→Int→Int
def Fs.U:Fs:=⟨IT,Jx,iO,jO,xF,IV,Ha,Fk,szI⟩
def uX (F:Fs):aW:=fun xs h=>match xs,h with
 |[.one (.ptr 0 0),.one (.val (.int .i64 a))],[(0,.cells 371 [.own 1,.own 2,.val (.int .i64 s)]),(1,.row 3 (.ints .i64 u)),(2,.row 3 (.ints .i64 z))]=>some ⟨F.PQ u=true,.sa (I (F.Zu u a)),[(0,.cells 371 [.own 1,.own 2,.val (.int .i64 s)]),(1,.row 3 (.ints .i64 (F.Za u a))),(2,.row 3 (.ints .i64 z))],[.one (.ptr 0 0),Any]⟩
 |_,_=>none
theorem Lw (a:Int) (s:Int) (u:List Int) (z:List Int) (hC:Fs.U.PQ u=true):aR [] Tryz.f284 [.one (.ptr 0 0),.one (.val (.int .i64 a))] [(0,.cells 371 [.own 1,.own 2,.val (.int .i64 s)]),(1,.row 3 (.ints .i64 u)),(2,.row 3 (.ints .i64 z))] ⟨Fs.U.PQ u=true,.sa (I (Fs.U.Zu u a)),[(0,.cells 371 [.own 1,.own 2,.val (.int .i64 s)]),(1,.row 3 (.ints .i64 (Fs.U.Za u a))),(2,.row 3 (.ints .i64 z))],[.one (.ptr 0 0),Any]⟩:=by
 intro b gv
 have hk:=nW.1 (show IT u=true from hC)
 have hfs:=af.nil
 generalize hF:Fs.U=F at hC hfs ⊢
 generalize hA:Ar.U=A
 generalize hL:Lp _ _ _=L
 obtain⟨Z,zq⟩:=aH
 refine aA (aa hL) zq rfl ?_
 repeat' (first|(refine ay zq ?_;try dsimp only)|refine ax zq ?_ (aa hL)|refine az zq ?_|refine aw ?_|refine aq ?_|refine au ?_|refine ar ?_|refine al rfl ?_|refine ai rfl ?_|refine aj rfl ?_|(refine Cd.mk ?_;cbv)|(refine aF.mk ?_;cbv)|(refine aK.mk ?_;cbv)|exact trivial|refine And.intro ?_ ?_|refine aZ fun _=>?_|refine ba fun _=>?_)
 all_goals first|(show L _ _ _;skip)|(clear hfs hL zq Z;subst hF hA;simp only [Fs.U,Ar.U] at * <;> grind [ah,iO,jO,hasB])
 rename_i hx
 have hb:1≤a∧a < u.length:=by
  clear hfs hL zq Z
  subst hF hA
  simp only [Ar.U] at hx
  grind [ah]
 have hu:jO u a=vd a.toNat u a∧iO u a=xr a.toNat u a:=by
  have:hasB u a=true:=decide_eq_true hb
  unfold jO iO
  rw [if_pos this,if_pos this]
  exact⟨rfl,rfl⟩
 subst hL
 refine bj (bo hfs) (Wg u a) (leI s z) NA ZY ⟨u,a⟩ ?_ ?_ ?_
 ·exact⟨hk.2,rfl,hb.1,hb.2,rfl,rfl⟩
 ·cbv
  repeat' (first|exact trivial|exact rfl|refine And.intro ?_ ?_)
 rintro⟨v,c⟩ hq O hO
 have hst:=le_step hq
 have hq2:=hq.2.1
 have hq3:=hq.2.2.1
 have hq4:=hq.2.2.2.1
 simp only at hq2 hq3 hq4
 subst hA
 generalize hA:Ar.U=A
 generalize hL:Lp _ _ _=L
 refine aT zq ?_
 repeat' (first|(refine ay zq ?_;try dsimp only)|refine ax zq ?_ (aa hL)|refine az zq ?_|refine aw ?_|refine aq ?_|refine au ?_|refine ar ?_|refine al rfl ?_|refine ai rfl ?_|refine aj rfl ?_|(refine Cd.mk ?_;cbv)|(refine aF.mk ?_;cbv)|(refine aK.mk ?_;cbv)|exact trivial|refine And.intro ?_ ?_|refine aZ fun _=>?_|refine ba fun _=>?_)
 all_goals (clear hL hfs zq Z;subst hA hF hO;simp only [Fs.U,Ar.U] at * <;> grind [ah,NA])
theorem xk:aC Tryz.prog 284 (uX Fs.U):=by
 refine aD af.nil Tryz.func284 rfl rfl fun xs h p hp=>?_
 unfold uX at hp
 split at hp
 ·cases hp
  exact⟨av rfl,fun hC _=>Lw _ _ _ _ hC⟩
 ·cases hp
def oe (F:Fs):aW:=fun xs h=>match xs,h with
 |[.one (.ptr 0 0),.one (.val (.int .i64 a)),.one (.val (.int .i64 d))],[(0,.cells 371 [.own 1,.own 2,.val (.int .i64 s)]),(1,.row 3 (.ints .i64 u)),(2,.row 3 (.ints .i64 z))]=>some ⟨F.HN u z=true,.sa (B (F.Yt u a d)),[(0,.cells 371 [.own 1,.own 2,.val (.int .i64 (F.TC u s a d))]),(1,.row 3 (.ints .i64 (F.Um u a d))),(2,.row 3 (.ints .i64 (F.UL u z a d)))],[.one (.ptr 0 0),Any,Any]⟩
 |_,_=>none
theorem Ke (a:Int) (d:Int) (s:Int) (u:List Int) (z:List Int) (hC:Fs.U.HN u z=true):aR [(284,uX Fs.U)] Tryz.f271 [.one (.ptr 0 0),.one (.val (.int .i64 a)),.one (.val (.int .i64 d))] [(0,.cells 371 [.own 1,.own 2,.val (.int .i64 s)]),(1,.row 3 (.ints .i64 u)),(2,.row 3 (.ints .i64 z))] ⟨Fs.U.HN u z=true,.sa (B (Fs.U.Yt u a d)),[(0,.cells 371 [.own 1,.own 2,.val (.int .i64 (Fs.U.TC u s a d))]),(1,.row 3 (.ints .i64 (Fs.U.Um u a d))),(2,.row 3 (.ints .i64 (Fs.U.UL u z a d)))],[.one (.ptr 0 0),Any,Any]⟩:=by
 intro b gv
 have hk:IT u=true∧z.length=u.length:=by
  have h:Jx u z=true:=hC
  simpa [Jx] using h
 have k1:=Is a hk.1
 have k2:=Is d k1.1
 have hfs:=(af.cons xk af.nil rfl)
 generalize hF:Fs.U=F at hC hfs ⊢
 generalize hA:Ar.U=A
 generalize hL:Lp _ _ _=L
 obtain⟨Z,zq⟩:=aH
 refine aA (aa hL) zq rfl ?_
 repeat' (first|(refine ay zq ?_;try dsimp only)|refine ax zq ?_ (aa hL)|refine az zq ?_|refine aw ?_|refine aq ?_|refine au ?_|refine ar ?_|refine al rfl ?_|refine ai rfl ?_|refine aj rfl ?_|(refine Cd.mk ?_;cbv)|(refine aF.mk ?_;cbv)|(refine aK.mk ?_;cbv)|exact trivial|refine And.intro ?_ ?_|refine aZ fun _=>?_|refine ba fun _=>?_)
 all_goals
  clear hL zq Z hfs
  subst hF hA
  simp only [Fs.U,Ar.U] at *
  try (grind [ah,xF,IW,IY,yC,Ca,IV,Ha,Fk,WZ])
theorem lr:aC Tryz.prog 271 (oe Fs.U):=by
 refine aD (af.cons xk af.nil rfl) Tryz.func271 rfl rfl fun xs h p hp=>?_
 unfold oe at hp
 split at hp
 ·cases hp
  exact⟨av rfl,fun hC _=>Ke _ _ _ _ _ hC⟩
 ·cases hp
end Go.Proofs.YtakebkfhigadiaaGreat.JoR
namespace Go.Proofs.YtakebkfhigadiaaGreat.JoW
open Go Ry JoS JoR
theorem Tf {u W:List Int} (h:Up u W):Va u:=fun i i1 i2=>⟨h.lo i i1 (by rw [← h.len];exact i2),h.hi i i1 (by rw [← h.len];exact i2)⟩
theorem Tj {u W:List Int} (h:Up u W) (hw:RQ W) (hl:W.length≤5000):IT u=true:=nW.2 ⟨⟨by rw [h.len];exact hw.pos,by rw [h.len];exact hl⟩,Tf h⟩
theorem TN {W:List Int}:∀ (k:Nat) (u:List Int) (a:Int),Up u W→1≤a→a < W.length→a≤k→xr k u a=ix W a
 |0,_,_,_,h1,_,h3=>by omega
 |k+1,u,a,h,h1,h2,h3=>by
  rw [GK]
  split
  ·rename_i e
   exact ((h.fix a h1 h2).1 e).symm
  ·rename_i hne
   obtain⟨q1,q2,q3,q4⟩:=IE h h1 h2 hne
   rw [TN k _ _ q4 q1 (by omega) (by omega),q3]
def lw (W:List Int) (a:Int):Int:=if 1≤a∧a < W.length then ix W a else 0
theorem NX {u W:List Int} (h:Up u W) (a:Int):iO u a=lw W a∧Up (jO u a) W:=by
 unfold iO jO lw JoR.hasB
 rw [h.len]
 by_cases hb:1≤a∧a < W.length
 ·rw [decide_eq_true hb,if_pos rfl,if_pos rfl,if_pos hb]
  exact⟨TN _ _ _ h hb.1 hb.2 (by omega),NT _ _ _ h hb.1 hb.2⟩
 ·rw [decide_eq_false hb,if_neg hb]
  exact⟨rfl,h⟩
structure Il (W:List Int) (s:Int) (u z:List Int):Prop where
 up:Up u W
 ok:RQ W
 zl:z.length=W.length
 s:s=xJ W
 z:∀ r:Int,1≤r→r < W.length→ix W r=r→ix z r=size W r
theorem KE (W:List Int):xJ W≤W.length:=by
 unfold xJ
 have:=List.countP_le_length (p:=fun i:Nat=>decide (1≤(i:Int)∧ix W i=i)) (l:=List.range W.length)
 simpa using this
theorem size_le (W:List Int) (r:Int):size W r≤W.length:=by
 unfold size
 have:=List.countP_le_length (p:=fun i:Nat=>decide (1≤(i:Int)∧ix W i=r)) (l:=List.range W.length)
 simpa using this
def CS (W:List Int) (a b:Int):List Int :=
 if lw W a≠0∧lw W b≠0∧lw W a≠lw W b then join W (if lw W b < lw W a then lw W b else lw W a) (if lw W a < lw W b then lw W b else lw W a) else W
theorem KG (W:List Int) (a b:Int):(CS W a b).length=W.length:=by
 unfold CS join
 split
 ·rw [List.length_map]
 ·rfl
theorem Bg {W:List Int} (hw:RQ W) {a:Int} (h:lw W a≠0):1≤lw W a∧lw W a < W.length∧ix W (lw W a)=lw W a:=by
 unfold lw at h ⊢
 split
 ·rename_i hb
  have:=hw.lo a hb.1 hb.2
  have:=hw.hi a hb.1 hb.2
  exact⟨by omega,by omega,hw.fix a hb.1 hb.2⟩
 ·rename_i hb
  rw [if_neg hb] at h
  exact absurd rfl h
theorem zf {W:List Int} {s:Int} {u z:List Int} (h:Il W s u z) (hl:W.length≤5000) (a b:Int) :
  Il (CS W a b) (Fk u s a b) (IV u a b) (Ha u z a b)∧(xF u a b=decide (lw W a≠0∧lw W b≠0∧lw W a≠lw W b))∧Fk u s a b=if xF u a b=true then s - 1 else s:=by
 obtain⟨h1,h2,h3,h4,h5⟩:=h
 obtain⟨k1,k2⟩:=NX h1 a
 obtain⟨k3,k4⟩:=NX k2 b
 have hs:=KE W
 have hB:xF u a b=decide (lw W a≠0∧lw W b≠0∧lw W a≠lw W b):=by unfold xF IW IY;rw [k1,k3]
 have hS:Fk u s a b=if xF u a b=true then s - 1 else s:=by
  unfold Fk
  split
  ·rw [ew,wr _ (by omega) (by omega)]
  ·rfl
 refine⟨?_,hB,hS⟩
 by_cases hc:lw W a≠0∧lw W b≠0∧lw W a≠lw W b
 ·rw [decide_eq_true hc] at hB
  obtain⟨a1,a2,a3⟩:=Bg h2 hc.1
  obtain⟨b1,b2,b3⟩:=Bg h2 hc.2.1
  have hlo:yC u a b=if lw W b < lw W a then lw W b else lw W a:=by unfold yC IW IY;rw [k1,k3]
  have hhi:Ca u a b=if lw W a < lw W b then lw W b else lw W a:=by unfold Ca IW IY;rw [k1,k3]
  have key:∀ lo hi:Int,yC u a b=lo→Ca u a b=hi→1≤lo→lo < hi→hi < W.length→ix W lo=lo→ix W hi=hi→Il (join W lo hi) (Fk u s a b) (IV u a b) (Ha u z a b):=by
   intro lo hi elo ehi l1 l2 l3 l4 l5
   obtain⟨j1,j2⟩:=Kr k4 h2 l1 l2 l3 l4 l5
   have hlen:(join W lo hi).length=W.length:=by unfold join;rw [List.length_map]
   have hst:=CR h2 l1 l2 l3 l5
   refine⟨?_,j2,?_,?_,fun r r1 r2 r3=>?_⟩
   ·unfold IV
    rw [if_pos hB,elo,ehi]
    exact j1
   ·unfold Ha
    rw [if_pos hB,List.length_set,hlen,h3]
   ·rw [hS,if_pos hB,h4]
    omega
   ·rw [hlen] at r2
    have zlo:=h5 lo l1 (by omega) l4
    have zhi:=h5 hi (by omega) l3 l5
    have s1:=size_le W lo
    have s2:=size_le W hi
    have hne:r≠hi:=by
     rintro rfl
     have e:ix (join W lo r) r=if ix W r=r then lo else ix W r:=pD W _ r (by omega) (by omega)
     rw [e,if_pos l5] at r3
     omega
    unfold Ha
    rw [if_pos hB,elo,ehi,Dh l1 l2,iu _ _ _ _ (by omega) (by omega) (by rw [h3];omega),zlo,zhi,aY,wr _ (by omega) (by omega)]
    by_cases hr:r=lo
    ·rw [if_pos hr,if_pos hr]
     omega
    ·rw [if_neg hr,if_neg hr,if_neg hne]
     have e:ix (join W lo hi) r=if ix W r=hi then lo else ix W r:=pD W _ r (by omega) (by omega)
     rw [e] at r3
     split at r3
     ·omega
     ·exact h5 r r1 r2 r3
  unfold CS
  rw [if_pos hc]
  by_cases hab:lw W a < lw W b
  ·have n:¬lw W b < lw W a:=by omega
   rw [if_neg n] at hlo ⊢
   rw [if_pos hab] at hhi ⊢
   exact key _ _ hlo hhi a1 hab b2 a3 b3
  ·have n:lw W b < lw W a:=by omega
   rw [if_pos n] at hlo ⊢
   rw [if_neg hab] at hhi ⊢
   exact key _ _ hlo hhi b1 n a2 b3 a3
 ·rw [decide_eq_false hc] at hB
  have hBf:¬xF u a b=true:=by rw [hB];decide
  unfold CS IV Ha
  rw [if_neg hc,if_neg hBf,if_neg hBf,hS,if_neg hBf]
  exact⟨k4,h2,h3,h4,h5⟩
theorem rW:∀ n:Nat,(List.range n).countP (fun j:Nat=>decide (1≤(j:Int)))=n - 1
 |0=>rfl
 |n+1=>by
  rw [List.range_succ,List.countP_append,rW n]
  simp only [List.countP_cons,List.countP_nil]
  by_cases h:1≤(n:Int)
  ·rw [decide_eq_true h]
   simp
   omega
  ·rw [decide_eq_false h]
   simp
   omega
def iota (n:Int):List Int:=(List.range (n+1).toNat).map fun j:Nat=>(j:Int)
def jL (n:Int):List Int:=List.replicate (n+1).toNat 1
theorem KJ (n i:Int) (h0:0≤i) (h:i≤n):ix (iota n) i=i:=by
 unfold ix iota
 rw [List.getD_eq_getElem?_getD,List.getElem?_map,List.getElem?_range (by omega)]
 simp
 omega
theorem Ie (n:Int):(iota n).length=(n+1).toNat:=by simp [iota]
theorem GZ (n:Int) (h:0≤n):Il (iota n) n (iota n) (jL n):=by
 have hl:=Ie n
 have hi:∀ i:Int,1≤i→i < (iota n).length→ix (iota n) i=i:=fun i h1 h2=>KJ n i (by omega) (by omega)
 refine⟨⟨rfl,fun i h1 h2=>by rw [hi i h1 h2];exact h1,fun i h1 h2=>by rw [hi i h1 h2];exact Int.le_refl _,fun i h1 h2=>by rw [hi i h1 h2,hi i h1 h2],fun i h1 h2=>Iff.rfl⟩,
  ⟨by omega,fun i h1 h2=>by rw [hi i h1 h2];exact h1,fun i h1 h2=>by rw [hi i h1 h2];exact Int.le_refl _,fun i h1 h2=>by rw [hi i h1 h2,hi i h1 h2]⟩,by simp [jL,hl],?_,fun r r1 r2 r3=>?_⟩
 ·unfold xJ
  have e:(List.range (iota n).length).countP (fun i:Nat=>decide (1≤(i:Int)∧ix (iota n) i=i))=(List.range (iota n).length).countP (fun j:Nat=>decide (1≤(j:Int))):=by
   apply List.countP_congr
   intro i hi'
   have:=List.mem_range.1 hi'
   simp only [decide_eq_true_eq]
   exact⟨fun q=>q.1,fun q=>⟨q,hi i q (by omega)⟩⟩
  rw [e,rW,hl]
  omega
 ·have e1:ix (jL n) r=1:=by
   unfold ix jL
   rw [List.getD_eq_getElem?_getD,List.getElem?_replicate,if_pos (by omega)]
   rfl
  rw [e1]
  unfold size
  have e:(List.range (iota n).length).countP (fun i:Nat=>decide (1≤(i:Int)∧ix (iota n) i=r))=(List.range (iota n).length).count r.toNat:=by
   unfold List.count
   apply List.countP_congr
   intro i hi'
   have:=List.mem_range.1 hi'
   simp only [decide_eq_true_eq,beq_iff_eq]
   constructor
   ·intro q
    rw [hi i q.1 (by omega)] at q
    omega
   ·intro q
    subst q
    have e2:((r.toNat:Nat):Int)=r:=by omega
    rw [e2]
    exact⟨r1,r3⟩
  rw [e,List.count_range]
  have:r.toNat < (iota n).length:=by omega
  simp [this]
end Go.Proofs.YtakebkfhigadiaaGreat.JoW
