/-
  The view of two: it may be,its links are those of both,and the order does not matter. No condition.
-/
import Derived.Test.YtelhldgdnlppfaaGreatVdMgR
import Derived.Test.YtelhldgdnlppfaaGreatVdW49
import Derived.Test.YtelhldgdnlppfaaGreatVdW49
namespace Go.Proofs.YtelhldgdnlppfaaGreat.MgT
open Go Ry ViR ViC ViS ViL ViT ViM MgR
theorem BL {α:Type} {R:α→α→Prop} (asym:∀ x y,R x y→R y x→False):∀ {p q:List α},p.Pairwise R→q.Pairwise R→(∀ x,x∈p↔x∈q)→p=q
 |[],[],_,_,_=>rfl
 |[],y :: q,_,_,h=>absurd ((h y).2 (List.mem_cons_self ..)) List.not_mem_nil
 |x :: p,[],_,_,h=>absurd ((h x).1 (List.mem_cons_self ..)) List.not_mem_nil
 |x :: p,y :: q,hp,hq,h=>by
  obtain⟨p1,p2⟩:=List.pairwise_cons.1 hp
  obtain⟨q1,q2⟩:=List.pairwise_cons.1 hq
  have e:x=y:=by
   rcases List.mem_cons.1 ((h x).1 (List.mem_cons_self ..)) with e|hx
   ·exact e
   ·rcases List.mem_cons.1 ((h y).2 (List.mem_cons_self ..)) with e|hy
    ·exact e.symm
    ·exact (asym _ _ (p1 y hy) (q1 x hx)).elim
  subst e
  congr 1
  refine BL asym p2 q2 fun z=>⟨fun hz=>?_,fun hz=>?_⟩
  ·rcases List.mem_cons.1 ((h z).1 (List.mem_cons_of_mem _ hz)) with e|hz'
   ·rw [e] at hz
    exact (asym _ _ (p1 x hz) (p1 x hz)).elim
   ·exact hz'
  ·rcases List.mem_cons.1 ((h z).2 (List.mem_cons_of_mem _ hz)) with e|hz'
   ·rw [e] at hz
    exact (asym _ _ (q1 x hz) (q1 x hz)).elim
   ·exact hz'
theorem PM (x y:Int) (h:x < y) (g:y < x):False:=by omega
theorem qI {t:Int}:cq t=true↔1≤t∧t≤64:=by unfold cq;rw [decide_eq_true_eq]
theorem yu {n:List Int} (h:dJ n=true):n.Pairwise (· < ·):=by
 rw [List.pairwise_iff_getElem]
 intro i j hi hj hij
 have:=qM h j i hij hj
 rw [eB n _ hi,eB n _ hj] at this
 exact this
theorem iq {n:List Int} (h:dJ n=true) {t:Int} (ht:t∈n):1≤t∧t≤64:=qI.1 (FP h t (List.contains_iff_mem.2 ht))
theorem ME {n:List Int} (h:n.Pairwise (· < ·)) (g:∀ t∈n,1≤t∧t≤64):dJ n=true:=by
 rw [tW]
 intro i hi
 rw [List.pairwise_iff_getElem] at h
 refine⟨?_,fun h0=>?_⟩
 ·rw [eB n _ hi]
  exact qI.2 (g _ (List.getElem_mem hi))
 ·rw [eB n _ hi,eB n _ (show i - 1 < n.length by omega)]
  exact h (i - 1) i (by omega) hi (by omega)
theorem CT {n k:List Int}:dU n k=true↔∃ x,x∈n∧x∈k:=by
 unfold dU
 rw [List.any_eq_true]
 simp only [List.contains_iff_mem]
theorem Bk {n k:List Int}:dU n k=false↔∀ x,x∈n→x∈k→False:=by
 rw [← Bool.not_eq_true,CT]
 exact⟨fun h x a b=>h ⟨x,a,b⟩,fun h ⟨x,a,b⟩=>h x a b⟩
theorem Ka {n k:List Int} (hn:dJ n=true):dU n k=Mb n k:=by
 rw [Bool.eq_iff_iff,CT]
 unfold Mb
 rw [List.any_eq_true]
 unfold RD
 simp only [Bool.and_eq_true,List.contains_iff_mem]
 constructor
 ·rintro⟨x,a,b⟩
  obtain⟨h1,h2⟩:=iq hn a
  refine⟨(x - 1).toNat,List.mem_range.2 (by omega),?_⟩
  rw [show (((x - 1).toNat:Nat):Int)+1=x by omega]
  exact⟨a,b⟩
 ·rintro⟨j,_,a,b⟩
  exact⟨_,a,b⟩
theorem wL (n k:List Int) (x:Int):x∈SoI.fu (n ++ k)↔x∈n∨x∈k:=by
 rw [(SoI.cG (n ++ k)).2.1.mem_iff,List.mem_append]
theorem HM {n k:List Int} (hn:dJ n=true) (hk:dJ k=true) (h:dU n k=false):(SoI.fu (n ++ k)).Pairwise (· < ·):=by
 obtain⟨_,hp,hs⟩:=SoI.cG (n ++ k)
 have nd:(n ++ k).Pairwise (·≠·):=by
  rw [List.pairwise_append]
  refine⟨(yu hn).imp fun {a b} g=>by omega,(yu hk).imp fun {a b} g=>by omega,fun a ha b hb e=>?_⟩
  subst e
  exact Bk.1 h a ha hb
 have nd2:(SoI.fu (n ++ k)).Pairwise (·≠·):=(hp.pairwise_iff fun {x y} g=>g.symm).2 nd
 exact (hs.and nd2).imp fun {a b} g=>by omega
theorem MB {n k:List Int} (hn:dJ n=true) (hk:dJ k=true) (x:Int):x∈VN n k 64↔x∈n∨x∈k:=by
 unfold VN
 rw [List.mem_flatMap]
 unfold YA
 constructor
 ·rintro⟨j,_,g⟩
  split at g
  ·rename_i c
   rw [List.mem_singleton] at g
   subst g
   rw [Bool.or_eq_true,List.contains_iff_mem,List.contains_iff_mem] at c
   exact c
  ·cases g
 ·intro g
  have hx:1≤x∧x≤64:=g.elim (iq hn) (iq hk)
  refine⟨(x - 1).toNat,List.mem_range.2 (by omega),?_⟩
  rw [show (((x - 1).toNat:Nat):Int)+1=x by omega,if_pos (by rw [Bool.or_eq_true,List.contains_iff_mem,List.contains_iff_mem];exact g)]
  exact List.mem_singleton.2 rfl
theorem yX (t:Nat):(List.range t).Pairwise (· < ·):=List.pairwise_lt_range
theorem TJ (n k:List Int) (t:Nat):(VN n k t).Pairwise (· < ·):=by
 unfold VN
 rw [List.pairwise_flatMap]
 refine⟨fun j _=>by split <;> simp,(yX t).imp fun {a b} h x hx y hy=>?_⟩
 split at hx
 ·split at hy
  ·rw [List.mem_singleton] at hx hy
   omega
  ·cases hy
 ·cases hx
theorem LG {n k:List Int} (hn:dJ n=true) (hk:dJ k=true) (h:dU n k=false):SoI.fu (n ++ k)=VN n k 64 :=
 BL PM (HM hn hk h) (TJ n k 64) fun x=>by rw [wL,MB hn hk]
theorem RS {n:List Int} {l:List E} (hn:dJ n=true) (hp:l.Pairwise ln) (g:∀ y∈l,QC y=true∧n.contains (ri y 0)=true):bf n l=true:=by
 unfold bf
 rw [Bool.and_eq_true]
 refine⟨hn,iZ.2 fun i hi=>?_⟩
 rw [List.pairwise_iff_getElem] at hp
 unfold VJ
 rw [decide_eq_true_eq]
 have:=g _ (List.getElem_mem hi)
 rw [hD l _ hi]
 refine⟨this.1,this.2,fun h0=>?_⟩
 rw [hD l _ (show i - 1 < l.length by omega)]
 exact (Li _ _ _ _).2 (hp (i - 1) i (by omega) hi (by omega))
theorem dr {n:List Int} {l:List E} (h:bf n l=true) {y:E} (hy:y∈l):QC y=true∧ri y 0∈n:=by
 obtain⟨i,hi,rfl⟩:=List.getElem_of_mem hy
 have:=QE h i hi
 rw [hD l _ hi] at this
 exact⟨this.1,List.contains_iff_mem.1 this.2.1⟩
def TA (x y:E):Prop:=¬(ri x 0=ri y 0∧ri x 1=ri y 1)
theorem yN {n k:List Int} {l q:List E} (h1:bf n l=true) (h2:bf k q=true) (hc:dU n k=false):(l ++ q).Pairwise TA:=by
 rw [List.pairwise_append]
 refine⟨(xD h1).imp fun {a b} g=>by unfold ln at g;unfold TA;omega,(xD h2).imp fun {a b} g=>by unfold ln at g;unfold TA;omega,fun a ha b hb e=>?_⟩
 have:=(dr h2 hb).2
 rw [← e.1] at this
 exact Bk.1 hc _ (dr h1 ha).2 this
theorem oC (l:List E) (y:E):y∈SoK.kz l↔y∈l:=(SoK.ep l).2.1.mem_iff
theorem Dv {l:List E} (h:l.Pairwise TA):(SoK.kz l).Pairwise ln:=by
 obtain⟨_,hp,hs⟩:=SoK.ep l
 have k2:(SoK.kz l).Pairwise TA:=(hp.pairwise_iff fun {x y} g=>by unfold TA at *;omega).2 h
 exact (hs.and k2).imp fun {a b} g=>by
  obtain⟨g1,g2⟩:=g
  unfold TA at g2
  unfold ln
  omega
theorem Uh {n k:List Int} {l q:List E} (h1:bf n l=true) (h2:bf k q=true) (hc:dU n k=false):bf (SoI.fu (n ++ k)) (SoK.kz (l ++ q))=true:=by
 refine RS (ME (HM (oB h1) (oB h2) hc) fun t ht=>?_) (Dv (yN h1 h2 hc)) fun y hy=>?_
 ·rcases (wL n k t).1 ht with g|g
  ·exact iq (oB h1) g
  ·exact iq (oB h2) g
 ·rw [List.contains_iff_mem,wL]
  rcases List.mem_append.1 ((oC _ _).1 hy) with g|g
  ·exact⟨(dr h1 g).1,.inl (dr h1 g).2⟩
  ·exact⟨(dr h2 g).1,.inr (dr h2 g).2⟩
def Zo (x y:Int × Int × Int × Int × Bool):Prop:=x.1 < y.1∨x.1=y.1∧x.2.1 < y.2.1
theorem Hk (x y:Int × Int × Int × Int × Bool) (h:Zo x y) (g:Zo y x):False:=by unfold Zo at *;omega
theorem Mw (y:E):kT (e5 y)=kT y:=rfl
theorem dR {a:Int} {y t:E}:t∈Vt a y↔ri y 0=a∧t=e5 y:=by
 unfold Vt
 split
 ·rename_i h
  rw [List.mem_singleton]
  exact⟨fun e=>⟨h,e⟩,fun e=>e.2⟩
 ·rename_i h
  exact⟨fun e=>absurd e List.not_mem_nil,fun e=>absurd e.1 h⟩
theorem xd {l q:List E} (h1:∀ y∈l,1≤ri y 0∧ri y 0≤64) (h2:∀ y∈q,1≤ri y 0∧ri y 0≤64) (t:E):t∈Ti l q 64↔∃ y,(y∈l∨y∈q)∧t=e5 y:=by
 unfold Ti
 rw [List.mem_flatMap]
 unfold We
 constructor
 ·rintro⟨j,_,g⟩
  rw [List.mem_append,List.mem_flatMap,List.mem_flatMap] at g
  rcases g with ⟨y,hy,g⟩ | ⟨y,hy,g⟩
  ·exact⟨y,.inl hy,(dR.1 g).2⟩
  ·exact⟨y,.inr hy,(dR.1 g).2⟩
 ·rintro⟨y,hy,rfl⟩
  have hb:1≤ri y 0∧ri y 0≤64:=hy.elim (h1 y) (h2 y)
  refine⟨(ri y 0 - 1).toNat,List.mem_range.2 (by omega),?_⟩
  rw [show (((ri y 0 - 1).toNat:Nat):Int)+1=ri y 0 by omega,List.mem_append,List.mem_flatMap,List.mem_flatMap]
  rcases hy with g|g
  ·exact .inl ⟨y,g,dR.2 ⟨rfl,rfl⟩⟩
  ·exact .inr ⟨y,g,dR.2 ⟨rfl,rfl⟩⟩
theorem Rr {a:Int} {l:List E} (h:l.Pairwise ln):(l.flatMap (Vt a)).Pairwise fun x y=>Zo (kT x) (kT y):=by
 rw [List.pairwise_flatMap]
 refine⟨fun y _=>by unfold Vt;split <;> simp,h.imp fun {x y} g s hs t ht=>?_⟩
 rw [(dR.1 hs).2,(dR.1 ht).2,Mw,Mw]
 exact g
theorem Vm {n k:List Int} {l q:List E} (h1:bf n l=true) (h2:bf k q=true) (hc:dU n k=false) (t:Nat):(Ti l q t).Pairwise fun x y=>Zo (kT x) (kT y):=by
 unfold Ti
 rw [List.pairwise_flatMap]
 have own:∀ {a:Int} {x:E},x∈We l q a→(kT x).1=a:=fun {a x} hx=>by
  unfold We at hx
  rw [List.mem_append,List.mem_flatMap,List.mem_flatMap] at hx
  rcases hx with ⟨y,_,g⟩ | ⟨y,_,g⟩
  ·rw [(dR.1 g).2]
   exact (dR.1 g).1
  ·rw [(dR.1 g).2]
   exact (dR.1 g).1
 refine⟨fun j _=>?_,(yX t).imp fun {a b} h x hx y hy=>.inl (by rw [own hx,own hy];omega)⟩
 unfold We
 rw [List.pairwise_append]
 refine⟨Rr (xD h1),Rr (xD h2),fun x hx y hy=>?_⟩
 obtain⟨x',hx',gx⟩:=List.mem_flatMap.1 hx
 obtain⟨y',hy',gy⟩:=List.mem_flatMap.1 hy
 have a1:=(dr h1 hx').2
 have a2:=(dr h2 hy').2
 rw [(dR.1 gx).1] at a1
 rw [(dR.1 gy).1] at a2
 exact (Bk.1 hc _ a1 a2).elim
theorem pF {y:E} (h:QC y=true):1≤ri y 0∧ri y 0≤64:=by
 unfold QC ZX at h
 rw [decide_eq_true_eq] at h
 exact qI.1 h.1
theorem Ld {n k:List Int} {l q:List E} (h1:bf n l=true) (h2:bf k q=true) (hc:dU n k=false):ju (SoK.kz (l ++ q)) (Ti l q 64)=true:=by
 unfold ju
 rw [decide_eq_true_eq]
 refine BL Hk ?_ ?_ fun t=>?_
 ·rw [List.pairwise_map]
  exact Dv (yN h1 h2 hc)
 ·rw [List.pairwise_map]
  exact Vm h1 h2 hc 64
 ·rw [List.mem_map,List.mem_map]
  constructor
  ·rintro⟨y,hy,rfl⟩
   refine⟨e5 y,(xd (fun y g=>pF (dr h1 g).1) (fun y g=>pF (dr h2 g).1) _).2 ⟨y,?_,rfl⟩,Mw y⟩
   exact List.mem_append.1 ((oC _ _).1 hy)
  ·rintro⟨y,hy,rfl⟩
   obtain⟨z,hz,rfl⟩:=(xd (fun y g=>pF (dr h1 g).1) (fun y g=>pF (dr h2 g).1) _).1 hy
   exact⟨z,(oC _ _).2 (List.mem_append.2 hz),Mw z⟩
theorem Hi {n k:List Int} {l q:List E}:qy n l k q=true↔bf n l=true∧bf k q=true∧dU n k=false:=by
 unfold qy
 rw [Bool.and_eq_true,Bool.and_eq_true,Bool.not_eq_true',and_assoc]
theorem DR {n k:List Int} {l q:List E} (h1:bf n l=true) (h2:bf k q=true):gw (nJ n l k q) (mD n l k q) (TZ n k) (Mh n k l q)=true∧oE n l k q=(if Mb n k=true then 11 else 0):=by
 have hc:=Ka (k:=k) (oB h1)
 refine⟨?_,?_⟩
 ·unfold gw nJ mD TZ Mh
  rw [← hc]
  cases h:dU n k with
  |true =>
   have ho:¬qy n l k q=true:=fun g=>by rw [(Hi.1 g).2.2] at h;cases h
   rw [if_neg ho,if_neg ho,if_pos rfl,if_pos rfl]
   rfl
  |false =>
   have ho:qy n l k q=true:=Hi.2 ⟨h1,h2,h⟩
   rw [if_pos ho,if_pos ho,if_neg (by decide),if_neg (by decide),Bool.and_eq_true]
   exact⟨decide_eq_true (LG (oB h1) (oB h2) h),Ld h1 h2 h⟩
 ·unfold oE
  rw [h1,h2,hc]
  rfl
theorem UG (n k:List Int) (l q:List E):(nJ n l k q).length≤n.length+k.length∧(mD n l k q).length≤l.length+q.length:=by
 unfold nJ mD
 split
 ·rw [(SoI.cG _).1,(SoK.ep _).1,List.length_append,List.length_append]
  exact⟨Nat.le_refl _,Nat.le_refl _⟩
 ·exact⟨Nat.zero_le _,Nat.zero_le _⟩
theorem MG {n k:List Int} {l q:List E} (h1:bf n l=true) (h2:bf k q=true):(TZ n k).length≤n.length+k.length∧(Mh n k l q).length≤l.length+q.length:=by
 obtain⟨h,_⟩:=DR h1 h2
 unfold gw gI ju at h
 rw [Bool.and_eq_true,decide_eq_true_eq,decide_eq_true_eq] at h
 have e:=congrArg List.length h.2
 rw [List.length_map,List.length_map] at e
 rw [← h.1,← e]
 exact UG n k l q
theorem aax {n k:List Int} {l q:List E}:oE n l k q=0↔qy n l k q=true:=by
 unfold oE qy
 cases bf n l <;> cases bf k q <;> cases dU n k <;> simp
end Go.Proofs.YtelhldgdnlppfaaGreat.MgT
