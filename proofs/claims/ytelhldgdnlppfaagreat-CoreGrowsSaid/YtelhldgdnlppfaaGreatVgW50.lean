/-
  The view of two: it may be,its links are those of both,and the order does not matter. No condition.
-/
import Derived.Test.YtelhldgdnlppfaaGreatVgViL
import Derived.Test.YtelhldgdnlppfaaGreatVgViR
import Derived.Test.YtelhldgdnlppfaaGreatVgMgR
namespace Go.Proofs.YtelhldgdnlppfaaGreat.ViT
open Go Ry ViR ViL
def ln (x y:E):Prop:=ri x 0 < ri y 0∨ri x 0=ri y 0∧ri x 1 < ri y 1
theorem Xq {x y z:E} (h:ln x y) (g:ln y z):ln x z:=by unfold ln at *;omega
theorem Qx {n:List Int} {l:List E} (h:bf n l=true):∀ i,i < l.length→Qt (l.getD i [])=true∧n.contains (ri (l.getD i []) 0)=true∧(0 < i→ln (l.getD (i - 1) []) (l.getD i [])):=by
 unfold bf at h
 rw [Bool.and_eq_true] at h
 intro i hi
 have g:=mK.1 h.2 i hi
 unfold UZ at g
 rw [decide_eq_true_eq] at g
 exact⟨g.1,g.2.1,fun k=>(Kp _ _ _ _).1 (g.2.2 k)⟩
theorem nW {n:List Int} {l:List E} (h:bf n l=true):dL n=true:=by
 unfold bf at h
 rw [Bool.and_eq_true] at h
 exact h.1
theorem Qz {n:List Int} {l:List E} (h:bf n l=true):∀ (j i:Nat),i < j→j < l.length→ln (l.getD i []) (l.getD j [])
 |0,_,h1,_=>absurd h1 (Nat.not_lt_zero _)
 |j+1,i,h1,h2=>by
  have g:=(Qx h (j+1) h2).2.2 (Nat.zero_lt_succ _)
  rw [Nat.add_sub_cancel] at g
  by_cases e:i=j
  ·rw [e]
   exact g
  ·exact Xq (Qz h j i (by omega) (by omega)) g
theorem wD {n:List Int} {l:List E} (h:bf n l=true):l.Pairwise ln:=by
 rw [List.pairwise_iff_getElem]
 intro i j hi hj hij
 have:=Qz h j i hij hj
 rw [pd l _ hi,pd l _ hj] at this
 exact this
end Go.Proofs.YtelhldgdnlppfaaGreat.ViT
namespace Go.Proofs.YtelhldgdnlppfaaGreat.ViS
open Go Ry Cmp ViR
def kT (y:E):Int × Int × Int × Int × Bool:=(ri y 0,ri y 1,ri y 2,ri y 3,rb y 4)
def rH (p q:List E):Bool:=decide (p.map kT=q.map kT)
def As (p q:List Int):Bool:=decide (p=q)
def vT (n:List Int) (l:List E) (n' : List Int) (l' : List E):Bool:=As n n' && rH l l'
end Go.Proofs.YtelhldgdnlppfaaGreat.ViS
namespace Go.Proofs.YtelhldgdnlppfaaGreat.ViQ
open Go Ry Cmp ViR ViC ViL ViT ViS
end Go.Proofs.YtelhldgdnlppfaaGreat.ViQ
namespace Go.Proofs.YtelhldgdnlppfaaGreat.ViM
open Go Ry Cmp ViR ViC ViL ViT ViQ
def e5 (y:E):E:=[D.int (ri y 0),D.int (ri y 1),D.int (ri y 2),D.int (ri y 3),D.bool (rb y 4)]
def Ve (a:Int) (y:E):List E:=if ri y 0=a then [e5 y] else []
def Rg (n k:List Int) (j:Nat):Bool:=n.contains ((j:Int)+1) && k.contains ((j:Int)+1)
def Zk (n k:List Int) (j:Nat):Bool:=n.contains ((j:Int)+1) || k.contains ((j:Int)+1)
def LJ (n k:List Int):Bool:=(List.range 64).any (Rg n k)
def Vf (n k:List Int) (t:Nat):List Int:=(List.range t).flatMap fun j=>if Zk n k j=true then [(j:Int)+1] else []
def Wz (l q:List E) (a:Int):List E:=l.flatMap (Ve a) ++ q.flatMap (Ve a)
def RI (l q:List E) (t:Nat):List E:=(List.range t).flatMap fun j:Nat=>Wz l q ((j:Int)+1)
structure XG where
 n:Int
 o:List Int
 p:List E
def Su (n k:List Int):List Int:=if LJ n k=true then [] else Vf n k 64
def LP (n k:List Int) (l q:List E):List E:=if LJ n k=true then [] else RI l q 64
end Go.Proofs.YtelhldgdnlppfaaGreat.ViM
namespace Go.Proofs.YtelhldgdnlppfaaGreat.MgT
open Go Ry ViR ViC ViS ViL ViT ViM MgR
theorem BS {α:Type} {R:α→α→Prop} (asym:∀ x y,R x y→R y x→False):∀ {p q:List α},p.Pairwise R→q.Pairwise R→(∀ x,x∈p↔x∈q)→p=q
 |[],[],_,_,_=>rfl
 |[],y :: q,_,_,h=>absurd ((h y).2 (List.mem_cons_self ..)) List.not_mem_nil
 |x :: p,[],_,_,h=>absurd ((h x).1 (List.mem_cons_self ..)) List.not_mem_nil
 |x :: p,y :: q,hp,hq,h=>by
  obtain⟨p1,p2⟩:=List.pairwise_cons.1 hp
  obtain⟨q1,q2⟩:=List.pairwise_cons.1 hq
  have e:x=y:=by
   rcases List.mem_cons.1 ((h x).1 (List.mem_cons_self ..)) with e|hx
   ·exact e
   ·rcases List.mem_cons.1 ((h y).2 (List.mem_cons_self ..)) with e|hy
    ·exact e.symm
    ·exact (asym _ _ (p1 y hy) (q1 x hx)).elim
  subst e
  congr 1
  refine BS asym p2 q2 fun z=>⟨fun hz=>?_,fun hz=>?_⟩
  ·rcases List.mem_cons.1 ((h z).1 (List.mem_cons_of_mem _ hz)) with e|hz'
   ·rw [e] at hz
    exact (asym _ _ (p1 x hz) (p1 x hz)).elim
   ·exact hz'
  ·rcases List.mem_cons.1 ((h z).2 (List.mem_cons_of_mem _ hz)) with e|hz'
   ·rw [e] at hz
    exact (asym _ _ (q1 x hz) (q1 x hz)).elim
   ·exact hz'
theorem PD (x y:Int) (h:x < y) (g:y < x):False:=by omega
theorem qI {t:Int}:cm t=true↔1≤t∧t≤64:=by unfold cm;rw [decide_eq_true_eq]
theorem xI {n:List Int} (h:dL n=true):n.Pairwise (· < ·):=by
 rw [List.pairwise_iff_getElem]
 intro i j hi hj hij
 have:=qX h j i hij hj
 rw [gh n _ hi,gh n _ hj] at this
 exact this
theorem il {n:List Int} (h:dL n=true) {t:Int} (ht:t∈n):1≤t∧t≤64:=qI.1 (FE h t (List.contains_iff_mem.2 ht))
theorem OL {n:List Int} (h:n.Pairwise (· < ·)) (g:∀ t∈n,1≤t∧t≤64):dL n=true:=by
 rw [tI]
 intro i hi
 rw [List.pairwise_iff_getElem] at h
 refine⟨?_,fun h0=>?_⟩
 ·rw [gh n _ hi]
  exact qI.2 (g _ (List.getElem_mem hi))
 ·rw [gh n _ hi,gh n _ (show i - 1 < n.length by omega)]
  exact h (i - 1) i (by omega) hi (by omega)
theorem Cp {n k:List Int}:dU n k=true↔∃ x,x∈n∧x∈k:=by
 unfold dU
 rw [List.any_eq_true]
 simp only [List.contains_iff_mem]
theorem Cj {n k:List Int}:dU n k=false↔∀ x,x∈n→x∈k→False:=by
 rw [← Bool.not_eq_true,Cp]
 exact⟨fun h x a b=>h ⟨x,a,b⟩,fun h ⟨x,a,b⟩=>h x a b⟩
theorem LA {n k:List Int} (hn:dL n=true):dU n k=LJ n k:=by
 rw [Bool.eq_iff_iff,Cp]
 unfold LJ
 rw [List.any_eq_true]
 unfold Rg
 simp only [Bool.and_eq_true,List.contains_iff_mem]
 constructor
 ·rintro⟨x,a,b⟩
  obtain⟨h1,h2⟩:=il hn a
  refine⟨(x - 1).toNat,List.mem_range.2 (by omega),?_⟩
  rw [show (((x - 1).toNat:Nat):Int)+1=x by omega]
  exact⟨a,b⟩
 ·rintro⟨j,_,a,b⟩
  exact⟨_,a,b⟩
theorem xm (n k:List Int) (x:Int):x∈SoI.fB (n ++ k)↔x∈n∨x∈k:=by
 rw [(SoI.cH (n ++ k)).2.1.mem_iff,List.mem_append]
theorem Jy {n k:List Int} (hn:dL n=true) (hk:dL k=true) (h:dU n k=false):(SoI.fB (n ++ k)).Pairwise (· < ·):=by
 obtain⟨_,hp,hs⟩:=SoI.cH (n ++ k)
 have nd:(n ++ k).Pairwise (·≠·):=by
  rw [List.pairwise_append]
  refine⟨(xI hn).imp fun {a b} g=>by omega,(xI hk).imp fun {a b} g=>by omega,fun a ha b hb e=>?_⟩
  subst e
  exact Cj.1 h a ha hb
 have nd2:(SoI.fB (n ++ k)).Pairwise (·≠·):=(hp.pairwise_iff fun {x y} g=>g.symm).2 nd
 exact (hs.and nd2).imp fun {a b} g=>by omega
theorem LU {n k:List Int} (hn:dL n=true) (hk:dL k=true) (x:Int):x∈Vf n k 64↔x∈n∨x∈k:=by
 unfold Vf
 rw [List.mem_flatMap]
 unfold Zk
 constructor
 ·rintro⟨j,_,g⟩
  split at g
  ·rename_i c
   rw [List.mem_singleton] at g
   subst g
   rw [Bool.or_eq_true,List.contains_iff_mem,List.contains_iff_mem] at c
   exact c
  ·cases g
 ·intro g
  have hx:1≤x∧x≤64:=g.elim (il hn) (il hk)
  refine⟨(x - 1).toNat,List.mem_range.2 (by omega),?_⟩
  rw [show (((x - 1).toNat:Nat):Int)+1=x by omega,if_pos (by rw [Bool.or_eq_true,List.contains_iff_mem,List.contains_iff_mem];exact g)]
  exact List.mem_singleton.2 rfl
theorem yx (t:Nat):(List.range t).Pairwise (· < ·):=List.pairwise_lt_range
theorem SZ (n k:List Int) (t:Nat):(Vf n k t).Pairwise (· < ·):=by
 unfold Vf
 rw [List.pairwise_flatMap]
 refine⟨fun j _=>by split <;> simp,(yx t).imp fun {a b} h x hx y hy=>?_⟩
 split at hx
 ·split at hy
  ·rw [List.mem_singleton] at hx hy
   omega
  ·cases hy
 ·cases hx
theorem GR {n k:List Int} (hn:dL n=true) (hk:dL k=true) (h:dU n k=false):SoI.fB (n ++ k)=Vf n k 64 :=
 BS PD (Jy hn hk h) (SZ n k 64) fun x=>by rw [xm,LU hn hk]
theorem UM {n:List Int} {l:List E} (hn:dL n=true) (hp:l.Pairwise ln) (g:∀ y∈l,Qt y=true∧n.contains (ri y 0)=true):bf n l=true:=by
 unfold bf
 rw [Bool.and_eq_true]
 refine⟨hn,mK.2 fun i hi=>?_⟩
 rw [List.pairwise_iff_getElem] at hp
 unfold UZ
 rw [decide_eq_true_eq]
 have:=g _ (List.getElem_mem hi)
 rw [pd l _ hi]
 refine⟨this.1,this.2,fun h0=>?_⟩
 rw [pd l _ (show i - 1 < l.length by omega)]
 exact (Kp _ _ _ _).2 (hp (i - 1) i (by omega) hi (by omega))
theorem du {n:List Int} {l:List E} (h:bf n l=true) {y:E} (hy:y∈l):Qt y=true∧ri y 0∈n:=by
 obtain⟨i,hi,rfl⟩:=List.getElem_of_mem hy
 have:=Qx h i hi
 rw [pd l _ hi] at this
 exact⟨this.1,List.contains_iff_mem.1 this.2.1⟩
def TS (x y:E):Prop:=¬(ri x 0=ri y 0∧ri x 1=ri y 1)
theorem zp {n k:List Int} {l q:List E} (h1:bf n l=true) (h2:bf k q=true) (hc:dU n k=false):(l ++ q).Pairwise TS:=by
 rw [List.pairwise_append]
 refine⟨(wD h1).imp fun {a b} g=>by unfold ln at g;unfold TS;omega,(wD h2).imp fun {a b} g=>by unfold ln at g;unfold TS;omega,fun a ha b hb e=>?_⟩
 have:=(du h2 hb).2
 rw [← e.1] at this
 exact Cj.1 hc _ (du h1 ha).2 this
theorem oA (l:List E) (y:E):y∈SoK.km l↔y∈l:=(SoK.ei l).2.1.mem_iff
theorem Cl {l:List E} (h:l.Pairwise TS):(SoK.km l).Pairwise ln:=by
 obtain⟨_,hp,hs⟩:=SoK.ei l
 have k2:(SoK.km l).Pairwise TS:=(hp.pairwise_iff fun {x y} g=>by unfold TS at *;omega).2 h
 exact (hs.and k2).imp fun {a b} g=>by
  obtain⟨g1,g2⟩:=g
  unfold TS at g2
  unfold ln
  omega
theorem UJ {n k:List Int} {l q:List E} (h1:bf n l=true) (h2:bf k q=true) (hc:dU n k=false):bf (SoI.fB (n ++ k)) (SoK.km (l ++ q))=true:=by
 refine UM (OL (Jy (nW h1) (nW h2) hc) fun t ht=>?_) (Cl (zp h1 h2 hc)) fun y hy=>?_
 ·rcases (xm n k t).1 ht with g|g
  ·exact il (nW h1) g
  ·exact il (nW h2) g
 ·rw [List.contains_iff_mem,xm]
  rcases List.mem_append.1 ((oA _ _).1 hy) with g|g
  ·exact⟨(du h1 g).1,.inl (du h1 g).2⟩
  ·exact⟨(du h2 g).1,.inr (du h2 g).2⟩
def Zl (x y:Int × Int × Int × Int × Bool):Prop:=x.1 < y.1∨x.1=y.1∧x.2.1 < y.2.1
theorem Ka (x y:Int × Int × Int × Int × Bool) (h:Zl x y) (g:Zl y x):False:=by unfold Zl at *;omega
theorem MS (y:E):kT (e5 y)=kT y:=rfl
theorem dR {a:Int} {y t:E}:t∈Ve a y↔ri y 0=a∧t=e5 y:=by
 unfold Ve
 split
 ·rename_i h
  rw [List.mem_singleton]
  exact⟨fun e=>⟨h,e⟩,fun e=>e.2⟩
 ·rename_i h
  exact⟨fun e=>absurd e List.not_mem_nil,fun e=>absurd e.1 h⟩
theorem wq {l q:List E} (h1:∀ y∈l,1≤ri y 0∧ri y 0≤64) (h2:∀ y∈q,1≤ri y 0∧ri y 0≤64) (t:E):t∈RI l q 64↔∃ y,(y∈l∨y∈q)∧t=e5 y:=by
 unfold RI
 rw [List.mem_flatMap]
 unfold Wz
 constructor
 ·rintro⟨j,_,g⟩
  rw [List.mem_append,List.mem_flatMap,List.mem_flatMap] at g
  rcases g with ⟨y,hy,g⟩ | ⟨y,hy,g⟩
  ·exact⟨y,.inl hy,(dR.1 g).2⟩
  ·exact⟨y,.inr hy,(dR.1 g).2⟩
 ·rintro⟨y,hy,rfl⟩
  have hb:1≤ri y 0∧ri y 0≤64:=hy.elim (h1 y) (h2 y)
  refine⟨(ri y 0 - 1).toNat,List.mem_range.2 (by omega),?_⟩
  rw [show (((ri y 0 - 1).toNat:Nat):Int)+1=ri y 0 by omega,List.mem_append,List.mem_flatMap,List.mem_flatMap]
  rcases hy with g|g
  ·exact .inl ⟨y,g,dR.2 ⟨rfl,rfl⟩⟩
  ·exact .inr ⟨y,g,dR.2 ⟨rfl,rfl⟩⟩
theorem QO {a:Int} {l:List E} (h:l.Pairwise ln):(l.flatMap (Ve a)).Pairwise fun x y=>Zl (kT x) (kT y):=by
 rw [List.pairwise_flatMap]
 refine⟨fun y _=>by unfold Ve;split <;> simp,h.imp fun {x y} g s hs t ht=>?_⟩
 rw [(dR.1 hs).2,(dR.1 ht).2,MS,MS]
 exact g
theorem Tm {n k:List Int} {l q:List E} (h1:bf n l=true) (h2:bf k q=true) (hc:dU n k=false) (t:Nat):(RI l q t).Pairwise fun x y=>Zl (kT x) (kT y):=by
 unfold RI
 rw [List.pairwise_flatMap]
 have own:∀ {a:Int} {x:E},x∈Wz l q a→(kT x).1=a:=fun {a x} hx=>by
  unfold Wz at hx
  rw [List.mem_append,List.mem_flatMap,List.mem_flatMap] at hx
  rcases hx with ⟨y,_,g⟩ | ⟨y,_,g⟩
  ·rw [(dR.1 g).2]
   exact (dR.1 g).1
  ·rw [(dR.1 g).2]
   exact (dR.1 g).1
 refine⟨fun j _=>?_,(yx t).imp fun {a b} h x hx y hy=>.inl (by rw [own hx,own hy];omega)⟩
 unfold Wz
 rw [List.pairwise_append]
 refine⟨QO (wD h1),QO (wD h2),fun x hx y hy=>?_⟩
 obtain⟨x',hx',gx⟩:=List.mem_flatMap.1 hx
 obtain⟨y',hy',gy⟩:=List.mem_flatMap.1 hy
 have a1:=(du h1 hx').2
 have a2:=(du h2 hy').2
 rw [(dR.1 gx).1] at a1
 rw [(dR.1 gy).1] at a2
 exact (Cj.1 hc _ a1 a2).elim
theorem pA {y:E} (h:Qt y=true):1≤ri y 0∧ri y 0≤64:=by
 unfold Qt Zu at h
 rw [decide_eq_true_eq] at h
 exact qI.1 h.1
theorem Jr {n k:List Int} {l q:List E} (h1:bf n l=true) (h2:bf k q=true) (hc:dU n k=false):rH (SoK.km (l ++ q)) (RI l q 64)=true:=by
 unfold rH
 rw [decide_eq_true_eq]
 refine BS Ka ?_ ?_ fun t=>?_
 ·rw [List.pairwise_map]
  exact Cl (zp h1 h2 hc)
 ·rw [List.pairwise_map]
  exact Tm h1 h2 hc 64
 ·rw [List.mem_map,List.mem_map]
  constructor
  ·rintro⟨y,hy,rfl⟩
   refine⟨e5 y,(wq (fun y g=>pA (du h1 g).1) (fun y g=>pA (du h2 g).1) _).2 ⟨y,?_,rfl⟩,MS y⟩
   exact List.mem_append.1 ((oA _ _).1 hy)
  ·rintro⟨y,hy,rfl⟩
   obtain⟨z,hz,rfl⟩:=(wq (fun y g=>pA (du h1 g).1) (fun y g=>pA (du h2 g).1) _).1 hy
   exact⟨z,(oA _ _).2 (List.mem_append.2 hz),MS z⟩
theorem GL {n k:List Int} {l q:List E}:qh n l k q=true↔bf n l=true∧bf k q=true∧dU n k=false:=by
 unfold qh
 rw [Bool.and_eq_true,Bool.and_eq_true,Bool.not_eq_true',and_assoc]
theorem CW {n k:List Int} {l q:List E} (h1:bf n l=true) (h2:bf k q=true):vT (nB n l k q) (my n l k q) (Su n k) (LP n k l q)=true∧mD n l k q=(if LJ n k=true then 11 else 0):=by
 have hc:=LA (k:=k) (nW h1)
 refine⟨?_,?_⟩
 ·unfold vT nB my Su LP
  rw [← hc]
  cases h:dU n k with
  |true =>
   have ho:¬qh n l k q=true:=fun g=>by rw [(GL.1 g).2.2] at h;cases h
   rw [if_neg ho,if_neg ho,if_pos rfl,if_pos rfl]
   rfl
  |false =>
   have ho:qh n l k q=true:=GL.2 ⟨h1,h2,h⟩
   rw [if_pos ho,if_pos ho,if_neg (by decide),if_neg (by decide),Bool.and_eq_true]
   exact⟨decide_eq_true (GR (nW h1) (nW h2) h),Jr h1 h2 h⟩
 ·unfold mD
  rw [h1,h2,hc]
  rfl
theorem TX (n k:List Int) (l q:List E):(nB n l k q).length≤n.length+k.length∧(my n l k q).length≤l.length+q.length:=by
 unfold nB my
 split
 ·rw [(SoI.cH _).1,(SoK.ei _).1,List.length_append,List.length_append]
  exact⟨Nat.le_refl _,Nat.le_refl _⟩
 ·exact⟨Nat.zero_le _,Nat.zero_le _⟩
theorem PI {n k:List Int} {l q:List E} (h1:bf n l=true) (h2:bf k q=true):(Su n k).length≤n.length+k.length∧(LP n k l q).length≤l.length+q.length:=by
 obtain⟨h,_⟩:=CW h1 h2
 unfold vT As rH at h
 rw [Bool.and_eq_true,decide_eq_true_eq,decide_eq_true_eq] at h
 have e:=congrArg List.length h.2
 rw [List.length_map,List.length_map] at e
 rw [← h.1,← e]
 exact TX n k l q
theorem aaj {n k:List Int} {l q:List E}:mD n l k q=0↔qh n l k q=true:=by
 unfold mD qh
 cases bf n l <;> cases bf k q <;> cases dU n k <;> simp
end Go.Proofs.YtelhldgdnlppfaaGreat.MgT
