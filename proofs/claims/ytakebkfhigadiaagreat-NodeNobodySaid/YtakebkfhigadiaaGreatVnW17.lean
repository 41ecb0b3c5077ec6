/-
  A slice that a call made,and that nobody else knows,as a row of one's own. No condition.
-/
import Derived.Test.YtakebkfhigadiaaGreatVnW15
import Derived.Shelf.Spec.SlicesGrow
import Derived.Test.YtakebkfhigadiaaGreatProg
import Derived.Test.YtakebkfhigadiaaGreatVnRyOp
import Derived.Test.YtakebkfhigadiaaGreatVnRyU
set_option maxRecDepth 100000
namespace Go.Proofs.YtakebkfhigadiaaGreat.Ry
open Go
def Vm:Option Ct→SC→SC
 |some c,x=>mo c x
 |none,x=>x
def LX:List (Option Ct)→List SC→List SC
 |_,[]=>[]
 |[],x :: xs=>x :: xs
 |k :: ks,x :: xs=>Vm k x :: LX ks xs
def Xx:List (Option Ct)→SA→SA
 |k,.agg cs=>.agg (LX k cs)
 |k :: _,.one x=>.one (Vm k x)
 |_,x=>x
def RD:List (List (Option Ct))→List SA→List SA
 |_,[]=>[]
 |[],x :: xs=>x :: xs
 |k :: ks,x :: xs=>Xx k x :: RD ks xs
def Rm (ks:List (List (Option Ct))) (bJ:aW):aW:=fun args h=>bJ (RD ks args) h
theorem HQ {G:Gm} {k:Option Ct} {x:SC} {v:Value} (h:x.is G v):(Vm k x).is G v:=by
 cases k with
 |none=>exact h
 |some c=>exact sf h
theorem AF {G:Gm}:∀ {ks:List (Option Ct)} {xs:List SC} {vs:List Value},aO G xs vs→aO G (LX ks xs) vs
 |ks,[],[],_=>by
  cases ks <;> trivial
 |_,[],_ :: _,h=>h.elim
 |_,_ :: _,[],h=>h.elim
 |[],_ :: _,_ :: _,h=>h
 |_ :: _,_ :: _,_ :: _,⟨⟨h1,h2⟩,h3⟩=>⟨⟨HQ h1,h2⟩,AF h3⟩
theorem Qz {G:Gm} {k:List (Option Ct)} {x:SA} {v:Value} (h:x.is G v):(Xx k x).is G v:=by
 cases x with
 |agg cs =>
  obtain⟨us,e,hc⟩:=h
  exact⟨us,e,AF hc⟩
 |one c =>
  cases k with
  |nil=>exact h
  |cons a l=>exact HQ h
 |fb c=>cases k <;> exact h
theorem GN {G:Gm}:∀ {ks:List (List (Option Ct))} {xs:List SA} {vs:List Value},bh G xs vs→bh G (RD ks xs) vs
 |ks,[],[],_=>by
  cases ks <;> trivial
 |_,[],_ :: _,h=>h.elim
 |_,_ :: _,[],h=>h.elim
 |[],_ :: _,_ :: _,h=>h
 |_ :: _,_ :: _,_ :: _,⟨h1,h2⟩=>⟨Qz h1,GN h2⟩
theorem HO {k:Option Ct} {x:SC} {l l' : List SC} (h:df l=df l'):df (Vm k x :: l)=df (x :: l'):=by
 cases k with
 |none=>cases x <;> first|exact h|exact congrArg (List.cons _) h
 |some c=>exact nu h
theorem sr:∀ {ks:List (Option Ct)} {xs:List SC},df (LX ks xs)=df xs
 |ks,[]=>by cases ks <;> rfl
 |[],_ :: _=>rfl
 |_ :: _,_ :: _=>HO sr
theorem Ib {k:List (Option Ct)} {x:SA}:mh (Xx k x)=mh x:=by
 cases x with
 |agg cs=>exact sr
 |one c=>cases k <;> rfl
 |fb c=>cases k <;> rfl
theorem vO:∀ {ks:List (List (Option Ct))} {xs:List SA},(RD ks xs).flatMap mh=xs.flatMap mh
 |ks,[]=>by cases ks <;> rfl
 |[],_ :: _=>rfl
 |_ :: _,_ :: _=>by
  unfold RD
  rw [List.flatMap_cons,List.flatMap_cons,Ib,vO]
theorem CU {ks:List (List (Option Ct))} {xs:List SA} {h:H}:bS (RD ks xs) h=bS xs h:=by
 unfold bS
 rw [vO]
theorem oo {f:FuncId} {bJ:aW} (ks:List (List (Option Ct))) (h:aC Tryz.prog f bJ):aC Tryz.prog f (Rm ks bJ) :=
 ⟨h.1,fun args h0 p hc hC G vs h1 h2 h3 hv=>by
  have:=h.2 (RD ks args) h0 p hc hC G vs h1 h2 h3 (GN hv)
  rw [CU] at this
  exact this⟩
end Go.Proofs.YtakebkfhigadiaaGreat.Ry
namespace Go.Proofs.YtakebkfhigadiaaGreat.Sg
open Go Go.Shelf Go.Proofs
def CO:Go.Shelf.Ren:=⟨fun|4=>234|n=>n,fun|22=>33|25=>3|3=>3|4=>4|9=>9|20=>20|0=>0|n=>n,fun|n=>n⟩
theorem Nz:Go.Proofs.Lays8.n4 Tryz.prog CO:={
 mixed:=by kernel_rfl,
 f4:=⟨Tryz.f234.name,by decide,Tryz.func234.trans (congrArg some (by kernel_rfl))⟩,
 t0:=Tryz.underlying0,
 a0:=Tryz.isAgg0,
 z0:=Tryz.sizeOf0,
 v0:=Tryz.zeroValue0,
 t3:=Tryz.underlying3,
 a3:=Tryz.isAgg3,
 z3:=Tryz.sizeOf3,
 v3:=Tryz.zeroValue3,
 t4:=Tryz.underlying4,
 a4:=Tryz.isAgg4,
 z4:=Tryz.sizeOf4,
 v4:=Tryz.zeroValue4,
 t9:=Tryz.underlying9,
 a9:=Tryz.isAgg9,
 z9:=Tryz.sizeOf9,
 v9:=Tryz.zeroValue9,
 t20:=Tryz.underlying20,
 a20:=Tryz.isAgg20,
 z20:=Tryz.sizeOf20,
 v20:=Tryz.zeroValue20,
 t22:=Tryz.underlying33,
 a22:=Tryz.isAgg33,
 z22:=Tryz.sizeOf33,
 v22:=Tryz.zeroValue33 }
def DN:Go.Shelf.Ren:=⟨fun|4=>235|n=>n,fun|22=>34|25=>176|3=>3|4=>4|9=>9|20=>20|0=>0|n=>n,fun|n=>n⟩
theorem Np:Go.Proofs.Lays8.n4 Tryz.prog DN:={
 mixed:=by kernel_rfl,
 f4:=⟨Tryz.f235.name,by decide,Tryz.func235.trans (congrArg some (by kernel_rfl))⟩,
 t0:=Tryz.underlying0,
 a0:=Tryz.isAgg0,
 z0:=Tryz.sizeOf0,
 v0:=Tryz.zeroValue0,
 t3:=Tryz.underlying3,
 a3:=Tryz.isAgg3,
 z3:=Tryz.sizeOf3,
 v3:=Tryz.zeroValue3,
 t4:=Tryz.underlying4,
 a4:=Tryz.isAgg4,
 z4:=Tryz.sizeOf4,
 v4:=Tryz.zeroValue4,
 t9:=Tryz.underlying9,
 a9:=Tryz.isAgg9,
 z9:=Tryz.sizeOf9,
 v9:=Tryz.zeroValue9,
 t20:=Tryz.underlying20,
 a20:=Tryz.isAgg20,
 z20:=Tryz.sizeOf20,
 v20:=Tryz.zeroValue20,
 t22:=Tryz.underlying34,
 a22:=Tryz.isAgg34,
 z22:=Tryz.sizeOf34,
 v22:=Tryz.zeroValue34 }
end Go.Proofs.YtakebkfhigadiaaGreat.Sg
namespace Go.Proofs.YtakebkfhigadiaaGreat.GwI
open Go Go.Proofs Ry Go.Lib Go.RowKit
structure Gf where
 ok:Int→Bool
def Gf.U:Gf:=⟨fun n=>decide (0≤n∧n≤1000000)⟩
def gS (F:Gf):aW:=fun xs h=>match xs,h with
 |[.one (.val (.slice none 0 0)),.one (.val (.int .i64 n))],[]=>some ⟨F.ok n=true,.sa (.one (.sl (some (0,3)) (.ints .i64 []))),[(0,.tok)],[Any,Any]⟩
 |_,_=>none
theorem info:∃ i z,Tryz.prog.info? 3=some i∧i.zero=some z∧i.size=1∧i.bytes≤1000∧z.cells.size=1:=by
 have h:(match Tryz.prog.info? 3 with
  |some i=>(match i.zero with
   |some z=>(i.size == 1) && (decide (i.bytes≤1000) && (z.cells.size == 1))
   |none=>false)
  |none=>false)=true:=by kernel_rfl
 split at h
 ·rename_i i hi
  split at h
  ·rename_i z hz
   simp only [Bool.and_eq_true,beq_iff_eq,decide_eq_true_eq] at h
   exact⟨i,z,hi,hz,h.1,h.2.1,h.2.2⟩
  ·cases h
 ·cases h
theorem gU:aC Tryz.prog 234 (gS Gf.U):=by
 refine⟨⟨_,Tryz.func234,rfl,by kernel_rfl⟩,?_⟩
 intro args h p hp hC G vs hh hbs hm hv
 unfold gS at hp
 split at hp
 ·rename_i n
  cases hp
  have hk:0≤n∧n≤1000000:=of_decide_eq_true hC
  have hd:ak G.h 0=none:=by rw [hh];rfl
  have hset0:aS G.h 0 .tok=[(0,.tok)]:=by rw [hh];rfl
  match vs,hv with
  |[v0,v1],⟨hv0,hv1,_⟩ =>
   have hv0:v0 = .slice none 0 0:=hv0
   have hv1:v1 = .int .i64 n:=hv1
   subst hv0 hv1
   by_cases h0:n=0
   ·subst h0
    refine (Any8.slices_Grow_room Sg.Nz none 0 0 0 G.w (Nat.le_refl _) (by decide) (by decide) (Nat.le_refl _)).mono fun e w' ⟨he,hw⟩=>?_
    subst hw
    obtain⟨x2,m2⟩:=bH (G:=G) (d:=0) (k':=.tok) (x:=none) (w':=G.w) hm rfl rfl rfl (Nat.le_refl _) (fun _ _ _=>rfl) (fun _ _ _ _ _ _=>rfl) (fun b m h=>by cases h) (fun k hk _=>by rw [hd] at hk;cases hk) (fun _=>trivial)
    refine⟨_,Ry.one G 0 .tok none G.w,he,rfl,rfl,hset0,m2,?_,trivial,trivial,trivial⟩
    exact⟨⟨none,0,rfl,Nat.le_refl _,by unfold maxLen;omega,fun h=>absurd rfl h⟩,ky (aJ _ _ _) (.inl ⟨none,rfl⟩)⟩
   ·have hn:((n.toNat:Nat):Int)=n:=by omega
    obtain⟨i,z,hi,hz,hs,hb,hzs⟩:=info
    have hc:=Any8.slices_Grow_grow Sg.Nz i z hi hz (by omega) none 0 0 n.toNat [] G.w (Nat.le_refl _) (by omega) (by
     have:(0+n.toNat) * i.bytes≤1000000 * 1000:=Nat.mul_le_mul (by omega) hb
     omega) (by omega) (by simp) (fun _=>rfl) (fun a h=>by cases h)
    rw [hn] at hc
    have hcge:=grownCap_ge G.w (0+n.toNat) 0 3
    have hcle:=grownCap_le_maxLen G.w (0+n.toNat) 0 3 (by unfold maxLen;omega)
    refine hc.mono fun e w' ⟨he,hw⟩=>?_
    change e = .returned (.slice (some ⟨G.w.heap.size,0,none⟩) 0 (grownCap G.w (0+n.toNat) 0 3)) at he
    change w' = G.w.drew.alloc (.cells (#[] ++ Builtin.zeroCells z.cells (0+n.toNat - 0) ++ Builtin.zeroCells z.cells (grownCap G.w (0+n.toNat) 0 3 - (0+n.toNat))) 3) at hw
    generalize grownCap G.w (0+n.toNat) 0 3=cap at he hw hcge hcle
    have hw2:w' = G.w.drew.alloc (.cells ([] ++ ((Builtin.zeroCells z.cells (0+n.toNat - 0)).toList ++ (Builtin.zeroCells z.cells (cap - (0+n.toNat))).toList)).toArray 3):=by
     rw [hw]
     congr 2
     simp
    have hbl:Below G.w.heap.size G.w w':=by
     rw [hw2]
     exact ((Below.refl _ _).drew).alloc (by simp) _
    obtain⟨x2,m2,i2⟩:=lP (G:=G) (w':=w') (d:=0) (ct:=.ints .i64 []) (cap:=cap) (e:=3) hm hd hbl (us:=[]) (rest:=(Builtin.zeroCells z.cells (0+n.toNat - 0)).toList ++ (Builtin.zeroCells z.cells (cap - (0+n.toNat))).toList) (by rw [hw2];exact heap_alloc_new _ _) (by rfl) (fun u hu=>by cases hu) (Nat.zero_le _) hcle (by
     simp only [List.nil_append,List.length_append,Array.length_toList,size_zeroCells,hzs]
     show _=cap * 1
     rw [← Nat.add_mul]
     congr 1
     omega)
    exact⟨_,Ry.one G 0 .tok (some (G.w.heap.size,(.ints .i64 []:Ct).n * (.ints .i64 []:Ct).sz)) w',he,rfl,rfl,hset0,m2,i2,trivial,trivial,trivial⟩
 ·cases hp
end Go.Proofs.YtakebkfhigadiaaGreat.GwI
namespace Go.Proofs.YtakebkfhigadiaaGreat.Thw
open Go Go.RowKit Ry
theorem fM (n:Nat):¬alive ([]:H) n:=fun ⟨_,h,_⟩=>by cases h
theorem xb {k:dP} {n:Nat} {b:dP} (h:ak [(0,k)] n=some b):n=0∧b=k:=by
 by_cases e:n=0
 ·subst e
  cases h
  exact⟨rfl,rfl⟩
 ·have:bF 0 n=false:=by rw [← Bool.not_eq_true,gN];omega
  simp only [ak,this] at h
  cases h
theorem rN {k:dP} {n:Nat} (h:alive [(0,k)] n):n=0:=by
 obtain⟨b,hb,_⟩:=h
 exact (xb hb).1
theorem BB {P:Program} {f:FuncId} {bJ con' : aW} (ok:aC P f bJ)
  (hcon:∀ xs h p',con' xs h=some p'→h=[]∧∃ C qs T ct,bJ xs []=some ⟨C,.sa (.one (.sl (some (0,T)) ct)),[(0,.tok)],qs⟩∧p' = ⟨p'.C,.sa (.one (.own 0)),[(0,.row T ct)],qs⟩∧(p'.C→C∧0 < ct.n) ∧
   (∀ G G' us,aX G ct us→aX G' ct us)∧(∀ G0 G G0' G' vs,mW G0 G (bS xs []) qs vs→mW G0' G' (bS xs []) qs vs)):aC P f con':=by
 refine⟨ok.1,?_⟩
 intro args h p' hp hC G vs hh hbs hm hv
 obtain⟨rfl,C,qs,T,ct,hc,hp',hi,hfl,has⟩:=hcon _ _ _ hp
 obtain⟨hC1,hn⟩:=hi hC
 have m0:Mem ⟨G.o,[],⟨G.w,fun b j=>G.bs.K b j∨G.bs.X b,fun _=>False⟩,G.w⟩:=⟨rfl,rfl,rfl,Nat.le_refl _,fun _ _ _=>rfl,fun _ _ _ _=>rfl,fun n ha=>(fM n ha).elim,fun n _ ha=>(fM n ha).elim,fun n k hk=>(by cases hk),hY.refl _⟩
 have x0:Ext G ⟨G.o,[],⟨G.w,fun b j=>G.bs.K b j∨G.bs.X b,fun _=>False⟩,G.w⟩ :=
  {ok:=fun b j h=>⟨h.lt,fun hb=>.inl (h.old (by rw [hbs];exact hb)),fun n ha=>(fM n ha).elim⟩
   cell:=fun _ _ _=>rfl
   AS:=hY.refl _
   ids:=fun n k hk=>by rw [hh] at hk;cases hk }
 refine (ok.2 args [] _ hc hC1 _ vs rfl rfl m0 (bh.ext x0 hv)).mono fun e w' ⟨v,G1,he,hw,hb1,hh1,m1,hr1,hs1⟩=>?_
 subst hw
 have hr1:ct.is G1 v∧fo G1 ct.sz v (some (0,T)):=hr1
 obtain⟨hct,htok⟩:=hr1
 have hid:ak G1.h 0=some .tok:=by rw [hh1];rfl
 have hr:mS G1 0 T ct.sz v:=by
  unfold fo at htok
  simp only [hid] at htok
  exact htok
 have os1:=m1.os
 have tp1:=m1.tape
 have op1:=m1.output
 have sz1:=m1.size
 have bl1:=m1.block
 have kp1:=m1.mI
 have ow1:=m1.own 0 ⟨_,hid,rfl⟩
 rw [hb1] at os1 tp1 op1 sz1 bl1 kp1 ow1
 simp only at os1 tp1 op1 sz1 bl1 kp1 ow1
 obtain⟨A1,cap1,xs,e1,hcap1,hcm1,f1,o1,r1⟩:=gR hct
 rcases hr with ⟨a,rfl⟩ | ⟨g,off,n,cap,cur,q1,q2,q3,q4,q5,q6,rfl⟩
 ·simp only [Value.slice.injEq] at e1
  omega
 ·rw [e1] at q1
  simp only [Value.slice.injEq] at q1
  obtain⟨rfl,rfl,rfl⟩:=q1
  obtain⟨hg1,hg2⟩:=ow1 _ _ q2
  have hge:G.w.heap.size≤g:=hg2.elim id fun h=>h.1.elim
  have hcur:cur=(xs ++ cur.toList.drop xs.length).toArray:=by
   apply Array.ext'
   rw [List.toList_toArray]
   apply List.ext_getElem?
   intro j
   by_cases hj:j < xs.length
   ·rw [List.getElem?_append_left hj]
    have hu:xs[j]? = some xs[j]:=List.getElem?_eq_getElem hj
    obtain⟨g',o',e5,hc5⟩:=r1 (by omega)
    cases e5
    have:=(hc5 j _ hu).cell
    unfold World.cell? at this
    simp only [q3,Nat.zero_add] at this
    rw [if_neg (by simp)] at this
    rw [hu,Array.getElem?_toList]
    exact this
   ·rw [List.getElem?_append_right (by omega),List.getElem?_drop]
    congr 1
    omega
  rw [hp']
  refine⟨v,⟨fun _=>some (g,0),[(0,.row T ct)],G.bs,G1.w⟩,he,rfl,rfl,rfl,⟨?_,?_,?_,?_,?_,?_,?_,?_,?_,?_⟩,?_,has _ _ _ _ _ hs1⟩
  ·rw [hbs]
   exact os1
  ·rw [hbs]
   exact tp1
  ·rw [hbs]
   exact op1
  ·rw [hbs]
   exact sz1
  ·intro k hk _
   rw [hbs] at hk ⊢
   exact bl1 k hk id
  ·intro b j hb hk
   rw [hbs] at hb ⊢
   exact kp1 b j hb (.inl hk)
  ·intro n _ g' m h
   cases h
   exact⟨hg1,.inl (by rw [hbs];exact hge)⟩
  ·intro n n' ha ha' _ _ _ _ _
   rw [rN ha,rN ha']
  ·intro n k hk
   obtain⟨rfl,rfl⟩:=xb hk
   exact .inr ⟨g,[],xs,cur.toList.drop xs.length,rfl,by rw [List.nil_append,← hcur];exact q3,hfl _ _ _ f1,o1⟩
  ·have:=m1.AS
   rw [hb1] at this
   rw [hbs]
   exact this
  ·refine⟨⟨_,_,_,e1⟩,?_⟩
   show jW _ _ _ _
   exact .inr ⟨g,0,cap1,T,cur.size,rfl,e1,q4,q5,by unfold World.shape?;simp only [q3],by omega,by omega⟩
end Go.Proofs.YtakebkfhigadiaaGreat.Thw
