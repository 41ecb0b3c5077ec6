/-
  slices.Grow of a nil slice: nothing is in what it gives,and it may be appended to. No condition.
-/
import Derived.Shelf.Spec.SlicesGrow
import Derived.Test.YtelhldgdnlppfaaGreatProg
import Derived.Test.YtelhldgdnlppfaaGreatVsRyOp
import Derived.Test.YtelhldgdnlppfaaGreatVsW14
import Derived.Test.YtelhldgdnlppfaaGreatVsW16
set_option maxRecDepth 100000
set_option maxHeartbeats 4000000
namespace Go.Proofs.YtelhldgdnlppfaaGreat.Sg
open Go Go.Shelf Go.Proofs
def KG:Go.Shelf.Ren:=⟨fun|4=>162|n=>n,fun|22=>26|25=>3|3=>3|4=>4|9=>9|20=>20|0=>0|n=>n,fun|n=>n⟩
theorem UI:Go.Proofs.Lays8.n4 Tryz.prog KG:={
 mixed:=by kernel_rfl,
 f4:=⟨Tryz.f162.name,by decide,Tryz.func162.trans (congrArg some (by kernel_rfl))⟩,
 t0:=Tryz.underlying0,
 a0:=Tryz.isAgg0,
 z0:=Tryz.sizeOf0,
 v0:=Tryz.zeroValue0,
 t3:=Tryz.underlying3,
 a3:=Tryz.isAgg3,
 z3:=Tryz.sizeOf3,
 v3:=Tryz.zeroValue3,
 t4:=Tryz.underlying4,
 a4:=Tryz.isAgg4,
 z4:=Tryz.sizeOf4,
 v4:=Tryz.zeroValue4,
 t9:=Tryz.underlying9,
 a9:=Tryz.isAgg9,
 z9:=Tryz.sizeOf9,
 v9:=Tryz.zeroValue9,
 t20:=Tryz.underlying20,
 a20:=Tryz.isAgg20,
 z20:=Tryz.sizeOf20,
 v20:=Tryz.zeroValue20,
 t22:=Tryz.underlying26,
 a22:=Tryz.isAgg26,
 z22:=Tryz.sizeOf26,
 v22:=Tryz.zeroValue26 }
def Js:Go.Shelf.Ren:=⟨fun|4=>163|n=>n,fun|22=>27|25=>94|3=>3|4=>4|9=>9|20=>20|0=>0|n=>n,fun|n=>n⟩
theorem UX:Go.Proofs.Lays8.n4 Tryz.prog Js:={
 mixed:=by kernel_rfl,
 f4:=⟨Tryz.f163.name,by decide,Tryz.func163.trans (congrArg some (by kernel_rfl))⟩,
 t0:=Tryz.underlying0,
 a0:=Tryz.isAgg0,
 z0:=Tryz.sizeOf0,
 v0:=Tryz.zeroValue0,
 t3:=Tryz.underlying3,
 a3:=Tryz.isAgg3,
 z3:=Tryz.sizeOf3,
 v3:=Tryz.zeroValue3,
 t4:=Tryz.underlying4,
 a4:=Tryz.isAgg4,
 z4:=Tryz.sizeOf4,
 v4:=Tryz.zeroValue4,
 t9:=Tryz.underlying9,
 a9:=Tryz.isAgg9,
 z9:=Tryz.sizeOf9,
 v9:=Tryz.zeroValue9,
 t20:=Tryz.underlying20,
 a20:=Tryz.isAgg20,
 z20:=Tryz.sizeOf20,
 v20:=Tryz.zeroValue20,
 t22:=Tryz.underlying27,
 a22:=Tryz.isAgg27,
 z22:=Tryz.sizeOf27,
 v22:=Tryz.zeroValue27 }
end Go.Proofs.YtelhldgdnlppfaaGreat.Sg
namespace Go.Proofs.YtelhldgdnlppfaaGreat.GwI
open Go Go.Proofs Ry Go.Lib Go.RowKit
structure Gf where
 ok:Int→Bool
def Gf.aa:Gf:=⟨fun n=>decide (0≤n∧n≤1000000)⟩
def nj (F:Gf):aO:=fun xs h=>match xs,h with
 |[.one (.val (.slice none 0 0)),.one (.val (.int .i64 n))],[]=>some ⟨F.ok n=true,.sa (.one (.sl (some (0,3)) (.ints .i64 []))),[(0,.tok)],[Any,Any]⟩
 |_,_=>none
theorem info:∃ i z,Tryz.prog.info? 3=some i∧i.zero=some z∧i.size=1∧i.bytes≤1000∧z.cells.size=1:=by
 have h:(match Tryz.prog.info? 3 with
  |some i=>(match i.zero with
   |some z=>(i.size == 1) && (decide (i.bytes≤1000) && (z.cells.size == 1))
   |none=>false)
  |none=>false)=true:=by kernel_rfl
 split at h
 ·rename_i i hi;split at h
  ·rename_i z hz;simp only [Bool.and_eq_true,beq_iff_eq,decide_eq_true_eq] at h;exact⟨i,z,hi,hz,h.1,h.2.1,h.2.2⟩
  ·cases h
 ·cases h
theorem oe:au Tryz.prog 162 (nj Gf.aa):=by
 refine⟨⟨_,Tryz.func162,rfl,by kernel_rfl⟩,?_⟩;intro args h p hp hC G vs hh hbs hm hv;unfold nj at hp;split at hp
 ·rename_i n;cases hp;have hk:0≤n∧n≤1000000:=of_decide_eq_true hC;have hd:ar G.h 0=none:=by rw [hh];rfl
  have hset0:aM G.h 0 .tok=[(0,.tok)]:=by rw [hh];rfl
  match vs,hv with
  |[v0,v1],⟨hv0,fu,_⟩ =>
   have hv0:v0 = .slice none 0 0:=hv0;have fu:v1 = .int .i64 n:=fu;subst hv0 fu
   by_cases h0:n=0
   ·subst h0;refine (Any8.slices_Grow_room Sg.UI none 0 0 0 G.w (Nat.le_refl _) (by decide) (by decide) (Nat.le_refl _)).mono fun e w' ⟨he,hw⟩=>?_;subst hw;obtain⟨x2,m2⟩:=bQ (G:=G) (d:=0) (k':=.tok) (x:=none) (w':=G.w) hm rfl rfl rfl (Nat.le_refl _) (fun _ _ _=>rfl) (fun _ _ _ _ _ _=>rfl) (fun b m h=>by cases h) (fun k hk _=>by rw [hd] at hk;cases hk) (fun _=>trivial);refine⟨_,Ry.one G 0 .tok none G.w,he,rfl,rfl,hset0,m2,?_,trivial,trivial,trivial⟩;exact⟨⟨none,0,rfl,Nat.le_refl _,by unfold maxLen;omega,fun h=>absurd rfl h⟩,nG (aG _ _ _) (.inl ⟨none,rfl⟩)⟩
   ·have hn:((n.toNat:Nat):Int)=n:=by omega
    obtain⟨i,z,hi,hz,hs,hb,hzs⟩:=info;have hc:=Any8.slices_Grow_grow Sg.UI i z hi hz (by omega) none 0 0 n.toNat [] G.w (Nat.le_refl _) (by omega) (by
     have:(0+n.toNat) * i.bytes≤1000000 * 1000:=Nat.mul_le_mul (by omega) hb;omega) (by omega) (by simp) (fun _=>rfl) (fun a h=>by cases h)
    rw [hn] at hc;have hcge:=grownCap_ge G.w (0+n.toNat) 0 3;have hcle:=grownCap_le_maxLen G.w (0+n.toNat) 0 3 (by unfold maxLen;omega);refine hc.mono fun e w' ⟨he,hw⟩=>?_;change e = .returned (.slice (some ⟨G.w.heap.size,0,none⟩) 0 (grownCap G.w (0+n.toNat) 0 3)) at he;change w' = G.w.drew.alloc (.cells (#[] ++ Builtin.zeroCells z.cells (0+n.toNat - 0) ++ Builtin.zeroCells z.cells (grownCap G.w (0+n.toNat) 0 3 - (0+n.toNat))) 3) at hw;generalize grownCap G.w (0+n.toNat) 0 3=cap at he hw hcge hcle;have hw2:w' = G.w.drew.alloc (.cells ([] ++ ((Builtin.zeroCells z.cells (0+n.toNat - 0)).toList ++ (Builtin.zeroCells z.cells (cap - (0+n.toNat))).toList)).toArray 3):=by
     rw [hw]
     congr 2
     simp
    have hbl:Below G.w.heap.size G.w w':=by
     rw [hw2];exact ((Below.refl _ _).drew).alloc (by simp) _
    obtain⟨x2,m2,i2⟩:=oQ (G:=G) (w':=w') (d:=0) (ct:=.ints .i64 []) (cap:=cap) (e:=3) hm hd hbl (us:=[]) (rest:=(Builtin.zeroCells z.cells (0+n.toNat - 0)).toList ++ (Builtin.zeroCells z.cells (cap - (0+n.toNat))).toList) (by rw [hw2];exact heap_alloc_new _ _) (by rfl) (fun u hu=>by cases hu) (Nat.zero_le _) hcle (by
     simp only [List.nil_append,List.length_append,Array.length_toList,size_zeroCells,hzs];show _=cap * 1;rw [← Nat.add_mul]
     congr 1
     omega)
    exact⟨_,Ry.one G 0 .tok (some (G.w.heap.size,(.ints .i64 []:Ct).n * (.ints .i64 []:Ct).sz)) w',he,rfl,rfl,hset0,m2,i2,trivial,trivial,trivial⟩
 ·cases hp
end Go.Proofs.YtelhldgdnlppfaaGreat.GwI
namespace Go.Proofs.YtelhldgdnlppfaaGreat.Thw
open Go Go.RowKit Ry
theorem iP (n:Nat):¬alive ([]:H) n:=fun ⟨_,h,_⟩=>by cases h
theorem Co {k:fk} {n:Nat} {b:fk} (h:ar [(0,k)] n=some b):n=0∧b=k:=by
 by_cases e:n=0
 ·subst e;cases h;exact⟨rfl,rfl⟩
 ·have:bL 0 n=false:=by rw [← Bool.not_eq_true,jU];omega
  simp only [ar,this] at h;cases h
theorem wu {k:fk} {n:Nat} (h:alive [(0,k)] n):n=0:=by
 obtain⟨b,hb,_⟩:=h;exact (Co hb).1
theorem FJ {P:Program} {f:FuncId} {bC con' : aO} (ok:au P f bC)
  (hcon:∀ xs h p',con' xs h=some p'→h=[]∧∃ C qs T ct,bC xs []=some ⟨C,.sa (.one (.sl (some (0,T)) ct)),[(0,.tok)],qs⟩∧p' = ⟨p'.C,.sa (.one (.own 0)),[(0,.row T ct)],qs⟩∧(p'.C→C∧0 < ct.n) ∧
   (∀ G G' us,aV G ct us→aV G' ct us)∧(∀ G0 G G0' G' vs,oj G0 G (bP xs []) qs vs→oj G0' G' (bP xs []) qs vs)):au P f con':=by
 refine⟨ok.1,?_⟩;intro args h p' hp hC G vs hh hbs hm hv;obtain⟨rfl,C,qs,T,ct,hc,hp',hi,hfl,has⟩:=hcon _ _ _ hp;obtain⟨hC1,hn⟩:=hi hC;have m0:Mem ⟨G.o,[],⟨G.w,fun b j=>G.bs.K b j∨G.bs.X b,fun _=>False⟩,G.w⟩:=⟨rfl,rfl,rfl,Nat.le_refl _,fun _ _ _=>rfl,fun _ _ _ _=>rfl,fun n ha=>(iP n ha).elim,fun n _ ha=>(iP n ha).elim,fun n k hk=>(by cases hk),ku.refl _⟩;have x0:Ext G ⟨G.o,[],⟨G.w,fun b j=>G.bs.K b j∨G.bs.X b,fun _=>False⟩,G.w⟩ :=
  {ok:=fun b j h=>⟨h.lt,fun hb=>.inl (h.old (by rw [hbs];exact hb)),fun n ha=>(iP n ha).elim⟩
   cell:=fun _ _ _=>rfl
   Gx:=ku.refl _
   ids:=fun n k hk=>by rw [hh] at hk;cases hk }
 refine (ok.2 args [] _ hc hC1 _ vs rfl rfl m0 (bj.ext x0 hv)).mono fun e w' ⟨v,G1,he,hw,qi,hh1,m1,hr1,hs1⟩=>?_;subst hw;have hr1:ct.is G1 v∧ic G1 ct.sz v (some (0,T)):=hr1;obtain⟨hct,htok⟩:=hr1;have hid:ar G1.h 0=some .tok:=by rw [hh1];rfl
 have hr:qh G1 0 T ct.sz v:=by
  unfold ic at htok;simp only [hid] at htok;exact htok
 have os1:=m1.os;have tp1:=m1.tape;have op1:=m1.output;have sz1:=m1.size;have bl1:=m1.block;have kp1:=m1.qI;have ow1:=m1.own 0 ⟨_,hid,rfl⟩;rw [qi] at os1 tp1 op1 sz1 bl1 kp1 ow1;simp only at os1 tp1 op1 sz1 bl1 kp1 ow1;obtain⟨A1,cap1,xs,e1,hcap1,hcm1,f1,o1,r1⟩:=jL hct;rcases hr with ⟨a,rfl⟩ | ⟨g,off,n,cap,cur,q1,q2,q3,q4,q5,q6,rfl⟩
 ·simp only [Value.slice.injEq] at e1;omega
 ·rw [e1] at q1;simp only [Value.slice.injEq] at q1;obtain⟨rfl,rfl,rfl⟩:=q1;obtain⟨hg1,hg2⟩:=ow1 _ _ q2;have hge:G.w.heap.size≤g:=hg2.elim id fun h=>h.1.elim;have hcur:cur=(xs ++ cur.toList.drop xs.length).toArray:=by
   apply Array.ext';rw [List.toList_toArray];apply List.ext_getElem?;intro j
   by_cases hj:j < xs.length
   ·rw [List.getElem?_append_left hj];have hu:xs[j]? = some xs[j]:=List.getElem?_eq_getElem hj;obtain⟨g',o',e5,hc5⟩:=r1 (by omega);cases e5;have:=(hc5 j _ hu).cell;unfold World.cell? at this;simp only [q3,Nat.zero_add] at this;rw [if_neg (by simp)] at this;rw [hu,Array.getElem?_toList];exact this
   ·rw [List.getElem?_append_right (by omega),List.getElem?_drop]
    congr 1
    omega
  rw [hp'];refine⟨v,⟨fun _=>some (g,0),[(0,.row T ct)],G.bs,G1.w⟩,he,rfl,rfl,rfl,⟨?_,?_,?_,?_,?_,?_,?_,?_,?_,?_⟩,?_,has _ _ _ _ _ hs1⟩
  ·rw [hbs];exact os1
  ·rw [hbs];exact tp1
  ·rw [hbs];exact op1
  ·rw [hbs];exact sz1
  ·intro k hk _;rw [hbs] at hk ⊢;exact bl1 k hk id
  ·intro b j hb hk;rw [hbs] at hb ⊢;exact kp1 b j hb (.inl hk)
  ·intro n _ g' m h;cases h;exact⟨hg1,.inl (by rw [hbs];exact hge)⟩
  ·intro n n' ha ha' _ _ _ _ _;rw [wu ha,wu ha']
  ·intro n k hk;obtain⟨rfl,rfl⟩:=Co hk;exact .inr ⟨g,[],xs,cur.toList.drop xs.length,rfl,by rw [List.nil_append,← hcur];exact q3,hfl _ _ _ f1,o1⟩
  ·have:=m1.Gx;rw [qi] at this;rw [hbs];exact this
  ·refine⟨⟨_,_,_,e1⟩,?_⟩;show mS _ _ _ _;exact .inr ⟨g,0,cap1,T,cur.size,rfl,e1,q4,q5,by unfold World.shape?;simp only [q3],by omega,by omega⟩
end Go.Proofs.YtelhldgdnlppfaaGreat.Thw
namespace Go.Proofs.YtelhldgdnlppfaaGreat.CtI
open Go Ry
open GwI (nj oe)
def dB (q:List E):List Int:=q.flatMap fun x=>rl x 0
structure XC where
 i:Int
 s:Int
structure XD where
 i:Int
 o:List Int
theorem Fb (l:List E) (j:Nat) (h:j < l.length):l.getD j []=l[j]:=by rw [List.getD_eq_getElem?_getD,List.getElem?_eq_getElem h];rfl
theorem lD (q:List E) (i:Int) (h0:0≤i) (h:i < q.length):dB (q.take (i+1).toNat)=dB (q.take i.toNat) ++ rl (q.getD i.toNat []) 0:=by
 have e:(i+1).toNat=i.toNat+1:=by omega
 have hi:i.toNat < q.length:=by omega
 rw [e,List.take_add_one,Fb _ _ hi,List.getElem?_eq_getElem hi];unfold dB;rw [List.flatMap_append];simp
theorem fa (q:List E) (k:Nat):(dB (q.take k)).length≤(dB q).length:=by
 conv=>rhs;rw [← List.take_append_drop k q]
 unfold dB;rw [List.flatMap_append,List.length_append];omega
def ZM (q:List E) (y:XC):Prop:=0≤y.i∧y.i≤q.length∧y.s=(dB (q.take y.i.toNat)).length
def QY (q:List E) (y:XC):Nat:=q.length - y.i.toNat
def Xb (q:List E) (y:XD):Prop:=0≤y.i∧y.i≤q.length∧y.o=dB (q.take y.i.toNat)
def Sz (q:List E) (y:XD):Nat:=q.length - y.i.toNat
noncomputable def c1I (A:Ar) (q:List E) (y:XC):St:=br Tryz.f136.ntmps [(0,.sl none (.ae (.ints .i64 .nil) q)),(3,.ay y.s),(9,.sl none (.ae (.ints .i64 .nil) q)),(10,.ay (A.dN q)),(11,.ay y.i)] [] [Any]
def c1R (st:St):XC:=⟨bw st 11,bw st 3⟩
noncomputable def c2I (A:Ar) (q:List E) (y:XD):St:=br Tryz.f136.ntmps [(6,.sl (some (1,3)) (.ints .i64 y.o)),(25,.sl none (.ae (.ints .i64 .nil) q)),(26,.ay (A.dN q)),(27,.ay y.i)] [(1,.tok)] [Any]
def c2R (st:St):XD:=⟨bw st 27,ctL (match fW st 6 with | .sl _ c=>c|_=>.ae .nil [])⟩
theorem yq {q:List E} (hl:q.length≤1000) (hc:(dB q).length≤1000000) {i s:Int} (hq:ZM q ⟨i,s⟩):aD .add .i64 i 1=i+1∧0≤s∧s≤1000000∧(i < q.length→aD .add .i64 s ((rl (q.getD i.toNat []) 0).length:Int)=s+(rl (q.getD i.toNat []) 0).length∧0≤s+((rl (q.getD i.toNat []) 0).length:Int)∧(∀ t,QY q ⟨i+1,t⟩ < QY q ⟨i,s⟩)∧ZM q ⟨i+1,s+(rl (q.getD i.toNat []) 0).length⟩):=by
 obtain⟨h0,h1,h2⟩:=hq;simp only at h0 h1 h2;have ht:=fa q i.toNat;refine⟨by rw [aW,wr _ (by omega) (by omega)],by omega,by omega,fun h=>?_⟩;have hn:=lD q i h0 h;have ht2:=fa q (i+1).toNat;rw [hn,List.length_append] at ht2;refine⟨by rw [aW,wr _ (by omega) (by omega)],by omega,fun t=>by simp only [QY];omega,by simp only;omega,by simp only;omega,?_⟩;simp only;rw [hn,List.length_append,h2]
 push_cast
 rfl
theorem zj {q:List E} (hl:q.length≤1000) (hc:(dB q).length≤1000000) {i:Int} {o:List Int} (hq:Xb q ⟨i,o⟩):aD .add .i64 i 1=i+1∧o.length≤1000000∧(i < q.length→o.length+(rl (q.getD i.toNat []) 0).length≤1000000∧(∀ t,Sz q ⟨i+1,t⟩ < Sz q ⟨i,o⟩)∧Xb q ⟨i+1,o ++ rl (q.getD i.toNat []) 0⟩)∧(¬i < q.length→o=dB q):=by
 obtain⟨h0,h1,h2⟩:=hq;simp only at h0 h1 h2;have ht:=fa q i.toNat;rw [← h2] at ht;refine⟨by rw [aW,wr _ (by omega) (by omega)],by omega,fun h=>?_,fun h=>?_⟩
 ·have hn:=lD q i h0 h;have ht2:=fa q (i+1).toNat;rw [hn,List.length_append,← h2] at ht2;refine⟨by omega,fun t=>by simp only [Sz];omega,by simp only;omega,by simp only;omega,?_⟩;simp only;rw [hn,h2]
 ·have e:i=q.length:=by omega
  rw [e,Int.toNat_natCast,List.take_length] at h2;exact h2
structure Cs where
 Ci:List E→List Int
 aau:List E→Bool
 PF:List E→Bool
def Cs.aa:Cs:=⟨dB,fun q=>decide (q.length≤1000∧(dB q).length≤1000000),fun q=>decide (q.length≤1000∧(dB q).length≤1000000∧0 < (dB q).length)⟩
def Ef (F:Cs):aO:=fun xs h=>match xs,h with
 |[.one (.sl none (.ae (.ints .i64 .nil) q))],[]=>some ⟨F.aau q=true,.sa (.one (.sl (some (0,3)) (.ints .i64 (F.Ci q)))),[(0,.tok)],[Any]⟩
 |_,_=>none
theorem sf:au Tryz.prog 136 (Ef Cs.aa):=by
 have hfs:=(ak.cons oe ak.nil rfl);refine aw hfs Tryz.func136 rfl rfl fun xs h p hp=>?_;unfold Ef at hp;split at hp
 ·rename_i q;cases hp;refine⟨av rfl,fun hC _=>?_⟩;dsimp only at hC;intro b gv;have hk:q.length≤1000∧(dB q).length≤1000000:=of_decide_eq_true hC;generalize hF:Cs.aa=F,hG0:GwI.Gf.aa=G0 at hC hfs ⊢;refine bu fun Z zq A hA L hL=>?_
  repeat' (first|(apply al zq;try dsimp only)|apply aS zq (af hL)|apply aq zq|refine aT rfl ?_|apply ai|refine ah rfl ?_|refine aR rfl ?_|exact aA|apply aB|refine aP fun _=>?_|refine aQ fun _=>?_|(constructor;cbv))
  subst hL;refine aJ (aN hfs) (ZM q) (c1I A q) (QY q) c1R ⟨0,0⟩ ?_ ?_ ?_
  ·exact⟨Int.le_refl 0,Int.natCast_nonneg _,rfl⟩
  ·cbv
   repeat' (first|exact trivial|exact rfl|refine And.intro ?_ ?_)
  rintro⟨i,s⟩ hq O hO;obtain⟨e1,q2,q3,hst⟩:=yq hk.1 hk.2 hq;have q0:=hq.1;have q1:=hq.2.1;dsimp only at q0 q1;subst hA;generalize hA:Ar.aa=A;generalize hL:Lp _ _ _=L;refine az zq ?_
  repeat' (first|(apply al zq;try dsimp only)|apply aS zq (af hL)|apply aq zq|refine aT rfl ?_|apply ai|refine ah rfl ?_|refine aR rfl ?_|exact aA|apply aB|refine aP fun _=>?_|refine aQ fun _=>?_|(constructor;cbv))
  all_goals first|(show L _ _ _;skip)|(clear hL hfs zq Z hq;subst hA hF hG0 hO;simp only [Cs.aa,GwI.Gf.aa,Ar.aa] at * <;> grind [aj];done)
  clear hst e1;subst hL;refine aJ (aN hfs) (Xb q) (c2I A q) (Sz q) c2R ⟨0,[]⟩ ?_ ?_ ?_
  ·exact⟨Int.le_refl 0,Int.natCast_nonneg _,rfl⟩
  ·cbv
   repeat' (first|exact trivial|exact rfl|refine And.intro ?_ ?_)
  rintro⟨j,o⟩ hq2 O2 hO2;obtain⟨e2,l2,hs2,he2⟩:=zj hk.1 hk.2 hq2;have k0:=hq2.1;have k1:=hq2.2.1;dsimp only at k0 k1;subst hA;generalize hA:Ar.aa=A;generalize hL:Lp _ _ _=L;refine az zq ?_
  repeat' (first|(apply al zq;try dsimp only)|apply aS zq (af hL)|apply aq zq|refine aT rfl ?_|apply ai|refine ah rfl ?_|refine aR rfl ?_|exact aA|apply aB|refine aP fun _=>?_|refine aQ fun _=>?_|(constructor;cbv))
  all_goals (clear hL hfs zq Z hq hq2;subst hA hF hG0 hO hO2;simp only [Cs.aa,Ar.aa,List.length_append] at * <;> grind [aj])
 ·cases hp
def xX (F:Cs):aO:=fun xs h=>match xs,h with
 |[.one (.sl none (.ae (.ints .i64 .nil) q))],[]=>some ⟨F.PF q=true,.sa (.one (.own 0)),[(0,.row 3 (.ints .i64 (F.Ci q)))],[Any]⟩
 |_,_=>none
theorem tw:au Tryz.prog 136 (xX Cs.aa):=by
 refine Thw.FJ sf fun xs h p hp=>?_;unfold xX at hp;split at hp
 ·cases hp;refine⟨rfl,_,_,_,_,rfl,rfl,fun hC=>?_,fun _ _ _ h=>h,fun _ _ _ _ vs _=>match vs with|[]=>trivial|_ :: _=>⟨trivial,trivial⟩⟩;have hk:=of_decide_eq_true hC;exact⟨decide_eq_true ⟨hk.1,hk.2.1⟩,hk.2.2⟩
 ·cases hp
end Go.Proofs.YtelhldgdnlppfaaGreat.CtI
namespace Go.Proofs.YtelhldgdnlppfaaGreat.GwK
open Go Go.Proofs Ry Go.Lib Go.RowKit
structure Gf where
 ok:Int→Bool
def Gf.aa:Gf:=⟨fun n=>decide (0≤n∧n≤1000000)⟩
def nj (F:Gf):aO:=fun xs h=>match xs,h with
 |[.one (.val (.slice none 0 0)),.one (.val (.int .i64 n))],[]=>some ⟨F.ok n=true,.sa (.one (.sl (some (0,94)) (.ae .bg []))),[(0,.tok)],[Any,Any]⟩
 |_,_=>none
theorem info:∃ i z,Tryz.prog.info? 94=some i∧i.zero=some z∧i.size=5∧i.bytes≤1000∧z.cells.size=5:=by
 have h:(match Tryz.prog.info? 94 with
  |some i=>(match i.zero with
   |some z=>(i.size == 5) && (decide (i.bytes≤1000) && (z.cells.size == 5))
   |none=>false)
  |none=>false)=true:=by kernel_rfl
 split at h
 ·rename_i i hi;split at h
  ·rename_i z hz;simp only [Bool.and_eq_true,beq_iff_eq,decide_eq_true_eq] at h;exact⟨i,z,hi,hz,h.1,h.2.1,h.2.2⟩
  ·cases h
 ·cases h
theorem oe:au Tryz.prog 163 (nj Gf.aa):=by
 refine⟨⟨_,Tryz.func163,rfl,by kernel_rfl⟩,?_⟩;intro args h p hp hC G vs hh hbs hm hv;unfold nj at hp;split at hp
 ·rename_i n;cases hp;have hk:0≤n∧n≤1000000:=of_decide_eq_true hC;have hd:ar G.h 0=none:=by rw [hh];rfl
  have hset0:aM G.h 0 .tok=[(0,.tok)]:=by rw [hh];rfl
  match vs,hv with
  |[v0,v1],⟨hv0,fu,_⟩ =>
   have hv0:v0 = .slice none 0 0:=hv0;have fu:v1 = .int .i64 n:=fu;subst hv0 fu
   by_cases h0:n=0
   ·subst h0;refine (Any8.slices_Grow_room Sg.UX none 0 0 0 G.w (Nat.le_refl _) (by decide) (by decide) (Nat.le_refl _)).mono fun e w' ⟨he,hw⟩=>?_;subst hw;obtain⟨x2,m2⟩:=bQ (G:=G) (d:=0) (k':=.tok) (x:=none) (w':=G.w) hm rfl rfl rfl (Nat.le_refl _) (fun _ _ _=>rfl) (fun _ _ _ _ _ _=>rfl) (fun b m h=>by cases h) (fun k hk _=>by rw [hd] at hk;cases hk) (fun _=>trivial);refine⟨_,Ry.one G 0 .tok none G.w,he,rfl,rfl,hset0,m2,?_,trivial,trivial,trivial⟩;exact⟨⟨none,0,rfl,Nat.le_refl _,by unfold maxLen;omega,fun h=>absurd rfl h⟩,nG (aG _ _ _) (.inl ⟨none,rfl⟩)⟩
   ·have hn:((n.toNat:Nat):Int)=n:=by omega
    obtain⟨i,z,hi,hz,hs,hb,hzs⟩:=info;have hc:=Any8.slices_Grow_grow Sg.UX i z hi hz (by omega) none 0 0 n.toNat [] G.w (Nat.le_refl _) (by omega) (by
     have:(0+n.toNat) * i.bytes≤1000000 * 1000:=Nat.mul_le_mul (by omega) hb;omega) (by omega) (by simp) (fun _=>rfl) (fun a h=>by cases h)
    rw [hn] at hc;have hcge:=grownCap_ge G.w (0+n.toNat) 0 94;have hcle:=grownCap_le_maxLen G.w (0+n.toNat) 0 94 (by unfold maxLen;omega);refine hc.mono fun e w' ⟨he,hw⟩=>?_;change e = .returned (.slice (some ⟨G.w.heap.size,0,none⟩) 0 (grownCap G.w (0+n.toNat) 0 94)) at he;change w' = G.w.drew.alloc (.cells (#[] ++ Builtin.zeroCells z.cells (0+n.toNat - 0) ++ Builtin.zeroCells z.cells (grownCap G.w (0+n.toNat) 0 94 - (0+n.toNat))) 94) at hw;generalize grownCap G.w (0+n.toNat) 0 94=cap at he hw hcge hcle;have hw2:w' = G.w.drew.alloc (.cells ([] ++ ((Builtin.zeroCells z.cells (0+n.toNat - 0)).toList ++ (Builtin.zeroCells z.cells (cap - (0+n.toNat))).toList)).toArray 94):=by
     rw [hw]
     congr 2
     simp
    have hbl:Below G.w.heap.size G.w w':=by
     rw [hw2];exact ((Below.refl _ _).drew).alloc (by simp) _
    obtain⟨x2,m2,i2⟩:=oQ (G:=G) (w':=w') (d:=0) (ct:=.ae .bg []) (cap:=cap) (e:=94) hm hd hbl (us:=[]) (rest:=(Builtin.zeroCells z.cells (0+n.toNat - 0)).toList ++ (Builtin.zeroCells z.cells (cap - (0+n.toNat))).toList) (by rw [hw2];exact heap_alloc_new _ _) ⟨rfl,fun j x h=>(by cases h)⟩ (fun u hu=>by cases hu) (Nat.zero_le _) hcle (by
     simp only [List.nil_append,List.length_append,Array.length_toList,size_zeroCells,hzs];show _=cap * 5;rw [← Nat.add_mul]
     congr 1
     omega)
    exact⟨_,Ry.one G 0 .tok (some (G.w.heap.size,(.ae .bg []:Ct).n * (.ae .bg []:Ct).sz)) w',he,rfl,rfl,hset0,m2,i2,trivial,trivial,trivial⟩
 ·cases hp
end Go.Proofs.YtelhldgdnlppfaaGreat.GwK
