/-
  How ways are found: from an end on,node by node. No condition.
-/
import Derived.Test.YtelhldgdnlppfaaGreatVsSpT
namespace Go.Proofs.YtelhldgdnlppfaaGreat.SpO
open Go Ry Go.Proofs.YtelhldgdnlppfaaGreat.So JoS EgR SpR SpQ SpT
structure XL where
 i:Int
 o:List E
end Go.Proofs.YtelhldgdnlppfaaGreat.SpO
namespace Go.Proofs.YtelhldgdnlppfaaGreat.SpL
open Go Ry Go.Proofs.YtelhldgdnlppfaaGreat.So JoS JoR JoW EgR EgL SpR SpQ SpK SpT SpO
theorem AN {l:List E} (h:kS l=0):gJ l=true:=by
 cases g:gJ l with
 |true=>rfl
 |false =>
  unfold kS at h;rw [g,if_neg (by decide)] at h;exact absurd h (by decide)
theorem ZO {y:E} (h:qe y=true):qp (bM y):=by
 have:=wU h;exact⟨⟨this.1,this.2.1⟩,⟨this.2.2.1,this.2.2.2.1⟩⟩
theorem afV {l:List E} (h:gJ l=true):∀ y∈l,qp (bM y):=fun y hy=>ZO (((fU l).1 h).1 y hy)
theorem agj {l:List E} (h:gJ l=true) (hl:l.length≤1000000):rQ l=true:=eD.2 ⟨hl,fun y hy=>by
 have:=wU (((fU l).1 h).1 y hy);omega⟩
theorem tO {l:List E} (h:kS l=0):gw l=JJ l:=by
 have hl:=afV (AN h);have a:=yA l HN OK hl;have b:=aaK hl;unfold gw;rw [decide_eq_true h,Bool.true_and,Bool.eq_iff_iff];exact a.trans b.symm
end Go.Proofs.YtelhldgdnlppfaaGreat.SpL
namespace Go.Proofs.YtelhldgdnlppfaaGreat.SpN
open Go Ry Go.Proofs.YtelhldgdnlppfaaGreat.So JoS JoR JoW EgR EgL SpR SpQ SpK SpT SpO SpL
theorem gK (l:List E):kS l=0↔CJ (l.map bM)∧l.length≤512:=by
 have h:=ZL l;unfold kS;split
 ·rename_i g;split
  ·constructor
   ·intro q;cases q
   ·intro q;omega
  ·exact⟨fun _=>⟨h.1 g,by omega⟩,fun _=>rfl⟩
 ·rename_i g;exact⟨fun q=>(by cases q),fun q=>absurd (h.2 q.1) g⟩
structure Oth (l o:List E):Prop where
 f:Ax [] (o.map bM)
 m:∀ y∈o,bM y∈l.map bM
def iv (f:List E) (c:T):List E:=(f.filter fun z=>decide (¬bM z=c)).map e3
theorem SB (f:List E) (c:T):(iv f c).map bM=(f.map bM).filter fun z=>decide (¬z=c):=by
 unfold iv;rw [List.map_map,List.filter_map];rfl
theorem HH (f:List E) (c:T):(iv f c).length≤f.length:=by
 unfold iv;rw [List.length_map];exact List.length_filter_le _ _
end Go.Proofs.YtelhldgdnlppfaaGreat.SpN
namespace Go.Proofs.YtelhldgdnlppfaaGreat.TrK
open Go Ry Go.Proofs.YtelhldgdnlppfaaGreat.So JoS JoR JoW EgR EgL SpR SpQ SpK SpT SpL SpN
def wo (l:List T) (y:T):List T:=l.filter fun z=>decide (¬z=y)
theorem DC {l:List T} {y z:T}:z∈wo l y↔z∈l∧z≠y:=by
 unfold wo;simp
structure Fo (l:List T):Prop where
 ji:CJ l
 Ax:Ax [] l
theorem CO {y:T} (h:ky y.1 y.2.1 y.2.2=true):cZ y.1∧cZ y.2.1∧y.1 < y.2.1:=by
 unfold ky at h;rw [decide_eq_true_eq] at h;unfold cZ;omega
theorem Fo.ok {l:List T} (h:Fo l):∀ y∈l,qp y:=fun y hy=>⟨(CO (h.ji.1 y hy)).1,(CO (h.ji.1 y hy)).2.1⟩
theorem Zc {l:List T} {y:T} (hy:y∈l):(wo l y).length < l.length:=List.length_filter_lt_length_iff_exists.2 ⟨y,hy,by simp⟩
theorem Fo.cut {l:List T} (h:Fo l) {y:T} (hy:y∈l):¬Cn (wo l y) y.1 y.2.1:=Ux parts h.ok h.Ax hy List.filter_sublist (Zc hy) fun z hz=>by
 by_cases e:z=y
 ·exact .inl e
 ·exact .inr (DC.2 ⟨hz,e⟩)
def En (y:T) (a c:Int):Prop:=y.1=a∧y.2.1=c∨y.2.1=a∧y.1=c
theorem GO {y:T} {a c:Int} (h:En y a c):En y c a:=by
 unfold En at *;rcases h with ⟨a,b⟩ | ⟨a,b⟩
 ·exact .inr ⟨b,a⟩
 ·exact .inl ⟨b,a⟩
theorem MO {l:List T} {y:T} (hy:y∈l) {a c:Int} (h:En y a c):Cn l a c:=.one .refl hy h
theorem Fo.acm {l:List T} (h:Fo l) {y:T} (hy:y∈l) {a c:Int} (e:En y a c):¬Cn (wo l y) a c:=by
 intro q;rcases e with ⟨rfl,rfl⟩ | ⟨rfl,rfl⟩
 ·exact h.cut hy q
 ·exact h.cut hy (fM q)
theorem Fo.ne {l:List T} (h:Fo l) {y:T} (hy:y∈l) {a c:Int} (e:En y a c):a≠c:=by
 intro q;have:=(CO (h.ji.1 y hy)).2.2;unfold En at e;omega
inductive Wy (l:List T) (b:Int):Int→List Int→Prop
 |one:Wy l b b [b]
 |go {a c:Int} {p:List Int} {y:T}:y∈l→En y a c→Wy l b c p→a ∉ p→Wy l b a (a :: p)
theorem xW {l:List T} {a b:Int} {p:List Int} (h:Wy l b a p):∃ q,p=a :: q:=by
 cases h with
 |one=>exact⟨[],rfl⟩
 |go _ _ _ _=>exact⟨_,rfl⟩
theorem XX {l:List T} {a b:Int} {p:List Int} (h:Wy l b a p):a∈p:=by
 obtain⟨q,e⟩:=xW h;rw [e];exact List.mem_cons_self ..
theorem FC {l:List T} {a b:Int} {p:List Int} (h:Wy l b a p):b∈p:=by
 induction h with
 |one=>exact List.mem_cons_self ..
 |go _ _ _ _ ih=>exact List.mem_cons_of_mem _ ih
theorem OR {l:List T} {a b:Int} {p:List Int} (h:Wy l b a p):p.Nodup:=by
 induction h with
 |one=>simp
 |go _ _ _ n ih=>exact List.nodup_cons.2 ⟨n,ih⟩
theorem FZ {l:List T} {a b:Int} {p:List Int} (h:Wy l b a p) {y:T}:¬(y.1∈p∧y.2.1∈p)→∀ x∈p,Cn (wo l y) a x:=by
 induction h with
 |one =>
  intro _ x hx;rw [List.mem_singleton] at hx;rw [hx];exact .refl
 | @go a c p z hz e w n ih =>
  intro hn x hx;rcases List.mem_cons.1 hx with rfl|hx
  ·exact .refl
  ·have hne:z≠y:=by
    rintro rfl;apply hn;have:=XX w;rcases e with ⟨rfl,rfl⟩ | ⟨rfl,rfl⟩
    ·exact⟨List.mem_cons_self ..,List.mem_cons_of_mem _ this⟩
    ·exact⟨List.mem_cons_of_mem _ this,List.mem_cons_self ..⟩
   exact bN (MO (DC.2 ⟨hz,hne⟩) e) (ih (fun k=>hn ⟨List.mem_cons_of_mem _ k.1,List.mem_cons_of_mem _ k.2⟩) x hx)
theorem YL {l:List T} {a b:Int} {p:List Int} (h:Wy l b a p):Cn l a b:=by
 induction h with
 |one=>exact .refl
 |go hz e _ _ ih=>exact bN (MO hz e) ih
theorem Io {l:List T} {a b:Int} {p:List Int} (h:Wy l b a p) {y:T} (n:¬(y.1∈p∧y.2.1∈p)):Cn (wo l y) a b:=FZ h n b (FC h)
inductive Nb:List Int→Int→Int→Prop
 |here {x z:Int} {p:List Int}:Nb (x :: z :: p) x z
 |more {x z w:Int} {p:List Int}:Nb p x z→Nb (w :: p) x z
theorem Le {l:List T} (f:Fo l) {a b:Int} {p:List Int} (h:Wy l b a p) {y:T} (hy:y∈l):y.1∈p→y.2.1∈p→(∃ u v,Nb p u v∧En y u v∧Cn (wo l y) a u∧Cn (wo l y) v b):=by
 induction h with
 |one =>
  intro h1 h2;rw [List.mem_singleton] at h1 h2;exact absurd (h1.trans h2.symm) (f.ne hy (.inl ⟨rfl,rfl⟩))
 | @go a c p z hz e w n ih =>
  intro h1 h2
  by_cases q:z=y
  ·subst q;have hoff:¬(z.1∈p∧z.2.1∈p):=by
    rintro⟨k1,k2⟩;rcases e with ⟨rfl,rfl⟩ | ⟨rfl,rfl⟩
    ·exact n k1
    ·exact n k2
   obtain⟨p',rfl⟩:=xW w;exact⟨a,c,.here,e,.refl,Io w hoff⟩
  ·have st:Cn (wo l y) a c:=MO (DC.2 ⟨hz,q⟩) e;have bad:∀ x,x∈p→En y a x→False:=fun x hx ey=>by
    have hoff:¬(y.1∈p∧y.2.1∈p):=by
     rintro⟨k1,k2⟩;rcases ey with ⟨rfl,rfl⟩ | ⟨rfl,rfl⟩
     ·exact n k1
     ·exact n k2
    exact f.acm hy ey (bN st (FZ w hoff x hx))
   rcases List.mem_cons.1 h1 with k1|k1
   ·rcases List.mem_cons.1 h2 with k2|k2
    ·exact absurd (k1.trans k2.symm) (f.ne hy (.inl ⟨rfl,rfl⟩))
    ·exact (bad _ k2 (.inl ⟨k1,rfl⟩)).elim
   ·rcases List.mem_cons.1 h2 with k2|k2
    ·exact (bad _ k1 (.inr ⟨k2,rfl⟩)).elim
    ·obtain⟨u,v,i1,i2,i3,i4⟩:=ih k1 k2;exact⟨u,v,.more i1,i2,bN st i3,i4⟩
theorem Ul {l:List T} (f:Fo l) {a b:Int} {p:List Int} (h:Wy l b a p) {y:T} (hy:y∈l):¬Cn (wo l y) a b↔y.1∈p∧y.2.1∈p:=by
 constructor
 ·intro q;exact Classical.byContradiction fun n=>q (Io h n)
 ·rintro⟨h1,h2⟩ q;obtain⟨u,v,_,e,c1,c2⟩:=Le f h hy h1 h2;exact f.acm hy e (bN (fM c1) (bN q (fM c2)))
theorem Ia {y:T} {a c d:Int} (h:En y a c) (g:En y a d) (n:a≠c):c=d:=by
 unfold En at *;omega
theorem We {p:List Int} (nd:p.Nodup) (h:∀ x∈p,cZ x):p.length≤64:=by
 have h2:(p.map Int.toNat).Nodup:=by
  refine List.pairwise_map.2 (nd.imp_of_mem fun {x y} hx hy k e=>k ?_);have:=h x hx;have:=h y hy;unfold cZ at *;omega
 have h3:∀ x∈p.map Int.toNat,x < 65∧x≠0:=by
  intro x hx;obtain⟨y,hy,rfl⟩:=List.mem_map.1 hx;have:=h y hy;unfold cZ at this;omega
 have key:∀ (n:Nat) (q:List Nat),q.Nodup→(∀ x∈q,x < n+1∧x≠0)→q.length≤n:=by
  intro n
  induction n with
  |zero =>
   intro q _ hq;cases q with
   |nil=>exact Nat.le_refl _
   |cons x q =>
    have:=hq x (List.mem_cons_self ..);omega
  |succ n ih =>
   intro q nq hq;have a:=ih (q.filter fun x=>decide (x < n+1)) (nq.sublist List.filter_sublist) fun x hx=>by
    obtain⟨k1,k2⟩:=List.mem_filter.1 hx;exact⟨of_decide_eq_true k2,(hq x k1).2⟩
   have b:(q.filter fun x=>!decide (x < n+1)).length≤1:=by
    have hs:∀ x∈q.filter (fun x=>!decide (x < n+1)),x=n+1:=by
     intro x hx;obtain⟨k1,k2⟩:=List.mem_filter.1 hx;have:=(hq x k1).1;simp at k2;omega
    have nq2:=nq.sublist (List.filter_sublist (p:=fun x=>!decide (x < n+1)));generalize q.filter (fun x=>!decide (x < n+1))=r at hs nq2
    match r,hs,nq2 with
    |[],_,_=>exact Nat.zero_le _
    |[_],_,_=>exact Nat.le_refl _
    |x :: y :: _,hs,nq2 =>
     exfalso;have e1:=hs x (by simp);have e2:=hs y (by simp);rw [e1,e2] at nq2;simp at nq2
   have c:=List.length_eq_countP_add_countP (fun x=>decide (x < n+1)) (l:=q);rw [List.countP_eq_length_filter,List.countP_eq_length_filter] at c;have e:(fun x=>decide ¬decide (x < n+1)=true)=fun x=>!decide (x < n+1):=by
    funext x
    cases decide (x < n+1) <;> rfl
   rw [e] at c;omega
 have:=key 64 (p.map Int.toNat) h2 h3;rw [List.length_map] at this;exact this
end Go.Proofs.YtelhldgdnlppfaaGreat.TrK
namespace Go.Proofs.YtelhldgdnlppfaaGreat.TrB
open Go Ry Go.Proofs.YtelhldgdnlppfaaGreat.So JoS EgR EgL SpK SpT SpN TrK
structure BT where
 h:List Int
 m:List Int
def ot (y:E) (c:Int):Int:=qM (ri y 0) (ri y 1) c
def UN (c:Int) (s:BT) (y:E):BT:=if ot y c≠0∧ix s.h (ot y c)=0 then ⟨s.h.set (ot y c).toNat c,s.m ++ [ot y c]⟩ else s
def QE (l:List E) (c:Int) (s:BT):BT:=l.foldl (UN c) s
def QI (l:List E):Nat→Nat→BT→BT
 |0,_,s=>s
 |k+1,i,s=>if i < s.m.length then QI l k (i+1) (QE l (s.m.getD i 0) s) else s
def QD:List Int:=List.replicate 65 0
def tw0 (e:Int):BT:=⟨QD.set e.toNat e,[e]⟩
def Gd (l:List E) (e:Int):BT:=QI l 65 0 (tw0 e)
def qQ (l:List E) (e:Int):List Int:=(Gd l e).h
def wF:Nat→List Int→Int→List Int
 |0,_,_=>[]
 |k+1,h,n=>n :: (if ix h n=n then [] else wF k h (ix h n))
def Pn:Nat→List Int→Int→Bool
 |0,_,_=>false
 |k+1,h,n=>decide (0≤n∧n < 65) && (decide (ix h n=n) || Pn k h (ix h n))
inductive JQ (h:List Int):Int→List Int→Prop
 |one {n:Int}:ix h n=n→JQ h n [n]
 |go {n:Int} {p:List Int}:ix h n≠n→JQ h (ix h n) p→JQ h n (n :: p)
theorem Rb {h:List Int} {n v c:Int} {p:List Int} (f:JQ h n p) (hv:0≤v) (hl:v < h.length):v ∉ p→(∀ x∈p,0≤x)→JQ (h.set v.toNat c) n p:=by
 induction f with
 | @one n e =>
  intro nv np;refine .one ?_;have:=np n (List.mem_cons_self ..);rw [dX h n v c this hv hl,if_neg (fun q=>nv (by rw [← q];exact List.mem_cons_self ..))];exact e
 | @go n p e w ih =>
  intro nv np;have:=np n (List.mem_cons_self ..);have q:ix (h.set v.toNat c) n=ix h n:=by rw [dX h n v c this hv hl,if_neg (fun q=>nv (by rw [← q];exact List.mem_cons_self ..))]
  refine .go (by rw [q];exact e) ?_;rw [q];exact ih (fun k=>nv (List.mem_cons_of_mem _ k)) fun x hx=>np x (List.mem_cons_of_mem _ hx)
theorem abo {h:List Int} {n:Int} {p:List Int} (f:JQ h n p):∀ k,p.length≤k→(∀ x∈p,cZ x)→wF k h n=p∧Pn k h n=true:=by
 induction f with
 | @one n e =>
  intro k hk np;cases k with
  |zero=>simp at hk
  |succ k =>
   have:=np n (List.mem_cons_self ..);unfold cZ at this;unfold wF Pn;rw [if_pos e];refine⟨rfl,?_⟩;rw [decide_eq_true e,decide_eq_true (show 0≤n∧n < 65 by omega)];rfl
 | @go n p e w ih =>
  intro k hk np;cases k with
  |zero=>simp at hk
  |succ k =>
   have:=np n (List.mem_cons_self ..);unfold cZ at this;obtain⟨i1,i2⟩:=ih k (by simpa using hk) fun x hx=>np x (List.mem_cons_of_mem _ hx);unfold wF Pn;rw [if_neg e,i1,i2,decide_eq_true (show 0≤n∧n < 65 by omega),Bool.or_true];exact⟨rfl,rfl⟩
structure BI (L:List T) (b:Int) (s:BT):Prop where
 len:s.h.length=65
 nd:s.m.Nodup
 mem:∀ n,cZ n→(n∈s.m↔ix s.h n≠0)
 Qh:∀ n∈s.m,cZ n
 way:∀ n∈s.m,∃ p,Wy L b n p∧JQ s.h n p∧∀ x∈p,x∈s.m
 bm:b∈s.m
 z0:ix s.h 0=0
theorem yU {L:List T} {b:Int} {s:BT} (h:BI L b s):s.m.length≤64:=We h.nd h.Qh
theorem adk (L:List T) {b:Int} (hb:cZ b):BI L b (tw0 b):=by
 have hl:QD.length=65:=List.length_replicate;have hz:∀ n:Int,ix QD n=0:=fun n=>by
  unfold ix QD;rw [List.getD_eq_getElem?_getD,List.getElem?_replicate];split <;> rfl
 have hn:=hb;unfold cZ at hn;refine⟨by unfold tw0;rw [List.length_set];exact hl,by simp [tw0],fun n k=>?_,fun n k=>?_,fun n k=>?_,by simp [tw0],?_⟩
 ·unfold cZ at k;show n∈[b]↔ix (QD.set b.toNat b) n≠0;rw [dX QD n b b (by omega) (by omega) (by rw [hl];omega),hz,List.mem_singleton];split
  ·rename_i e;exact⟨fun _=>by omega,fun _=>e⟩
  ·rename_i e;exact⟨fun q=>absurd q e,fun q=>absurd rfl q⟩
 ·rw [List.mem_singleton.1 k];exact hb
 ·rw [List.mem_singleton.1 k];refine⟨[b],.one,.one ?_,fun x hx=>hx⟩;show ix (QD.set b.toNat b) b=b;rw [dX QD b b b (by omega) (by omega) (by rw [hl];omega),if_pos rfl]
 ·show ix (QD.set b.toNat b) 0=0;rw [dX QD 0 b b (by omega) (by omega) (by rw [hl];omega),hz];split <;> omega
theorem Ou {y:E} {c:Int} (h:ot y c≠0):En (bM y) c (ot y c):=by
 unfold ot qM at *;unfold En bM;split at h
 ·rename_i e;rw [if_pos e];exact .inl ⟨e.symm,rfl⟩
 ·rename_i e;rw [if_neg e];split at h
  ·rename_i q;rw [if_pos q];exact .inr ⟨q.symm,rfl⟩
  ·exact absurd rfl h
theorem aaR {y:E} {a c:Int} (h:En (bM y) a c) (n:a≠c):ot y a=c:=by
 unfold ot qM;unfold En bM at h;simp only at h;rcases h with ⟨e1,e2⟩ | ⟨e1,e2⟩
 ·rw [if_pos e1.symm];exact e2
 ·rw [if_neg (by omega),if_pos e1.symm];exact e2
theorem zW {y:T} (h:qp y) {a c:Int} (e:En y a c):cZ a∧cZ c:=by
 rcases e with ⟨rfl,rfl⟩ | ⟨rfl,rfl⟩
 ·exact h
 ·exact⟨h.2,h.1⟩
theorem afR {L:List T} (hL:∀ y∈L,qp y) {b c:Int} {s:BT} (h:BI L b s) (hc:c∈s.m) {y:E} (hy:bM y∈L):BI L b (UN c s y)∧(∃ t,(UN c s y).m=s.m ++ t)∧(ot y c≠0→ot y c∈(UN c s y).m):=by
 unfold UN
 by_cases q:ot y c≠0∧ix s.h (ot y c)=0
 ·rw [if_pos q];have en:=Ou q.1;have hn:=(zW (hL _ hy) en).2;have hn2:=hn;unfold cZ at hn2;have nm:ot y c ∉ s.m:=fun k=>((h.mem _ hn).1 k) q.2;have l:=h.len;have hcn:=h.Qh c hc;refine⟨⟨by simp only [List.length_set];exact l,?_,fun n k=>?_,fun n k=>?_,fun n k=>?_,List.mem_append_left _ h.bm,?_⟩,⟨_,rfl⟩,fun _=>List.mem_append_right _ (List.mem_singleton.2 rfl)⟩
  ·rw [List.nodup_append];exact⟨h.nd,by simp,fun x hx z hz e=>nm (by rw [List.mem_singleton] at hz;rw [← hz,← e];exact hx)⟩
  ·have kn:=k;unfold cZ at k;rw [dX s.h n (ot y c) c (by omega) (by omega) (by omega),List.mem_append,List.mem_singleton,h.mem n kn];split
   ·rename_i e;unfold cZ at hcn;exact⟨fun _=>by omega,fun _=>.inr e⟩
   ·rename_i e;exact⟨fun k=>k.elim id fun w=>absurd w e,.inl⟩
  ·rcases List.mem_append.1 k with k|k
   ·exact h.Qh n k
   ·rw [List.mem_singleton.1 k];exact hn
  ·have old:∀ n∈s.m,∃ p,Wy L b n p∧JQ (s.h.set (ot y c).toNat c) n p∧∀ x∈p,x∈s.m:=fun n k=>by
    obtain⟨p,w1,w2,w3⟩:=h.way n k;exact⟨p,w1,Rb w2 (by omega) (by omega) (fun z=>nm (w3 _ z)) (fun x hx=>by have:=h.Qh x (w3 x hx);unfold cZ at this;omega),w3⟩
   rcases List.mem_append.1 k with k|k
   ·obtain⟨p,w1,w2,w3⟩:=old n k;exact⟨p,w1,w2,fun x hx=>List.mem_append_left _ (w3 x hx)⟩
   ·rw [List.mem_singleton.1 k];obtain⟨p,w1,w2,w3⟩:=old c hc;have e:ix (s.h.set (ot y c).toNat c) (ot y c)=c:=by rw [dX s.h _ _ c (by omega) (by omega) (by omega),if_pos rfl]
    have ne:c≠ot y c:=fun z=>nm (z ▸ hc);refine⟨ot y c :: p,.go hy (GO en) w1 (fun z=>nm (w3 _ z)),.go (by rw [e];exact ne) (by rw [e];exact w2),fun x hx=>?_⟩;rcases List.mem_cons.1 hx with rfl|hx
    ·exact List.mem_append_right _ (List.mem_singleton.2 rfl)
    ·exact List.mem_append_left _ (w3 x hx)
  ·show ix (s.h.set (ot y c).toNat c) 0=0;rw [dX s.h 0 _ c (by omega) (by omega) (by omega),if_neg (by omega)];exact h.z0
 ·rw [if_neg q];refine⟨h,⟨[],(List.append_nil _).symm⟩,fun k=>?_⟩;have hn:=(zW (hL _ hy) (Ou k)).2;exact (h.mem _ hn).2 fun e=>q ⟨k,e⟩
theorem WS {L:List T} (hL:∀ y∈L,qp y) {b c:Int}:∀ {l:List E} {s:BT},BI L b s→c∈s.m→(∀ y∈l,bM y∈L)→BI L b (QE l c s)∧(∃ t,(QE l c s).m=s.m ++ t)∧(∀ y∈l,ot y c≠0→ot y c∈(QE l c s).m)
 |[],s,h,_,_=>⟨h,⟨[],(List.append_nil _).symm⟩,fun _ hy=>by cases hy⟩
 |y :: l,s,h,hc,hl=>by
  obtain⟨a1,⟨t,a2⟩,a3⟩:=afR hL h hc (hl y (List.mem_cons_self ..));obtain⟨b1,⟨r,b2⟩,b3⟩:=WS hL (l:=l) a1 (by rw [a2];exact List.mem_append_left _ hc) fun z hz=>hl z (List.mem_cons_of_mem _ hz);refine⟨b1,⟨t ++ r,?_⟩,fun z hz k=>?_⟩
  ·show (QE l c (UN c s y)).m=_;rw [b2,a2,List.append_assoc]
  ·show ot z c∈(QE l c (UN c s y)).m;rcases List.mem_cons.1 hz with rfl|hz
   ·rw [b2];exact List.mem_append_left _ (a3 k)
   ·exact b3 z hz k
def Clo (l:List E) (i:Nat) (s:BT):Prop:=∀ j,j < i→∀ y∈l,ot y (s.m.getD j 0)≠0→ot y (s.m.getD j 0)∈s.m
theorem abw {L:List T} (hL:∀ y∈L,qp y) {b:Int} {l:List E} (hl:∀ y∈l,bM y∈L):∀ (k i:Nat) (s:BT),BI L b s→i≤s.m.length→65≤k+i→Clo l i s→BI L b (QI l k i s)∧Clo l (QI l k i s).m.length (QI l k i s)
 |0,i,s,h,hi,hk,_=>by
  have:=yU h;omega
 |k+1,i,s,h,hi,hk,hc=>by
  unfold QI;split
  ·rename_i q;have hm:s.m.getD i 0∈s.m:=by
    rw [List.getD_eq_getElem?_getD,List.getElem?_eq_getElem q];exact List.getElem_mem q
   obtain⟨a1,⟨t,a2⟩,a3⟩:=WS hL (l:=l) h hm hl;refine abw hL hl k (i+1) _ a1 (by rw [a2,List.length_append];omega) (by omega) fun j hj y hy=>?_;have e:(QE l (s.m.getD i 0) s).m.getD j 0=s.m.getD j 0:=by
    rw [a2,List.getD_eq_getElem?_getD,List.getD_eq_getElem?_getD,List.getElem?_append_left (by omega)]
   rw [e]
   by_cases z:j=i
   ·rw [z];exact a3 y hy
   ·intro w;rw [a2];exact List.mem_append_left _ (hc j (by omega) y hy w)
  ·rename_i q;have e:i=s.m.length:=by omega
   rw [e] at hc;exact⟨h,hc⟩
theorem PE {l:List E} (f:Fo (l.map bM)) {b:Int} (hb:cZ b):BI (l.map bM) b (Gd l b)∧∀ n,Cn (l.map bM) b n→n∈(Gd l b).m:=by
 have hl:∀ y∈l,bM y∈l.map bM:=fun y hy=>List.mem_map_of_mem hy;obtain⟨a,c⟩:=abw f.ok (l:=l) hl 65 0 (tw0 b) (adk _ hb) (Nat.zero_le _) (by omega) (fun j hj=>absurd hj (Nat.not_lt_zero _));have a:BI (l.map bM) b (Gd l b):=a;have c:Clo l (Gd l b).m.length (Gd l b):=c;refine⟨a,fun n h=>?_⟩
 induction h with
 |refl=>exact a.bm
 | @one x z y _ hy e ih =>
  obtain⟨w,hw,rfl⟩:=List.mem_map.1 hy;have ne:=f.ne hy e;have eo:=aaR e ne;obtain⟨j,hj,ej⟩:=List.getElem_of_mem ih;have nz:z≠0:=by
   have:=(zW (f.ok _ hy) e).2;unfold cZ at this;omega
  have:=c j hj w hw;rw [List.getD_eq_getElem?_getD,List.getElem?_eq_getElem hj,Option.getD_some,ej,eo] at this;exact this nz
theorem HT {l:List E} (f:Fo (l.map bM)) {b n:Int} (hb:cZ b) (hn:cZ n):ix (qQ l b) n≠0↔Cn (l.map bM) b n:=by
 obtain⟨a,c⟩:=PE f hb;show ix (Gd l b).h n≠0↔_;rw [← a.mem n hn];constructor
 ·intro k;obtain⟨p,w,_,_⟩:=a.way n k;exact fM (YL w)
 ·exact c n
theorem TE {l:List E} (f:Fo (l.map bM)) {b n:Int} (hb:cZ b) (h:Cn (l.map bM) b n):Wy (l.map bM) b n (wF 65 (qQ l b) n)∧Pn 65 (qQ l b) n=true∧JQ (qQ l b) n (wF 65 (qQ l b) n)∧(wF 65 (qQ l b) n).length≤64:=by
 obtain⟨a,c⟩:=PE f hb;obtain⟨p,w,g,k⟩:=a.way n (c n h);have np:=fun x hx=>a.Qh x (k x hx);have lp:=We (OR w) np;obtain⟨e1,e2⟩:=abo g 65 (by omega) np;show Wy _ _ _ (wF 65 (Gd l b).h n)∧Pn 65 (Gd l b).h n=true∧JQ (Gd l b).h n (wF 65 (Gd l b).h n)∧(wF 65 (Gd l b).h n).length≤64;rw [e1];exact⟨w,e2,g,lp⟩
theorem Mr {l:List E} (f:Fo (l.map bM)) {b:Int} (hb:cZ b):(qQ l b).length=65:=(PE f hb).1.len
end Go.Proofs.YtelhldgdnlppfaaGreat.TrB
