/-
  How ways are found: from an end on,node by node. No condition.
-/
import Derived.Test.YtelhldgdnlppfaaGreatVgW30
namespace Go.Proofs.YtelhldgdnlppfaaGreat.TrK
open Go Ry Go.Proofs.YtelhldgdnlppfaaGreat.So JoS JoR JoW EgR EgL SpR SpQ SpK SpT SpL SpN
structure Fo (l:List T):Prop where
 jt:Cm l
 UW:UW [] l
theorem EI {y:T} (h:pj y.1 y.2.1 y.2.2=true):gm y.1∧gm y.2.1∧y.1 < y.2.1:=by
 unfold pj at h
 rw [decide_eq_true_eq] at h
 unfold gm
 omega
theorem Fo.ok {l:List T} (h:Fo l):∀ y∈l,LN y:=fun y hy=>⟨(EI (h.jt.1 y hy)).1,(EI (h.jt.1 y hy)).2.1⟩
def En (y:T) (a c:Int):Prop:=y.1=a∧y.2.1=c∨y.2.1=a∧y.1=c
theorem Oj {y:T} {a c:Int} (h:En y a c):En y c a:=by
 unfold En at *
 rcases h with ⟨a,b⟩ | ⟨a,b⟩
 ·exact .inr ⟨b,a⟩
 ·exact .inl ⟨b,a⟩
theorem Yt {l:List T} {y:T} (hy:y∈l) {a c:Int} (h:En y a c):Cn l a c:=.one .refl hy h
theorem Fo.ne {l:List T} (h:Fo l) {y:T} (hy:y∈l) {a c:Int} (e:En y a c):a≠c:=by
 intro q
 have:=(EI (h.jt.1 y hy)).2.2
 unfold En at e
 omega
inductive Wy (l:List T) (b:Int):Int→List Int→Prop
 |one:Wy l b b [b]
 |go {a c:Int} {p:List Int} {y:T}:y∈l→En y a c→Wy l b c p→a ∉ p→Wy l b a (a :: p)
theorem Sb {l:List T} {a b:Int} {p:List Int} (h:Wy l b a p):p.Nodup:=by
 induction h with
 |one=>simp
 |go _ _ _ n ih=>exact List.nodup_cons.2 ⟨n,ih⟩
theorem SY {l:List T} {a b:Int} {p:List Int} (h:Wy l b a p):Cn l a b:=by
 induction h with
 |one=>exact .refl
 |go hz e _ _ ih=>exact cW (Yt hz e) ih
theorem QK {p:List Int} (nd:p.Nodup) (h:∀ x∈p,gm x):p.length≤64:=by
 have h2:(p.map Int.toNat).Nodup:=by
  refine List.pairwise_map.2 (nd.imp_of_mem fun {x y} hx hy k e=>k ?_)
  have:=h x hx
  have:=h y hy
  unfold gm at *
  omega
 have h3:∀ x∈p.map Int.toNat,x < 65∧x≠0:=by
  intro x hx
  obtain⟨y,hy,rfl⟩:=List.mem_map.1 hx
  have:=h y hy
  unfold gm at this
  omega
 have key:∀ (n:Nat) (q:List Nat),q.Nodup→(∀ x∈q,x < n+1∧x≠0)→q.length≤n:=by
  intro n
  induction n with
  |zero =>
   intro q _ hq
   cases q with
   |nil=>exact Nat.le_refl _
   |cons x q =>
    have:=hq x (List.mem_cons_self ..)
    omega
  |succ n ih =>
   intro q nq hq
   have a:=ih (q.filter fun x=>decide (x < n+1)) (nq.sublist List.filter_sublist) fun x hx=>by
    obtain⟨k1,k2⟩:=List.mem_filter.1 hx
    exact⟨of_decide_eq_true k2,(hq x k1).2⟩
   have b:(q.filter fun x=>!decide (x < n+1)).length≤1:=by
    have hs:∀ x∈q.filter (fun x=>!decide (x < n+1)),x=n+1:=by
     intro x hx
     obtain⟨k1,k2⟩:=List.mem_filter.1 hx
     have:=(hq x k1).1
     simp at k2
     omega
    have nq2:=nq.sublist (List.filter_sublist (p:=fun x=>!decide (x < n+1)))
    generalize q.filter (fun x=>!decide (x < n+1))=r at hs nq2
    match r,hs,nq2 with
    |[],_,_=>exact Nat.zero_le _
    |[_],_,_=>exact Nat.le_refl _
    |x :: y :: _,hs,nq2 =>
     exfalso
     have e1:=hs x (by simp)
     have e2:=hs y (by simp)
     rw [e1,e2] at nq2
     simp at nq2
   have c:=List.length_eq_countP_add_countP (fun x=>decide (x < n+1)) (l:=q)
   rw [List.countP_eq_length_filter,List.countP_eq_length_filter] at c
   have e:(fun x=>decide ¬decide (x < n+1)=true)=fun x=>!decide (x < n+1):=by
    funext x
    cases decide (x < n+1) <;> rfl
   rw [e] at c
   omega
 have:=key 64 (p.map Int.toNat) h2 h3
 rw [List.length_map] at this
 exact this
end Go.Proofs.YtelhldgdnlppfaaGreat.TrK
namespace Go.Proofs.YtelhldgdnlppfaaGreat.TrB
open Go Ry Go.Proofs.YtelhldgdnlppfaaGreat.So JoS EgR EgL SpK SpT SpN TrK
structure BT where
 h:List Int
 m:List Int
def ot (y:E) (c:Int):Int:=px (ri y 0) (ri y 1) c
def Qp (c:Int) (s:BT) (y:E):BT:=if ot y c≠0∧ix s.h (ot y c)=0 then ⟨s.h.set (ot y c).toNat c,s.m ++ [ot y c]⟩ else s
def LR (l:List E) (c:Int) (s:BT):BT:=l.foldl (Qp c) s
def NP (l:List E):Nat→Nat→BT→BT
 |0,_,s=>s
 |k+1,i,s=>if i < s.m.length then NP l k (i+1) (LR l (s.m.getD i 0) s) else s
def LG:List Int:=List.replicate 65 0
def Vg (e:Int):BT:=⟨LG.set e.toNat e,[e]⟩
def Da (l:List E) (e:Int):BT:=NP l 65 0 (Vg e)
def qk (l:List E) (e:Int):List Int:=(Da l e).h
def wF:Nat→List Int→Int→List Int
 |0,_,_=>[]
 |k+1,h,n=>n :: (if ix h n=n then [] else wF k h (ix h n))
def Je:Nat→List Int→Int→Bool
 |0,_,_=>false
 |k+1,h,n=>decide (0≤n∧n < 65) && (decide (ix h n=n) || Je k h (ix h n))
inductive Il (h:List Int):Int→List Int→Prop
 |one {n:Int}:ix h n=n→Il h n [n]
 |go {n:Int} {p:List Int}:ix h n≠n→Il h (ix h n) p→Il h n (n :: p)
theorem Nu {h:List Int} {n v c:Int} {p:List Int} (f:Il h n p) (hv:0≤v) (hl:v < h.length):v ∉ p→(∀ x∈p,0≤x)→Il (h.set v.toNat c) n p:=by
 induction f with
 | @one n e =>
  intro nv np
  refine .one ?_
  have:=np n (List.mem_cons_self ..)
  rw [dI h n v c this hv hl,if_neg (fun q=>nv (by rw [← q];exact List.mem_cons_self ..))]
  exact e
 | @go n p e w ih =>
  intro nv np
  have:=np n (List.mem_cons_self ..)
  have q:ix (h.set v.toNat c) n=ix h n:=by rw [dI h n v c this hv hl,if_neg (fun q=>nv (by rw [← q];exact List.mem_cons_self ..))]
  refine .go (by rw [q];exact e) ?_
  rw [q]
  exact ih (fun k=>nv (List.mem_cons_of_mem _ k)) fun x hx=>np x (List.mem_cons_of_mem _ hx)
theorem Vx {h:List Int} {n:Int} {p:List Int} (f:Il h n p):∀ k,p.length≤k→(∀ x∈p,gm x)→wF k h n=p∧Je k h n=true:=by
 induction f with
 | @one n e =>
  intro k hk np
  cases k with
  |zero=>simp at hk
  |succ k =>
   have:=np n (List.mem_cons_self ..)
   unfold gm at this
   unfold wF Je
   rw [if_pos e]
   refine⟨rfl,?_⟩
   rw [decide_eq_true e,decide_eq_true (show 0≤n∧n < 65 by omega)]
   rfl
 | @go n p e w ih =>
  intro k hk np
  cases k with
  |zero=>simp at hk
  |succ k =>
   have:=np n (List.mem_cons_self ..)
   unfold gm at this
   obtain⟨i1,i2⟩:=ih k (by simpa using hk) fun x hx=>np x (List.mem_cons_of_mem _ hx)
   unfold wF Je
   rw [if_neg e,i1,i2,decide_eq_true (show 0≤n∧n < 65 by omega),Bool.or_true]
   exact⟨rfl,rfl⟩
structure BI (L:List T) (b:Int) (s:BT):Prop where
 len:s.h.length=65
 nd:s.m.Nodup
 mem:∀ n,gm n→(n∈s.m↔ix s.h n≠0)
 HZ:∀ n∈s.m,gm n
 way:∀ n∈s.m,∃ p,Wy L b n p∧Il s.h n p∧∀ x∈p,x∈s.m
 bm:b∈s.m
 z0:ix s.h 0=0
theorem xD {L:List T} {b:Int} {s:BT} (h:BI L b s):s.m.length≤64:=QK h.nd h.HZ
theorem Yn (L:List T) {b:Int} (hb:gm b):BI L b (Vg b):=by
 have hl:LG.length=65:=List.length_replicate
 have hz:∀ n:Int,ix LG n=0:=fun n=>by
  unfold ix LG
  rw [List.getD_eq_getElem?_getD,List.getElem?_replicate]
  split <;> rfl
 have hn:=hb
 unfold gm at hn
 refine⟨by unfold Vg;rw [List.length_set];exact hl,by simp [Vg],fun n k=>?_,fun n k=>?_,fun n k=>?_,by simp [Vg],?_⟩
 ·unfold gm at k
  show n∈[b]↔ix (LG.set b.toNat b) n≠0
  rw [dI LG n b b (by omega) (by omega) (by rw [hl];omega),hz,List.mem_singleton]
  split
  ·rename_i e
   exact⟨fun _=>by omega,fun _=>e⟩
  ·rename_i e
   exact⟨fun q=>absurd q e,fun q=>absurd rfl q⟩
 ·rw [List.mem_singleton.1 k]
  exact hb
 ·rw [List.mem_singleton.1 k]
  refine⟨[b],.one,.one ?_,fun x hx=>hx⟩
  show ix (LG.set b.toNat b) b=b
  rw [dI LG b b b (by omega) (by omega) (by rw [hl];omega),if_pos rfl]
 ·show ix (LG.set b.toNat b) 0=0
  rw [dI LG 0 b b (by omega) (by omega) (by rw [hl];omega),hz]
  split <;> omega
theorem Ly {y:E} {c:Int} (h:ot y c≠0):En (gi y) c (ot y c):=by
 unfold ot px at *
 unfold En gi
 split at h
 ·rename_i e
  rw [if_pos e]
  exact .inl ⟨e.symm,rfl⟩
 ·rename_i e
  rw [if_neg e]
  split at h
  ·rename_i q
   rw [if_pos q]
   exact .inr ⟨q.symm,rfl⟩
  ·exact absurd rfl h
theorem Wb {y:E} {a c:Int} (h:En (gi y) a c) (n:a≠c):ot y a=c:=by
 unfold ot px
 unfold En gi at h
 simp only at h
 rcases h with ⟨e1,e2⟩ | ⟨e1,e2⟩
 ·rw [if_pos e1.symm]
  exact e2
 ·rw [if_neg (by omega),if_pos e1.symm]
  exact e2
theorem xz {y:T} (h:LN y) {a c:Int} (e:En y a c):gm a∧gm c:=by
 rcases e with ⟨rfl,rfl⟩ | ⟨rfl,rfl⟩
 ·exact h
 ·exact⟨h.2,h.1⟩
theorem aac {L:List T} (hL:∀ y∈L,LN y) {b c:Int} {s:BT} (h:BI L b s) (hc:c∈s.m) {y:E} (hy:gi y∈L):BI L b (Qp c s y)∧(∃ t,(Qp c s y).m=s.m ++ t)∧(ot y c≠0→ot y c∈(Qp c s y).m):=by
 unfold Qp
 by_cases q:ot y c≠0∧ix s.h (ot y c)=0
 ·rw [if_pos q]
  have en:=Ly q.1
  have hn:=(xz (hL _ hy) en).2
  have hn2:=hn
  unfold gm at hn2
  have nm:ot y c ∉ s.m:=fun k=>((h.mem _ hn).1 k) q.2
  have l:=h.len
  have hcn:=h.HZ c hc
  refine⟨⟨by simp only [List.length_set];exact l,?_,fun n k=>?_,fun n k=>?_,fun n k=>?_,List.mem_append_left _ h.bm,?_⟩,⟨_,rfl⟩,fun _=>List.mem_append_right _ (List.mem_singleton.2 rfl)⟩
  ·rw [List.nodup_append]
   exact⟨h.nd,by simp,fun x hx z hz e=>nm (by rw [List.mem_singleton] at hz;rw [← hz,← e];exact hx)⟩
  ·have kn:=k
   unfold gm at k
   rw [dI s.h n (ot y c) c (by omega) (by omega) (by omega),List.mem_append,List.mem_singleton,h.mem n kn]
   split
   ·rename_i e
    unfold gm at hcn
    exact⟨fun _=>by omega,fun _=>.inr e⟩
   ·rename_i e
    exact⟨fun k=>k.elim id fun w=>absurd w e,.inl⟩
  ·rcases List.mem_append.1 k with k|k
   ·exact h.HZ n k
   ·rw [List.mem_singleton.1 k]
    exact hn
  ·have old:∀ n∈s.m,∃ p,Wy L b n p∧Il (s.h.set (ot y c).toNat c) n p∧∀ x∈p,x∈s.m:=fun n k=>by
    obtain⟨p,w1,w2,w3⟩:=h.way n k
    exact⟨p,w1,Nu w2 (by omega) (by omega) (fun z=>nm (w3 _ z)) (fun x hx=>by have:=h.HZ x (w3 x hx);unfold gm at this;omega),w3⟩
   rcases List.mem_append.1 k with k|k
   ·obtain⟨p,w1,w2,w3⟩:=old n k
    exact⟨p,w1,w2,fun x hx=>List.mem_append_left _ (w3 x hx)⟩
   ·rw [List.mem_singleton.1 k]
    obtain⟨p,w1,w2,w3⟩:=old c hc
    have e:ix (s.h.set (ot y c).toNat c) (ot y c)=c:=by rw [dI s.h _ _ c (by omega) (by omega) (by omega),if_pos rfl]
    have ne:c≠ot y c:=fun z=>nm (z ▸ hc)
    refine⟨ot y c :: p,.go hy (Oj en) w1 (fun z=>nm (w3 _ z)),.go (by rw [e];exact ne) (by rw [e];exact w2),fun x hx=>?_⟩
    rcases List.mem_cons.1 hx with rfl|hx
    ·exact List.mem_append_right _ (List.mem_singleton.2 rfl)
    ·exact List.mem_append_left _ (w3 x hx)
  ·show ix (s.h.set (ot y c).toNat c) 0=0
   rw [dI s.h 0 _ c (by omega) (by omega) (by omega),if_neg (by omega)]
   exact h.z0
 ·rw [if_neg q]
  refine⟨h,⟨[],(List.append_nil _).symm⟩,fun k=>?_⟩
  have hn:=(xz (hL _ hy) (Ly k)).2
  exact (h.mem _ hn).2 fun e=>q ⟨k,e⟩
theorem SL {L:List T} (hL:∀ y∈L,LN y) {b c:Int}:∀ {l:List E} {s:BT},BI L b s→c∈s.m→(∀ y∈l,gi y∈L)→BI L b (LR l c s)∧(∃ t,(LR l c s).m=s.m ++ t)∧(∀ y∈l,ot y c≠0→ot y c∈(LR l c s).m)
 |[],s,h,_,_=>⟨h,⟨[],(List.append_nil _).symm⟩,fun _ hy=>by cases hy⟩
 |y :: l,s,h,hc,hl=>by
  obtain⟨a1,⟨t,a2⟩,a3⟩:=aac hL h hc (hl y (List.mem_cons_self ..))
  obtain⟨b1,⟨r,b2⟩,b3⟩:=SL hL (l:=l) a1 (by rw [a2];exact List.mem_append_left _ hc) fun z hz=>hl z (List.mem_cons_of_mem _ hz)
  refine⟨b1,⟨t ++ r,?_⟩,fun z hz k=>?_⟩
  ·show (LR l c (Qp c s y)).m=_
   rw [b2,a2,List.append_assoc]
  ·show ot z c∈(LR l c (Qp c s y)).m
   rcases List.mem_cons.1 hz with rfl|hz
   ·rw [b2]
    exact List.mem_append_left _ (a3 k)
   ·exact b3 z hz k
def ZU (l:List E) (i:Nat) (s:BT):Prop:=∀ j,j < i→∀ y∈l,ot y (s.m.getD j 0)≠0→ot y (s.m.getD j 0)∈s.m
theorem Wq {L:List T} (hL:∀ y∈L,LN y) {b:Int} {l:List E} (hl:∀ y∈l,gi y∈L):∀ (k i:Nat) (s:BT),BI L b s→i≤s.m.length→65≤k+i→ZU l i s→BI L b (NP l k i s)∧ZU l (NP l k i s).m.length (NP l k i s)
 |0,i,s,h,hi,hk,_=>by
  have:=xD h
  omega
 |k+1,i,s,h,hi,hk,hc=>by
  unfold NP
  split
  ·rename_i q
   have hm:s.m.getD i 0∈s.m:=by
    rw [List.getD_eq_getElem?_getD,List.getElem?_eq_getElem q]
    exact List.getElem_mem q
   obtain⟨a1,⟨t,a2⟩,a3⟩:=SL hL (l:=l) h hm hl
   refine Wq hL hl k (i+1) _ a1 (by rw [a2,List.length_append];omega) (by omega) fun j hj y hy=>?_
   have e:(LR l (s.m.getD i 0) s).m.getD j 0=s.m.getD j 0:=by
    rw [a2,List.getD_eq_getElem?_getD,List.getD_eq_getElem?_getD,List.getElem?_append_left (by omega)]
   rw [e]
   by_cases z:j=i
   ·rw [z]
    exact a3 y hy
   ·intro w
    rw [a2]
    exact List.mem_append_left _ (hc j (by omega) y hy w)
  ·rename_i q
   have e:i=s.m.length:=by omega
   rw [e] at hc
   exact⟨h,hc⟩
theorem KV {l:List E} (f:Fo (l.map gi)) {b:Int} (hb:gm b):BI (l.map gi) b (Da l b)∧∀ n,Cn (l.map gi) b n→n∈(Da l b).m:=by
 have hl:∀ y∈l,gi y∈l.map gi:=fun y hy=>List.mem_map_of_mem hy
 obtain⟨a,c⟩:=Wq f.ok (l:=l) hl 65 0 (Vg b) (Yn _ hb) (Nat.zero_le _) (by omega) (fun j hj=>absurd hj (Nat.not_lt_zero _))
 have a:BI (l.map gi) b (Da l b):=a
 have c:ZU l (Da l b).m.length (Da l b):=c
 refine⟨a,fun n h=>?_⟩
 induction h with
 |refl=>exact a.bm
 | @one x z y _ hy e ih =>
  obtain⟨w,hw,rfl⟩:=List.mem_map.1 hy
  have ne:=f.ne hy e
  have eo:=Wb e ne
  obtain⟨j,hj,ej⟩:=List.getElem_of_mem ih
  have nz:z≠0:=by
   have:=(xz (f.ok _ hy) e).2
   unfold gm at this
   omega
  have:=c j hj w hw
  rw [List.getD_eq_getElem?_getD,List.getElem?_eq_getElem hj,Option.getD_some,ej,eo] at this
  exact this nz
theorem NS {l:List E} (f:Fo (l.map gi)) {b n:Int} (hb:gm b) (hn:gm n):ix (qk l b) n≠0↔Cn (l.map gi) b n:=by
 obtain⟨a,c⟩:=KV f hb
 show ix (Da l b).h n≠0↔_
 rw [← a.mem n hn]
 constructor
 ·intro k
  obtain⟨p,w,_,_⟩:=a.way n k
  exact rh (SY w)
 ·exact c n
theorem OW {l:List E} (f:Fo (l.map gi)) {b n:Int} (hb:gm b) (h:Cn (l.map gi) b n):Wy (l.map gi) b n (wF 65 (qk l b) n)∧Je 65 (qk l b) n=true∧Il (qk l b) n (wF 65 (qk l b) n)∧(wF 65 (qk l b) n).length≤64:=by
 obtain⟨a,c⟩:=KV f hb
 obtain⟨p,w,g,k⟩:=a.way n (c n h)
 have np:=fun x hx=>a.HZ x (k x hx)
 have lp:=QK (Sb w) np
 obtain⟨e1,e2⟩:=Vx g 65 (by omega) np
 show Wy _ _ _ (wF 65 (Da l b).h n)∧Je 65 (Da l b).h n=true∧Il (Da l b).h n (wF 65 (Da l b).h n)∧(wF 65 (Da l b).h n).length≤64
 rw [e1]
 exact⟨w,e2,g,lp⟩
theorem Ik {l:List E} (f:Fo (l.map gi)) {b:Int} (hb:gm b):(qk l b).length=65:=(KV f hb).1.len
end Go.Proofs.YtelhldgdnlppfaaGreat.TrB
