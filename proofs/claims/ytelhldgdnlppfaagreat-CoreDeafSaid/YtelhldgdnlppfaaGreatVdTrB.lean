/-
  How ways are found: from an end on,node by node. No condition.
-/
import Derived.Test.YtelhldgdnlppfaaGreatVdW28
namespace Go.Proofs.YtelhldgdnlppfaaGreat.TrK
open Go Ry Go.Proofs.YtelhldgdnlppfaaGreat.So JoS JoR JoW EgR EgL SpR SpQ SpK SpT SpL SpN
structure Fo (l:List T):Prop where
 jC:Dp l
 VI:VI [] l
theorem DP {y:T} (h:pM y.1 y.2.1 y.2.2=true):gz y.1∧gz y.2.1∧y.1 < y.2.1:=by
 unfold pM at h
 rw [decide_eq_true_eq] at h
 unfold gz
 omega
theorem Fo.ok {l:List T} (h:Fo l):∀ y∈l,LX y:=fun y hy=>⟨(DP (h.jC.1 y hy)).1,(DP (h.jC.1 y hy)).2.1⟩
def En (y:T) (a c:Int):Prop:=y.1=a∧y.2.1=c∨y.2.1=a∧y.1=c
theorem MK {y:T} {a c:Int} (h:En y a c):En y c a:=by
 unfold En at *
 rcases h with ⟨a,b⟩ | ⟨a,b⟩
 ·exact .inr ⟨b,a⟩
 ·exact .inl ⟨b,a⟩
theorem ZH {l:List T} {y:T} (hy:y∈l) {a c:Int} (h:En y a c):Cn l a c:=.one .refl hy h
theorem Fo.ne {l:List T} (h:Fo l) {y:T} (hy:y∈l) {a c:Int} (e:En y a c):a≠c:=by
 intro q
 have:=(DP (h.jC.1 y hy)).2.2
 unfold En at e
 omega
inductive Wy (l:List T) (b:Int):Int→List Int→Prop
 |one:Wy l b b [b]
 |go {a c:Int} {p:List Int} {y:T}:y∈l→En y a c→Wy l b c p→a ∉ p→Wy l b a (a :: p)
theorem SJ {l:List T} {a b:Int} {p:List Int} (h:Wy l b a p):p.Nodup:=by
 induction h with
 |one=>simp
 |go _ _ _ n ih=>exact List.nodup_cons.2 ⟨n,ih⟩
theorem Tk {l:List T} {a b:Int} {p:List Int} (h:Wy l b a p):Cn l a b:=by
 induction h with
 |one=>exact .refl
 |go hz e _ _ ih=>exact cR (ZH hz e) ih
theorem Rg {p:List Int} (nd:p.Nodup) (h:∀ x∈p,gz x):p.length≤64:=by
 have h2:(p.map Int.toNat).Nodup:=by
  refine List.pairwise_map.2 (nd.imp_of_mem fun {x y} hx hy k e=>k ?_)
  have:=h x hx
  have:=h y hy
  unfold gz at *
  omega
 have h3:∀ x∈p.map Int.toNat,x < 65∧x≠0:=by
  intro x hx
  obtain⟨y,hy,rfl⟩:=List.mem_map.1 hx
  have:=h y hy
  unfold gz at this
  omega
 have key:∀ (n:Nat) (q:List Nat),q.Nodup→(∀ x∈q,x < n+1∧x≠0)→q.length≤n:=by
  intro n
  induction n with
  |zero =>
   intro q _ hq
   cases q with
   |nil=>exact Nat.le_refl _
   |cons x q =>
    have:=hq x (List.mem_cons_self ..)
    omega
  |succ n ih =>
   intro q nq hq
   have a:=ih (q.filter fun x=>decide (x < n+1)) (nq.sublist List.filter_sublist) fun x hx=>by
    obtain⟨k1,k2⟩:=List.mem_filter.1 hx
    exact⟨of_decide_eq_true k2,(hq x k1).2⟩
   have b:(q.filter fun x=>!decide (x < n+1)).length≤1:=by
    have hs:∀ x∈q.filter (fun x=>!decide (x < n+1)),x=n+1:=by
     intro x hx
     obtain⟨k1,k2⟩:=List.mem_filter.1 hx
     have:=(hq x k1).1
     simp at k2
     omega
    have nq2:=nq.sublist (List.filter_sublist (p:=fun x=>!decide (x < n+1)))
    generalize q.filter (fun x=>!decide (x < n+1))=r at hs nq2
    match r,hs,nq2 with
    |[],_,_=>exact Nat.zero_le _
    |[_],_,_=>exact Nat.le_refl _
    |x :: y :: _,hs,nq2 =>
     exfalso
     have e1:=hs x (by simp)
     have e2:=hs y (by simp)
     rw [e1,e2] at nq2
     simp at nq2
   have c:=List.length_eq_countP_add_countP (fun x=>decide (x < n+1)) (l:=q)
   rw [List.countP_eq_length_filter,List.countP_eq_length_filter] at c
   have e:(fun x=>decide ¬decide (x < n+1)=true)=fun x=>!decide (x < n+1):=by
    funext x
    cases decide (x < n+1) <;> rfl
   rw [e] at c
   omega
 have:=key 64 (p.map Int.toNat) h2 h3
 rw [List.length_map] at this
 exact this
end Go.Proofs.YtelhldgdnlppfaaGreat.TrK
namespace Go.Proofs.YtelhldgdnlppfaaGreat.TrB
open Go Ry Go.Proofs.YtelhldgdnlppfaaGreat.So JoS EgR EgL SpK SpT SpN TrK
structure BT where
 h:List Int
 m:List Int
def ot (y:E) (c:Int):Int:=pk (ri y 0) (ri y 1) c
def QY (c:Int) (s:BT) (y:E):BT:=if ot y c≠0∧ix s.h (ot y c)=0 then ⟨s.h.set (ot y c).toNat c,s.m ++ [ot y c]⟩ else s
def Mf (l:List E) (c:Int) (s:BT):BT:=l.foldl (QY c) s
def MI (l:List E):Nat→Nat→BT→BT
 |0,_,s=>s
 |k+1,i,s=>if i < s.m.length then MI l k (i+1) (Mf l (s.m.getD i 0) s) else s
def LY:List Int:=List.replicate 65 0
def Vx (e:Int):BT:=⟨LY.set e.toNat e,[e]⟩
def Er (l:List E) (e:Int):BT:=MI l 65 0 (Vx e)
def qt (l:List E) (e:Int):List Int:=(Er l e).h
def wF:Nat→List Int→Int→List Int
 |0,_,_=>[]
 |k+1,h,n=>n :: (if ix h n=n then [] else wF k h (ix h n))
def LV:Nat→List Int→Int→Bool
 |0,_,_=>false
 |k+1,h,n=>decide (0≤n∧n < 65) && (decide (ix h n=n) || LV k h (ix h n))
inductive Jg (h:List Int):Int→List Int→Prop
 |one {n:Int}:ix h n=n→Jg h n [n]
 |go {n:Int} {p:List Int}:ix h n≠n→Jg h (ix h n) p→Jg h n (n :: p)
theorem OT {h:List Int} {n v c:Int} {p:List Int} (f:Jg h n p) (hv:0≤v) (hl:v < h.length):v ∉ p→(∀ x∈p,0≤x)→Jg (h.set v.toNat c) n p:=by
 induction f with
 | @one n e =>
  intro nv np
  refine .one ?_
  have:=np n (List.mem_cons_self ..)
  rw [dE h n v c this hv hl,if_neg (fun q=>nv (by rw [← q];exact List.mem_cons_self ..))]
  exact e
 | @go n p e w ih =>
  intro nv np
  have:=np n (List.mem_cons_self ..)
  have q:ix (h.set v.toNat c) n=ix h n:=by rw [dE h n v c this hv hl,if_neg (fun q=>nv (by rw [← q];exact List.mem_cons_self ..))]
  refine .go (by rw [q];exact e) ?_
  rw [q]
  exact ih (fun k=>nv (List.mem_cons_of_mem _ k)) fun x hx=>np x (List.mem_cons_of_mem _ hx)
theorem Zi {h:List Int} {n:Int} {p:List Int} (f:Jg h n p):∀ k,p.length≤k→(∀ x∈p,gz x)→wF k h n=p∧LV k h n=true:=by
 induction f with
 | @one n e =>
  intro k hk np
  cases k with
  |zero=>simp at hk
  |succ k =>
   have:=np n (List.mem_cons_self ..)
   unfold gz at this
   unfold wF LV
   rw [if_pos e]
   refine⟨rfl,?_⟩
   rw [decide_eq_true e,decide_eq_true (show 0≤n∧n < 65 by omega)]
   rfl
 | @go n p e w ih =>
  intro k hk np
  cases k with
  |zero=>simp at hk
  |succ k =>
   have:=np n (List.mem_cons_self ..)
   unfold gz at this
   obtain⟨i1,i2⟩:=ih k (by simpa using hk) fun x hx=>np x (List.mem_cons_of_mem _ hx)
   unfold wF LV
   rw [if_neg e,i1,i2,decide_eq_true (show 0≤n∧n < 65 by omega),Bool.or_true]
   exact⟨rfl,rfl⟩
structure BI (L:List T) (b:Int) (s:BT):Prop where
 len:s.h.length=65
 nd:s.m.Nodup
 mem:∀ n,gz n→(n∈s.m↔ix s.h n≠0)
 Lr:∀ n∈s.m,gz n
 way:∀ n∈s.m,∃ p,Wy L b n p∧Jg s.h n p∧∀ x∈p,x∈s.m
 bm:b∈s.m
 z0:ix s.h 0=0
theorem wK {L:List T} {b:Int} {s:BT} (h:BI L b s):s.m.length≤64:=Rg h.nd h.Lr
theorem Xh (L:List T) {b:Int} (hb:gz b):BI L b (Vx b):=by
 have hl:LY.length=65:=List.length_replicate
 have hz:∀ n:Int,ix LY n=0:=fun n=>by
  unfold ix LY
  rw [List.getD_eq_getElem?_getD,List.getElem?_replicate]
  split <;> rfl
 have hn:=hb
 unfold gz at hn
 refine⟨by unfold Vx;rw [List.length_set];exact hl,by simp [Vx],fun n k=>?_,fun n k=>?_,fun n k=>?_,by simp [Vx],?_⟩
 ·unfold gz at k
  show n∈[b]↔ix (LY.set b.toNat b) n≠0
  rw [dE LY n b b (by omega) (by omega) (by rw [hl];omega),hz,List.mem_singleton]
  split
  ·rename_i e
   exact⟨fun _=>by omega,fun _=>e⟩
  ·rename_i e
   exact⟨fun q=>absurd q e,fun q=>absurd rfl q⟩
 ·rw [List.mem_singleton.1 k]
  exact hb
 ·rw [List.mem_singleton.1 k]
  refine⟨[b],.one,.one ?_,fun x hx=>hx⟩
  show ix (LY.set b.toNat b) b=b
  rw [dE LY b b b (by omega) (by omega) (by rw [hl];omega),if_pos rfl]
 ·show ix (LY.set b.toNat b) 0=0
  rw [dE LY 0 b b (by omega) (by omega) (by rw [hl];omega),hz]
  split <;> omega
theorem HJ {y:E} {c:Int} (h:ot y c≠0):En (fZ y) c (ot y c):=by
 unfold ot pk at *
 unfold En fZ
 split at h
 ·rename_i e
  rw [if_pos e]
  exact .inl ⟨e.symm,rfl⟩
 ·rename_i e
  rw [if_neg e]
  split at h
  ·rename_i q
   rw [if_pos q]
   exact .inr ⟨q.symm,rfl⟩
  ·exact absurd rfl h
theorem Yu {y:E} {a c:Int} (h:En (fZ y) a c) (n:a≠c):ot y a=c:=by
 unfold ot pk
 unfold En fZ at h
 simp only at h
 rcases h with ⟨e1,e2⟩ | ⟨e1,e2⟩
 ·rw [if_pos e1.symm]
  exact e2
 ·rw [if_neg (by omega),if_pos e1.symm]
  exact e2
theorem wM {y:T} (h:LX y) {a c:Int} (e:En y a c):gz a∧gz c:=by
 rcases e with ⟨rfl,rfl⟩ | ⟨rfl,rfl⟩
 ·exact h
 ·exact⟨h.2,h.1⟩
theorem aaB {L:List T} (hL:∀ y∈L,LX y) {b c:Int} {s:BT} (h:BI L b s) (hc:c∈s.m) {y:E} (hy:fZ y∈L):BI L b (QY c s y)∧(∃ t,(QY c s y).m=s.m ++ t)∧(ot y c≠0→ot y c∈(QY c s y).m):=by
 unfold QY
 by_cases q:ot y c≠0∧ix s.h (ot y c)=0
 ·rw [if_pos q]
  have en:=HJ q.1
  have hn:=(wM (hL _ hy) en).2
  have hn2:=hn
  unfold gz at hn2
  have nm:ot y c ∉ s.m:=fun k=>((h.mem _ hn).1 k) q.2
  have l:=h.len
  have hcn:=h.Lr c hc
  refine⟨⟨by simp only [List.length_set];exact l,?_,fun n k=>?_,fun n k=>?_,fun n k=>?_,List.mem_append_left _ h.bm,?_⟩,⟨_,rfl⟩,fun _=>List.mem_append_right _ (List.mem_singleton.2 rfl)⟩
  ·rw [List.nodup_append]
   exact⟨h.nd,by simp,fun x hx z hz e=>nm (by rw [List.mem_singleton] at hz;rw [← hz,← e];exact hx)⟩
  ·have kn:=k
   unfold gz at k
   rw [dE s.h n (ot y c) c (by omega) (by omega) (by omega),List.mem_append,List.mem_singleton,h.mem n kn]
   split
   ·rename_i e
    unfold gz at hcn
    exact⟨fun _=>by omega,fun _=>.inr e⟩
   ·rename_i e
    exact⟨fun k=>k.elim id fun w=>absurd w e,.inl⟩
  ·rcases List.mem_append.1 k with k|k
   ·exact h.Lr n k
   ·rw [List.mem_singleton.1 k]
    exact hn
  ·have old:∀ n∈s.m,∃ p,Wy L b n p∧Jg (s.h.set (ot y c).toNat c) n p∧∀ x∈p,x∈s.m:=fun n k=>by
    obtain⟨p,w1,w2,w3⟩:=h.way n k
    exact⟨p,w1,OT w2 (by omega) (by omega) (fun z=>nm (w3 _ z)) (fun x hx=>by have:=h.Lr x (w3 x hx);unfold gz at this;omega),w3⟩
   rcases List.mem_append.1 k with k|k
   ·obtain⟨p,w1,w2,w3⟩:=old n k
    exact⟨p,w1,w2,fun x hx=>List.mem_append_left _ (w3 x hx)⟩
   ·rw [List.mem_singleton.1 k]
    obtain⟨p,w1,w2,w3⟩:=old c hc
    have e:ix (s.h.set (ot y c).toNat c) (ot y c)=c:=by rw [dE s.h _ _ c (by omega) (by omega) (by omega),if_pos rfl]
    have ne:c≠ot y c:=fun z=>nm (z ▸ hc)
    refine⟨ot y c :: p,.go hy (MK en) w1 (fun z=>nm (w3 _ z)),.go (by rw [e];exact ne) (by rw [e];exact w2),fun x hx=>?_⟩
    rcases List.mem_cons.1 hx with rfl|hx
    ·exact List.mem_append_right _ (List.mem_singleton.2 rfl)
    ·exact List.mem_append_left _ (w3 x hx)
  ·show ix (s.h.set (ot y c).toNat c) 0=0
   rw [dE s.h 0 _ c (by omega) (by omega) (by omega),if_neg (by omega)]
   exact h.z0
 ·rw [if_neg q]
  refine⟨h,⟨[],(List.append_nil _).symm⟩,fun k=>?_⟩
  have hn:=(wM (hL _ hy) (HJ k)).2
  exact (h.mem _ hn).2 fun e=>q ⟨k,e⟩
theorem Vb {L:List T} (hL:∀ y∈L,LX y) {b c:Int}:∀ {l:List E} {s:BT},BI L b s→c∈s.m→(∀ y∈l,fZ y∈L)→BI L b (Mf l c s)∧(∃ t,(Mf l c s).m=s.m ++ t)∧(∀ y∈l,ot y c≠0→ot y c∈(Mf l c s).m)
 |[],s,h,_,_=>⟨h,⟨[],(List.append_nil _).symm⟩,fun _ hy=>by cases hy⟩
 |y :: l,s,h,hc,hl=>by
  obtain⟨a1,⟨t,a2⟩,a3⟩:=aaB hL h hc (hl y (List.mem_cons_self ..))
  obtain⟨b1,⟨r,b2⟩,b3⟩:=Vb hL (l:=l) a1 (by rw [a2];exact List.mem_append_left _ hc) fun z hz=>hl z (List.mem_cons_of_mem _ hz)
  refine⟨b1,⟨t ++ r,?_⟩,fun z hz k=>?_⟩
  ·show (Mf l c (QY c s y)).m=_
   rw [b2,a2,List.append_assoc]
  ·show ot z c∈(Mf l c (QY c s y)).m
   rcases List.mem_cons.1 hz with rfl|hz
   ·rw [b2]
    exact List.mem_append_left _ (a3 k)
   ·exact b3 z hz k
def Clo (l:List E) (i:Nat) (s:BT):Prop:=∀ j,j < i→∀ y∈l,ot y (s.m.getD j 0)≠0→ot y (s.m.getD j 0)∈s.m
theorem WR {L:List T} (hL:∀ y∈L,LX y) {b:Int} {l:List E} (hl:∀ y∈l,fZ y∈L):∀ (k i:Nat) (s:BT),BI L b s→i≤s.m.length→65≤k+i→Clo l i s→BI L b (MI l k i s)∧Clo l (MI l k i s).m.length (MI l k i s)
 |0,i,s,h,hi,hk,_=>by
  have:=wK h
  omega
 |k+1,i,s,h,hi,hk,hc=>by
  unfold MI
  split
  ·rename_i q
   have hm:s.m.getD i 0∈s.m:=by
    rw [List.getD_eq_getElem?_getD,List.getElem?_eq_getElem q]
    exact List.getElem_mem q
   obtain⟨a1,⟨t,a2⟩,a3⟩:=Vb hL (l:=l) h hm hl
   refine WR hL hl k (i+1) _ a1 (by rw [a2,List.length_append];omega) (by omega) fun j hj y hy=>?_
   have e:(Mf l (s.m.getD i 0) s).m.getD j 0=s.m.getD j 0:=by
    rw [a2,List.getD_eq_getElem?_getD,List.getD_eq_getElem?_getD,List.getElem?_append_left (by omega)]
   rw [e]
   by_cases z:j=i
   ·rw [z]
    exact a3 y hy
   ·intro w
    rw [a2]
    exact List.mem_append_left _ (hc j (by omega) y hy w)
  ·rename_i q
   have e:i=s.m.length:=by omega
   rw [e] at hc
   exact⟨h,hc⟩
theorem LS {l:List E} (f:Fo (l.map fZ)) {b:Int} (hb:gz b):BI (l.map fZ) b (Er l b)∧∀ n,Cn (l.map fZ) b n→n∈(Er l b).m:=by
 have hl:∀ y∈l,fZ y∈l.map fZ:=fun y hy=>List.mem_map_of_mem hy
 obtain⟨a,c⟩:=WR f.ok (l:=l) hl 65 0 (Vx b) (Xh _ hb) (Nat.zero_le _) (by omega) (fun j hj=>absurd hj (Nat.not_lt_zero _))
 have a:BI (l.map fZ) b (Er l b):=a
 have c:Clo l (Er l b).m.length (Er l b):=c
 refine⟨a,fun n h=>?_⟩
 induction h with
 |refl=>exact a.bm
 | @one x z y _ hy e ih =>
  obtain⟨w,hw,rfl⟩:=List.mem_map.1 hy
  have ne:=f.ne hy e
  have eo:=Yu e ne
  obtain⟨j,hj,ej⟩:=List.getElem_of_mem ih
  have nz:z≠0:=by
   have:=(wM (f.ok _ hy) e).2
   unfold gz at this
   omega
  have:=c j hj w hw
  rw [List.getD_eq_getElem?_getD,List.getElem?_eq_getElem hj,Option.getD_some,ej,eo] at this
  exact this nz
theorem OB {l:List E} (f:Fo (l.map fZ)) {b n:Int} (hb:gz b) (hn:gz n):ix (qt l b) n≠0↔Cn (l.map fZ) b n:=by
 obtain⟨a,c⟩:=LS f hb
 show ix (Er l b).h n≠0↔_
 rw [← a.mem n hn]
 constructor
 ·intro k
  obtain⟨p,w,_,_⟩:=a.way n k
  exact rv (Tk w)
 ·exact c n
theorem NM {l:List E} (f:Fo (l.map fZ)) {b n:Int} (hb:gz b) (h:Cn (l.map fZ) b n):Wy (l.map fZ) b n (wF 65 (qt l b) n)∧LV 65 (qt l b) n=true∧Jg (qt l b) n (wF 65 (qt l b) n)∧(wF 65 (qt l b) n).length≤64:=by
 obtain⟨a,c⟩:=LS f hb
 obtain⟨p,w,g,k⟩:=a.way n (c n h)
 have np:=fun x hx=>a.Lr x (k x hx)
 have lp:=Rg (SJ w) np
 obtain⟨e1,e2⟩:=Zi g 65 (by omega) np
 show Wy _ _ _ (wF 65 (Er l b).h n)∧LV 65 (Er l b).h n=true∧Jg (Er l b).h n (wF 65 (Er l b).h n)∧(wF 65 (Er l b).h n).length≤64
 rw [e1]
 exact⟨w,e2,g,lp⟩
theorem Ig {l:List E} (f:Fo (l.map fZ)) {b:Int} (hb:gz b):(qt l b).length=65:=(LS f hb).1.len
end Go.Proofs.YtelhldgdnlppfaaGreat.TrB
