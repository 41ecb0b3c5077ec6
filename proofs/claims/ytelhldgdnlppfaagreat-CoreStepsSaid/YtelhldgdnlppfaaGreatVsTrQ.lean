
/-
  the answer of ways;the heaviest edge. No condition.
-/
import Derived.Test.YtelhldgdnlppfaaGreatVsTrR
set_option cbv.maxSteps 4000000
set_option maxHeartbeats 4000000
set_option maxRecDepth 100000
namespace Go.Proofs.YtelhldgdnlppfaaGreat.TrC
open Go Ry Go.Proofs.YtelhldgdnlppfaaGreat.So JoS EgR EgL SpR SpQ SpK SpT SpL SpN TrK TrB TrR EcX
theorem ade {p:List Int} {u v:Int} (h:Nb p u v):∃ i,i+1 < p.length∧p.getD i 0=u∧p.getD (i+1) 0=v:=by
 induction h with
 | @here x z p=>exact⟨0,by simp,rfl,rfl⟩
 | @more x z w p _ ih =>
  obtain⟨i,h1,h2,h3⟩:=ih;exact⟨i+1,by simp only [List.length_cons];omega,by simpa using h2,by simpa using h3⟩
theorem OB {p:List Int} (nd:p.Nodup) {i j:Nat} (hi:i < p.length) (hj:j < p.length) (e:p.getD i 0=p.getD j 0):i=j:=by
 rw [List.getD_eq_getElem?_getD,List.getD_eq_getElem?_getD,List.getElem?_eq_getElem hi,List.getElem?_eq_getElem hj] at e;exact (List.getElem_inj nd).1 e
theorem PT {l:List T} {a b:Int} {p:List Int} (h:Wy l b a p):∀ n,n+1 < p.length→∃ y∈l,En y (p.getD n 0) (p.getD (n+1) 0):=by
 induction h with
 |one =>
  intro n hn;simp at hn
 | @go a c p y hy e w _ ih =>
  intro n hn;obtain⟨q,rfl⟩:=xW w;cases n with
  |zero=>exact⟨y,hy,e⟩
  |succ n =>
   obtain⟨z,hz,ez⟩:=ih n (by simpa using hn);exact⟨z,hz,by simpa using ez⟩
theorem Oe {l:List T} (f:Fo l) {a b:Int} {p:List Int} (h:Wy l b a p) {n:Nat} (hn:n+1 < p.length) :
  (∃ y∈l,y.1∈p∧y.2.1∈p∧En y (p.getD n 0) (p.getD (n+1) 0)) ∧
  (∀ y∈l,y.1∈p→y.2.1∈p→∀ c,En y (p.getD n 0) c→c=p.getD (n+1) 0∨(1≤n∧c=p.getD (n - 1) 0))∧(1≤n→¬p.getD (n+1) 0=p.getD (n - 1) 0):=by
 have nd:=OR h;refine⟨?_,fun y hy h1 h2 c e=>?_,fun k e=>?_⟩
 ·obtain⟨y,hy,e⟩:=PT h n hn;have m1:=yr (m:=p) (i:=n) (by omega);have m2:=yr hn;refine⟨y,hy,?_,?_,e⟩
  ·rcases e with ⟨e1,_⟩ | ⟨_,e1⟩ <;> rw [e1] <;> assumption
  ·rcases e with ⟨_,e1⟩ | ⟨e1,_⟩ <;> rw [e1] <;> assumption
 ·obtain⟨u,v,hb,e2,_,_⟩:=Le f h hy h1 h2;obtain⟨i,i1,i2,i3⟩:=ade hb;have hne:=f.ne hy e
  by_cases k:p.getD n 0=u
  ·have:=OB nd (by omega) (by omega) (k.trans i2.symm);subst this;left;rw [i3];rw [k] at e;exact Ia e e2 (by rw [← k];exact hne)
  ·have kv:p.getD n 0=v:=by
    unfold En at e e2;omega
   have:=OB nd (by omega) i1 (kv.trans i3.symm);right;refine⟨by omega,?_⟩;rw [this,Nat.add_sub_cancel,i2];rw [kv] at e;exact Ia e (GO e2) (by rw [← kv];exact hne)
 ·have:=OB nd hn (by omega) e;omega
theorem abT {h:List Int} {a b:Int} {p:List Int} {l:List T} (w:Wy l b a p) (g:JQ h a p) (n:a≠b):1 < p.length∧p.getD 1 0=ix h a∧p.getD 0 0=a:=by
 cases g with
 |one e =>
  cases w with
  |one=>exact absurd rfl n
  |go _ _ w _=>cases w
 |go e g2 =>
  cases g2 with
  |one _=>exact⟨by simp,rfl,rfl⟩
  |go _ _=>exact⟨by simp,rfl,rfl⟩
theorem acf {h:List Int} {b:Int} {p:List Int} {l:List T} (w:Wy l b b p) (g:JQ h b p):ix h b=b∧p=[b]:=by
 cases w with
 |one =>
  cases g with
  |one e=>exact⟨e,rfl⟩
  |go _ g2=>cases g2
 |go _ _ w n=>exact absurd (FC w) n
def NA (p:List Int) (y:E):Bool:=bC p (ri y 0) && bC p (ri y 1)
def ZW (l:List E) (p:List Int):List E:=(l.filter (NA p)).map e3
theorem Fy (p:List Int) (y:E):NA p y=true↔(bM y).1∈p∧(bM y).2.1∈p:=by
 unfold NA bC;rw [Bool.and_eq_true,decide_eq_true_eq,decide_eq_true_eq];exact Iff.rfl
def kC (l:List E) (a b:Int):List E:=(l.filter fun y=>!rJ (iv l (bM y)) a b).map e3
theorem aas {l:List E} (h:rQ l=true) (c:T):rQ (iv l c)=true:=by
 obtain⟨h1,h2⟩:=eD.1 h;refine eD.2 ⟨Nat.le_trans (HH l c) h1,fun y hy=>?_⟩;unfold iv at hy;obtain⟨z,hz,rfl⟩:=List.mem_map.1 hy;exact h2 z ((List.mem_filter.1 hz).1)
theorem YM {l:List E} (f:∀ y∈l,qp (bM y)) (c:T):∀ y∈iv l c,qp (bM y):=by
 intro y hy;unfold iv at hy;obtain⟨z,hz,rfl⟩:=List.mem_map.1 hy;exact f z ((List.mem_filter.1 hz).1)
theorem YS {l:List E} (f:Fo (l.map bM)) (c:T) (a b:Int):rJ (iv l c) a b=true↔cZ a∧cZ b∧Cn (wo (l.map bM) c) a b:=by
 rw [EA (YM (fun y hy=>f.ok _ (List.mem_map_of_mem hy)) c),SB];exact Iff.rfl
theorem aby {l:List E} (f:Fo (l.map bM)) {a b:Int} (ha:cZ a) (hb:cZ b) {p:List Int} (w:Wy (l.map bM) b a p):kC l a b=ZW l p:=by
 unfold kC ZW
 congr 1
 refine List.filter_congr fun y hy=>?_;have h1:=Ul f w (List.mem_map_of_mem (f:=bM) hy);have h2:=YS f (bM y) a b;have h3:=Fy p y;rw [Bool.eq_iff_iff,h3,← h1,Bool.not_eq_true',← Bool.not_eq_true,h2];exact⟨fun q c=>q ⟨ha,hb,c⟩,fun q c=>q c.2.2⟩
theorem aam {l:List E} {p:List Int} {y:T} (hy:y∈l.map bM) (h1:y.1∈p) (h2:y.2.1∈p):∃ z∈ZW l p,bM z=y:=by
 obtain⟨z,hz,rfl⟩:=List.mem_map.1 hy;exact⟨e3 z,List.mem_map_of_mem (List.mem_filter.2 ⟨hz,(Fy p z).2 ⟨h1,h2⟩⟩),rfl⟩
def vY (c:T) (y:E):T:=if vC c.1 c.2.1 c.2.2 (ri y 0) (ri y 1) (ri y 2)=true then bM y else c
def mP (l:List E):T:=l.foldl vY (bM (l.getD 0 []))
def fu (p:List Int) (c:T) (y:E):T:=if bC p (ri y 0)=true∧bC p (ri y 1)=true∧(c.1=0∨fX (ri y 0) (ri y 1) (ri y 2) c.1 c.2.1 c.2.2 > 0) then bM y else c
def Qu (p:List Int) (l:List E):T:=l.foldl (fu p) (0,0,0)
theorem yX (a b c x y z:Int):fX a b c x y z > 0↔vC x y z a b c=true:=by
 rw [sZ x y z a b c];have h:=xN x y z a b c;unfold vC;split
 ·rw [decide_eq_true_eq];omega
 ·rw [decide_eq_true_eq];omega
theorem Hd {p:List Int}:∀ (l:List E) (c:T),c.1≠0→(∀ y∈l,ri y 0≠0)→l.foldl (fu p) c=((l.filter (NA p)).map e3).foldl vY c
 |[],_,_,_=>rfl
 |y :: l,c,hc,hl=>by
  have ih:=fun c h=>Hd (p:=p) l c h fun z hz=>hl z (List.mem_cons_of_mem _ hz);rw [List.foldl_cons,List.filter_cons];have hp:NA p y=true↔bC p (ri y 0)=true∧bC p (ri y 1)=true:=by
   unfold NA;rw [Bool.and_eq_true]
  by_cases q:NA p y=true
  ·rw [if_pos q,List.map_cons,List.foldl_cons];have e:fu p c y=vY c (e3 y):=by
    unfold fu vY;show (if _ then bM y else c)=if vC c.1 c.2.1 c.2.2 (ri y 0) (ri y 1) (ri y 2)=true then bM y else c
    have:=hp.1 q
    by_cases k:vC c.1 c.2.1 c.2.2 (ri y 0) (ri y 1) (ri y 2)=true
    ·rw [if_pos k,if_pos ⟨this.1,this.2,.inr ((yX _ _ _ _ _ _).2 k)⟩]
    ·rw [if_neg k,if_neg fun z=>z.2.2.elim hc fun g=>k ((yX _ _ _ _ _ _).1 g)]
   rw [e];refine ih _ ?_;unfold vY;split
   ·exact hl y (List.mem_cons_self ..)
   ·exact hc
  ·rw [if_neg q];have e:fu p c y=c:=by
    unfold fu;rw [if_neg fun z=>q (hp.2 ⟨z.1,z.2.1⟩)]
   rw [e];exact ih c hc
theorem Ue (y:E):vY (bM y) y=bM y:=by
 unfold vY;split <;> rfl
theorem WQ {p:List Int}:∀ (l:List E),(∀ y∈l,ri y 0≠0)→ZW l p≠[]→Qu p l=mP (ZW l p)
 |[],_,h=>absurd rfl h
 |y :: l,hl,h=>by
  have hp:NA p y=true↔bC p (ri y 0)=true∧bC p (ri y 1)=true:=by
   unfold NA;rw [Bool.and_eq_true]
  unfold Qu;rw [List.foldl_cons];unfold ZW at h ⊢;rw [List.filter_cons] at h ⊢
  by_cases q:NA p y=true
  ·rw [if_pos q,List.map_cons];have e:fu p (0,0,0) y=bM y:=by
    unfold fu;rw [if_pos ⟨(hp.1 q).1,(hp.1 q).2,.inl rfl⟩]
   rw [e,Hd l _ (hl y (List.mem_cons_self ..)) fun z hz=>hl z (List.mem_cons_of_mem _ hz)];unfold mP;rw [List.foldl_cons];have:vY (bM ((e3 y :: List.map e3 (List.filter (NA p) l)).getD 0 [])) (e3 y)=bM y:=Ue (e3 y);rw [this]
  ·rw [if_neg q] at h ⊢;have e:fu p (0,0,0) y=(0,0,0):=by
    unfold fu;rw [if_neg fun z=>q (hp.2 ⟨z.1,z.2.1⟩)]
   rw [e];exact WQ l (fun z hz=>hl z (List.mem_cons_of_mem _ hz)) h
theorem MN:∀ (l:List E) (c:T),(l.foldl vY c=c∨l.foldl vY c∈l.map bM)∧¬lt (l.foldl vY c) c∧∀ y∈l.map bM,¬lt (l.foldl vY c) y
 |[],c=>⟨.inl rfl,aaE c,fun _ h=>by cases h⟩
 |y :: l,c=>by
  have st:vY c y=c∧¬lt c (bM y)∨vY c y=bM y∧lt c (bM y):=by
   have k:vC c.1 c.2.1 c.2.2 (ri y 0) (ri y 1) (ri y 2)=true↔lt c (bM y):=by
    unfold vC lt bM;split
    ·rw [decide_eq_true_eq];simp only;omega
    ·rw [decide_eq_true_eq];simp only;omega
   unfold vY;split
   ·rename_i q;exact .inr ⟨rfl,k.1 q⟩
   ·rename_i q;exact .inl ⟨rfl,fun z=>q (k.2 z)⟩
  obtain⟨i1,i2,i3⟩:=MN l (vY c y);have tri:∀ {u v w:T},¬lt u v→¬lt v w→¬lt u w:=fun {u v w} h g k=>by
   by_cases e:u=v
   ·rw [e] at k;exact g k
   ·rcases aef e with q|q
    ·exact h q
    ·exact g (Gj q k)
  rw [List.foldl_cons,List.map_cons];rcases st with ⟨e,n⟩ | ⟨e,n⟩
  ·rw [e] at i1 i2 i3 ⊢;refine⟨i1.elim .inl fun k=>.inr (List.mem_cons_of_mem _ k),i2,fun z hz=>?_⟩;rcases List.mem_cons.1 hz with rfl|hz
   ·exact tri i2 n
   ·exact i3 z hz
  ·rw [e] at i1 i2 i3 ⊢;refine⟨.inr (i1.elim (fun k=>by rw [k];exact List.mem_cons_self ..) fun k=>List.mem_cons_of_mem _ k),fun k=>?_,fun z hz=>?_⟩
   ·exact i2 (Gj k n)
   ·rcases List.mem_cons.1 hz with rfl|hz
    ·exact i2
    ·exact i3 z hz
theorem Vo {l:List E} (h:l≠[]):mP l∈l.map bM∧∀ y∈l.map bM,¬lt (mP l) y:=by
 obtain⟨i1,i2,i3⟩:=MN l (bM (l.getD 0 []));refine⟨i1.elim (fun k=>?_) id,i3⟩;unfold mP;rw [k];cases l with
 |nil=>exact absurd rfl h
 |cons y l=>exact List.mem_cons_self ..
theorem aer {l:List E} (f:Fo (l.map bM)) {a b:Int} {p:List Int} (w:Wy (l.map bM) b a p) (n:a≠b):ZW l p≠[]:=by
 have hl:1 < p.length:=by
  cases w with
  |one=>exact absurd rfl n
  |go _ _ w _ =>
   obtain⟨q,e⟩:=xW w;rw [e];simp
 obtain⟨y,hy,h1,h2,_⟩:=(Oe f w (n:=0) hl).1;obtain⟨z,hz,_⟩:=aam hy h1 h2;intro e;rw [e] at hz;cases hz
end Go.Proofs.YtelhldgdnlppfaaGreat.TrC
namespace Go.Proofs.YtelhldgdnlppfaaGreat.TrQ
open Go Ry Go.Proofs.YtelhldgdnlppfaaGreat.So JoS EcX EgR EgL SpR SpQ SpK SpT SpL SpN TrK TrB TrR TrC
structure XO where
 i:Int
 o:List E
def rdR (n k:Nat) (st:St):XO:=⟨bw st n,ZC (match fW st k with | .sl _ c=>c|_=>.ae .nil [])⟩
def NF (l:List E) (y:XO):Nat:=l.length - y.i.toNat
def woQ (l:List E) (c:T) (y:XO):Prop:=0≤y.i∧y.i≤l.length∧y.o=iv (l.take y.i.toNat) c
noncomputable def woI (l:List E) (a b w:Int) (y:XO):St:=br Tryz.f168.ntmps [(0,.sl none (.ae .pY l)),(3,.ptr 1 0),(5,.sl (some (2,183)) (.ae .pY y.o)),(6,.ay y.i)] [(1,.cells 183 [.ay a,.ay b,.ay w]),(2,.tok)] [Any,Any]
theorem Ww (y:E) (a b w:Int):bM y=(a,b,w)↔ri y 0=a∧ri y 1=b∧ri y 2=w:=by
 unfold bM;simp only [Prod.mk.injEq]
theorem Hj {l:List E} {i:Int} (h0:0≤i) (h:i < l.length) (c:T):iv (l.take (i+1).toNat) c=iv (l.take i.toNat) c ++ if bM (l.getD i.toNat [])=c then [] else [e3 (l.getD i.toNat [])]:=by
 rw [cC l i h0 h];unfold iv;rw [List.filter_append,List.map_append,List.filter_cons,List.filter_nil]
 congr 1
 by_cases e:bM (l.getD i.toNat [])=c
 ·rw [if_pos e,decide_eq_false (fun k=>k e)];rfl
 ·rw [if_neg e,decide_eq_true e];rfl
theorem Rq {l:List E} {a b w:Int} (hl:l.length≤1000000) {i:Int} {o:List E} (hq:woQ l (a,b,w) ⟨i,o⟩):o.length≤1000000∧(i < l.length→aD .add .i64 i 1=i+1∧(∀ p,NF l ⟨i+1,p⟩ < NF l ⟨i,o⟩) ∧
  (ri (l.getD i.toNat []) 0=a∧ri (l.getD i.toNat []) 1=b∧ri (l.getD i.toNat []) 2=w→woQ l (a,b,w) ⟨i+1,o⟩)∧(¬(ri (l.getD i.toNat []) 0=a∧ri (l.getD i.toNat []) 1=b∧ri (l.getD i.toNat []) 2=w)→woQ l (a,b,w) ⟨i+1,o ++ [[D.int (ri (l.getD i.toNat []) 0),D.int (ri (l.getD i.toNat []) 1),D.int (ri (l.getD i.toNat []) 2)]]⟩))∧(¬i < l.length→o=iv l (a,b,w)):=by
 obtain⟨h0,h1,h2⟩:=hq;simp only at h0 h1 h2;have hle:=HH (l.take i.toNat) (a,b,w);rw [List.length_take,← h2] at hle;refine⟨by omega,fun h=>⟨by rw [aW,wr _ (by omega) (by omega)],fun p=>by simp only [NF];omega,fun g=>⟨by simp only;omega,by simp only;omega,?_⟩,fun g=>⟨by simp only;omega,by simp only;omega,?_⟩⟩,fun h=>?_⟩
 ·simp only;rw [Hj h0 h,if_pos ((Ww _ _ _ _).2 g),List.append_nil];exact h2
 ·simp only;rw [Hj h0 h,if_neg (fun k=>g ((Ww _ _ _ _).1 k)),h2];rfl
 ·have e:i=l.length:=by omega
  rw [e,Int.toNat_natCast,List.take_length] at h2;exact h2
def YN (l:List E) (a b:Int) (y:E):Bool:=!rJ (iv l (bM y)) a b
def onQ (l:List E) (a b:Int) (y:XO):Prop:=0≤y.i∧y.i≤l.length∧y.o=((l.take y.i.toNat).filter (YN l a b)).map e3
noncomputable def onI (l:List E) (a b:Int) (y:XO):St:=br Tryz.f147.ntmps [(0,.sl none (.ae .pY l)),(1,.ay a),(2,.ay b),(7,.sl (some (1,183)) (.ae .pY y.o)),(8,.ay y.i)] [(1,.tok)] [Any,Any,Any]
theorem Uf {l:List E} {a b:Int} (hin:rQ l=true) {i:Int} {o:List E} (hq:onQ l a b ⟨i,o⟩):o.length≤1000000∧(i < l.length→aD .add .i64 i 1=i+1∧(∀ p,NF l ⟨i+1,p⟩ < NF l ⟨i,o⟩)∧rQ (iv l (ri (l.getD i.toNat []) 0,ri (l.getD i.toNat []) 1,ri (l.getD i.toNat []) 2))=true ∧
  (rJ (iv l (ri (l.getD i.toNat []) 0,ri (l.getD i.toNat []) 1,ri (l.getD i.toNat []) 2)) a b=true→onQ l a b ⟨i+1,o⟩)∧(rJ (iv l (ri (l.getD i.toNat []) 0,ri (l.getD i.toNat []) 1,ri (l.getD i.toNat []) 2)) a b=false→onQ l a b ⟨i+1,o ++ [[D.int (ri (l.getD i.toNat []) 0),D.int (ri (l.getD i.toNat []) 1),D.int (ri (l.getD i.toNat []) 2)]]⟩))∧(¬i < l.length→o=kC l a b):=by
 obtain⟨h0,h1,h2⟩:=hq;simp only at h0 h1 h2;have hl:=(eD.1 hin).1;have hle:=List.length_filter_le (YN l a b) (l.take i.toNat);rw [List.length_take] at hle;have nx:∀ g:i < l.length,((l.take (i+1).toNat).filter (YN l a b)).map e3=((l.take i.toNat).filter (YN l a b)).map e3 ++ if YN l a b (l.getD i.toNat [])=true then [e3 (l.getD i.toNat [])] else []:=fun g=>by
  rw [cC l i h0 g,List.filter_append,List.map_append,List.filter_cons,List.filter_nil]
  congr 1
  split <;> rfl
 refine⟨by rw [h2,List.length_map];omega,fun h=>⟨by rw [aW,wr _ (by omega) (by omega)],fun p=>by simp only [NF];omega,aas hin _,fun g=>⟨by simp only;omega,by simp only;omega,?_⟩,fun g=>⟨by simp only;omega,by simp only;omega,?_⟩⟩,fun h=>?_⟩
 ·have g:rJ (iv l (bM (l.getD i.toNat []))) a b=true:=g;simp only;rw [nx h,YN,g,h2];simp
 ·have g:rJ (iv l (bM (l.getD i.toNat []))) a b=false:=g;simp only;rw [nx h,YN,g,h2];rfl
 ·have e:i=l.length:=by omega
  rw [e,Int.toNat_natCast,List.take_length] at h2;exact h2
structure XP where
 n:Int
 o:List Int
structure XS where
 i:Int
theorem ME (l:List E) (a b:Int):(kC l a b).length≤l.length:=by
 unfold kC;rw [List.length_map];exact List.length_filter_le _ _
structure XM where
 i:Int
 a:Int
 b:Int
 w:Int
def mxQ (l:List E) (y:XM):Prop:=0≤y.i∧y.i≤l.length∧(y.a,y.b,y.w)=(l.take y.i.toNat).foldl vY (bM (l.getD 0 []))
def Vy (l:List E) (y:XM):Nat:=l.length - y.i.toNat
noncomputable def mxI (l:List E) (y:XM):St:=br Tryz.f146.ntmps [(0,.sl none (.ae .pY l)),(2,.ptr 1 0),(3,.ptr 2 0),(4,.ay y.i)] [(1,.cells 183 [.num .i64 0,.num .i64 0,.num .i64 0]),(2,.cells 183 [.ay y.a,.ay y.b,.ay y.w])] [Any]
def mxR (st:St):XM:=⟨bw st 4,qm (fb st 3 0),qm (fb st 3 1),qm (fb st 3 2)⟩
theorem Ts {l:List E} (hl:l.length≤1000000) {i a b w:Int} (hq:mxQ l ⟨i,a,b,w⟩):(i < l.length→aD .add .i64 i 1=i+1∧(∀ a' b' w',Vy l ⟨i+1,a',b',w'⟩ < Vy l ⟨i,a,b,w⟩) ∧
  (vC a b w (ri (l.getD i.toNat []) 0) (ri (l.getD i.toNat []) 1) (ri (l.getD i.toNat []) 2)=true→mxQ l ⟨i+1,ri (l.getD i.toNat []) 0,ri (l.getD i.toNat []) 1,ri (l.getD i.toNat []) 2⟩)∧(vC a b w (ri (l.getD i.toNat []) 0) (ri (l.getD i.toNat []) 1) (ri (l.getD i.toNat []) 2)=false→mxQ l ⟨i+1,a,b,w⟩))∧(¬i < l.length→a=(mP l).1∧b=(mP l).2.1∧w=(mP l).2.2):=by
 obtain⟨h0,h1,h2⟩:=hq;simp only at h0 h1 h2;have nx:∀ g:i < l.length,(l.take (i+1).toNat).foldl vY (bM (l.getD 0 []))=vY (a,b,w) (l.getD i.toNat []):=fun g=>by
  rw [cC l i h0 g,List.foldl_append,← h2];rfl
 refine⟨fun h=>⟨by rw [aW,wr _ (by omega) (by omega)],fun _ _ _=>by simp only [Vy];omega,fun g=>⟨by simp only;omega,by simp only;omega,?_⟩,fun g=>⟨by simp only;omega,by simp only;omega,?_⟩⟩,fun h=>?_⟩
 ·simp only;rw [nx h];unfold vY;exact (if_pos g).symm
 ·simp only;rw [nx h];unfold vY;exact (if_neg (by simp only;rw [g];decide)).symm
 ·have e:i=l.length:=by omega
  rw [e,Int.toNat_natCast,List.take_length] at h2;unfold mP;rw [← h2];exact⟨rfl,rfl,rfl⟩
def Ks (l:List E) (a b:Int):Bool:=decide (kS l=0) && (JJ l && (bG a && bG b))
def Ai (l:List E) (a b:Int):Int:=if qc l a b=0 then (if a=b then 4 else 0) else qc l a b
def lW (l:List E) (a b:Int):T:=if Ai l a b=0 then Qu (wF 65 (qQ l b) a) l else (0,0,0)
def hvQ (p:List Int) (l:List E) (y:XM):Prop:=0≤y.i∧y.i≤l.length∧(y.a,y.b,y.w)=Qu p (l.take y.i.toNat)
noncomputable def QA (A:Ar) (l:List E) (_ p:List Int) (y:XM):St:=br Tryz.f174.ntmps [(0,.sl none (.ae .pY l)),(6,.ptr 1 0),(10,.sl none (.ints .i64 p)),(11,.ptr 2 0),(33,.sl none (.ae .pY l)),(34,.ay (A.dN l)),(35,.ay y.i)] [(1,.cells 183 [.num .i64 0,.num .i64 0,.num .i64 0]),(2,.cells 183 [.ay y.a,.ay y.b,.ay y.w])] [Any,Any,Any]
def hvR (st:St):XM:=⟨bw st 35,qm (fb st 11 0),qm (fb st 11 1),qm (fb st 11 2)⟩
theorem SQ (p:List Int) (l:List E):hvQ p l ⟨0,0,0,0⟩:=⟨Int.le_refl 0,Int.natCast_nonneg _,rfl⟩
theorem Sw {p:List Int} {l:List E} (hl:l.length≤1000000) {i a b w:Int} (hq:hvQ p l ⟨i,a,b,w⟩):(i < l.length→aD .add .i64 i 1=i+1∧(∀ a' b' w',Vy l ⟨i+1,a',b',w'⟩ < Vy l ⟨i,a,b,w⟩) ∧
  (bC p (ri (l.getD i.toNat []) 0)=true∧bC p (ri (l.getD i.toNat []) 1)=true∧(a=0∨fX (ri (l.getD i.toNat []) 0) (ri (l.getD i.toNat []) 1) (ri (l.getD i.toNat []) 2) a b w > 0)→hvQ p l ⟨i+1,ri (l.getD i.toNat []) 0,ri (l.getD i.toNat []) 1,ri (l.getD i.toNat []) 2⟩) ∧
  (¬(bC p (ri (l.getD i.toNat []) 0)=true∧bC p (ri (l.getD i.toNat []) 1)=true∧(a=0∨fX (ri (l.getD i.toNat []) 0) (ri (l.getD i.toNat []) 1) (ri (l.getD i.toNat []) 2) a b w > 0))→hvQ p l ⟨i+1,a,b,w⟩))∧(¬i < l.length→a=(Qu p l).1∧b=(Qu p l).2.1∧w=(Qu p l).2.2):=by
 obtain⟨h0,h1,h2⟩:=hq;simp only at h0 h1 h2;have nx:∀ g:i < l.length,Qu p (l.take (i+1).toNat)=fu p (a,b,w) (l.getD i.toNat []):=fun g=>by
  unfold Qu at h2 ⊢;rw [cC l i h0 g,List.foldl_append,← h2];rfl
 refine⟨fun h=>⟨by rw [aW,wr _ (by omega) (by omega)],fun _ _ _=>by simp only [Vy];omega,fun g=>⟨by simp only;omega,by simp only;omega,?_⟩,fun g=>⟨by simp only;omega,by simp only;omega,?_⟩⟩,fun h=>?_⟩
 ·simp only;rw [nx h];unfold fu;exact (if_pos g).symm
 ·simp only;rw [nx h];unfold fu;exact (if_neg g).symm
 ·have e:i=l.length:=by omega
  rw [e,Int.toNat_natCast,List.take_length] at h2;rw [← h2];exact⟨rfl,rfl,rfl⟩
theorem afx {l:List E} {a b:Int} (h:qc l a b=0):rtH l a b=qQ l b∧okW (qQ l b) a=true∧(wF 65 (qQ l b) a).length≤64:=by
 obtain⟨_,_,_,_,_,_,_,k1,k2,_⟩:=aaq h;exact⟨if_pos h,k1,k2⟩
structure Tq where
 afl:List E→Int→Int→Int→List E
 Ss:List E→Int→Int→List E
 ahm:List E→Int→Int→List Int
 agK:List E→Int→Int→Bool
 JZ:List E→T
 aew:List E→Bool
 Mf:List E→Bool
 afN:List E→Bool
 agV:List E→Int→Int→Bool
 aao:List E→Int→Int→T
 abS:List E→Int→Int→Int
def Tq.aa:Tq:=⟨fun l a b w=>iv l (a,b,w),kC,Zy,fun l a b=>decide (qc l a b=0∧l.length≤512),mP,fun l=>decide (0 < l.length∧l.length≤1000000),fun l=>decide (l.length≤1000000),rQ,Ks,lW,Ai⟩
def wW (F:Tq):aO:=fun xs h=>match xs,h with
 |[.one (.sl none (.ae (.int .i64 (.int .i64 (.int .i64 .nil))) l)),.agg [.val (.int .i64 c_a),.val (.int .i64 c_b),.val (.int .i64 c_w)]],[]=>some ⟨F.Mf l=true,.sa (.one (.sl none (.ae .pY (F.afl l c_a c_b c_w)))),[],[Any,Any]⟩
 |_,_=>none
theorem Dz:au Tryz.prog 168 (wW Tq.aa):=by
 have hfs:=ak.nil;refine aw hfs Tryz.func168 rfl rfl fun xs h p hp=>?_;unfold wW at hp;split at hp
 ·rename_i l c_a c_b c_w;cases hp;refine⟨av rfl,fun hC _=>?_⟩;dsimp only at hC;intro b gv;have hk:l.length≤1000000:=of_decide_eq_true hC;generalize hF:Tq.aa=F,hG0:EgR.Fs.aa=G0,hG1:SpR.Sp.aa=G1,hG2:SpQ.Sq.aa=G2,hG3:TrR.Tr.aa=G3 at hC hfs ⊢;refine bu fun Z zq A hA L hL=>?_
  repeat' (first|(apply al zq;try dsimp only)|apply aS zq (af hL)|apply aq zq|refine aT rfl ?_|apply ai|refine ah rfl ?_|refine aR rfl ?_|exact aA|apply aB|refine aP fun _=>?_|refine aQ fun _=>?_|(constructor;cbv))
  subst hL;refine aJ (aN hfs) (woQ l (c_a,c_b,c_w)) (woI l c_a c_b c_w) (NF l) (rdR 6 5) ⟨0,[]⟩ ?_ ?_ ?_
  ·exact⟨Int.le_refl 0,Int.natCast_nonneg _,rfl⟩
  ·cbv
   repeat' (first|exact trivial|exact rfl|refine And.intro ?_ ?_)
  rintro⟨i,o⟩ hq O hO;have hst:=Rq hk hq;have q0:=hq.1;have q1:=hq.2.1;dsimp only at q0 q1;subst hA;generalize hA:Ar.aa=A;generalize hL:Lp _ _ _=L;refine az zq ?_
  repeat' (first|(apply al zq;try dsimp only)|apply aS zq (af hL)|apply aq zq|refine aT rfl ?_|apply ai|refine ah rfl ?_|refine aR rfl ?_|exact aA|apply aB|refine aP fun _=>?_|refine aQ fun _=>?_|(constructor;cbv))
  all_goals (clear hL hfs zq Z hq;subst hA hF hG0 hG1 hG2 hG3 hO;simp only [Tq.aa,Ar.aa] at * <;> grind [aj];done)
 ·cases hp
def aae (F:Tq):aO:=fun xs h=>match xs,h with
 |[.one (.sl none (.ae (.int .i64 (.int .i64 (.int .i64 .nil))) l)),.one (.val (.int .i64 a)),.one (.val (.int .i64 d))],[]=>some ⟨F.afN l=true,.sa (.one (.sl none (.ae .pY (F.Ss l a d)))),[],[Any,Any,Any]⟩
 |_,_=>none
theorem Wv:au Tryz.prog 147 (aae Tq.aa):=by
 have hfs:=(ak.cons Dz (ak.cons jE ak.nil rfl) rfl);refine aw hfs Tryz.func147 rfl rfl fun xs h p hp=>?_;unfold aae at hp;split at hp
 ·rename_i l a d;cases hp;refine⟨av rfl,fun hC _=>?_⟩;dsimp only at hC;intro b gv;have hk:rQ l=true:=hC;have hk1:=(eD.1 hk).1;generalize hF:Tq.aa=F,hG0:EgR.Fs.aa=G0,hG1:SpR.Sp.aa=G1,hG2:SpQ.Sq.aa=G2,hG3:TrR.Tr.aa=G3 at hC hfs ⊢;refine bu fun Z zq A hA L hL=>?_
  repeat' (first|(apply al zq;try dsimp only)|apply aS zq (af hL)|apply aq zq|refine aT rfl ?_|apply ai|refine ah rfl ?_|refine aR rfl ?_|exact aA|apply aB|refine aP fun _=>?_|refine aQ fun _=>?_|(constructor;cbv))
  subst hL;refine aJ (aN hfs) (onQ l a d) (onI l a d) (NF l) (rdR 8 7) ⟨0,[]⟩ ?_ ?_ ?_
  ·exact⟨Int.le_refl 0,Int.natCast_nonneg _,rfl⟩
  ·cbv
   repeat' (first|exact trivial|exact rfl|refine And.intro ?_ ?_)
  rintro⟨i,o⟩ hq O hO;have hst:=Uf hk hq;have q0:=hq.1;have q1:=hq.2.1;dsimp only at q0 q1;subst hA;generalize hA:Ar.aa=A;generalize hL:Lp _ _ _=L;refine az zq ?_
  repeat' (first|(apply al zq;try dsimp only)|apply aS zq (af hL)|apply aq zq|refine aT rfl ?_|apply ai|refine ah rfl ?_|refine aR rfl ?_|exact aA|apply aB|refine aP fun _=>?_|refine aQ fun _=>?_|(constructor;cbv))
  all_goals (clear hL hfs zq Z hq;subst hA hF hG0 hG1 hG2 hG3 hO;simp only [Tq.aa,SpQ.Sq.aa,Ar.aa] at * <;> grind [aj];done)
 ·cases hp
def mY (F:Tq):aO:=fun xs h=>match xs,h with
 |[.one (.sl none (.ae (.int .i64 (.int .i64 (.int .i64 .nil))) l))],[]=>some ⟨F.aew l=true,.sa (.agg [.ay (F.JZ l).1,.ay (F.JZ l).2.1,.ay (F.JZ l).2.2]),[],[Any]⟩
 |_,_=>none
theorem rA:au Tryz.prog 146 (mY Tq.aa):=by
 have hfs:=(ak.cons pJ ak.nil rfl);refine aw hfs Tryz.func146 rfl rfl fun xs h p hp=>?_;unfold mY at hp;split at hp
 ·rename_i l;cases hp;refine⟨av rfl,fun hC _=>?_⟩;dsimp only at hC;intro b gv;have hk:0 < l.length∧l.length≤1000000:=of_decide_eq_true hC;generalize hF:Tq.aa=F,hG0:EgR.Fs.aa=G0,hG1:SpR.Sp.aa=G1,hG2:SpQ.Sq.aa=G2,hG3:TrR.Tr.aa=G3 at hC hfs ⊢;refine bu fun Z zq A hA L hL=>?_
  repeat' (first|(apply al zq;try dsimp only)|apply aS zq (af hL)|apply aq zq|refine aT rfl ?_|apply ai|refine ah rfl ?_|refine aR rfl ?_|exact aA|apply aB|refine aP fun _=>?_|refine aQ fun _=>?_|(constructor;cbv))
  all_goals first|(show L _ _ _;skip)|(clear hL hfs zq Z;subst hA hF hG0 hG1 hG2 hG3;simp only [Tq.aa,Ar.aa] at * <;> grind [aj];done)
  subst hL;refine aJ (aN hfs) (mxQ l) (mxI l) (Vy l) mxR ⟨0,A.ri (A.bh l 0) 0,A.ri (A.bh l 0) 1,A.ri (A.bh l 0) 2⟩ ?_ ?_ ?_
  ·(subst hA;exact⟨Int.le_refl 0,Int.natCast_nonneg _,rfl⟩)
  ·cbv
   repeat' (first|exact trivial|exact rfl|refine And.intro ?_ ?_)
  rintro⟨i,a,d,w⟩ hq O hO;have hst:=Ts hk.2 hq;have q0:=hq.1;have q1:=hq.2.1;dsimp only at q0 q1;subst hA;generalize hA:Ar.aa=A;generalize hL:Lp _ _ _=L;refine az zq ?_
  repeat' (first|(apply al zq;try dsimp only)|apply aS zq (af hL)|apply aq zq|refine aT rfl ?_|apply ai|refine ah rfl ?_|refine aR rfl ?_|exact aA|apply aB|refine aP fun _=>?_|refine aQ fun _=>?_|(constructor;cbv))
  all_goals (clear hL hfs zq Z hq;subst hA hF hG0 hG1 hG2 hG3 hO;simp only [Tq.aa,SpQ.Sq.aa,Ar.aa] at * <;> grind [aj];done)
 ·cases hp
def uj (F:Tq):aO:=fun xs h=>match xs,h with
 |[.one (.sl none (.ae (.int .i64 (.int .i64 (.int .i64 .nil))) l)),.one (.val (.int .i64 a)),.one (.val (.int .i64 d))],[]=>some ⟨F.Mf l=true,.cN [.agg [.ay (F.aao l a d).1,.ay (F.aao l a d).2.1,.ay (F.aao l a d).2.2],I (F.abS l a d)],[],[Any,Any,Any]⟩
 |_,_=>none
theorem qE:au Tryz.prog 174 (uj Tq.aa):=by
 have hfs:=(ak.cons LK (ak.cons Zp (ak.cons Ay (ak.cons ma ak.nil rfl) rfl) rfl) rfl);refine aw hfs Tryz.func174 rfl rfl fun xs h p hp=>?_;unfold uj at hp;split at hp
 ·rename_i l a d;cases hp;refine⟨av rfl,fun hC _=>?_⟩;dsimp only at hC;intro b gv;have hk:l.length≤1000000:=of_decide_eq_true hC;have h0:=fun h=>afx (l:=l) (a:=a) (b:=d) h;have h65:=aaF (l:=l) (a:=a) (b:=d);generalize hF:Tq.aa=F,hG0:EgR.Fs.aa=G0,hG1:SpR.Sp.aa=G1,hG2:SpQ.Sq.aa=G2,hG3:TrR.Tr.aa=G3 at hC hfs ⊢;refine bu fun Z zq A hA L hL=>?_
  repeat' (first|(apply al zq;try dsimp only)|apply aS zq (af hL)|apply aq zq|refine aT rfl ?_|apply ai|refine ah rfl ?_|refine aR rfl ?_|exact aA|apply aB|refine aP fun _=>?_|refine aQ fun _=>?_|(constructor;cbv))
  all_goals first|(show L _ _ _;skip)|(clear hL hfs zq Z;subst hA hF hG0 hG1 hG2 hG3;simp only [Tq.aa,TrR.Tr.aa,Ar.aa] at * <;> grind [aj,Ai,lW];done)
  rename_i hx1 hx2;have hr:qc l a d=0∧¬a=d:=by
   clear hL hfs zq Z h0;subst hA hF hG0 hG1 hG2 hG3;simp only [Tq.aa,TrR.Tr.aa,Ar.aa] at *
   grind [aj]
  clear hx1 hx2;obtain⟨r1,r2,r3⟩:=h0 hr.1;have r4:Ai l a d=0:=by
   unfold Ai;rw [if_pos hr.1,if_neg hr.2]
  have r5:lW l a d=Qu (wF 65 (qQ l d) a) l:=if_pos r4;subst hL;refine aJ (aN hfs) (hvQ (wF 65 (qQ l d) a) l) (QA A l (G3.Yh l a d) (G3.sw (G3.Yh l a d) a)) (Vy l) hvR ⟨0,0,0,0⟩ ?_ ?_ ?_
  ·exact SQ _ _
  ·cbv
   repeat' (first|exact trivial|exact rfl|refine And.intro ?_ ?_)
  rintro⟨i,x,y,w⟩ hq O hO;have hst:=Sw hk hq;have q0:=hq.1;have q1:=hq.2.1;dsimp only at q0 q1;subst hA;generalize hA:Ar.aa=A;generalize hL:Lp _ _ _=L;refine az zq ?_
  repeat' (first|(apply al zq;try dsimp only)|apply aS zq (af hL)|apply aq zq|refine aT rfl ?_|apply ai|refine ah rfl ?_|refine aR rfl ?_|exact aA|apply aB|refine aP fun _=>?_|refine aQ fun _=>?_|(constructor;cbv))
  all_goals (clear hL hfs zq Z hq;subst hA hF hG0 hG1 hG2 hG3 hO;simp only [Tq.aa,EgR.Fs.aa,TrR.Tr.aa,Ar.aa] at * <;> grind [aj];done)
 ·cases hp
end Go.Proofs.YtelhldgdnlppfaaGreat.TrQ
