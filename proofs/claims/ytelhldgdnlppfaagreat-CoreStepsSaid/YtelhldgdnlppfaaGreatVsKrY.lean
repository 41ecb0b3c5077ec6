/-
  Events of a core that may be,by the code and by the document. No condition.
-/
import Derived.Test.YtelhldgdnlppfaaGreatVsKrX
import Derived.Test.YtelhldgdnlppfaaGreatVsKsF
namespace Go.Proofs.YtelhldgdnlppfaaGreat.KrY
open Go Ry ViR VoR KsS KsC KsT KsE KsF ViT ViM MgT KrV KrW KrX
open MgR (oO nY oo eH rO)
open ChQ (jt ef CH)
open TrR (bS)
open WoR (kx WD)
theorem adD {L M:Lv} (h:L.B=M.B):jh L=jh M:=by
 funext d k a
 unfold jh;rw [h]
theorem acg {L M:Lv} (h:L.B=M.B):mh L=mh M:=by
 funext d c v l
 unfold mh;rw [adD h]
theorem OH {L M:Lv} (h:L.B=M.B):cy L=cy M:=by
 funext d
 unfold cy;rw [acg h]
theorem acU {L M:Lv} (h:L.B=M.B):gu L=gu M:=by
 funext d
 unfold gu;rw [OH h]
noncomputable def RV:Lv:=rup (rup vF)
theorem CQ:RV.B=VV.B:=acU (L:=rup vF) (M:=vF.up) rfl
theorem Ig:Lk RV 50000:=⟨fun x h q=>by
 show okB (rup vF) x=true;unfold okB;rw [Pu (L:=rup vF) (n:=50000) (fun y h1 h2 h3=>?_) (by decide) h q,dA.2 h,decide_eq_true (show x.q.length≤60000 by omega)]
 ·rfl
 ·show okB vF y=true;unfold okB;rw [wm vF h1 (by omega) h3,dA.2 h1,decide_eq_true (show y.q.length≤60000 by omega)];rfl,fun x h=>zV (L:=rup vF) (fun y g=>zV Wo g) h⟩
structure Cut (l:List E) (p:Int) (k:Nat):Prop where
 kl:k≤l.length
 a:∀ y∈l.take k,ri y 0 < p
 b:∀ y∈l.drop k,p≤ri y 0
theorem EO {l:List E} (h:(l.map pr).Pairwise (· < ·)) (p:Int):Cut l p (nR l p).toNat:=by
 have hm:∀ x y:Int,0≤x→x≤y→y < (l.length:Int)→Ld l p y=true→Ld l p x=true:=fun x y h0 h1 h2 g=>by
  rcases Int.lt_or_eq_of_le h1 with e|e
  ·unfold Ld at g ⊢;rw [decide_eq_true_eq] at g ⊢;rw [List.pairwise_map,List.pairwise_iff_getElem] at h;have hx:=h x.toNat y.toNat (by omega) (by omega) (by omega);rw [List.getD_eq_getElem?_getD,List.getElem?_eq_getElem (show x.toNat < l.length by omega)];rw [List.getD_eq_getElem?_getD,List.getElem?_eq_getElem (show y.toNat < l.length by omega)] at g;simp only [Option.getD_some] at g ⊢;unfold pr at hx;unfold Cmp.iK at g ⊢;split at g
   ·rw [if_pos (by omega)];decide
   ·split at g <;> omega
  ·rw [e];exact g
 have sp:=pD (Ld l p) l.length l.length 0 l.length (Int.le_refl 0) (by omega) (Int.le_refl _) (by omega) (fun x h0 h1=>by omega) (fun x h0 h1=>by omega) hm;have pi:=Hh l p;have e:nR l p=nL (Ld l p) l.length 0 l.length:=rfl;rw [← e] at sp;have cv:∀ x:Int,0≤x→x < l.length→(Ld l p x=true↔ri (l.getD x.toNat []) 0 < p):=fun x h0 h1=>by
  unfold Ld Cmp.iK;rw [decide_eq_true_eq];split
  ·omega
  ·split <;> omega
 refine⟨by omega,fun y hy=>?_,fun y hy=>?_⟩
 ·obtain⟨j,hj,rfl⟩:=List.getElem_of_mem hy;rw [List.length_take] at hj;rw [List.getElem_take];have:=(cv j (by omega) (by omega)).1 (sp.2.2.1 j (by omega) (by omega));rw [List.getD_eq_getElem?_getD,List.getElem?_eq_getElem (show (j:Int).toNat < l.length by omega)] at this;exact this
 ·obtain⟨j,hj,rfl⟩:=List.getElem_of_mem hy;rw [List.length_drop] at hj;rw [List.getElem_drop];have h1:=sp.2.2.2 ((nR l p).toNat+j:Nat) (by omega) (by omega);have h2:=cv ((nR l p).toNat+j:Nat) (by omega) (by omega);rw [h1] at h2;rw [List.getD_eq_getElem?_getD,List.getElem?_eq_getElem (show (((nR l p).toNat+j:Nat):Int).toNat < l.length by omega)] at h2;have h3:¬ri (l[(nR l p).toNat+j]'(by omega)) 0 < p:=fun q=>by
   have:=h2.2 q;cases this
  omega
def WX (l:List E) (p:Int) (t:E) (k:Nat):List E:=l.take k ++ (t :: (l.drop k).filter fun y=>!decide (ri y 0=p))
theorem Vt {a b:Int}:Cmp.iK a b=0↔a=b:=by
 unfold Cmp.iK;split
 ·omega
 ·split <;> omega
theorem LC {l:List E} (h:(l.map pr).Pairwise (· < ·)) (p w s:Int):QB l p w s=WX l p (BR p w s) (nR l p).toNat:=by
 have c:=EO h p;have pi:=Hh l p;unfold QB WX;have hp:(l.drop (nR l p).toNat).Pairwise fun x y=>ri x 0 < ri y 0:=(List.pairwise_map.1 h).sublist (List.drop_sublist _ _);split
 ·rename_i f;unfold Rf at f;rw [Bool.and_eq_true,decide_eq_true_eq,decide_eq_true_eq,Vt] at f;have hk:(nR l p).toNat < l.length:=by omega
  rw [List.set_eq_take_append_cons_drop,if_pos hk]
  congr 2
  rw [List.drop_eq_getElem_cons hk] at hp ⊢;rw [List.getD_eq_getElem?_getD,List.getElem?_eq_getElem hk] at f;have f2:ri l[(nR l p).toNat] 0=p:=f.2;rw [List.filter_cons_of_neg (by rw [f2];simp)]
  symm
  rw [List.filter_eq_self];intro y hy;have:=(List.pairwise_cons.1 hp).1 y hy;rw [decide_eq_false (by omega)];rfl
 ·rename_i f
  congr 2
  symm
  rw [List.filter_eq_self];intro y hy;have g:=c.b y hy
  by_cases hk:(nR l p).toNat < l.length
  ·rw [List.drop_eq_getElem_cons hk] at hp hy;have f2:¬ri l[(nR l p).toNat] 0=p:=fun q=>f (by
    unfold Rf;rw [Bool.and_eq_true,decide_eq_true_eq,decide_eq_true_eq,Vt,List.getD_eq_getElem?_getD,List.getElem?_eq_getElem hk];exact⟨by omega,q⟩)
   have g0:=c.b (l[(nR l p).toNat]) (by rw [List.drop_eq_getElem_cons hk];exact List.mem_cons_self ..);rcases List.mem_cons.1 hy with e|e
   ·rw [e,decide_eq_false f2];rfl
   ·have:=(List.pairwise_cons.1 hp).1 y e;rw [decide_eq_false (by omega)];rfl
  ·rw [List.drop_eq_nil_of_le (by omega)] at hy;cases hy
structure XU where
 i:Int
 o:List E
 b:Bool
def adA (st:St) (k:Nat):List E:=match fW st k with | .sl _ (.ae _ l)=>l|_=>[]
def WI (st:St) (k:Nat):Bool:=match fW st k with | .val (.bool b)=>b | .tf b=>b|_=>false
def xuR (st:St):XU:=⟨bw st 8,adA st 6,WI st 7⟩
def yB (p:Int) (t:E) (x:List E × Bool) (y:E):List E × Bool :=
 if x.2=false∧p≤ri y 0 then ((if ri y 0=p then x.1 ++ [t] else x.1 ++ [t] ++ [t7 y]),true) else ((if ri y 0=p then x.1 else x.1 ++ [t7 y]),x.2)
def UB (l:List E) (p:Int) (t:E):List E × Bool:=l.foldl (yB p t) ([],false)
def Ur (l:List E) (p:Int) (t:E) (y:XU):Prop:=0≤y.i∧y.i≤l.length∧(y.o,y.b)=UB (l.take y.i.toNat) p t∧y.o.length≤2 * y.i.toNat
def upM (l:List E) (y:XU):Nat:=l.length - y.i.toNat
theorem Rg (l:List E) (p:Int) (t:E):Ur l p t ⟨0,[],false⟩:=⟨Int.le_refl 0,Int.natCast_nonneg _,rfl,Nat.le_refl _⟩
theorem TS {l:List E} {p:Int} {t:E} {i:Int} {o:List E} {b:Bool} (hq:Ur l p t ⟨i,o,b⟩):(o.length:Int)≤2 * i:=by
 have h0:=hq.1;have:=hq.2.2.2;simp only at h0 this;omega
theorem TV {l:List E} (hl:l.length≤1000) {p:Int} {t:E} {i:Int} {o:List E} {b:Bool} (hq:Ur l p t ⟨i,o,b⟩) (h:i < l.length) :
  aD .add .i64 i 1=i+1∧(∀ o' b',upM l ⟨i+1,o',b'⟩ < upM l ⟨i,o,b⟩)∧o.length≤2000 ∧
  (b=false→p≤ri (l.getD i.toNat []) 0→ri (l.getD i.toNat []) 0=p→Ur l p t ⟨i+1,o ++ [t],true⟩) ∧
  (b=false→p≤ri (l.getD i.toNat []) 0→¬ri (l.getD i.toNat []) 0=p→Ur l p t ⟨i+1,o ++ [t] ++ [t7 (l.getD i.toNat [])],true⟩) ∧
  (b=true∨¬p≤ri (l.getD i.toNat []) 0→ri (l.getD i.toNat []) 0=p→Ur l p t ⟨i+1,o,b⟩) ∧
  (b=true∨¬p≤ri (l.getD i.toNat []) 0→¬ri (l.getD i.toNat []) 0=p→Ur l p t ⟨i+1,o ++ [t7 (l.getD i.toNat [])],b⟩):=by
 obtain⟨h0,h1,h2,h3⟩:=hq;simp only at h0 h1 h2 h3;have ht:=lO l h0 h;have e1:(i+1).toNat=i.toNat+1:=by omega
 have hs:UB (l.take (i+1).toNat) p t=yB p t (o,b) (l.getD i.toNat []):=by
  rw [ht,h2];unfold UB;rw [List.foldl_append];rfl
 refine⟨by rw [aW,wr _ (by omega) (by omega)],fun o' b'=>by simp only [upM];omega,by omega,fun g1 g2 g3=>?_,fun g1 g2 g3=>?_,fun g1 g2=>?_,fun g1 g2=>?_⟩
 ·refine⟨by simp only;omega,by simp only;omega,?_,by simp only [List.length_append,List.length_singleton];omega⟩;simp only;rw [hs];unfold yB;rw [if_pos ⟨g1,g2⟩,if_pos g3]
 ·refine⟨by simp only;omega,by simp only;omega,?_,by simp only [List.length_append,List.length_singleton];omega⟩;simp only;rw [hs];unfold yB;rw [if_pos ⟨g1,g2⟩,if_neg g3]
 ·refine⟨by simp only;omega,by simp only;omega,?_,by simp only;omega⟩;simp only;rw [hs];unfold yB;rw [if_neg (fun q=>by
   rcases g1 with g|g
   ·rw [g] at q;cases q.1
   ·exact g q.2),if_pos g2]
 ·refine⟨by simp only;omega,by simp only;omega,?_,by simp only [List.length_append,List.length_singleton];omega⟩;simp only;rw [hs];unfold yB;rw [if_neg (fun q=>by
   rcases g1 with g|g
   ·rw [g] at q;cases q.1
   ·exact g q.2),if_neg g2]
theorem FY (p:Int) (t:E):∀ (l o:List E),(∀ y∈l,ri y 0 < p)→(∀ y∈l,y=t7 y)→l.foldl (yB p t) (o,false)=(o ++ l,false)
 |[],o,_,_=>by rw [List.append_nil];rfl
 |y :: l,o,h,c=>by
  rw [List.foldl_cons];have h1:=h y (List.mem_cons_self ..);have:yB p t (o,false) y=(o ++ [y],false):=by
   unfold yB;rw [if_neg (fun q=>by have:=q.2;omega),if_neg (by omega),← c y (List.mem_cons_self ..)]
  rw [this,FY p t l _ (fun z hz=>h z (List.mem_cons_of_mem _ hz)) fun z hz=>c z (List.mem_cons_of_mem _ hz),List.append_assoc];rfl
theorem pK (p:Int) (t:E):∀ (l o:List E),(∀ y∈l,y=t7 y)→l.foldl (yB p t) (o,true)=(o ++ l.filter (fun y=>!decide (ri y 0=p)),true)
 |[],o,_=>by rw [List.filter_nil,List.append_nil];rfl
 |y :: l,o,c=>by
  rw [List.foldl_cons]
  by_cases e:ri y 0=p
  ·have:yB p t (o,true) y=(o,true):=by
    unfold yB;rw [if_neg (fun q=>by cases q.1),if_pos e]
   rw [this,pK p t l _ fun z hz=>c z (List.mem_cons_of_mem _ hz),List.filter_cons_of_neg (by rw [decide_eq_true e];decide)]
  ·have:yB p t (o,true) y=(o ++ [y],true):=by
    unfold yB;rw [if_neg (fun q=>by cases q.1),if_neg e,← c y (List.mem_cons_self ..)]
   rw [this,pK p t l _ fun z hz=>c z (List.mem_cons_of_mem _ hz),List.filter_cons_of_pos (by rw [decide_eq_false e];rfl),List.append_assoc];rfl
theorem WY {l:List E} {p:Int} {k:Nat} (c:Cut l p k) (hc:∀ y∈l,y=t7 y) (t:E):(if (UB l p t).2=true then (UB l p t).1 else (UB l p t).1 ++ [t])=WX l p t k:=by
 unfold WX;have hs:UB l p t=(l.drop k).foldl (yB p t) (l.take k,false):=by
  unfold UB
  conv=>lhs;rw [← List.take_append_drop k l]
  rw [List.foldl_append,FY p t _ _ c.a fun y hy=>hc y (List.mem_of_mem_take hy),List.nil_append]
 have hd:∀ y∈l.drop k,y=t7 y:=fun y hy=>hc y (List.mem_of_mem_drop hy);have cb:=c.b;rw [hs];generalize l.drop k=r at *;generalize l.take k=q at *;cases r with
 |nil=>rfl
 |cons y r =>
  rw [List.foldl_cons];have h1:=cb y (List.mem_cons_self ..)
  by_cases e:ri y 0=p
  ·have:yB p t (q,false) y=(q ++ [t],true):=by
    unfold yB;rw [if_pos ⟨rfl,h1⟩,if_pos e]
   rw [this,pK p t r _ fun z hz=>hd z (List.mem_cons_of_mem _ hz),List.filter_cons_of_neg (by rw [decide_eq_true e];decide),if_pos rfl,List.append_assoc];rfl
  ·have:yB p t (q,false) y=(q ++ [t] ++ [y],true):=by
    unfold yB;rw [if_pos ⟨rfl,h1⟩,if_neg e,← hd y (List.mem_cons_self ..)]
   rw [this,pK p t r _ fun z hz=>hd z (List.mem_cons_of_mem _ hz),List.filter_cons_of_pos (by rw [decide_eq_false e];rfl),if_pos rfl,List.append_assoc,List.append_assoc];rfl
theorem ZG {d:CS} (hv:Vd d) {p w s i:Int} {o:List E} {b:Bool} (hq:Ur d.U p (BR p w s) ⟨i,o,b⟩) (h:¬i < d.U.length):QB d.U p w s=if b=true then o else o ++ [BR p w s]:=by
 obtain⟨h0,h1,h2,h3⟩:=hq;simp only at h0 h1 h2 h3;rw [show i.toNat=d.U.length by omega,List.take_length] at h2;rw [LC hv.s,← WY (EO hv.s p) (fun y hy=>(hv.t y hy).c),← h2]
theorem GD {d:CS} (h:Vd d) {p w s:Int} (hp:bG p=true) (hi:p≠d.i) (hr:0≤w∧w≤2147483647∧1≤s∧s≤2147483647):Vd (Jl d p w s):=by
 have c:=EO h.s p;have e:(Jl d p w s).U=WX d.U p (BR p w s) (nR d.U p).toNat:=LC h.s p w s;have hs:=List.pairwise_map.1 h.s;refine⟨h.i,fun y hy=>?_,?_,h.g,h.c,h.o,h.w,h.z⟩
 ·rw [e] at hy;unfold WX at hy;rcases List.mem_append.1 hy with g|g
  ·exact h.t y (List.mem_of_mem_take g)
  ·rcases List.mem_cons.1 g with g|g
   ·rw [g];exact⟨rfl,hp,hi,hr,(show df 0 false false 0=true by decide)⟩
   ·exact h.t y (List.mem_of_mem_drop (List.mem_filter.1 g).1)
 ·rw [e];unfold WX;rw [List.pairwise_map,List.pairwise_append,List.pairwise_cons];have ft:∀ y∈(d.U.drop (nR d.U p).toNat).filter (fun y=>!decide (ri y 0=p)),p < ri y 0:=fun y hy=>by
   obtain⟨g1,g2⟩:=List.mem_filter.1 hy;have:=c.b y g1;have:¬ri y 0=p:=fun q=>by
    rw [decide_eq_true q] at g2;cases g2
   omega
  refine⟨hs.sublist (List.take_sublist _ _),⟨fun y hy=>ft y hy,(hs.sublist (List.drop_sublist _ _)).sublist List.filter_sublist⟩,fun x hx y hy=>?_⟩;have h1:=c.a x hx;show ri x 0 < ri y 0;rcases List.mem_cons.1 hy with g|g
  ·rw [g];exact h1
  ·have:=ft y g;omega
theorem HP {d:CS} (h:Vd d) (a:Int):Vd { d with U:=PG d.U a }:=by
 have hb:(PG d.U a).Sublist d.U:=by
  unfold PG
  conv=>rhs;rw [← List.take_append_drop a.toNat d.U]
  exact (List.Sublist.refl _).append (by
   by_cases g:0≤a
   ·rw [show (a+1).toNat=a.toNat+1 by omega];exact List.drop_sublist_drop_left _ (by omega)
   ·rw [show (a+1).toNat=0 by omega,show a.toNat=0 by omega];exact List.Sublist.refl _)
 exact⟨h.i,fun y hy=>h.t y (hb.subset hy),h.s.sublist (hb.map pr),h.g,h.c,h.o,h.w,h.z⟩
theorem WR {L:Lv} {d:CS} (h:Vd d) {a:Int} (h0:0≤a) (h1:a < d.U.length) (k:Int):AP L d a k=gW L d a (eT k (tie d a)):=by
 have gd:=IZ k (h.t _ (bT h0 h1)).v;have e:kq (tie (aE d a (eT k (tie d a))) a)=gm (eT k (tie d a)).m (eT k (tie d a)).t (eT k (tie d a)).b (eT k (tie d a)).o:=by
  rw [lX gd.1];unfold tie;simp only;rw [DK h0 h1];rfl
 unfold AP gW;rw [e];cases d.o <;> cases (eT k (tie d a)).tb <;> simp
theorem Xt {l:List E} {p:Int} (h:0≤bA l p):ri (l.getD (bA l p).toNat []) 0=p:=by
 unfold bA at *;split at h
 ·rename_i g;have hx:l.findIdx (fun y=>decide (ri y 0=p)) < l.length:=by
   rw [List.findIdx_lt_length];obtain⟨y,hy,hp⟩:=List.any_eq_true.1 g;exact⟨y,hy,hp⟩
  rw [if_pos g,show ((l.findIdx (fun y=>decide (ri y 0=p)):Nat):Int).toNat=l.findIdx (fun y=>decide (ri y 0=p)) from rfl,List.getD_eq_getElem?_getD,List.getElem?_eq_getElem hx];have:=List.findIdx_getElem (w:=hx);exact of_decide_eq_true this
 ·omega
def Nx (w:List Int) (p:Int) (y:XL):Prop:=0≤y.i∧y.i≤w.length∧y.o=(w.take y.i.toNat).filter fun x=>!decide (x=p)
def rsM (w:List Int) (y:XL):Nat:=w.length - y.i.toNat
theorem RM (w:List Int) (p:Int):Nx w p ⟨0,[]⟩:=⟨Int.le_refl 0,Int.natCast_nonneg _,rfl⟩
theorem yd {w:List Int} (hw:w.length≤1000) {p i:Int} {o:List Int} (hq:Nx w p ⟨i,o⟩) (h:i < w.length):aD .add .i64 i 1=i+1∧(∀ o',rsM w ⟨i+1,o'⟩ < rsM w ⟨i,o⟩)∧o.length≤1000 ∧
  (w.getD i.toNat 0=p→Nx w p ⟨i+1,o⟩)∧(¬w.getD i.toNat 0=p→Nx w p ⟨i+1,o ++ [w.getD i.toNat 0]⟩):=by
 obtain⟨h0,h1,h2⟩:=hq;simp only at h0 h1 h2;have ht:=la w h0 h;have hlen:o.length≤1000:=by
  rw [h2];have h3:=List.length_filter_le (fun x=>!decide (x=p)) (w.take i.toNat);rw [List.length_take] at h3;omega
 refine⟨by rw [aW,wr _ (by omega) (by omega)],fun o'=>by simp only [rsM];omega,hlen,fun g=>⟨by simp only;omega,by simp only;omega,?_⟩,fun g=>⟨by simp only;omega,by simp only;omega,?_⟩⟩
 ·simp only;rw [ht,List.filter_append,List.filter_cons_of_neg (by rw [decide_eq_true g];decide),List.filter_nil,List.append_nil,h2]
 ·simp only;rw [ht,List.filter_append,List.filter_cons_of_pos (by rw [decide_eq_false g];rfl),List.filter_nil,h2]
theorem TG {w:List Int} {p:Int} (h:0≤bS w p):p∈w∧bS w p=(w.idxOf p:Nat):=by
 unfold bS at *;split at h
 ·rename_i g;rw [if_pos g];exact⟨by simpa using g,rfl⟩
 ·omega
theorem RR {w:List Int} {p:Int} (h:¬0≤bS w p):¬p∈w:=fun g=>h (by
 unfold bS;rw [if_pos (by simpa using g)];omega)
theorem Xc {w:List Int} (hn:w.Nodup) {p i:Int} {o:List Int} (hq:Nx w p ⟨i,o⟩) (h:¬i < w.length) :
  (bS w p < 0→o.length=w.length)∧(¬bS w p < 0→¬o.length=w.length∧o=w.take (bS w p).toNat ++ w.drop (bS w p+1).toNat):=by
 obtain⟨h0,h1,h2⟩:=hq;simp only at h0 h1 h2;rw [show i.toNat=w.length by omega,List.take_length] at h2;refine⟨fun g=>?_,fun g=>?_⟩
 ·have:=RR (w:=w) (p:=p) (by omega);rw [h2,List.filter_eq_self.2];intro x hx;rw [decide_eq_false (fun q=>this (by rw [← q];exact hx))];rfl
 ·obtain⟨hm,e⟩:=TG (w:=w) (p:=p) (by omega);have hx:w.idxOf p < w.length:=List.idxOf_lt_length_of_mem hm;have key:o=w.take (bS w p).toNat ++ w.drop (bS w p+1).toNat:=by
   rw [h2,e,show ((w.idxOf p:Nat):Int).toNat=w.idxOf p from rfl,show (((w.idxOf p:Nat):Int)+1).toNat=w.idxOf p+1 by omega]
   conv=>lhs;rw [← List.take_append_drop (w.idxOf p) w,List.drop_eq_getElem_cons hx]
   rw [List.filter_append];have hd:w[w.idxOf p]=p:=List.getElem_idxOf hx;rw [List.filter_cons_of_neg (by rw [hd];simp)];have hn2:=hn;rw [← List.take_append_drop (w.idxOf p) w,List.drop_eq_getElem_cons hx,hd,List.nodup_append] at hn2;obtain⟨n1,n2,n3⟩:=hn2;rw [List.nodup_cons] at n2
   congr 1
   ·rw [List.filter_eq_self];intro x hx2;rw [decide_eq_false (fun q=>n3 x hx2 p (List.mem_cons_self ..) q)];rfl
   ·rw [List.filter_eq_self];intro x hx2;rw [decide_eq_false (fun q=>n2.1 (by have:=hx2;rw [q] at this;exact this))];rfl
  refine⟨?_,key⟩;rw [key,List.length_append,List.length_take,List.length_drop,e];omega
theorem FV {e r e' r' : Int}:0 < UO e r e' r'↔e' < e∨e' = e∧r' < r:=by
 unfold UO;split
 ·split
  ·omega
  ·split <;> omega
 ·split <;> omega
theorem Lk.mono {L:Lv} {n m:Nat} (h:Lk L n) (hm:m≤n):Lk L m:=⟨fun x h1 h2=>h.ok x h1 (by omega),h.v⟩
theorem oH {L:Lv} {n:Nat} (hL:Lk L (n+65)) (hn:n≤70000) {d:CS} (h:Vd d) (hq:d.q.length≤n):eN L d=true:=MP hL.lb (by omega) h hq fun _ _ _ x h1 h2=>hL.ok x h1 h2
theorem Iw {L:Lv} {n:Nat} (hL:Lk L (n+300)) (hn:n≤60000) {d:CS} (h:Vd d) (ho:d.o=false) (hq:d.q.length≤n) (e r p:Int):gG L d e r p=true:=by
 have hl:=h.len;obtain⟨v,q,_,_⟩:=iU h ho e r p;unfold gG;rw [oH (n:=n+128) (Lk.mono hL (by omega)) (by omega) v (by omega),decide_eq_true ⟨by omega,by omega⟩];rfl
theorem Mc {L:Lv} {n:Nat} (hL:Lk L (n+65)) (hn:n≤70000) {d:CS} (h:Vd d) (ho:d.o=false) (hq:d.q.length≤n) (c:CH) {v:List Int} {l:List E} (hv:v.length≤500) (hl:l.length≤500):qP L d c v l=true :=
 Vf hL.lb (by omega) h ho hq hv hl fun _ _ _ x h1 h2=>hL.ok x h1 h2
theorem Te {L:Lv} {n:Nat} (hL:Lk L (n+66)) (hn:n≤60000) {d:CS} (h:Vd d) {a:Int} (h0:0≤a) (h1:a < d.U.length) (hq:d.q.length≤n) {r:VT} (g:ji r):iB L d a r=true:=by
 obtain⟨v,q,_⟩:=cP h h0 h1 g;unfold iB;rw [dA.2 h,hL.ok _ v (by omega),oH (n:=n+1) (Lk.mono hL (by omega)) (by omega) v (by omega),decide_eq_true (show 0≤a∧a < d.U.length∧d.q.length≤80000∧r.e=0∧df r.m r.t r.b r.o=true∧r.w.length≤1 from ⟨h0,h1,by omega,g⟩),decide_eq_true (show d.q.length≤78000 by omega)];simp
theorem YT {L:Lv} {n:Nat} (hL:Lk L (n+66)) (hn:n≤60000) {d:CS} (h:Vd d) {a:Int} (h0:0≤a) (h1:a < d.U.length) (hq:d.q.length≤n) (k:Int):AU L d a k=true:=by
 have hl:=h.len;obtain⟨v,q,_⟩:=cP h h0 h1 (IZ k (h.t _ (bT h0 h1)).v);unfold AU;rw [hL.ok _ v (by omega),oH (n:=n+1) (Lk.mono hL (by omega)) (by omega) v (by omega),decide_eq_true (show 0≤a∧a < d.U.length∧d.U.length≤300∧d.q.length≤70000 from ⟨h0,h1,by omega,by omega⟩)];simp
structure Rn (w:WK):Prop where
 m:kx (tH w)=true
 n:w.n.length≤70∧w.l.length≤60
 c:∀ y∈w.l,y=e5 y
theorem Yv {w:WK} (h:kx (tH w)=true) (k:w.k=2):aX w.n w.l=true:=by
 unfold WoR.kx at h;simp only [Bool.and_eq_true] at h;have h3:=h.2.2.1;unfold WoR.okV at h3;rw [if_pos (show WoR.full (tH w)=true from decide_eq_true (Or.inl k)),Bool.and_eq_true] at h3;exact h3.2
theorem ZH {w:WK} (h:kx (tH w)=true):1≤w.k∧w.k < 8:=by
 unfold WoR.kx at h;simp only [Bool.and_eq_true] at h;exact of_decide_eq_true h.1
theorem OC {w:WK} (h:kx (tH w)=true) (k:w.k=3):w.ck=1∨w.ck=2∨w.ck=3:=by
 unfold WoR.kx at h;simp only [Bool.and_eq_true] at h;have h3:=h.2.2.2;unfold WoR.JW at h3;rw [if_pos (show (tH w).k=3 from k)] at h3;have:=of_decide_eq_true h3;have e:(tH w).ck=w.ck:=rfl;rw [e] at this;omega
theorem vd {d:CS} (h:Vd d) (hg:d.gl.length≤100) {w:WK} (hw:Rn w) (k:w.k=2) (p:Int):Vd (mo d p w)∧(mo d p w).q=d.q ∧
  (oL d.gn w.n=true→mo d p w=⟨d.i,d.ee,d.er,d.t,d.p,d.U,d.w.take (bS d.w p).toNat ++ d.w.drop (bS d.w p+1).toNat,d.gn,d.gl,d.ph,d.tn,d.tl,d.l,d.o,d.q⟩) ∧
  (oL d.gn w.n=false→mo d p w=⟨d.i,d.ee,d.er,d.t,d.p,d.U,d.w.take (bS d.w p).toNat ++ d.w.drop (bS d.w p+1).toNat,Dv d.gn w.n,Al d.gn w.n d.gl w.l,d.ph,d.tn,d.tl,d.l,d.o,d.q⟩):=by
 have mw:=Yv hw.m k;obtain⟨e1,e2⟩:=Wg h.g mw h.c hw.c;have hsub:(d.w.take (bS d.w p).toNat ++ d.w.drop (bS d.w p+1).toNat).Sublist d.w:=by
  conv=>rhs;rw [← List.take_append_drop (bS d.w p).toNat d.w]
  refine (List.Sublist.refl _).append ?_
  by_cases g:0≤bS d.w p
  ·rw [show (bS d.w p+1).toNat=(bS d.w p).toNat+1 by omega];exact List.drop_sublist_drop_left _ (by omega)
  ·have:=Qa d.w p;rw [show (bS d.w p+1).toNat=0 by omega,show (bS d.w p).toNat=0 by omega];exact List.Sublist.refl _
 have hw2:(d.w.take (bS d.w p).toNat ++ d.w.drop (bS d.w p+1).toNat).Nodup∧(d.w.take (bS d.w p).toNat ++ d.w.drop (bS d.w p+1).toNat).length≤64:=⟨h.w.1.sublist hsub,Nat.le_trans hsub.length_le h.w.2⟩;cases c:oL d.gn w.n
 ·obtain⟨g1,g2,g3,g4,g5⟩:=e2 c;have e:mo d p w=⟨d.i,d.ee,d.er,d.t,d.p,d.U,d.w.take (bS d.w p).toNat ++ d.w.drop (bS d.w p+1).toNat,Dv d.gn w.n,Al d.gn w.n d.gl w.l,d.ph,d.tn,d.tl,d.l,d.o,d.q⟩:=by rw [UW g1,g2,g3]
  have hl:=(TT h.g mw).2;have h60:=hw.n.2;refine⟨?_,by rw [e],fun q=>(by cases q),fun _=>e⟩;rw [e];exact⟨h.i,h.t,h.s,g4,g5,h.o,hw2,⟨by simp only;omega,h.z.2⟩⟩
 ·have e:=Wr (p:=p) (e1 c);refine⟨?_,by rw [e],fun _=>e,fun q=>(by cases q)⟩;rw [e];exact⟨h.i,h.t,h.s,h.g,h.c,h.o,hw2,h.z⟩
noncomputable def wkB (w:WK):Bool:=@decide (Rn w) (Classical.propDecidable _)
theorem KR {w:WK}:wkB w=true↔Rn w:=by
 unfold wkB;exact @decide_eq_true_iff _ (Classical.propDecidable _)
noncomputable def Kn (d:CS) (a:Int) (w:WK):Bool:=vR d && (wkB w && decide (0≤a∧a < d.U.length∧bA d.U (ri (d.U.getD a.toNat []) 0)=a∧d.q.length≤100∧d.gl.length≤100))
def Dc (d:CS) (a:Int) (w:WK):CS:=iD VV d (ri (d.U.getD a.toNat []) 0) w
theorem ada {d:CS} {a:Int} {w:WK} (h:Kn d a w=true):Vd d∧Rn w∧0≤a∧a < d.U.length∧d.U.length≤64∧d.q.length≤100∧d.w.length≤64∧d.gn.length≤64∧d.gl.length≤100∧w.n.length≤70∧w.l.length≤60∧(1≤w.k∧w.k < 8) ∧
  df (ri (d.U.getD a.toNat []) 3) (rb (d.U.getD a.toNat []) 4) (rb (d.U.getD a.toNat []) 5) (ri (d.U.getD a.toNat []) 6)=true ∧
  (w.k=1→d.o=false→rb (d.U.getD a.toNat []) 5=true→(d.ee < w.e∨d.ee=w.e∧d.er < w.r)→VU RV d w.e w.r (ri (d.U.getD a.toNat []) 0)=true∧Dc d a w=cy VV (eR d w.e w.r (ri (d.U.getD a.toNat []) 0))) ∧
  (w.k=1→d.o=true→Dc d a w=d)∧(w.k=1→rb (d.U.getD a.toNat []) 5=false→Dc d a w=d)∧(w.k=1→¬(d.ee < w.e∨d.ee=w.e∧d.er < w.r)→Dc d a w=d) ∧
  (w.k=2→¬(w.e=d.ee∧w.r=d.er)→Dc d a w=d)∧(w.k=2→¬d.ph=1→Dc d a w=d)∧(w.k=2→bS d.w (ri (d.U.getD a.toNat []) 0) < 0→Dc d a w=d) ∧
  (w.k=2→w.e=d.ee→w.r=d.er→d.ph=1→¬bS d.w (ri (d.U.getD a.toNat []) 0) < 0→Dc d a w=cy VV (mo d (ri (d.U.getD a.toNat []) 0) w)∧FL RV (mo d (ri (d.U.getD a.toNat []) 0) w)=true) ∧
  (w.k=3→¬(w.e=d.ee∧w.r=d.er)→Dc d a w=d)∧(w.k=3→¬(d.ph=2∧ri (d.U.getD a.toNat []) 0=d.p)→Dc d a w=d) ∧
  (w.k=3→w.e=d.ee→w.r=d.er→d.ph=2→ri (d.U.getD a.toNat []) 0=d.p→Dc d a w=mh VV d ⟨w.ck,w.ca,w.cb,w.cs⟩ w.n w.l∧rm RV d ⟨w.ck,w.ca,w.cb,w.cs⟩ w.n w.l=true) ∧
  (¬w.k=1→¬w.k=2→¬w.k=3→Dc d a w=gW VV d a (vx (mH (ri (d.U.getD a.toNat []) 3) (rb (d.U.getD a.toNat []) 4) (rb (d.U.getD a.toNat []) 5) (ri (d.U.getD a.toNat []) 6) w.k)) ∧
   iB RV d a (vx (mH (ri (d.U.getD a.toNat []) 3) (rb (d.U.getD a.toNat []) 4) (rb (d.U.getD a.toNat []) 5) (ri (d.U.getD a.toNat []) 6) w.k))=true):=by
 unfold Kn at h;simp only [Bool.and_eq_true,decide_eq_true_eq] at h;obtain⟨h1,h2,g0,g1,ga,gq,gg⟩:=h;have v:=dA.1 h1;have hw:=KR.1 h2;have hl:=v.len;have hk:=ZH hw.m;have na:¬bA d.U (ri (d.U.getD a.toNat []) 0) < 0:=by omega
 have hv:=(v.t _ (bT g0 g1)).v;have L5:Lk RV 50000:=Ig;unfold Dc iD;refine⟨v,hw,g0,g1,hl,gq,v.w.2,v.VQ,gg,hw.n.1,hw.n.2,hk,hv,fun e1 e2 e3 e4=>?_,fun e1 e2=>?_,fun e1 e2=>?_,fun e1 e2=>?_,fun e1 e2=>?_,fun e1 e2=>?_,fun e1 e2=>?_,fun e1 e2 e3 e4 e5=>?_,fun e1 e2=>?_,fun e1 e2=>?_,fun e1 e2 e3 e4 e5=>?_,fun e1 e2 e3=>?_⟩
 ·refine⟨?_,?_⟩
  ·unfold VU;rw [Iw (n:=100) (Lk.mono L5 (by omega)) (by omega) v e2 gq,h1];simp only [Bool.true_and,decide_eq_true_eq];exact⟨e2,by omega⟩
  ·rw [if_neg (by omega)];unfold dG;rw [if_neg na,if_neg (by omega),if_neg (by rw [e2];decide),if_pos e1,ga,if_pos ⟨e3,FV.2 e4⟩]
 ·rw [if_neg (by omega)];unfold dG;rw [if_neg na,if_neg (by omega),if_pos e2]
 ·rw [if_neg (by omega)];unfold dG;rw [if_neg na,if_neg (by omega)];split
  ·rfl
  ·rw [ga,if_neg (fun q=>by
    have:rb (tie d a) 5=false:=e2;rw [this] at q;cases q.1)]
 ·rw [if_neg (by omega)];unfold dG;rw [if_neg na,if_neg (by omega)];split
  ·rfl
  ·rw [if_neg (fun q=>e2 (FV.1 q.2))]
 ·rw [if_pos e1,if_neg na];unfold nX;split
  ·rfl
  ·rw [if_neg (fun q=>e2 ⟨q.1,q.2.1⟩)]
 ·rw [if_pos e1,if_neg na];unfold nX;split
  ·rfl
  ·rw [if_neg (fun q=>e2 q.2.2.1)]
 ·rw [if_pos e1,if_neg na];unfold nX;split
  ·rfl
  ·rw [if_neg (fun q=>by have:=q.2.2.2;omega)]
 ·have eo:d.o=false:=by
   cases g:d.o
   ·rfl
   ·have:=v.o g;omega
  obtain⟨v2,q2,_,_⟩:=vd v gg hw e1 (ri (d.U.getD a.toNat []) 0);refine⟨?_,?_⟩
  ·rw [if_pos e1,if_neg na,if_neg (by rw [eo];decide)];unfold nX;rw [if_pos ⟨e2,e3,e4,by omega⟩]
  ·unfold FL;rw [oH (n:=100) (Lk.mono L5 (by omega)) (by omega) v2 (by rw [q2];omega),dA.2 v2,q2,decide_eq_true (show d.q.length≤79000 by omega)];rfl
 ·rw [if_neg (by omega)];unfold dG;rw [if_neg na,if_neg (by omega)];split
  ·rfl
  ·rw [if_neg (show ¬w.k=1 by omega),if_neg (fun q=>e2 ⟨q.1,q.2.1⟩)]
 ·rw [if_neg (by omega)];unfold dG;rw [if_neg na,if_neg (by omega)];split
  ·rfl
  ·rw [if_neg (show ¬w.k=1 by omega),if_neg (fun q=>e2 ⟨q.2.2.1,q.2.2.2.symm⟩)]
 ·have eo:d.o=false:=by
   cases g:d.o
   ·rfl
   ·have:=v.o g;omega
  have n1:=hw.n.1;have n2:=hw.n.2;refine⟨?_,?_⟩
  ·rw [if_neg (by omega)];unfold dG;rw [if_neg na,if_neg (by omega),if_neg (by rw [eo];decide),if_neg (by omega),if_pos e1,if_pos ⟨e2,e3,e4,e5.symm⟩];rfl
  ·unfold rm;rw [Mc (n:=100) (Lk.mono L5 (by omega)) (by omega) v eo gq _ (show w.n.length≤500 by omega) (show w.l.length≤500 by omega),h1,decide_eq_true (show d.o=false∧d.q.length≤79000∧w.n.length≤500∧w.l.length≤500∧(w.ck=1∨w.ck=2∨w.ck=3) from ⟨eo,by omega,by omega,by omega,OC hw.m e1⟩)];rfl
 ·have gd:=IZ w.k hv;rw [show vx (mH (ri (d.U.getD a.toNat []) 3) (rb (d.U.getD a.toNat []) 4) (rb (d.U.getD a.toNat []) 5) (ri (d.U.getD a.toNat []) 6) w.k)=eT w.k (tie d a) from Nw gd.1];refine⟨?_,Te (n:=100) (Lk.mono L5 (by omega)) (by omega) v g0 g1 gq gd⟩;rw [if_neg e2];unfold dG;rw [if_neg na,if_pos (by omega),ga,WR v g0 g1]
end Go.Proofs.YtelhldgdnlppfaaGreat.KrY
