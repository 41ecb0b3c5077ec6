/-
  Events of a core that may be: all that they do may be done,and what is told is short. No condition.
-/
import Derived.Test.YtelhldgdnlppfaaGreatVdW52
import Derived.Test.YtelhldgdnlppfaaGreatVdKsF
import Derived.Test.YtelhldgdnlppfaaGreatVdKsG
import Derived.Test.YtelhldgdnlppfaaGreatVdW49
namespace Go.Proofs.YtelhldgdnlppfaaGreat.KrY
open Go Ry ViR VoR KsS KsC KsT KsE KsF ViT ViM MgT KrV KrW KrX
open MgR (nJ mD oE dU qy)
open ChQ (my la CH)
open TrR (cD)
open WoR (sU WD)
structure Cut (l:List E) (p:Int) (k:Nat):Prop where
 kl:k≤l.length
 a:∀ y∈l.take k,ri y 0 < p
 b:∀ y∈l.drop k,p≤ri y 0
theorem IP {l:List E} (h:(l.map pr).Pairwise (· < ·)) (p:Int):Cut l p (lW l p).toNat:=by
 have hm:∀ x y:Int,0≤x→x≤y→y < (l.length:Int)→JE l p y=true→JE l p x=true:=fun x y h0 h1 h2 g=>by
  rcases Int.lt_or_eq_of_le h1 with e|e
  ·unfold JE at g ⊢
   rw [decide_eq_true_eq] at g ⊢
   rw [List.pairwise_map,List.pairwise_iff_getElem] at h
   have hx:=h x.toNat y.toNat (by omega) (by omega) (by omega)
   rw [List.getD_eq_getElem?_getD,List.getElem?_eq_getElem (show x.toNat < l.length by omega)]
   rw [List.getD_eq_getElem?_getD,List.getElem?_eq_getElem (show y.toNat < l.length by omega)] at g
   simp only [Option.getD_some] at g ⊢
   unfold pr at hx
   unfold Cmp.iA at g ⊢
   split at g
   ·rw [if_pos (by omega)]
    decide
   ·split at g <;> omega
  ·rw [e]
   exact g
 have sp:=qL (JE l p) l.length l.length 0 l.length (Int.le_refl 0) (by omega) (Int.le_refl _) (by omega) (fun x h0 h1=>by omega) (fun x h0 h1=>by omega) hm
 have pi:=Dg l p
 have e:lW l p=mv (JE l p) l.length 0 l.length:=rfl
 rw [← e] at sp
 have cv:∀ x:Int,0≤x→x < l.length→(JE l p x=true↔ri (l.getD x.toNat []) 0 < p):=fun x h0 h1=>by
  unfold JE Cmp.iA
  rw [decide_eq_true_eq]
  split
  ·omega
  ·split <;> omega
 refine⟨by omega,fun y hy=>?_,fun y hy=>?_⟩
 ·obtain⟨j,hj,rfl⟩:=List.getElem_of_mem hy
  rw [List.length_take] at hj
  rw [List.getElem_take]
  have:=(cv j (by omega) (by omega)).1 (sp.2.2.1 j (by omega) (by omega))
  rw [List.getD_eq_getElem?_getD,List.getElem?_eq_getElem (show (j:Int).toNat < l.length by omega)] at this
  exact this
 ·obtain⟨j,hj,rfl⟩:=List.getElem_of_mem hy
  rw [List.length_drop] at hj
  rw [List.getElem_drop]
  have h1:=sp.2.2.2 ((lW l p).toNat+j:Nat) (by omega) (by omega)
  have h2:=cv ((lW l p).toNat+j:Nat) (by omega) (by omega)
  rw [h1] at h2
  rw [List.getD_eq_getElem?_getD,List.getElem?_eq_getElem (show (((lW l p).toNat+j:Nat):Int).toNat < l.length by omega)] at h2
  have h3:¬ri (l[(lW l p).toNat+j]'(by omega)) 0 < p:=fun q=>by
   have:=h2.2 q
   cases this
  omega
def XF (l:List E) (p:Int) (t:E) (k:Nat):List E:=l.take k ++ (t :: (l.drop k).filter fun y=>!decide (ri y 0=p))
theorem Qs {a b:Int}:Cmp.iA a b=0↔a=b:=by
 unfold Cmp.iA
 split
 ·omega
 ·split <;> omega
theorem Tp {l:List E} (h:(l.map pr).Pairwise (· < ·)) (p w s:Int):TL l p w s=XF l p (Mx p w s) (lW l p).toNat:=by
 have c:=IP h p
 have pi:=Dg l p
 unfold TL XF
 have hp:(l.drop (lW l p).toNat).Pairwise fun x y=>ri x 0 < ri y 0:=(List.pairwise_map.1 h).sublist (List.drop_sublist _ _)
 split
 ·rename_i f
  unfold MT at f
  rw [Bool.and_eq_true,decide_eq_true_eq,decide_eq_true_eq,Qs] at f
  have hk:(lW l p).toNat < l.length:=by omega
  rw [List.set_eq_take_append_cons_drop,if_pos hk]
  congr 2
  rw [List.drop_eq_getElem_cons hk] at hp ⊢
  rw [List.getD_eq_getElem?_getD,List.getElem?_eq_getElem hk] at f
  have f2:ri l[(lW l p).toNat] 0=p:=f.2
  rw [List.filter_cons_of_neg (by rw [f2];simp)]
  symm
  rw [List.filter_eq_self]
  intro y hy
  have:=(List.pairwise_cons.1 hp).1 y hy
  rw [decide_eq_false (by omega)]
  rfl
 ·rename_i f
  congr 2
  symm
  rw [List.filter_eq_self]
  intro y hy
  have g:=c.b y hy
  by_cases hk:(lW l p).toNat < l.length
  ·rw [List.drop_eq_getElem_cons hk] at hp hy
   have f2:¬ri l[(lW l p).toNat] 0=p:=fun q=>f (by
    unfold MT
    rw [Bool.and_eq_true,decide_eq_true_eq,decide_eq_true_eq,Qs,List.getD_eq_getElem?_getD,List.getElem?_eq_getElem hk]
    exact⟨by omega,q⟩)
   have g0:=c.b (l[(lW l p).toNat]) (by rw [List.drop_eq_getElem_cons hk];exact List.mem_cons_self ..)
   rcases List.mem_cons.1 hy with e|e
   ·rw [e,decide_eq_false f2]
    rfl
   ·have:=(List.pairwise_cons.1 hp).1 y e
    rw [decide_eq_false (by omega)]
    rfl
  ·rw [List.drop_eq_nil_of_le (by omega)] at hy
   cases hy
structure XU where
 i:Int
 o:List E
 b:Bool
theorem HO {d:CS} (h:Vd d) {p w s:Int} (hp:cq p=true) (hi:p≠d.i) (hr:0≤w∧w≤2147483647∧1≤s∧s≤2147483647):Vd (Qe d p w s):=by
 have c:=IP h.s p
 have e:(Qe d p w s).ae=XF d.ae p (Mx p w s) (lW d.ae p).toNat:=Tp h.s p w s
 have hs:=List.pairwise_map.1 h.s
 refine⟨h.i,fun y hy=>?_,?_,h.g,h.c,h.o,h.w,h.z⟩
 ·rw [e] at hy
  unfold XF at hy
  rcases List.mem_append.1 hy with g|g
  ·exact h.t y (List.mem_of_mem_take g)
  ·rcases List.mem_cons.1 g with g|g
   ·rw [g]
    exact⟨rfl,hp,hi,hr,(show fM 0 false false 0=true by decide)⟩
   ·exact h.t y (List.mem_of_mem_drop (List.mem_filter.1 g).1)
 ·rw [e]
  unfold XF
  rw [List.pairwise_map,List.pairwise_append,List.pairwise_cons]
  have ft:∀ y∈(d.ae.drop (lW d.ae p).toNat).filter (fun y=>!decide (ri y 0=p)),p < ri y 0:=fun y hy=>by
   obtain⟨g1,g2⟩:=List.mem_filter.1 hy
   have:=c.b y g1
   have:¬ri y 0=p:=fun q=>by
    rw [decide_eq_true q] at g2
    cases g2
   omega
  refine⟨hs.sublist (List.take_sublist _ _),⟨fun y hy=>ft y hy,(hs.sublist (List.drop_sublist _ _)).sublist List.filter_sublist⟩,fun x hx y hy=>?_⟩
  have h1:=c.a x hx
  show ri x 0 < ri y 0
  rcases List.mem_cons.1 hy with g|g
  ·rw [g]
   exact h1
  ·have:=ft y g
   omega
theorem Kh {d:CS} (h:Vd d) (a:Int):Vd { d with ae:=PH d.ae a }:=by
 have hb:(PH d.ae a).Sublist d.ae:=by
  unfold PH
  conv=>rhs;rw [← List.take_append_drop a.toNat d.ae]
  exact (List.Sublist.refl _).append (by
   by_cases g:0≤a
   ·rw [show (a+1).toNat=a.toNat+1 by omega]
    exact List.drop_sublist_drop_left _ (by omega)
   ·rw [show (a+1).toNat=0 by omega,show a.toNat=0 by omega]
    exact List.Sublist.refl _)
 exact⟨h.i,fun y hy=>h.t y (hb.subset hy),h.s.sublist (hb.map pr),h.g,h.c,h.o,h.w,h.z⟩
theorem Lk.mono {L:Lv} {n m:Nat} (h:Lk L n) (hm:m≤n):Lk L m:=⟨fun x h1 h2=>h.ok x h1 (by omega),h.v⟩
theorem yc {L:Lv} {n:Nat} (hL:Lk L (n+65)) (hn:n≤70000) {d:CS} (h:Vd d) (hq:d.q.length≤n):gL L d=true:=HV hL.lb (by omega) h hq fun _ _ _ x h1 h2=>hL.ok x h1 h2
theorem Ng {L:Lv} {n:Nat} (hL:Lk L (n+300)) (hn:n≤60000) {d:CS} (h:Vd d) (ho:d.o=false) (hq:d.q.length≤n) (e r p:Int):gC L d e r p=true:=by
 have hl:=h.len
 obtain⟨v,q,_,_⟩:=iV h ho e r p
 unfold gC
 rw [yc (n:=n+128) (Lk.mono hL (by omega)) (by omega) v (by omega),decide_eq_true ⟨by omega,by omega⟩]
 rfl
theorem Vo {L:Lv} {n:Nat} (hL:Lk L (n+65)) (hn:n≤70000) {d:CS} (h:Vd d) (ho:d.o=false) (hq:d.q.length≤n) (c:CH) {v:List Int} {l:List E} (hv:v.length≤500) (hl:l.length≤500):sM L d c v l=true :=
 Qz hL.lb (by omega) h ho hq hv hl fun _ _ _ x h1 h2=>hL.ok x h1 h2
theorem SF {L:Lv} {n:Nat} (hL:Lk L (n+66)) (hn:n≤60000) {d:CS} (h:Vd d) {a:Int} (h0:0≤a) (h1:a < d.ae.length) (hq:d.q.length≤n) (k:Int):AH L d a k=true:=by
 have hl:=h.len
 obtain⟨v,q,_⟩:=cX h h0 h1 (Pu k (h.t _ (cM h0 h1)).v)
 unfold AH
 rw [hL.ok _ v (by omega),yc (n:=n+1) (Lk.mono hL (by omega)) (by omega) v (by omega),decide_eq_true (show 0≤a∧a < d.ae.length∧d.ae.length≤300∧d.q.length≤70000 from ⟨h0,h1,by omega,by omega⟩)]
 simp
structure aaJ (w:WK):Prop where
 m:sU (EZ w)=true
 n:w.n.length≤70∧w.l.length≤60
 c:∀ y∈w.l,y=e5 y
theorem SD {w:WK} (h:sU (EZ w)=true) (k:w.k=2):bf w.n w.l=true:=by
 unfold WoR.sU at h
 simp only [Bool.and_eq_true] at h
 have h3:=h.2.2.1
 unfold WoR.okV at h3
 rw [if_pos (show WoR.full (EZ w)=true from decide_eq_true (Or.inl k)),Bool.and_eq_true] at h3
 exact h3.2
theorem BU {d:CS} (h:Vd d) (hg:d.gl.length≤100) {w:WK} (hw:aaJ w) (k:w.k=2) (p:Int):Vd (pw d p w)∧(pw d p w).q=d.q ∧
  (Mb d.gn w.n=true→pw d p w=⟨d.i,d.ee,d.er,d.t,d.p,d.ae,d.w.take (cD d.w p).toNat ++ d.w.drop (cD d.w p+1).toNat,d.gn,d.gl,d.ph,d.tn,d.tl,d.l,d.o,d.q⟩) ∧
  (Mb d.gn w.n=false→pw d p w=⟨d.i,d.ee,d.er,d.t,d.p,d.ae,d.w.take (cD d.w p).toNat ++ d.w.drop (cD d.w p+1).toNat,TZ d.gn w.n,Mh d.gn w.n d.gl w.l,d.ph,d.tn,d.tl,d.l,d.o,d.q⟩):=by
 have mw:=SD hw.m k
 obtain⟨e1,e2⟩:=WV h.g mw h.c hw.c
 have hsub:(d.w.take (cD d.w p).toNat ++ d.w.drop (cD d.w p+1).toNat).Sublist d.w:=by
  conv=>rhs;rw [← List.take_append_drop (cD d.w p).toNat d.w]
  refine (List.Sublist.refl _).append ?_
  by_cases g:0≤cD d.w p
  ·rw [show (cD d.w p+1).toNat=(cD d.w p).toNat+1 by omega]
   exact List.drop_sublist_drop_left _ (by omega)
  ·have:=Jb d.w p
   rw [show (cD d.w p+1).toNat=0 by omega,show (cD d.w p).toNat=0 by omega]
   exact List.Sublist.refl _
 have hw2:(d.w.take (cD d.w p).toNat ++ d.w.drop (cD d.w p+1).toNat).Nodup∧(d.w.take (cD d.w p).toNat ++ d.w.drop (cD d.w p+1).toNat).length≤64:=⟨h.w.1.sublist hsub,Nat.le_trans hsub.length_le h.w.2⟩
 cases c:Mb d.gn w.n
 ·obtain⟨g1,g2,g3,g4,g5⟩:=e2 c
  have e:pw d p w=⟨d.i,d.ee,d.er,d.t,d.p,d.ae,d.w.take (cD d.w p).toNat ++ d.w.drop (cD d.w p+1).toNat,TZ d.gn w.n,Mh d.gn w.n d.gl w.l,d.ph,d.tn,d.tl,d.l,d.o,d.q⟩:=by rw [Ra g1,g2,g3]
  have hl:=(MG h.g mw).2
  have h60:=hw.n.2
  refine⟨?_,by rw [e],fun q=>(by cases q),fun _=>e⟩
  rw [e]
  exact⟨h.i,h.t,h.s,g4,g5,h.o,hw2,⟨by simp only;omega,h.z.2⟩⟩
 ·have e:=QU (p:=p) (e1 c)
  refine⟨?_,by rw [e],fun _=>e,fun q=>(by cases q)⟩
  rw [e]
  exact⟨h.i,h.t,h.s,h.g,h.c,h.o,hw2,h.z⟩
end Go.Proofs.YtelhldgdnlppfaaGreat.KrY
namespace Go.Proofs.YtelhldgdnlppfaaGreat.KrZ
open Go Ry ViR VoR KsS KsC KsT KsE KsF KrV KrW KrX KrY
open ViM (e5)
open ChQ (my la CH)
open TrR (cD)
open WoR (sU WD)
open ViS (gI gw ju kT)
open KsG (iD fL tw)
def LF (i l:Int):CS:=VV.B (iD i l)
theorem Dy {i:Int} (h:cq i=true) (l:Int):Vd (iD i l):=⟨h,fun y hy=>(by cases hy),List.Pairwise.nil,ye,fun y hy=>(by cases hy),fun q=>rfl,⟨List.nodup_nil,Nat.zero_le _⟩,Nat.zero_le _,Nat.zero_le _,Nat.zero_le _⟩
theorem Tc {i:Int} (h:cq i=true) (l:Int):Vd (LF i l):=Ez.v _ (Dy h l)
def SX (y:E):Prop:=(rl y 4).length≤1000∧(rr y 5).length≤1000
def Uq (d:CS):Prop:=∀ y∈d.q,SX y
theorem Be {p:Int} {w:WK} (h1:w.n.length≤1000) (h2:w.l.length≤1000):SX (dI p w):=⟨h1,h2⟩
theorem Ju {q r:List E} (h:∀ y∈q,SX y) (g:∀ y∈r,SX y):∀ y∈q ++ r,SX y:=fun y hy=>(List.mem_append.1 hy).elim (h y) (g y)
theorem jN {d:CS} (h:Uq d) (a:Int) (r:VT):Uq (aR d a r):=by
 unfold aR
 split
 ·exact Ju h fun y hy=>by
   obtain⟨k,_,rfl⟩:=List.mem_map.1 hy
   exact Be (Nat.zero_le _) (Nat.zero_le _)
 ·exact h
theorem QI {d:CS} (h:Uq d):∀ n,Uq (jv d n)
 |0=>h
 |n+1=>jN (QI h n) _ _
theorem Rc {d:CS} (h:Uq d):∀ n,Uq (jw d n)
 |0=>h
 |n+1=>jN (Rc h n) _ _
theorem QN {d:CS} (h:Uq d) (l:List Int) {w:WK} (h1:w.n.length≤1000) (h2:w.l.length≤1000):Uq (dF d l w):=Ju h fun y hy=>by
 obtain⟨k,_,rfl⟩:=List.mem_map.1 hy
 exact Be h1 h2
theorem Qu {d:CS} (h:Uq d) (e r p:Int):Uq (fY d e r p):=by
 unfold fY
 refine QI (QN ?_ _ (Nat.zero_le _) (Nat.zero_le _)) _
 exact h
theorem JF {d:CS} (h:Uq d):Uq (nH d):=by
 unfold nH
 split
 ·exact h
 ·exact Rc h _
theorem ZI {d:CS} (h:Uq d) (c:CH) {v:List Int} {l:List E} (hv:v.length≤1000) (hl:l.length≤1000):Uq (gY d c v l):=by
 have:Uq (dF d (cw d.ae d.p) (uN d c v l)):=by
  refine QN h _ ?_ ?_
  ·unfold uN
   simp only
   split
   ·exact hv
   ·exact Nat.zero_le _
  ·unfold uN
   simp only
   split
   ·exact hl
   ·exact Nat.zero_le _
 unfold gY
 split <;> exact this
def Ub (L:Lv):Prop:=∀ x,Vd x→Uq x→Uq (L.B x)
theorem Yb {L:Lv} (hB:Ub L) {d:CS} (h:Vd d) (u:Uq d) (k:Int) {a:Int} (h0:0≤a) (h1:a < d.ae.length):Uq (lV L d k a):=by
 have hv:=(h.t _ (cM h0 h1)).v
 unfold lV
 split
 ·have g:=(cX h h0 h1 (JG hv)).1
  split
  ·exact hB _ g (jN u _ _)
  ·exact jN u _ _
 ·split
  ·have g:=(cX h h0 h1 (BD hv)).1
   split
   ·exact hB _ g (jN u _ _)
   ·exact jN u _ _
  ·exact u
theorem Zf {L:Lv} (hB:Ub L) {d:CS} (h:Vd d) (u:Uq d) (ho:d.o=false) (c:CH) {v:List Int} {l:List E} (hv:v.length≤500) (hl:l.length≤500):Uq (AO L d c v l):=by
 obtain⟨g,_,t⟩:=xQ h ho c hv hl
 have g2:=ZI u c (show v.length≤1000 by omega) (show l.length≤1000 by omega)
 unfold AO
 split
 ·rename_i e
  obtain⟨m1,m2⟩:=qY e
  exact Yb hB g g2 _ m1 (by rw [t];exact m2)
 ·exact g2
theorem De {L:Lv} (hB:Ub L) {d:CS} (h:Vd d) (u:Uq d):Uq (gu L d):=by
 have hs:=mW h
 unfold gu
 split
 ·exact u
 ·rename_i e
  have ho:=(iy e).1
  split
  ·exact Ju u fun y hy=>by
    rw [List.mem_singleton] at hy
    rw [hy]
    exact Be (show (eU d).length≤1000 by omega) (show (eS d).length≤1000 by omega)
  ·split
   ·exact u
   ·exact Zf hB h u ho _ (by omega) (by omega)
theorem Qy {L:Lv} (hB:Ub L) {d:CS} (h:Vd d) (u:Uq d):Uq (oj L d):=by
 unfold oj
 split
 ·exact u
 ·rename_i e
  split
  ·exact De hB (iV h (by simpa using e) _ _ _).1 (Qu u _ _ _)
  ·exact JF u
theorem aaz:Ub VV:=fun _ h u=>Qy (L:=GH.up) (fun _ h u=>Qy (L:=GH) (fun _ _ u=>u) h u) h u
structure Lt (w:WK):Prop where
 n:w.n.length≤70∧w.l.length≤60
 c:∀ y∈w.l,y=e5 y
noncomputable def ltB (w:WK):Bool:=@decide (Lt w) (Classical.propDecidable _)
theorem lt_iff {w:WK}:ltB w=true↔Lt w:=by
 unfold ltB
 exact @decide_eq_true_iff _ (Classical.propDecidable _)
theorem Bx {i:Int} {v:EV} (h:fH i v=true) (k:v.k=1):cq v.p=true∧v.p≠i∧0≤v.w∧v.w≤2147483647∧1≤v.s∧v.s≤2147483647:=by
 unfold fH at h
 rw [if_pos k,Bool.and_eq_true,decide_eq_true_eq] at h
 exact h
theorem wA {i:Int} {v:EV} (h:fH i v=true) (k:v.k=3):sU (EZ v.x)=true:=by
 unfold fH at h
 rw [if_neg (by omega),if_pos k] at h
 exact h
theorem RW {L:Lv} (hL:Lk L 5000) {d:CS} (h:Vd d) (hq:d.q.length≤100) (hg:d.gl.length≤100) {v:EV} (hc:fH d.i v=true) (hx:Lt v.x):qn L d v=true:=by
 have hl:=h.len
 have hgn:=h.Vn
 have hw6:=h.w.2
 have n1:=hx.n.1
 have n2:=hx.n.2
 have sg:ER d v.x=true:=decide_eq_true ⟨by omega,by omega,by omega,by omega,by omega,by omega,by omega⟩
 have su:yE d=true:=decide_eq_true ⟨by omega,by omega⟩
 have k1:v.k=1→yO L d v.p v.w v.s=true:=fun e=>by
  obtain⟨c1,c2,c3⟩:=Bx hc e
  unfold yO
  rw [su,hL.ok _ (HO h c1 c2 c3) (show d.q.length≤5000 by omega)]
  rfl
 have k2:yg L d v.p=true:=by
  unfold yg
  rw [su,show L.ok (VP d v.p)=true from hL.ok _ (Kh h (dn d.ae v.p)) (show d.q.length≤5000 by omega)]
  simp
 have k3:v.k=3→jg L d v.p v.x=true:=fun e=>by
  have mw:=wA hc e
  unfold jg
  rw [su,decide_eq_true (show v.x.n.length≤1000∧v.x.l.length≤1000 from ⟨by omega,by omega⟩)]
  simp only [Bool.true_and,Bool.or_eq_true,Bool.and_eq_true,Bool.not_eq_true',decide_eq_true_eq,decide_eq_false_iff_not]
  by_cases na:dn d.ae v.p < 0
  ·exact .inl na
  ·have at2:=(lI d.ae v.p).2
   refine .inr ⟨.inr (SF (n:=100) (Lk.mono hL (by omega)) (by omega) h (by omega) at2 hq _),?_,?_⟩
   ·by_cases g:d.o=false
    ·exact .inr (Ng (n:=100) (Lk.mono hL (by omega)) (by omega) h g hq _ _ _)
    ·exact .inl fun q=>g q.2.2.2
   ·by_cases g:d.o=false
    ·exact .inr (Vo (n:=100) (Lk.mono hL (by omega)) (by omega) h g hq _ (by omega) (by omega))
    ·exact .inl fun q=>g q.2.2.2.2.2
 have k4:v.k=3∧v.x.k=2→oc L d v.p v.x=true:=fun e=>by
  have mw:=wA hc e.1
  obtain⟨v2,q2,_,_⟩:=BU h hg ⟨mw,hx.n,hx.c⟩ e.2 v.p
  unfold oc sQ
  rw [sg,yc (n:=100) (Lk.mono hL (by omega)) (by omega) v2 (by rw [q2];omega)]
  simp
 unfold qn
 simp only [Bool.and_eq_true,Bool.or_eq_true,Bool.not_eq_true',decide_eq_false_iff_not]
 refine⟨sg,?_,.inr k2,?_,?_⟩
 ·by_cases e:v.k=1
  ·exact .inr (k1 e)
  ·exact .inl e
 ·by_cases e:v.k=3∧¬v.x.k=2
  ·exact .inr (k3 e.1)
  ·exact .inl e
 ·by_cases e:v.k=3∧v.x.k=2
  ·exact .inr (k4 e)
  ·exact .inl e
theorem ZP {L:Lv} (hB:∀ x,Vd x→Vd (L.B x)) {d:CS} (h:Vd d) {a:Int} (h0:0≤a) (h1:a < d.ae.length) (k:Int):Vd (Bd L d a k):=by
 have hv:=(h.t _ (cM h0 h1)).v
 obtain⟨g,_,l⟩:=cX h h0 h1 (Pu k hv)
 have h2:a < (aR d a (fv k (tie d a))).ae.length:=by rw [l];exact h1
 unfold Bd
 split
 ·exact (cX g h0 h2 (BD (g.t _ (cM h0 h2)).v)).1
 ·split
  ·exact hB _ g
  ·split
   ·exact xw hB g
   ·exact g
theorem aaA {L:Lv} (hB:Ub L) {d:CS} (h:Vd d) (u:Uq d) {a:Int} (h0:0≤a) (h1:a < d.ae.length) (k:Int):Uq (Bd L d a k):=by
 have hv:=(h.t _ (cM h0 h1)).v
 obtain⟨g,_,l⟩:=cX h h0 h1 (Pu k hv)
 have u2:=jN u a (fv k (tie d a))
 unfold Bd
 split
 ·exact jN u2 _ _
 ·split
  ·exact hB _ g u2
  ·split
   ·exact De hB g u2
   ·exact u2
theorem Zz {L:Lv} (hB:∀ x,Vd x→Vd (L.B x)) (hU:Ub L) {d:CS} (h:Vd d) (u:Uq d) (hg:d.gl.length≤100) {v:EV} (hc:fH d.i v=true) (hx:Lt v.x):Vd (oK L d v)∧Uq (oK L d v):=by
 have n1:=hx.n.1
 have n2:=hx.n.2
 unfold oK
 split
 ·rename_i e
  obtain⟨c1,c2,c3⟩:=Bx hc e
  have g:=HO h c1 c2 c3
  exact⟨hB _ g,hU _ g u⟩
 ·split
  ·unfold QL
   split
   ·exact⟨h,u⟩
   ·have g:=Kh h (dn d.ae v.p)
    exact⟨hB _ g,hU _ g u⟩
  ·split
   ·rename_i e
    have mw:=wA hc e
    unfold jB
    split
    ·rename_i e2
     split
     ·exact⟨h,u⟩
     ·split
      ·exact⟨h,u⟩
      ·unfold tz
       split
       ·obtain⟨v2,q2,_,_⟩:=BU h hg ⟨mw,hx.n,hx.c⟩ e2 v.p
        exact⟨xw hB v2,De hU v2 (by unfold Uq;rw [q2];exact u)⟩
       ·exact⟨h,u⟩
    ·unfold fQ
     split
     ·exact⟨h,u⟩
     ·rename_i na
      have at2:=(lI d.ae v.p).2
      split
      ·exact⟨ZP hB h (by omega) at2 _,aaA hU h u (by omega) at2 _⟩
      ·split
       ·exact⟨h,u⟩
       ·rename_i ho
        have ho:d.o=false:=by simpa using ho
        split
        ·split
         ·have g:=(iV h ho v.x.e v.x.r v.p).1
          exact⟨xw hB g,De hU g (Qu u _ _ _)⟩
         ·exact⟨h,u⟩
        ·split
         ·split
          ·exact⟨Qi hB h ho _ (by omega) (by omega),Zf hU h u ho _ (by omega) (by omega)⟩
          ·exact⟨h,u⟩
         ·exact⟨h,u⟩
   ·exact⟨(xF h).1,JF u⟩
def k7 (y:E):(Int × Int × Int × Int) × (Bool × Bool × Int):=((ri y 0,ri y 1,ri y 2,ri y 3),(rb y 4,rb y 5,ri y 6))
def mP (p q:List E):Bool:=decide (p.map k7=q.map k7)
def EG (a b:CS):Bool:=decide (a.i=b.i∧a.ee=b.ee∧a.er=b.er∧a.t=b.t∧a.p=b.p∧a.ph=b.ph∧a.l=b.l∧a.o=b.o) && (mP a.ae b.ae && (gI a.w b.w && (gw a.gn a.gl b.gn b.gl && gw a.tn a.tl b.tn b.tl)))
def Ge (a:CS):Bool:=decide (a.ae.length≤1000∧a.w.length≤1000∧a.gn.length≤1000∧a.gl.length≤1000∧a.tn.length≤1000∧a.tl.length≤1000)
def Hx (a b:CS):Bool:=Ge a && Ge b
theorem sq (n:List Int) (l:List E):gw n l n l=true:=by
 unfold gw gI ju
 simp
theorem Ci (a:CS):EG a a=true:=by
 unfold EG mP
 rw [sq,sq]
 simp [gI]
noncomputable def szO (p:List E):Bool:=@decide (p.length≤1000000∧∀ y∈p,SX y) (Classical.propDecidable _)
theorem OZ {p:List E}:szO p=true↔p.length≤1000000∧∀ y∈p,SX y:=by
 unfold szO
 exact @decide_eq_true_iff _ (Classical.propDecidable _)
def Ym (p q:List E) (f:E→E→Bool) (y:KsC.XI):Prop:=0≤y.i∧y.i≤p.length∧∀ k:Nat,k < y.i→f (p.getD k []) (q.getD k [])=true
theorem Oe (p q:List E) (f:E→E→Bool):Ym p q f ⟨0⟩:=⟨Int.le_refl 0,Int.natCast_nonneg _,fun k h=>by simp only at h;omega⟩
def BZ (p q:List E) (f:E→E→Bool):Bool:=(List.range p.length).all fun i=>f (p.getD i []) (q.getD i [])
theorem Nh {p q:List E} {f:E→E→Bool} (hp:p.length≤1000000) {i:Int} (hq:Ym p q f ⟨i⟩) (h:i < p.length):aN .add .i64 i 1=i+1∧KsC.pA p.length ⟨i+1⟩ < KsC.pA p.length ⟨i⟩∧(f (p.getD i.toNat []) (q.getD i.toNat [])=true→Ym p q f ⟨i+1⟩)∧(f (p.getD i.toNat []) (q.getD i.toNat [])=false→BZ p q f=false):=by
 obtain⟨h0,h1,h2⟩:=hq
 simp only at h0 h1 h2
 refine⟨by rw [bp,wr _ (by omega) (by omega)],by simp only [KsC.pA];omega,fun g=>⟨by simp only;omega,by simp only;omega,fun k hk=>?_⟩,fun g=>?_⟩
 ·simp only at hk
  by_cases c:k=i.toNat
  ·rw [c]
   exact g
  ·exact h2 k (by omega)
 ·cases e:BZ p q f
  ·rfl
  ·have:=List.all_eq_true.1 e i.toNat (List.mem_range.2 (by omega))
   rw [g] at this
   cases this
theorem SU {p q:List E} {f:E→E→Bool} {i:Int} (hq:Ym p q f ⟨i⟩) (h:¬i < p.length):BZ p q f=true:=by
 obtain⟨h0,h1,h2⟩:=hq
 simp only at h0 h1 h2
 refine List.all_eq_true.2 fun k hk=>h2 k ?_
 have:=List.mem_range.1 hk
 omega
def f7 (x y:E):Bool:=decide (k7 x=k7 y)
theorem Zw (x y:E):f7 x y=decide (ri x 0=ri y 0∧ri x 1=ri y 1∧ri x 2=ri y 2∧ri x 3=ri y 3∧rb x 4=rb y 4∧rb x 5=rb y 5∧ri x 6=ri y 6):=by
 unfold f7 k7
 refine decide_eq_decide.2 ?_
 simp only [Prod.mk.injEq]
 constructor
 ·rintro⟨⟨a,b,c,d⟩,e,f,g⟩
  exact⟨a,b,c,d,e,f,g⟩
 ·rintro⟨a,b,c,d,e,f,g⟩
  exact⟨⟨a,b,c,d⟩,e,f,g⟩
theorem Gp {p q:List E} (h:p.length=q.length):mP p q=BZ p q f7:=by
 have:mP p q=true↔BZ p q f7=true:=by
  unfold mP BZ f7
  rw [decide_eq_true_eq,List.all_eq_true]
  constructor
  ·intro e k hk
   have hk:=List.mem_range.1 hk
   have:=congrArg (fun l=>l[k]?) e
   simp only [List.getElem?_map,List.getElem?_eq_getElem hk,List.getElem?_eq_getElem (show k < q.length by omega),Option.map_some,Option.some.injEq] at this
   rw [List.getD_eq_getElem?_getD,List.getElem?_eq_getElem hk,List.getD_eq_getElem?_getD,List.getElem?_eq_getElem (show k < q.length by omega)]
   exact decide_eq_true this
  ·intro e
   refine List.ext_getElem (by simp [h]) fun k h1 h2=>?_
   rw [List.length_map] at h1 h2
   have:=of_decide_eq_true (e k (List.mem_range.2 h1))
   rw [List.getD_eq_getElem?_getD,List.getElem?_eq_getElem h1,List.getD_eq_getElem?_getD,List.getElem?_eq_getElem h2] at this
   rw [List.getElem_map,List.getElem_map]
   exact this
 cases h1:mP p q <;> cases h2:BZ p q f7
 ·rfl
 ·rw [this.2 h2] at h1;cases h1
 ·rw [this.1 h1] at h2;cases h2
 ·rfl
theorem Jk {p q:List E} (h:¬p.length=q.length):mP p q=false:=by
 unfold mP
 refine decide_eq_false fun e=>h ?_
 have:=congrArg List.length e
 rw [List.length_map,List.length_map] at this
 exact this
noncomputable def Zk (d:CS) (v:EV):Bool:=vdB d && (ltB v.x && decide (d.q=[]∧d.gl.length≤100))
end Go.Proofs.YtelhldgdnlppfaaGreat.KrZ
