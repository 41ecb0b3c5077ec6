/-
  Events of a core that may be: all that they do may be done,and what is told is short. No condition.
-/
import Derived.Test.YtelhldgdnlppfaaGreatVgW52
import Derived.Test.YtelhldgdnlppfaaGreatVgKsF
import Derived.Test.YtelhldgdnlppfaaGreatVgKsG
import Derived.Test.YtelhldgdnlppfaaGreatVgW50
namespace Go.Proofs.YtelhldgdnlppfaaGreat.KrY
open Go Ry ViR VoR KsS KsC KsT KsE KsF ViT ViM MgT KrV KrW KrX
open MgR (nB my mD dU qh)
open ChQ (mh kO CH)
open TrR (cE)
open WoR (rG WD)
structure Cut (l:List E) (p:Int) (k:Nat):Prop where
 kl:k≤l.length
 a:∀ y∈l.take k,ri y 0 < p
 b:∀ y∈l.drop k,p≤ri y 0
theorem Kw {l:List E} (h:(l.map pr).Pairwise (· < ·)) (p:Int):Cut l p (mj l p).toNat:=by
 have hm:∀ x y:Int,0≤x→x≤y→y < (l.length:Int)→IK l p y=true→IK l p x=true:=fun x y h0 h1 h2 g=>by
  rcases Int.lt_or_eq_of_le h1 with e|e
  ·unfold IK at g ⊢
   rw [decide_eq_true_eq] at g ⊢
   rw [List.pairwise_map,List.pairwise_iff_getElem] at h
   have hx:=h x.toNat y.toNat (by omega) (by omega) (by omega)
   rw [List.getD_eq_getElem?_getD,List.getElem?_eq_getElem (show x.toNat < l.length by omega)]
   rw [List.getD_eq_getElem?_getD,List.getElem?_eq_getElem (show y.toNat < l.length by omega)] at g
   simp only [Option.getD_some] at g ⊢
   unfold pr at hx
   unfold Cmp.ic at g ⊢
   split at g
   ·rw [if_pos (by omega)]
    decide
   ·split at g <;> omega
  ·rw [e]
   exact g
 have sp:=qx (IK l p) l.length l.length 0 l.length (Int.le_refl 0) (by omega) (Int.le_refl _) (by omega) (fun x h0 h1=>by omega) (fun x h0 h1=>by omega) hm
 have pi:=CQ l p
 have e:mj l p=mz (IK l p) l.length 0 l.length:=rfl
 rw [← e] at sp
 have cv:∀ x:Int,0≤x→x < l.length→(IK l p x=true↔ri (l.getD x.toNat []) 0 < p):=fun x h0 h1=>by
  unfold IK Cmp.ic
  rw [decide_eq_true_eq]
  split
  ·omega
  ·split <;> omega
 refine⟨by omega,fun y hy=>?_,fun y hy=>?_⟩
 ·obtain⟨j,hj,rfl⟩:=List.getElem_of_mem hy
  rw [List.length_take] at hj
  rw [List.getElem_take]
  have:=(cv j (by omega) (by omega)).1 (sp.2.2.1 j (by omega) (by omega))
  rw [List.getD_eq_getElem?_getD,List.getElem?_eq_getElem (show (j:Int).toNat < l.length by omega)] at this
  exact this
 ·obtain⟨j,hj,rfl⟩:=List.getElem_of_mem hy
  rw [List.length_drop] at hj
  rw [List.getElem_drop]
  have h1:=sp.2.2.2 ((mj l p).toNat+j:Nat) (by omega) (by omega)
  have h2:=cv ((mj l p).toNat+j:Nat) (by omega) (by omega)
  rw [h1] at h2
  rw [List.getD_eq_getElem?_getD,List.getElem?_eq_getElem (show (((mj l p).toNat+j:Nat):Int).toNat < l.length by omega)] at h2
  have h3:¬ri (l[(mj l p).toNat+j]'(by omega)) 0 < p:=fun q=>by
   have:=h2.2 q
   cases this
  omega
def Vh (l:List E) (p:Int) (t:E) (k:Nat):List E:=l.take k ++ (t :: (l.drop k).filter fun y=>!decide (ri y 0=p))
theorem QY {a b:Int}:Cmp.ic a b=0↔a=b:=by
 unfold Cmp.ic
 split
 ·omega
 ·split <;> omega
theorem GZ {l:List E} (h:(l.map pr).Pairwise (· < ·)) (p w s:Int):Rb l p w s=Vh l p (Pb p w s) (mj l p).toNat:=by
 have c:=Kw h p
 have pi:=CQ l p
 unfold Rb Vh
 have hp:(l.drop (mj l p).toNat).Pairwise fun x y=>ri x 0 < ri y 0:=(List.pairwise_map.1 h).sublist (List.drop_sublist _ _)
 split
 ·rename_i f
  unfold MO at f
  rw [Bool.and_eq_true,decide_eq_true_eq,decide_eq_true_eq,QY] at f
  have hk:(mj l p).toNat < l.length:=by omega
  rw [List.set_eq_take_append_cons_drop,if_pos hk]
  congr 2
  rw [List.drop_eq_getElem_cons hk] at hp ⊢
  rw [List.getD_eq_getElem?_getD,List.getElem?_eq_getElem hk] at f
  have f2:ri l[(mj l p).toNat] 0=p:=f.2
  rw [List.filter_cons_of_neg (by rw [f2];simp)]
  symm
  rw [List.filter_eq_self]
  intro y hy
  have:=(List.pairwise_cons.1 hp).1 y hy
  rw [decide_eq_false (by omega)]
  rfl
 ·rename_i f
  congr 2
  symm
  rw [List.filter_eq_self]
  intro y hy
  have g:=c.b y hy
  by_cases hk:(mj l p).toNat < l.length
  ·rw [List.drop_eq_getElem_cons hk] at hp hy
   have f2:¬ri l[(mj l p).toNat] 0=p:=fun q=>f (by
    unfold MO
    rw [Bool.and_eq_true,decide_eq_true_eq,decide_eq_true_eq,QY,List.getD_eq_getElem?_getD,List.getElem?_eq_getElem hk]
    exact⟨by omega,q⟩)
   have g0:=c.b (l[(mj l p).toNat]) (by rw [List.drop_eq_getElem_cons hk];exact List.mem_cons_self ..)
   rcases List.mem_cons.1 hy with e|e
   ·rw [e,decide_eq_false f2]
    rfl
   ·have:=(List.pairwise_cons.1 hp).1 y e
    rw [decide_eq_false (by omega)]
    rfl
  ·rw [List.drop_eq_nil_of_le (by omega)] at hy
   cases hy
structure XU where
 i:Int
 o:List E
 b:Bool
theorem DD {d:CS} (h:Vd d) {p w s:Int} (hp:cm p=true) (hi:p≠d.i) (hr:0≤w∧w≤2147483647∧1≤s∧s≤2147483647):Vd (MD d p w s):=by
 have c:=Kw h.s p
 have e:(MD d p w s).aa=Vh d.aa p (Pb p w s) (mj d.aa p).toNat:=GZ h.s p w s
 have hs:=List.pairwise_map.1 h.s
 refine⟨h.i,fun y hy=>?_,?_,h.g,h.c,h.o,h.w,h.z⟩
 ·rw [e] at hy
  unfold Vh at hy
  rcases List.mem_append.1 hy with g|g
  ·exact h.t y (List.mem_of_mem_take g)
  ·rcases List.mem_cons.1 g with g|g
   ·rw [g]
    exact⟨rfl,hp,hi,hr,(show ew 0 false false 0=true by decide)⟩
   ·exact h.t y (List.mem_of_mem_drop (List.mem_filter.1 g).1)
 ·rw [e]
  unfold Vh
  rw [List.pairwise_map,List.pairwise_append,List.pairwise_cons]
  have ft:∀ y∈(d.aa.drop (mj d.aa p).toNat).filter (fun y=>!decide (ri y 0=p)),p < ri y 0:=fun y hy=>by
   obtain⟨g1,g2⟩:=List.mem_filter.1 hy
   have:=c.b y g1
   have:¬ri y 0=p:=fun q=>by
    rw [decide_eq_true q] at g2
    cases g2
   omega
  refine⟨hs.sublist (List.take_sublist _ _),⟨fun y hy=>ft y hy,(hs.sublist (List.drop_sublist _ _)).sublist List.filter_sublist⟩,fun x hx y hy=>?_⟩
  have h1:=c.a x hx
  show ri x 0 < ri y 0
  rcases List.mem_cons.1 hy with g|g
  ·rw [g]
   exact h1
  ·have:=ft y g
   omega
theorem Ec {d:CS} (h:Vd d) (a:Int):Vd { d with aa:=Gz d.aa a }:=by
 have hb:(Gz d.aa a).Sublist d.aa:=by
  unfold Gz
  conv=>rhs;rw [← List.take_append_drop a.toNat d.aa]
  exact (List.Sublist.refl _).append (by
   by_cases g:0≤a
   ·rw [show (a+1).toNat=a.toNat+1 by omega]
    exact List.drop_sublist_drop_left _ (by omega)
   ·rw [show (a+1).toNat=0 by omega,show a.toNat=0 by omega]
    exact List.Sublist.refl _)
 exact⟨h.i,fun y hy=>h.t y (hb.subset hy),h.s.sublist (hb.map pr),h.g,h.c,h.o,h.w,h.z⟩
theorem OM {e r e' r' : Int}:0 < QQ e r e' r'↔e' < e∨e' = e∧r' < r:=by
 unfold QQ
 split
 ·split
  ·omega
  ·split <;> omega
 ·split <;> omega
theorem Lk.mono {L:Lv} {n m:Nat} (h:Lk L n) (hm:m≤n):Lk L m:=⟨fun x h1 h2=>h.ok x h1 (by omega),h.v⟩
theorem xZ {L:Lv} {n:Nat} (hL:Lk L (n+65)) (hn:n≤70000) {d:CS} (h:Vd d) (hq:d.q.length≤n):gO L d=true:=HI hL.lb (by omega) h hq fun _ _ _ x h1 h2=>hL.ok x h1 h2
theorem PE {L:Lv} {n:Nat} (hL:Lk L (n+300)) (hn:n≤60000) {d:CS} (h:Vd d) (ho:d.o=false) (hq:d.q.length≤n) (e r p:Int):gG L d e r p=true:=by
 have hl:=h.len
 obtain⟨v,q,_,_⟩:=fI h ho e r p
 unfold gG
 rw [xZ (n:=n+128) (Lk.mono hL (by omega)) (by omega) v (by omega),decide_eq_true ⟨by omega,by omega⟩]
 rfl
theorem UN {L:Lv} {n:Nat} (hL:Lk L (n+65)) (hn:n≤70000) {d:CS} (h:Vd d) (ho:d.o=false) (hq:d.q.length≤n) (c:CH) {v:List Int} {l:List E} (hv:v.length≤500) (hl:l.length≤500):sH L d c v l=true :=
 Ri hL.lb (by omega) h ho hq hv hl fun _ _ _ x h1 h2=>hL.ok x h1 h2
theorem UF {L:Lv} {n:Nat} (hL:Lk L (n+66)) (hn:n≤60000) {d:CS} (h:Vd d) {a:Int} (h0:0≤a) (h1:a < d.aa.length) (hq:d.q.length≤n) (k:Int):Ap L d a k=true:=by
 have hl:=h.len
 obtain⟨v,q,_⟩:=cu h h0 h1 (Jo k (h.t _ (bQ h0 h1)).v)
 unfold Ap
 rw [hL.ok _ v (by omega),xZ (n:=n+1) (Lk.mono hL (by omega)) (by omega) v (by omega),decide_eq_true (show 0≤a∧a < d.aa.length∧d.aa.length≤300∧d.q.length≤70000 from ⟨h0,h1,by omega,by omega⟩)]
 simp
structure aap (w:WK):Prop where
 m:rG (FO w)=true
 n:w.n.length≤70∧w.l.length≤60
 c:∀ y∈w.l,y=e5 y
theorem Ss {w:WK} (h:rG (FO w)=true) (k:w.k=2):bf w.n w.l=true:=by
 unfold WoR.rG at h
 simp only [Bool.and_eq_true] at h
 have h3:=h.2.2.1
 unfold WoR.ZL at h3
 rw [if_pos (show WoR.full (FO w)=true from decide_eq_true (Or.inl k)),Bool.and_eq_true] at h3
 exact h3.2
theorem xb {d:CS} (h:Vd d) (hg:d.gl.length≤100) {w:WK} (hw:aap w) (k:w.k=2) (p:Int):Vd (nY d p w)∧(nY d p w).q=d.q ∧
  (LJ d.gn w.n=true→nY d p w=⟨d.i,d.ee,d.er,d.t,d.p,d.aa,d.w.take (cE d.w p).toNat ++ d.w.drop (cE d.w p+1).toNat,d.gn,d.gl,d.ph,d.tn,d.tl,d.l,d.o,d.q⟩) ∧
  (LJ d.gn w.n=false→nY d p w=⟨d.i,d.ee,d.er,d.t,d.p,d.aa,d.w.take (cE d.w p).toNat ++ d.w.drop (cE d.w p+1).toNat,Su d.gn w.n,LP d.gn w.n d.gl w.l,d.ph,d.tn,d.tl,d.l,d.o,d.q⟩):=by
 have mw:=Ss hw.m k
 obtain⟨e1,e2⟩:=Xh h.g mw h.c hw.c
 have hsub:(d.w.take (cE d.w p).toNat ++ d.w.drop (cE d.w p+1).toNat).Sublist d.w:=by
  conv=>rhs;rw [← List.take_append_drop (cE d.w p).toNat d.w]
  refine (List.Sublist.refl _).append ?_
  by_cases g:0≤cE d.w p
  ·rw [show (cE d.w p+1).toNat=(cE d.w p).toNat+1 by omega]
   exact List.drop_sublist_drop_left _ (by omega)
  ·have:=Ko d.w p
   rw [show (cE d.w p+1).toNat=0 by omega,show (cE d.w p).toNat=0 by omega]
   exact List.Sublist.refl _
 have hw2:(d.w.take (cE d.w p).toNat ++ d.w.drop (cE d.w p+1).toNat).Nodup∧(d.w.take (cE d.w p).toNat ++ d.w.drop (cE d.w p+1).toNat).length≤64:=⟨h.w.1.sublist hsub,Nat.le_trans hsub.length_le h.w.2⟩
 cases c:LJ d.gn w.n
 ·obtain⟨g1,g2,g3,g4,g5⟩:=e2 c
  have e:nY d p w=⟨d.i,d.ee,d.er,d.t,d.p,d.aa,d.w.take (cE d.w p).toNat ++ d.w.drop (cE d.w p+1).toNat,Su d.gn w.n,LP d.gn w.n d.gl w.l,d.ph,d.tn,d.tl,d.l,d.o,d.q⟩:=by rw [PY g1,g2,g3]
  have hl:=(PI h.g mw).2
  have h60:=hw.n.2
  refine⟨?_,by rw [e],fun q=>(by cases q),fun _=>e⟩
  rw [e]
  exact⟨h.i,h.t,h.s,g4,g5,h.o,hw2,⟨by simp only;omega,h.z.2⟩⟩
 ·have e:=Ro (p:=p) (e1 c)
  refine⟨?_,by rw [e],fun _=>e,fun q=>(by cases q)⟩
  rw [e]
  exact⟨h.i,h.t,h.s,h.g,h.c,h.o,hw2,h.z⟩
end Go.Proofs.YtelhldgdnlppfaaGreat.KrY
namespace Go.Proofs.YtelhldgdnlppfaaGreat.KrZ
open Go Ry ViR VoR KsS KsC KsT KsE KsF KrV KrW KrX KrY
open ViM (e5)
open ChQ (mh kO CH)
open TrR (cE)
open WoR (rG WD)
open ViS (As vT rH kT)
open KsG (iz fJ tr)
def Gj (i l:Int):CS:=VV.B (iz i l)
theorem xT {i:Int} (h:cm i=true) (l:Int):Vd (iz i l):=⟨h,fun y hy=>(by cases hy),List.Pairwise.nil,wc,fun y hy=>(by cases hy),fun q=>rfl,⟨List.nodup_nil,Nat.zero_le _⟩,Nat.zero_le _,Nat.zero_le _,Nat.zero_le _⟩
theorem TH {i:Int} (h:cm i=true) (l:Int):Vd (Gj i l):=CJ.v _ (xT h l)
def Rv (y:E):Prop:=(rl y 4).length≤1000∧(rr y 5).length≤1000
def Uq (d:CS):Prop:=∀ y∈d.q,Rv y
theorem Bj {p:Int} {w:WK} (h1:w.n.length≤1000) (h2:w.l.length≤1000):Rv (eF p w):=⟨h1,h2⟩
theorem Kv {q r:List E} (h:∀ y∈q,Rv y) (g:∀ y∈r,Rv y):∀ y∈q ++ r,Rv y:=fun y hy=>(List.mem_append.1 hy).elim (h y) (g y)
theorem jG {d:CS} (h:Uq d) (a:Int) (r:VT):Uq (aL d a r):=by
 unfold aL
 split
 ·exact Kv h fun y hy=>by
   obtain⟨k,_,rfl⟩:=List.mem_map.1 hy
   exact Bj (Nat.zero_le _) (Nat.zero_le _)
 ·exact h
theorem QG {d:CS} (h:Uq d):∀ n,Uq (jl d n)
 |0=>h
 |n+1=>jG (QG h n) _ _
theorem PT {d:CS} (h:Uq d):∀ n,Uq (cU d n)
 |0=>h
 |n+1=>jG (PT h n) _ _
theorem Ql {d:CS} (h:Uq d) (l:List Int) {w:WK} (h1:w.n.length≤1000) (h2:w.l.length≤1000):Uq (dG d l w):=Kv h fun y hy=>by
 obtain⟨k,_,rfl⟩:=List.mem_map.1 hy
 exact Bj h1 h2
theorem PX {d:CS} (h:Uq d) (e r p:Int):Uq (fP d e r p):=by
 unfold fP
 refine QG (Ql ?_ _ (Nat.zero_le _) (Nat.zero_le _)) _
 exact h
theorem Lc {d:CS} (h:Uq d):Uq (kW d):=by
 unfold kW
 split
 ·exact h
 ·exact PT h _
theorem VB {d:CS} (h:Uq d) (c:CH) {v:List Int} {l:List E} (hv:v.length≤1000) (hl:l.length≤1000):Uq (fU d c v l):=by
 have:Uq (dG d (cw d.aa d.p) (uK d c v l)):=by
  refine Ql h _ ?_ ?_
  ·unfold uK
   simp only
   split
   ·exact hv
   ·exact Nat.zero_le _
  ·unfold uK
   simp only
   split
   ·exact hl
   ·exact Nat.zero_le _
 unfold fU
 split <;> exact this
def Ub (L:Lv):Prop:=∀ x,Vd x→Uq x→Uq (L.B x)
theorem WN {L:Lv} (hB:Ub L) {d:CS} (h:Vd d) (u:Uq d) (k:Int) {a:Int} (h0:0≤a) (h1:a < d.aa.length):Uq (jY L d k a):=by
 have hv:=(h.t _ (bQ h0 h1)).v
 unfold jY
 split
 ·have g:=(cu h h0 h1 (EW hv)).1
  split
  ·exact hB _ g (jG u _ _)
  ·exact jG u _ _
 ·split
  ·have g:=(cu h h0 h1 (uI hv)).1
   split
   ·exact hB _ g (jG u _ _)
   ·exact jG u _ _
  ·exact u
theorem WG {L:Lv} (hB:Ub L) {d:CS} (h:Vd d) (u:Uq d) (ho:d.o=false) (c:CH) {v:List Int} {l:List E} (hv:v.length≤500) (hl:l.length≤500):Uq (wQ L d c v l):=by
 obtain⟨g,_,t⟩:=rQ h ho c hv hl
 have g2:=VB u c (show v.length≤1000 by omega) (show l.length≤1000 by omega)
 unfold wQ
 split
 ·rename_i e
  obtain⟨m1,m2⟩:=nR e
  exact WN hB g g2 _ m1 (by rw [t];exact m2)
 ·exact g2
theorem Dh {L:Lv} (hB:Ub L) {d:CS} (h:Vd d) (u:Uq d):Uq (fH L d):=by
 have hs:=jC h
 unfold fH
 split
 ·exact u
 ·rename_i e
  have ho:=(gD e).1
  split
  ·exact Kv u fun y hy=>by
    rw [List.mem_singleton] at hy
    rw [hy]
    exact Bj (show (eU d).length≤1000 by omega) (show (eV d).length≤1000 by omega)
  ·split
   ·exact u
   ·exact WG hB h u ho _ (by omega) (by omega)
theorem PK {L:Lv} (hB:Ub L) {d:CS} (h:Vd d) (u:Uq d):Uq (kR L d):=by
 unfold kR
 split
 ·exact u
 ·rename_i e
  split
  ·exact Dh hB (fI h (by simpa using e) _ _ _).1 (PX u _ _ _)
  ·exact Lc u
theorem aak:Ub VV:=fun _ h u=>PK (L:=Ey.up) (fun _ h u=>PK (L:=Ey) (fun _ _ u=>u) h u) h u
structure Lt (w:WK):Prop where
 n:w.n.length≤70∧w.l.length≤60
 c:∀ y∈w.l,y=e5 y
noncomputable def ltB (w:WK):Bool:=@decide (Lt w) (Classical.propDecidable _)
theorem lt_iff {w:WK}:ltB w=true↔Lt w:=by
 unfold ltB
 exact @decide_eq_true_iff _ (Classical.propDecidable _)
theorem xH {i:Int} {v:EV} (h:fC i v=true) (k:v.k=1):cm v.p=true∧v.p≠i∧0≤v.w∧v.w≤2147483647∧1≤v.s∧v.s≤2147483647:=by
 unfold fC at h
 rw [if_pos k,Bool.and_eq_true,decide_eq_true_eq] at h
 exact h
theorem tD {i:Int} {v:EV} (h:fC i v=true) (k:v.k=3):rG (FO v.x)=true:=by
 unfold fC at h
 rw [if_neg (by omega),if_pos k] at h
 exact h
theorem Uh {L:Lv} (hL:Lk L 5000) {d:CS} (h:Vd d) (hq:d.q.length≤100) (hg:d.gl.length≤100) {v:EV} (hc:fC d.i v=true) (hx:Lt v.x):uk L d v=true:=by
 have hl:=h.len
 have hgn:=h.US
 have hw6:=h.w.2
 have n1:=hx.n.1
 have n2:=hx.n.2
 have sg:Fw d v.x=true:=decide_eq_true ⟨by omega,by omega,by omega,by omega,by omega,by omega,by omega⟩
 have su:zB d=true:=decide_eq_true ⟨by omega,by omega⟩
 have k1:v.k=1→Aj L d v.p v.w v.s=true:=fun e=>by
  obtain⟨c1,c2,c3⟩:=xH hc e
  unfold Aj
  rw [su,hL.ok _ (DD h c1 c2 c3) (show d.q.length≤5000 by omega)]
  rfl
 have k2:zy L d v.p=true:=by
  unfold zy
  rw [su,show L.ok (YF d v.p)=true from hL.ok _ (Ec h (dw d.aa v.p)) (show d.q.length≤5000 by omega)]
  simp
 have k3:v.k=3→jS L d v.p v.x=true:=fun e=>by
  have mw:=tD hc e
  unfold jS
  rw [su,decide_eq_true (show v.x.n.length≤1000∧v.x.l.length≤1000 from ⟨by omega,by omega⟩)]
  simp only [Bool.true_and,Bool.or_eq_true,Bool.and_eq_true,Bool.not_eq_true',decide_eq_true_eq,decide_eq_false_iff_not]
  by_cases na:dw d.aa v.p < 0
  ·exact .inl na
  ·have at2:=(lf d.aa v.p).2
   refine .inr ⟨.inr (UF (n:=100) (Lk.mono hL (by omega)) (by omega) h (by omega) at2 hq _),?_,?_⟩
   ·by_cases g:d.o=false
    ·exact .inr (PE (n:=100) (Lk.mono hL (by omega)) (by omega) h g hq _ _ _)
    ·exact .inl fun q=>g q.2.2.2
   ·by_cases g:d.o=false
    ·exact .inr (UN (n:=100) (Lk.mono hL (by omega)) (by omega) h g hq _ (by omega) (by omega))
    ·exact .inl fun q=>g q.2.2.2.2.2
 have k4:v.k=3∧v.x.k=2→pX L d v.p v.x=true:=fun e=>by
  have mw:=tD hc e.1
  obtain⟨v2,q2,_,_⟩:=xb h hg ⟨mw,hx.n,hx.c⟩ e.2 v.p
  unfold pX rS
  rw [sg,xZ (n:=100) (Lk.mono hL (by omega)) (by omega) v2 (by rw [q2];omega)]
  simp
 unfold uk
 simp only [Bool.and_eq_true,Bool.or_eq_true,Bool.not_eq_true',decide_eq_false_iff_not]
 refine⟨sg,?_,.inr k2,?_,?_⟩
 ·by_cases e:v.k=1
  ·exact .inr (k1 e)
  ·exact .inl e
 ·by_cases e:v.k=3∧¬v.x.k=2
  ·exact .inr (k3 e.1)
  ·exact .inl e
 ·by_cases e:v.k=3∧v.x.k=2
  ·exact .inr (k4 e)
  ·exact .inl e
theorem Wd {L:Lv} (hB:∀ x,Vd x→Vd (L.B x)) {d:CS} (h:Vd d) {a:Int} (h0:0≤a) (h1:a < d.aa.length) (k:Int):Vd (yq L d a k):=by
 have hv:=(h.t _ (bQ h0 h1)).v
 obtain⟨g,_,l⟩:=cu h h0 h1 (Jo k hv)
 have h2:a < (aL d a (dx k (tie d a))).aa.length:=by rw [l];exact h1
 unfold yq
 split
 ·exact (cu g h0 h2 (uI (g.t _ (bQ h0 h2)).v)).1
 ·split
  ·exact hB _ g
  ·split
   ·exact xK hB g
   ·exact g
theorem aaz {L:Lv} (hB:Ub L) {d:CS} (h:Vd d) (u:Uq d) {a:Int} (h0:0≤a) (h1:a < d.aa.length) (k:Int):Uq (yq L d a k):=by
 have hv:=(h.t _ (bQ h0 h1)).v
 obtain⟨g,_,l⟩:=cu h h0 h1 (Jo k hv)
 have u2:=jG u a (dx k (tie d a))
 unfold yq
 split
 ·exact jG u2 _ _
 ·split
  ·exact hB _ g u2
  ·split
   ·exact Dh hB g u2
   ·exact u2
theorem Za {L:Lv} (hB:∀ x,Vd x→Vd (L.B x)) (hU:Ub L) {d:CS} (h:Vd d) (u:Uq d) (hg:d.gl.length≤100) {v:EV} (hc:fC d.i v=true) (hx:Lt v.x):Vd (mW L d v)∧Uq (mW L d v):=by
 have n1:=hx.n.1
 have n2:=hx.n.2
 unfold mW
 split
 ·rename_i e
  obtain⟨c1,c2,c3⟩:=xH hc e
  have g:=DD h c1 c2 c3
  exact⟨hB _ g,hU _ g u⟩
 ·split
  ·unfold MW
   split
   ·exact⟨h,u⟩
   ·have g:=Ec h (dw d.aa v.p)
    exact⟨hB _ g,hU _ g u⟩
  ·split
   ·rename_i e
    have mw:=tD hc e
    unfold ku
    split
    ·rename_i e2
     split
     ·exact⟨h,u⟩
     ·split
      ·exact⟨h,u⟩
      ·unfold qf
       split
       ·obtain⟨v2,q2,_,_⟩:=xb h hg ⟨mw,hx.n,hx.c⟩ e2 v.p
        exact⟨xK hB v2,Dh hU v2 (by unfold Uq;rw [q2];exact u)⟩
       ·exact⟨h,u⟩
    ·unfold fS
     split
     ·exact⟨h,u⟩
     ·rename_i na
      have at2:=(lf d.aa v.p).2
      split
      ·exact⟨Wd hB h (by omega) at2 _,aaz hU h u (by omega) at2 _⟩
      ·split
       ·exact⟨h,u⟩
       ·rename_i ho
        have ho:d.o=false:=by simpa using ho
        split
        ·split
         ·have g:=(fI h ho v.x.e v.x.r v.p).1
          exact⟨xK hB g,Dh hU g (PX u _ _ _)⟩
         ·exact⟨h,u⟩
        ·split
         ·split
          ·exact⟨Qa hB h ho _ (by omega) (by omega),WG hU h u ho _ (by omega) (by omega)⟩
          ·exact⟨h,u⟩
         ·exact⟨h,u⟩
   ·exact⟨(wC h).1,Lc u⟩
def RL (a:CS):Bool:=decide (a.aa.length≤1000∧a.w.length≤1000∧a.gn.length≤1000∧a.gl.length≤1000∧a.tn.length≤1000∧a.tl.length≤1000)
noncomputable def ZZ (p:List E):Bool:=@decide (p.length≤1000000∧∀ y∈p,Rv y) (Classical.propDecidable _)
theorem Ni {p:List E}:ZZ p=true↔p.length≤1000000∧∀ y∈p,Rv y:=by
 unfold ZZ
 exact @decide_eq_true_iff _ (Classical.propDecidable _)
noncomputable def VF (d:CS) (v:EV):Bool:=vdB d && (ltB v.x && decide (d.q=[]∧d.gl.length≤100))
end Go.Proofs.YtelhldgdnlppfaaGreat.KrZ
