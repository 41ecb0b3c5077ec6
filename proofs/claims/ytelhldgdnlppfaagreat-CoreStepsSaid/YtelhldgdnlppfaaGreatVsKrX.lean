/-
  What the document's steps of a core mean: theory of its loops and choices. No condition.
-/
import Derived.Test.YtelhldgdnlppfaaGreatVsW48
import Derived.Test.YtelhldgdnlppfaaGreatVsKrS
import Derived.Test.YtelhldgdnlppfaaGreatVsChA
namespace Go.Proofs.YtelhldgdnlppfaaGreat.KrX
open Go Ry ViR VoR KsS KsC KsT ViT ViM MgT KrV KrW
open KrS (gF kr yS)
open ViL (fz)
open ViT (ba)
open SpR (gw)
open SpQ (JJ rQ)
open ChQ (jt ef CH)
noncomputable def vR (d:CS):Bool:=@decide (Vd d) (Classical.propDecidable _)
theorem dA {d:CS}:vR d=true↔Vd d:=by
 unfold vR;exact @decide_eq_true_iff _ (Classical.propDecidable _)
structure XV where
 i:Int
 t:List E
 q:List E
def xvR (k:Nat) (st:St):XV:=⟨bw st k,mJ st 1 5,mJ st 1 14⟩
def ovQ (s:CS) (y:XV):Prop:=0≤y.i∧y.i≤s.U.length∧y.t=(cD s y.i.toNat).U∧y.q=(cD s y.i.toNat).q
def VY (s:CS) (y:XV):Nat:=s.U.length - y.i.toNat
def Yc (s:CS) (t q:List E):CS:=⟨s.i,0,0,s.t,0,t,[],[],[],0,[],[],s.l,true,q⟩
theorem Uv (s:CS):ovQ s ⟨0,s.U,s.q⟩:=⟨Int.le_refl 0,Int.natCast_nonneg _,rfl,rfl⟩
theorem Wh {s x:CS} (h:tq s x):Qr x=Yc s x.U x.q:=by
 unfold tq at h;rw [h];rfl
theorem DK {l:List E} {i:Int} (h0:0≤i) (h1:i < l.length) (x:E):(l.set i.toNat x).getD i.toNat []=x:=by
 rw [List.getD_eq_getElem?_getD,List.getElem?_set_self (by omega)];rfl
theorem PV {s:CS} {t q:List E} {i:Int} {r:VT} (h:r.e=0):(aE (Yc s t q) i r).U=t.set i.toNat [.int (ri (t.getD i.toNat []) 0),.int (ri (t.getD i.toNat []) 1),.int (ri (t.getD i.toNat []) 2),.int r.m,.bool r.t,.bool r.b,.int r.o]∧(aE (Yc s t q) i r).q=q ++ r.w.map fun k=>cB (ri (t.getD i.toNat []) 0) (xc k):=by
 rw [lX h];exact⟨rfl,rfl⟩
theorem AY {t:List E} {i:Int} (h0:0≤i) (h1:i < t.length) (a b c m:Int) (x y:Bool) (o:Int):ri ((t.set i.toNat [.int a,.int b,.int c,.int m,.bool x,.bool y,.int o]).getD i.toNat []) 0=a:=by
 rw [DK h0 h1];rfl
theorem Uy {s:CS} (h:Vd s) (hs:s.q.length≤90000) {i:Int} {t q:List E} (hq:ovQ s ⟨i,t,q⟩) (hi:i < t.length) :
  t.length≤64∧q.length≤90100∧aD .add .i64 i 1=i+1∧(∀ t' q',VY s ⟨i+1,t',q'⟩ < VY s ⟨i,t,q⟩) ∧
  df (ri (t.getD i.toNat []) 3) (rb (t.getD i.toNat []) 4) (rb (t.getD i.toNat []) 5) (ri (t.getD i.toNat []) 6)=true ∧
  (rb (t.getD i.toNat []) 5=true→ovQ s ⟨i+1,t.set i.toNat [.int (ri (t.getD i.toNat []) 0),.int (ri (t.getD i.toNat []) 1),.int (ri (t.getD i.toNat []) 2),.int (gm (ri (t.getD i.toNat []) 3) (rb (t.getD i.toNat []) 4) (rb (t.getD i.toNat []) 5) (ri (t.getD i.toNat []) 6)).m,.bool (gm (ri (t.getD i.toNat []) 3) (rb (t.getD i.toNat []) 4) (rb (t.getD i.toNat []) 5) (ri (t.getD i.toNat []) 6)).t,.bool (gm (ri (t.getD i.toNat []) 3) (rb (t.getD i.toNat []) 4) (rb (t.getD i.toNat []) 5) (ri (t.getD i.toNat []) 6)).b,.int (gm (ri (t.getD i.toNat []) 3) (rb (t.getD i.toNat []) 4) (rb (t.getD i.toNat []) 5) (ri (t.getD i.toNat []) 6)).o],q ++ (gm (ri (t.getD i.toNat []) 3) (rb (t.getD i.toNat []) 4) (rb (t.getD i.toNat []) 5) (ri (t.getD i.toNat []) 6)).w.map fun k=>cB (ri (t.getD i.toNat []) 0) (xc k)⟩∧(gm (ri (t.getD i.toNat []) 3) (rb (t.getD i.toNat []) 4) (rb (t.getD i.toNat []) 5) (ri (t.getD i.toNat []) 6)).w.length≤1) ∧
  (rb (t.getD i.toNat []) 5=false→ovQ s ⟨i+1,t.set i.toNat [.int (ri (t.getD i.toNat []) 0),.int (ri (t.getD i.toNat []) 1),.int (ri (t.getD i.toNat []) 2),.int (iN (ri (t.getD i.toNat []) 3) (rb (t.getD i.toNat []) 4) (rb (t.getD i.toNat []) 5) (ri (t.getD i.toNat []) 6)).m,.bool (iN (ri (t.getD i.toNat []) 3) (rb (t.getD i.toNat []) 4) (rb (t.getD i.toNat []) 5) (ri (t.getD i.toNat []) 6)).t,.bool (iN (ri (t.getD i.toNat []) 3) (rb (t.getD i.toNat []) 4) (rb (t.getD i.toNat []) 5) (ri (t.getD i.toNat []) 6)).b,.int (iN (ri (t.getD i.toNat []) 3) (rb (t.getD i.toNat []) 4) (rb (t.getD i.toNat []) 5) (ri (t.getD i.toNat []) 6)).o],q ++ (iN (ri (t.getD i.toNat []) 3) (rb (t.getD i.toNat []) 4) (rb (t.getD i.toNat []) 5) (ri (t.getD i.toNat []) 6)).w.map fun k=>cB (ri (t.getD i.toNat []) 0) (xc k)⟩∧(iN (ri (t.getD i.toNat []) 3) (rb (t.getD i.toNat []) 4) (rb (t.getD i.toNat []) 5) (ri (t.getD i.toNat []) 6)).w.length≤1):=by
 obtain⟨h0,h1,h2,h3⟩:=hq;simp only at h0 h1 h2 h3;have hl:=h.len;have g:=yY h i.toNat (by omega);have gl:=g.l;have hit:i < (cD s i.toNat).U.length:=by rw [← h2];exact hi
 have gq:=g.q;have e0:Yc s t q=Qr (cD s i.toNat):=by rw [Wh g.f,h2,h3]
 have et:t.getD i.toNat []=tie (cD s i.toNat) i:=by rw [h2];rfl
 have ei:((i.toNat:Nat):Int)=i:=by omega
 have e1:(i+1).toNat=i.toNat+1:=by omega
 have hm:=(g.v.t _ (bT h0 hit)).v;have hs1:cD s (i+1).toNat=aE (cD s i.toNat) i (if rb (tie (cD s i.toNat) i) 5=true then kq (tie (cD s i.toNat) i) else zg (tie (cD s i.toNat) i)):=by
  rw [e1];show aE (cD s i.toNat) ((i.toNat:Nat):Int) _=_;rw [ei]
 have hov:∀ r,(aE (Qr (cD s i.toNat)) i r).U=(aE (cD s i.toNat) i r).U∧(aE (Qr (cD s i.toNat)) i r).q=(aE (cD s i.toNat) i r).q:=fun r=>by
  unfold aE;split
  ·exact⟨rfl,rfl⟩
  ·exact⟨rfl,rfl⟩
 refine⟨by rw [h2,gl];omega,by rw [h3];omega,by rw [aW,wr _ (by omega) (by omega)],fun t' q'=>by simp only [VY];omega,by rw [et];exact hm,fun e=>?_,fun e=>?_⟩
 ·have gp:=xP hm;obtain⟨x1,x2⟩:=PV (s:=s) (t:=t) (q:=q) (i:=i) (r:=kq (t.getD i.toNat [])) (by rw [et];exact gp.1);rw [e0,(hov _).1] at x1;rw [e0,(hov _).2] at x2;rw [et] at e;rw [if_pos e,← et] at hs1;rw [← et] at gp;exact⟨⟨by simp only;omega,by simp only;omega,by simp only;rw [hs1,x1];rfl,by simp only;rw [hs1,x2];rfl⟩,gp.2.2⟩
 ·have gp:=MD hm;obtain⟨x1,x2⟩:=PV (s:=s) (t:=t) (q:=q) (i:=i) (r:=zg (t.getD i.toNat [])) (by rw [et];exact gp.1);rw [e0,(hov _).1] at x1;rw [e0,(hov _).2] at x2;rw [et] at e;rw [if_neg (by rw [e];decide),← et] at hs1;rw [← et] at gp;exact⟨⟨by simp only;omega,by simp only;omega,by simp only;rw [hs1,x1];rfl,by simp only;rw [hs1,x2];rfl⟩,gp.2.2⟩
theorem Xq {s:CS} (h:Vd s) {i:Int} {t q:List E} (hq:ovQ s ⟨i,t,q⟩) (hi:¬i < t.length):Qr (cD s s.U.length)=Yc s t q:=by
 obtain⟨h0,h1,h2,h3⟩:=hq;simp only at h0 h1 h2 h3;have g:=yY h i.toNat (by omega);have gl:=g.l;have:i.toNat=s.U.length:=by rw [h2] at hi;omega
 rw [← this,Wh g.f,h2,h3]
def awQ (q0:List E) (l:List Int) (w:WK) (y:XQ):Prop:=0≤y.i∧y.i≤l.length∧y.q=q0 ++ (l.take y.i.toNat).map fun p=>cB p w
def awM (l:List Int) (y:XQ):Nat:=l.length - y.i.toNat
theorem HW (q0:List E) (l:List Int) (w:WK):awQ q0 l w ⟨0,q0⟩:=⟨Int.le_refl 0,Int.natCast_nonneg _,by simp⟩
theorem Ic {q0:List E} {l:List Int} {w:WK} (hl:l.length≤1000) (hq0:q0.length≤95000) {i:Int} {q:List E} (hq:awQ q0 l w ⟨i,q⟩) (h:i < l.length):aD .add .i64 i 1=i+1∧(∀ q',awM l ⟨i+1,q'⟩ < awM l ⟨i,q⟩)∧q.length≤100000∧awQ q0 l w ⟨i+1,q ++ [cB (l.getD i.toNat 0) w]⟩:=by
 obtain⟨h0,h1,h2⟩:=hq;simp only at h0 h1 h2;refine⟨by rw [aW,wr _ (by omega) (by omega)],fun o'=>by simp only [awM];omega,?_,⟨by simp only;omega,by simp only;omega,?_⟩⟩
 ·rw [h2,List.length_append,List.length_map,List.length_take];omega
 ·simp only;rw [la l h0 h,List.map_append,← List.append_assoc,← h2];rfl
theorem LV {q0:List E} {l:List Int} {w:WK} {i:Int} {q:List E} (hq:awQ q0 l w ⟨i,q⟩):q.length≤q0.length+l.length:=by
 obtain⟨h0,h1,h2⟩:=hq;simp only at h0 h1 h2;rw [h2,List.length_append,List.length_map,List.length_take];omega
theorem Pk {q0:List E} {l:List Int} {w:WK} {i:Int} {q:List E} (hq:awQ q0 l w ⟨i,q⟩) (h:¬i < l.length):q=q0 ++ l.map fun p=>cB p w:=by
 obtain⟨h0,h1,h2⟩:=hq;simp only at h0 h1 h2;rw [h2,show i.toNat=l.length by omega,List.take_length]
def reQ (s:CS) (y:XV):Prop:=0≤y.i∧y.i≤s.U.length∧y.t=(eh s y.i.toNat).U∧y.q=(eh s y.i.toNat).q
theorem RE (s:CS):reQ s ⟨0,s.U,s.q⟩:=⟨Int.le_refl 0,Int.natCast_nonneg _,rfl,rfl⟩
def tqO (s:CS) (t q:List E):CS:=⟨s.i,s.ee,s.er,s.t,s.p,t,s.w,s.gn,s.gl,s.ph,s.tn,s.tl,s.l,s.o,q⟩
theorem Ua {s:CS} (h:Vd s) (hs:s.q.length≤90000) {i:Int} {t q:List E} (hq:reQ s ⟨i,t,q⟩) (hi:i < t.length) :
  t.length≤64∧q.length≤90100∧aD .add .i64 i 1=i+1∧(∀ t' q',VY s ⟨i+1,t',q'⟩ < VY s ⟨i,t,q⟩) ∧
  df (ri (t.getD i.toNat []) 3) (rb (t.getD i.toNat []) 4) (rb (t.getD i.toNat []) 5) (ri (t.getD i.toNat []) 6)=true ∧
  reQ s ⟨i+1,t.set i.toNat [.int (ri (t.getD i.toNat []) 0),.int (ri (t.getD i.toNat []) 1),.int (ri (t.getD i.toNat []) 2),.int (iN (ri (t.getD i.toNat []) 3) (rb (t.getD i.toNat []) 4) (rb (t.getD i.toNat []) 5) (ri (t.getD i.toNat []) 6)).m,.bool (iN (ri (t.getD i.toNat []) 3) (rb (t.getD i.toNat []) 4) (rb (t.getD i.toNat []) 5) (ri (t.getD i.toNat []) 6)).t,.bool (iN (ri (t.getD i.toNat []) 3) (rb (t.getD i.toNat []) 4) (rb (t.getD i.toNat []) 5) (ri (t.getD i.toNat []) 6)).b,.int (iN (ri (t.getD i.toNat []) 3) (rb (t.getD i.toNat []) 4) (rb (t.getD i.toNat []) 5) (ri (t.getD i.toNat []) 6)).o],q ++ (iN (ri (t.getD i.toNat []) 3) (rb (t.getD i.toNat []) 4) (rb (t.getD i.toNat []) 5) (ri (t.getD i.toNat []) 6)).w.map fun k=>cB (ri (t.getD i.toNat []) 0) (xc k)⟩∧(iN (ri (t.getD i.toNat []) 3) (rb (t.getD i.toNat []) 4) (rb (t.getD i.toNat []) 5) (ri (t.getD i.toNat []) 6)).w.length≤1:=by
 obtain⟨h0,h1,h2,h3⟩:=hq;simp only at h0 h1 h2 h3;have hl:=h.len;have g:=tI h i.toNat (by omega);have gl:=g.l;have hit:i < (eh s i.toNat).U.length:=by rw [← h2];exact hi
 have gq:=g.q;have e0:tqO s t q=eh s i.toNat:=by
  have:=g.f;unfold tq at this;rw [this,h2,h3];rfl
 have et:t.getD i.toNat []=tie (eh s i.toNat) i:=by rw [h2];rfl
 have ei:((i.toNat:Nat):Int)=i:=by omega
 have e1:(i+1).toNat=i.toNat+1:=by omega
 have hm:=(g.v.t _ (bT h0 hit)).v;have hs1:eh s (i+1).toNat=aE (eh s i.toNat) i (zg (tie (eh s i.toNat) i)):=by
  rw [e1];show aE (eh s i.toNat) ((i.toNat:Nat):Int) _=_;rw [ei]
 refine⟨by rw [h2,gl];omega,by rw [h3];omega,by rw [aW,wr _ (by omega) (by omega)],fun t' q'=>by simp only [VY];omega,by rw [et];exact hm,?_,?_⟩
 ·have gp:=MD hm;have x:=lX (d:=tqO s t q) (a:=i) (r:=zg (t.getD i.toNat [])) (by rw [et];exact gp.1);rw [e0] at x;rw [← et,x] at hs1;exact⟨by simp only;omega,by simp only;omega,by simp only;rw [hs1,← e0];rfl,by simp only;rw [hs1,← e0];rfl⟩
 ·have gp:=MD hm;rw [← et] at gp;exact gp.2.2
theorem aap {s:CS} (h:Vd s) {i:Int} {t q:List E} (hq:reQ s ⟨i,t,q⟩) (hi:¬i < t.length):Ju s=tqO s t q:=by
 obtain⟨h0,h1,h2,h3⟩:=hq;simp only at h0 h1 h2 h3;have g:=tI h i.toNat (by omega);have gl:=g.l;have:i.toNat=s.U.length:=by rw [h2] at hi;omega
 have e:=g.f;unfold tq at e;unfold Ju;rw [← this,e,h2,h3];rfl
theorem ach (m:Int) (t b:Bool) (o:Int):(ki m t b o).tf=false∧(ki m t b o).w.length≤1:=by
 refine⟨?_,(kQ m t b o 0).1⟩;unfold ki v0 same
 repeat' split
 all_goals rfl
theorem aek (m:Int) (t b:Bool) (o:Int):(gm m t b o).tf=false∧(gm m t b o).w.length≤1:=by
 refine⟨?_,(kQ m t b o 0).2.2.1⟩;unfold gm v0 same
 repeat' split
 all_goals rfl
noncomputable def FL (L:Lv) (d:CS):Bool:=eN L d && (vR d && decide (d.q.length≤79000))
def gW (L:Lv) (d:CS) (a:Int) (r:VT):CS :=
 if d.o=true∧r.tb=true then aE (aE d a r) a (gm r.m r.t r.b r.o)
 else if r.tb=true∨r.tp=true then L.B (aE d a r)
 else if r.tf=true then cy L (aE d a r) else aE d a r
noncomputable def iB (L:Lv) (d:CS) (a:Int) (r:VT):Bool:=(vR d && decide (0≤a∧a < d.U.length∧d.q.length≤80000∧r.e=0∧df r.m r.t r.b r.o=true∧r.w.length≤1)) &&
 ((!(r.tb || r.tp) || ((d.o && r.tb) || L.ok (aE d a r))) && (!r.tf || (eN L (aE d a r) && decide (d.q.length≤78000))))
theorem Pb {L:Lv} {d:CS} {a:Int} {r:VT} (h:iB L d a r=true):(0≤a∧a < d.U.length∧d.q.length≤80000∧d.U.length≤64∧df r.m r.t r.b r.o=true∧r.w.length≤1)∧aE d a r=gF (kr d a r.m r.t r.b r.o) (ri (d.U.getD a.toNat []) 0) r.w ∧
  (d.o=true→r.tb=true→gW L d a r=gF (kr (aE d a r) a (gm r.m r.t r.b r.o).m (gm r.m r.t r.b r.o).t (gm r.m r.t r.b r.o).b (gm r.m r.t r.b r.o).o) (ri (d.U.getD a.toNat []) 0) (gm r.m r.t r.b r.o).w∧(gm r.m r.t r.b r.o).w.length≤1) ∧
  ((d.o=false∨r.tb=false)→(r.tb=true∨r.tp=true)→L.ok (aE d a r)=true∧gW L d a r=L.B (aE d a r)) ∧
  (r.tb=false→r.tp=false→r.tf=true→FL L (aE d a r)=true∧gW L d a r=cy L (aE d a r)) ∧
  (r.tb=false→r.tp=false→r.tf=false→gW L d a r=aE d a r):=by
 unfold iB at h;simp only [Bool.and_eq_true,decide_eq_true_eq] at h;obtain⟨⟨h1,h2⟩,h3,h4⟩:=h;have v:=dA.1 h1;obtain⟨g0,g1,g2,g3,g4,g5⟩:=h2;have gd:ji r:=⟨g3,g4,g5⟩;have hl:=v.len;obtain⟨t1,t2,t3⟩:=cP v g0 g1 gd;have gp:=yD g4;refine⟨⟨g0,g1,g2,by omega,g4,g5⟩,(yS g3).symm,fun e1 e2=>?_,fun e1 e2=>?_,fun e1 e2 e3=>?_,fun e1 e2 e3=>?_⟩
 ·have e:ri (tie (aE d a r) a) 0=ri (d.U.getD a.toNat []) 0:=by
   rw [lX g3];unfold tie;simp only;rw [DK g0 g1];rfl
  have h6:=yS (d:=aE d a r) (a:=a) gp.1;rw [e] at h6;unfold gW;rw [if_pos ⟨e1,e2⟩];exact⟨h6.symm,gp.2.2⟩
 ·have e3:¬(d.o=true∧r.tb=true):=fun q=>by
   rcases e1 with e1|e1
   ·rw [e1] at q;cases q.1
   ·rw [e1] at q;cases q.2
  have e4:(r.tb || r.tp)=true:=by rw [Bool.or_eq_true];exact e2
  rw [e4] at h3;unfold gW;rw [if_neg e3,if_pos e2];refine⟨?_,rfl⟩;simp only [Bool.not_true,Bool.false_or,Bool.or_eq_true,Bool.and_eq_true] at h3;exact h3.resolve_left e3
 ·rw [e3] at h4;unfold gW;rw [if_neg (fun q=>by rw [e1] at q;cases q.2),if_neg (fun q=>by rw [e1,e2] at q;rcases q with q|q <;> cases q),if_pos e3];refine⟨?_,rfl⟩;simp only [Bool.not_true,Bool.false_or,Bool.and_eq_true,decide_eq_true_eq] at h4;unfold FL;rw [h4.1,dA.2 t1,decide_eq_true (show (aE d a r).q.length≤79000 by omega)];rfl
 ·unfold gW;rw [if_neg (fun q=>by rw [e1] at q;cases q.2),if_neg (fun q=>by rw [e1,e2] at q;rcases q with q|q <;> cases q),if_neg (by rw [e3];decide)]
theorem TD {n:List Int} {l:List E} (h:aX n l=true) (hl:l.length≤400):rQ (fz (ba l))=true∧fz (ba l)=ViL.gC n l∧JJ (fz (ba l))=gw (ViL.gC n l):=by
 have b:=ChT.pz h (show l.length≤512 by omega);have e:fz (ba l)=ViL.gC n l:=b.2.1.symm;rw [e];exact⟨ChA.VN h hl,rfl,(SpL.tO b.1).symm⟩
noncomputable def rm (L:Lv) (d:CS) (c:CH) (n:List Int) (l:List E):Bool:=qP L d c n l && (vR d && decide (d.o=false∧d.q.length≤79000∧n.length≤500∧l.length≤500∧(c.k=1∨c.k=2∨c.k=3)))
def vx (r:VT):VT:=⟨r.m,r.t,r.b,r.o,r.w,r.tb,r.tp,r.tf,0⟩
theorem Nw {r:VT} (h:r.e=0):vx r=r:=by
 unfold vx;rw [← h]
theorem ZT {L:Lv} {d:CS} {c:CH} {n:List Int} {l:List E} (h:rm L d c n l=true):Vd d∧d.U.length≤64∧d.q.length≤79000∧(bJ d.U d.p).length≤64∧-1≤bA d.U c.b∧bA d.U c.b < d.U.length ∧
  (c.k=1→mh L d c n l=⟨d.i,d.ee,d.er,d.t,d.p,d.U,d.w,d.gn,d.gl,4,n,l,d.l,d.o,d.q ++ (bJ d.U d.p).map fun p=>cB p ⟨3,d.ee,d.er,n,l,c.k,c.a,c.b,c.s⟩⟩) ∧
  (¬c.k=1→(c.k=2∨c.k=3)∧dH d c n l=⟨d.i,d.ee,d.er,d.t,d.p,d.U,d.w,d.gn,d.gl,3,d.tn,d.tl,d.l,d.o,d.q ++ (bJ d.U d.p).map fun p=>cB p ⟨3,d.ee,d.er,[],[],c.k,c.a,c.b,c.s⟩⟩) ∧
  (¬c.k=1→(¬c.a=d.i∨bA d.U c.b < 0∨¬ri (d.U.getD (bA d.U c.b).toNat []) 2=c.s)→mh L d c n l=dH d c n l) ∧
  (c.k=2→c.a=d.i→¬bA d.U c.b < 0→ri (d.U.getD (bA d.U c.b).toNat []) 2=c.s→iB L (dH d c n l) (bA d.U c.b) (vx (ki (ri (d.U.getD (bA d.U c.b).toNat []) 3) (rb (d.U.getD (bA d.U c.b).toNat []) 4) (rb (d.U.getD (bA d.U c.b).toNat []) 5) (ri (d.U.getD (bA d.U c.b).toNat []) 6)))=true∧mh L d c n l=gW L (dH d c n l) (bA d.U c.b) (vx (ki (ri (d.U.getD (bA d.U c.b).toNat []) 3) (rb (d.U.getD (bA d.U c.b).toNat []) 4) (rb (d.U.getD (bA d.U c.b).toNat []) 5) (ri (d.U.getD (bA d.U c.b).toNat []) 6)))∧df (ri (d.U.getD (bA d.U c.b).toNat []) 3) (rb (d.U.getD (bA d.U c.b).toNat []) 4) (rb (d.U.getD (bA d.U c.b).toNat []) 5) (ri (d.U.getD (bA d.U c.b).toNat []) 6)=true) ∧
  (c.k=3→c.a=d.i→¬bA d.U c.b < 0→ri (d.U.getD (bA d.U c.b).toNat []) 2=c.s→iB L (dH d c n l) (bA d.U c.b) (vx (gm (ri (d.U.getD (bA d.U c.b).toNat []) 3) (rb (d.U.getD (bA d.U c.b).toNat []) 4) (rb (d.U.getD (bA d.U c.b).toNat []) 5) (ri (d.U.getD (bA d.U c.b).toNat []) 6)))=true∧mh L d c n l=gW L (dH d c n l) (bA d.U c.b) (vx (gm (ri (d.U.getD (bA d.U c.b).toNat []) 3) (rb (d.U.getD (bA d.U c.b).toNat []) 4) (rb (d.U.getD (bA d.U c.b).toNat []) 5) (ri (d.U.getD (bA d.U c.b).toNat []) 6)))∧df (ri (d.U.getD (bA d.U c.b).toNat []) 3) (rb (d.U.getD (bA d.U c.b).toNat []) 4) (rb (d.U.getD (bA d.U c.b).toNat []) 5) (ri (d.U.getD (bA d.U c.b).toNat []) 6)=true):=by
 unfold rm at h;simp only [Bool.and_eq_true,decide_eq_true_eq] at h;obtain⟨h1,h2,ho,hq,hn,hl5,hk⟩:=h;have v:=dA.1 h2;have hl:=v.len;have hat:=jd d.U c.b;obtain⟨v1,q1,t1⟩:=tz v ho c (show n.length≤500 by omega) (show l.length≤500 by omega);have hc3:¬c.k=1→dH d c n l=⟨d.i,d.ee,d.er,d.t,d.p,d.U,d.w,d.gn,d.gl,3,d.tn,d.tl,d.l,d.o,d.q ++ (bJ d.U d.p).map fun p=>cB p ⟨3,d.ee,d.er,[],[],c.k,c.a,c.b,c.s⟩⟩:=fun e=>by
  unfold dH rM;rw [if_neg e,if_neg e,if_neg e];rfl
 have oc:(dH d c n l).o=false:=by
  unfold dH;split <;> exact ho
 have et:tie (dH d c n l) (bA d.U c.b)=d.U.getD (bA d.U c.b).toNat []:=by unfold tie;rw [t1]
 have own:ja d c=true→kK L (dH d c n l) c.k (bA d.U c.b)=true:=fun e=>by
  unfold qP at h1;rw [e] at h1;simpa using (Bool.and_eq_true_iff.1 h1).2
 have mine:¬c.k=1→c.a=d.i→¬bA d.U c.b < 0→ri (d.U.getD (bA d.U c.b).toNat []) 2=c.s→ja d c=true:=fun e1 e2 e3 e4=>decide_eq_true ⟨e1,e2,by omega,e4⟩;refine⟨v,hl,hq,(zX v _).2,hat.1,hat.2,fun e=>?_,fun e=>⟨by omega,hc3 e⟩,fun e1 e2=>?_,fun e1 e2 e3 e4=>?_,fun e1 e2 e3 e4=>?_⟩
 ·unfold mh;have:ja d c=false:=decide_eq_false fun q=>q.1 e;rw [this,if_neg (by decide)];unfold dH rM;rw [if_pos e,if_pos e,if_pos e];rfl
 ·unfold mh;have:ja d c=false:=decide_eq_false fun q=>by
   obtain⟨_,q2,q3,q4⟩:=q;rcases e2 with g|g|g
   ·exact g q2
   ·omega
   ·exact g q4
  rw [this,if_neg (by decide)]
 ·have m:=mine (by omega) e2 e3 e4;have o:=own m;have g0:0≤bA d.U c.b:=by omega
  have g1:bA d.U c.b < (dH d c n l).U.length:=by rw [t1];exact hat.2
  have hv:=(v1.t _ (bT g0 g1)).v;rw [et] at hv;have gd:=Kp hv;unfold kK at o;rw [et] at o;simp only [Bool.and_eq_true,Bool.or_eq_true,Bool.not_eq_true',decide_eq_false_iff_not] at o;have o2:=o.2.1.resolve_left fun q=>q e1;have ntp:(pE (d.U.getD (bA d.U c.b).toNat [])).tp=false∧(pE (d.U.getD (bA d.U c.b).toNat [])).tf=false:=by
   unfold pE ki v0 same
   repeat' split
   all_goals exact⟨rfl,rfl⟩
  have ex:=Nw gd.1;unfold pE at ex;rw [ex];refine⟨?_,?_,hv⟩
  ·show iB L _ _ (pE (d.U.getD (bA d.U c.b).toNat []))=true;unfold iB;rw [dA.2 v1,oc,ntp.1,ntp.2];simp only [Bool.true_and,Bool.and_eq_true,decide_eq_true_eq,Bool.or_false,Bool.false_and,Bool.false_or,Bool.or_eq_true,Bool.not_eq_true',Bool.not_false,Bool.true_or,and_true];exact⟨⟨g0,g1,by omega,gd⟩,o2⟩
  ·show _=gW L _ _ (pE (d.U.getD (bA d.U c.b).toNat []));unfold mh gW jh;rw [m,if_pos rfl,if_pos e1,et,oc,ntp.1,ntp.2];simp
 ·have m:=mine (by omega) e2 e3 e4;have o:=own m;have g0:0≤bA d.U c.b:=by omega
  have g1:bA d.U c.b < (dH d c n l).U.length:=by rw [t1];exact hat.2
  have hv:=(v1.t _ (bT g0 g1)).v;rw [et] at hv;have gd:=xP hv;unfold kK at o;rw [et] at o;simp only [Bool.and_eq_true,Bool.or_eq_true,Bool.not_eq_true',decide_eq_false_iff_not] at o;have o2:=o.2.2.resolve_left fun q=>q e1;have ntp:(kq (d.U.getD (bA d.U c.b).toNat [])).tb=false∧(kq (d.U.getD (bA d.U c.b).toNat [])).tf=false:=by
   unfold kq gm v0 same
   repeat' split
   all_goals exact⟨rfl,rfl⟩
  have ex:=Nw gd.1;unfold kq at ex;rw [ex];refine⟨?_,?_,hv⟩
  ·show iB L _ _ (kq (d.U.getD (bA d.U c.b).toNat []))=true;unfold iB;rw [dA.2 v1,oc,ntp.1,ntp.2];simp only [Bool.true_and,Bool.and_eq_true,decide_eq_true_eq,Bool.false_and,Bool.false_or,Bool.or_eq_true,Bool.not_eq_true',Bool.not_false,Bool.true_or,and_true];exact⟨⟨g0,g1,by omega,gd⟩,o2⟩
  ·show _=gW L _ _ (kq (d.U.getD (bA d.U c.b).toNat []));unfold mh gW jh;rw [m,if_pos rfl,if_neg (by omega),if_pos e1,et,oc,ntp.1,ntp.2];simp
theorem Zs {n:List Int} {l:List E} (h:jt n l=0):(ef n l).k=1∨(ef n l).k=2∨(ef n l).k=3:=by
 have:=of_decide_eq_true (ChT.ZB h);omega
theorem ES {L:Lv} {d:CS} (h:eN L d=true) (hv:vR d=true) (hq:d.q.length≤79000):Vd d∧d.U.length≤64∧d.gn.length≤64∧d.gl.length≤300∧(dx d.i d.U).length≤64∧aX d.gn d.gl=true ∧
  (¬d.ph=1→cy L d=d)∧(0 < d.w.length→cy L d=d)∧(qo d.U=true→cy L d=d) ∧
  (d.ph=1→¬0 < d.w.length→qo d.U=false→∀ n l,(oL [d.i] d.gn=true→n=[d.i]∧l=dx d.i d.U)→(oL [d.i] d.gn=false→n=Dv [d.i] d.gn∧l=Al [d.i] d.gn (dx d.i d.U) d.gl)→n.length≤65∧l.length≤364 ∧
   (¬d.p=0→cy L d=⟨d.i,d.ee,d.er,d.t,d.p,d.U,d.w,d.gn,d.gl,2,d.tn,d.tl,d.l,d.o,d.q ++ [cB d.p ⟨2,d.ee,d.er,n,l,0,0,0,0⟩]⟩) ∧
   (d.p=0→rQ (fz (ba l))=true∧(JJ (fz (ba l))=false→cy L d=⟨d.i,d.ee,d.er,d.t,d.p,d.U,d.w,d.gn,d.gl,3,d.tn,d.tl,d.l,d.o,d.q⟩)∧(JJ (fz (ba l))=true→ChA.JW n l=true∧cy L d=mh L d ⟨(ef n l).k,(ef n l).a,(ef n l).b,(ef n l).s⟩ n l∧rm L d ⟨(ef n l).k,(ef n l).a,(ef n l).b,(ef n l).s⟩ n l=true))):=by
 have v:=dA.1 hv;obtain⟨s1,s2,s3,s4,s5⟩:=YX v;have ss:=lz v;have hl:=v.len;have hol:(dx d.i d.U).length≤64:=by unfold dx;rw [List.length_map];exact hl
 have stop:∀ {b:Prop},(b→stops d=true)→b→cy L d=d:=fun f e=>by
  unfold cy;rw [if_pos (f e)]
 refine⟨v,hl,v.VQ,v.z.1,hol,v.g,stop fun e=>?_,stop fun e=>?_,stop fun e=>?_,fun e1 e2 e3 n l c1 c2=>?_⟩
 ·unfold stops;rw [decide_eq_false e];simp
 ·unfold stops;rw [decide_eq_true e];simp
 ·unfold stops;rw [e];simp
 have eo:d.o=false:=by
  cases g:d.o
  ·rfl
  ·have:=v.o g;omega
 have ns:¬stops d=true:=by
  unfold stops;rw [eo,decide_eq_true e1,decide_eq_false e2,e3];decide
 have en:n=cW d∧l=cT d:=by
  cases g:oL [d.i] d.gn
  ·rw [(s3 g).1,(s3 g).2];exact c2 g
  ·rw [(s2 g).1,(s2 g).2];exact c1 g
 obtain⟨rfl,rfl⟩:=en;obtain⟨b1,b2,b3⟩:=TD s4 (show (cT d).length≤400 by omega);refine⟨ss.1,ss.2,fun e4=>?_,fun e4=>⟨b1,fun e5=>?_,fun e5=>?_⟩⟩
 ·unfold cy;rw [if_neg ns,if_pos e4];rfl
 ·have:¬jt (cW d) (cT d)=0:=by
   unfold ChQ.jt;rw [if_pos s4,if_neg (by rw [← b3,e5];decide)];decide
  unfold cy;rw [if_neg ns,if_neg (fun q=>q e4),if_pos this]
 ·have c0:jt (cW d) (cT d)=0:=by
   unfold ChQ.jt;rw [if_pos s4,if_pos (by rw [← b3,e5])]
  have eS:cy L d=mh L d (ef (cW d) (cT d)) (cW d) (cT d):=by
   unfold cy;rw [if_neg ns,if_neg (fun q=>q e4),if_neg (fun q=>q c0)]
  refine⟨decide_eq_true ⟨s4,by rw [← b3,e5],by omega,by omega⟩,eS,?_⟩;unfold eN at h;have h2:=(Bool.and_eq_true_iff.1 h).2;simp only [Bool.or_eq_true,Bool.not_eq_true',decide_eq_false_iff_not] at h2;have h3:=((h2.resolve_left ns).resolve_left fun q=>q e4).resolve_left fun q=>q c0;unfold rm;rw [show (⟨(ef (cW d) (cT d)).k,(ef (cW d) (cT d)).a,(ef (cW d) (cT d)).b,(ef (cW d) (cT d)).s⟩:CH)=ef (cW d) (cT d) from rfl,h3,hv];simp only [Bool.true_and,decide_eq_true_eq];exact⟨eo,hq,by omega,by omega,Zs c0⟩
def Vx (d:CS) (e r p:Int) (q:List E):CS:=⟨d.i,e,r,dz d.t e,p,d.U,bJ d.U p,[],[],1,[],[],d.l,d.o,q⟩
theorem acB {d:CS} (h:Vd d) (ho:d.o=false) (e r p:Int) (q:List E):Vd (Vx d e r p q):=by
 have g:=zC h ho e r p;exact⟨g.i,g.t,g.s,g.g,g.c,g.o,g.w,g.z⟩
noncomputable def VU (L:Lv) (d:CS) (e r p:Int):Bool:=gG L d e r p && (vR d && decide (d.o=false∧d.q.length≤70000))
noncomputable def okB (L:Lv) (d:CS):Bool:=kY L d && (vR d && decide (d.q.length≤60000))
noncomputable def rup (L:Lv):Lv:=⟨gu L,okB L⟩
theorem DV {L:Lv} {d:CS} {e r p:Int} (h:VU L d e r p=true):Vd d∧d.o=false∧d.U.length≤64∧d.q.length≤70000∧(bJ d.U p).length≤64 ∧
  FL L (Ju (Vx d e r p (d.q ++ (bJ d.U p).map fun x=>cB x ⟨1,e,r,[],[],0,0,0,0⟩)))=true∧cy L (eR d e r p)=cy L (Ju (Vx d e r p (d.q ++ (bJ d.U p).map fun x=>cB x ⟨1,e,r,[],[],0,0,0,0⟩))):=by
 unfold VU at h;simp only [Bool.and_eq_true,decide_eq_true_eq] at h;obtain⟨h1,h2,ho,hq⟩:=h;have v:=dA.1 h2;have hl:=v.len;obtain⟨v1,q1,_,_⟩:=iU v ho e r p;refine⟨v,ho,hl,hq,(zX v p).2,?_,rfl⟩;show FL L (eR d e r p)=true;unfold FL;unfold gG at h1;rw [(Bool.and_eq_true_iff.1 h1).2,dA.2 v1,decide_eq_true (show (eR d e r p).q.length≤79000 by omega)];rfl
theorem Et {L:Lv} {d:CS} (h:okB L d=true):d.U.length≤64∧(d.o=true→gu L d=d) ∧
  (d.o=false→(zy (dz d.t d.ee) d.l d.i=0→VU L d (dz d.t d.ee+1) d.i 0=true∧gu L d=cy L (eR d (dz d.t d.ee+1) d.i 0))∧(¬zy (dz d.t d.ee) d.l d.i=0→(vR d && decide (d.q.length≤90000))=true∧gu L d=Qr (cD d d.U.length))):=by
 unfold okB at h;simp only [Bool.and_eq_true,decide_eq_true_eq] at h;obtain⟨h1,h2,hq⟩:=h;have v:=dA.1 h2;refine⟨v.len,fun e=>?_,fun e=>⟨fun f=>?_,fun f=>?_⟩⟩
 ·unfold gu;rw [if_pos e]
 ·unfold kY at h1;rw [e,decide_eq_true f] at h1;simp only [Bool.not_true,Bool.false_or,Bool.and_eq_true] at h1;unfold VU gu;rw [h1.2,h2,e,f];refine⟨?_,rfl⟩;simp only [Bool.true_and,decide_eq_true_eq];exact⟨trivial,by omega⟩
 ·unfold gu mj;rw [e,if_neg (by decide),if_neg f,if_neg (by decide),h2];refine⟨?_,rfl⟩;simp only [Bool.true_and,decide_eq_true_eq];omega
theorem UC {a b:Int} (h:a < b):dz a b=b:=if_pos h
theorem UE {a b:Int} (h:¬a < b):dz a b=a:=if_neg h
end Go.Proofs.YtelhldgdnlppfaaGreat.KrX
