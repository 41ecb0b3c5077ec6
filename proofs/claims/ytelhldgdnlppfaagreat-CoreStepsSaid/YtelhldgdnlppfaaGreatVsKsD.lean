/-
  what a core knows,begins,adopts,settles and does. No condition but size.
-/
import Derived.Test.YtelhldgdnlppfaaGreatVsKsU
import Derived.Test.YtelhldgdnlppfaaGreatVsW35
import Derived.Test.YtelhldgdnlppfaaGreatVsW27
set_option maxHeartbeats 4000000
set_option cbv.maxSteps 4000000
set_option maxRecDepth 100000
namespace Go.Proofs.YtelhldgdnlppfaaGreat.KsD
open Go Ry ViR VoR KsS KsC KsU KsT
open MgR (sF oT oO nY oo)
open ChQ (uO wa jt ef CH)
structure XO where
 i:Int
 o:List E
def owR (st:St):XO:=⟨bw st 13,mJ st 2 1⟩
def KN (i:Int) (l:List E) (y:XO):Prop:=0≤y.i∧y.i≤l.length∧y.o=dx i (l.take y.i.toNat)
def Qz (l:List E) (y:XO):Nat:=l.length - y.i.toNat
theorem rW (i:Int) (l:List E):KN i l ⟨0,[]⟩:=⟨Int.le_refl 0,Int.natCast_nonneg _,rfl⟩
theorem sx {n:Int} {l:List E} (hl:l.length≤1000000) {i:Int} {o:List E} (hq:KN n l ⟨i,o⟩) (h:i < l.length):aD .add .i64 i 1=i+1∧(∀ o',Qz l ⟨i+1,o'⟩ < Qz l ⟨i,o⟩)∧o.length≤1000000∧KN n l ⟨i+1,o ++ [JE n (l.getD i.toNat [])]⟩:=by
 obtain⟨h0,h1,h2⟩:=hq;simp only at h0 h1 h2;refine⟨by rw [aW,wr _ (by omega) (by omega)],fun o'=>by simp only [Qz];omega,?_,by simp only;omega,by simp only;omega,?_⟩
 ·rw [h2];unfold dx;rw [List.length_map,List.length_take];omega
 ·simp only;rw [lO l h0 h,h2];unfold dx;rw [List.map_append];rfl
theorem zE {n:Int} {l:List E} {i:Int} {o:List E} (hq:KN n l ⟨i,o⟩) (h:¬i < l.length):o=dx n l:=by
 obtain⟨h0,h1,h2⟩:=hq;simp only at h0 h1 h2;rw [h2,show i.toNat=l.length by omega,List.take_length]
def Ys (q0:List E) (l:List Int) (w:WK) (y:XQ):Prop:=0≤y.i∧y.i≤l.length∧y.q=q0 ++ (l.take y.i.toNat).map fun p=>cB p w
theorem xC (q0:List E) (l:List Int) (w:WK):Ys q0 l w ⟨0,q0⟩:=⟨Int.le_refl 0,Int.natCast_nonneg _,by simp⟩
theorem yJ {q0:List E} {l:List Int} {w:WK} (hw:l.length≤1000) (hq0:q0.length≤99000) {i:Int} {q:List E} (hq:Ys q0 l w ⟨i,q⟩) (h:i < l.length):aD .add .i64 i 1=i+1∧(∀ q',IK l ⟨i+1,q'⟩ < IK l ⟨i,q⟩)∧q.length≤100000∧Ys q0 l w ⟨i+1,q ++ [cB (l.getD i.toNat 0) w]⟩:=by
 obtain⟨h0,h1,h2⟩:=hq;simp only at h0 h1 h2;refine⟨by rw [aW,wr _ (by omega) (by omega)],fun o'=>by simp only [IK];omega,?_,⟨by simp only;omega,by simp only;omega,?_⟩⟩
 ·rw [h2,List.length_append,List.length_map,List.length_take];omega
 ·simp only;rw [la l h0 h,List.map_append,← List.append_assoc,← h2];rfl
theorem Dr {q0:List E} {l:List Int} {w:WK} {i:Int} {q:List E} (hq:Ys q0 l w ⟨i,q⟩) (h:¬i < l.length):q=q0 ++ l.map fun p=>cB p w:=by
 obtain⟨h0,h1,h2⟩:=hq;simp only at h0 h1 h2;rw [h2,show i.toNat=l.length by omega,List.take_length]
structure XV where
 i:Int
 w:List Int
 q:List E
def abu (st:St) (n j:Nat):List Int :=
 match ar st.heap n with
 |some (.cells _ cs)=>(match cs[j]? with
  |some (.sl _ (.ints _ l))=>l
  |_=>[])
 |_=>[]
def wvR (k n:Nat) (st:St):XV:=⟨bw st k,abu st n 6,mJ st n 14⟩
def wvQ (q0:List E) (l:List Int) (w:WK) (y:XV):Prop:=Ys q0 l w ⟨y.i,y.q⟩∧y.w=l.take y.i.toNat
def wvM (l:List Int) (y:XV):Nat:=l.length - y.i.toNat
theorem Th (q0:List E) (l:List Int) (w:WK):wvQ q0 l w ⟨0,[],q0⟩:=⟨xC q0 l w,rfl⟩
theorem QL {q0:List E} {l:List Int} {w:WK} (hw:l.length≤1000) (hq0:q0.length≤99000) {i:Int} {p:List Int} {q:List E} (hq:wvQ q0 l w ⟨i,p,q⟩) (h:i < l.length):aD .add .i64 i 1=i+1∧(∀ p' q',wvM l ⟨i+1,p',q'⟩ < wvM l ⟨i,p,q⟩)∧q.length≤100000∧p.length≤1000∧wvQ q0 l w ⟨i+1,p ++ [l.getD i.toNat 0],q ++ [cB (l.getD i.toNat 0) w]⟩:=by
 obtain⟨h1,h2⟩:=hq;have h0:=h1.1;simp only at h0 h2;obtain⟨a,b,c,d⟩:=yJ hw hq0 h1 h;refine⟨a,fun p' q'=>by simp only [wvM];omega,c,?_,d,?_⟩
 ·rw [h2,List.length_take];omega
 ·simp only;rw [la l h0 h,h2]
theorem Xf {q0:List E} {l:List Int} {w:WK} {i:Int} {p:List Int} {q:List E} (hq:wvQ q0 l w ⟨i,p,q⟩) (h:¬i < l.length):p=l∧q=q0 ++ l.map fun p=>cB p w:=by
 obtain⟨h1,h2⟩:=hq;have h0:=h1.1;have h3:=h1.2.1;simp only at h0 h2 h3;refine⟨?_,Dr h1 h⟩;rw [h2,show i.toNat=l.length by omega,List.take_length]
structure XT where
 i:Int
 t:List E
 q:List E
def afs (st:St) (n:Nat):List E :=
 match ar st.heap n with
 |some (.row _ (.ae _ l))=>l
 |_=>[]
def vtR (k n r:Nat) (st:St):XT:=⟨bw st k,afs st r,mJ st n 14⟩
def dD (d:CS) (t q:List E):CS:=⟨d.i,d.ee,d.er,d.t,d.p,t,d.w,d.gn,d.gl,d.ph,d.tn,d.tl,d.l,d.o,q⟩
theorem zx (d:CS) (a:Int) (r:VT):aE d a r=dD d (aE d a r).U (aE d a r).q:=by
 unfold aE dD;split <;> rfl
def vtQ (F:CS→Nat→CS) (d:CS) (y:XT):Prop:=0≤y.i∧y.i≤d.U.length∧y.t.length=d.U.length∧y.q.length≤d.q.length+y.i.toNat∧F d y.i.toNat=dD d y.t y.q
def vtM (d:CS) (y:XT):Nat:=d.U.length - y.i.toNat
theorem GU (d:CS) (a:Int) (r:VT) (h:r.w.length≤1):(aE d a r).U.length=d.U.length∧(aE d a r).q.length≤d.q.length+1:=by
 unfold aE;split
 ·refine⟨List.length_set,?_⟩;simp only [List.length_append,List.length_map];omega
 ·exact⟨rfl,Nat.le_succ _⟩
theorem FK {F:CS→Nat→CS} {r:CS→Int→VT} (hF:∀ d (n:Nat),F d (n+1)=aE (F d n) (n:Int) (r (F d n) (n:Int))) (hr:∀ d a,(r d a).w.length≤1) {d:CS} (hl:d.U.length≤1000) {i:Int} {t q:List E} (hq:vtQ F d ⟨i,t,q⟩) (h:i < d.U.length):aD .add .i64 i 1=i+1∧0≤i∧(∀ t' q',vtM d ⟨i+1,t',q'⟩ < vtM d ⟨i,t,q⟩)∧i < t.length∧t.length≤1000∧q.length≤d.q.length+1000∧vtQ F d ⟨i+1,(aE (dD d t q) i (r (dD d t q) i)).U,(aE (dD d t q) i (r (dD d t q) i)).q⟩:=by
 obtain⟨h0,h1,h2,h3,h4⟩:=hq;simp only at h0 h1 h2 h3 h4;have e:((i.toNat:Nat):Int)=i:=Int.toNat_of_nonneg h0;obtain⟨g1,g2⟩:=GU (dD d t q) i (r (dD d t q) i) (hr _ _);refine⟨by rw [aW,wr _ (by omega) (by omega)],h0,fun t' q'=>by simp only [vtM];omega,by omega,by omega,by omega,by simp only;omega,by simp only;omega,?_,?_,?_⟩
 ·simp only;rw [g1];exact h2
 ·simp only;have g2:(aE (dD d t q) i (r (dD d t q) i)).q.length≤q.length+1:=g2;omega
 ·simp only;rw [show (i+1).toNat=i.toNat+1 by omega,hF,h4,e,zx (dD d t q) i];rfl
theorem Gg (F:CS→Nat→CS) (hF:∀ d,F d 0=d) (d:CS):vtQ F d ⟨0,d.U,d.q⟩:=⟨Int.le_refl 0,Int.natCast_nonneg _,rfl,Nat.le_refl _,hF d⟩
theorem Ny {F:CS→Nat→CS} {d:CS} {i:Int} {t q:List E} (hq:vtQ F d ⟨i,t,q⟩) (h:¬i < d.U.length):F d d.U.length=dD d t q:=by
 obtain⟨h0,h1,h2,h3,h4⟩:=hq;simp only at h0 h1 h2 h3 h4;rw [← h4,show i.toNat=d.U.length by omega]
def enR (d:CS) (a:Int):VT:=if rb (tie d a) 5=true then kq (tie d a) else zg (tie d a)
theorem YE (d:CS) (a:Int):(zg (tie d a)).w.length≤1:=(kQ _ _ _ _ 0).2.1
theorem YF (d:CS) (a:Int):(enR d a).w.length≤1:=by
 unfold enR;split
 ·exact (kQ _ _ _ _ 0).2.2.1
 ·exact (kQ _ _ _ _ 0).2.1
theorem Zt {L:Lv} {d:CS} {k a:Int} (h:kK L d k a=true):(0≤a∧a < d.U.length∧d.U.length≤1000∧d.q.length≤99000) ∧
  (k=2→(pE (tie d a)).tb=true→L.ok (aE d a (pE (tie d a)))=true∧jh L d k a=L.B (aE d a (pE (tie d a))))∧(k=2→(pE (tie d a)).tb=false→jh L d k a=aE d a (pE (tie d a))) ∧
  (k=3→(kq (tie d a)).tp=true→L.ok (aE d a (kq (tie d a)))=true∧jh L d k a=L.B (aE d a (kq (tie d a))))∧(k=3→(kq (tie d a)).tp=false→jh L d k a=aE d a (kq (tie d a)))∧(¬k=2→¬k=3→jh L d k a=d):=by
 unfold kK szI at h;simp only [Bool.and_eq_true,Bool.or_eq_true,Bool.not_eq_true',decide_eq_true_eq,decide_eq_false_iff_not] at h;obtain⟨h1,h2,h3⟩:=h;unfold jh;refine⟨h1,fun e g=>?_,fun e g=>?_,fun e g=>?_,fun e g=>?_,fun e g=>?_⟩
 ·rw [if_pos e,if_pos g];exact⟨(h2.resolve_left fun q=>q e).resolve_left fun q=>(by rw [g] at q;cases q),rfl⟩
 ·rw [if_pos e,if_neg (by rw [g];decide)]
 ·rw [if_neg (by omega),if_pos e,if_pos g];exact⟨(h3.resolve_left fun q=>q e).resolve_left fun q=>(by rw [g] at q;cases q),rfl⟩
 ·rw [if_neg (by omega),if_pos e,if_neg (by rw [g];decide)]
 ·rw [if_neg e,if_neg g]
theorem acM {d:CS} {c:CH} {v:List Int} {l:List E} (h:c.k=1):dH d c v l=⟨d.i,d.ee,d.er,d.t,d.p,d.U,d.w,d.gn,d.gl,4,v,l,d.l,d.o,d.q ++ (bJ d.U d.p).map fun p=>cB p ⟨3,d.ee,d.er,v,l,c.k,c.a,c.b,c.s⟩⟩:=by
 unfold dH rM ed;rw [if_pos h,if_pos h,if_pos h]
theorem adh {d:CS} {c:CH} {v:List Int} {l:List E} (h:¬c.k=1):dH d c v l=⟨d.i,d.ee,d.er,d.t,d.p,d.U,d.w,d.gn,d.gl,3,d.tn,d.tl,d.l,d.o,d.q ++ (bJ d.U d.p).map fun p=>cB p ⟨3,d.ee,d.er,[],[],c.k,c.a,c.b,c.s⟩⟩:=by
 unfold dH rM ed;rw [if_neg h,if_neg h,if_neg h]
theorem abX {L:Lv} {d:CS} {c:CH} {v:List Int} {l:List E} (h:qP L d c v l=true):(d.U.length≤500∧d.q.length≤90000∧v.length≤1000∧l.length≤1000) ∧
  (c.k=1→mh L d c v l=dH d c v l)∧(¬c.k=1→c.a=d.i→0≤bA d.U c.b→ri (d.U.getD (bA d.U c.b).toNat []) 2=c.s→kK L (dH d c v l) c.k (bA d.U c.b)=true∧mh L d c v l=jh L (dH d c v l) c.k (bA d.U c.b)) ∧
  (¬c.a=d.i→mh L d c v l=dH d c v l)∧(bA d.U c.b < 0→mh L d c v l=dH d c v l)∧(¬ri (d.U.getD (bA d.U c.b).toNat []) 2=c.s→mh L d c v l=dH d c v l):=by
 unfold qP at h;rw [Bool.and_eq_true,decide_eq_true_eq,Bool.or_eq_true,Bool.not_eq_true'] at h;obtain⟨h1,h2⟩:=h;unfold mh;refine⟨h1,fun e=>?_,fun e1 e2 e3 e4=>?_,fun e=>?_,fun e=>?_,fun e=>?_⟩
 ·rw [if_neg];unfold ja;rw [decide_eq_true_eq];exact fun q=>q.1 e
 ·have hm:ja d c=true:=decide_eq_true ⟨e1,e2,e3,e4⟩;rw [if_pos hm];exact⟨h2.resolve_left fun q=>(by rw [hm] at q;cases q),rfl⟩
 ·rw [if_neg];unfold ja;rw [decide_eq_true_eq];exact fun q=>e q.2.1
 ·rw [if_neg];unfold ja;rw [decide_eq_true_eq];exact fun q=>by omega
 ·rw [if_neg];unfold ja;rw [decide_eq_true_eq];exact fun q=>e q.2.2.2
theorem ES {L:Lv} {d:CS} (h:eN L d=true):(d.U.length≤400∧d.q.length≤89000∧d.gn.length≤500∧d.gl.length≤500)∧((cW d).length≤501∧(cT d).length≤900)∧(stops d=true→cy L d=d) ∧
  (stops d=false→¬d.p=0→cy L d=⟨d.i,d.ee,d.er,d.t,d.p,d.U,d.w,d.gn,d.gl,2,d.tn,d.tl,d.l,d.o,d.q ++ [cB d.p ⟨2,d.ee,d.er,cW d,cT d,0,0,0,0⟩]⟩) ∧
  (stops d=false→d.p=0→¬jt (cW d) (cT d)=0→cy L d=⟨d.i,d.ee,d.er,d.t,d.p,d.U,d.w,d.gn,d.gl,3,d.tn,d.tl,d.l,d.o,d.q⟩) ∧
  (stops d=false→d.p=0→jt (cW d) (cT d)=0→qP L d (ef (cW d) (cT d)) (cW d) (cT d)=true∧cy L d=mh L d (ef (cW d) (cT d)) (cW d) (cT d)):=by
 unfold eN szD at h;simp only [Bool.and_eq_true,Bool.or_eq_true,Bool.not_eq_true',decide_eq_true_eq,decide_eq_false_iff_not] at h;obtain⟨h1,h2⟩:=h;have hl:=IB d;unfold cy;refine⟨h1,by omega,fun e=>if_pos e,fun e1 e2=>?_,fun e1 e2 e3=>?_,fun e1 e2 e3=>?_⟩
 ·rw [if_neg (by rw [e1];decide),if_pos e2];rfl
 ·rw [if_neg (by rw [e1];decide),if_neg (fun q=>q e2),if_pos e3]
 ·rw [if_neg (by rw [e1];decide),if_neg (fun q=>q e2),if_neg (fun q=>q e3)];refine⟨?_,rfl⟩;rcases h2 with h2|h2|h2|h2
  ·rw [e1] at h2;cases h2
  ·exact absurd e2 h2
  ·exact absurd e3 h2
  ·exact h2
theorem TR (d:CS):(d.o=true→stops d=true)∧(¬d.ph=1→stops d=true)∧(0 < d.w.length→stops d=true)∧(qo d.U=true→stops d=true)∧(d.o=false→d.ph=1→¬0 < d.w.length→qo d.U=false→stops d=false):=by
 unfold stops;refine⟨fun h=>by rw [h];rfl,fun h=>by simp [h],fun h=>by simp [h],fun h=>by simp [h],fun h1 h2 h3 h4=>by
  have h5:d.w=[]:=List.eq_nil_of_length_eq_zero (by omega);simp [h1,h2,h4,h5]⟩
theorem acu (d:CS) (h:oo [d.i] (dx d.i d.U) d.gn d.gl=0):cW d=oO [d.i] (dx d.i d.U) d.gn d.gl∧cT d=nY [d.i] (dx d.i d.U) d.gn d.gl:=⟨if_pos h,if_pos h⟩
theorem adZ (d:CS) (h:¬oo [d.i] (dx d.i d.U) d.gn d.gl=0):cW d=[d.i]∧cT d=dx d.i d.U:=⟨if_neg h,if_neg h⟩
theorem Ro (i:Int) (l:List E):(dx i l).length=l.length:=List.length_map _
theorem Et {L:Lv} {d:CS} (h:kY L d=true):(d.U.length≤400∧d.q.length≤80000)∧(d.o=true→gu L d=d)∧(d.o=false→¬zy (dz d.t d.ee) d.l d.i=0→gu L d=mj d)∧(d.o=false→zy (dz d.t d.ee) d.l d.i=0→gG L d (dz d.t d.ee+1) d.i 0=true∧gu L d=cy L (eR d (dz d.t d.ee+1) d.i 0)):=by
 unfold kY nZ at h;simp only [Bool.and_eq_true,Bool.or_eq_true,Bool.not_eq_true',decide_eq_true_eq,decide_eq_false_iff_not] at h;obtain⟨h1,h2⟩:=h;unfold gu;refine⟨h1,fun e=>if_pos e,fun e1 e2=>?_,fun e1 e2=>?_⟩
 ·rw [if_neg (by rw [e1];decide),if_neg e2]
 ·rw [if_neg (by rw [e1];decide),if_pos e2];refine⟨?_,rfl⟩;rcases h2 with h2|h2|h2
  ·rw [e1] at h2;cases h2
  ·exact absurd e2 h2
  ·exact h2
theorem DV {L:Lv} {d:CS} {e r p:Int} (h:gG L d e r p=true):(d.U.length≤400∧d.q.length≤80000)∧eN L (eR d e r p)=true:=by
 unfold gG at h;rw [Bool.and_eq_true,decide_eq_true_eq] at h;exact h
theorem end_1 {d:CS} (h:d.o=true):mj d=d:=if_pos h
theorem acI {d:CS} (h:d.o=false) {t q:List E} (e:cD d d.U.length=dD d t q):mj d=⟨d.i,0,0,d.t,0,t,[],[],[],0,[],[],d.l,true,q⟩:=by
 unfold mj;rw [if_neg (by rw [h];decide),e];rfl
theorem nt (d:CS) (a:Int) (r:VT):(aE d a r).U.length=d.U.length:=by
 unfold aE;split
 ·exact List.length_set
 ·rfl
structure Kd where
 Wl:Int→List E→List E
 aeG:List E→Bool
 abL:CS→Int→Int→Bool
 afc:CS→Int→Int→CS
 aca:CS→CH→List Int→List E→Bool
 afC:CS→CH→List Int→List E→CS
 aaV:CS→Bool
 abN:CS→CS
 aaN:CS→Int→Int→Int→Bool
 aev:CS→Int→Int→Int→CS
 acy:CS→Bool
 adP:CS→CS
 adQ:CS→Bool
 Yb:CS→CS
 aeo:CS→Bool
 adm:CS→CS
def db (L:Lv):Kd:=⟨dx,fun l=>decide (l.length≤1000),kK L,jh L,qP L,mh L,eN L,cy L,gG L,fun d e r p=>cy L (eR d e r p),L.ok,L.B,kY L,gu L,nZ,mj⟩
variable {V:Lv}
noncomputable def bX (F:Kd):aO:=fun xs h=>match xs with
 |[.one (.ptr 0 0)]=>(match wg h with
  |some s=>some ⟨F.acy s=true,.cN [],(vK (F.adP s)),[.one (.ptr 0 0)]⟩
  |none=>none)
 |_=>none
theorem bV {l:List (Nat × aO)} {fn:Func} {args:List SA} {h:H} {p:qK} (hd:∀ (b:Bs) (gv:List Value) (Z:(Ex→St→Prop)→Ex→St→Prop) (_:∀ K,Z K=K) (A:Ar) (_:Ar.aa=A) (L:Code→St→(Ex→St→Prop)→Prop) (_:Lp Tryz.prog b gv=L),Cd A (zY l) L (qC fn) (Ry.start fn.ntmps args h) (Z fun e s'=>Mj A (zY l) fn.results.toList p e s')):ID l fn args h p:=fun b gv=>@sj _ _ _ _ _ _ _ (af rfl) _ _ (fun _=>rfl) rfl (hd b gv id (fun _=>rfl) _ rfl _ rfl)
noncomputable def Cp (F:Kd):aO:=fun xs h=>match xs,h with
 |[.agg [.val (.int .i64 c_i),.val (.int .i64 _),.val (.int .i64 _),.val (.int .i64 _),.val (.int .i64 _),.sl none (.ae (.int .i64 (.int .i64 (.int .i64 (.int .i64 (.bool (.bool (.int .i64 .nil))))))) c_ties),.sl none (.ints .i64 _),.sl none (.ints .i64 _),.sl none (.ae (.int .i64 (.int .i64 (.int .i64 (.int .i64 (.bool .nil))))) _),.val (.int .i64 _),.sl none (.ints .i64 _),.sl none (.ae (.int .i64 (.int .i64 (.int .i64 (.int .i64 (.bool .nil))))) _),.val (.int .i64 _),.val (.bool _)]],[]=>some ⟨F.aeG c_ties=true,.sa (.agg [.sl none (.ints .i64 [c_i]),.sl none (.ae .bg (F.Wl c_i c_ties))]),[],[Any]⟩
 |_,_=>none
theorem xv:au Tryz.prog 17 (Cp (db V)):=by
 have hfs:=ak.nil;refine aw hfs Tryz.func17 rfl rfl fun xs h p hp=>?_;unfold Cp at hp;split at hp
 ·rename_i c_i c_ee c_er c_t c_p c_ties c_w c_gn c_gl c_ph c_tn c_tl c_l c_o;cases hp;refine⟨av rfl,fun hC _=>?_⟩;dsimp only at hC;refine @bV _ _ _ _ _ ?_;intro b gv Z zq A hA L hL;have hk:c_ties.length≤1000:=of_decide_eq_true hC;have hk6:c_ties.length≤1000000:=by omega
  generalize hF:(db V)=F,hG0:VoR.Fs.aa=G0,hG1:KsC.Kc.aa=G1,hG2:KsU.Ku.aa=G2,hG3:MgR.Mg.aa=G3,hG4:ChQ.Cq.aa=G4 at hC hfs ⊢
  repeat' (first|(apply al zq;try dsimp only)|apply aS zq (af hL)|apply aq zq|refine aT rfl ?_|apply ai|refine ah rfl ?_|refine aR rfl ?_|exact aA|apply aB|refine aP fun _=>?_|refine aQ fun _=>?_|(constructor;cbv))
  subst hL;refine aJ (aN hfs) (KN c_i c_ties) (fun y=>br Tryz.f17.ntmps [(1,.ptr 4 0),(2,.ptr 3 0),(3,.ptr 2 0),(11,.sl none (.ae .eC c_ties)),(12,.ay (A.dN c_ties)),(13,.ay y.i)] [(2,.cells 29 [.sl none (.ints .i64 [c_i]),.sl (some (5,94)) (.ae .bg y.o)]),(3,.cells 29 [.any,.any]),(4,.cells 31 [.ay c_i,.ay c_ee,.ay c_er,.ay c_t,.ay c_p,.sl none (.ae .eC c_ties),.sl none (.ints .i64 c_w),.sl none (.ints .i64 c_gn),.sl none (.ae .bg c_gl),.ay c_ph,.sl none (.ints .i64 c_tn),.sl none (.ae .bg c_tl),.ay c_l,.bK c_o]),(5,.tok)] [Any]) (Qz c_ties) owR ⟨0,[]⟩ ?_ ?_ ?_
  ·exact rW _ _
  ·cbv
   repeat' (first|exact trivial|exact rfl|refine And.intro ?_ ?_)
  rintro⟨i,o⟩ hq O hO;have hst:=fun h=>sx hk6 hq h;have hen:=fun h=>zE hq h;have q0:=hq.1;have q1:=hq.2.1;dsimp only at q0 q1;subst hA;generalize hA:Ar.aa=A;generalize hL:Lp _ _ _=L;refine az zq ?_
  repeat' (first|(apply al zq;try dsimp only)|apply aS zq (af hL)|apply aq zq|refine aT rfl ?_|apply ai|refine ah rfl ?_|refine aR rfl ?_|exact aA|apply aB|refine aP fun _=>?_|refine aQ fun _=>?_|(constructor;cbv))
  all_goals first|(show L _ _ _;skip)|(clear hL zq Z hq;subst hA hF hG0 hG1 hG2 hG3 hG4 hO;simp only [db,Ar.aa] at * <;> (try simp only [JE] at *) <;> grind [aj,qa,nZ,pZ];done)
 ·cases hp
noncomputable def GR (F:Kd):aO:=fun xs h=>match xs,h with
 |[.agg [.val (.int .i64 c_i),.val (.int .i64 _),.val (.int .i64 _),.val (.int .i64 _),.val (.int .i64 _),.own 0,.sl none (.ints .i64 _),.sl none (.ints .i64 _),.sl none (.ae (.int .i64 (.int .i64 (.int .i64 (.int .i64 (.bool .nil))))) _),.val (.int .i64 _),.sl none (.ints .i64 _),.sl none (.ae (.int .i64 (.int .i64 (.int .i64 (.int .i64 (.bool .nil))))) _),.val (.int .i64 _),.val (.bool _)]],[(0,.row 58 (.ae (.int .i64 (.int .i64 (.int .i64 (.int .i64 (.bool (.bool (.int .i64 .nil))))))) c_ties))]=>some ⟨F.aeG c_ties=true,.sa (.agg [.sl none (.ints .i64 [c_i]),.sl none (.ae .bg (F.Wl c_i c_ties))]),[(0,.row 58 (.ae .eC c_ties))],[Any,.one (.own 0)]⟩
 |_,_=>none
theorem YJ:au Tryz.prog 17 (GR (db V)):=by
 have hfs:=ak.nil;refine aw hfs Tryz.func17 rfl rfl fun xs h p hp=>?_;unfold GR at hp;split at hp
 ·rename_i c_i c_ee c_er c_t c_p c_w c_gn c_gl c_ph c_tn c_tl c_l c_o c_ties;cases hp;refine⟨av rfl,fun hC _=>?_⟩;dsimp only at hC;refine @bV _ _ _ _ _ ?_;intro b gv Z zq A hA L hL;have hk:c_ties.length≤1000:=of_decide_eq_true hC;have hk6:c_ties.length≤1000000:=by omega
  generalize hF:(db V)=F,hG0:VoR.Fs.aa=G0,hG1:KsC.Kc.aa=G1,hG2:KsU.Ku.aa=G2,hG3:MgR.Mg.aa=G3,hG4:ChQ.Cq.aa=G4 at hC hfs ⊢
  repeat' (first|(apply al zq;try dsimp only)|apply aS zq (af hL)|apply aq zq|refine aT rfl ?_|apply ai|refine ah rfl ?_|refine aR rfl ?_|exact aA|apply aB|refine aP fun _=>?_|refine aQ fun _=>?_|(constructor;cbv))
  subst hL;refine aJ (aN hfs) (KN c_i c_ties) (fun y=>br Tryz.f17.ntmps [(1,.ptr 4 0),(2,.ptr 3 0),(3,.ptr 2 0),(11,.own 0),(12,.ay (A.dN c_ties)),(13,.ay y.i)] [(0,.row 58 (.ae .eC c_ties)),(2,.cells 29 [.sl none (.ints .i64 [c_i]),.sl (some (5,94)) (.ae .bg y.o)]),(3,.cells 29 [.any,.any]),(4,.cells 31 [.ay c_i,.ay c_ee,.ay c_er,.ay c_t,.ay c_p,.own 0,.sl none (.ints .i64 c_w),.sl none (.ints .i64 c_gn),.sl none (.ae .bg c_gl),.ay c_ph,.sl none (.ints .i64 c_tn),.sl none (.ae .bg c_tl),.ay c_l,.bK c_o]),(5,.tok)] [Any,.one (.own 0)]) (Qz c_ties) owR ⟨0,[]⟩ ?_ ?_ ?_
  ·exact rW _ _
  ·cbv
   repeat' (first|exact trivial|exact rfl|refine And.intro ?_ ?_)
  rintro⟨i,o⟩ hq O hO;have hst:=fun h=>sx hk6 hq h;have hen:=fun h=>zE hq h;have q0:=hq.1;have q1:=hq.2.1;dsimp only at q0 q1;subst hA;generalize hA:Ar.aa=A;generalize hL:Lp _ _ _=L;refine az zq ?_
  repeat' (first|(apply al zq;try dsimp only)|apply aS zq (af hL)|apply aq zq|refine aT rfl ?_|apply ai|refine ah rfl ?_|refine aR rfl ?_|exact aA|apply aB|refine aP fun _=>?_|refine aQ fun _=>?_|(constructor;cbv))
  all_goals first|(show L _ _ _;skip)|(clear hL zq Z hq;subst hA hF hG0 hG1 hG2 hG3 hG4 hO;simp only [db,Ar.aa] at * <;> (try simp only [JE] at *) <;> grind [aj,qa,nZ,pZ];done)
 ·cases hp
theorem WZ:jg (GR (db V)):=by
 intro xs h p hp;unfold GR at hp;split at hp
 ·cases hp;rfl
 ·cases hp
noncomputable def Po (F:Ku):aO:=uJ (yO F) (oh F)
theorem JO:au Tryz.prog 74 (Po KsU.Ku.aa):=AA ND uF
noncomputable def Mb (F:Ku):aO:=uJ (oh F) (yC F)
theorem Ky:au Tryz.prog 74 (Mb KsU.Ku.aa):=AA uF Bv
noncomputable def Ha (F:Kd):aO:=fun xs h=>match xs with
 |[.one (.ptr 0 0),.one (.val (.int .i64 k)),.one (.val (.int .i64 a))]=>(match wg h with
  |some s=>some ⟨F.abL s k a=true,.cN [],(vK (F.afc s k a)),[.one (.ptr 0 0),Any,Any]⟩
  |none=>none)
 |_=>none
theorem Lr (hb:au Tryz.prog 33 (bX (db V))):au Tryz.prog 115 (Ha (db V)):=by
 have hfs:=(ak.cons JO (ak.cons hb ak.nil rfl) rfl);refine aw hfs Tryz.func115 rfl rfl fun xs h p hp=>?_;unfold Ha at hp;split at hp
 ·rename_i k a;split at hp
  ·rename_i s e0;cases hp;have g0:=da e0;subst g0;refine⟨av rfl,fun hC _=>?_⟩;dsimp only at hC;refine @bV _ _ _ _ _ ?_;intro b gv Z zq A hA L hL;have hgo:=Zt (show kK V s k a=true from hC);generalize hF:(db V)=F,hG0:VoR.Fs.aa=G0,hG1:KsC.Kc.aa=G1,hG2:KsU.Ku.aa=G2,hG3:MgR.Mg.aa=G3,hG4:ChQ.Cq.aa=G4 at hC hfs ⊢
   repeat' (first|(apply al zq;try dsimp only)|apply aS zq (af hL)|apply aq zq|refine aT rfl ?_|apply ai|refine ah rfl ?_|refine aR rfl ?_|exact aA|apply aB|refine aP fun _=>?_|refine aQ fun _=>?_|(constructor;cbv))
   all_goals first|(show L _ _ _;skip)|(clear hL hfs zq Z;subst hA hF hG0 hG1 hG2 hG3 hG4;simp only [db,VoR.Fs.aa,KsU.Ku.aa,Ar.aa,dY] at * <;> (try simp only [vX,mL,mT,vM,vJ,vB,mD,mI,mR,mG,mN,vD,vA] at *) <;> first|(have hsl:=nt s a (pE (tie s a));generalize aE s a (pE (tie s a))=Y at hsl ⊢;rcases Y with ⟨_,_,_,_,_,y6,_,_,_,_,_,_,_,_,_⟩;rcases s with ⟨_,_,_,_,_,s6,_,_,_,_,_,_,_,_,_⟩;cases y6 <;> cases s6 <;> first|exact congrArg Int.ofNat hsl|(exfalso;simp at hsl;done))|(have hsl:=nt s a (kq (tie s a));generalize aE s a (kq (tie s a))=Y at hsl ⊢;rcases Y with ⟨_,_,_,_,_,y6,_,_,_,_,_,_,_,_,_⟩;rcases s with ⟨_,_,_,_,_,s6,_,_,_,_,_,_,_,_,_⟩;cases y6 <;> cases s6 <;> first|exact congrArg Int.ofNat hsl|(exfalso;simp at hsl;done))|grind [aj,qa,nZ,pZ,vX,mL,mT,vM,vJ,vB,mD,mI,mR,mG,mN,vD,vA];done)
  ·cases hp
 ·cases hp
theorem Oo (c:CH):(⟨c.k,c.a,c.b,c.s⟩:CH)=c:=rfl
theorem HZ (a b:Int):(if aj .gtr b a=true then b else a)=dz a b:=by
 unfold dz;simp only [aj,decide_eq_true_eq,gt_iff_lt]
theorem aeg {d:CS} {a:Int} (h:rb (d.U.getD a.toNat []) 5=true):enR d a=kq (tie d a):=if_pos h
theorem acK {d:CS} {a:Int} (h:rb (d.U.getD a.toNat []) 5=false):enR d a=zg (tie d a):=if_neg (by unfold tie;rw [h];decide)
noncomputable def adj (F:Kd):aO:=fun xs h=>match xs with
 |[.one (.ptr 0 0),.agg [.val (.int .i64 c_k),.val (.int .i64 c_a),.val (.int .i64 c_b),.val (.int .i64 c_s)],.agg [.sl none (.ints .i64 v_n),.sl none (.ae (.int .i64 (.int .i64 (.int .i64 (.int .i64 (.bool .nil))))) v_l)]]=>(match wg h with
  |some s=>some ⟨F.aca s ⟨c_k,c_a,c_b,c_s⟩ v_n v_l=true,.cN [],(vK (F.afC s ⟨c_k,c_a,c_b,c_s⟩ v_n v_l)),[.one (.ptr 0 0),Any,Any]⟩
  |none=>none)
 |_=>none
theorem UR (hb:au Tryz.prog 33 (bX (db V))):au Tryz.prog 73 (adj (db V)):=by
 have hfs:=(ak.keeps RZ SO (ak.cons (bI [[none],[none],[none,none,none,some (.ints .i64 []),some (.ae .bg []),none,none,none,none]] hN) (ak.cons Ft (ak.keeps Dp DD (ak.cons (Lr hb) ak.nil rfl)) rfl) rfl));refine aw hfs Tryz.func73 rfl rfl fun xs h p hp=>?_;unfold adj at hp;split at hp
 ·rename_i c_k c_a c_b c_s v_n v_l;split at hp
  ·rename_i s e0;cases hp;have g0:=da e0;subst g0;refine⟨av rfl,fun hC _=>?_⟩;dsimp only at hC;refine @bV _ _ _ _ _ ?_;intro b gv Z zq A hA L hL;have hgo:=abX (show qP V s ⟨c_k,c_a,c_b,c_s⟩ v_n v_l=true from hC);have hc1:=fun h=>acM (d:=s) (c:=⟨c_k,c_a,c_b,c_s⟩) (v:=v_n) (l:=v_l) h;have hc2:=fun h=>adh (d:=s) (c:=⟨c_k,c_a,c_b,c_s⟩) (v:=v_n) (l:=v_l) h;have hkl:=sL s.U s.p;have hat:=jd s.U c_b;generalize hF:(db V)=F,hG0:VoR.Fs.aa=G0,hG1:KsC.Kc.aa=G1,hG2:KsU.Ku.aa=G2,hG3:MgR.Mg.aa=G3,hG4:ChQ.Cq.aa=G4 at hC hfs ⊢
   repeat' (first|(apply al zq;try dsimp only)|apply aS zq (af hL)|apply aq zq|refine aT rfl ?_|apply ai|refine ah rfl ?_|refine aR rfl ?_|exact aA|apply aB|refine aP fun _=>?_|refine aQ fun _=>?_|(constructor;cbv))
   all_goals first|(show L _ _ _;skip)|(clear hL hfs zq Z;subst hA hF hG0 hG1 hG2 hG3 hG4;simp only [db,VoR.Fs.aa,KsC.Kc.aa,Ar.aa,dY] at * <;> grind [aj,qa,nZ,pZ];done)
   ·skip
    subst hL;refine aJ (aN hfs) (Ys s.q (bJ s.U s.p) ⟨3,s.ee,s.er,v_n,v_l,c_k,c_a,c_b,c_s⟩) (fun y=>br Tryz.f73.ntmps [(0,.ptr 1 0),(4,.ptr 4 0),(5,.ptr 5 0),(6,.ptr 6 0),(23,.sl none (.ints .i64 (G1.rD s.U s.p))),(24,.ay (A.fT (G1.rD s.U s.p))),(25,.ay y.i)] [(1,.cells 75 [.ay s.i,.ay s.ee,.ay s.er,.ay s.t,.ay s.p,.own 2,.sl none (.ints .i64 s.w),.sl none (.ints .i64 s.gn),.sl none (.ae .bg s.gl),.ay s.ph,.sl none (.ints .i64 s.tn),.sl none (.ae .bg s.tl),.ay s.l,.bK s.o,.sl (some (3,89)) (.ae .iY y.q)]),(2,.row 58 (.ae .eC s.U)),(3,.tok),(4,.cells 38 [.ay c_k,.ay c_a,.ay c_b,.ay c_s]),(5,.cells 29 [.sl none (.ints .i64 v_n),.sl none (.ae .bg v_l)]),(6,.cells 40 [.ay 3,.ay s.ee,.ay s.er,.sl none (.ints .i64 v_n),.sl none (.ae .bg v_l),.ay c_k,.ay c_a,.ay c_b,.ay c_s])] [.one (.ptr 1 0),Any,Any]) (IK (bJ s.U s.p)) (KO 25 1) ⟨0,s.q⟩ ?_ ?_ ?_
    ·exact xC _ _ _
    ·cbv
     repeat' (first|exact trivial|exact rfl|refine And.intro ?_ ?_)
    rintro⟨i,q⟩ hq O hO;have hst:=fun hw hq0 h=>yJ hw hq0 hq h;have hen:=fun h=>Dr hq h;have q0:=hq.1;have q1:=hq.2.1;dsimp only at q0 q1;subst hA;generalize hA:Ar.aa=A;generalize hL:Lp _ _ _=L;refine az zq ?_
    repeat' (first|(apply al zq;try dsimp only)|apply aS zq (af hL)|apply aq zq|refine aT rfl ?_|apply ai|refine ah rfl ?_|refine aR rfl ?_|exact aA|apply aB|refine aP fun _=>?_|refine aQ fun _=>?_|(constructor;cbv))
    all_goals first|(show L _ _ _;skip)|(clear hL hfs zq Z hq;subst hA hF hG0 hG1 hG2 hG3 hG4 hO;simp only [db,VoR.Fs.aa,KsC.Kc.aa,Ar.aa,jz] at * <;> (try simp only [vX,mL,mT,vM,vJ,vB,mD,mI,mR,mG,mN,vD,vA] at *) <;> grind [aj,qa,nZ,pZ];done)
   ·skip
    subst hL;refine aJ (aN hfs) (Ys s.q (bJ s.U s.p) ⟨3,s.ee,s.er,[],[],c_k,c_a,c_b,c_s⟩) (fun y=>br Tryz.f73.ntmps [(0,.ptr 1 0),(4,.ptr 4 0),(5,.ptr 5 0),(6,.ptr 6 0),(23,.sl none (.ints .i64 (G1.rD s.U s.p))),(24,.ay (A.fT (G1.rD s.U s.p))),(25,.ay y.i)] [(1,.cells 75 [.ay s.i,.ay s.ee,.ay s.er,.ay s.t,.ay s.p,.own 2,.sl none (.ints .i64 s.w),.sl none (.ints .i64 s.gn),.sl none (.ae .bg s.gl),.ay s.ph,.sl none (.ints .i64 s.tn),.sl none (.ae .bg s.tl),.ay s.l,.bK s.o,.sl (some (3,89)) (.ae .iY y.q)]),(2,.row 58 (.ae .eC s.U)),(3,.tok),(4,.cells 38 [.ay c_k,.ay c_a,.ay c_b,.ay c_s]),(5,.cells 29 [.sl none (.ints .i64 v_n),.sl none (.ae .bg v_l)]),(6,.cells 40 [.ay 3,.ay s.ee,.ay s.er,.sl none (.ints .i64 []),.sl none (.ae .bg []),.ay c_k,.ay c_a,.ay c_b,.ay c_s])] [.one (.ptr 1 0),Any,Any]) (IK (bJ s.U s.p)) (KO 25 1) ⟨0,s.q⟩ ?_ ?_ ?_
    ·exact xC _ _ _
    ·cbv
     repeat' (first|exact trivial|exact rfl|refine And.intro ?_ ?_)
    rintro⟨i,q⟩ hq O hO;have hst:=fun hw hq0 h=>yJ hw hq0 hq h;have hen:=fun h=>Dr hq h;have q0:=hq.1;have q1:=hq.2.1;dsimp only at q0 q1;subst hA;generalize hA:Ar.aa=A;generalize hL:Lp _ _ _=L;refine az zq ?_
    repeat' (first|(apply al zq;try dsimp only)|apply aS zq (af hL)|apply aq zq|refine aT rfl ?_|apply ai|refine ah rfl ?_|refine aR rfl ?_|exact aA|apply aB|refine aP fun _=>?_|refine aQ fun _=>?_|(constructor;cbv))
    all_goals first|(show L _ _ _;skip)|(clear hL hfs zq Z hq;subst hA hF hG0 hG1 hG2 hG3 hG4 hO;simp only [db,VoR.Fs.aa,KsC.Kc.aa,Ar.aa,jz] at * <;> (try simp only [vX,mL,mT,vM,vJ,vB,mD,mI,mR,mG,mN,vD,vA] at *) <;> grind [aj,qa,nZ,pZ];done)
  ·cases hp
 ·cases hp
noncomputable def qk (F:Kd):aO:=fun xs h=>match xs with
 |[.one (.ptr 0 0)]=>(match wg h with
  |some s=>some ⟨F.aaV s=true,.cN [],(vK (F.abN s)),[.one (.ptr 0 0)]⟩
  |none=>none)
 |_=>none
theorem jv (hb:au Tryz.prog 33 (bX (db V))):au Tryz.prog 97 (qk (db V)):=by
 have hfs:=(ak.keeps TX Sv (ak.keeps (YJ (V:=V)) WZ (ak.cons oT (ak.cons (bI [[none],[none],[none,none,none,some (.ints .i64 []),some (.ae .bg []),none,none,none,none]] hN) (ak.cons wa (ak.cons (UR hb) ak.nil rfl) rfl) rfl) rfl)));refine aw hfs Tryz.func97 rfl rfl fun xs h p hp=>?_;unfold qk at hp;split at hp
 ·split at hp
  ·rename_i s e0;cases hp;have g0:=da e0;subst g0;refine⟨av rfl,fun hC _=>?_⟩;dsimp only at hC;refine @bV _ _ _ _ _ ?_;intro b gv Z zq A hA L hL;have hgo:=ES (show eN V s=true from hC);have hsi:=TR s;have hs1:=acu s;have hs2:=adZ s;have hol:=Ro s.i s.U;generalize hF:(db V)=F,hG0:VoR.Fs.aa=G0,hG1:KsC.Kc.aa=G1,hG2:KsU.Ku.aa=G2,hG3:MgR.Mg.aa=G3,hG4:ChQ.Cq.aa=G4 at hC hfs ⊢
   repeat' (first|(apply al zq;try dsimp only)|apply aS zq (af hL)|apply aq zq|refine aT rfl ?_|apply ai|refine ah rfl ?_|refine aR rfl ?_|exact aA|apply aB|refine aP fun _=>?_|refine aQ fun _=>?_|(constructor;cbv))
   all_goals first|(show L _ _ _;skip)|(clear hL hfs zq Z;subst hA hF hG0 hG1 hG2 hG3 hG4;simp only [db,VoR.Fs.aa,KsC.Kc.aa,MgR.Mg.aa,ChQ.Cq.aa,Ar.aa,dY,Oo,jz] at * <;> (try simp only [Oo] at *) <;> grind [aj,qa,nZ,pZ];done)
  ·cases hp
 ·cases hp
theorem ZD {d:CS} {e r p:Int} {w:List Int} {q:List E} (h1:w=bJ d.U p) (h2:q=d.q ++ (bJ d.U p).map fun x=>cB x ⟨1,e,r,[],[],0,0,0,0⟩):eR d e r p=eh ⟨d.i,e,r,dz d.t e,p,d.U,w,[],[],1,[],[],d.l,d.o,q⟩ d.U.length:=by
 subst h1 h2;rfl
noncomputable def Gp (F:Kd):aO:=fun xs h=>match xs with
 |[.one (.ptr 0 0),.agg [.val (.int .i64 e_e),.val (.int .i64 e_r)],.one (.val (.int .i64 p))]=>(match wg h with
  |some s=>some ⟨F.aaN s e_e e_r p=true,.cN [],(vK (F.aev s e_e e_r p)),[.one (.ptr 0 0),Any,Any]⟩
  |none=>none)
 |_=>none
theorem AO (hb:au Tryz.prog 33 (bX (db V))):au Tryz.prog 58 (Gp (db V)):=by
 have hfs:=(ak.keeps MS Qk (ak.cons (bI [[none],[none],[none,none,none,some (.ints .i64 []),some (.ae .bg []),none,none,none,none]] Re) (ak.cons Bv (ak.cons (jv hb) ak.nil rfl) rfl) rfl));refine aw hfs Tryz.func58 rfl rfl fun xs h p hp=>?_;unfold Gp at hp;split at hp
 ·rename_i e_e e_r p;split at hp
  ·rename_i s e0;cases hp;have g0:=da e0;subst g0;refine⟨av rfl,fun hC _=>?_⟩;dsimp only at hC;refine @bV _ _ _ _ _ ?_;intro b gv Z zq A hA L hL;have hgo:=DV (show gG V s e_e e_r p=true from hC);have hkl:=sL s.U p;generalize hF:(db V)=F,hG0:VoR.Fs.aa=G0,hG1:KsC.Kc.aa=G1,hG2:KsU.Ku.aa=G2,hG3:MgR.Mg.aa=G3,hG4:ChQ.Cq.aa=G4 at hC hfs ⊢
   repeat' (first|(apply al zq;try dsimp only)|apply aS zq (af hL)|apply aq zq|refine aT rfl ?_|apply ai|refine ah rfl ?_|refine aR rfl ?_|exact aA|apply aB|refine aP fun _=>?_|refine aQ fun _=>?_|(constructor;cbv))
   all_goals first|(show L _ _ _;skip)|(clear hL hfs zq Z;subst hA hF hG0 hG1 hG2 hG3 hG4;simp only [db,VoR.Fs.aa,KsC.Kc.aa,Ar.aa,HZ] at * <;> grind [aj,qa,nZ,pZ];done)
   subst hL;refine aJ (aN hfs) (wvQ s.q (bJ s.U p) ⟨1,e_e,e_r,[],[],0,0,0,0⟩) (fun y=>br Tryz.f58.ntmps [(0,.ptr 1 0),(50,.sl none (.ints .i64 (G1.rD s.U p))),(51,.ay (A.fT (G1.rD s.U p))),(52,.ay y.i)] [(1,.cells 75 [.ay s.i,.ay e_e,.ay e_r,.ay (A.DU (A.cmp .gtr e_e s.t) e_e s.t),.ay p,.own 2,.sl (some (4,3)) (.ints .i64 y.w),.sl none (.ints .i64 []),.sl none (.ae .bg []),.ay 1,.sl none (.ints .i64 []),.sl none (.ae .bg []),.ay s.l,.bK s.o,.sl (some (3,89)) (.ae .iY y.q)]),(2,.row 58 (.ae .eC s.U)),(4,.tok),(3,.tok)] [.one (.ptr 1 0),Any,Any]) (wvM (bJ s.U p)) (wvR 52 1) ⟨0,[],s.q⟩ ?_ ?_ ?_
   ·exact Th _ _ _
   ·cbv
    repeat' (first|exact trivial|exact rfl|refine And.intro ?_ ?_)
   rintro⟨i,w,q⟩ hq O hO;have hst:=fun hw hq0 h=>QL hw hq0 hq h;have hen:=fun h=>Xf hq h;have q0:=hq.1.1;have q1:=hq.1.2.1;dsimp only at q0 q1;subst hA;generalize hA:Ar.aa=A;generalize hL:Lp _ _ _=L;refine az zq ?_
   repeat' (first|(apply al zq;try dsimp only)|apply aS zq (af hL)|apply aq zq|refine aT rfl ?_|apply ai|refine ah rfl ?_|refine aR rfl ?_|exact aA|apply aB|refine aP fun _=>?_|refine aQ fun _=>?_|(constructor;cbv))
   all_goals first|(show L _ _ _;skip)|(clear hL hfs zq Z hq;subst hA hF hG0 hG1 hG2 hG3 hG4 hO;simp only [db,VoR.Fs.aa,KsC.Kc.aa,Ar.aa,HZ,jz] at * <;> grind [aj,qa,nZ,pZ];done)
   clear hO;subst hL;refine aJ (aN hfs) (vtQ eh ⟨s.i,e_e,e_r,dz s.t e_e,p,s.U,w,[],[],1,[],[],s.l,s.o,q⟩) (fun y=>br Tryz.f58.ntmps [(0,.ptr 1 0),(83,.ay (A.dN s.U)),(84,.ay y.i)] [(1,.cells 75 [.ay s.i,.ay e_e,.ay e_r,.ay (A.DU (A.cmp .gtr e_e s.t) e_e s.t),.ay p,.own 2,.sl none (.ints .i64 w),.sl none (.ints .i64 []),.sl none (.ae .bg []),.ay 1,.sl none (.ints .i64 []),.sl none (.ae .bg []),.ay s.l,.bK s.o,.sl (some (3,89)) (.ae .iY y.q)]),(2,.row 58 (.ae .eC y.t)),(3,.tok)] [.one (.ptr 1 0),Any,Any]) (vtM ⟨s.i,e_e,e_r,dz s.t e_e,p,s.U,w,[],[],1,[],[],s.l,s.o,q⟩) (vtR 84 1 2) ⟨0,s.U,q⟩ ?_ ?_ ?_
   ·exact Gg eh (fun _=>rfl) _
   ·cbv
    repeat' (first|exact trivial|exact rfl|refine And.intro ?_ ?_)
   rintro⟨j,t,q2⟩ hq2 O2 hO2;have hst2:=fun hl h=>FK (F:=eh) (r:=fun d a=>zg (tie d a)) (fun _ _=>rfl) YE hl hq2 h;have hen2:=fun h=>Ny hq2 h;have r0:=hq2.1;have r1:=hq2.2.1;have had:=fun (h1:w=bJ s.U p) (h2:q=s.q ++ (bJ s.U p).map fun x=>cB x ⟨1,e_e,e_r,[],[],0,0,0,0⟩)=>ZD (d:=s) (e:=e_e) (r:=e_r) (p:=p) h1 h2;dsimp only at r0 r1;subst hA;generalize hA:Ar.aa=A;generalize hL:Lp _ _ _=L;refine az zq ?_
   repeat' (first|(apply al zq;try dsimp only)|apply aS zq (af hL)|apply aq zq|refine aT rfl ?_|apply ai|refine ah rfl ?_|refine aR rfl ?_|exact aA|apply aB|refine aP fun _=>?_|refine aQ fun _=>?_|(constructor;cbv))
   all_goals first|(show L _ _ _;skip)|(clear hL hfs zq Z hq hq2;subst hA hF hG0 hG1 hG2 hG3 hG4 hO2;simp only [db,VoR.Fs.aa,KsC.Kc.aa,KsU.Ku.aa,Ar.aa,HZ] at * <;> (try simp only [dD] at *) <;> (try simp only [vX,mL,mT,vM,vJ,vB,mD,mI,mR,mG,mN,vD,vA] at *) <;> first|(have hsl:=nt ⟨s.i,e_e,e_r,dz s.t e_e,p,t,w,[],[],1,[],[],s.l,s.o,q2⟩ j (zg (tie ⟨s.i,e_e,e_r,dz s.t e_e,p,t,w,[],[],1,[],[],s.l,s.o,q2⟩ j));generalize aE ⟨s.i,e_e,e_r,dz s.t e_e,p,t,w,[],[],1,[],[],s.l,s.o,q2⟩ j (zg (tie ⟨s.i,e_e,e_r,dz s.t e_e,p,t,w,[],[],1,[],[],s.l,s.o,q2⟩ j))=Y at hsl ⊢;rcases Y with ⟨_,_,_,_,_,y6,_,_,_,_,_,_,_,_,_⟩;cases y6 <;> cases t <;> first|exact congrArg Int.ofNat hsl|(exfalso;simp at hsl;done))|grind [aj,qa,nZ,pZ,vX,mL,mT,vM,vJ,vB,mD,mI,mR,mG,mN,vD,vA];done)
  ·cases hp
 ·cases hp
noncomputable def IC (F:Kd):aO:=fun xs h=>match xs with
 |[.one (.ptr 0 0)]=>(match wg h with
  |some s=>some ⟨F.aeo s=true,.cN [],(vK (F.adm s)),[.one (.ptr 0 0)]⟩
  |none=>none)
 |_=>none
theorem EN:au Tryz.prog 40 (IC (db V)):=by
 have hfs:=(ak.cons Ky ak.nil rfl);refine aw hfs Tryz.func40 rfl rfl fun xs h p hp=>?_;unfold IC at hp;split at hp
 ·split at hp
  ·rename_i s e0;cases hp;have g0:=da e0;subst g0;refine⟨av rfl,fun hC _=>?_⟩;dsimp only at hC;refine @bV _ _ _ _ _ ?_;intro b gv Z zq A hA L hL;have hk:s.U.length≤400∧s.q.length≤80000:=of_decide_eq_true hC;have he1:=fun h=>end_1 (d:=s) h;have he2:=fun h (t q:List E) e=>acI (d:=s) h (t:=t) (q:=q) e;generalize hF:(db V)=F,hG0:VoR.Fs.aa=G0,hG1:KsC.Kc.aa=G1,hG2:KsU.Ku.aa=G2,hG3:MgR.Mg.aa=G3,hG4:ChQ.Cq.aa=G4 at hC hfs ⊢
   repeat' (first|(apply al zq;try dsimp only)|apply aS zq (af hL)|apply aq zq|refine aT rfl ?_|apply ai|refine ah rfl ?_|refine aR rfl ?_|exact aA|apply aB|refine aP fun _=>?_|refine aQ fun _=>?_|(constructor;cbv))
   all_goals first|(show L _ _ _;skip)|(clear hL hfs zq Z;subst hA hF hG0 hG1 hG2 hG3 hG4;simp only [db] at * <;> grind [aj,qa,nZ,pZ];done)
   subst hL;refine aJ (aN hfs) (vtQ cD s) (fun y=>br Tryz.f40.ntmps [(0,.ptr 1 0),(13,.own 2),(14,.ay (A.dN s.U)),(15,.ay y.i)] [(1,.cells 75 [.ay s.i,.ay s.ee,.ay s.er,.ay s.t,.ay s.p,.own 2,.sl none (.ints .i64 s.w),.sl none (.ints .i64 s.gn),.sl none (.ae .bg s.gl),.ay s.ph,.sl none (.ints .i64 s.tn),.sl none (.ae .bg s.tl),.ay s.l,.bK s.o,.sl (some (3,89)) (.ae .iY y.q)]),(2,.row 58 (.ae .eC y.t)),(3,.tok)] [.one (.ptr 1 0)]) (vtM s) (vtR 15 1 2) ⟨0,s.U,s.q⟩ ?_ ?_ ?_
   ·exact Gg cD (fun _=>rfl) _
   ·cbv
    repeat' (first|exact trivial|exact rfl|refine And.intro ?_ ?_)
   rintro⟨i,t,q⟩ hq O hO;have hst:=fun hl h=>FK (F:=cD) (r:=enR) (fun _ _=>rfl) YF hl hq h;have hen:=fun h=>Ny hq h;have hr1:=fun h=>aeg (d:=dD s t q) (a:=i) h;have hr2:=fun h=>acK (d:=dD s t q) (a:=i) h;have q0:=hq.1;have q1:=hq.2.1;dsimp only at q0 q1;subst hA;generalize hA:Ar.aa=A;generalize hL:Lp _ _ _=L;refine az zq ?_
   repeat' (first|(apply al zq;try dsimp only)|apply aS zq (af hL)|apply aq zq|refine aT rfl ?_|apply ai|refine ah rfl ?_|refine aR rfl ?_|exact aA|apply aB|refine aP fun _=>?_|refine aQ fun _=>?_|(constructor;cbv))
   all_goals first|(show L _ _ _;skip)|(clear hL hfs zq Z hq;subst hA hF hG0 hG1 hG2 hG3 hG4 hO;simp only [db,VoR.Fs.aa,KsU.Ku.aa,Ar.aa] at * <;> (try simp only [dD] at *) <;> (try simp only [vX,mL,mT,vM,vJ,vB,mD,mI,mR,mG,mN,vD,vA] at *) <;> first|(have hsl:=nt ⟨s.i,s.ee,s.er,s.t,s.p,t,s.w,s.gn,s.gl,s.ph,s.tn,s.tl,s.l,s.o,q⟩ i (kq (tie ⟨s.i,s.ee,s.er,s.t,s.p,t,s.w,s.gn,s.gl,s.ph,s.tn,s.tl,s.l,s.o,q⟩ i));generalize aE ⟨s.i,s.ee,s.er,s.t,s.p,t,s.w,s.gn,s.gl,s.ph,s.tn,s.tl,s.l,s.o,q⟩ i (kq (tie ⟨s.i,s.ee,s.er,s.t,s.p,t,s.w,s.gn,s.gl,s.ph,s.tn,s.tl,s.l,s.o,q⟩ i))=Y at hsl ⊢;rcases Y with ⟨_,_,_,_,_,y6,_,_,_,_,_,_,_,_,_⟩;cases y6 <;> cases t <;> first|exact congrArg Int.ofNat hsl|(exfalso;simp at hsl;done))|(have hsl:=nt ⟨s.i,s.ee,s.er,s.t,s.p,t,s.w,s.gn,s.gl,s.ph,s.tn,s.tl,s.l,s.o,q⟩ i (zg (tie ⟨s.i,s.ee,s.er,s.t,s.p,t,s.w,s.gn,s.gl,s.ph,s.tn,s.tl,s.l,s.o,q⟩ i));generalize aE ⟨s.i,s.ee,s.er,s.t,s.p,t,s.w,s.gn,s.gl,s.ph,s.tn,s.tl,s.l,s.o,q⟩ i (zg (tie ⟨s.i,s.ee,s.er,s.t,s.p,t,s.w,s.gn,s.gl,s.ph,s.tn,s.tl,s.l,s.o,q⟩ i))=Y at hsl ⊢;rcases Y with ⟨_,_,_,_,_,y6,_,_,_,_,_,_,_,_,_⟩;cases y6 <;> cases t <;> first|exact congrArg Int.ofNat hsl|(exfalso;simp at hsl;done))|grind [aj,qa,nZ,pZ,vX,mL,mT,vM,vJ,vB,mD,mI,mR,mG,mN,vD,vA];done)
  ·cases hp
 ·cases hp
noncomputable def ub (F:Kd):aO:=fun xs h=>match xs with
 |[.one (.ptr 0 0)]=>(match wg h with
  |some s=>some ⟨F.adQ s=true,.cN [],(vK (F.Yb s)),[.one (.ptr 0 0)]⟩
  |none=>none)
 |_=>none
theorem sO (hb:au Tryz.prog 33 (bX (db V))):au Tryz.prog 33 (ub (db V)):=by
 have hfs:=(ak.cons Mi (ak.cons (EN (V:=V)) (ak.cons (AO hb) ak.nil rfl) rfl) rfl);refine aw hfs Tryz.func33 rfl rfl fun xs h p hp=>?_;unfold ub at hp;split at hp
 ·split at hp
  ·rename_i s e0;cases hp;have g0:=da e0;subst g0;refine⟨av rfl,fun hC _=>?_⟩;dsimp only at hC;refine @bV _ _ _ _ _ ?_;intro b gv Z zq A hA L hL;have hgo:=Et (show kY V s=true from hC);generalize hF:(db V)=F,hG0:VoR.Fs.aa=G0,hG1:KsC.Kc.aa=G1,hG2:KsU.Ku.aa=G2,hG3:MgR.Mg.aa=G3,hG4:ChQ.Cq.aa=G4 at hC hfs ⊢
   repeat' (first|(apply al zq;try dsimp only)|apply aS zq (af hL)|apply aq zq|refine aT rfl ?_|apply ai|refine ah rfl ?_|refine aR rfl ?_|exact aA|apply aB|refine aP fun _=>?_|refine aQ fun _=>?_|(constructor;cbv))
   all_goals first|(show L _ _ _;skip)|(clear hL hfs zq Z;subst hA hF hG0 hG1 hG2 hG3 hG4;simp only [db,VoR.Fs.aa,KsC.Kc.aa,Ar.aa,dY,HZ] at * <;> grind [aj,qa,nZ,pZ];done)
  ·cases hp
 ·cases hp
end Go.Proofs.YtelhldgdnlppfaaGreat.KsD
