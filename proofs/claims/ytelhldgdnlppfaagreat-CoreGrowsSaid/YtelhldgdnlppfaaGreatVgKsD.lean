/-
  what a core knows,begins,adopts,settles and does. No condition but size.
-/
import Derived.Test.YtelhldgdnlppfaaGreatVgKsU
import Derived.Test.YtelhldgdnlppfaaGreatVgKsT
import Derived.Test.YtelhldgdnlppfaaGreatVgW29
set_option maxHeartbeats 4000000
set_option cbv.maxSteps 4000000
set_option maxRecDepth 100000
namespace Go.Proofs.YtelhldgdnlppfaaGreat.KsD
open Go Ry ViR VoR KsS KsC KsU KsT
open MgR (kJ iu nB my mD)
open ChQ (mY oK mh kO CH)
structure XO where
 i:Int
 o:List E
def owR (st:St):XO:=⟨bR st 13,Cu st 2 1⟩
def Yx (i:Int) (l:List E) (y:XO):Prop:=0≤y.i∧y.i≤l.length∧y.o=kc i (l.take y.i.toNat)
def ZE (l:List E) (y:XO):Nat:=l.length - y.i.toNat
theorem Mp (i:Int) (l:List E):Yx i l ⟨0,[]⟩:=⟨Int.le_refl 0,Int.natCast_nonneg _,rfl⟩
theorem NW {n:Int} {l:List E} (hl:l.length≤1000000) {i:Int} {o:List E} (hq:Yx n l ⟨i,o⟩) (h:i < l.length):aO .add .i64 i 1=i+1∧(∀ o',ZE l ⟨i+1,o'⟩ < ZE l ⟨i,o⟩)∧o.length≤1000000∧Yx n l ⟨i+1,o ++ [Rx n (l.getD i.toNat [])]⟩:=by
 obtain⟨h0,h1,h2⟩:=hq
 simp only at h0 h1 h2
 refine⟨by rw [bo,wr _ (by omega) (by omega)],fun o'=>by simp only [ZE];omega,?_,by simp only;omega,by simp only;omega,?_⟩
 ·rw [h2]
  unfold kc
  rw [List.length_map,List.length_take]
  omega
 ·simp only
  rw [qO l h0 h,h2]
  unfold kc
  rw [List.map_append]
  rfl
theorem SN {n:Int} {l:List E} {i:Int} {o:List E} (hq:Yx n l ⟨i,o⟩) (h:¬i < l.length):o=kc n l:=by
 obtain⟨h0,h1,h2⟩:=hq
 simp only at h0 h1 h2
 rw [h2,show i.toNat=l.length by omega,List.take_length]
def Rs (q0:List E) (l:List Int) (w:WK) (y:XQ):Prop:=0≤y.i∧y.i≤l.length∧y.q=q0 ++ (l.take y.i.toNat).map fun p=>eF p w
theorem xX (q0:List E) (l:List Int) (w:WK):Rs q0 l w ⟨0,q0⟩:=⟨Int.le_refl 0,Int.natCast_nonneg _,by simp⟩
theorem wO {q0:List E} {l:List Int} {w:WK} (hw:l.length≤1000) (hq0:q0.length≤99000) {i:Int} {q:List E} (hq:Rs q0 l w ⟨i,q⟩) (h:i < l.length):aO .add .i64 i 1=i+1∧(∀ q',GD l ⟨i+1,q'⟩ < GD l ⟨i,q⟩)∧q.length≤100000∧Rs q0 l w ⟨i+1,q ++ [eF (l.getD i.toNat 0) w]⟩:=by
 obtain⟨h0,h1,h2⟩:=hq
 simp only at h0 h1 h2
 refine⟨by rw [bo,wr _ (by omega) (by omega)],fun o'=>by simp only [GD];omega,?_,⟨by simp only;omega,by simp only;omega,?_⟩⟩
 ·rw [h2,List.length_append,List.length_map,List.length_take]
  omega
 ·simp only
  rw [tM l h0 h,List.map_append,← List.append_assoc,← h2]
  rfl
theorem Bu {q0:List E} {l:List Int} {w:WK} {i:Int} {q:List E} (hq:Rs q0 l w ⟨i,q⟩) (h:¬i < l.length):q=q0 ++ l.map fun p=>eF p w:=by
 obtain⟨h0,h1,h2⟩:=hq
 simp only at h0 h1 h2
 rw [h2,show i.toNat=l.length by omega,List.take_length]
structure XV where
 i:Int
 w:List Int
 q:List E
def Xd (st:St) (n j:Nat):List Int :=
 match ak st.heap n with
 |some (.cells _ cs)=>(match cs[j]? with
  |some (.sl _ (.ints _ l))=>l
  |_=>[])
 |_=>[]
def wvR (k n:Nat) (st:St):XV:=⟨bR st k,Xd st n 6,Cu st n 14⟩
def YS (q0:List E) (l:List Int) (w:WK) (y:XV):Prop:=Rs q0 l w ⟨y.i,y.q⟩∧y.w=l.take y.i.toNat
def ZG (l:List Int) (y:XV):Nat:=l.length - y.i.toNat
theorem Mr (q0:List E) (l:List Int) (w:WK):YS q0 l w ⟨0,[],q0⟩:=⟨xX q0 l w,rfl⟩
theorem OR {q0:List E} {l:List Int} {w:WK} (hw:l.length≤1000) (hq0:q0.length≤99000) {i:Int} {p:List Int} {q:List E} (hq:YS q0 l w ⟨i,p,q⟩) (h:i < l.length):aO .add .i64 i 1=i+1∧(∀ p' q',ZG l ⟨i+1,p',q'⟩ < ZG l ⟨i,p,q⟩)∧q.length≤100000∧p.length≤1000∧YS q0 l w ⟨i+1,p ++ [l.getD i.toNat 0],q ++ [eF (l.getD i.toNat 0) w]⟩:=by
 obtain⟨h1,h2⟩:=hq
 have h0:=h1.1
 simp only at h0 h2
 obtain⟨a,b,c,d⟩:=wO hw hq0 h1 h
 refine⟨a,fun p' q'=>by simp only [ZG];omega,c,?_,d,?_⟩
 ·rw [h2,List.length_take]
  omega
 ·simp only
  rw [tM l h0 h,h2]
theorem SU {q0:List E} {l:List Int} {w:WK} {i:Int} {p:List Int} {q:List E} (hq:YS q0 l w ⟨i,p,q⟩) (h:¬i < l.length):p=l∧q=q0 ++ l.map fun p=>eF p w:=by
 obtain⟨h1,h2⟩:=hq
 have h0:=h1.1
 have h3:=h1.2.1
 simp only at h0 h2 h3
 refine⟨?_,Bu h1 h⟩
 rw [h2,show i.toNat=l.length by omega,List.take_length]
structure XT where
 i:Int
 t:List E
 q:List E
def aaf (st:St) (n:Nat):List E :=
 match ak st.heap n with
 |some (.row _ (.ah _ l))=>l
 |_=>[]
def vtR (k n r:Nat) (st:St):XT:=⟨bR st k,aaf st r,Cu st n 14⟩
def dm (d:CS) (t q:List E):CS:=⟨d.i,d.ee,d.er,d.t,d.p,t,d.w,d.gn,d.gl,d.ph,d.tn,d.tl,d.l,d.o,q⟩
theorem gQ (d:CS) (a:Int) (r:VT):aL d a r=dm d (aL d a r).aa (aL d a r).q:=by
 unfold aL dm
 split <;> rfl
def Vq (F:CS→Nat→CS) (d:CS) (y:XT):Prop:=0≤y.i∧y.i≤d.aa.length∧y.t.length=d.aa.length∧y.q.length≤d.q.length+y.i.toNat∧F d y.i.toNat=dm d y.t y.q
def Yi (d:CS) (y:XT):Nat:=d.aa.length - y.i.toNat
theorem Di (d:CS) (a:Int) (r:VT) (h:r.w.length≤1):(aL d a r).aa.length=d.aa.length∧(aL d a r).q.length≤d.q.length+1:=by
 unfold aL
 split
 ·refine⟨List.length_set,?_⟩
  simp only [List.length_append,List.length_map]
  omega
 ·exact⟨rfl,Nat.le_succ _⟩
theorem Cy {F:CS→Nat→CS} {r:CS→Int→VT} (hF:∀ d (n:Nat),F d (n+1)=aL (F d n) (n:Int) (r (F d n) (n:Int))) (hr:∀ d a,(r d a).w.length≤1) {d:CS} (hl:d.aa.length≤1000) {i:Int} {t q:List E} (hq:Vq F d ⟨i,t,q⟩) (h:i < d.aa.length):aO .add .i64 i 1=i+1∧0≤i∧(∀ t' q',Yi d ⟨i+1,t',q'⟩ < Yi d ⟨i,t,q⟩)∧i < t.length∧t.length≤1000∧q.length≤d.q.length+1000∧Vq F d ⟨i+1,(aL (dm d t q) i (r (dm d t q) i)).aa,(aL (dm d t q) i (r (dm d t q) i)).q⟩:=by
 obtain⟨h0,h1,h2,h3,h4⟩:=hq
 simp only at h0 h1 h2 h3 h4
 have e:((i.toNat:Nat):Int)=i:=Int.toNat_of_nonneg h0
 obtain⟨g1,g2⟩:=Di (dm d t q) i (r (dm d t q) i) (hr _ _)
 refine⟨by rw [bo,wr _ (by omega) (by omega)],h0,fun t' q'=>by simp only [Yi];omega,by omega,by omega,by omega,by simp only;omega,by simp only;omega,?_,?_,?_⟩
 ·simp only
  rw [g1]
  exact h2
 ·simp only
  have g2:(aL (dm d t q) i (r (dm d t q) i)).q.length≤q.length+1:=g2
  omega
 ·simp only
  rw [show (i+1).toNat=i.toNat+1 by omega,hF,h4,e,gQ (dm d t q) i]
  rfl
theorem Ed (F:CS→Nat→CS) (hF:∀ d,F d 0=d) (d:CS):Vq F d ⟨0,d.aa,d.q⟩:=⟨Int.le_refl 0,Int.natCast_nonneg _,rfl,Nat.le_refl _,hF d⟩
theorem JO {F:CS→Nat→CS} {d:CS} {i:Int} {t q:List E} (hq:Vq F d ⟨i,t,q⟩) (h:¬i < d.aa.length):F d d.aa.length=dm d t q:=by
 obtain⟨h0,h1,h2,h3,h4⟩:=hq
 simp only at h0 h1 h2 h3 h4
 rw [← h4,show i.toNat=d.aa.length by omega]
def Wi (d:CS) (a:Int):VT:=if rb (tie d a) 5=true then kY (tie d a) else zY (tie d a)
theorem RN (d:CS) (a:Int):(zY (tie d a)).w.length≤1:=(pE _ _ _ _ 0).2.1
theorem SP (d:CS) (a:Int):(Wi d a).w.length≤1:=by
 unfold Wi
 split
 ·exact (pE _ _ _ _ 0).2.2.1
 ·exact (pE _ _ _ _ 0).2.1
theorem Ud {L:Lv} {d:CS} {k a:Int} (h:pF L d k a=true):(0≤a∧a < d.aa.length∧d.aa.length≤1000∧d.q.length≤99000) ∧
  (k=2→(qN (tie d a)).tb=true→L.ok (aL d a (qN (tie d a)))=true∧jY L d k a=L.B (aL d a (qN (tie d a))))∧(k=2→(qN (tie d a)).tb=false→jY L d k a=aL d a (qN (tie d a))) ∧
  (k=3→(kY (tie d a)).tp=true→L.ok (aL d a (kY (tie d a)))=true∧jY L d k a=L.B (aL d a (kY (tie d a))))∧(k=3→(kY (tie d a)).tp=false→jY L d k a=aL d a (kY (tie d a)))∧(¬k=2→¬k=3→jY L d k a=d):=by
 unfold pF VS at h
 simp only [Bool.and_eq_true,Bool.or_eq_true,Bool.not_eq_true',decide_eq_true_eq,decide_eq_false_iff_not] at h
 obtain⟨h1,h2,h3⟩:=h
 unfold jY
 refine⟨h1,fun e g=>?_,fun e g=>?_,fun e g=>?_,fun e g=>?_,fun e g=>?_⟩
 ·rw [if_pos e,if_pos g]
  exact⟨(h2.resolve_left fun q=>q e).resolve_left fun q=>(by rw [g] at q;cases q),rfl⟩
 ·rw [if_pos e,if_neg (by rw [g];decide)]
 ·rw [if_neg (by omega),if_pos e,if_pos g]
  exact⟨(h3.resolve_left fun q=>q e).resolve_left fun q=>(by rw [g] at q;cases q),rfl⟩
 ·rw [if_neg (by omega),if_pos e,if_neg (by rw [g];decide)]
 ·rw [if_neg e,if_neg g]
theorem Yd {d:CS} {c:CH} {v:List Int} {l:List E} (h:c.k=1):fU d c v l=⟨d.i,d.ee,d.er,d.t,d.p,d.aa,d.w,d.gn,d.gl,4,v,l,d.l,d.o,d.q ++ (cw d.aa d.p).map fun p=>eF p ⟨3,d.ee,d.er,v,l,c.k,c.a,c.b,c.s⟩⟩:=by
 unfold fU uK dG
 rw [if_pos h,if_pos h,if_pos h]
theorem YG {d:CS} {c:CH} {v:List Int} {l:List E} (h:¬c.k=1):fU d c v l=⟨d.i,d.ee,d.er,d.t,d.p,d.aa,d.w,d.gn,d.gl,3,d.tn,d.tl,d.l,d.o,d.q ++ (cw d.aa d.p).map fun p=>eF p ⟨3,d.ee,d.er,[],[],c.k,c.a,c.b,c.s⟩⟩:=by
 unfold fU uK dG
 rw [if_neg h,if_neg h,if_neg h]
theorem DC {L:Lv} {d:CS} {c:CH} {v:List Int} {l:List E} (h:sH L d c v l=true):(d.aa.length≤500∧d.q.length≤90000∧v.length≤1000∧l.length≤1000) ∧
  (c.k=1→wQ L d c v l=fU d c v l)∧(¬c.k=1→c.a=d.i→0≤dw d.aa c.b→ri (d.aa.getD (dw d.aa c.b).toNat []) 2=c.s→pF L (fU d c v l) c.k (dw d.aa c.b)=true∧wQ L d c v l=jY L (fU d c v l) c.k (dw d.aa c.b)) ∧
  (¬c.a=d.i→wQ L d c v l=fU d c v l)∧(dw d.aa c.b < 0→wQ L d c v l=fU d c v l)∧(¬ri (d.aa.getD (dw d.aa c.b).toNat []) 2=c.s→wQ L d c v l=fU d c v l):=by
 unfold sH at h
 rw [Bool.and_eq_true,decide_eq_true_eq,Bool.or_eq_true,Bool.not_eq_true'] at h
 obtain⟨h1,h2⟩:=h
 unfold wQ
 refine⟨h1,fun e=>?_,fun e1 e2 e3 e4=>?_,fun e=>?_,fun e=>?_,fun e=>?_⟩
 ·rw [if_neg]
  unfold mL
  rw [decide_eq_true_eq]
  exact fun q=>q.1 e
 ·have hm:mL d c=true:=decide_eq_true ⟨e1,e2,e3,e4⟩
  rw [if_pos hm]
  exact⟨h2.resolve_left fun q=>(by rw [hm] at q;cases q),rfl⟩
 ·rw [if_neg]
  unfold mL
  rw [decide_eq_true_eq]
  exact fun q=>e q.2.1
 ·rw [if_neg]
  unfold mL
  rw [decide_eq_true_eq]
  exact fun q=>by omega
 ·rw [if_neg]
  unfold mL
  rw [decide_eq_true_eq]
  exact fun q=>e q.2.2.2
theorem UL {L:Lv} {d:CS} (h:gO L d=true):(d.aa.length≤400∧d.q.length≤89000∧d.gn.length≤500∧d.gl.length≤500)∧((eU d).length≤501∧(eV d).length≤900)∧(stops d=true→fH L d=d) ∧
  (stops d=false→¬d.p=0→fH L d=⟨d.i,d.ee,d.er,d.t,d.p,d.aa,d.w,d.gn,d.gl,2,d.tn,d.tl,d.l,d.o,d.q ++ [eF d.p ⟨2,d.ee,d.er,eU d,eV d,0,0,0,0⟩]⟩) ∧
  (stops d=false→d.p=0→¬mh (eU d) (eV d)=0→fH L d=⟨d.i,d.ee,d.er,d.t,d.p,d.aa,d.w,d.gn,d.gl,3,d.tn,d.tl,d.l,d.o,d.q⟩) ∧
  (stops d=false→d.p=0→mh (eU d) (eV d)=0→sH L d (kO (eU d) (eV d)) (eU d) (eV d)=true∧fH L d=wQ L d (kO (eU d) (eV d)) (eU d) (eV d)):=by
 unfold gO ZR at h
 simp only [Bool.and_eq_true,Bool.or_eq_true,Bool.not_eq_true',decide_eq_true_eq,decide_eq_false_iff_not] at h
 obtain⟨h1,h2⟩:=h
 have hl:=Dg d
 unfold fH
 refine⟨h1,by omega,fun e=>if_pos e,fun e1 e2=>?_,fun e1 e2 e3=>?_,fun e1 e2 e3=>?_⟩
 ·rw [if_neg (by rw [e1];decide),if_pos e2]
  rfl
 ·rw [if_neg (by rw [e1];decide),if_neg (fun q=>q e2),if_pos e3]
 ·rw [if_neg (by rw [e1];decide),if_neg (fun q=>q e2),if_neg (fun q=>q e3)]
  refine⟨?_,rfl⟩
  rcases h2 with h2|h2|h2|h2
  ·rw [e1] at h2
   cases h2
  ·exact absurd e2 h2
  ·exact absurd e3 h2
  ·exact h2
theorem NQ (d:CS):(d.o=true→stops d=true)∧(¬d.ph=1→stops d=true)∧(0 < d.w.length→stops d=true)∧(ue d.aa=true→stops d=true)∧(d.o=false→d.ph=1→¬0 < d.w.length→ue d.aa=false→stops d=false):=by
 unfold stops
 refine⟨fun h=>by rw [h];rfl,fun h=>by simp [h],fun h=>by simp [h],fun h=>by simp [h],fun h1 h2 h3 h4=>by
  have h5:d.w=[]:=List.eq_nil_of_length_eq_zero (by omega)
  simp [h1,h2,h4,h5]⟩
theorem Zp (d:CS) (h:mD [d.i] (kc d.i d.aa) d.gn d.gl=0):eU d=nB [d.i] (kc d.i d.aa) d.gn d.gl∧eV d=my [d.i] (kc d.i d.aa) d.gn d.gl:=⟨if_pos h,if_pos h⟩
theorem Xm (d:CS) (h:¬mD [d.i] (kc d.i d.aa) d.gn d.gl=0):eU d=[d.i]∧eV d=kc d.i d.aa:=⟨if_neg h,if_neg h⟩
theorem OU (i:Int) (l:List E):(kc i l).length=l.length:=List.length_map _
theorem RU {L:Lv} {d:CS} (h:nj L d=true):(d.aa.length≤400∧d.q.length≤80000)∧(d.o=true→kR L d=d)∧(d.o=false→¬Hm (dV d.t d.ee) d.l d.i=0→kR L d=kW d)∧(d.o=false→Hm (dV d.t d.ee) d.l d.i=0→gG L d (dV d.t d.ee+1) d.i 0=true∧kR L d=fH L (fP d (dV d.t d.ee+1) d.i 0)):=by
 unfold nj mS at h
 simp only [Bool.and_eq_true,Bool.or_eq_true,Bool.not_eq_true',decide_eq_true_eq,decide_eq_false_iff_not] at h
 obtain⟨h1,h2⟩:=h
 unfold kR
 refine⟨h1,fun e=>if_pos e,fun e1 e2=>?_,fun e1 e2=>?_⟩
 ·rw [if_neg (by rw [e1];decide),if_neg e2]
 ·rw [if_neg (by rw [e1];decide),if_pos e2]
  refine⟨?_,rfl⟩
  rcases h2 with h2|h2|h2
  ·rw [e1] at h2
   cases h2
  ·exact absurd e2 h2
  ·exact h2
theorem Tf {L:Lv} {d:CS} {e r p:Int} (h:gG L d e r p=true):(d.aa.length≤400∧d.q.length≤80000)∧gO L (fP d e r p)=true:=by
 unfold gG at h
 rw [Bool.and_eq_true,decide_eq_true_eq] at h
 exact h
theorem end_1 {d:CS} (h:d.o=true):kW d=d:=if_pos h
theorem Yr {d:CS} (h:d.o=false) {t q:List E} (e:cU d d.aa.length=dm d t q):kW d=⟨d.i,0,0,d.t,0,t,[],[],[],0,[],[],d.l,true,q⟩:=by
 unfold kW
 rw [if_neg (by rw [h];decide),e]
 rfl
theorem ma (d:CS) (a:Int) (r:VT):(aL d a r).aa.length=d.aa.length:=by
 unfold aL
 split
 ·exact List.length_set
 ·rfl
structure Kd where
 PM:Int→List E→List E
 TW:List E→Bool
 KH:CS→Int→Int→Bool
 WS:CS→Int→Int→CS
 JR:CS→CH→List Int→List E→Bool
 VJ:CS→CH→List Int→List E→CS
 GX:CS→Bool
 QD:CS→CS
 Lh:CS→Int→Int→Int→Bool
 Qq:CS→Int→Int→Int→CS
 Xf:CS→Bool
 Wc:CS→CS
 Kz:CS→Bool
 KX:CS→CS
 KY:CS→Bool
 PW:CS→CS
def bJ (L:Lv):Kd:=⟨kc,fun l=>decide (l.length≤1000),pF L,jY L,sH L,wQ L,gO L,fH L,gG L,fun d e r p=>fH L (fP d e r p),L.ok,L.B,nj L,kR L,mS,kW⟩
variable {V:Lv}
noncomputable def bH (F:Kd):aY:=fun xs h=>match xs with
 |[.one (.ptr 0 0)]=>(match vL h with
  |some s=>some ⟨F.Xf s=true,.bK [],(eO (F.Wc s)),[.one (.ptr 0 0)]⟩
  |none=>none)
 |_=>none
theorem bX {l:List (Nat × aY)} {fn:Func} {args:List SA} {h:H} {p:qi} (hd:∀ (b:Bs) (gv:List Value) (Z:(Ex→St→Prop)→Ex→St→Prop) (_:∀ K,Z K=K) (A:Ar) (_:Ar.U=A) (L:Code→St→(Ex→St→Prop)→Prop) (_:Lp Tryz.prog b gv=L),Cd A (xj l) L (pw fn) (Ry.start fn.ntmps args h) (Z fun e s'=>aM A (xj l) fn.results.toList p e s')):aV l fn args h p:=fun b gv=>@aD _ _ _ _ _ _ _ (ae rfl) _ _ (fun _=>rfl) rfl (hd b gv id (fun _=>rfl) _ rfl _ rfl)
noncomputable def zi (F:Kd):aY:=fun xs h=>match xs,h with
 |[.agg [.val (.int .i64 c_i),.val (.int .i64 _),.val (.int .i64 _),.val (.int .i64 _),.val (.int .i64 _),.own 0,.sl none (.ints .i64 _),.sl none (.ints .i64 _),.sl none (.ah (.int .i64 (.int .i64 (.int .i64 (.int .i64 (.bool .nil))))) _),.val (.int .i64 _),.sl none (.ints .i64 _),.sl none (.ah (.int .i64 (.int .i64 (.int .i64 (.int .i64 (.bool .nil))))) _),.val (.int .i64 _),.val (.bool _)]],[(0,.row 58 (.ah (.int .i64 (.int .i64 (.int .i64 (.int .i64 (.bool (.bool (.int .i64 .nil))))))) c_ties))]=>some ⟨F.TW c_ties=true,.sa (.agg [.sl none (.ints .i64 [c_i]),.sl none (.ah (.int .i64 (.int .i64 (.int .i64 (.int .i64 (.bool .nil))))) (F.PM c_i c_ties))]),[(0,.row 58 (.ah (.int .i64 (.int .i64 (.int .i64 (.int .i64 (.bool (.bool (.int .i64 .nil))))))) c_ties))],[Any,.one (.own 0)]⟩
 |_,_=>none
theorem VK (c_i:Int) (c_ee:Int) (c_er:Int) (c_t:Int) (c_p:Int) (c_ties:List E) (c_w:List Int) (c_gn:List Int) (c_gl:List E) (c_ph:Int) (c_tn:List Int) (c_tl:List E) (c_l:Int) (c_o:Bool) (hC:(bJ V).TW c_ties=true):aV [] Tryz.f17 [.agg [.val (.int .i64 c_i),.val (.int .i64 c_ee),.val (.int .i64 c_er),.val (.int .i64 c_t),.val (.int .i64 c_p),.own 0,.sl none (.ints .i64 c_w),.sl none (.ints .i64 c_gn),.sl none (.ah (.int .i64 (.int .i64 (.int .i64 (.int .i64 (.bool .nil))))) c_gl),.val (.int .i64 c_ph),.sl none (.ints .i64 c_tn),.sl none (.ah (.int .i64 (.int .i64 (.int .i64 (.int .i64 (.bool .nil))))) c_tl),.val (.int .i64 c_l),.val (.bool c_o)]] [(0,.row 58 (.ah (.int .i64 (.int .i64 (.int .i64 (.int .i64 (.bool (.bool (.int .i64 .nil))))))) c_ties))] ⟨(bJ V).TW c_ties=true,.sa (.agg [.sl none (.ints .i64 [c_i]),.sl none (.ah (.int .i64 (.int .i64 (.int .i64 (.int .i64 (.bool .nil))))) ((bJ V).PM c_i c_ties))]),[(0,.row 58 (.ah (.int .i64 (.int .i64 (.int .i64 (.int .i64 (.bool (.bool (.int .i64 .nil))))))) c_ties))],[Any,.one (.own 0)]⟩:=by
 refine @bX _ _ _ _ _ ?_
 intro b gv Z zq A hA L hL
 have hk:c_ties.length≤1000:=of_decide_eq_true (show decide (c_ties.length≤1000)=true from hC)
 have hk6:c_ties.length≤1000000:=by omega
 have hfs:=af.nil
 generalize hF:(bJ V)=F at hC hfs ⊢
 generalize hG0:VoR.Fs.U=G0 at hC hfs ⊢
 generalize hG1:KsC.Kc.U=G1 at hC hfs ⊢
 generalize hG2:KsU.Ku.U=G2 at hC hfs ⊢
 generalize hG3:MgR.Mg.U=G3 at hC hfs ⊢
 generalize hG4:ChQ.Cq.U=G4 at hC hfs ⊢
 repeat' (first|(refine aw zq ?_;try dsimp only)|refine ax zq ?_ (ae hL)|refine az zq ?_|refine ay ?_|refine aq ?_|refine ar ?_|refine av ?_|refine au rfl ?_|refine ai rfl ?_|refine aj rfl ?_|(refine Cd.mk ?_;cbv)|(refine aE.mk ?_;cbv)|(refine aM.mk ?_;cbv)|exact trivial|refine And.intro ?_ ?_|refine bu fun _=>?_|refine br fun _=>?_)
 subst hL
 refine ba (bx hfs) (Yx c_i c_ties) (fun y=>cC Tryz.f17.ntmps [(1,.ptr 4 0),(2,.ptr 3 0),(3,.ptr 2 0),(11,.own 0),(12,.val (.int .i64 (A.dN c_ties))),(13,.val (.int .i64 y.i))] [(0,.row 58 (.ah (.int .i64 (.int .i64 (.int .i64 (.int .i64 (.bool (.bool (.int .i64 .nil))))))) c_ties)),(2,.cells 29 [.sl none (.ints .i64 [c_i]),.sl (some (5,94)) (.ah (.int .i64 (.int .i64 (.int .i64 (.int .i64 (.bool .nil))))) y.o)]),(3,.cells 29 [.any,.any]),(4,.cells 31 [.val (.int .i64 c_i),.val (.int .i64 c_ee),.val (.int .i64 c_er),.val (.int .i64 c_t),.val (.int .i64 c_p),.own 0,.sl none (.ints .i64 c_w),.sl none (.ints .i64 c_gn),.sl none (.ah (.int .i64 (.int .i64 (.int .i64 (.int .i64 (.bool .nil))))) c_gl),.val (.int .i64 c_ph),.sl none (.ints .i64 c_tn),.sl none (.ah (.int .i64 (.int .i64 (.int .i64 (.int .i64 (.bool .nil))))) c_tl),.val (.int .i64 c_l),.val (.bool c_o)]),(5,.tok)] [Any,.one (.own 0)]) (ZE c_ties) owR ⟨0,[]⟩ ?_ ?_ ?_
 ·exact Mp _ _
 ·cbv
  repeat' (first|exact trivial|exact rfl|refine And.intro ?_ ?_)
 rintro⟨i,o⟩ hq O hO
 have hst:=fun h=>NW hk6 hq h
 have hen:=fun h=>SN hq h
 have q0:=hq.1
 have q1:=hq.2.1
 dsimp only at q0 q1
 subst hA
 generalize hA:Ar.U=A
 generalize hL:Lp _ _ _=L
 refine aR zq ?_
 repeat' (first|(refine aw zq ?_;try dsimp only)|refine ax zq ?_ (ae hL)|refine az zq ?_|refine ay ?_|refine aq ?_|refine ar ?_|refine av ?_|refine au rfl ?_|refine ai rfl ?_|refine aj rfl ?_|(refine Cd.mk ?_;cbv)|(refine aE.mk ?_;cbv)|(refine aM.mk ?_;cbv)|exact trivial|refine And.intro ?_ ?_|refine bu fun _=>?_|refine br fun _=>?_)
 all_goals first|(show L _ _ _;skip)|(clear hL zq Z hq;subst hA hF hG0 hG1 hG2 hG3 hG4 hO;simp only [bJ,Ar.U] at * <;> (try simp only [Rx] at *) <;> grind [al,oY,mS,py];done)
theorem Jj:aA Tryz.prog 17 (zi (bJ V)):=by
 refine aG af.nil Tryz.func17 rfl rfl fun xs h p hp=>?_
 unfold zi at hp
 split at hp
 ·cases hp
  exact⟨aB rfl,fun hC _=>@VK V _ _ _ _ _ _ _ _ _ _ _ _ _ _ hC⟩
 ·cases hp
theorem HG:iB (zi (bJ V)):=by
 intro xs h p hp
 unfold zi at hp
 split at hp
 ·cases hp
  rfl
 ·cases hp
noncomputable def yL (F:Ku):aY:=tC (wA F) (nL F)
theorem uP:aA Tryz.prog 74 (yL KsU.Ku.U):=AB Kr tv
noncomputable def zt (F:Ku):aY:=tC (nL F) (qH F)
theorem vW:aA Tryz.prog 74 (zt KsU.Ku.U):=AB tv rV
noncomputable def yp (F:Kd):aY:=fun xs h=>match xs with
 |[.one (.ptr 0 0),.one (.val (.int .i64 k)),.one (.val (.int .i64 a))]=>(match vL h with
  |some s=>some ⟨F.KH s k a=true,.bK [],(eO (F.WS s k a)),[.one (.ptr 0 0),Any,Any]⟩
  |none=>none)
 |_=>none
theorem PB (hb:aA Tryz.prog 33 (bH (bJ V))) (k:Int) (a:Int) (s:CS) (hC:(bJ V).KH s k a=true):aV [(74,yL KsU.Ku.U),(33,bH (bJ V))] Tryz.f115 [.one (.ptr 0 0),.one (.val (.int .i64 k)),.one (.val (.int .i64 a))] (eO s) ⟨(bJ V).KH s k a=true,.bK [],(eO ((bJ V).WS s k a)),[.one (.ptr 0 0),Any,Any]⟩:=by
 refine @bX _ _ _ _ _ ?_
 intro b gv Z zq A hA L hL
 have hgo:=Ud (show pF V s k a=true from hC)
 have hfs:=(af.cons uP (af.cons hb af.nil rfl) rfl)
 generalize hF:(bJ V)=F at hC hfs ⊢
 generalize hG0:VoR.Fs.U=G0 at hC hfs ⊢
 generalize hG1:KsC.Kc.U=G1 at hC hfs ⊢
 generalize hG2:KsU.Ku.U=G2 at hC hfs ⊢
 generalize hG3:MgR.Mg.U=G3 at hC hfs ⊢
 generalize hG4:ChQ.Cq.U=G4 at hC hfs ⊢
 repeat' (first|(refine aw zq ?_;try dsimp only)|refine ax zq ?_ (ae hL)|refine az zq ?_|refine ay ?_|refine aq ?_|refine ar ?_|refine av ?_|refine au rfl ?_|refine ai rfl ?_|refine aj rfl ?_|(refine Cd.mk ?_;cbv)|(refine aE.mk ?_;cbv)|(refine aM.mk ?_;cbv)|exact trivial|refine And.intro ?_ ?_|refine bu fun _=>?_|refine br fun _=>?_)
 all_goals first|(show L _ _ _;skip)|(clear hL hfs zq Z;subst hA hF hG0 hG1 hG2 hG3 hG4;simp only [bJ,VoR.Fs.U,KsU.Ku.U,Ar.U,kj] at * <;> (try simp only [ub,ll,lD,uu,uE,uH,lu,lE,lj,lz,lg,uD,uf] at *) <;> first|(have hsl:=ma s a (qN (tie s a));generalize aL s a (qN (tie s a))=Y at hsl ⊢;rcases Y with ⟨_,_,_,_,_,y6,_,_,_,_,_,_,_,_,_⟩;rcases s with ⟨_,_,_,_,_,s6,_,_,_,_,_,_,_,_,_⟩;cases y6 <;> cases s6 <;> first|exact congrArg Int.ofNat hsl|(exfalso;simp at hsl;done))|(have hsl:=ma s a (kY (tie s a));generalize aL s a (kY (tie s a))=Y at hsl ⊢;rcases Y with ⟨_,_,_,_,_,y6,_,_,_,_,_,_,_,_,_⟩;rcases s with ⟨_,_,_,_,_,s6,_,_,_,_,_,_,_,_,_⟩;cases y6 <;> cases s6 <;> first|exact congrArg Int.ofNat hsl|(exfalso;simp at hsl;done))|grind [al,oY,mS,py,ub,ll,lD,uu,uE,uH,lu,lE,lj,lz,lg,uD,uf];done)
theorem Av (hb:aA Tryz.prog 33 (bH (bJ V))):aA Tryz.prog 115 (yp (bJ V)):=by
 refine aG (af.cons uP (af.cons hb af.nil rfl) rfl) Tryz.func115 rfl rfl fun xs h p hp=>?_
 unfold yp at hp
 split at hp
 ·split at hp
  ·rename_i e0
   cases hp
   have g0:=cV e0
   subst g0
   exact⟨aB rfl,fun hC _=>@PB V hb _ _ _ hC⟩
  ·cases hp
 ·cases hp
theorem GI (c:CH):(⟨c.k,c.a,c.b,c.s⟩:CH)=c:=rfl
theorem Ee (a b:Int):(if al .gtr b a=true then b else a)=dV a b:=by
 unfold dV
 simp only [al,decide_eq_true_eq,gt_iff_lt]
theorem Zd {d:CS} {a:Int} (h:rb (d.aa.getD a.toNat []) 5=true):Wi d a=kY (tie d a):=if_pos h
theorem Zc {d:CS} {a:Int} (h:rb (d.aa.getD a.toNat []) 5=false):Wi d a=zY (tie d a):=if_neg (by unfold tie;rw [h];decide)
noncomputable def NV (F:Kd):aY:=fun xs h=>match xs with
 |[.one (.ptr 0 0),.agg [.val (.int .i64 c_k),.val (.int .i64 c_a),.val (.int .i64 c_b),.val (.int .i64 c_s)],.agg [.sl none (.ints .i64 v_n),.sl none (.ah (.int .i64 (.int .i64 (.int .i64 (.int .i64 (.bool .nil))))) v_l)]]=>(match vL h with
  |some s=>some ⟨F.JR s ⟨c_k,c_a,c_b,c_s⟩ v_n v_l=true,.bK [],(eO (F.VJ s ⟨c_k,c_a,c_b,c_s⟩ v_n v_l)),[.one (.ptr 0 0),Any,Any]⟩
  |none=>none)
 |_=>none
theorem aag (hb:aA Tryz.prog 33 (bH (bJ V))) (c_k:Int) (c_a:Int) (c_b:Int) (c_s:Int) (v_n:List Int) (v_l:List E) (s:CS) (hC:(bJ V).JR s ⟨c_k,c_a,c_b,c_s⟩ v_n v_l=true):aV [(95,rU KsC.Kc.U),(bG 95,fy),(96,Ak [[none],[none],[none,none,none,some (.ints .i64 []),some (.ah (.int .i64 (.int .i64 (.int .i64 (.int .i64 (.bool .nil))))) []),none,none,none,none]] (iC KsC.Kc.U)),(64,Ge KsC.Kc.U),(68,sq KsC.Kc.U),(bG 68,fy),(115,yp (bJ V))] Tryz.f73 [.one (.ptr 0 0),.agg [.val (.int .i64 c_k),.val (.int .i64 c_a),.val (.int .i64 c_b),.val (.int .i64 c_s)],.agg [.sl none (.ints .i64 v_n),.sl none (.ah (.int .i64 (.int .i64 (.int .i64 (.int .i64 (.bool .nil))))) v_l)]] (eO s) ⟨(bJ V).JR s ⟨c_k,c_a,c_b,c_s⟩ v_n v_l=true,.bK [],(eO ((bJ V).VJ s ⟨c_k,c_a,c_b,c_s⟩ v_n v_l)),[.one (.ptr 0 0),Any,Any]⟩:=by
 refine @bX _ _ _ _ _ ?_
 intro b gv Z zq A hA L hL
 have hgo:=DC (show sH V s ⟨c_k,c_a,c_b,c_s⟩ v_n v_l=true from hC)
 have hc1:=fun h=>Yd (d:=s) (c:=⟨c_k,c_a,c_b,c_s⟩) (v:=v_n) (l:=v_l) h
 have hc2:=fun h=>YG (d:=s) (c:=⟨c_k,c_a,c_b,c_s⟩) (v:=v_n) (l:=v_l) h
 have hkl:=qJ s.aa s.p
 have hat:=lf s.aa c_b
 have hfs:=(af.keeps Ea Em (af.cons (dq [[none],[none],[none,none,none,some (.ints .i64 []),some (.ah (.int .i64 (.int .i64 (.int .i64 (.int .i64 (.bool .nil))))) []),none,none,none,none]] fF) (af.cons pU (af.keeps oS oO (af.cons (Av hb) af.nil rfl)) rfl) rfl))
 generalize hF:(bJ V)=F at hC hfs ⊢
 generalize hG0:VoR.Fs.U=G0 at hC hfs ⊢
 generalize hG1:KsC.Kc.U=G1 at hC hfs ⊢
 generalize hG2:KsU.Ku.U=G2 at hC hfs ⊢
 generalize hG3:MgR.Mg.U=G3 at hC hfs ⊢
 generalize hG4:ChQ.Cq.U=G4 at hC hfs ⊢
 repeat' (first|(refine aw zq ?_;try dsimp only)|refine ax zq ?_ (ae hL)|refine az zq ?_|refine ay ?_|refine aq ?_|refine ar ?_|refine av ?_|refine au rfl ?_|refine ai rfl ?_|refine aj rfl ?_|(refine Cd.mk ?_;cbv)|(refine aE.mk ?_;cbv)|(refine aM.mk ?_;cbv)|exact trivial|refine And.intro ?_ ?_|refine bu fun _=>?_|refine br fun _=>?_)
 all_goals first|(show L _ _ _;skip)|(clear hL hfs zq Z;subst hA hF hG0 hG1 hG2 hG3 hG4;simp only [bJ,VoR.Fs.U,KsC.Kc.U,Ar.U,kj] at * <;> grind [al,oY,mS,py];done)
 ·skip
  subst hL
  refine ba (bx hfs) (Rs s.q (cw s.aa s.p) ⟨3,s.ee,s.er,v_n,v_l,c_k,c_a,c_b,c_s⟩) (fun y=>cC Tryz.f73.ntmps [(0,.ptr 1 0),(4,.ptr 4 0),(5,.ptr 5 0),(6,.ptr 6 0),(23,.sl none (.ints .i64 (G1.lB s.aa s.p))),(24,.val (.int .i64 (A.fE (G1.lB s.aa s.p)))),(25,.val (.int .i64 y.i))] [(1,.cells 75 [.val (.int .i64 s.i),.val (.int .i64 s.ee),.val (.int .i64 s.er),.val (.int .i64 s.t),.val (.int .i64 s.p),.own 2,.sl none (.ints .i64 s.w),.sl none (.ints .i64 s.gn),.sl none (.ah (.int .i64 (.int .i64 (.int .i64 (.int .i64 (.bool .nil))))) s.gl),.val (.int .i64 s.ph),.sl none (.ints .i64 s.tn),.sl none (.ah (.int .i64 (.int .i64 (.int .i64 (.int .i64 (.bool .nil))))) s.tl),.val (.int .i64 s.l),.val (.bool s.o),.sl (some (3,89)) (.ah (.int .i64 (.int .i64 (.int .i64 (.int .i64 (.ints .i64 (.ah (.int .i64 (.int .i64 (.int .i64 (.int .i64 (.bool .nil))))) (.int .i64 (.int .i64 (.int .i64 (.int .i64 .nil)))))))))) y.q)]),(2,.row 58 (.ah (.int .i64 (.int .i64 (.int .i64 (.int .i64 (.bool (.bool (.int .i64 .nil))))))) s.aa)),(3,.tok),(4,.cells 38 [.val (.int .i64 c_k),.val (.int .i64 c_a),.val (.int .i64 c_b),.val (.int .i64 c_s)]),(5,.cells 29 [.sl none (.ints .i64 v_n),.sl none (.ah (.int .i64 (.int .i64 (.int .i64 (.int .i64 (.bool .nil))))) v_l)]),(6,.cells 40 [.val (.int .i64 3),.val (.int .i64 s.ee),.val (.int .i64 s.er),.sl none (.ints .i64 v_n),.sl none (.ah (.int .i64 (.int .i64 (.int .i64 (.int .i64 (.bool .nil))))) v_l),.val (.int .i64 c_k),.val (.int .i64 c_a),.val (.int .i64 c_b),.val (.int .i64 c_s)])] [.one (.ptr 1 0),Any,Any]) (GD (cw s.aa s.p)) (Vi 25 1) ⟨0,s.q⟩ ?_ ?_ ?_
  ·exact xX _ _ _
  ·cbv
   repeat' (first|exact trivial|exact rfl|refine And.intro ?_ ?_)
  rintro⟨i,q⟩ hq O hO
  have hst:=fun hw hq0 h=>wO hw hq0 hq h
  have hen:=fun h=>Bu hq h
  have q0:=hq.1
  have q1:=hq.2.1
  dsimp only at q0 q1
  subst hA
  generalize hA:Ar.U=A
  generalize hL:Lp _ _ _=L
  refine aR zq ?_
  repeat' (first|(refine aw zq ?_;try dsimp only)|refine ax zq ?_ (ae hL)|refine az zq ?_|refine ay ?_|refine aq ?_|refine ar ?_|refine av ?_|refine au rfl ?_|refine ai rfl ?_|refine aj rfl ?_|(refine Cd.mk ?_;cbv)|(refine aE.mk ?_;cbv)|(refine aM.mk ?_;cbv)|exact trivial|refine And.intro ?_ ?_|refine bu fun _=>?_|refine br fun _=>?_)
  all_goals first|(show L _ _ _;skip)|(clear hL hfs zq Z hq;subst hA hF hG0 hG1 hG2 hG3 hG4 hO;simp only [bJ,VoR.Fs.U,KsC.Kc.U,Ar.U,oX] at * <;> (try simp only [ub,ll,lD,uu,uE,uH,lu,lE,lj,lz,lg,uD,uf] at *) <;> grind [al,oY,mS,py];done)
 ·skip
  subst hL
  refine ba (bx hfs) (Rs s.q (cw s.aa s.p) ⟨3,s.ee,s.er,[],[],c_k,c_a,c_b,c_s⟩) (fun y=>cC Tryz.f73.ntmps [(0,.ptr 1 0),(4,.ptr 4 0),(5,.ptr 5 0),(6,.ptr 6 0),(23,.sl none (.ints .i64 (G1.lB s.aa s.p))),(24,.val (.int .i64 (A.fE (G1.lB s.aa s.p)))),(25,.val (.int .i64 y.i))] [(1,.cells 75 [.val (.int .i64 s.i),.val (.int .i64 s.ee),.val (.int .i64 s.er),.val (.int .i64 s.t),.val (.int .i64 s.p),.own 2,.sl none (.ints .i64 s.w),.sl none (.ints .i64 s.gn),.sl none (.ah (.int .i64 (.int .i64 (.int .i64 (.int .i64 (.bool .nil))))) s.gl),.val (.int .i64 s.ph),.sl none (.ints .i64 s.tn),.sl none (.ah (.int .i64 (.int .i64 (.int .i64 (.int .i64 (.bool .nil))))) s.tl),.val (.int .i64 s.l),.val (.bool s.o),.sl (some (3,89)) (.ah (.int .i64 (.int .i64 (.int .i64 (.int .i64 (.ints .i64 (.ah (.int .i64 (.int .i64 (.int .i64 (.int .i64 (.bool .nil))))) (.int .i64 (.int .i64 (.int .i64 (.int .i64 .nil)))))))))) y.q)]),(2,.row 58 (.ah (.int .i64 (.int .i64 (.int .i64 (.int .i64 (.bool (.bool (.int .i64 .nil))))))) s.aa)),(3,.tok),(4,.cells 38 [.val (.int .i64 c_k),.val (.int .i64 c_a),.val (.int .i64 c_b),.val (.int .i64 c_s)]),(5,.cells 29 [.sl none (.ints .i64 v_n),.sl none (.ah (.int .i64 (.int .i64 (.int .i64 (.int .i64 (.bool .nil))))) v_l)]),(6,.cells 40 [.val (.int .i64 3),.val (.int .i64 s.ee),.val (.int .i64 s.er),.sl none (.ints .i64 []),.sl none (.ah (.int .i64 (.int .i64 (.int .i64 (.int .i64 (.bool .nil))))) []),.val (.int .i64 c_k),.val (.int .i64 c_a),.val (.int .i64 c_b),.val (.int .i64 c_s)])] [.one (.ptr 1 0),Any,Any]) (GD (cw s.aa s.p)) (Vi 25 1) ⟨0,s.q⟩ ?_ ?_ ?_
  ·exact xX _ _ _
  ·cbv
   repeat' (first|exact trivial|exact rfl|refine And.intro ?_ ?_)
  rintro⟨i,q⟩ hq O hO
  have hst:=fun hw hq0 h=>wO hw hq0 hq h
  have hen:=fun h=>Bu hq h
  have q0:=hq.1
  have q1:=hq.2.1
  dsimp only at q0 q1
  subst hA
  generalize hA:Ar.U=A
  generalize hL:Lp _ _ _=L
  refine aR zq ?_
  repeat' (first|(refine aw zq ?_;try dsimp only)|refine ax zq ?_ (ae hL)|refine az zq ?_|refine ay ?_|refine aq ?_|refine ar ?_|refine av ?_|refine au rfl ?_|refine ai rfl ?_|refine aj rfl ?_|(refine Cd.mk ?_;cbv)|(refine aE.mk ?_;cbv)|(refine aM.mk ?_;cbv)|exact trivial|refine And.intro ?_ ?_|refine bu fun _=>?_|refine br fun _=>?_)
  all_goals first|(show L _ _ _;skip)|(clear hL hfs zq Z hq;subst hA hF hG0 hG1 hG2 hG3 hG4 hO;simp only [bJ,VoR.Fs.U,KsC.Kc.U,Ar.U,oX] at * <;> (try simp only [ub,ll,lD,uu,uE,uH,lu,lE,lj,lz,lg,uD,uf] at *) <;> grind [al,oY,mS,py];done)
theorem Cv (hb:aA Tryz.prog 33 (bH (bJ V))):aA Tryz.prog 73 (NV (bJ V)):=by
 refine aG (af.keeps Ea Em (af.cons (dq [[none],[none],[none,none,none,some (.ints .i64 []),some (.ah (.int .i64 (.int .i64 (.int .i64 (.int .i64 (.bool .nil))))) []),none,none,none,none]] fF) (af.cons pU (af.keeps oS oO (af.cons (Av hb) af.nil rfl)) rfl) rfl)) Tryz.func73 rfl rfl fun xs h p hp=>?_
 unfold NV at hp
 split at hp
 ·split at hp
  ·rename_i e0
   cases hp
   have g0:=cV e0
   subst g0
   exact⟨aB rfl,fun hC _=>@aag V hb _ _ _ _ _ _ _ hC⟩
  ·cases hp
 ·cases hp
noncomputable def sy (F:Kd):aY:=fun xs h=>match xs with
 |[.one (.ptr 0 0)]=>(match vL h with
  |some s=>some ⟨F.GX s=true,.bK [],(eO (F.QD s)),[.one (.ptr 0 0)]⟩
  |none=>none)
 |_=>none
theorem SJ (hb:aA Tryz.prog 33 (bH (bJ V))) (s:CS) (hC:(bJ V).GX s=true):aV [(126,sG KsC.Kc.U),(bG 126,fy),(17,zi (bJ V)),(bG 17,fy),(113,kJ MgR.Mg.U),(96,Ak [[none],[none],[none,none,none,some (.ints .i64 []),some (.ah (.int .i64 (.int .i64 (.int .i64 (.int .i64 (.bool .nil))))) []),none,none,none,none]] (iC KsC.Kc.U)),(127,mY ChQ.Cq.U),(73,NV (bJ V))] Tryz.f97 [.one (.ptr 0 0)] (eO s) ⟨(bJ V).GX s=true,.bK [],(eO ((bJ V).QD s)),[.one (.ptr 0 0)]⟩:=by
 refine @bX _ _ _ _ _ ?_
 intro b gv Z zq A hA L hL
 have hgo:=UL (show gO V s=true from hC)
 have hsi:=NQ s
 have hs1:=Zp s
 have hs2:=Xm s
 have hol:=OU s.i s.aa
 have hfs:=(af.keeps DK CE (af.keeps (Jj (V:=V)) HG (af.cons iu (af.cons (dq [[none],[none],[none,none,none,some (.ints .i64 []),some (.ah (.int .i64 (.int .i64 (.int .i64 (.int .i64 (.bool .nil))))) []),none,none,none,none]] fF) (af.cons oK (af.cons (Cv hb) af.nil rfl) rfl) rfl) rfl)))
 generalize hF:(bJ V)=F at hC hfs ⊢
 generalize hG0:VoR.Fs.U=G0 at hC hfs ⊢
 generalize hG1:KsC.Kc.U=G1 at hC hfs ⊢
 generalize hG2:KsU.Ku.U=G2 at hC hfs ⊢
 generalize hG3:MgR.Mg.U=G3 at hC hfs ⊢
 generalize hG4:ChQ.Cq.U=G4 at hC hfs ⊢
 repeat' (first|(refine aw zq ?_;try dsimp only)|refine ax zq ?_ (ae hL)|refine az zq ?_|refine ay ?_|refine aq ?_|refine ar ?_|refine av ?_|refine au rfl ?_|refine ai rfl ?_|refine aj rfl ?_|(refine Cd.mk ?_;cbv)|(refine aE.mk ?_;cbv)|(refine aM.mk ?_;cbv)|exact trivial|refine And.intro ?_ ?_|refine bu fun _=>?_|refine br fun _=>?_)
 all_goals first|(show L _ _ _;skip)|(clear hL hfs zq Z;subst hA hF hG0 hG1 hG2 hG3 hG4;simp only [bJ,VoR.Fs.U,KsC.Kc.U,MgR.Mg.U,ChQ.Cq.U,Ar.U,kj,GI,oX] at * <;> (try simp only [GI] at *) <;> grind [al,oY,mS,py];done)
theorem kD (hb:aA Tryz.prog 33 (bH (bJ V))):aA Tryz.prog 97 (sy (bJ V)):=by
 refine aG (af.keeps DK CE (af.keeps (Jj (V:=V)) HG (af.cons iu (af.cons (dq [[none],[none],[none,none,none,some (.ints .i64 []),some (.ah (.int .i64 (.int .i64 (.int .i64 (.int .i64 (.bool .nil))))) []),none,none,none,none]] fF) (af.cons oK (af.cons (Cv hb) af.nil rfl) rfl) rfl) rfl))) Tryz.func97 rfl rfl fun xs h p hp=>?_
 unfold sy at hp
 split at hp
 ·split at hp
  ·rename_i e0
   cases hp
   have g0:=cV e0
   subst g0
   exact⟨aB rfl,fun hC _=>@SJ V hb _ hC⟩
  ·cases hp
 ·cases hp
theorem Tc {d:CS} {e r p:Int} {w:List Int} {q:List E} (h1:w=cw d.aa p) (h2:q=d.q ++ (cw d.aa p).map fun x=>eF x ⟨1,e,r,[],[],0,0,0,0⟩):fP d e r p=jl ⟨d.i,e,r,dV d.t e,p,d.aa,w,[],[],1,[],[],d.l,d.o,q⟩ d.aa.length:=by
 subst h1 h2
 rfl
noncomputable def qT (F:Kd):aY:=fun xs h=>match xs with
 |[.one (.ptr 0 0),.agg [.val (.int .i64 e_e),.val (.int .i64 e_r)],.one (.val (.int .i64 p))]=>(match vL h with
  |some s=>some ⟨F.Lh s e_e e_r p=true,.bK [],(eO (F.Qq s e_e e_r p)),[.one (.ptr 0 0),Any,Any]⟩
  |none=>none)
 |_=>none
theorem NY (hb:aA Tryz.prog 33 (bH (bJ V))) (e_e:Int) (e_r:Int) (p:Int) (s:CS) (hC:(bJ V).Lh s e_e e_r p=true):aV [(95,nf KsC.Kc.U),(bG 95,fy),(96,Ak [[none],[none],[none,none,none,some (.ints .i64 []),some (.ah (.int .i64 (.int .i64 (.int .i64 (.int .i64 (.bool .nil))))) []),none,none,none,none]] (Cg KsC.Kc.U)),(74,qH KsU.Ku.U),(97,sy (bJ V))] Tryz.f58 [.one (.ptr 0 0),.agg [.val (.int .i64 e_e),.val (.int .i64 e_r)],.one (.val (.int .i64 p))] (eO s) ⟨(bJ V).Lh s e_e e_r p=true,.bK [],(eO ((bJ V).Qq s e_e e_r p)),[.one (.ptr 0 0),Any,Any]⟩:=by
 refine @bX _ _ _ _ _ ?_
 intro b gv Z zq A hA L hL
 have hgo:=Tf (show gG V s e_e e_r p=true from hC)
 have hkl:=qJ s.aa p
 have hfs:=(af.keeps Ab zA (af.cons (dq [[none],[none],[none,none,none,some (.ints .i64 []),some (.ah (.int .i64 (.int .i64 (.int .i64 (.int .i64 (.bool .nil))))) []),none,none,none,none]] Ds) (af.cons rV (af.cons (kD hb) af.nil rfl) rfl) rfl))
 generalize hF:(bJ V)=F at hC hfs ⊢
 generalize hG0:VoR.Fs.U=G0 at hC hfs ⊢
 generalize hG1:KsC.Kc.U=G1 at hC hfs ⊢
 generalize hG2:KsU.Ku.U=G2 at hC hfs ⊢
 generalize hG3:MgR.Mg.U=G3 at hC hfs ⊢
 generalize hG4:ChQ.Cq.U=G4 at hC hfs ⊢
 repeat' (first|(refine aw zq ?_;try dsimp only)|refine ax zq ?_ (ae hL)|refine az zq ?_|refine ay ?_|refine aq ?_|refine ar ?_|refine av ?_|refine au rfl ?_|refine ai rfl ?_|refine aj rfl ?_|(refine Cd.mk ?_;cbv)|(refine aE.mk ?_;cbv)|(refine aM.mk ?_;cbv)|exact trivial|refine And.intro ?_ ?_|refine bu fun _=>?_|refine br fun _=>?_)
 all_goals first|(show L _ _ _;skip)|(clear hL hfs zq Z;subst hA hF hG0 hG1 hG2 hG3 hG4;simp only [bJ,VoR.Fs.U,KsC.Kc.U,Ar.U,Ee] at * <;> grind [al,oY,mS,py];done)
 subst hL
 refine ba (bx hfs) (YS s.q (cw s.aa p) ⟨1,e_e,e_r,[],[],0,0,0,0⟩) (fun y=>cC Tryz.f58.ntmps [(0,.ptr 1 0),(50,.sl none (.ints .i64 (G1.lB s.aa p))),(51,.val (.int .i64 (A.fE (G1.lB s.aa p)))),(52,.val (.int .i64 y.i))] [(1,.cells 75 [.val (.int .i64 s.i),.val (.int .i64 e_e),.val (.int .i64 e_r),.val (.int .i64 (A.Bk (A.cmp .gtr e_e s.t) e_e s.t)),.val (.int .i64 p),.own 2,.sl (some (4,3)) (.ints .i64 y.w),.sl none (.ints .i64 []),.sl none (.ah (.int .i64 (.int .i64 (.int .i64 (.int .i64 (.bool .nil))))) []),.val (.int .i64 1),.sl none (.ints .i64 []),.sl none (.ah (.int .i64 (.int .i64 (.int .i64 (.int .i64 (.bool .nil))))) []),.val (.int .i64 s.l),.val (.bool s.o),.sl (some (3,89)) (.ah (.int .i64 (.int .i64 (.int .i64 (.int .i64 (.ints .i64 (.ah (.int .i64 (.int .i64 (.int .i64 (.int .i64 (.bool .nil))))) (.int .i64 (.int .i64 (.int .i64 (.int .i64 .nil)))))))))) y.q)]),(2,.row 58 (.ah (.int .i64 (.int .i64 (.int .i64 (.int .i64 (.bool (.bool (.int .i64 .nil))))))) s.aa)),(4,.tok),(3,.tok)] [.one (.ptr 1 0),Any,Any]) (ZG (cw s.aa p)) (wvR 52 1) ⟨0,[],s.q⟩ ?_ ?_ ?_
 ·exact Mr _ _ _
 ·cbv
  repeat' (first|exact trivial|exact rfl|refine And.intro ?_ ?_)
 rintro⟨i,w,q⟩ hq O hO
 have hst:=fun hw hq0 h=>OR hw hq0 hq h
 have hen:=fun h=>SU hq h
 have q0:=hq.1.1
 have q1:=hq.1.2.1
 dsimp only at q0 q1
 subst hA
 generalize hA:Ar.U=A
 generalize hL:Lp _ _ _=L
 refine aR zq ?_
 repeat' (first|(refine aw zq ?_;try dsimp only)|refine ax zq ?_ (ae hL)|refine az zq ?_|refine ay ?_|refine aq ?_|refine ar ?_|refine av ?_|refine au rfl ?_|refine ai rfl ?_|refine aj rfl ?_|(refine Cd.mk ?_;cbv)|(refine aE.mk ?_;cbv)|(refine aM.mk ?_;cbv)|exact trivial|refine And.intro ?_ ?_|refine bu fun _=>?_|refine br fun _=>?_)
 all_goals first|(show L _ _ _;skip)|(clear hL hfs zq Z hq;subst hA hF hG0 hG1 hG2 hG3 hG4 hO;simp only [bJ,VoR.Fs.U,KsC.Kc.U,Ar.U,Ee,oX] at * <;> grind [al,oY,mS,py];done)
 clear hO
 subst hL
 refine ba (bx hfs) (Vq jl ⟨s.i,e_e,e_r,dV s.t e_e,p,s.aa,w,[],[],1,[],[],s.l,s.o,q⟩) (fun y=>cC Tryz.f58.ntmps [(0,.ptr 1 0),(83,.val (.int .i64 (A.dN s.aa))),(84,.val (.int .i64 y.i))] [(1,.cells 75 [.val (.int .i64 s.i),.val (.int .i64 e_e),.val (.int .i64 e_r),.val (.int .i64 (A.Bk (A.cmp .gtr e_e s.t) e_e s.t)),.val (.int .i64 p),.own 2,.sl none (.ints .i64 w),.sl none (.ints .i64 []),.sl none (.ah (.int .i64 (.int .i64 (.int .i64 (.int .i64 (.bool .nil))))) []),.val (.int .i64 1),.sl none (.ints .i64 []),.sl none (.ah (.int .i64 (.int .i64 (.int .i64 (.int .i64 (.bool .nil))))) []),.val (.int .i64 s.l),.val (.bool s.o),.sl (some (3,89)) (.ah (.int .i64 (.int .i64 (.int .i64 (.int .i64 (.ints .i64 (.ah (.int .i64 (.int .i64 (.int .i64 (.int .i64 (.bool .nil))))) (.int .i64 (.int .i64 (.int .i64 (.int .i64 .nil)))))))))) y.q)]),(2,.row 58 (.ah (.int .i64 (.int .i64 (.int .i64 (.int .i64 (.bool (.bool (.int .i64 .nil))))))) y.t)),(3,.tok)] [.one (.ptr 1 0),Any,Any]) (Yi ⟨s.i,e_e,e_r,dV s.t e_e,p,s.aa,w,[],[],1,[],[],s.l,s.o,q⟩) (vtR 84 1 2) ⟨0,s.aa,q⟩ ?_ ?_ ?_
 ·exact Ed jl (fun _=>rfl) _
 ·cbv
  repeat' (first|exact trivial|exact rfl|refine And.intro ?_ ?_)
 rintro⟨j,t,q2⟩ hq2 O2 hO2
 have hst2:=fun hl h=>Cy (F:=jl) (r:=fun d a=>zY (tie d a)) (fun _ _=>rfl) RN hl hq2 h
 have hen2:=fun h=>JO hq2 h
 have r0:=hq2.1
 have r1:=hq2.2.1
 have had:=fun (h1:w=cw s.aa p) (h2:q=s.q ++ (cw s.aa p).map fun x=>eF x ⟨1,e_e,e_r,[],[],0,0,0,0⟩)=>Tc (d:=s) (e:=e_e) (r:=e_r) (p:=p) h1 h2
 dsimp only at r0 r1
 subst hA
 generalize hA:Ar.U=A
 generalize hL:Lp _ _ _=L
 refine aR zq ?_
 repeat' (first|(refine aw zq ?_;try dsimp only)|refine ax zq ?_ (ae hL)|refine az zq ?_|refine ay ?_|refine aq ?_|refine ar ?_|refine av ?_|refine au rfl ?_|refine ai rfl ?_|refine aj rfl ?_|(refine Cd.mk ?_;cbv)|(refine aE.mk ?_;cbv)|(refine aM.mk ?_;cbv)|exact trivial|refine And.intro ?_ ?_|refine bu fun _=>?_|refine br fun _=>?_)
 all_goals first|(show L _ _ _;skip)|(clear hL hfs zq Z hq hq2;subst hA hF hG0 hG1 hG2 hG3 hG4 hO2;simp only [bJ,VoR.Fs.U,KsC.Kc.U,KsU.Ku.U,Ar.U,Ee] at * <;> (try simp only [dm] at *) <;> (try simp only [ub,ll,lD,uu,uE,uH,lu,lE,lj,lz,lg,uD,uf] at *) <;> first|(have hsl:=ma ⟨s.i,e_e,e_r,dV s.t e_e,p,t,w,[],[],1,[],[],s.l,s.o,q2⟩ j (zY (tie ⟨s.i,e_e,e_r,dV s.t e_e,p,t,w,[],[],1,[],[],s.l,s.o,q2⟩ j));generalize aL ⟨s.i,e_e,e_r,dV s.t e_e,p,t,w,[],[],1,[],[],s.l,s.o,q2⟩ j (zY (tie ⟨s.i,e_e,e_r,dV s.t e_e,p,t,w,[],[],1,[],[],s.l,s.o,q2⟩ j))=Y at hsl ⊢;rcases Y with ⟨_,_,_,_,_,y6,_,_,_,_,_,_,_,_,_⟩;cases y6 <;> cases t <;> first|exact congrArg Int.ofNat hsl|(exfalso;simp at hsl;done))|grind [al,oY,mS,py,ub,ll,lD,uu,uE,uH,lu,lE,lj,lz,lg,uD,uf];done)
theorem oa (hb:aA Tryz.prog 33 (bH (bJ V))):aA Tryz.prog 58 (qT (bJ V)):=by
 refine aG (af.keeps Ab zA (af.cons (dq [[none],[none],[none,none,none,some (.ints .i64 []),some (.ah (.int .i64 (.int .i64 (.int .i64 (.int .i64 (.bool .nil))))) []),none,none,none,none]] Ds) (af.cons rV (af.cons (kD hb) af.nil rfl) rfl) rfl)) Tryz.func58 rfl rfl fun xs h p hp=>?_
 unfold qT at hp
 split at hp
 ·split at hp
  ·rename_i e0
   cases hp
   have g0:=cV e0
   subst g0
   exact⟨aB rfl,fun hC _=>@NY V hb _ _ _ _ hC⟩
  ·cases hp
 ·cases hp
noncomputable def yY (F:Kd):aY:=fun xs h=>match xs with
 |[.one (.ptr 0 0)]=>(match vL h with
  |some s=>some ⟨F.KY s=true,.bK [],(eO (F.PW s)),[.one (.ptr 0 0)]⟩
  |none=>none)
 |_=>none
theorem Wl (s:CS) (hC:(bJ V).KY s=true):aV [(74,zt KsU.Ku.U)] Tryz.f40 [.one (.ptr 0 0)] (eO s) ⟨(bJ V).KY s=true,.bK [],(eO ((bJ V).PW s)),[.one (.ptr 0 0)]⟩:=by
 refine @bX _ _ _ _ _ ?_
 intro b gv Z zq A hA L hL
 have hk:s.aa.length≤400∧s.q.length≤80000:=of_decide_eq_true (show decide _=true from hC)
 have he1:=fun h=>end_1 (d:=s) h
 have he2:=fun h (t q:List E) e=>Yr (d:=s) h (t:=t) (q:=q) e
 have hfs:=(af.cons vW af.nil rfl)
 generalize hF:(bJ V)=F at hC hfs ⊢
 generalize hG0:VoR.Fs.U=G0 at hC hfs ⊢
 generalize hG1:KsC.Kc.U=G1 at hC hfs ⊢
 generalize hG2:KsU.Ku.U=G2 at hC hfs ⊢
 generalize hG3:MgR.Mg.U=G3 at hC hfs ⊢
 generalize hG4:ChQ.Cq.U=G4 at hC hfs ⊢
 repeat' (first|(refine aw zq ?_;try dsimp only)|refine ax zq ?_ (ae hL)|refine az zq ?_|refine ay ?_|refine aq ?_|refine ar ?_|refine av ?_|refine au rfl ?_|refine ai rfl ?_|refine aj rfl ?_|(refine Cd.mk ?_;cbv)|(refine aE.mk ?_;cbv)|(refine aM.mk ?_;cbv)|exact trivial|refine And.intro ?_ ?_|refine bu fun _=>?_|refine br fun _=>?_)
 all_goals first|(show L _ _ _;skip)|(clear hL hfs zq Z;subst hA hF hG0 hG1 hG2 hG3 hG4;simp only [bJ] at * <;> grind [al,oY,mS,py];done)
 subst hL
 refine ba (bx hfs) (Vq cU s) (fun y=>cC Tryz.f40.ntmps [(0,.ptr 1 0),(13,.own 2),(14,.val (.int .i64 (A.dN s.aa))),(15,.val (.int .i64 y.i))] [(1,.cells 75 [.val (.int .i64 s.i),.val (.int .i64 s.ee),.val (.int .i64 s.er),.val (.int .i64 s.t),.val (.int .i64 s.p),.own 2,.sl none (.ints .i64 s.w),.sl none (.ints .i64 s.gn),.sl none (.ah (.int .i64 (.int .i64 (.int .i64 (.int .i64 (.bool .nil))))) s.gl),.val (.int .i64 s.ph),.sl none (.ints .i64 s.tn),.sl none (.ah (.int .i64 (.int .i64 (.int .i64 (.int .i64 (.bool .nil))))) s.tl),.val (.int .i64 s.l),.val (.bool s.o),.sl (some (3,89)) (.ah (.int .i64 (.int .i64 (.int .i64 (.int .i64 (.ints .i64 (.ah (.int .i64 (.int .i64 (.int .i64 (.int .i64 (.bool .nil))))) (.int .i64 (.int .i64 (.int .i64 (.int .i64 .nil)))))))))) y.q)]),(2,.row 58 (.ah (.int .i64 (.int .i64 (.int .i64 (.int .i64 (.bool (.bool (.int .i64 .nil))))))) y.t)),(3,.tok)] [.one (.ptr 1 0)]) (Yi s) (vtR 15 1 2) ⟨0,s.aa,s.q⟩ ?_ ?_ ?_
 ·exact Ed cU (fun _=>rfl) _
 ·cbv
  repeat' (first|exact trivial|exact rfl|refine And.intro ?_ ?_)
 rintro⟨i,t,q⟩ hq O hO
 have hst:=fun hl h=>Cy (F:=cU) (r:=Wi) (fun _ _=>rfl) SP hl hq h
 have hen:=fun h=>JO hq h
 have hr1:=fun h=>Zd (d:=dm s t q) (a:=i) h
 have hr2:=fun h=>Zc (d:=dm s t q) (a:=i) h
 have q0:=hq.1
 have q1:=hq.2.1
 dsimp only at q0 q1
 subst hA
 generalize hA:Ar.U=A
 generalize hL:Lp _ _ _=L
 refine aR zq ?_
 repeat' (first|(refine aw zq ?_;try dsimp only)|refine ax zq ?_ (ae hL)|refine az zq ?_|refine ay ?_|refine aq ?_|refine ar ?_|refine av ?_|refine au rfl ?_|refine ai rfl ?_|refine aj rfl ?_|(refine Cd.mk ?_;cbv)|(refine aE.mk ?_;cbv)|(refine aM.mk ?_;cbv)|exact trivial|refine And.intro ?_ ?_|refine bu fun _=>?_|refine br fun _=>?_)
 all_goals first|(show L _ _ _;skip)|(clear hL hfs zq Z hq;subst hA hF hG0 hG1 hG2 hG3 hG4 hO;simp only [bJ,VoR.Fs.U,KsU.Ku.U,Ar.U] at * <;> (try simp only [dm] at *) <;> (try simp only [ub,ll,lD,uu,uE,uH,lu,lE,lj,lz,lg,uD,uf] at *) <;> first|(have hsl:=ma ⟨s.i,s.ee,s.er,s.t,s.p,t,s.w,s.gn,s.gl,s.ph,s.tn,s.tl,s.l,s.o,q⟩ i (kY (tie ⟨s.i,s.ee,s.er,s.t,s.p,t,s.w,s.gn,s.gl,s.ph,s.tn,s.tl,s.l,s.o,q⟩ i));generalize aL ⟨s.i,s.ee,s.er,s.t,s.p,t,s.w,s.gn,s.gl,s.ph,s.tn,s.tl,s.l,s.o,q⟩ i (kY (tie ⟨s.i,s.ee,s.er,s.t,s.p,t,s.w,s.gn,s.gl,s.ph,s.tn,s.tl,s.l,s.o,q⟩ i))=Y at hsl ⊢;rcases Y with ⟨_,_,_,_,_,y6,_,_,_,_,_,_,_,_,_⟩;cases y6 <;> cases t <;> first|exact congrArg Int.ofNat hsl|(exfalso;simp at hsl;done))|(have hsl:=ma ⟨s.i,s.ee,s.er,s.t,s.p,t,s.w,s.gn,s.gl,s.ph,s.tn,s.tl,s.l,s.o,q⟩ i (zY (tie ⟨s.i,s.ee,s.er,s.t,s.p,t,s.w,s.gn,s.gl,s.ph,s.tn,s.tl,s.l,s.o,q⟩ i));generalize aL ⟨s.i,s.ee,s.er,s.t,s.p,t,s.w,s.gn,s.gl,s.ph,s.tn,s.tl,s.l,s.o,q⟩ i (zY (tie ⟨s.i,s.ee,s.er,s.t,s.p,t,s.w,s.gn,s.gl,s.ph,s.tn,s.tl,s.l,s.o,q⟩ i))=Y at hsl ⊢;rcases Y with ⟨_,_,_,_,_,y6,_,_,_,_,_,_,_,_,_⟩;cases y6 <;> cases t <;> first|exact congrArg Int.ofNat hsl|(exfalso;simp at hsl;done))|grind [al,oY,mS,py,ub,ll,lD,uu,uE,uH,lu,lE,lj,lz,lg,uD,uf];done)
theorem xv:aA Tryz.prog 40 (yY (bJ V)):=by
 refine aG (af.cons vW af.nil rfl) Tryz.func40 rfl rfl fun xs h p hp=>?_
 unfold yY at hp
 split at hp
 ·split at hp
  ·rename_i e0
   cases hp
   have g0:=cV e0
   subst g0
   exact⟨aB rfl,fun hC _=>@Wl V _ hC⟩
  ·cases hp
 ·cases hp
noncomputable def JM (F:Kd):aY:=fun xs h=>match xs with
 |[.one (.ptr 0 0)]=>(match vL h with
  |some s=>some ⟨F.Kz s=true,.bK [],(eO (F.KX s)),[.one (.ptr 0 0)]⟩
  |none=>none)
 |_=>none
theorem UG (hb:aA Tryz.prog 33 (bH (bJ V))) (s:CS) (hC:(bJ V).Kz s=true):aV [(57,wu KsC.Kc.U),(40,yY (bJ V)),(58,qT (bJ V))] Tryz.f33 [.one (.ptr 0 0)] (eO s) ⟨(bJ V).Kz s=true,.bK [],(eO ((bJ V).KX s)),[.one (.ptr 0 0)]⟩:=by
 refine @bX _ _ _ _ _ ?_
 intro b gv Z zq A hA L hL
 have hgo:=RU (show nj V s=true from hC)
 have hfs:=(af.cons zu (af.cons (xv (V:=V)) (af.cons (oa hb) af.nil rfl) rfl) rfl)
 generalize hF:(bJ V)=F at hC hfs ⊢
 generalize hG0:VoR.Fs.U=G0 at hC hfs ⊢
 generalize hG1:KsC.Kc.U=G1 at hC hfs ⊢
 generalize hG2:KsU.Ku.U=G2 at hC hfs ⊢
 generalize hG3:MgR.Mg.U=G3 at hC hfs ⊢
 generalize hG4:ChQ.Cq.U=G4 at hC hfs ⊢
 repeat' (first|(refine aw zq ?_;try dsimp only)|refine ax zq ?_ (ae hL)|refine az zq ?_|refine ay ?_|refine aq ?_|refine ar ?_|refine av ?_|refine au rfl ?_|refine ai rfl ?_|refine aj rfl ?_|(refine Cd.mk ?_;cbv)|(refine aE.mk ?_;cbv)|(refine aM.mk ?_;cbv)|exact trivial|refine And.intro ?_ ?_|refine bu fun _=>?_|refine br fun _=>?_)
 all_goals first|(show L _ _ _;skip)|(clear hL hfs zq Z;subst hA hF hG0 hG1 hG2 hG3 hG4;simp only [bJ,VoR.Fs.U,KsC.Kc.U,Ar.U,kj,Ee] at * <;> grind [al,oY,mS,py];done)
theorem Dr (hb:aA Tryz.prog 33 (bH (bJ V))):aA Tryz.prog 33 (JM (bJ V)):=by
 refine aG (af.cons zu (af.cons (xv (V:=V)) (af.cons (oa hb) af.nil rfl) rfl) rfl) Tryz.func33 rfl rfl fun xs h p hp=>?_
 unfold JM at hp
 split at hp
 ·split at hp
  ·rename_i e0
   cases hp
   have g0:=cV e0
   subst g0
   exact⟨aB rfl,fun hC _=>@UG V hb _ hC⟩
  ·cases hp
 ·cases hp
end Go.Proofs.YtelhldgdnlppfaaGreat.KsD
