/-
  what a core knows,begins,adopts,settles and does. No condition but size.
-/
import Derived.Test.YtelhldgdnlppfaaGreatVdKsU
import Derived.Test.YtelhldgdnlppfaaGreatVdKsT
import Derived.Test.YtelhldgdnlppfaaGreatVdW27
set_option maxHeartbeats 4000000
set_option cbv.maxSteps 4000000
set_option maxRecDepth 100000
namespace Go.Proofs.YtelhldgdnlppfaaGreat.KsD
open Go Ry ViR VoR KsS KsC KsU KsT
open MgR (kK ic nJ mD oE)
open ChQ (ni pB my la CH)
structure XO where
 i:Int
 o:List E
def owR (st:St):XO:=⟨bQ st 13,zc st 2 1⟩
def Zv (i:Int) (l:List E) (y:XO):Prop:=0≤y.i∧y.i≤l.length∧y.o=jA i (l.take y.i.toNat)
def ZV (l:List E) (y:XO):Nat:=l.length - y.i.toNat
theorem OI (i:Int) (l:List E):Zv i l ⟨0,[]⟩:=⟨Int.le_refl 0,Int.natCast_nonneg _,rfl⟩
theorem Pr {n:Int} {l:List E} (hl:l.length≤1000000) {i:Int} {o:List E} (hq:Zv n l ⟨i,o⟩) (h:i < l.length):aN .add .i64 i 1=i+1∧(∀ o',ZV l ⟨i+1,o'⟩ < ZV l ⟨i,o⟩)∧o.length≤1000000∧Zv n l ⟨i+1,o ++ [Uv n (l.getD i.toNat [])]⟩:=by
 obtain⟨h0,h1,h2⟩:=hq
 simp only at h0 h1 h2
 refine⟨by rw [bp,wr _ (by omega) (by omega)],fun o'=>by simp only [ZV];omega,?_,by simp only;omega,by simp only;omega,?_⟩
 ·rw [h2]
  unfold jA
  rw [List.length_map,List.length_take]
  omega
 ·simp only
  rw [qH l h0 h,h2]
  unfold jA
  rw [List.map_append]
  rfl
theorem TH {n:Int} {l:List E} {i:Int} {o:List E} (hq:Zv n l ⟨i,o⟩) (h:¬i < l.length):o=jA n l:=by
 obtain⟨h0,h1,h2⟩:=hq
 simp only at h0 h1 h2
 rw [h2,show i.toNat=l.length by omega,List.take_length]
def Uf (q0:List E) (l:List Int) (w:WK) (y:XQ):Prop:=0≤y.i∧y.i≤l.length∧y.q=q0 ++ (l.take y.i.toNat).map fun p=>dI p w
theorem xc (q0:List E) (l:List Int) (w:WK):Uf q0 l w ⟨0,q0⟩:=⟨Int.le_refl 0,Int.natCast_nonneg _,by simp⟩
theorem xj {q0:List E} {l:List Int} {w:WK} (hw:l.length≤1000) (hq0:q0.length≤99000) {i:Int} {q:List E} (hq:Uf q0 l w ⟨i,q⟩) (h:i < l.length):aN .add .i64 i 1=i+1∧(∀ q',GF l ⟨i+1,q'⟩ < GF l ⟨i,q⟩)∧q.length≤100000∧Uf q0 l w ⟨i+1,q ++ [dI (l.getD i.toNat 0) w]⟩:=by
 obtain⟨h0,h1,h2⟩:=hq
 simp only at h0 h1 h2
 refine⟨by rw [bp,wr _ (by omega) (by omega)],fun o'=>by simp only [GF];omega,?_,⟨by simp only;omega,by simp only;omega,?_⟩⟩
 ·rw [h2,List.length_append,List.length_map,List.length_take]
  omega
 ·simp only
  rw [sE l h0 h,List.map_append,← List.append_assoc,← h2]
  rfl
theorem BJ {q0:List E} {l:List Int} {w:WK} {i:Int} {q:List E} (hq:Uf q0 l w ⟨i,q⟩) (h:¬i < l.length):q=q0 ++ l.map fun p=>dI p w:=by
 obtain⟨h0,h1,h2⟩:=hq
 simp only at h0 h1 h2
 rw [h2,show i.toNat=l.length by omega,List.take_length]
structure XV where
 i:Int
 w:List Int
 q:List E
def Ye (st:St) (n j:Nat):List Int :=
 match ak st.heap n with
 |some (.cells _ cs)=>(match cs[j]? with
  |some (.sl _ (.ints _ l))=>l
  |_=>[])
 |_=>[]
def wvR (k n:Nat) (st:St):XV:=⟨bQ st k,Ye st n 6,zc st n 14⟩
def Zu (q0:List E) (l:List Int) (w:WK) (y:XV):Prop:=Uf q0 l w ⟨y.i,y.q⟩∧y.w=l.take y.i.toNat
def wvM (l:List Int) (y:XV):Nat:=l.length - y.i.toNat
theorem Mz (q0:List E) (l:List Int) (w:WK):Zu q0 l w ⟨0,[],q0⟩:=⟨xc q0 l w,rfl⟩
theorem Mu {q0:List E} {l:List Int} {w:WK} (hw:l.length≤1000) (hq0:q0.length≤99000) {i:Int} {p:List Int} {q:List E} (hq:Zu q0 l w ⟨i,p,q⟩) (h:i < l.length):aN .add .i64 i 1=i+1∧(∀ p' q',wvM l ⟨i+1,p',q'⟩ < wvM l ⟨i,p,q⟩)∧q.length≤100000∧p.length≤1000∧Zu q0 l w ⟨i+1,p ++ [l.getD i.toNat 0],q ++ [dI (l.getD i.toNat 0) w]⟩:=by
 obtain⟨h1,h2⟩:=hq
 have h0:=h1.1
 simp only at h0 h2
 obtain⟨a,b,c,d⟩:=xj hw hq0 h1 h
 refine⟨a,fun p' q'=>by simp only [wvM];omega,c,?_,d,?_⟩
 ·rw [h2,List.length_take]
  omega
 ·simp only
  rw [sE l h0 h,h2]
theorem TO {q0:List E} {l:List Int} {w:WK} {i:Int} {p:List Int} {q:List E} (hq:Zu q0 l w ⟨i,p,q⟩) (h:¬i < l.length):p=l∧q=q0 ++ l.map fun p=>dI p w:=by
 obtain⟨h1,h2⟩:=hq
 have h0:=h1.1
 have h3:=h1.2.1
 simp only at h0 h2 h3
 refine⟨?_,BJ h1 h⟩
 rw [h2,show i.toNat=l.length by omega,List.take_length]
structure XT where
 i:Int
 t:List E
 q:List E
def aal (st:St) (n:Nat):List E :=
 match ak st.heap n with
 |some (.row _ (.ah _ l))=>l
 |_=>[]
def vtR (k n r:Nat) (st:St):XT:=⟨bQ st k,aal st r,zc st n 14⟩
def dm (d:CS) (t q:List E):CS:=⟨d.i,d.ee,d.er,d.t,d.p,t,d.w,d.gn,d.gl,d.ph,d.tn,d.tl,d.l,d.o,q⟩
theorem yn (d:CS) (a:Int) (r:VT):aR d a r=dm d (aR d a r).ae (aR d a r).q:=by
 unfold aR dm
 split <;> rfl
def VK (F:CS→Nat→CS) (d:CS) (y:XT):Prop:=0≤y.i∧y.i≤d.ae.length∧y.t.length=d.ae.length∧y.q.length≤d.q.length+y.i.toNat∧F d y.i.toNat=dm d y.t y.q
def WG (d:CS) (y:XT):Nat:=d.ae.length - y.i.toNat
theorem Da (d:CS) (a:Int) (r:VT) (h:r.w.length≤1):(aR d a r).ae.length=d.ae.length∧(aR d a r).q.length≤d.q.length+1:=by
 unfold aR
 split
 ·refine⟨List.length_set,?_⟩
  simp only [List.length_append,List.length_map]
  omega
 ·exact⟨rfl,Nat.le_succ _⟩
theorem DJ {F:CS→Nat→CS} {r:CS→Int→VT} (hF:∀ d (n:Nat),F d (n+1)=aR (F d n) (n:Int) (r (F d n) (n:Int))) (hr:∀ d a,(r d a).w.length≤1) {d:CS} (hl:d.ae.length≤1000) {i:Int} {t q:List E} (hq:VK F d ⟨i,t,q⟩) (h:i < d.ae.length):aN .add .i64 i 1=i+1∧0≤i∧(∀ t' q',WG d ⟨i+1,t',q'⟩ < WG d ⟨i,t,q⟩)∧i < t.length∧t.length≤1000∧q.length≤d.q.length+1000∧VK F d ⟨i+1,(aR (dm d t q) i (r (dm d t q) i)).ae,(aR (dm d t q) i (r (dm d t q) i)).q⟩:=by
 obtain⟨h0,h1,h2,h3,h4⟩:=hq
 simp only at h0 h1 h2 h3 h4
 have e:((i.toNat:Nat):Int)=i:=Int.toNat_of_nonneg h0
 obtain⟨g1,g2⟩:=Da (dm d t q) i (r (dm d t q) i) (hr _ _)
 refine⟨by rw [bp,wr _ (by omega) (by omega)],h0,fun t' q'=>by simp only [WG];omega,by omega,by omega,by omega,by simp only;omega,by simp only;omega,?_,?_,?_⟩
 ·simp only
  rw [g1]
  exact h2
 ·simp only
  have g2:(aR (dm d t q) i (r (dm d t q) i)).q.length≤q.length+1:=g2
  omega
 ·simp only
  rw [show (i+1).toNat=i.toNat+1 by omega,hF,h4,e,yn (dm d t q) i]
  rfl
theorem Dt (F:CS→Nat→CS) (hF:∀ d,F d 0=d) (d:CS):VK F d ⟨0,d.ae,d.q⟩:=⟨Int.le_refl 0,Int.natCast_nonneg _,rfl,Nat.le_refl _,hF d⟩
theorem GS {F:CS→Nat→CS} {d:CS} {i:Int} {t q:List E} (hq:VK F d ⟨i,t,q⟩) (h:¬i < d.ae.length):F d d.ae.length=dm d t q:=by
 obtain⟨h0,h1,h2,h3,h4⟩:=hq
 simp only at h0 h1 h2 h3 h4
 rw [← h4,show i.toNat=d.ae.length by omega]
def WH (d:CS) (a:Int):VT:=if rb (tie d a) 5=true then oL (tie d a) else Cl (tie d a)
theorem RQ (d:CS) (a:Int):(Cl (tie d a)).w.length≤1:=(pU _ _ _ _ 0).2.1
theorem TV (d:CS) (a:Int):(WH d a).w.length≤1:=by
 unfold WH
 split
 ·exact (pU _ _ _ _ 0).2.2.1
 ·exact (pU _ _ _ _ 0).2.1
theorem SG {L:Lv} {d:CS} {k a:Int} (h:qa L d k a=true):(0≤a∧a < d.ae.length∧d.ae.length≤1000∧d.q.length≤99000) ∧
  (k=2→(ue (tie d a)).tb=true→L.ok (aR d a (ue (tie d a)))=true∧lV L d k a=L.B (aR d a (ue (tie d a))))∧(k=2→(ue (tie d a)).tb=false→lV L d k a=aR d a (ue (tie d a))) ∧
  (k=3→(oL (tie d a)).tp=true→L.ok (aR d a (oL (tie d a)))=true∧lV L d k a=L.B (aR d a (oL (tie d a))))∧(k=3→(oL (tie d a)).tp=false→lV L d k a=aR d a (oL (tie d a)))∧(¬k=2→¬k=3→lV L d k a=d):=by
 unfold qa Xd at h
 simp only [Bool.and_eq_true,Bool.or_eq_true,Bool.not_eq_true',decide_eq_true_eq,decide_eq_false_iff_not] at h
 obtain⟨h1,h2,h3⟩:=h
 unfold lV
 refine⟨h1,fun e g=>?_,fun e g=>?_,fun e g=>?_,fun e g=>?_,fun e g=>?_⟩
 ·rw [if_pos e,if_pos g]
  exact⟨(h2.resolve_left fun q=>q e).resolve_left fun q=>(by rw [g] at q;cases q),rfl⟩
 ·rw [if_pos e,if_neg (by rw [g];decide)]
 ·rw [if_neg (by omega),if_pos e,if_pos g]
  exact⟨(h3.resolve_left fun q=>q e).resolve_left fun q=>(by rw [g] at q;cases q),rfl⟩
 ·rw [if_neg (by omega),if_pos e,if_neg (by rw [g];decide)]
 ·rw [if_neg e,if_neg g]
theorem Xp {d:CS} {c:CH} {v:List Int} {l:List E} (h:c.k=1):gY d c v l=⟨d.i,d.ee,d.er,d.t,d.p,d.ae,d.w,d.gn,d.gl,4,v,l,d.l,d.o,d.q ++ (cw d.ae d.p).map fun p=>dI p ⟨3,d.ee,d.er,v,l,c.k,c.a,c.b,c.s⟩⟩:=by
 unfold gY uN dF
 rw [if_pos h,if_pos h,if_pos h]
theorem Yj {d:CS} {c:CH} {v:List Int} {l:List E} (h:¬c.k=1):gY d c v l=⟨d.i,d.ee,d.er,d.t,d.p,d.ae,d.w,d.gn,d.gl,3,d.tn,d.tl,d.l,d.o,d.q ++ (cw d.ae d.p).map fun p=>dI p ⟨3,d.ee,d.er,[],[],c.k,c.a,c.b,c.s⟩⟩:=by
 unfold gY uN dF
 rw [if_neg h,if_neg h,if_neg h]
theorem YN {L:Lv} {d:CS} {c:CH} {v:List Int} {l:List E} (h:sM L d c v l=true):(d.ae.length≤500∧d.q.length≤90000∧v.length≤1000∧l.length≤1000) ∧
  (c.k=1→AO L d c v l=gY d c v l)∧(¬c.k=1→c.a=d.i→0≤dn d.ae c.b→ri (d.ae.getD (dn d.ae c.b).toNat []) 2=c.s→qa L (gY d c v l) c.k (dn d.ae c.b)=true∧AO L d c v l=lV L (gY d c v l) c.k (dn d.ae c.b)) ∧
  (¬c.a=d.i→AO L d c v l=gY d c v l)∧(dn d.ae c.b < 0→AO L d c v l=gY d c v l)∧(¬ri (d.ae.getD (dn d.ae c.b).toNat []) 2=c.s→AO L d c v l=gY d c v l):=by
 unfold sM at h
 rw [Bool.and_eq_true,decide_eq_true_eq,Bool.or_eq_true,Bool.not_eq_true'] at h
 obtain⟨h1,h2⟩:=h
 unfold AO
 refine⟨h1,fun e=>?_,fun e1 e2 e3 e4=>?_,fun e=>?_,fun e=>?_,fun e=>?_⟩
 ·rw [if_neg]
  unfold nj
  rw [decide_eq_true_eq]
  exact fun q=>q.1 e
 ·have hm:nj d c=true:=decide_eq_true ⟨e1,e2,e3,e4⟩
  rw [if_pos hm]
  exact⟨h2.resolve_left fun q=>(by rw [hm] at q;cases q),rfl⟩
 ·rw [if_neg]
  unfold nj
  rw [decide_eq_true_eq]
  exact fun q=>e q.2.1
 ·rw [if_neg]
  unfold nj
  rw [decide_eq_true_eq]
  exact fun q=>by omega
 ·rw [if_neg]
  unfold nj
  rw [decide_eq_true_eq]
  exact fun q=>e q.2.2.2
theorem Vg {L:Lv} {d:CS} (h:gL L d=true):(d.ae.length≤400∧d.q.length≤89000∧d.gn.length≤500∧d.gl.length≤500)∧((eU d).length≤501∧(eS d).length≤900)∧(stops d=true→gu L d=d) ∧
  (stops d=false→¬d.p=0→gu L d=⟨d.i,d.ee,d.er,d.t,d.p,d.ae,d.w,d.gn,d.gl,2,d.tn,d.tl,d.l,d.o,d.q ++ [dI d.p ⟨2,d.ee,d.er,eU d,eS d,0,0,0,0⟩]⟩) ∧
  (stops d=false→d.p=0→¬my (eU d) (eS d)=0→gu L d=⟨d.i,d.ee,d.er,d.t,d.p,d.ae,d.w,d.gn,d.gl,3,d.tn,d.tl,d.l,d.o,d.q⟩) ∧
  (stops d=false→d.p=0→my (eU d) (eS d)=0→sM L d (la (eU d) (eS d)) (eU d) (eS d)=true∧gu L d=AO L d (la (eU d) (eS d)) (eU d) (eS d)):=by
 unfold gL szD at h
 simp only [Bool.and_eq_true,Bool.or_eq_true,Bool.not_eq_true',decide_eq_true_eq,decide_eq_false_iff_not] at h
 obtain⟨h1,h2⟩:=h
 have hl:=DX d
 unfold gu
 refine⟨h1,by omega,fun e=>if_pos e,fun e1 e2=>?_,fun e1 e2 e3=>?_,fun e1 e2 e3=>?_⟩
 ·rw [if_neg (by rw [e1];decide),if_pos e2]
  rfl
 ·rw [if_neg (by rw [e1];decide),if_neg (fun q=>q e2),if_pos e3]
 ·rw [if_neg (by rw [e1];decide),if_neg (fun q=>q e2),if_neg (fun q=>q e3)]
  refine⟨?_,rfl⟩
  rcases h2 with h2|h2|h2|h2
  ·rw [e1] at h2
   cases h2
  ·exact absurd e2 h2
  ·exact absurd e3 h2
  ·exact h2
theorem MO (d:CS):(d.o=true→stops d=true)∧(¬d.ph=1→stops d=true)∧(0 < d.w.length→stops d=true)∧(uO d.ae=true→stops d=true)∧(d.o=false→d.ph=1→¬0 < d.w.length→uO d.ae=false→stops d=false):=by
 unfold stops
 refine⟨fun h=>by rw [h];rfl,fun h=>by simp [h],fun h=>by simp [h],fun h=>by simp [h],fun h1 h2 h3 h4=>by
  have h5:d.w=[]:=List.eq_nil_of_length_eq_zero (by omega)
  simp [h1,h2,h4,h5]⟩
theorem ZD (d:CS) (h:oE [d.i] (jA d.i d.ae) d.gn d.gl=0):eU d=nJ [d.i] (jA d.i d.ae) d.gn d.gl∧eS d=mD [d.i] (jA d.i d.ae) d.gn d.gl:=⟨if_pos h,if_pos h⟩
theorem Xb (d:CS) (h:¬oE [d.i] (jA d.i d.ae) d.gn d.gl=0):eU d=[d.i]∧eS d=jA d.i d.ae:=⟨if_neg h,if_neg h⟩
theorem OF (i:Int) (l:List E):(jA i l).length=l.length:=List.length_map _
theorem SE {L:Lv} {d:CS} (h:oh L d=true):(d.ae.length≤400∧d.q.length≤80000)∧(d.o=true→oj L d=d)∧(d.o=false→¬IY (eF d.t d.ee) d.l d.i=0→oj L d=nH d)∧(d.o=false→IY (eF d.t d.ee) d.l d.i=0→gC L d (eF d.t d.ee+1) d.i 0=true∧oj L d=gu L (fY d (eF d.t d.ee+1) d.i 0)):=by
 unfold oh nF at h
 simp only [Bool.and_eq_true,Bool.or_eq_true,Bool.not_eq_true',decide_eq_true_eq,decide_eq_false_iff_not] at h
 obtain⟨h1,h2⟩:=h
 unfold oj
 refine⟨h1,fun e=>if_pos e,fun e1 e2=>?_,fun e1 e2=>?_⟩
 ·rw [if_neg (by rw [e1];decide),if_neg e2]
 ·rw [if_neg (by rw [e1];decide),if_pos e2]
  refine⟨?_,rfl⟩
  rcases h2 with h2|h2|h2
  ·rw [e1] at h2
   cases h2
  ·exact absurd e2 h2
  ·exact h2
theorem Uj {L:Lv} {d:CS} {e r p:Int} (h:gC L d e r p=true):(d.ae.length≤400∧d.q.length≤80000)∧gL L (fY d e r p)=true:=by
 unfold gC at h
 rw [Bool.and_eq_true,decide_eq_true_eq] at h
 exact h
theorem end_1 {d:CS} (h:d.o=true):nH d=d:=if_pos h
theorem Zd {d:CS} (h:d.o=false) {t q:List E} (e:jw d d.ae.length=dm d t q):nH d=⟨d.i,0,0,d.t,0,t,[],[],[],0,[],[],d.l,true,q⟩:=by
 unfold nH
 rw [if_neg (by rw [h];decide),e]
 rfl
theorem ma (d:CS) (a:Int) (r:VT):(aR d a r).ae.length=d.ae.length:=by
 unfold aR
 split
 ·exact List.length_set
 ·rfl
structure Kd where
 Rn:Int→List E→List E
 Vh:List E→Bool
 JO:CS→Int→Int→Bool
 ZF:CS→Int→Int→CS
 GZ:CS→CH→List Int→List E→Bool
 VW:CS→CH→List Int→List E→CS
 IF:CS→Bool
 Rj:CS→CS
 JK:CS→Int→Int→Int→Bool
 Qo:CS→Int→Int→Int→CS
 YZ:CS→Bool
 VY:CS→CS
 JI:CS→Bool
 Hq:CS→CS
 LB:CS→Bool
 Qh:CS→CS
def bK (L:Lv):Kd:=⟨jA,fun l=>decide (l.length≤1000),qa L,lV L,sM L,AO L,gL L,gu L,gC L,fun d e r p=>gu L (fY d e r p),L.ok,L.B,oh L,oj L,nF,nH⟩
variable {V:Lv}
noncomputable def bH (F:Kd):aZ:=fun xs h=>match xs with
 |[.one (.ptr 0 0)]=>(match vV h with
  |some s=>some ⟨F.YZ s=true,.bJ [],(eN (F.VY s)),[.one (.ptr 0 0)]⟩
  |none=>none)
 |_=>none
theorem bY {l:List (Nat × aZ)} {fn:Func} {args:List SA} {h:H} {p:qm} (hd:∀ (b:Bs) (gv:List Value) (Z:(Ex→St→Prop)→Ex→St→Prop) (_:∀ K,Z K=K) (A:Ar) (_:Ar.U=A) (L:Code→St→(Ex→St→Prop)→Prop) (_:Lp Tryz.prog b gv=L),Cd A (wz l) L (pn fn) (Ry.start fn.ntmps args h) (Z fun e s'=>aJ A (wz l) fn.results.toList p e s')):aU l fn args h p:=fun b gv=>@aD _ _ _ _ _ _ _ (aa rfl) _ _ (fun _=>rfl) rfl (hd b gv id (fun _=>rfl) _ rfl _ rfl)
noncomputable def zn (F:Kd):aZ:=fun xs h=>match xs,h with
 |[.agg [.val (.int .i64 c_i),.val (.int .i64 _),.val (.int .i64 _),.val (.int .i64 _),.val (.int .i64 _),.own 0,.sl none (.ints .i64 _),.sl none (.ints .i64 _),.sl none (.ah (.int .i64 (.int .i64 (.int .i64 (.int .i64 (.bool .nil))))) _),.val (.int .i64 _),.sl none (.ints .i64 _),.sl none (.ah (.int .i64 (.int .i64 (.int .i64 (.int .i64 (.bool .nil))))) _),.val (.int .i64 _),.val (.bool _)]],[(0,.row 58 (.ah (.int .i64 (.int .i64 (.int .i64 (.int .i64 (.bool (.bool (.int .i64 .nil))))))) c_ties))]=>some ⟨F.Vh c_ties=true,.sa (.agg [.sl none (.ints .i64 [c_i]),.sl none (.ah (.int .i64 (.int .i64 (.int .i64 (.int .i64 (.bool .nil))))) (F.Rn c_i c_ties))]),[(0,.row 58 (.ah (.int .i64 (.int .i64 (.int .i64 (.int .i64 (.bool (.bool (.int .i64 .nil))))))) c_ties))],[Any,.one (.own 0)]⟩
 |_,_=>none
theorem WM (c_i:Int) (c_ee:Int) (c_er:Int) (c_t:Int) (c_p:Int) (c_ties:List E) (c_w:List Int) (c_gn:List Int) (c_gl:List E) (c_ph:Int) (c_tn:List Int) (c_tl:List E) (c_l:Int) (c_o:Bool) (hC:(bK V).Vh c_ties=true):aU [] Tryz.f17 [.agg [.val (.int .i64 c_i),.val (.int .i64 c_ee),.val (.int .i64 c_er),.val (.int .i64 c_t),.val (.int .i64 c_p),.own 0,.sl none (.ints .i64 c_w),.sl none (.ints .i64 c_gn),.sl none (.ah (.int .i64 (.int .i64 (.int .i64 (.int .i64 (.bool .nil))))) c_gl),.val (.int .i64 c_ph),.sl none (.ints .i64 c_tn),.sl none (.ah (.int .i64 (.int .i64 (.int .i64 (.int .i64 (.bool .nil))))) c_tl),.val (.int .i64 c_l),.val (.bool c_o)]] [(0,.row 58 (.ah (.int .i64 (.int .i64 (.int .i64 (.int .i64 (.bool (.bool (.int .i64 .nil))))))) c_ties))] ⟨(bK V).Vh c_ties=true,.sa (.agg [.sl none (.ints .i64 [c_i]),.sl none (.ah (.int .i64 (.int .i64 (.int .i64 (.int .i64 (.bool .nil))))) ((bK V).Rn c_i c_ties))]),[(0,.row 58 (.ah (.int .i64 (.int .i64 (.int .i64 (.int .i64 (.bool (.bool (.int .i64 .nil))))))) c_ties))],[Any,.one (.own 0)]⟩:=by
 refine @bY _ _ _ _ _ ?_
 intro b gv Z zq A hA L hL
 have hk:c_ties.length≤1000:=of_decide_eq_true (show decide (c_ties.length≤1000)=true from hC)
 have hk6:c_ties.length≤1000000:=by omega
 have hfs:=af.nil
 generalize hF:(bK V)=F at hC hfs ⊢
 generalize hG0:VoR.Fs.U=G0 at hC hfs ⊢
 generalize hG1:KsC.Kc.U=G1 at hC hfs ⊢
 generalize hG2:KsU.Ku.U=G2 at hC hfs ⊢
 generalize hG3:MgR.Mg.U=G3 at hC hfs ⊢
 generalize hG4:ChQ.Cq.U=G4 at hC hfs ⊢
 repeat' (first|(refine ay zq ?_;try dsimp only)|refine ax zq ?_ (aa hL)|refine aw zq ?_|refine az ?_|refine av ?_|refine au ?_|refine aq ?_|refine ar rfl ?_|refine ai rfl ?_|refine aj rfl ?_|(refine Cd.mk ?_;cbv)|(refine aE.mk ?_;cbv)|(refine aJ.mk ?_;cbv)|exact trivial|refine And.intro ?_ ?_|refine bn fun _=>?_|refine bo fun _=>?_)
 subst hL
 refine aX (br hfs) (Zv c_i c_ties) (fun y=>cg Tryz.f17.ntmps [(1,.ptr 4 0),(2,.ptr 3 0),(3,.ptr 2 0),(11,.own 0),(12,.val (.int .i64 (A.dK c_ties))),(13,.val (.int .i64 y.i))] [(0,.row 58 (.ah (.int .i64 (.int .i64 (.int .i64 (.int .i64 (.bool (.bool (.int .i64 .nil))))))) c_ties)),(2,.cells 29 [.sl none (.ints .i64 [c_i]),.sl (some (5,94)) (.ah (.int .i64 (.int .i64 (.int .i64 (.int .i64 (.bool .nil))))) y.o)]),(3,.cells 29 [.any,.any]),(4,.cells 31 [.val (.int .i64 c_i),.val (.int .i64 c_ee),.val (.int .i64 c_er),.val (.int .i64 c_t),.val (.int .i64 c_p),.own 0,.sl none (.ints .i64 c_w),.sl none (.ints .i64 c_gn),.sl none (.ah (.int .i64 (.int .i64 (.int .i64 (.int .i64 (.bool .nil))))) c_gl),.val (.int .i64 c_ph),.sl none (.ints .i64 c_tn),.sl none (.ah (.int .i64 (.int .i64 (.int .i64 (.int .i64 (.bool .nil))))) c_tl),.val (.int .i64 c_l),.val (.bool c_o)]),(5,.tok)] [Any,.one (.own 0)]) (ZV c_ties) owR ⟨0,[]⟩ ?_ ?_ ?_
 ·exact OI _ _
 ·cbv
  repeat' (first|exact trivial|exact rfl|refine And.intro ?_ ?_)
 rintro⟨i,o⟩ hq O hO
 have hst:=fun h=>Pr hk6 hq h
 have hen:=fun h=>TH hq h
 have q0:=hq.1
 have q1:=hq.2.1
 dsimp only at q0 q1
 subst hA
 generalize hA:Ar.U=A
 generalize hL:Lp _ _ _=L
 refine aO zq ?_
 repeat' (first|(refine ay zq ?_;try dsimp only)|refine ax zq ?_ (aa hL)|refine aw zq ?_|refine az ?_|refine av ?_|refine au ?_|refine aq ?_|refine ar rfl ?_|refine ai rfl ?_|refine aj rfl ?_|(refine Cd.mk ?_;cbv)|(refine aE.mk ?_;cbv)|(refine aJ.mk ?_;cbv)|exact trivial|refine And.intro ?_ ?_|refine bn fun _=>?_|refine bo fun _=>?_)
 all_goals first|(show L _ _ _;skip)|(clear hL zq Z hq;subst hA hF hG0 hG1 hG2 hG3 hG4 hO;simp only [bK,Ar.U] at * <;> (try simp only [Uv] at *) <;> grind [al,pG,nF,px];done)
theorem JJ:aA Tryz.prog 17 (zn (bK V)):=by
 refine aG af.nil Tryz.func17 rfl rfl fun xs h p hp=>?_
 unfold zn at hp
 split at hp
 ·cases hp
  exact⟨aB rfl,fun hC _=>@WM V _ _ _ _ _ _ _ _ _ _ _ _ _ _ hC⟩
 ·cases hp
theorem Kn:iv (zn (bK V)):=by
 intro xs h p hp
 unfold zn at hp
 split at hp
 ·cases hp
  rfl
 ·cases hp
noncomputable def zD (F:Ku):aZ:=rL (wE F) (nr F)
theorem wj:aA Tryz.prog 74 (zD KsU.Ku.U):=Ao GY tM
noncomputable def zJ (F:Ku):aZ:=rL (nr F) (ra F)
theorem vf:aA Tryz.prog 74 (zJ KsU.Ku.U):=Ao tM sA
noncomputable def ym (F:Kd):aZ:=fun xs h=>match xs with
 |[.one (.ptr 0 0),.one (.val (.int .i64 k)),.one (.val (.int .i64 a))]=>(match vV h with
  |some s=>some ⟨F.JO s k a=true,.bJ [],(eN (F.ZF s k a)),[.one (.ptr 0 0),Any,Any]⟩
  |none=>none)
 |_=>none
theorem Oh (hb:aA Tryz.prog 33 (bH (bK V))) (k:Int) (a:Int) (s:CS) (hC:(bK V).JO s k a=true):aU [(74,zD KsU.Ku.U),(33,bH (bK V))] Tryz.f115 [.one (.ptr 0 0),.one (.val (.int .i64 k)),.one (.val (.int .i64 a))] (eN s) ⟨(bK V).JO s k a=true,.bJ [],(eN ((bK V).ZF s k a)),[.one (.ptr 0 0),Any,Any]⟩:=by
 refine @bY _ _ _ _ _ ?_
 intro b gv Z zq A hA L hL
 have hgo:=SG (show qa V s k a=true from hC)
 have hfs:=(af.cons wj (af.cons hb af.nil rfl) rfl)
 generalize hF:(bK V)=F at hC hfs ⊢
 generalize hG0:VoR.Fs.U=G0 at hC hfs ⊢
 generalize hG1:KsC.Kc.U=G1 at hC hfs ⊢
 generalize hG2:KsU.Ku.U=G2 at hC hfs ⊢
 generalize hG3:MgR.Mg.U=G3 at hC hfs ⊢
 generalize hG4:ChQ.Cq.U=G4 at hC hfs ⊢
 repeat' (first|(refine ay zq ?_;try dsimp only)|refine ax zq ?_ (aa hL)|refine aw zq ?_|refine az ?_|refine av ?_|refine au ?_|refine aq ?_|refine ar rfl ?_|refine ai rfl ?_|refine aj rfl ?_|(refine Cd.mk ?_;cbv)|(refine aE.mk ?_;cbv)|(refine aJ.mk ?_;cbv)|exact trivial|refine And.intro ?_ ?_|refine bn fun _=>?_|refine bo fun _=>?_)
 all_goals first|(show L _ _ _;skip)|(clear hL hfs zq Z;subst hA hF hG0 hG1 hG2 hG3 hG4;simp only [bK,VoR.Fs.U,KsU.Ku.U,Ar.U,hN] at * <;> (try simp only [uI,lr,lj,uy,uD,uK,lF,lh,lk,lE,ll,ux,uF] at *) <;> first|(have hsl:=ma s a (ue (tie s a));generalize aR s a (ue (tie s a))=Y at hsl ⊢;rcases Y with ⟨_,_,_,_,_,y6,_,_,_,_,_,_,_,_,_⟩;rcases s with ⟨_,_,_,_,_,s6,_,_,_,_,_,_,_,_,_⟩;cases y6 <;> cases s6 <;> first|exact congrArg Int.ofNat hsl|(exfalso;simp at hsl;done))|(have hsl:=ma s a (oL (tie s a));generalize aR s a (oL (tie s a))=Y at hsl ⊢;rcases Y with ⟨_,_,_,_,_,y6,_,_,_,_,_,_,_,_,_⟩;rcases s with ⟨_,_,_,_,_,s6,_,_,_,_,_,_,_,_,_⟩;cases y6 <;> cases s6 <;> first|exact congrArg Int.ofNat hsl|(exfalso;simp at hsl;done))|grind [al,pG,nF,px,uI,lr,lj,uy,uD,uK,lF,lh,lk,lE,ll,ux,uF];done)
theorem zI (hb:aA Tryz.prog 33 (bH (bK V))):aA Tryz.prog 115 (ym (bK V)):=by
 refine aG (af.cons wj (af.cons hb af.nil rfl) rfl) Tryz.func115 rfl rfl fun xs h p hp=>?_
 unfold ym at hp
 split at hp
 ·split at hp
  ·rename_i e0
   cases hp
   have g0:=cT e0
   subst g0
   exact⟨aB rfl,fun hC _=>@Oh V hb _ _ _ hC⟩
  ·cases hp
 ·cases hp
theorem Ip (c:CH):(⟨c.k,c.a,c.b,c.s⟩:CH)=c:=rfl
theorem CK (a b:Int):(if al .gtr b a=true then b else a)=eF a b:=by
 unfold eF
 simp only [al,decide_eq_true_eq,gt_iff_lt]
theorem Xj {d:CS} {a:Int} (h:rb (d.ae.getD a.toNat []) 5=true):WH d a=oL (tie d a):=if_pos h
theorem YI {d:CS} {a:Int} (h:rb (d.ae.getD a.toNat []) 5=false):WH d a=Cl (tie d a):=if_neg (by unfold tie;rw [h];decide)
noncomputable def PV (F:Kd):aZ:=fun xs h=>match xs with
 |[.one (.ptr 0 0),.agg [.val (.int .i64 c_k),.val (.int .i64 c_a),.val (.int .i64 c_b),.val (.int .i64 c_s)],.agg [.sl none (.ints .i64 v_n),.sl none (.ah (.int .i64 (.int .i64 (.int .i64 (.int .i64 (.bool .nil))))) v_l)]]=>(match vV h with
  |some s=>some ⟨F.GZ s ⟨c_k,c_a,c_b,c_s⟩ v_n v_l=true,.bJ [],(eN (F.VW s ⟨c_k,c_a,c_b,c_s⟩ v_n v_l)),[.one (.ptr 0 0),Any,Any]⟩
  |none=>none)
 |_=>none
theorem aaN (hb:aA Tryz.prog 33 (bH (bK V))) (c_k:Int) (c_a:Int) (c_b:Int) (c_s:Int) (v_n:List Int) (v_l:List E) (s:CS) (hC:(bK V).GZ s ⟨c_k,c_a,c_b,c_s⟩ v_n v_l=true):aU [(95,rX KsC.Kc.U),(bG 95,fy),(96,sC [[none],[none],[none,none,none,some (.ints .i64 []),some (.ah (.int .i64 (.int .i64 (.int .i64 (.int .i64 (.bool .nil))))) []),none,none,none,none]] (gN KsC.Kc.U)),(64,Fl KsC.Kc.U),(68,sO KsC.Kc.U),(bG 68,fy),(115,ym (bK V))] Tryz.f73 [.one (.ptr 0 0),.agg [.val (.int .i64 c_k),.val (.int .i64 c_a),.val (.int .i64 c_b),.val (.int .i64 c_s)],.agg [.sl none (.ints .i64 v_n),.sl none (.ah (.int .i64 (.int .i64 (.int .i64 (.int .i64 (.bool .nil))))) v_l)]] (eN s) ⟨(bK V).GZ s ⟨c_k,c_a,c_b,c_s⟩ v_n v_l=true,.bJ [],(eN ((bK V).VW s ⟨c_k,c_a,c_b,c_s⟩ v_n v_l)),[.one (.ptr 0 0),Any,Any]⟩:=by
 refine @bY _ _ _ _ _ ?_
 intro b gv Z zq A hA L hL
 have hgo:=YN (show sM V s ⟨c_k,c_a,c_b,c_s⟩ v_n v_l=true from hC)
 have hc1:=fun h=>Xp (d:=s) (c:=⟨c_k,c_a,c_b,c_s⟩) (v:=v_n) (l:=v_l) h
 have hc2:=fun h=>Yj (d:=s) (c:=⟨c_k,c_a,c_b,c_s⟩) (v:=v_n) (l:=v_l) h
 have hkl:=qO s.ae s.p
 have hat:=lI s.ae c_b
 have hfs:=(af.keeps Dx DT (af.cons (cu [[none],[none],[none,none,none,some (.ints .i64 []),some (.ah (.int .i64 (.int .i64 (.int .i64 (.int .i64 (.bool .nil))))) []),none,none,none,none]] fK) (af.cons pO (af.keeps pb oW (af.cons (zI hb) af.nil rfl)) rfl) rfl))
 generalize hF:(bK V)=F at hC hfs ⊢
 generalize hG0:VoR.Fs.U=G0 at hC hfs ⊢
 generalize hG1:KsC.Kc.U=G1 at hC hfs ⊢
 generalize hG2:KsU.Ku.U=G2 at hC hfs ⊢
 generalize hG3:MgR.Mg.U=G3 at hC hfs ⊢
 generalize hG4:ChQ.Cq.U=G4 at hC hfs ⊢
 repeat' (first|(refine ay zq ?_;try dsimp only)|refine ax zq ?_ (aa hL)|refine aw zq ?_|refine az ?_|refine av ?_|refine au ?_|refine aq ?_|refine ar rfl ?_|refine ai rfl ?_|refine aj rfl ?_|(refine Cd.mk ?_;cbv)|(refine aE.mk ?_;cbv)|(refine aJ.mk ?_;cbv)|exact trivial|refine And.intro ?_ ?_|refine bn fun _=>?_|refine bo fun _=>?_)
 all_goals first|(show L _ _ _;skip)|(clear hL hfs zq Z;subst hA hF hG0 hG1 hG2 hG3 hG4;simp only [bK,VoR.Fs.U,KsC.Kc.U,Ar.U,hN] at * <;> grind [al,pG,nF,px];done)
 ·skip
  subst hL
  refine aX (br hfs) (Uf s.q (cw s.ae s.p) ⟨3,s.ee,s.er,v_n,v_l,c_k,c_a,c_b,c_s⟩) (fun y=>cg Tryz.f73.ntmps [(0,.ptr 1 0),(4,.ptr 4 0),(5,.ptr 5 0),(6,.ptr 6 0),(23,.sl none (.ints .i64 (G1.lu s.ae s.p))),(24,.val (.int .i64 (A.fN (G1.lu s.ae s.p)))),(25,.val (.int .i64 y.i))] [(1,.cells 75 [.val (.int .i64 s.i),.val (.int .i64 s.ee),.val (.int .i64 s.er),.val (.int .i64 s.t),.val (.int .i64 s.p),.own 2,.sl none (.ints .i64 s.w),.sl none (.ints .i64 s.gn),.sl none (.ah (.int .i64 (.int .i64 (.int .i64 (.int .i64 (.bool .nil))))) s.gl),.val (.int .i64 s.ph),.sl none (.ints .i64 s.tn),.sl none (.ah (.int .i64 (.int .i64 (.int .i64 (.int .i64 (.bool .nil))))) s.tl),.val (.int .i64 s.l),.val (.bool s.o),.sl (some (3,89)) (.ah (.int .i64 (.int .i64 (.int .i64 (.int .i64 (.ints .i64 (.ah (.int .i64 (.int .i64 (.int .i64 (.int .i64 (.bool .nil))))) (.int .i64 (.int .i64 (.int .i64 (.int .i64 .nil)))))))))) y.q)]),(2,.row 58 (.ah (.int .i64 (.int .i64 (.int .i64 (.int .i64 (.bool (.bool (.int .i64 .nil))))))) s.ae)),(3,.tok),(4,.cells 38 [.val (.int .i64 c_k),.val (.int .i64 c_a),.val (.int .i64 c_b),.val (.int .i64 c_s)]),(5,.cells 29 [.sl none (.ints .i64 v_n),.sl none (.ah (.int .i64 (.int .i64 (.int .i64 (.int .i64 (.bool .nil))))) v_l)]),(6,.cells 40 [.val (.int .i64 3),.val (.int .i64 s.ee),.val (.int .i64 s.er),.sl none (.ints .i64 v_n),.sl none (.ah (.int .i64 (.int .i64 (.int .i64 (.int .i64 (.bool .nil))))) v_l),.val (.int .i64 c_k),.val (.int .i64 c_a),.val (.int .i64 c_b),.val (.int .i64 c_s)])] [.one (.ptr 1 0),Any,Any]) (GF (cw s.ae s.p)) (Qk 25 1) ⟨0,s.q⟩ ?_ ?_ ?_
  ·exact xc _ _ _
  ·cbv
   repeat' (first|exact trivial|exact rfl|refine And.intro ?_ ?_)
  rintro⟨i,q⟩ hq O hO
  have hst:=fun hw hq0 h=>xj hw hq0 hq h
  have hen:=fun h=>BJ hq h
  have q0:=hq.1
  have q1:=hq.2.1
  dsimp only at q0 q1
  subst hA
  generalize hA:Ar.U=A
  generalize hL:Lp _ _ _=L
  refine aO zq ?_
  repeat' (first|(refine ay zq ?_;try dsimp only)|refine ax zq ?_ (aa hL)|refine aw zq ?_|refine az ?_|refine av ?_|refine au ?_|refine aq ?_|refine ar rfl ?_|refine ai rfl ?_|refine aj rfl ?_|(refine Cd.mk ?_;cbv)|(refine aE.mk ?_;cbv)|(refine aJ.mk ?_;cbv)|exact trivial|refine And.intro ?_ ?_|refine bn fun _=>?_|refine bo fun _=>?_)
  all_goals first|(show L _ _ _;skip)|(clear hL hfs zq Z hq;subst hA hF hG0 hG1 hG2 hG3 hG4 hO;simp only [bK,VoR.Fs.U,KsC.Kc.U,Ar.U,kY] at * <;> (try simp only [uI,lr,lj,uy,uD,uK,lF,lh,lk,lE,ll,ux,uF] at *) <;> grind [al,pG,nF,px];done)
 ·skip
  subst hL
  refine aX (br hfs) (Uf s.q (cw s.ae s.p) ⟨3,s.ee,s.er,[],[],c_k,c_a,c_b,c_s⟩) (fun y=>cg Tryz.f73.ntmps [(0,.ptr 1 0),(4,.ptr 4 0),(5,.ptr 5 0),(6,.ptr 6 0),(23,.sl none (.ints .i64 (G1.lu s.ae s.p))),(24,.val (.int .i64 (A.fN (G1.lu s.ae s.p)))),(25,.val (.int .i64 y.i))] [(1,.cells 75 [.val (.int .i64 s.i),.val (.int .i64 s.ee),.val (.int .i64 s.er),.val (.int .i64 s.t),.val (.int .i64 s.p),.own 2,.sl none (.ints .i64 s.w),.sl none (.ints .i64 s.gn),.sl none (.ah (.int .i64 (.int .i64 (.int .i64 (.int .i64 (.bool .nil))))) s.gl),.val (.int .i64 s.ph),.sl none (.ints .i64 s.tn),.sl none (.ah (.int .i64 (.int .i64 (.int .i64 (.int .i64 (.bool .nil))))) s.tl),.val (.int .i64 s.l),.val (.bool s.o),.sl (some (3,89)) (.ah (.int .i64 (.int .i64 (.int .i64 (.int .i64 (.ints .i64 (.ah (.int .i64 (.int .i64 (.int .i64 (.int .i64 (.bool .nil))))) (.int .i64 (.int .i64 (.int .i64 (.int .i64 .nil)))))))))) y.q)]),(2,.row 58 (.ah (.int .i64 (.int .i64 (.int .i64 (.int .i64 (.bool (.bool (.int .i64 .nil))))))) s.ae)),(3,.tok),(4,.cells 38 [.val (.int .i64 c_k),.val (.int .i64 c_a),.val (.int .i64 c_b),.val (.int .i64 c_s)]),(5,.cells 29 [.sl none (.ints .i64 v_n),.sl none (.ah (.int .i64 (.int .i64 (.int .i64 (.int .i64 (.bool .nil))))) v_l)]),(6,.cells 40 [.val (.int .i64 3),.val (.int .i64 s.ee),.val (.int .i64 s.er),.sl none (.ints .i64 []),.sl none (.ah (.int .i64 (.int .i64 (.int .i64 (.int .i64 (.bool .nil))))) []),.val (.int .i64 c_k),.val (.int .i64 c_a),.val (.int .i64 c_b),.val (.int .i64 c_s)])] [.one (.ptr 1 0),Any,Any]) (GF (cw s.ae s.p)) (Qk 25 1) ⟨0,s.q⟩ ?_ ?_ ?_
  ·exact xc _ _ _
  ·cbv
   repeat' (first|exact trivial|exact rfl|refine And.intro ?_ ?_)
  rintro⟨i,q⟩ hq O hO
  have hst:=fun hw hq0 h=>xj hw hq0 hq h
  have hen:=fun h=>BJ hq h
  have q0:=hq.1
  have q1:=hq.2.1
  dsimp only at q0 q1
  subst hA
  generalize hA:Ar.U=A
  generalize hL:Lp _ _ _=L
  refine aO zq ?_
  repeat' (first|(refine ay zq ?_;try dsimp only)|refine ax zq ?_ (aa hL)|refine aw zq ?_|refine az ?_|refine av ?_|refine au ?_|refine aq ?_|refine ar rfl ?_|refine ai rfl ?_|refine aj rfl ?_|(refine Cd.mk ?_;cbv)|(refine aE.mk ?_;cbv)|(refine aJ.mk ?_;cbv)|exact trivial|refine And.intro ?_ ?_|refine bn fun _=>?_|refine bo fun _=>?_)
  all_goals first|(show L _ _ _;skip)|(clear hL hfs zq Z hq;subst hA hF hG0 hG1 hG2 hG3 hG4 hO;simp only [bK,VoR.Fs.U,KsC.Kc.U,Ar.U,kY] at * <;> (try simp only [uI,lr,lj,uy,uD,uK,lF,lh,lk,lE,ll,ux,uF] at *) <;> grind [al,pG,nF,px];done)
theorem CZ (hb:aA Tryz.prog 33 (bH (bK V))):aA Tryz.prog 73 (PV (bK V)):=by
 refine aG (af.keeps Dx DT (af.cons (cu [[none],[none],[none,none,none,some (.ints .i64 []),some (.ah (.int .i64 (.int .i64 (.int .i64 (.int .i64 (.bool .nil))))) []),none,none,none,none]] fK) (af.cons pO (af.keeps pb oW (af.cons (zI hb) af.nil rfl)) rfl) rfl)) Tryz.func73 rfl rfl fun xs h p hp=>?_
 unfold PV at hp
 split at hp
 ·split at hp
  ·rename_i e0
   cases hp
   have g0:=cT e0
   subst g0
   exact⟨aB rfl,fun hC _=>@aaN V hb _ _ _ _ _ _ _ hC⟩
  ·cases hp
 ·cases hp
noncomputable def rP (F:Kd):aZ:=fun xs h=>match xs with
 |[.one (.ptr 0 0)]=>(match vV h with
  |some s=>some ⟨F.IF s=true,.bJ [],(eN (F.Rj s)),[.one (.ptr 0 0)]⟩
  |none=>none)
 |_=>none
theorem Vj (hb:aA Tryz.prog 33 (bH (bK V))) (s:CS) (hC:(bK V).IF s=true):aU [(126,uf KsC.Kc.U),(bG 126,fy),(17,zn (bK V)),(bG 17,fy),(113,kK MgR.Mg.U),(96,sC [[none],[none],[none,none,none,some (.ints .i64 []),some (.ah (.int .i64 (.int .i64 (.int .i64 (.int .i64 (.bool .nil))))) []),none,none,none,none]] (gN KsC.Kc.U)),(127,ni ChQ.Cq.U),(73,PV (bK V))] Tryz.f97 [.one (.ptr 0 0)] (eN s) ⟨(bK V).IF s=true,.bJ [],(eN ((bK V).Rj s)),[.one (.ptr 0 0)]⟩:=by
 refine @bY _ _ _ _ _ ?_
 intro b gv Z zq A hA L hL
 have hgo:=Vg (show gL V s=true from hC)
 have hsi:=MO s
 have hs1:=ZD s
 have hs2:=Xb s
 have hol:=OF s.i s.ae
 have hfs:=(af.keeps CW CO (af.keeps (JJ (V:=V)) Kn (af.cons ic (af.cons (cu [[none],[none],[none,none,none,some (.ints .i64 []),some (.ah (.int .i64 (.int .i64 (.int .i64 (.int .i64 (.bool .nil))))) []),none,none,none,none]] fK) (af.cons pB (af.cons (CZ hb) af.nil rfl) rfl) rfl) rfl)))
 generalize hF:(bK V)=F at hC hfs ⊢
 generalize hG0:VoR.Fs.U=G0 at hC hfs ⊢
 generalize hG1:KsC.Kc.U=G1 at hC hfs ⊢
 generalize hG2:KsU.Ku.U=G2 at hC hfs ⊢
 generalize hG3:MgR.Mg.U=G3 at hC hfs ⊢
 generalize hG4:ChQ.Cq.U=G4 at hC hfs ⊢
 repeat' (first|(refine ay zq ?_;try dsimp only)|refine ax zq ?_ (aa hL)|refine aw zq ?_|refine az ?_|refine av ?_|refine au ?_|refine aq ?_|refine ar rfl ?_|refine ai rfl ?_|refine aj rfl ?_|(refine Cd.mk ?_;cbv)|(refine aE.mk ?_;cbv)|(refine aJ.mk ?_;cbv)|exact trivial|refine And.intro ?_ ?_|refine bn fun _=>?_|refine bo fun _=>?_)
 all_goals first|(show L _ _ _;skip)|(clear hL hfs zq Z;subst hA hF hG0 hG1 hG2 hG3 hG4;simp only [bK,VoR.Fs.U,KsC.Kc.U,MgR.Mg.U,ChQ.Cq.U,Ar.U,hN,Ip,kY] at * <;> (try simp only [Ip] at *) <;> grind [al,pG,nF,px];done)
theorem kL (hb:aA Tryz.prog 33 (bH (bK V))):aA Tryz.prog 97 (rP (bK V)):=by
 refine aG (af.keeps CW CO (af.keeps (JJ (V:=V)) Kn (af.cons ic (af.cons (cu [[none],[none],[none,none,none,some (.ints .i64 []),some (.ah (.int .i64 (.int .i64 (.int .i64 (.int .i64 (.bool .nil))))) []),none,none,none,none]] fK) (af.cons pB (af.cons (CZ hb) af.nil rfl) rfl) rfl) rfl))) Tryz.func97 rfl rfl fun xs h p hp=>?_
 unfold rP at hp
 split at hp
 ·split at hp
  ·rename_i e0
   cases hp
   have g0:=cT e0
   subst g0
   exact⟨aB rfl,fun hC _=>@Vj V hb _ hC⟩
  ·cases hp
 ·cases hp
theorem Tv {d:CS} {e r p:Int} {w:List Int} {q:List E} (h1:w=cw d.ae p) (h2:q=d.q ++ (cw d.ae p).map fun x=>dI x ⟨1,e,r,[],[],0,0,0,0⟩):fY d e r p=jv ⟨d.i,e,r,eF d.t e,p,d.ae,w,[],[],1,[],[],d.l,d.o,q⟩ d.ae.length:=by
 subst h1 h2
 rfl
noncomputable def rn (F:Kd):aZ:=fun xs h=>match xs with
 |[.one (.ptr 0 0),.agg [.val (.int .i64 e_e),.val (.int .i64 e_r)],.one (.val (.int .i64 p))]=>(match vV h with
  |some s=>some ⟨F.JK s e_e e_r p=true,.bJ [],(eN (F.Qo s e_e e_r p)),[.one (.ptr 0 0),Any,Any]⟩
  |none=>none)
 |_=>none
theorem OM (hb:aA Tryz.prog 33 (bH (bK V))) (e_e:Int) (e_r:Int) (p:Int) (s:CS) (hC:(bK V).JK s e_e e_r p=true):aU [(95,oD KsC.Kc.U),(bG 95,fy),(96,sC [[none],[none],[none,none,none,some (.ints .i64 []),some (.ah (.int .i64 (.int .i64 (.int .i64 (.int .i64 (.bool .nil))))) []),none,none,none,none]] (AT KsC.Kc.U)),(74,ra KsU.Ku.U),(97,rP (bK V))] Tryz.f58 [.one (.ptr 0 0),.agg [.val (.int .i64 e_e),.val (.int .i64 e_r)],.one (.val (.int .i64 p))] (eN s) ⟨(bK V).JK s e_e e_r p=true,.bJ [],(eN ((bK V).Qo s e_e e_r p)),[.one (.ptr 0 0),Any,Any]⟩:=by
 refine @bY _ _ _ _ _ ?_
 intro b gv Z zq A hA L hL
 have hgo:=Uj (show gC V s e_e e_r p=true from hC)
 have hkl:=qO s.ae p
 have hfs:=(af.keeps za zi (af.cons (cu [[none],[none],[none,none,none,some (.ints .i64 []),some (.ah (.int .i64 (.int .i64 (.int .i64 (.int .i64 (.bool .nil))))) []),none,none,none,none]] CY) (af.cons sA (af.cons (kL hb) af.nil rfl) rfl) rfl))
 generalize hF:(bK V)=F at hC hfs ⊢
 generalize hG0:VoR.Fs.U=G0 at hC hfs ⊢
 generalize hG1:KsC.Kc.U=G1 at hC hfs ⊢
 generalize hG2:KsU.Ku.U=G2 at hC hfs ⊢
 generalize hG3:MgR.Mg.U=G3 at hC hfs ⊢
 generalize hG4:ChQ.Cq.U=G4 at hC hfs ⊢
 repeat' (first|(refine ay zq ?_;try dsimp only)|refine ax zq ?_ (aa hL)|refine aw zq ?_|refine az ?_|refine av ?_|refine au ?_|refine aq ?_|refine ar rfl ?_|refine ai rfl ?_|refine aj rfl ?_|(refine Cd.mk ?_;cbv)|(refine aE.mk ?_;cbv)|(refine aJ.mk ?_;cbv)|exact trivial|refine And.intro ?_ ?_|refine bn fun _=>?_|refine bo fun _=>?_)
 all_goals first|(show L _ _ _;skip)|(clear hL hfs zq Z;subst hA hF hG0 hG1 hG2 hG3 hG4;simp only [bK,VoR.Fs.U,KsC.Kc.U,Ar.U,CK] at * <;> grind [al,pG,nF,px];done)
 subst hL
 refine aX (br hfs) (Zu s.q (cw s.ae p) ⟨1,e_e,e_r,[],[],0,0,0,0⟩) (fun y=>cg Tryz.f58.ntmps [(0,.ptr 1 0),(50,.sl none (.ints .i64 (G1.lu s.ae p))),(51,.val (.int .i64 (A.fN (G1.lu s.ae p)))),(52,.val (.int .i64 y.i))] [(1,.cells 75 [.val (.int .i64 s.i),.val (.int .i64 e_e),.val (.int .i64 e_r),.val (.int .i64 (A.CB (A.cmp .gtr e_e s.t) e_e s.t)),.val (.int .i64 p),.own 2,.sl (some (4,3)) (.ints .i64 y.w),.sl none (.ints .i64 []),.sl none (.ah (.int .i64 (.int .i64 (.int .i64 (.int .i64 (.bool .nil))))) []),.val (.int .i64 1),.sl none (.ints .i64 []),.sl none (.ah (.int .i64 (.int .i64 (.int .i64 (.int .i64 (.bool .nil))))) []),.val (.int .i64 s.l),.val (.bool s.o),.sl (some (3,89)) (.ah (.int .i64 (.int .i64 (.int .i64 (.int .i64 (.ints .i64 (.ah (.int .i64 (.int .i64 (.int .i64 (.int .i64 (.bool .nil))))) (.int .i64 (.int .i64 (.int .i64 (.int .i64 .nil)))))))))) y.q)]),(2,.row 58 (.ah (.int .i64 (.int .i64 (.int .i64 (.int .i64 (.bool (.bool (.int .i64 .nil))))))) s.ae)),(4,.tok),(3,.tok)] [.one (.ptr 1 0),Any,Any]) (wvM (cw s.ae p)) (wvR 52 1) ⟨0,[],s.q⟩ ?_ ?_ ?_
 ·exact Mz _ _ _
 ·cbv
  repeat' (first|exact trivial|exact rfl|refine And.intro ?_ ?_)
 rintro⟨i,w,q⟩ hq O hO
 have hst:=fun hw hq0 h=>Mu hw hq0 hq h
 have hen:=fun h=>TO hq h
 have q0:=hq.1.1
 have q1:=hq.1.2.1
 dsimp only at q0 q1
 subst hA
 generalize hA:Ar.U=A
 generalize hL:Lp _ _ _=L
 refine aO zq ?_
 repeat' (first|(refine ay zq ?_;try dsimp only)|refine ax zq ?_ (aa hL)|refine aw zq ?_|refine az ?_|refine av ?_|refine au ?_|refine aq ?_|refine ar rfl ?_|refine ai rfl ?_|refine aj rfl ?_|(refine Cd.mk ?_;cbv)|(refine aE.mk ?_;cbv)|(refine aJ.mk ?_;cbv)|exact trivial|refine And.intro ?_ ?_|refine bn fun _=>?_|refine bo fun _=>?_)
 all_goals first|(show L _ _ _;skip)|(clear hL hfs zq Z hq;subst hA hF hG0 hG1 hG2 hG3 hG4 hO;simp only [bK,VoR.Fs.U,KsC.Kc.U,Ar.U,CK,kY] at * <;> grind [al,pG,nF,px];done)
 clear hO
 subst hL
 refine aX (br hfs) (VK jv ⟨s.i,e_e,e_r,eF s.t e_e,p,s.ae,w,[],[],1,[],[],s.l,s.o,q⟩) (fun y=>cg Tryz.f58.ntmps [(0,.ptr 1 0),(83,.val (.int .i64 (A.dK s.ae))),(84,.val (.int .i64 y.i))] [(1,.cells 75 [.val (.int .i64 s.i),.val (.int .i64 e_e),.val (.int .i64 e_r),.val (.int .i64 (A.CB (A.cmp .gtr e_e s.t) e_e s.t)),.val (.int .i64 p),.own 2,.sl none (.ints .i64 w),.sl none (.ints .i64 []),.sl none (.ah (.int .i64 (.int .i64 (.int .i64 (.int .i64 (.bool .nil))))) []),.val (.int .i64 1),.sl none (.ints .i64 []),.sl none (.ah (.int .i64 (.int .i64 (.int .i64 (.int .i64 (.bool .nil))))) []),.val (.int .i64 s.l),.val (.bool s.o),.sl (some (3,89)) (.ah (.int .i64 (.int .i64 (.int .i64 (.int .i64 (.ints .i64 (.ah (.int .i64 (.int .i64 (.int .i64 (.int .i64 (.bool .nil))))) (.int .i64 (.int .i64 (.int .i64 (.int .i64 .nil)))))))))) y.q)]),(2,.row 58 (.ah (.int .i64 (.int .i64 (.int .i64 (.int .i64 (.bool (.bool (.int .i64 .nil))))))) y.t)),(3,.tok)] [.one (.ptr 1 0),Any,Any]) (WG ⟨s.i,e_e,e_r,eF s.t e_e,p,s.ae,w,[],[],1,[],[],s.l,s.o,q⟩) (vtR 84 1 2) ⟨0,s.ae,q⟩ ?_ ?_ ?_
 ·exact Dt jv (fun _=>rfl) _
 ·cbv
  repeat' (first|exact trivial|exact rfl|refine And.intro ?_ ?_)
 rintro⟨j,t,q2⟩ hq2 O2 hO2
 have hst2:=fun hl h=>DJ (F:=jv) (r:=fun d a=>Cl (tie d a)) (fun _ _=>rfl) RQ hl hq2 h
 have hen2:=fun h=>GS hq2 h
 have r0:=hq2.1
 have r1:=hq2.2.1
 have had:=fun (h1:w=cw s.ae p) (h2:q=s.q ++ (cw s.ae p).map fun x=>dI x ⟨1,e_e,e_r,[],[],0,0,0,0⟩)=>Tv (d:=s) (e:=e_e) (r:=e_r) (p:=p) h1 h2
 dsimp only at r0 r1
 subst hA
 generalize hA:Ar.U=A
 generalize hL:Lp _ _ _=L
 refine aO zq ?_
 repeat' (first|(refine ay zq ?_;try dsimp only)|refine ax zq ?_ (aa hL)|refine aw zq ?_|refine az ?_|refine av ?_|refine au ?_|refine aq ?_|refine ar rfl ?_|refine ai rfl ?_|refine aj rfl ?_|(refine Cd.mk ?_;cbv)|(refine aE.mk ?_;cbv)|(refine aJ.mk ?_;cbv)|exact trivial|refine And.intro ?_ ?_|refine bn fun _=>?_|refine bo fun _=>?_)
 all_goals first|(show L _ _ _;skip)|(clear hL hfs zq Z hq hq2;subst hA hF hG0 hG1 hG2 hG3 hG4 hO2;simp only [bK,VoR.Fs.U,KsC.Kc.U,KsU.Ku.U,Ar.U,CK] at * <;> (try simp only [dm] at *) <;> (try simp only [uI,lr,lj,uy,uD,uK,lF,lh,lk,lE,ll,ux,uF] at *) <;> first|(have hsl:=ma ⟨s.i,e_e,e_r,eF s.t e_e,p,t,w,[],[],1,[],[],s.l,s.o,q2⟩ j (Cl (tie ⟨s.i,e_e,e_r,eF s.t e_e,p,t,w,[],[],1,[],[],s.l,s.o,q2⟩ j));generalize aR ⟨s.i,e_e,e_r,eF s.t e_e,p,t,w,[],[],1,[],[],s.l,s.o,q2⟩ j (Cl (tie ⟨s.i,e_e,e_r,eF s.t e_e,p,t,w,[],[],1,[],[],s.l,s.o,q2⟩ j))=Y at hsl ⊢;rcases Y with ⟨_,_,_,_,_,y6,_,_,_,_,_,_,_,_,_⟩;cases y6 <;> cases t <;> first|exact congrArg Int.ofNat hsl|(exfalso;simp at hsl;done))|grind [al,pG,nF,px,uI,lr,lj,uy,uD,uK,lF,lh,lk,lE,ll,ux,uF];done)
theorem mU (hb:aA Tryz.prog 33 (bH (bK V))):aA Tryz.prog 58 (rn (bK V)):=by
 refine aG (af.keeps za zi (af.cons (cu [[none],[none],[none,none,none,some (.ints .i64 []),some (.ah (.int .i64 (.int .i64 (.int .i64 (.int .i64 (.bool .nil))))) []),none,none,none,none]] CY) (af.cons sA (af.cons (kL hb) af.nil rfl) rfl) rfl)) Tryz.func58 rfl rfl fun xs h p hp=>?_
 unfold rn at hp
 split at hp
 ·split at hp
  ·rename_i e0
   cases hp
   have g0:=cT e0
   subst g0
   exact⟨aB rfl,fun hC _=>@OM V hb _ _ _ _ hC⟩
  ·cases hp
 ·cases hp
noncomputable def Ah (F:Kd):aZ:=fun xs h=>match xs with
 |[.one (.ptr 0 0)]=>(match vV h with
  |some s=>some ⟨F.LB s=true,.bJ [],(eN (F.Qh s)),[.one (.ptr 0 0)]⟩
  |none=>none)
 |_=>none
theorem VO (s:CS) (hC:(bK V).LB s=true):aU [(74,zJ KsU.Ku.U)] Tryz.f40 [.one (.ptr 0 0)] (eN s) ⟨(bK V).LB s=true,.bJ [],(eN ((bK V).Qh s)),[.one (.ptr 0 0)]⟩:=by
 refine @bY _ _ _ _ _ ?_
 intro b gv Z zq A hA L hL
 have hk:s.ae.length≤400∧s.q.length≤80000:=of_decide_eq_true (show decide _=true from hC)
 have he1:=fun h=>end_1 (d:=s) h
 have he2:=fun h (t q:List E) e=>Zd (d:=s) h (t:=t) (q:=q) e
 have hfs:=(af.cons vf af.nil rfl)
 generalize hF:(bK V)=F at hC hfs ⊢
 generalize hG0:VoR.Fs.U=G0 at hC hfs ⊢
 generalize hG1:KsC.Kc.U=G1 at hC hfs ⊢
 generalize hG2:KsU.Ku.U=G2 at hC hfs ⊢
 generalize hG3:MgR.Mg.U=G3 at hC hfs ⊢
 generalize hG4:ChQ.Cq.U=G4 at hC hfs ⊢
 repeat' (first|(refine ay zq ?_;try dsimp only)|refine ax zq ?_ (aa hL)|refine aw zq ?_|refine az ?_|refine av ?_|refine au ?_|refine aq ?_|refine ar rfl ?_|refine ai rfl ?_|refine aj rfl ?_|(refine Cd.mk ?_;cbv)|(refine aE.mk ?_;cbv)|(refine aJ.mk ?_;cbv)|exact trivial|refine And.intro ?_ ?_|refine bn fun _=>?_|refine bo fun _=>?_)
 all_goals first|(show L _ _ _;skip)|(clear hL hfs zq Z;subst hA hF hG0 hG1 hG2 hG3 hG4;simp only [bK] at * <;> grind [al,pG,nF,px];done)
 subst hL
 refine aX (br hfs) (VK jw s) (fun y=>cg Tryz.f40.ntmps [(0,.ptr 1 0),(13,.own 2),(14,.val (.int .i64 (A.dK s.ae))),(15,.val (.int .i64 y.i))] [(1,.cells 75 [.val (.int .i64 s.i),.val (.int .i64 s.ee),.val (.int .i64 s.er),.val (.int .i64 s.t),.val (.int .i64 s.p),.own 2,.sl none (.ints .i64 s.w),.sl none (.ints .i64 s.gn),.sl none (.ah (.int .i64 (.int .i64 (.int .i64 (.int .i64 (.bool .nil))))) s.gl),.val (.int .i64 s.ph),.sl none (.ints .i64 s.tn),.sl none (.ah (.int .i64 (.int .i64 (.int .i64 (.int .i64 (.bool .nil))))) s.tl),.val (.int .i64 s.l),.val (.bool s.o),.sl (some (3,89)) (.ah (.int .i64 (.int .i64 (.int .i64 (.int .i64 (.ints .i64 (.ah (.int .i64 (.int .i64 (.int .i64 (.int .i64 (.bool .nil))))) (.int .i64 (.int .i64 (.int .i64 (.int .i64 .nil)))))))))) y.q)]),(2,.row 58 (.ah (.int .i64 (.int .i64 (.int .i64 (.int .i64 (.bool (.bool (.int .i64 .nil))))))) y.t)),(3,.tok)] [.one (.ptr 1 0)]) (WG s) (vtR 15 1 2) ⟨0,s.ae,s.q⟩ ?_ ?_ ?_
 ·exact Dt jw (fun _=>rfl) _
 ·cbv
  repeat' (first|exact trivial|exact rfl|refine And.intro ?_ ?_)
 rintro⟨i,t,q⟩ hq O hO
 have hst:=fun hl h=>DJ (F:=jw) (r:=WH) (fun _ _=>rfl) TV hl hq h
 have hen:=fun h=>GS hq h
 have hr1:=fun h=>Xj (d:=dm s t q) (a:=i) h
 have hr2:=fun h=>YI (d:=dm s t q) (a:=i) h
 have q0:=hq.1
 have q1:=hq.2.1
 dsimp only at q0 q1
 subst hA
 generalize hA:Ar.U=A
 generalize hL:Lp _ _ _=L
 refine aO zq ?_
 repeat' (first|(refine ay zq ?_;try dsimp only)|refine ax zq ?_ (aa hL)|refine aw zq ?_|refine az ?_|refine av ?_|refine au ?_|refine aq ?_|refine ar rfl ?_|refine ai rfl ?_|refine aj rfl ?_|(refine Cd.mk ?_;cbv)|(refine aE.mk ?_;cbv)|(refine aJ.mk ?_;cbv)|exact trivial|refine And.intro ?_ ?_|refine bn fun _=>?_|refine bo fun _=>?_)
 all_goals first|(show L _ _ _;skip)|(clear hL hfs zq Z hq;subst hA hF hG0 hG1 hG2 hG3 hG4 hO;simp only [bK,VoR.Fs.U,KsU.Ku.U,Ar.U] at * <;> (try simp only [dm] at *) <;> (try simp only [uI,lr,lj,uy,uD,uK,lF,lh,lk,lE,ll,ux,uF] at *) <;> first|(have hsl:=ma ⟨s.i,s.ee,s.er,s.t,s.p,t,s.w,s.gn,s.gl,s.ph,s.tn,s.tl,s.l,s.o,q⟩ i (oL (tie ⟨s.i,s.ee,s.er,s.t,s.p,t,s.w,s.gn,s.gl,s.ph,s.tn,s.tl,s.l,s.o,q⟩ i));generalize aR ⟨s.i,s.ee,s.er,s.t,s.p,t,s.w,s.gn,s.gl,s.ph,s.tn,s.tl,s.l,s.o,q⟩ i (oL (tie ⟨s.i,s.ee,s.er,s.t,s.p,t,s.w,s.gn,s.gl,s.ph,s.tn,s.tl,s.l,s.o,q⟩ i))=Y at hsl ⊢;rcases Y with ⟨_,_,_,_,_,y6,_,_,_,_,_,_,_,_,_⟩;cases y6 <;> cases t <;> first|exact congrArg Int.ofNat hsl|(exfalso;simp at hsl;done))|(have hsl:=ma ⟨s.i,s.ee,s.er,s.t,s.p,t,s.w,s.gn,s.gl,s.ph,s.tn,s.tl,s.l,s.o,q⟩ i (Cl (tie ⟨s.i,s.ee,s.er,s.t,s.p,t,s.w,s.gn,s.gl,s.ph,s.tn,s.tl,s.l,s.o,q⟩ i));generalize aR ⟨s.i,s.ee,s.er,s.t,s.p,t,s.w,s.gn,s.gl,s.ph,s.tn,s.tl,s.l,s.o,q⟩ i (Cl (tie ⟨s.i,s.ee,s.er,s.t,s.p,t,s.w,s.gn,s.gl,s.ph,s.tn,s.tl,s.l,s.o,q⟩ i))=Y at hsl ⊢;rcases Y with ⟨_,_,_,_,_,y6,_,_,_,_,_,_,_,_,_⟩;cases y6 <;> cases t <;> first|exact congrArg Int.ofNat hsl|(exfalso;simp at hsl;done))|grind [al,pG,nF,px,uI,lr,lj,uy,uD,uK,lF,lh,lk,lE,ll,ux,uF];done)
theorem wY:aA Tryz.prog 40 (Ah (bK V)):=by
 refine aG (af.cons vf af.nil rfl) Tryz.func40 rfl rfl fun xs h p hp=>?_
 unfold Ah at hp
 split at hp
 ·split at hp
  ·rename_i e0
   cases hp
   have g0:=cT e0
   subst g0
   exact⟨aB rfl,fun hC _=>@VO V _ hC⟩
  ·cases hp
 ·cases hp
noncomputable def Kt (F:Kd):aZ:=fun xs h=>match xs with
 |[.one (.ptr 0 0)]=>(match vV h with
  |some s=>some ⟨F.JI s=true,.bJ [],(eN (F.Hq s)),[.one (.ptr 0 0)]⟩
  |none=>none)
 |_=>none
theorem Sm (hb:aA Tryz.prog 33 (bH (bK V))) (s:CS) (hC:(bK V).JI s=true):aU [(57,xM KsC.Kc.U),(40,Ah (bK V)),(58,rn (bK V))] Tryz.f33 [.one (.ptr 0 0)] (eN s) ⟨(bK V).JI s=true,.bJ [],(eN ((bK V).Hq s)),[.one (.ptr 0 0)]⟩:=by
 refine @bY _ _ _ _ _ ?_
 intro b gv Z zq A hA L hL
 have hgo:=SE (show oh V s=true from hC)
 have hfs:=(af.cons yK (af.cons (wY (V:=V)) (af.cons (mU hb) af.nil rfl) rfl) rfl)
 generalize hF:(bK V)=F at hC hfs ⊢
 generalize hG0:VoR.Fs.U=G0 at hC hfs ⊢
 generalize hG1:KsC.Kc.U=G1 at hC hfs ⊢
 generalize hG2:KsU.Ku.U=G2 at hC hfs ⊢
 generalize hG3:MgR.Mg.U=G3 at hC hfs ⊢
 generalize hG4:ChQ.Cq.U=G4 at hC hfs ⊢
 repeat' (first|(refine ay zq ?_;try dsimp only)|refine ax zq ?_ (aa hL)|refine aw zq ?_|refine az ?_|refine av ?_|refine au ?_|refine aq ?_|refine ar rfl ?_|refine ai rfl ?_|refine aj rfl ?_|(refine Cd.mk ?_;cbv)|(refine aE.mk ?_;cbv)|(refine aJ.mk ?_;cbv)|exact trivial|refine And.intro ?_ ?_|refine bn fun _=>?_|refine bo fun _=>?_)
 all_goals first|(show L _ _ _;skip)|(clear hL hfs zq Z;subst hA hF hG0 hG1 hG2 hG3 hG4;simp only [bK,VoR.Fs.U,KsC.Kc.U,Ar.U,hN,CK] at * <;> grind [al,pG,nF,px];done)
theorem DZ (hb:aA Tryz.prog 33 (bH (bK V))):aA Tryz.prog 33 (Kt (bK V)):=by
 refine aG (af.cons yK (af.cons (wY (V:=V)) (af.cons (mU hb) af.nil rfl) rfl) rfl) Tryz.func33 rfl rfl fun xs h p hp=>?_
 unfold Kt at hp
 split at hp
 ·split at hp
  ·rename_i e0
   cases hp
   have g0:=cT e0
   subst g0
   exact⟨aB rfl,fun hC _=>@Sm V hb _ hC⟩
  ·cases hp
 ·cases hp
end Go.Proofs.YtelhldgdnlppfaaGreat.KsD
