/-
  What the laws of a core ask: how much is told,a new core's values,events as they come in. No condition.
-/
import Derived.Test.YtelhldgdnlppfaaGreatVdW53
import Derived.Test.YtelhldgdnlppfaaGreatVdW14
namespace Go.Proofs.YtelhldgdnlppfaaGreat.KrQ
open Go Ry ViR VoR KsS KsC KsT KsE KsF KrV KrW KrX KrY KrZ
open ViM (e5)
open ChQ (my la CH)
open KsG (iD fL tw AF)
def Qb (L:Lv) (n:Nat):Prop:=∀ x,Vd x→(L.B x).q.length≤x.q.length+n
theorem Yp {L:Lv} {n:Nat} (hB:Qb L n) {d:CS} (h:Vd d) (k:Int) {a:Int} (h0:0≤a) (h1:a < d.ae.length):(lV L d k a).q.length≤d.q.length+1+n:=by
 have hv:=(h.t _ (cM h0 h1)).v
 obtain⟨g,q,_⟩:=cX h h0 h1 (JG hv)
 obtain⟨g2,q2,_⟩:=cX h h0 h1 (BD hv)
 have b:=hB _ g
 have b2:=hB _ g2
 unfold lV
 split
 ·split <;> omega
 ·split
  ·split <;> omega
  ·omega
theorem Wl {L:Lv} {n:Nat} (hB:Qb L n) {d:CS} (h:Vd d) (ho:d.o=false) (c:CH) {v:List Int} {l:List E} (hv:v.length≤500) (hl:l.length≤500):(AO L d c v l).q.length≤d.q.length+65+n:=by
 obtain⟨g,q,t⟩:=xQ h ho c hv hl
 unfold AO
 split
 ·rename_i e
  obtain⟨m1,m2⟩:=qY e
  have:=Yp hB g c.k m1 (by rw [t];exact m2)
  omega
 ·omega
theorem CF {L:Lv} {n:Nat} (hB:Qb L n) {d:CS} (h:Vd d):(gu L d).q.length≤d.q.length+65+n:=by
 have hs:=mW h
 unfold gu
 split
 ·omega
 ·rename_i e
  have ho:=(iy e).1
  split
  ·show (d.q ++ [_]).length≤_
   rw [List.length_append,List.length_singleton]
   omega
  ·split
   ·show d.q.length≤_
    omega
   ·exact Wl hB h ho _ (by omega) (by omega)
theorem QP {L:Lv} {n:Nat} (hB:Qb L n) {d:CS} (h:Vd d):(oj L d).q.length≤d.q.length+193+n:=by
 have hl:=h.len
 have e2:=(xF h).2.1
 unfold oj
 split
 ·omega
 ·rename_i e
  split
  ·obtain⟨v,q,_,_⟩:=iV h (by simpa using e) (eF d.t d.ee+1) d.i 0
   have:=CF hB v
   omega
  ·omega
theorem FG:Qb VV 386:=fun _ h=>QP (L:=GH.up) (n:=193) (fun _ h=>QP (L:=GH) (n:=0) (fun _ _=>Nat.le_refl _) h) h
theorem aav {L:Lv} {n:Nat} (hB:Qb L n) {d:CS} (h:Vd d) {a:Int} (h0:0≤a) (h1:a < d.ae.length) (k:Int):(Bd L d a k).q.length≤d.q.length+66+n:=by
 have hv:=(h.t _ (cM h0 h1)).v
 obtain⟨g,q,l⟩:=cX h h0 h1 (Pu k hv)
 have h2:a < (aR d a (fv k (tie d a))).ae.length:=by rw [l];exact h1
 have q2:=(cX g h0 h2 (BD (g.t _ (cM h0 h2)).v)).2.1
 have b:=hB _ g
 have s:=CF hB g
 unfold Bd
 split
 ·omega
 ·split
  ·omega
  ·split <;> omega
theorem aam {d:CS} (h:Vd d) (hq:d.q=[]) (hg:d.gl.length≤100) {v:EV} (hc:fH d.i v=true) (hx:Lt v.x):(oK VV d v).q.length≤1000:=by
 have n1:=hx.n.1
 have n2:=hx.n.2
 have hl:=h.len
 have hq0:d.q.length=0:=by rw [hq];rfl
 unfold oK
 split
 ·rename_i e
  obtain⟨c1,c2,c3⟩:=Bx hc e
  have:=FG _ (HO h c1 c2 c3)
  have e2:(Qe d v.p v.w v.s).q=d.q:=rfl
  rw [e2] at this
  omega
 ·split
  ·unfold QL
   split
   ·omega
   ·have:=FG _ (Kh h (dn d.ae v.p))
    have e2:(VP d v.p).q=d.q:=rfl
    have e3:VV.B (VP d v.p)=VV.B { d with ae:=PH d.ae (dn d.ae v.p) }:=rfl
    rw [e3]
    have e4:({ d with ae:=PH d.ae (dn d.ae v.p) }:CS).q=d.q:=rfl
    rw [e4] at this
    omega
  ·split
   ·rename_i e
    have mw:=wA hc e
    unfold jB
    split
    ·rename_i e2
     split
     ·omega
     ·split
      ·omega
      ·unfold tz
       split
       ·obtain⟨v2,q2,_,_⟩:=BU h hg ⟨mw,hx.n,hx.c⟩ e2 v.p
        have:=CF FG v2
        rw [q2] at this
        omega
       ·omega
    ·unfold fQ
     split
     ·omega
     ·rename_i na
      have at2:=(lI d.ae v.p).2
      split
      ·have:=aav FG h (show 0≤dn d.ae v.p by omega) at2 v.x.k
       omega
      ·split
       ·omega
       ·rename_i ho
        have ho:d.o=false:=by simpa using ho
        split
        ·split
         ·obtain⟨g,q,_,_⟩:=iV h ho v.x.e v.x.r v.p
          have:=CF FG g
          omega
         ·omega
        ·split
         ·split
          ·have:=Wl FG h ho (VC v.x) (show v.x.n.length≤500 by omega) (show v.x.l.length≤500 by omega)
           omega
          ·omega
         ·omega
   ·have:=(xF h).2.1
    omega
def GM (d:CS):CS:=⟨d.i,d.ee,d.er,d.t,d.p,d.ae,d.w,d.gn,d.gl,d.ph,d.tn,d.tl,d.l,d.o,[]⟩
theorem Qq {d:CS} (h:Vd d):Vd (GM d):=⟨h.i,h.t,h.s,h.g,h.c,h.o,h.w,h.z⟩
theorem Iy {d:CS} (h:Vd d):Ge d=true:=by
 have h1:=h.len
 have h2:=h.Vn
 have h3:=h.w.2
 have h4:=h.z
 exact decide_eq_true ⟨by omega,by omega,by omega,by omega,by omega,by omega⟩
theorem GX {d:CS} (h:Vd d) (hq:d.q=[]) {v:EV} (hg:d.gl.length≤100) (hx:Lt v.x) :
  AF VV d v=true∧Zk d v=true∧(fH d.i v=true→dD d.i v=0)∧(fH d.i v=false→dD d.i v=1)∧Ge d=true ∧
  (fH d.i v=false→fx VV d v=⟨0,0,0,0,0,[],[],[],[],0,[],[],0,false,[]⟩) ∧
  (fH d.i v=true→Vd (GM (fx VV d v))∧Ge (fx VV d v)=true∧szO (fx VV d v).q=true∧(fx VV d v).ae.length≤64):=by
 have hl:=h.len
 have hgn:=h.Vn
 have hw6:=h.w.2
 have hz:=h.z
 have n1:=hx.n.1
 have n2:=hx.n.2
 have hq0:d.q.length=0:=by rw [hq];rfl
 have c1:fH d.i v=true→dD d.i v=0:=fun e=>if_pos e
 have c2:fH d.i v=false→dD d.i v=1:=fun e=>if_neg (by rw [e];decide)
 have s1:fH d.i v=true→fx VV d v=oK VV d v:=fun e=>if_pos (c1 e)
 refine⟨?_,?_,c1,c2,Iy h,fun e=>if_neg (by rw [c2 e];decide),fun e=>?_⟩
 ·unfold KsG.AF
  rw [show ER d v.x=true from decide_eq_true ⟨by omega,by omega,by omega,by omega,by omega,by omega,by omega⟩,decide_eq_true (show d.tn.length≤1000∧d.tl.length≤1000∧d.q=[] from ⟨by omega,by omega,hq⟩)]
  cases e:fH d.i v
  ·rw [c2 e]
   simp
  ·rw [RW (Lk.mono Ez (by omega)) h (by omega) hg e hx]
   simp
 ·unfold Zk
  rw [Uu.2 h,lt_iff.2 hx,decide_eq_true (show d.q=[]∧d.gl.length≤100 from ⟨hq,hg⟩)]
  rfl
 ·rw [s1 e]
  obtain⟨a,b⟩:=Zz Ez.v aaz h (fun y hy=>by rw [hq] at hy;cases hy) hg e hx
  exact⟨Qq a,Iy a,OZ.2 ⟨by have:=aam h hq hg e hx;omega,b⟩,a.len⟩
theorem tv {i l:Int} (h:fL i l=true):tw VV i l=LF i l∧Vd (GM (LF i l))∧(!fL i l || VV.ok (iD i l))=true:=by
 have hn:cq i=true:=by
  unfold KsG.fL at h
  exact (Bool.and_eq_true_iff.1 h).1
 refine⟨if_pos h,Qq (Tc hn l),?_⟩
 rw [Ez.ok _ (Dy hn l) (Nat.zero_le _)]
 simp
theorem Tm {i l:Int} (h:fL i l=false):tw VV i l=⟨0,0,0,0,0,[],[],[],[],0,[],[],0,false,[]⟩∧(!fL i l || VV.ok (iD i l))=true:=⟨if_neg (by rw [h];decide),by rw [h];rfl⟩
theorem Zc {a:Int} (h0:0≤a) (_:a≤255):aN .rem .u8 a 4=a % 4∧IntKind.i64.wrap (a % 4)=a % 4∧aN .add .i64 1 (a % 4)=1+a % 4∧cq (1+a % 4)=true:=by
 refine⟨?_,wr _ (by omega) (by omega),by rw [bp,wr _ (by omega) (by omega)],?_⟩
 ·show a.tmod 4=a % 4
  rw [Int.tmod_eq_emod_of_nonneg h0]
 ·unfold ViR.cq
  exact decide_eq_true (by omega)
theorem QK {α:Type} {l:List α} (h:l.length=0):l=[]:=List.length_eq_zero_iff.1 h
theorem LP:SoK.kz []=[]:=QK (SoK.ep []).1
theorem Lm (i:Int):SoI.fu [i]=[i]:=List.perm_singleton.1 (SoI.cG [i]).2.1
theorem La:SoC.dj []=[]:=QK (SoC.kq []).1
theorem Se:fY (iD 3 9) 1 3 0=⟨3,1,3,1,0,[],[],[],[],1,[],[],9,false,[]⟩:=rfl
theorem QB:MgR.qy [3] [] [] []=true:=by decide +kernel
theorem HQ:eU ⟨3,1,3,1,0,[],[],[],[],1,[],[],9,false,[]⟩=[3]∧eS ⟨3,1,3,1,0,[],[],[],[],1,[],[],9,false,[]⟩=[]:=by
 have e0:MgR.oE [3] [] [] []=0:=by decide +kernel
 have e1:MgR.nJ [3] [] [] []=[3]:=by
  unfold MgR.nJ
  rw [if_pos QB]
  exact Lm 3
 have e2:MgR.mD [3] [] [] []=[]:=by
  unfold MgR.mD
  rw [if_pos QB]
  exact LP
 unfold eU eS
 show (if MgR.oE [3] [] [] []=0 then MgR.nJ [3] [] [] [] else [3])=[3]∧(if MgR.oE [3] [] [] []=0 then MgR.mD [3] [] [] [] else [])=[]
 rw [if_pos e0,if_pos e0]
 exact⟨e1,e2⟩
theorem Ie:my [3] []=0:=by decide +kernel
theorem SR:la [3] []=⟨1,0,0,0⟩:=by
 have e1:ViL.lH [3] []=[]:=by decide +kernel
 have e2:ViL.vI [3] []=[]:=by decide +kernel
 have e3:ViL.um [3] []=[]:=by decide +kernel
 have e4:ChQ.zA [] []=false:=by
  unfold ChQ.zA ChQ.oK
  rw [La]
  rfl
 unfold ChQ.la
 rw [if_neg (fun q=>q Ie),e1,e2,e3,e4]
 rfl
theorem Sx:tw VV 3 9=⟨3,1,3,1,0,[],[],[],[],4,[3],[],9,false,[]⟩:=by
 rw [(tv (show fL 3 9=true by decide +kernel)).1]
 show oj GH.up (iD 3 9)=_
 unfold oj
 rw [if_neg (by decide),if_pos (show IY (eF (iD 3 9).t (iD 3 9).ee) (iD 3 9).l (iD 3 9).i=0 by decide +kernel)]
 show gu GH.up (fY (iD 3 9) 1 3 0)=_
 rw [Se]
 unfold gu
 rw [HQ.1,HQ.2,Ie,SR]
 rfl
def evE (y:E):EV:=⟨ri y 0,ri y 1,ri y 2,ri y 3,⟨ri y 4,ri y 5,ri y 6,rl y 7,rr y 8,ri y 9,ri y 10,ri y 11,ri y 12⟩⟩
def nE (y:E):E:=[.int (ri y 0),.int (ri y 1),.int (ri y 2),.int (ri y 3),.int (ri y 4),.int (ri y 5),.int (ri y 6),.ints (rl y 7),.ah ((rr y 8).map e5),.int (ri y 9),.int (ri y 10),.int (ri y 11),.int (ri y 12)]
def lN (l:List E):Prop:=∀ y∈l,∀ z∈rr y 8,z=e5 z
theorem Nc (l:List E):lN (l.map nE):=fun y hy z hz=>by
 obtain⟨x,_,rfl⟩:=List.mem_map.1 hy
 have hz:z∈(rr x 8).map e5:=hz
 obtain⟨u,_,rfl⟩:=List.mem_map.1 hz
 rfl
theorem CG {G:Gm} {sz:Nat} {P P' : E→List Value→Prop} {f:E→E} (hf:∀ y us,P y us→P' (f y) us) {l:List E} {v:Value} (h:cV G sz P l v):cV G sz P' (l.map f) v:=by
 obtain⟨A,c,e,h1,h2,h3⟩:=h
 refine⟨A,c,by rw [List.length_map];exact e,by rw [List.length_map];exact h1,h2,fun hne=>?_⟩
 obtain⟨b,o,ha,hc⟩:=h3 (fun q=>hne (by rw [q];rfl))
 refine⟨b,o,ha,fun i x hx=>?_⟩
 rw [List.getElem?_map] at hx
 cases hy:l[i]? with
 |none=>rw [hy] at hx;cases hx
 |some y =>
  rw [hy] at hx
  cases hx
  obtain⟨us,u1,u2,u3⟩:=hc i y hy
  exact⟨us,u1,hf _ _ u2,u3⟩
theorem MY {G:Gm} {y:E} {us:List Value} (h:aY G (.int .i64 (.int .i64 (.int .i64 (.int .i64 (.int .i64 (.int .i64 (.int .i64 (.ints .i64 (.ah (.int .i64 (.int .i64 (.int .i64 (.int .i64 (.bool .nil))))) (.int .i64 (.int .i64 (.int .i64 (.int .i64 .nil))))))))))))) y 0 us) :
  aY G (.int .i64 (.int .i64 (.int .i64 (.int .i64 (.int .i64 (.int .i64 (.int .i64 (.ints .i64 (.ah (.int .i64 (.int .i64 (.int .i64 (.int .i64 (.bool .nil))))) (.int .i64 (.int .i64 (.int .i64 (.int .i64 .nil))))))))))))) (nE y) 0 us:=by
 obtain⟨_,rfl,_,rfl,_,rfl,_,rfl,_,rfl,_,rfl,_,rfl,u1,_,rfl,h1,u2,_,rfl,h2,_,rfl,_,rfl,_,rfl,_,rfl,h3⟩:=h
 have h2' : cV G (Sh.size (.int .i64 (.int .i64 (.int .i64 (.int .i64 (.bool .nil)))))) (fun y us=>aY G (.int .i64 (.int .i64 (.int .i64 (.int .i64 (.bool .nil))))) y 0 us) ((rr y 8).map e5) u2:=CG (P:=fun y us=>aY G (.int .i64 (.int .i64 (.int .i64 (.int .i64 (.bool .nil))))) y 0 us) (f:=e5) (fun _ _ q=>q) h2
 exact⟨_,rfl,_,rfl,_,rfl,_,rfl,_,rfl,_,rfl,_,rfl,u1,_,rfl,h1,u2,_,rfl,h2',_,rfl,_,rfl,_,rfl,_,rfl,h3⟩
theorem YW {G:Gm} {l:List E} {v:Value} (h:(SC.sl none (.ah (.int .i64 (.int .i64 (.int .i64 (.int .i64 (.int .i64 (.int .i64 (.int .i64 (.ints .i64 (.ah (.int .i64 (.int .i64 (.int .i64 (.int .i64 (.bool .nil))))) (.int .i64 (.int .i64 (.int .i64 (.int .i64 .nil))))))))))))) l)).is G v) :
  (SC.sl none (.ah (.int .i64 (.int .i64 (.int .i64 (.int .i64 (.int .i64 (.int .i64 (.int .i64 (.ints .i64 (.ah (.int .i64 (.int .i64 (.int .i64 (.int .i64 (.bool .nil))))) (.int .i64 (.int .i64 (.int .i64 (.int .i64 .nil))))))))))))) (l.map nE))).is G v:=⟨CG (fun _ _ q=>MY q) h.1,trivial⟩
def QJ (y:E):Bool:=decide ((rl y 7).length≤70∧(rr y 8).length≤60)
theorem Xx {l:List E} (hp:lN l) {i:Int} (h0:0≤i) (h1:i < l.length) (h:QJ (l.getD i.toNat [])=true):Lt (evE (l.getD i.toNat [])).x:=⟨of_decide_eq_true h,hp _ (wC h0 h1)⟩
theorem Au {d:CS} (h:Vd d) (hq:d.q=[]) {v:EV} (ha:dn d.ae v.p < 0) (hk:v.k=2∨v.k=3) (hn:v.x.n.length≤70∧v.x.l.length≤60) :
  AF VV d v=true∧(dD d.i v=0→fx VV d v=d)∧(v.k=2→dD d.i v=0)∧(dD d.i v=0∨dD d.i v=1):=by
 have hl:=h.len
 have hgn:=h.Vn
 have hw6:=h.w.2
 have hz:=h.z
 have n1:=hn.1
 have n2:=hn.2
 have hq0:d.q.length=0:=by rw [hq];rfl
 have sg:ER d v.x=true:=decide_eq_true ⟨by omega,by omega,by omega,by omega,by omega,by omega,by omega⟩
 have su:yE d=true:=decide_eq_true ⟨by omega,by omega⟩
 have oe:qn VV d v=true:=by
  unfold qn yg jg oc
  rw [sg,su,decide_eq_true ha,decide_eq_true (show v.x.n.length≤1000∧v.x.l.length≤1000 from ⟨by omega,by omega⟩),decide_eq_false (show ¬v.k=1 by omega)]
  simp
 refine⟨?_,fun e=>?_,fun e=>?_,?_⟩
 ·unfold KsG.AF
  rw [sg,oe,decide_eq_true (show d.tn.length≤1000∧d.tl.length≤1000∧d.q=[] from ⟨by omega,by omega,hq⟩)]
  simp
 ·have s:fx VV d v=oK VV d v:=if_pos e
  rw [s]
  unfold oK
  rw [if_neg (by omega)]
  rcases hk with k|k
  ·rw [if_pos k]
   exact if_pos ha
  ·rw [if_neg (by omega),if_pos k]
   unfold jB fQ
   rw [if_pos ha,if_pos ha]
   split <;> rfl
 ·refine if_pos (show fH d.i v=true from ?_)
  unfold fH
  rw [if_neg (by omega),if_neg (by omega)]
  exact decide_eq_true (.inl e)
 ·unfold dD
  split
  ·exact .inl rfl
  ·exact .inr rfl
end Go.Proofs.YtelhldgdnlppfaaGreat.KrQ
