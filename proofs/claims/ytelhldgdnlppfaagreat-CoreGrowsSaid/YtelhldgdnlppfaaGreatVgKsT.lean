/-
  A core: what its choices make of it,and what begins itself again. No condition.
-/
import Derived.Test.YtelhldgdnlppfaaGreatVgKsS
import Derived.Test.YtelhldgdnlppfaaGreatVgChQ
import Derived.Test.YtelhldgdnlppfaaGreatVgMgR
namespace Go.Proofs.YtelhldgdnlppfaaGreat.KsT
open Go Ry ViR VoR KsS
open MgR (nB my mD)
open ChQ (mh kO CH)
def eU (d:CS):List Int:=if mD [d.i] (kc d.i d.aa) d.gn d.gl=0 then nB [d.i] (kc d.i d.aa) d.gn d.gl else [d.i]
def eV (d:CS):List E:=if mD [d.i] (kc d.i d.aa) d.gn d.gl=0 then my [d.i] (kc d.i d.aa) d.gn d.gl else kc d.i d.aa
def ecW (d:CS) (n:List Int) (l:List E):WK:=⟨2,d.ee,d.er,n,l,0,0,0,0⟩
def uK (d:CS) (c:CH) (n:List Int) (l:List E):WK:=⟨3,d.ee,d.er,if c.k=1 then n else [],if c.k=1 then l else [],c.k,c.a,c.b,c.s⟩
def fU (d:CS) (c:CH) (n:List Int) (l:List E):CS:=if c.k=1 then { dG d (cw d.aa d.p) (uK d c n l) with ph:=4,tn:=n,tl:=l } else { dG d (cw d.aa d.p) (uK d c n l) with ph:=3 }
def mL (d:CS) (c:CH):Bool:=decide (¬c.k=1∧c.a=d.i∧0≤dw d.aa c.b∧ri (tie d (dw d.aa c.b)) 2=c.s)
def stops (d:CS):Bool:=d.o || (!decide (d.ph=1) || (decide (0 < d.w.length) || ue d.aa))
structure Lv where
 B:CS→CS
 ok:CS→Bool
def jY (L:Lv) (d:CS) (k a:Int):CS :=
 if k=2 then (if (qN (tie d a)).tb=true then L.B (aL d a (qN (tie d a))) else aL d a (qN (tie d a)))
 else if k=3 then (if (kY (tie d a)).tp=true then L.B (aL d a (kY (tie d a))) else aL d a (kY (tie d a)))
 else d
def VS (d:CS) (a:Int):Bool:=decide (0≤a∧a < d.aa.length∧d.aa.length≤1000∧d.q.length≤99000)
def pF (L:Lv) (d:CS) (k a:Int):Bool:=VS d a && ((!decide (k=2) || (!(qN (tie d a)).tb || L.ok (aL d a (qN (tie d a))))) && (!decide (k=3) || (!(kY (tie d a)).tp || L.ok (aL d a (kY (tie d a))))))
def wQ (L:Lv) (d:CS) (c:CH) (v:List Int) (l:List E):CS:=if mL d c=true then jY L (fU d c v l) c.k (dw d.aa c.b) else fU d c v l
def sH (L:Lv) (d:CS) (c:CH) (v:List Int) (l:List E):Bool:=decide (d.aa.length≤500∧d.q.length≤90000∧v.length≤1000∧l.length≤1000) && (!mL d c || pF L (fU d c v l) c.k (dw d.aa c.b))
def fH (L:Lv) (d:CS):CS :=
 if stops d=true then d
 else if ¬d.p=0 then { oX d d.p (ecW d (eU d) (eV d)) with ph:=2 }
 else if ¬mh (eU d) (eV d)=0 then { d with ph:=3 }
 else wQ L d (kO (eU d) (eV d)) (eU d) (eV d)
def ZR (d:CS):Bool:=decide (d.aa.length≤400∧d.q.length≤89000∧d.gn.length≤500∧d.gl.length≤500)
def gO (L:Lv) (d:CS):Bool:=ZR d && (stops d || (!decide (d.p=0) || (!decide (mh (eU d) (eV d)=0) || sH L d (kO (eU d) (eV d)) (eU d) (eV d))))
def gG (L:Lv) (d:CS) (e r p:Int):Bool:=decide (d.aa.length≤400∧d.q.length≤80000) && gO L (fP d e r p)
def mS (d:CS):Bool:=decide (d.aa.length≤400∧d.q.length≤80000)
def kR (L:Lv) (d:CS):CS:=if d.o=true then d else if Hm (dV d.t d.ee) d.l d.i=0 then fH L (fP d (dV d.t d.ee+1) d.i 0) else kW d
def nj (L:Lv) (d:CS):Bool:=mS d && (d.o || (!decide (Hm (dV d.t d.ee) d.l d.i=0) || gG L d (dV d.t d.ee+1) d.i 0))
def Lv.up (L:Lv):Lv:=⟨kR L,nj L⟩
def Ey:Lv:=⟨id,fun _=>false⟩
theorem Dg (d:CS):(eU d).length≤1+d.gn.length∧(eV d).length≤d.aa.length+d.gl.length:=by
 have hl:(kc d.i d.aa).length=d.aa.length:=List.length_map _
 unfold eU eV
 constructor
 ·split
  ·unfold nB
   split
   ·rw [(SoI.cH _).1,List.length_append,List.length_singleton]
    omega
   ·exact Nat.zero_le _
  ·rw [List.length_singleton]
   omega
 ·split
  ·unfold my
   split
   ·rw [(SoK.ei _).1,List.length_append,hl]
    omega
   ·exact Nat.zero_le _
  ·rw [hl]
   omega
theorem qJ (l:List E) (p:Int):(cw l p).length≤l.length:=by
 unfold cw
 rw [List.length_map]
 exact List.length_filter_le _ _
end Go.Proofs.YtelhldgdnlppfaaGreat.KsT
