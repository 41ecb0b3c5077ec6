/-
  A core: what its choices make of it,and what begins itself again. No condition.
-/
import Derived.Test.YtelhldgdnlppfaaGreatVdKsS
import Derived.Test.YtelhldgdnlppfaaGreatVdChQ
import Derived.Test.YtelhldgdnlppfaaGreatVdMgR
namespace Go.Proofs.YtelhldgdnlppfaaGreat.KsT
open Go Ry ViR VoR KsS
open MgR (nJ mD oE)
open ChQ (my la CH)
def eU (d:CS):List Int:=if oE [d.i] (jA d.i d.ae) d.gn d.gl=0 then nJ [d.i] (jA d.i d.ae) d.gn d.gl else [d.i]
def eS (d:CS):List E:=if oE [d.i] (jA d.i d.ae) d.gn d.gl=0 then mD [d.i] (jA d.i d.ae) d.gn d.gl else jA d.i d.ae
def ecW (d:CS) (n:List Int) (l:List E):WK:=⟨2,d.ee,d.er,n,l,0,0,0,0⟩
def uN (d:CS) (c:CH) (n:List Int) (l:List E):WK:=⟨3,d.ee,d.er,if c.k=1 then n else [],if c.k=1 then l else [],c.k,c.a,c.b,c.s⟩
def gY (d:CS) (c:CH) (n:List Int) (l:List E):CS:=if c.k=1 then { dF d (cw d.ae d.p) (uN d c n l) with ph:=4,tn:=n,tl:=l } else { dF d (cw d.ae d.p) (uN d c n l) with ph:=3 }
def nj (d:CS) (c:CH):Bool:=decide (¬c.k=1∧c.a=d.i∧0≤dn d.ae c.b∧ri (tie d (dn d.ae c.b)) 2=c.s)
def stops (d:CS):Bool:=d.o || (!decide (d.ph=1) || (decide (0 < d.w.length) || uO d.ae))
structure Lv where
 B:CS→CS
 ok:CS→Bool
def lV (L:Lv) (d:CS) (k a:Int):CS :=
 if k=2 then (if (ue (tie d a)).tb=true then L.B (aR d a (ue (tie d a))) else aR d a (ue (tie d a)))
 else if k=3 then (if (oL (tie d a)).tp=true then L.B (aR d a (oL (tie d a))) else aR d a (oL (tie d a)))
 else d
def Xd (d:CS) (a:Int):Bool:=decide (0≤a∧a < d.ae.length∧d.ae.length≤1000∧d.q.length≤99000)
def qa (L:Lv) (d:CS) (k a:Int):Bool:=Xd d a && ((!decide (k=2) || (!(ue (tie d a)).tb || L.ok (aR d a (ue (tie d a))))) && (!decide (k=3) || (!(oL (tie d a)).tp || L.ok (aR d a (oL (tie d a))))))
def AO (L:Lv) (d:CS) (c:CH) (v:List Int) (l:List E):CS:=if nj d c=true then lV L (gY d c v l) c.k (dn d.ae c.b) else gY d c v l
def sM (L:Lv) (d:CS) (c:CH) (v:List Int) (l:List E):Bool:=decide (d.ae.length≤500∧d.q.length≤90000∧v.length≤1000∧l.length≤1000) && (!nj d c || qa L (gY d c v l) c.k (dn d.ae c.b))
def gu (L:Lv) (d:CS):CS :=
 if stops d=true then d
 else if ¬d.p=0 then { kY d d.p (ecW d (eU d) (eS d)) with ph:=2 }
 else if ¬my (eU d) (eS d)=0 then { d with ph:=3 }
 else AO L d (la (eU d) (eS d)) (eU d) (eS d)
def szD (d:CS):Bool:=decide (d.ae.length≤400∧d.q.length≤89000∧d.gn.length≤500∧d.gl.length≤500)
def gL (L:Lv) (d:CS):Bool:=szD d && (stops d || (!decide (d.p=0) || (!decide (my (eU d) (eS d)=0) || sM L d (la (eU d) (eS d)) (eU d) (eS d))))
def gC (L:Lv) (d:CS) (e r p:Int):Bool:=decide (d.ae.length≤400∧d.q.length≤80000) && gL L (fY d e r p)
def nF (d:CS):Bool:=decide (d.ae.length≤400∧d.q.length≤80000)
def oj (L:Lv) (d:CS):CS:=if d.o=true then d else if IY (eF d.t d.ee) d.l d.i=0 then gu L (fY d (eF d.t d.ee+1) d.i 0) else nH d
def oh (L:Lv) (d:CS):Bool:=nF d && (d.o || (!decide (IY (eF d.t d.ee) d.l d.i=0) || gC L d (eF d.t d.ee+1) d.i 0))
def Lv.up (L:Lv):Lv:=⟨oj L,oh L⟩
def GH:Lv:=⟨id,fun _=>false⟩
theorem DX (d:CS):(eU d).length≤1+d.gn.length∧(eS d).length≤d.ae.length+d.gl.length:=by
 have hl:(jA d.i d.ae).length=d.ae.length:=List.length_map _
 unfold eU eS
 constructor
 ·split
  ·unfold nJ
   split
   ·rw [(SoI.cG _).1,List.length_append,List.length_singleton]
    omega
   ·exact Nat.zero_le _
  ·rw [List.length_singleton]
   omega
 ·split
  ·unfold mD
   split
   ·rw [(SoK.ep _).1,List.length_append,hl]
    omega
   ·exact Nat.zero_le _
  ·rw [hl]
   omega
theorem qO (l:List E) (p:Int):(cw l p).length≤l.length:=by
 unfold cw
 rw [List.length_map]
 exact List.length_filter_le _ _
end Go.Proofs.YtelhldgdnlppfaaGreat.KsT
