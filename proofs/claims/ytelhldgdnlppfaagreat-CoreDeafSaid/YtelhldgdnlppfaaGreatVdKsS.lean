/-
  A core: what each event makes of it,as functions of all that it holds. No condition.
-/
import Derived.Test.YtelhldgdnlppfaaGreatVdW16
import Derived.Test.YtelhldgdnlppfaaGreatVdViR
namespace Go.Proofs.YtelhldgdnlppfaaGreat.KsS
open Go Ry ViR VoR
structure CS where
 i:Int
 ee:Int
 er:Int
 t:Int
 p:Int
 ae:List E
 w:List Int
 gn:List Int
 gl:List E
 ph:Int
 tn:List Int
 tl:List E
 l:Int
 o:Bool
 q:List E
theorem hN (d:CS):(⟨d.i,d.ee,d.er,d.t,d.p,d.ae,d.w,d.gn,d.gl,d.ph,d.tn,d.tl,d.l,d.o,d.q⟩:CS)=d:=rfl
structure WK where
 k:Int
 e:Int
 r:Int
 n:List Int
 l:List E
 ck:Int
 ca:Int
 cb:Int
 cs:Int
def dI (to:Int) (w:WK):E:=[.int to,.int w.k,.int w.e,.int w.r,.ints w.n,.ah w.l,.int w.ck,.int w.ca,.int w.cb,.int w.cs]
def AR (k:Int):WK:=⟨k,0,0,[],[],0,0,0,0⟩
def kY (d:CS) (to:Int) (w:WK):CS:={ d with q:=d.q ++ [dI to w] }
def Mx (p w s:Int):E:=[.int p,.int w,.int s,.int 0,.bool false,.bool false,.int 0]
def jb (y:E) (r:VT):E:=[.int (ri y 0),.int (ri y 1),.int (ri y 2),.int r.m,.bool r.t,.bool r.b,.int r.o]
def ue (y:E):VT:=oS (ri y 3) (rb y 4) (rb y 5) (ri y 6)
def Cl (y:E):VT:=pP (ri y 3) (rb y 4) (rb y 5) (ri y 6)
def oL (y:E):VT:=pW (ri y 3) (rb y 4) (rb y 5) (ri y 6)
def fv (k:Int) (y:E):VT:=qW (ri y 3) (rb y 4) (rb y 5) (ri y 6) k
def dn (l:List E) (p:Int):Int:=if l.any (fun y=>decide (ri y 0=p))=true then (l.findIdx fun y=>decide (ri y 0=p):Nat) else -1
def tie (d:CS) (a:Int):E:=d.ae.getD a.toNat []
def aR (d:CS) (a:Int) (r:VT):CS:=if r.e=0 then { d with ae:=d.ae.set a.toNat (jb (tie d a) r),q:=d.q ++ r.w.map fun k=>dI (ri (tie d a) 0) (AR k) } else d
def uJ (p:Int) (y:E):Bool:=rb y 5 && !decide (ri y 0=p)
def cw (l:List E) (p:Int):List Int:=(l.filter (uJ p)).map fun y=>ri y 0
def uO (l:List E):Bool:=l.any fun y=>!decide (ri y 3=0)
def jv (d:CS):Nat→CS
 |0=>d
 |n+1=>aR (jv d n) (n:Int) (Cl (tie (jv d n) (n:Int)))
def ZN (d:CS):CS:=jv d d.ae.length
def jw (d:CS):Nat→CS
 |0=>d
 |n+1=>aR (jw d n) (n:Int) (if rb (tie (jw d n) (n:Int)) 5=true then oL (tie (jw d n) (n:Int)) else Cl (tie (jw d n) (n:Int)))
def ovS (d:CS):CS:={ d with ee:=0,er:=0,p:=0,ph:=0,w:=[],gn:=[],gl:=[],tn:=[],tl:=[],o:=true }
def nH (d:CS):CS:=if d.o=true then d else ovS (jw d d.ae.length)
def IY (t l i:Int):Int:=if cq i=true∧0≤t∧t≤2147483647∧1≤l∧l≤2147483647 then (if t≥l then 10 else 0) else 1
def eF (a b:Int):Int:=if a < b then b else a
def Uv (i:Int) (y:E):E:=[.int i,.int (ri y 0),.int (ri y 1),.int (ri y 2),.bool (rb y 5)]
def jA (i:Int) (l:List E):List E:=l.map (Uv i)
def HE (d:CS):WK:=⟨1,d.ee,d.er,[],[],0,0,0,0⟩
def dF (d:CS) (l:List Int) (w:WK):CS:={ d with q:=d.q ++ l.map fun p=>dI p w }
def ki (d:CS) (e r p:Int):CS:={ d with ee:=e,er:=r,t:=eF d.t e,p:=p,ph:=1,gn:=[],gl:=[],tn:=[],tl:=[],w:=cw d.ae p }
def fY (d:CS) (e r p:Int):CS:=ZN (dF (ki d e r p) (cw d.ae p) (HE (ki d e r p)))
def eN (s:CS):H:=[(0,.cells 75 [.val (.int .i64 s.i),.val (.int .i64 s.ee),.val (.int .i64 s.er),.val (.int .i64 s.t),.val (.int .i64 s.p),.own 1,.sl none (.ints .i64 s.w),.sl none (.ints .i64 s.gn),.sl none (.ah (.int .i64 (.int .i64 (.int .i64 (.int .i64 (.bool .nil))))) s.gl),.val (.int .i64 s.ph),.sl none (.ints .i64 s.tn),.sl none (.ah (.int .i64 (.int .i64 (.int .i64 (.int .i64 (.bool .nil))))) s.tl),.val (.int .i64 s.l),.val (.bool s.o),.sl (some (2,89)) (.ah (.int .i64 (.int .i64 (.int .i64 (.int .i64 (.ints .i64 (.ah (.int .i64 (.int .i64 (.int .i64 (.int .i64 (.bool .nil))))) (.int .i64 (.int .i64 (.int .i64 (.int .i64 .nil)))))))))) s.q)]),(1,.row 58 (.ah (.int .i64 (.int .i64 (.int .i64 (.int .i64 (.bool (.bool (.int .i64 .nil))))))) s.ae)),(2,.tok)]
def vV:H→Option (CS)
 |[(0,.cells 75 [.val (.int .i64 s_i),.val (.int .i64 s_ee),.val (.int .i64 s_er),.val (.int .i64 s_t),.val (.int .i64 s_p),.own 1,.sl none (.ints .i64 s_w),.sl none (.ints .i64 s_gn),.sl none (.ah (.int .i64 (.int .i64 (.int .i64 (.int .i64 (.bool .nil))))) s_gl),.val (.int .i64 s_ph),.sl none (.ints .i64 s_tn),.sl none (.ah (.int .i64 (.int .i64 (.int .i64 (.int .i64 (.bool .nil))))) s_tl),.val (.int .i64 zu),.val (.bool s_o),.sl (some (2,89)) (.ah (.int .i64 (.int .i64 (.int .i64 (.int .i64 (.ints .i64 (.ah (.int .i64 (.int .i64 (.int .i64 (.int .i64 (.bool .nil))))) (.int .i64 (.int .i64 (.int .i64 (.int .i64 .nil)))))))))) s_q)]),(1,.row 58 (.ah (.int .i64 (.int .i64 (.int .i64 (.int .i64 (.bool (.bool (.int .i64 .nil))))))) s_ties)),(2,.tok)]=>some ⟨s_i,s_ee,s_er,s_t,s_p,s_ties,s_w,s_gn,s_gl,s_ph,s_tn,s_tl,zu,s_o,s_q⟩
 |_=>none
theorem cT {h:H} {x:CS} (e:vV h=some x):h=eN x:=by
 unfold vV at e
 split at e
 ·cases e
  rfl
 ·cases e
def nT (s:CS):H:=[(0,.cells 75 [.val (.int .i64 s.i),.val (.int .i64 s.ee),.val (.int .i64 s.er),.val (.int .i64 s.t),.val (.int .i64 s.p),.own 1,.sl (some (2,3)) (.ints .i64 s.w),.sl none (.ints .i64 s.gn),.sl none (.ah (.int .i64 (.int .i64 (.int .i64 (.int .i64 (.bool .nil))))) s.gl),.val (.int .i64 s.ph),.sl none (.ints .i64 s.tn),.sl none (.ah (.int .i64 (.int .i64 (.int .i64 (.int .i64 (.bool .nil))))) s.tl),.val (.int .i64 s.l),.val (.bool s.o),.sl (some (3,89)) (.ah (.int .i64 (.int .i64 (.int .i64 (.int .i64 (.ints .i64 (.ah (.int .i64 (.int .i64 (.int .i64 (.int .i64 (.bool .nil))))) (.int .i64 (.int .i64 (.int .i64 (.int .i64 .nil)))))))))) s.q)]),(1,.row 58 (.ah (.int .i64 (.int .i64 (.int .i64 (.int .i64 (.bool (.bool (.int .i64 .nil))))))) s.ae)),(2,.tok),(3,.tok)]
def hp1:H→Option (CS)
 |[(0,.cells 75 [.val (.int .i64 s_i),.val (.int .i64 s_ee),.val (.int .i64 s_er),.val (.int .i64 s_t),.val (.int .i64 s_p),.own 1,.sl (some (2,3)) (.ints .i64 s_w),.sl none (.ints .i64 s_gn),.sl none (.ah (.int .i64 (.int .i64 (.int .i64 (.int .i64 (.bool .nil))))) s_gl),.val (.int .i64 s_ph),.sl none (.ints .i64 s_tn),.sl none (.ah (.int .i64 (.int .i64 (.int .i64 (.int .i64 (.bool .nil))))) s_tl),.val (.int .i64 zu),.val (.bool s_o),.sl (some (3,89)) (.ah (.int .i64 (.int .i64 (.int .i64 (.int .i64 (.ints .i64 (.ah (.int .i64 (.int .i64 (.int .i64 (.int .i64 (.bool .nil))))) (.int .i64 (.int .i64 (.int .i64 (.int .i64 .nil)))))))))) s_q)]),(1,.row 58 (.ah (.int .i64 (.int .i64 (.int .i64 (.int .i64 (.bool (.bool (.int .i64 .nil))))))) s_ties)),(2,.tok),(3,.tok)]=>some ⟨s_i,s_ee,s_er,s_t,s_p,s_ties,s_w,s_gn,s_gl,s_ph,s_tn,s_tl,zu,s_o,s_q⟩
 |_=>none
theorem UI {h:H} {x:CS} (e:hp1 h=some x):h=nT x:=by
 unfold hp1 at e
 split at e
 ·cases e
  rfl
 ·cases e
def uG (s:CS):H:=[(0,.cells 75 [.val (.int .i64 s.i),.val (.int .i64 s.ee),.val (.int .i64 s.er),.val (.int .i64 s.t),.val (.int .i64 s.p),.own 1,.own 2,.sl none (.ints .i64 s.gn),.sl none (.ah (.int .i64 (.int .i64 (.int .i64 (.int .i64 (.bool .nil))))) s.gl),.val (.int .i64 s.ph),.sl none (.ints .i64 s.tn),.sl none (.ah (.int .i64 (.int .i64 (.int .i64 (.int .i64 (.bool .nil))))) s.tl),.val (.int .i64 s.l),.val (.bool s.o),.sl (some (3,89)) (.ah (.int .i64 (.int .i64 (.int .i64 (.int .i64 (.ints .i64 (.ah (.int .i64 (.int .i64 (.int .i64 (.int .i64 (.bool .nil))))) (.int .i64 (.int .i64 (.int .i64 (.int .i64 .nil)))))))))) s.q)]),(1,.row 58 (.ah (.int .i64 (.int .i64 (.int .i64 (.int .i64 (.bool (.bool (.int .i64 .nil))))))) s.ae)),(2,.row 3 (.ints .i64 s.w)),(3,.tok)]
def ZO:H→Option (CS)
 |[(0,.cells 75 [.val (.int .i64 s_i),.val (.int .i64 s_ee),.val (.int .i64 s_er),.val (.int .i64 s_t),.val (.int .i64 s_p),.own 1,.own 2,.sl none (.ints .i64 s_gn),.sl none (.ah (.int .i64 (.int .i64 (.int .i64 (.int .i64 (.bool .nil))))) s_gl),.val (.int .i64 s_ph),.sl none (.ints .i64 s_tn),.sl none (.ah (.int .i64 (.int .i64 (.int .i64 (.int .i64 (.bool .nil))))) s_tl),.val (.int .i64 zu),.val (.bool s_o),.sl (some (3,89)) (.ah (.int .i64 (.int .i64 (.int .i64 (.int .i64 (.ints .i64 (.ah (.int .i64 (.int .i64 (.int .i64 (.int .i64 (.bool .nil))))) (.int .i64 (.int .i64 (.int .i64 (.int .i64 .nil)))))))))) s_q)]),(1,.row 58 (.ah (.int .i64 (.int .i64 (.int .i64 (.int .i64 (.bool (.bool (.int .i64 .nil))))))) s_ties)),(2,.row 3 (.ints .i64 s_w)),(3,.tok)]=>some ⟨s_i,s_ee,s_er,s_t,s_p,s_ties,s_w,s_gn,s_gl,s_ph,s_tn,s_tl,zu,s_o,s_q⟩
 |_=>none
theorem wZ {h:H} {x:CS} (e:ZO h=some x):h=uG x:=by
 unfold ZO at e
 split at e
 ·cases e
  rfl
 ·cases e
def GL (s:CS) (p:Int):H:=[(0,.cells 75 [.val (.int .i64 s.i),.val (.int .i64 s.ee),.val (.int .i64 s.er),.val (.int .i64 s.t),.val (.int .i64 s.p),.own 1,.sl none (.ints .i64 s.w),.sl none (.ints .i64 s.gn),.sl none (.ah (.int .i64 (.int .i64 (.int .i64 (.int .i64 (.bool .nil))))) s.gl),.val (.int .i64 s.ph),.sl none (.ints .i64 s.tn),.sl none (.ah (.int .i64 (.int .i64 (.int .i64 (.int .i64 (.bool .nil))))) s.tl),.val (.int .i64 s.l),.val (.bool s.o),.sl (some (2,89)) (.ah (.int .i64 (.int .i64 (.int .i64 (.int .i64 (.ints .i64 (.ah (.int .i64 (.int .i64 (.int .i64 (.int .i64 (.bool .nil))))) (.int .i64 (.int .i64 (.int .i64 (.int .i64 .nil)))))))))) s.q)]),(1,.row 58 (.ah (.int .i64 (.int .i64 (.int .i64 (.int .i64 (.bool (.bool (.int .i64 .nil))))))) s.ae)),(2,.tok),(3,.cells 3 [.val (.int .i64 p)])]
def hp3:H→Option (CS × Int)
 |[(0,.cells 75 [.val (.int .i64 s_i),.val (.int .i64 s_ee),.val (.int .i64 s_er),.val (.int .i64 s_t),.val (.int .i64 s_p),.own 1,.sl none (.ints .i64 s_w),.sl none (.ints .i64 s_gn),.sl none (.ah (.int .i64 (.int .i64 (.int .i64 (.int .i64 (.bool .nil))))) s_gl),.val (.int .i64 s_ph),.sl none (.ints .i64 s_tn),.sl none (.ah (.int .i64 (.int .i64 (.int .i64 (.int .i64 (.bool .nil))))) s_tl),.val (.int .i64 zu),.val (.bool s_o),.sl (some (2,89)) (.ah (.int .i64 (.int .i64 (.int .i64 (.int .i64 (.ints .i64 (.ah (.int .i64 (.int .i64 (.int .i64 (.int .i64 (.bool .nil))))) (.int .i64 (.int .i64 (.int .i64 (.int .i64 .nil)))))))))) s_q)]),(1,.row 58 (.ah (.int .i64 (.int .i64 (.int .i64 (.int .i64 (.bool (.bool (.int .i64 .nil))))))) s_ties)),(2,.tok),(3,.cells 3 [.val (.int .i64 p)])]=>some (⟨s_i,s_ee,s_er,s_t,s_p,s_ties,s_w,s_gn,s_gl,s_ph,s_tn,s_tl,zu,s_o,s_q⟩,p)
 |_=>none
theorem Sn {h:H} {x:CS × Int} (e:hp3 h=some x):h=GL x.1 x.2:=by
 unfold hp3 at e
 split at e
 ·cases e
  rfl
 ·cases e
end Go.Proofs.YtelhldgdnlppfaaGreat.KsS
