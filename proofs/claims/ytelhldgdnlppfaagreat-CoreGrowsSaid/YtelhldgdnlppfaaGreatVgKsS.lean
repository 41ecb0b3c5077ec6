/-
  A core: what each event makes of it,as functions of all that it holds. No condition.
-/
import Derived.Test.YtelhldgdnlppfaaGreatVgVoR
import Derived.Test.YtelhldgdnlppfaaGreatVgViR
namespace Go.Proofs.YtelhldgdnlppfaaGreat.KsS
open Go Ry ViR VoR
structure CS where
 i:Int
 ee:Int
 er:Int
 t:Int
 p:Int
 aa:List E
 w:List Int
 gn:List Int
 gl:List E
 ph:Int
 tn:List Int
 tl:List E
 l:Int
 o:Bool
 q:List E
theorem kj (d:CS):(⟨d.i,d.ee,d.er,d.t,d.p,d.aa,d.w,d.gn,d.gl,d.ph,d.tn,d.tl,d.l,d.o,d.q⟩:CS)=d:=rfl
structure WK where
 k:Int
 e:Int
 r:Int
 n:List Int
 l:List E
 ck:Int
 ca:Int
 cb:Int
 cs:Int
def eF (to:Int) (w:WK):E:=[.int to,.int w.k,.int w.e,.int w.r,.ints w.n,.ah w.l,.int w.ck,.int w.ca,.int w.cb,.int w.cs]
def ED (k:Int):WK:=⟨k,0,0,[],[],0,0,0,0⟩
def oX (d:CS) (to:Int) (w:WK):CS:={ d with q:=d.q ++ [eF to w] }
def Pb (p w s:Int):E:=[.int p,.int w,.int s,.int 0,.bool false,.bool false,.int 0]
def jf (y:E) (r:VT):E:=[.int (ri y 0),.int (ri y 1),.int (ri y 2),.int r.m,.bool r.t,.bool r.b,.int r.o]
def qN (y:E):VT:=oZ (ri y 3) (rb y 4) (rb y 5) (ri y 6)
def zY (y:E):VT:=pN (ri y 3) (rb y 4) (rb y 5) (ri y 6)
def kY (y:E):VT:=oD (ri y 3) (rb y 4) (rb y 5) (ri y 6)
def dx (k:Int) (y:E):VT:=oE (ri y 3) (rb y 4) (rb y 5) (ri y 6) k
def dw (l:List E) (p:Int):Int:=if l.any (fun y=>decide (ri y 0=p))=true then (l.findIdx fun y=>decide (ri y 0=p):Nat) else -1
def tie (d:CS) (a:Int):E:=d.aa.getD a.toNat []
def aL (d:CS) (a:Int) (r:VT):CS:=if r.e=0 then { d with aa:=d.aa.set a.toNat (jf (tie d a) r),q:=d.q ++ r.w.map fun k=>eF (ri (tie d a) 0) (ED k) } else d
def uz (p:Int) (y:E):Bool:=rb y 5 && !decide (ri y 0=p)
def cw (l:List E) (p:Int):List Int:=(l.filter (uz p)).map fun y=>ri y 0
def ue (l:List E):Bool:=l.any fun y=>!decide (ri y 3=0)
def jl (d:CS):Nat→CS
 |0=>d
 |n+1=>aL (jl d n) (n:Int) (zY (tie (jl d n) (n:Int)))
def WT (d:CS):CS:=jl d d.aa.length
def cU (d:CS):Nat→CS
 |0=>d
 |n+1=>aL (cU d n) (n:Int) (if rb (tie (cU d n) (n:Int)) 5=true then kY (tie (cU d n) (n:Int)) else zY (tie (cU d n) (n:Int)))
def ovS (d:CS):CS:={ d with ee:=0,er:=0,p:=0,ph:=0,w:=[],gn:=[],gl:=[],tn:=[],tl:=[],o:=true }
def kW (d:CS):CS:=if d.o=true then d else ovS (cU d d.aa.length)
def Hm (t l i:Int):Int:=if cm i=true∧0≤t∧t≤2147483647∧1≤l∧l≤2147483647 then (if t≥l then 10 else 0) else 1
def dV (a b:Int):Int:=if a < b then b else a
def Rx (i:Int) (y:E):E:=[.int i,.int (ri y 0),.int (ri y 1),.int (ri y 2),.bool (rb y 5)]
def kc (i:Int) (l:List E):List E:=l.map (Rx i)
def JP (d:CS):WK:=⟨1,d.ee,d.er,[],[],0,0,0,0⟩
def dG (d:CS) (l:List Int) (w:WK):CS:={ d with q:=d.q ++ l.map fun p=>eF p w }
def jD (d:CS) (e r p:Int):CS:={ d with ee:=e,er:=r,t:=dV d.t e,p:=p,ph:=1,gn:=[],gl:=[],tn:=[],tl:=[],w:=cw d.aa p }
def fP (d:CS) (e r p:Int):CS:=WT (dG (jD d e r p) (cw d.aa p) (JP (jD d e r p)))
def eO (s:CS):H:=[(0,.cells 75 [.val (.int .i64 s.i),.val (.int .i64 s.ee),.val (.int .i64 s.er),.val (.int .i64 s.t),.val (.int .i64 s.p),.own 1,.sl none (.ints .i64 s.w),.sl none (.ints .i64 s.gn),.sl none (.ah (.int .i64 (.int .i64 (.int .i64 (.int .i64 (.bool .nil))))) s.gl),.val (.int .i64 s.ph),.sl none (.ints .i64 s.tn),.sl none (.ah (.int .i64 (.int .i64 (.int .i64 (.int .i64 (.bool .nil))))) s.tl),.val (.int .i64 s.l),.val (.bool s.o),.sl (some (2,89)) (.ah (.int .i64 (.int .i64 (.int .i64 (.int .i64 (.ints .i64 (.ah (.int .i64 (.int .i64 (.int .i64 (.int .i64 (.bool .nil))))) (.int .i64 (.int .i64 (.int .i64 (.int .i64 .nil)))))))))) s.q)]),(1,.row 58 (.ah (.int .i64 (.int .i64 (.int .i64 (.int .i64 (.bool (.bool (.int .i64 .nil))))))) s.aa)),(2,.tok)]
def vL:H→Option (CS)
 |[(0,.cells 75 [.val (.int .i64 s_i),.val (.int .i64 s_ee),.val (.int .i64 s_er),.val (.int .i64 s_t),.val (.int .i64 s_p),.own 1,.sl none (.ints .i64 s_w),.sl none (.ints .i64 s_gn),.sl none (.ah (.int .i64 (.int .i64 (.int .i64 (.int .i64 (.bool .nil))))) s_gl),.val (.int .i64 s_ph),.sl none (.ints .i64 s_tn),.sl none (.ah (.int .i64 (.int .i64 (.int .i64 (.int .i64 (.bool .nil))))) s_tl),.val (.int .i64 AE),.val (.bool s_o),.sl (some (2,89)) (.ah (.int .i64 (.int .i64 (.int .i64 (.int .i64 (.ints .i64 (.ah (.int .i64 (.int .i64 (.int .i64 (.int .i64 (.bool .nil))))) (.int .i64 (.int .i64 (.int .i64 (.int .i64 .nil)))))))))) s_q)]),(1,.row 58 (.ah (.int .i64 (.int .i64 (.int .i64 (.int .i64 (.bool (.bool (.int .i64 .nil))))))) s_ties)),(2,.tok)]=>some ⟨s_i,s_ee,s_er,s_t,s_p,s_ties,s_w,s_gn,s_gl,s_ph,s_tn,s_tl,AE,s_o,s_q⟩
 |_=>none
theorem cV {h:H} {x:CS} (e:vL h=some x):h=eO x:=by
 unfold vL at e
 split at e
 ·cases e
  rfl
 ·cases e
def oh (s:CS):H:=[(0,.cells 75 [.val (.int .i64 s.i),.val (.int .i64 s.ee),.val (.int .i64 s.er),.val (.int .i64 s.t),.val (.int .i64 s.p),.own 1,.sl (some (2,3)) (.ints .i64 s.w),.sl none (.ints .i64 s.gn),.sl none (.ah (.int .i64 (.int .i64 (.int .i64 (.int .i64 (.bool .nil))))) s.gl),.val (.int .i64 s.ph),.sl none (.ints .i64 s.tn),.sl none (.ah (.int .i64 (.int .i64 (.int .i64 (.int .i64 (.bool .nil))))) s.tl),.val (.int .i64 s.l),.val (.bool s.o),.sl (some (3,89)) (.ah (.int .i64 (.int .i64 (.int .i64 (.int .i64 (.ints .i64 (.ah (.int .i64 (.int .i64 (.int .i64 (.int .i64 (.bool .nil))))) (.int .i64 (.int .i64 (.int .i64 (.int .i64 .nil)))))))))) s.q)]),(1,.row 58 (.ah (.int .i64 (.int .i64 (.int .i64 (.int .i64 (.bool (.bool (.int .i64 .nil))))))) s.aa)),(2,.tok),(3,.tok)]
def hp1:H→Option (CS)
 |[(0,.cells 75 [.val (.int .i64 s_i),.val (.int .i64 s_ee),.val (.int .i64 s_er),.val (.int .i64 s_t),.val (.int .i64 s_p),.own 1,.sl (some (2,3)) (.ints .i64 s_w),.sl none (.ints .i64 s_gn),.sl none (.ah (.int .i64 (.int .i64 (.int .i64 (.int .i64 (.bool .nil))))) s_gl),.val (.int .i64 s_ph),.sl none (.ints .i64 s_tn),.sl none (.ah (.int .i64 (.int .i64 (.int .i64 (.int .i64 (.bool .nil))))) s_tl),.val (.int .i64 AE),.val (.bool s_o),.sl (some (3,89)) (.ah (.int .i64 (.int .i64 (.int .i64 (.int .i64 (.ints .i64 (.ah (.int .i64 (.int .i64 (.int .i64 (.int .i64 (.bool .nil))))) (.int .i64 (.int .i64 (.int .i64 (.int .i64 .nil)))))))))) s_q)]),(1,.row 58 (.ah (.int .i64 (.int .i64 (.int .i64 (.int .i64 (.bool (.bool (.int .i64 .nil))))))) s_ties)),(2,.tok),(3,.tok)]=>some ⟨s_i,s_ee,s_er,s_t,s_p,s_ties,s_w,s_gn,s_gl,s_ph,s_tn,s_tl,AE,s_o,s_q⟩
 |_=>none
theorem Rz {h:H} {x:CS} (e:hp1 h=some x):h=oh x:=by
 unfold hp1 at e
 split at e
 ·cases e
  rfl
 ·cases e
def uC (s:CS):H:=[(0,.cells 75 [.val (.int .i64 s.i),.val (.int .i64 s.ee),.val (.int .i64 s.er),.val (.int .i64 s.t),.val (.int .i64 s.p),.own 1,.own 2,.sl none (.ints .i64 s.gn),.sl none (.ah (.int .i64 (.int .i64 (.int .i64 (.int .i64 (.bool .nil))))) s.gl),.val (.int .i64 s.ph),.sl none (.ints .i64 s.tn),.sl none (.ah (.int .i64 (.int .i64 (.int .i64 (.int .i64 (.bool .nil))))) s.tl),.val (.int .i64 s.l),.val (.bool s.o),.sl (some (3,89)) (.ah (.int .i64 (.int .i64 (.int .i64 (.int .i64 (.ints .i64 (.ah (.int .i64 (.int .i64 (.int .i64 (.int .i64 (.bool .nil))))) (.int .i64 (.int .i64 (.int .i64 (.int .i64 .nil)))))))))) s.q)]),(1,.row 58 (.ah (.int .i64 (.int .i64 (.int .i64 (.int .i64 (.bool (.bool (.int .i64 .nil))))))) s.aa)),(2,.row 3 (.ints .i64 s.w)),(3,.tok)]
def Xr:H→Option (CS)
 |[(0,.cells 75 [.val (.int .i64 s_i),.val (.int .i64 s_ee),.val (.int .i64 s_er),.val (.int .i64 s_t),.val (.int .i64 s_p),.own 1,.own 2,.sl none (.ints .i64 s_gn),.sl none (.ah (.int .i64 (.int .i64 (.int .i64 (.int .i64 (.bool .nil))))) s_gl),.val (.int .i64 s_ph),.sl none (.ints .i64 s_tn),.sl none (.ah (.int .i64 (.int .i64 (.int .i64 (.int .i64 (.bool .nil))))) s_tl),.val (.int .i64 AE),.val (.bool s_o),.sl (some (3,89)) (.ah (.int .i64 (.int .i64 (.int .i64 (.int .i64 (.ints .i64 (.ah (.int .i64 (.int .i64 (.int .i64 (.int .i64 (.bool .nil))))) (.int .i64 (.int .i64 (.int .i64 (.int .i64 .nil)))))))))) s_q)]),(1,.row 58 (.ah (.int .i64 (.int .i64 (.int .i64 (.int .i64 (.bool (.bool (.int .i64 .nil))))))) s_ties)),(2,.row 3 (.ints .i64 s_w)),(3,.tok)]=>some ⟨s_i,s_ee,s_er,s_t,s_p,s_ties,s_w,s_gn,s_gl,s_ph,s_tn,s_tl,AE,s_o,s_q⟩
 |_=>none
theorem yd {h:H} {x:CS} (e:Xr h=some x):h=uC x:=by
 unfold Xr at e
 split at e
 ·cases e
  rfl
 ·cases e
def GG (s:CS) (p:Int):H:=[(0,.cells 75 [.val (.int .i64 s.i),.val (.int .i64 s.ee),.val (.int .i64 s.er),.val (.int .i64 s.t),.val (.int .i64 s.p),.own 1,.sl none (.ints .i64 s.w),.sl none (.ints .i64 s.gn),.sl none (.ah (.int .i64 (.int .i64 (.int .i64 (.int .i64 (.bool .nil))))) s.gl),.val (.int .i64 s.ph),.sl none (.ints .i64 s.tn),.sl none (.ah (.int .i64 (.int .i64 (.int .i64 (.int .i64 (.bool .nil))))) s.tl),.val (.int .i64 s.l),.val (.bool s.o),.sl (some (2,89)) (.ah (.int .i64 (.int .i64 (.int .i64 (.int .i64 (.ints .i64 (.ah (.int .i64 (.int .i64 (.int .i64 (.int .i64 (.bool .nil))))) (.int .i64 (.int .i64 (.int .i64 (.int .i64 .nil)))))))))) s.q)]),(1,.row 58 (.ah (.int .i64 (.int .i64 (.int .i64 (.int .i64 (.bool (.bool (.int .i64 .nil))))))) s.aa)),(2,.tok),(3,.cells 3 [.val (.int .i64 p)])]
def hp3:H→Option (CS × Int)
 |[(0,.cells 75 [.val (.int .i64 s_i),.val (.int .i64 s_ee),.val (.int .i64 s_er),.val (.int .i64 s_t),.val (.int .i64 s_p),.own 1,.sl none (.ints .i64 s_w),.sl none (.ints .i64 s_gn),.sl none (.ah (.int .i64 (.int .i64 (.int .i64 (.int .i64 (.bool .nil))))) s_gl),.val (.int .i64 s_ph),.sl none (.ints .i64 s_tn),.sl none (.ah (.int .i64 (.int .i64 (.int .i64 (.int .i64 (.bool .nil))))) s_tl),.val (.int .i64 AE),.val (.bool s_o),.sl (some (2,89)) (.ah (.int .i64 (.int .i64 (.int .i64 (.int .i64 (.ints .i64 (.ah (.int .i64 (.int .i64 (.int .i64 (.int .i64 (.bool .nil))))) (.int .i64 (.int .i64 (.int .i64 (.int .i64 .nil)))))))))) s_q)]),(1,.row 58 (.ah (.int .i64 (.int .i64 (.int .i64 (.int .i64 (.bool (.bool (.int .i64 .nil))))))) s_ties)),(2,.tok),(3,.cells 3 [.val (.int .i64 p)])]=>some (⟨s_i,s_ee,s_er,s_t,s_p,s_ties,s_w,s_gn,s_gl,s_ph,s_tn,s_tl,AE,s_o,s_q⟩,p)
 |_=>none
theorem SH {h:H} {x:CS × Int} (e:hp3 h=some x):h=GG x.1 x.2:=by
 unfold hp3 at e
 split at e
 ·cases e
  rfl
 ·cases e
end Go.Proofs.YtelhldgdnlppfaaGreat.KsS
