/-
  A core: what each event makes of it,as functions of all that it holds. No condition.
-/
import Derived.Test.YtelhldgdnlppfaaGreatVsW16
import Derived.Test.YtelhldgdnlppfaaGreatVsViR
namespace Go.Proofs.YtelhldgdnlppfaaGreat.KsS
open Go Ry ViR VoR
structure CS where
 i:Int
 ee:Int
 er:Int
 t:Int
 p:Int
 U:List E
 w:List Int
 gn:List Int
 gl:List E
 ph:Int
 tn:List Int
 tl:List E
 l:Int
 o:Bool
 q:List E
theorem dY (d:CS):(⟨d.i,d.ee,d.er,d.t,d.p,d.U,d.w,d.gn,d.gl,d.ph,d.tn,d.tl,d.l,d.o,d.q⟩:CS)=d:=rfl
structure WK where
 k:Int
 e:Int
 r:Int
 n:List Int
 l:List E
 ck:Int
 ca:Int
 cb:Int
 cs:Int
def cB (to:Int) (w:WK):E:=[.int to,.int w.k,.int w.e,.int w.r,.ints w.n,.ae w.l,.int w.ck,.int w.ca,.int w.cb,.int w.cs]
def xc (k:Int):WK:=⟨k,0,0,[],[],0,0,0,0⟩
def jz (d:CS) (to:Int) (w:WK):CS:={ d with q:=d.q ++ [cB to w] }
def BR (p w s:Int):E:=[.int p,.int w,.int s,.int 0,.bool false,.bool false,.int 0]
def jN (y:E) (r:VT):E:=[.int (ri y 0),.int (ri y 1),.int (ri y 2),.int r.m,.bool r.t,.bool r.b,.int r.o]
def pE (y:E):VT:=ki (ri y 3) (rb y 4) (rb y 5) (ri y 6)
def zg (y:E):VT:=iN (ri y 3) (rb y 4) (rb y 5) (ri y 6)
def kq (y:E):VT:=gm (ri y 3) (rb y 4) (rb y 5) (ri y 6)
def eT (k:Int) (y:E):VT:=mH (ri y 3) (rb y 4) (rb y 5) (ri y 6) k
def bA (l:List E) (p:Int):Int:=if l.any (fun y=>decide (ri y 0=p))=true then (l.findIdx fun y=>decide (ri y 0=p):Nat) else -1
def tie (d:CS) (a:Int):E:=d.U.getD a.toNat []
def aE (d:CS) (a:Int) (r:VT):CS:=if r.e=0 then { d with U:=d.U.set a.toNat (jN (tie d a) r),q:=d.q ++ r.w.map fun k=>cB (ri (tie d a) 0) (xc k) } else d
def vW (p:Int) (y:E):Bool:=rb y 5 && !decide (ri y 0=p)
def bJ (l:List E) (p:Int):List Int:=(l.filter (vW p)).map fun y=>ri y 0
def qo (l:List E):Bool:=l.any fun y=>!decide (ri y 3=0)
def eh (d:CS):Nat→CS
 |0=>d
 |n+1=>aE (eh d n) (n:Int) (zg (tie (eh d n) (n:Int)))
def Ju (d:CS):CS:=eh d d.U.length
def cD (d:CS):Nat→CS
 |0=>d
 |n+1=>aE (cD d n) (n:Int) (if rb (tie (cD d n) (n:Int)) 5=true then kq (tie (cD d n) (n:Int)) else zg (tie (cD d n) (n:Int)))
def Qr (d:CS):CS:={ d with ee:=0,er:=0,p:=0,ph:=0,w:=[],gn:=[],gl:=[],tn:=[],tl:=[],o:=true }
def mj (d:CS):CS:=if d.o=true then d else Qr (cD d d.U.length)
def zy (t l i:Int):Int:=if bG i=true∧0≤t∧t≤2147483647∧1≤l∧l≤2147483647 then (if t≥l then 10 else 0) else 1
def dz (a b:Int):Int:=if a < b then b else a
def JE (i:Int) (y:E):E:=[.int i,.int (ri y 0),.int (ri y 1),.int (ri y 2),.bool (rb y 5)]
def dx (i:Int) (l:List E):List E:=l.map (JE i)
def Oz (d:CS):WK:=⟨1,d.ee,d.er,[],[],0,0,0,0⟩
def ed (d:CS) (l:List Int) (w:WK):CS:={ d with q:=d.q ++ l.map fun p=>cB p w }
def kP (d:CS) (e r p:Int):CS:={ d with ee:=e,er:=r,t:=dz d.t e,p:=p,ph:=1,gn:=[],gl:=[],tn:=[],tl:=[],w:=bJ d.U p }
def eR (d:CS) (e r p:Int):CS:=Ju (ed (kP d e r p) (bJ d.U p) (Oz (kP d e r p)))
def vK (s:CS):H:=[(0,.cells 75 [.val (.int .i64 s.i),.val (.int .i64 s.ee),.val (.int .i64 s.er),.val (.int .i64 s.t),.val (.int .i64 s.p),.own 1,.sl none (.ints .i64 s.w),.sl none (.ints .i64 s.gn),.sl none (.ae (.int .i64 (.int .i64 (.int .i64 (.int .i64 (.bool .nil))))) s.gl),.val (.int .i64 s.ph),.sl none (.ints .i64 s.tn),.sl none (.ae (.int .i64 (.int .i64 (.int .i64 (.int .i64 (.bool .nil))))) s.tl),.val (.int .i64 s.l),.val (.bool s.o),.sl (some (2,89)) (.ae (.int .i64 (.int .i64 (.int .i64 (.int .i64 (.ints .i64 (.ae (.int .i64 (.int .i64 (.int .i64 (.int .i64 (.bool .nil))))) (.int .i64 (.int .i64 (.int .i64 (.int .i64 .nil)))))))))) s.q)]),(1,.row 58 (.ae (.int .i64 (.int .i64 (.int .i64 (.int .i64 (.bool (.bool (.int .i64 .nil))))))) s.U)),(2,.tok)]
def wg:H→Option (CS)
 |[(0,.cells 75 [.val (.int .i64 s_i),.val (.int .i64 s_ee),.val (.int .i64 s_er),.val (.int .i64 s_t),.val (.int .i64 s_p),.own 1,.sl none (.ints .i64 s_w),.sl none (.ints .i64 s_gn),.sl none (.ae (.int .i64 (.int .i64 (.int .i64 (.int .i64 (.bool .nil))))) s_gl),.val (.int .i64 s_ph),.sl none (.ints .i64 s_tn),.sl none (.ae (.int .i64 (.int .i64 (.int .i64 (.int .i64 (.bool .nil))))) s_tl),.val (.int .i64 Je),.val (.bool s_o),.sl (some (2,89)) (.ae (.int .i64 (.int .i64 (.int .i64 (.int .i64 (.ints .i64 (.ae (.int .i64 (.int .i64 (.int .i64 (.int .i64 (.bool .nil))))) (.int .i64 (.int .i64 (.int .i64 (.int .i64 .nil)))))))))) s_q)]),(1,.row 58 (.ae (.int .i64 (.int .i64 (.int .i64 (.int .i64 (.bool (.bool (.int .i64 .nil))))))) s_ties)),(2,.tok)]=>some ⟨s_i,s_ee,s_er,s_t,s_p,s_ties,s_w,s_gn,s_gl,s_ph,s_tn,s_tl,Je,s_o,s_q⟩
 |_=>none
theorem da {h:H} {x:CS} (e:wg h=some x):h=vK x:=by
 unfold wg at e;split at e
 ·cases e;rfl
 ·cases e
def qi (s:CS):H:=[(0,.cells 75 [.val (.int .i64 s.i),.val (.int .i64 s.ee),.val (.int .i64 s.er),.val (.int .i64 s.t),.val (.int .i64 s.p),.own 1,.sl (some (2,3)) (.ints .i64 s.w),.sl none (.ints .i64 s.gn),.sl none (.ae (.int .i64 (.int .i64 (.int .i64 (.int .i64 (.bool .nil))))) s.gl),.val (.int .i64 s.ph),.sl none (.ints .i64 s.tn),.sl none (.ae (.int .i64 (.int .i64 (.int .i64 (.int .i64 (.bool .nil))))) s.tl),.val (.int .i64 s.l),.val (.bool s.o),.sl (some (3,89)) (.ae (.int .i64 (.int .i64 (.int .i64 (.int .i64 (.ints .i64 (.ae (.int .i64 (.int .i64 (.int .i64 (.int .i64 (.bool .nil))))) (.int .i64 (.int .i64 (.int .i64 (.int .i64 .nil)))))))))) s.q)]),(1,.row 58 (.ae (.int .i64 (.int .i64 (.int .i64 (.int .i64 (.bool (.bool (.int .i64 .nil))))))) s.U)),(2,.tok),(3,.tok)]
def hp1:H→Option (CS)
 |[(0,.cells 75 [.val (.int .i64 s_i),.val (.int .i64 s_ee),.val (.int .i64 s_er),.val (.int .i64 s_t),.val (.int .i64 s_p),.own 1,.sl (some (2,3)) (.ints .i64 s_w),.sl none (.ints .i64 s_gn),.sl none (.ae (.int .i64 (.int .i64 (.int .i64 (.int .i64 (.bool .nil))))) s_gl),.val (.int .i64 s_ph),.sl none (.ints .i64 s_tn),.sl none (.ae (.int .i64 (.int .i64 (.int .i64 (.int .i64 (.bool .nil))))) s_tl),.val (.int .i64 Je),.val (.bool s_o),.sl (some (3,89)) (.ae (.int .i64 (.int .i64 (.int .i64 (.int .i64 (.ints .i64 (.ae (.int .i64 (.int .i64 (.int .i64 (.int .i64 (.bool .nil))))) (.int .i64 (.int .i64 (.int .i64 (.int .i64 .nil)))))))))) s_q)]),(1,.row 58 (.ae (.int .i64 (.int .i64 (.int .i64 (.int .i64 (.bool (.bool (.int .i64 .nil))))))) s_ties)),(2,.tok),(3,.tok)]=>some ⟨s_i,s_ee,s_er,s_t,s_p,s_ties,s_w,s_gn,s_gl,s_ph,s_tn,s_tl,Je,s_o,s_q⟩
 |_=>none
theorem YR {h:H} {x:CS} (e:hp1 h=some x):h=qi x:=by
 unfold hp1 at e;split at e
 ·cases e;rfl
 ·cases e
def Bp (s:CS):H:=[(0,.cells 75 [.val (.int .i64 s.i),.val (.int .i64 s.ee),.val (.int .i64 s.er),.val (.int .i64 s.t),.val (.int .i64 s.p),.own 1,.own 2,.sl none (.ints .i64 s.gn),.sl none (.ae (.int .i64 (.int .i64 (.int .i64 (.int .i64 (.bool .nil))))) s.gl),.val (.int .i64 s.ph),.sl none (.ints .i64 s.tn),.sl none (.ae (.int .i64 (.int .i64 (.int .i64 (.int .i64 (.bool .nil))))) s.tl),.val (.int .i64 s.l),.val (.bool s.o),.sl (some (3,89)) (.ae (.int .i64 (.int .i64 (.int .i64 (.int .i64 (.ints .i64 (.ae (.int .i64 (.int .i64 (.int .i64 (.int .i64 (.bool .nil))))) (.int .i64 (.int .i64 (.int .i64 (.int .i64 .nil)))))))))) s.q)]),(1,.row 58 (.ae (.int .i64 (.int .i64 (.int .i64 (.int .i64 (.bool (.bool (.int .i64 .nil))))))) s.U)),(2,.row 3 (.ints .i64 s.w)),(3,.tok)]
def hp2:H→Option (CS)
 |[(0,.cells 75 [.val (.int .i64 s_i),.val (.int .i64 s_ee),.val (.int .i64 s_er),.val (.int .i64 s_t),.val (.int .i64 s_p),.own 1,.own 2,.sl none (.ints .i64 s_gn),.sl none (.ae (.int .i64 (.int .i64 (.int .i64 (.int .i64 (.bool .nil))))) s_gl),.val (.int .i64 s_ph),.sl none (.ints .i64 s_tn),.sl none (.ae (.int .i64 (.int .i64 (.int .i64 (.int .i64 (.bool .nil))))) s_tl),.val (.int .i64 Je),.val (.bool s_o),.sl (some (3,89)) (.ae (.int .i64 (.int .i64 (.int .i64 (.int .i64 (.ints .i64 (.ae (.int .i64 (.int .i64 (.int .i64 (.int .i64 (.bool .nil))))) (.int .i64 (.int .i64 (.int .i64 (.int .i64 .nil)))))))))) s_q)]),(1,.row 58 (.ae (.int .i64 (.int .i64 (.int .i64 (.int .i64 (.bool (.bool (.int .i64 .nil))))))) s_ties)),(2,.row 3 (.ints .i64 s_w)),(3,.tok)]=>some ⟨s_i,s_ee,s_er,s_t,s_p,s_ties,s_w,s_gn,s_gl,s_ph,s_tn,s_tl,Je,s_o,s_q⟩
 |_=>none
theorem yk {h:H} {x:CS} (e:hp2 h=some x):h=Bp x:=by
 unfold hp2 at e;split at e
 ·cases e;rfl
 ·cases e
def Qw (s:CS) (p:Int):H:=[(0,.cells 75 [.val (.int .i64 s.i),.val (.int .i64 s.ee),.val (.int .i64 s.er),.val (.int .i64 s.t),.val (.int .i64 s.p),.own 1,.sl none (.ints .i64 s.w),.sl none (.ints .i64 s.gn),.sl none (.ae (.int .i64 (.int .i64 (.int .i64 (.int .i64 (.bool .nil))))) s.gl),.val (.int .i64 s.ph),.sl none (.ints .i64 s.tn),.sl none (.ae (.int .i64 (.int .i64 (.int .i64 (.int .i64 (.bool .nil))))) s.tl),.val (.int .i64 s.l),.val (.bool s.o),.sl (some (2,89)) (.ae (.int .i64 (.int .i64 (.int .i64 (.int .i64 (.ints .i64 (.ae (.int .i64 (.int .i64 (.int .i64 (.int .i64 (.bool .nil))))) (.int .i64 (.int .i64 (.int .i64 (.int .i64 .nil)))))))))) s.q)]),(1,.row 58 (.ae (.int .i64 (.int .i64 (.int .i64 (.int .i64 (.bool (.bool (.int .i64 .nil))))))) s.U)),(2,.tok),(3,.cells 3 [.val (.int .i64 p)])]
def hp3:H→Option (CS × Int)
 |[(0,.cells 75 [.val (.int .i64 s_i),.val (.int .i64 s_ee),.val (.int .i64 s_er),.val (.int .i64 s_t),.val (.int .i64 s_p),.own 1,.sl none (.ints .i64 s_w),.sl none (.ints .i64 s_gn),.sl none (.ae (.int .i64 (.int .i64 (.int .i64 (.int .i64 (.bool .nil))))) s_gl),.val (.int .i64 s_ph),.sl none (.ints .i64 s_tn),.sl none (.ae (.int .i64 (.int .i64 (.int .i64 (.int .i64 (.bool .nil))))) s_tl),.val (.int .i64 Je),.val (.bool s_o),.sl (some (2,89)) (.ae (.int .i64 (.int .i64 (.int .i64 (.int .i64 (.ints .i64 (.ae (.int .i64 (.int .i64 (.int .i64 (.int .i64 (.bool .nil))))) (.int .i64 (.int .i64 (.int .i64 (.int .i64 .nil)))))))))) s_q)]),(1,.row 58 (.ae (.int .i64 (.int .i64 (.int .i64 (.int .i64 (.bool (.bool (.int .i64 .nil))))))) s_ties)),(2,.tok),(3,.cells 3 [.val (.int .i64 p)])]=>some (⟨s_i,s_ee,s_er,s_t,s_p,s_ties,s_w,s_gn,s_gl,s_ph,s_tn,s_tl,Je,s_o,s_q⟩,p)
 |_=>none
theorem ZI {h:H} {x:CS × Int} (e:hp3 h=some x):h=Qw x.1 x.2:=by
 unfold hp3 at e;split at e
 ·cases e;rfl
 ·cases e
end Go.Proofs.YtelhldgdnlppfaaGreat.KsS
