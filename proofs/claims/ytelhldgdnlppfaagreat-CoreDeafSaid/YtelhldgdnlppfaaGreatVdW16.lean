/-
  cmp.Compare and cmp.Or of ints: what they tell. No condition.
-/
import Derived.Test.YtelhldgdnlppfaaGreatVdRyOp
import Derived.Test.YtelhldgdnlppfaaGreatVdW14
import Derived.Test.YtelhldgdnlppfaaGreatVdLaw
import Derived.Test.YtelhldgdnlppfaaGreatProg
import Derived.Deep.QuietTactic
import Derived.BigQuiet
import Derived.BigFrame
set_option maxRecDepth 100000
set_option maxHeartbeats 2000000
namespace Go.Proofs.YtelhldgdnlppfaaGreat.VoR
open Go Ry
structure VT where
 m:Int
 t:Bool
 b:Bool
 o:Int
 w:List Int
 tb:Bool
 tp:Bool
 tf:Bool
 e:Int
def fM (m:Int) (t b:Bool) (o:Int):Bool:=decide (0≤m∧m≤2∧0≤o∧o≤2147483647) && (if b then decide (m=0) && !t else decide (m=0) || !t)
def Qa (m:Int) (t b:Bool) (o:Int):Int:=if fM m t b o=true then 0 else 1
def v0 (e:Int):VT:=⟨0,false,false,0,[],false,false,false,e⟩
def same (m:Int) (t b:Bool) (o:Int):VT:=⟨m,t,b,o,[],false,false,false,0⟩
def Dh (m o:Int):Int:=if m=2∧o < 2147483647 then o+1 else o
def oS (m:Int) (t b:Bool) (o:Int):VT:=if fM m t b o=false then v0 1 else if m≠0∨b=true then same m t b o else if t=true then ⟨0,false,true,Dh m o,[4],true,false,false,0⟩ else ⟨1,t,b,o,[4],false,false,false,0⟩
def pP (m:Int) (t b:Bool) (o:Int):VT:=if fM m t b o=false then v0 1 else if m≠1 then same m t b o else ⟨2,t,b,o,[5],false,false,false,0⟩
def pW (m:Int) (t b:Bool) (o:Int):VT:=if fM m t b o=false then v0 1 else if b=false then same m t b o else ⟨m,t,false,o,[7],false,true,false,0⟩
def Fw (m:Int) (_ b:Bool) (o:Int):VT:=if m≠0 then ⟨0,false,true,Dh m o,[],true,false,false,0⟩ else ⟨m,!b,b,o,[],false,false,false,0⟩
def FW (m:Int) (t b:Bool) (o:Int):VT:=if 0 < o then same m t b (o - 1) else if m≠2 then same m t b o else ⟨0,t,b,o,[],false,false,true,0⟩
def qW (m:Int) (t b:Bool) (o k:Int):VT:=if fM m t b o=false then v0 1 else if k=4 then Fw m t b o else if k=5 then ⟨m,false,b,o,[6],false,false,false,0⟩ else if k=6 then FW m t b o else if k=7 then ⟨m,t,false,o,[],false,b,false,0⟩ else same m t b o
def smB (w:List Int) (b p f:Bool) (w' : List Int) (b' p' f' : Bool):Bool:=(b == b') && (p == p') && (f == f') && decide (w=w')
structure Fs where
 nA:Int→Bool→Bool→Int→Bool
 XH:Int→Bool→Bool→Int→Int
 ZK:Int→Int→Int
 eh:Int→Bool→Bool→Int→VT
 eM:Int→Bool→Bool→Int→VT
 eH:Int→Bool→Bool→Int→VT
 lf:Int→Bool→Bool→Int→VT
 kX:Int→Bool→Bool→Int→VT
 cy:Int→Bool→Bool→Int→Int→VT
 abL:List Int→Bool→Bool→Bool→List Int→Bool→Bool→Bool→Bool
def Fs.U:Fs:=⟨fM,Qa,Dh,oS,pP,pW,Fw,FW,qW,smB⟩
def ew (F:Fs):aZ:=fun xs h=>match xs,h with
 |[.agg [.val (.int .i64 v_m),.val (.bool v_t),.val (.bool bx),.val (.int .i64 v_o)]],[]=>some ⟨True,.sa (I (F.XH v_m v_t bx v_o)),[],[Any]⟩
 |_,_=>none
theorem xC (v_m:Int) (v_t:Bool) (bx:Bool) (v_o:Int):aU [] Tryz.f116 [.agg [.val (.int .i64 v_m),.val (.bool v_t),.val (.bool bx),.val (.int .i64 v_o)]] [] ⟨True,.sa (I (Fs.U.XH v_m v_t bx v_o)),[],[Any]⟩:=by
 intro b gv
 generalize hF:Fs.U=F
 generalize hA:Ar.U=A
 generalize hL:Lp _ _ _=L
 obtain⟨Z,zq⟩:=aP
 refine @aD _ _ _ _ _ _ _ (aa hL) _ _ zq rfl ?_
 repeat' (first|(refine ay zq ?_;try dsimp only)|refine ax zq ?_ (aa hL)|refine aw zq ?_|refine az ?_|refine av ?_|refine au ?_|refine aq ?_|refine ar rfl ?_|refine ai rfl ?_|refine aj rfl ?_|(refine Cd.mk ?_;cbv)|(refine aE.mk ?_;cbv)|(refine aJ.mk ?_;cbv)|exact trivial|refine And.intro ?_ ?_|refine bn fun _=>?_|refine bo fun _=>?_)
 all_goals
  clear hL zq Z
  subst hF hA
  simp only [Fs.U,Ar.U] at *
  try (grind [al,bp,lz,wr,fM,Qa,Dh,oS,pP,pW,Fw,FW,qW,v0,same])
theorem eC:aA Tryz.prog 116 (ew Fs.U):=by
 refine aG af.nil Tryz.func116 rfl rfl fun xs h p hp=>?_
 unfold ew at hp
 split at hp
 ·cases hp
  exact⟨aB rfl,fun _ _=>@xC _ _ _ _⟩
 ·cases hp
def pK (F:Fs):aZ:=fun xs h=>match xs,h with
 |[.agg [.val (.int .i64 v_m),.val (.bool v_t),.val (.bool bx),.val (.int .i64 v_o)]],[]=>some ⟨F.nA v_m v_t bx v_o=true,.sa (.agg [.val (.int .i64 0),.val (.bool false),.val (.bool true),.val (.int .i64 (F.ZK v_m v_o))]),[],[Any]⟩
 |_,_=>none
theorem Tw (v_m:Int) (v_t:Bool) (bx:Bool) (v_o:Int) (hC:Fs.U.nA v_m v_t bx v_o=true):aU [] Tryz.f160 [.agg [.val (.int .i64 v_m),.val (.bool v_t),.val (.bool bx),.val (.int .i64 v_o)]] [] ⟨Fs.U.nA v_m v_t bx v_o=true,.sa (.agg [.val (.int .i64 0),.val (.bool false),.val (.bool true),.val (.int .i64 (Fs.U.ZK v_m v_o))]),[],[Any]⟩:=by
 intro b gv
 generalize hF:Fs.U=F at hC ⊢
 generalize hA:Ar.U=A
 generalize hL:Lp _ _ _=L
 obtain⟨Z,zq⟩:=aP
 refine @aD _ _ _ _ _ _ _ (aa hL) _ _ zq rfl ?_
 repeat' (first|(refine ay zq ?_;try dsimp only)|refine ax zq ?_ (aa hL)|refine aw zq ?_|refine az ?_|refine av ?_|refine au ?_|refine aq ?_|refine ar rfl ?_|refine ai rfl ?_|refine aj rfl ?_|(refine Cd.mk ?_;cbv)|(refine aE.mk ?_;cbv)|(refine aJ.mk ?_;cbv)|exact trivial|refine And.intro ?_ ?_|refine bn fun _=>?_|refine bo fun _=>?_)
 all_goals
  clear hL zq Z
  subst hF hA
  simp only [Fs.U,Ar.U] at *
  try (grind [al,bp,lz,wr,fM,Qa,Dh,oS,pP,pW,Fw,FW,qW,v0,same])
theorem qA:aA Tryz.prog 160 (pK Fs.U):=by
 refine aG af.nil Tryz.func160 rfl rfl fun xs h p hp=>?_
 unfold pK at hp
 split at hp
 ·cases hp
  exact⟨aB rfl,fun hC _=>@Tw _ _ _ _ hC⟩
 ·cases hp
def wx (F:Fs):aZ:=fun xs h=>match xs,h with
 |[.agg [.val (.int .i64 v_m),.val (.bool v_t),.val (.bool bx),.val (.int .i64 v_o)]],[]=>some ⟨True,.bJ [.agg [.val (.int .i64 (F.eh v_m v_t bx v_o).m),.val (.bool (F.eh v_m v_t bx v_o).t),.val (.bool (F.eh v_m v_t bx v_o).b),.val (.int .i64 (F.eh v_m v_t bx v_o).o)],.agg [.sl none (.ints .i64 (F.eh v_m v_t bx v_o).w),.val (.bool (F.eh v_m v_t bx v_o).tb),.val (.bool (F.eh v_m v_t bx v_o).tp),.val (.bool (F.eh v_m v_t bx v_o).tf)],I (F.eh v_m v_t bx v_o).e],[],[Any]⟩
 |_,_=>none
theorem Mj (v_m:Int) (v_t:Bool) (bx:Bool) (v_o:Int):aU [(116,ew Fs.U),(160,pK Fs.U)] Tryz.f141 [.agg [.val (.int .i64 v_m),.val (.bool v_t),.val (.bool bx),.val (.int .i64 v_o)]] [] ⟨True,.bJ [.agg [.val (.int .i64 (Fs.U.eh v_m v_t bx v_o).m),.val (.bool (Fs.U.eh v_m v_t bx v_o).t),.val (.bool (Fs.U.eh v_m v_t bx v_o).b),.val (.int .i64 (Fs.U.eh v_m v_t bx v_o).o)],.agg [.sl none (.ints .i64 (Fs.U.eh v_m v_t bx v_o).w),.val (.bool (Fs.U.eh v_m v_t bx v_o).tb),.val (.bool (Fs.U.eh v_m v_t bx v_o).tp),.val (.bool (Fs.U.eh v_m v_t bx v_o).tf)],I (Fs.U.eh v_m v_t bx v_o).e],[],[Any]⟩:=by
 intro b gv
 generalize hF:Fs.U=F
 generalize hA:Ar.U=A
 generalize hL:Lp _ _ _=L
 obtain⟨Z,zq⟩:=aP
 refine @aD _ _ _ _ _ _ _ (aa hL) _ _ zq rfl ?_
 repeat' (first|(refine ay zq ?_;try dsimp only)|refine ax zq ?_ (aa hL)|refine aw zq ?_|refine az ?_|refine av ?_|refine au ?_|refine aq ?_|refine ar rfl ?_|refine ai rfl ?_|refine aj rfl ?_|(refine Cd.mk ?_;cbv)|(refine aE.mk ?_;cbv)|(refine aJ.mk ?_;cbv)|exact trivial|refine And.intro ?_ ?_|refine bn fun _=>?_|refine bo fun _=>?_)
 all_goals
  clear hL zq Z
  subst hF hA
  simp only [Fs.U,Ar.U] at *
  try (grind [al,bp,lz,wr,fM,Qa,Dh,oS,pP,pW,Fw,FW,qW,v0,same])
theorem yU:aA Tryz.prog 141 (wx Fs.U):=by
 refine aG (af.cons eC (af.cons qA af.nil rfl) rfl) Tryz.func141 rfl rfl fun xs h p hp=>?_
 unfold wx at hp
 split at hp
 ·cases hp
  exact⟨aB rfl,fun _ _=>@Mj _ _ _ _⟩
 ·cases hp
def sd (F:Fs):aZ:=fun xs h=>match xs,h with
 |[.agg [.val (.int .i64 v_m),.val (.bool v_t),.val (.bool bx),.val (.int .i64 v_o)]],[]=>some ⟨True,.bJ [.agg [.val (.int .i64 (F.eM v_m v_t bx v_o).m),.val (.bool (F.eM v_m v_t bx v_o).t),.val (.bool (F.eM v_m v_t bx v_o).b),.val (.int .i64 (F.eM v_m v_t bx v_o).o)],.agg [.sl none (.ints .i64 (F.eM v_m v_t bx v_o).w),.val (.bool (F.eM v_m v_t bx v_o).tb),.val (.bool (F.eM v_m v_t bx v_o).tp),.val (.bool (F.eM v_m v_t bx v_o).tf)],I (F.eM v_m v_t bx v_o).e],[],[Any]⟩
 |_,_=>none
theorem IS (v_m:Int) (v_t:Bool) (bx:Bool) (v_o:Int):aU [(116,ew Fs.U),(160,pK Fs.U)] Tryz.f76 [.agg [.val (.int .i64 v_m),.val (.bool v_t),.val (.bool bx),.val (.int .i64 v_o)]] [] ⟨True,.bJ [.agg [.val (.int .i64 (Fs.U.eM v_m v_t bx v_o).m),.val (.bool (Fs.U.eM v_m v_t bx v_o).t),.val (.bool (Fs.U.eM v_m v_t bx v_o).b),.val (.int .i64 (Fs.U.eM v_m v_t bx v_o).o)],.agg [.sl none (.ints .i64 (Fs.U.eM v_m v_t bx v_o).w),.val (.bool (Fs.U.eM v_m v_t bx v_o).tb),.val (.bool (Fs.U.eM v_m v_t bx v_o).tp),.val (.bool (Fs.U.eM v_m v_t bx v_o).tf)],I (Fs.U.eM v_m v_t bx v_o).e],[],[Any]⟩:=by
 intro b gv
 generalize hF:Fs.U=F
 generalize hA:Ar.U=A
 generalize hL:Lp _ _ _=L
 obtain⟨Z,zq⟩:=aP
 refine @aD _ _ _ _ _ _ _ (aa hL) _ _ zq rfl ?_
 repeat' (first|(refine ay zq ?_;try dsimp only)|refine ax zq ?_ (aa hL)|refine aw zq ?_|refine az ?_|refine av ?_|refine au ?_|refine aq ?_|refine ar rfl ?_|refine ai rfl ?_|refine aj rfl ?_|(refine Cd.mk ?_;cbv)|(refine aE.mk ?_;cbv)|(refine aJ.mk ?_;cbv)|exact trivial|refine And.intro ?_ ?_|refine bn fun _=>?_|refine bo fun _=>?_)
 all_goals
  clear hL zq Z
  subst hF hA
  simp only [Fs.U,Ar.U] at *
  try (grind [al,bp,lz,wr,fM,Qa,Dh,oS,pP,pW,Fw,FW,qW,v0,same])
theorem vp:aA Tryz.prog 76 (sd Fs.U):=by
 refine aG (af.cons eC (af.cons qA af.nil rfl) rfl) Tryz.func76 rfl rfl fun xs h p hp=>?_
 unfold sd at hp
 split at hp
 ·cases hp
  exact⟨aB rfl,fun _ _=>@IS _ _ _ _⟩
 ·cases hp
def Bb (F:Fs):aZ:=fun xs h=>match xs,h with
 |[.agg [.val (.int .i64 v_m),.val (.bool v_t),.val (.bool bx),.val (.int .i64 v_o)]],[]=>some ⟨True,.bJ [.agg [.val (.int .i64 (F.eH v_m v_t bx v_o).m),.val (.bool (F.eH v_m v_t bx v_o).t),.val (.bool (F.eH v_m v_t bx v_o).b),.val (.int .i64 (F.eH v_m v_t bx v_o).o)],.agg [.sl none (.ints .i64 (F.eH v_m v_t bx v_o).w),.val (.bool (F.eH v_m v_t bx v_o).tb),.val (.bool (F.eH v_m v_t bx v_o).tp),.val (.bool (F.eH v_m v_t bx v_o).tf)],I (F.eH v_m v_t bx v_o).e],[],[Any]⟩
 |_,_=>none
theorem TD (v_m:Int) (v_t:Bool) (bx:Bool) (v_o:Int):aU [(116,ew Fs.U),(160,pK Fs.U)] Tryz.f75 [.agg [.val (.int .i64 v_m),.val (.bool v_t),.val (.bool bx),.val (.int .i64 v_o)]] [] ⟨True,.bJ [.agg [.val (.int .i64 (Fs.U.eH v_m v_t bx v_o).m),.val (.bool (Fs.U.eH v_m v_t bx v_o).t),.val (.bool (Fs.U.eH v_m v_t bx v_o).b),.val (.int .i64 (Fs.U.eH v_m v_t bx v_o).o)],.agg [.sl none (.ints .i64 (Fs.U.eH v_m v_t bx v_o).w),.val (.bool (Fs.U.eH v_m v_t bx v_o).tb),.val (.bool (Fs.U.eH v_m v_t bx v_o).tp),.val (.bool (Fs.U.eH v_m v_t bx v_o).tf)],I (Fs.U.eH v_m v_t bx v_o).e],[],[Any]⟩:=by
 intro b gv
 generalize hF:Fs.U=F
 generalize hA:Ar.U=A
 generalize hL:Lp _ _ _=L
 obtain⟨Z,zq⟩:=aP
 refine @aD _ _ _ _ _ _ _ (aa hL) _ _ zq rfl ?_
 repeat' (first|(refine ay zq ?_;try dsimp only)|refine ax zq ?_ (aa hL)|refine aw zq ?_|refine az ?_|refine av ?_|refine au ?_|refine aq ?_|refine ar rfl ?_|refine ai rfl ?_|refine aj rfl ?_|(refine Cd.mk ?_;cbv)|(refine aE.mk ?_;cbv)|(refine aJ.mk ?_;cbv)|exact trivial|refine And.intro ?_ ?_|refine bn fun _=>?_|refine bo fun _=>?_)
 all_goals
  clear hL zq Z
  subst hF hA
  simp only [Fs.U,Ar.U] at *
  try (grind [al,bp,lz,wr,fM,Qa,Dh,oS,pP,pW,Fw,FW,qW,v0,same])
theorem CX:aA Tryz.prog 75 (Bb Fs.U):=by
 refine aG (af.cons eC (af.cons qA af.nil rfl) rfl) Tryz.func75 rfl rfl fun xs h p hp=>?_
 unfold Bb at hp
 split at hp
 ·cases hp
  exact⟨aB rfl,fun _ _=>@TD _ _ _ _⟩
 ·cases hp
def BB (F:Fs):aZ:=fun xs h=>match xs,h with
 |[.agg [.val (.int .i64 v_m),.val (.bool v_t),.val (.bool bx),.val (.int .i64 v_o)]],[]=>some ⟨F.nA v_m v_t bx v_o=true,.bJ [.agg [.val (.int .i64 (F.lf v_m v_t bx v_o).m),.val (.bool (F.lf v_m v_t bx v_o).t),.val (.bool (F.lf v_m v_t bx v_o).b),.val (.int .i64 (F.lf v_m v_t bx v_o).o)],.agg [.sl none (.ints .i64 (F.lf v_m v_t bx v_o).w),.val (.bool (F.lf v_m v_t bx v_o).tb),.val (.bool (F.lf v_m v_t bx v_o).tp),.val (.bool (F.lf v_m v_t bx v_o).tf)]],[],[Any]⟩
 |_,_=>none
theorem RX (v_m:Int) (v_t:Bool) (bx:Bool) (v_o:Int) (hC:Fs.U.nA v_m v_t bx v_o=true):aU [(160,pK Fs.U)] Tryz.f133 [.agg [.val (.int .i64 v_m),.val (.bool v_t),.val (.bool bx),.val (.int .i64 v_o)]] [] ⟨Fs.U.nA v_m v_t bx v_o=true,.bJ [.agg [.val (.int .i64 (Fs.U.lf v_m v_t bx v_o).m),.val (.bool (Fs.U.lf v_m v_t bx v_o).t),.val (.bool (Fs.U.lf v_m v_t bx v_o).b),.val (.int .i64 (Fs.U.lf v_m v_t bx v_o).o)],.agg [.sl none (.ints .i64 (Fs.U.lf v_m v_t bx v_o).w),.val (.bool (Fs.U.lf v_m v_t bx v_o).tb),.val (.bool (Fs.U.lf v_m v_t bx v_o).tp),.val (.bool (Fs.U.lf v_m v_t bx v_o).tf)]],[],[Any]⟩:=by
 intro b gv
 generalize hF:Fs.U=F at hC ⊢
 generalize hA:Ar.U=A
 generalize hL:Lp _ _ _=L
 obtain⟨Z,zq⟩:=aP
 refine @aD _ _ _ _ _ _ _ (aa hL) _ _ zq rfl ?_
 repeat' (first|(refine ay zq ?_;try dsimp only)|refine ax zq ?_ (aa hL)|refine aw zq ?_|refine az ?_|refine av ?_|refine au ?_|refine aq ?_|refine ar rfl ?_|refine ai rfl ?_|refine aj rfl ?_|(refine Cd.mk ?_;cbv)|(refine aE.mk ?_;cbv)|(refine aJ.mk ?_;cbv)|exact trivial|refine And.intro ?_ ?_|refine bn fun _=>?_|refine bo fun _=>?_)
 all_goals
  clear hL zq Z
  subst hF hA
  simp only [Fs.U,Ar.U] at *
  try (grind [al,bp,lz,wr,fM,Qa,Dh,oS,pP,pW,Fw,FW,qW,v0,same])
theorem PR:aA Tryz.prog 133 (BB Fs.U):=by
 refine aG (af.cons qA af.nil rfl) Tryz.func133 rfl rfl fun xs h p hp=>?_
 unfold BB at hp
 split at hp
 ·cases hp
  exact⟨aB rfl,fun hC _=>@RX _ _ _ _ hC⟩
 ·cases hp
def xW (F:Fs):aZ:=fun xs h=>match xs,h with
 |[.agg [.val (.int .i64 v_m),.val (.bool v_t),.val (.bool bx),.val (.int .i64 v_o)]],[]=>some ⟨F.nA v_m v_t bx v_o=true,.bJ [.agg [.val (.int .i64 (F.kX v_m v_t bx v_o).m),.val (.bool (F.kX v_m v_t bx v_o).t),.val (.bool (F.kX v_m v_t bx v_o).b),.val (.int .i64 (F.kX v_m v_t bx v_o).o)],.agg [.sl none (.ints .i64 (F.kX v_m v_t bx v_o).w),.val (.bool (F.kX v_m v_t bx v_o).tb),.val (.bool (F.kX v_m v_t bx v_o).tp),.val (.bool (F.kX v_m v_t bx v_o).tf)]],[],[Any]⟩
 |_,_=>none
theorem Ox (v_m:Int) (v_t:Bool) (bx:Bool) (v_o:Int) (hC:Fs.U.nA v_m v_t bx v_o=true):aU [] Tryz.f134 [.agg [.val (.int .i64 v_m),.val (.bool v_t),.val (.bool bx),.val (.int .i64 v_o)]] [] ⟨Fs.U.nA v_m v_t bx v_o=true,.bJ [.agg [.val (.int .i64 (Fs.U.kX v_m v_t bx v_o).m),.val (.bool (Fs.U.kX v_m v_t bx v_o).t),.val (.bool (Fs.U.kX v_m v_t bx v_o).b),.val (.int .i64 (Fs.U.kX v_m v_t bx v_o).o)],.agg [.sl none (.ints .i64 (Fs.U.kX v_m v_t bx v_o).w),.val (.bool (Fs.U.kX v_m v_t bx v_o).tb),.val (.bool (Fs.U.kX v_m v_t bx v_o).tp),.val (.bool (Fs.U.kX v_m v_t bx v_o).tf)]],[],[Any]⟩:=by
 intro b gv
 generalize hF:Fs.U=F at hC ⊢
 generalize hA:Ar.U=A
 generalize hL:Lp _ _ _=L
 obtain⟨Z,zq⟩:=aP
 refine @aD _ _ _ _ _ _ _ (aa hL) _ _ zq rfl ?_
 repeat' (first|(refine ay zq ?_;try dsimp only)|refine ax zq ?_ (aa hL)|refine aw zq ?_|refine az ?_|refine av ?_|refine au ?_|refine aq ?_|refine ar rfl ?_|refine ai rfl ?_|refine aj rfl ?_|(refine Cd.mk ?_;cbv)|(refine aE.mk ?_;cbv)|(refine aJ.mk ?_;cbv)|exact trivial|refine And.intro ?_ ?_|refine bn fun _=>?_|refine bo fun _=>?_)
 all_goals
  clear hL zq Z
  subst hF hA
  simp only [Fs.U,Ar.U] at *
  try (grind [al,bp,lz,wr,fM,Qa,Dh,oS,pP,pW,Fw,FW,qW,v0,same])
theorem Ia:aA Tryz.prog 134 (xW Fs.U):=by
 refine aG af.nil Tryz.func134 rfl rfl fun xs h p hp=>?_
 unfold xW at hp
 split at hp
 ·cases hp
  exact⟨aB rfl,fun hC _=>@Ox _ _ _ _ hC⟩
 ·cases hp
def mc (F:Fs):aZ:=fun xs h=>match xs,h with
 |[.agg [.val (.int .i64 v_m),.val (.bool v_t),.val (.bool bx),.val (.int .i64 v_o)],.one (.val (.int .i64 k))],[]=>some ⟨True,.bJ [.agg [.val (.int .i64 (F.cy v_m v_t bx v_o k).m),.val (.bool (F.cy v_m v_t bx v_o k).t),.val (.bool (F.cy v_m v_t bx v_o k).b),.val (.int .i64 (F.cy v_m v_t bx v_o k).o)],.agg [.sl none (.ints .i64 (F.cy v_m v_t bx v_o k).w),.val (.bool (F.cy v_m v_t bx v_o k).tb),.val (.bool (F.cy v_m v_t bx v_o k).tp),.val (.bool (F.cy v_m v_t bx v_o k).tf)],I (F.cy v_m v_t bx v_o k).e],[],[Any,Any]⟩
 |_,_=>none
theorem BY (v_m:Int) (v_t:Bool) (bx:Bool) (v_o:Int) (k:Int):aU [(116,ew Fs.U),(133,BB Fs.U),(134,xW Fs.U)] Tryz.f110 [.agg [.val (.int .i64 v_m),.val (.bool v_t),.val (.bool bx),.val (.int .i64 v_o)],.one (.val (.int .i64 k))] [] ⟨True,.bJ [.agg [.val (.int .i64 (Fs.U.cy v_m v_t bx v_o k).m),.val (.bool (Fs.U.cy v_m v_t bx v_o k).t),.val (.bool (Fs.U.cy v_m v_t bx v_o k).b),.val (.int .i64 (Fs.U.cy v_m v_t bx v_o k).o)],.agg [.sl none (.ints .i64 (Fs.U.cy v_m v_t bx v_o k).w),.val (.bool (Fs.U.cy v_m v_t bx v_o k).tb),.val (.bool (Fs.U.cy v_m v_t bx v_o k).tp),.val (.bool (Fs.U.cy v_m v_t bx v_o k).tf)],I (Fs.U.cy v_m v_t bx v_o k).e],[],[Any,Any]⟩:=by
 intro b gv
 generalize hF:Fs.U=F
 generalize hA:Ar.U=A
 generalize hL:Lp _ _ _=L
 obtain⟨Z,zq⟩:=aP
 refine @aD _ _ _ _ _ _ _ (aa hL) _ _ zq rfl ?_
 repeat' (first|(refine ay zq ?_;try dsimp only)|refine ax zq ?_ (aa hL)|refine aw zq ?_|refine az ?_|refine av ?_|refine au ?_|refine aq ?_|refine ar rfl ?_|refine ai rfl ?_|refine aj rfl ?_|(refine Cd.mk ?_;cbv)|(refine aE.mk ?_;cbv)|(refine aJ.mk ?_;cbv)|exact trivial|refine And.intro ?_ ?_|refine bn fun _=>?_|refine bo fun _=>?_)
 all_goals
  clear hL zq Z
  subst hF hA
  simp only [Fs.U,Ar.U] at *
  try (grind [al,bp,lz,wr,fM,Qa,Dh,oS,pP,pW,Fw,FW,qW,v0,same])
theorem qD:aA Tryz.prog 110 (mc Fs.U):=by
 refine aG (af.cons eC (af.cons PR (af.cons Ia af.nil rfl) rfl) rfl) Tryz.func110 rfl rfl fun xs h p hp=>?_
 unfold mc at hp
 split at hp
 ·cases hp
  exact⟨aB rfl,fun _ _=>@BY _ _ _ _ _⟩
 ·cases hp
end Go.Proofs.YtelhldgdnlppfaaGreat.VoR
namespace Go.Proofs.YtelhldgdnlppfaaGreat.Ry
open Go
def ZT:Option Ct→SC→SC
 |some c,x=>pI c x
 |none,x=>x
def NA:List (Option Ct)→List SC→List SC
 |_,[]=>[]
 |[],x :: xs=>x :: xs
 |k :: ks,x :: xs=>ZT k x :: NA ks xs
def dn1:List (Option Ct)→SA→SA
 |k,.agg cs=>.agg (NA k cs)
 |k :: _,.one x=>.one (ZT k x)
 |_,x=>x
def Vf:List (List (Option Ct))→List SA→List SA
 |_,[]=>[]
 |[],x :: xs=>x :: xs
 |k :: ks,x :: xs=>dn1 k x :: Vf ks xs
def sC (ks:List (List (Option Ct))) (bE:aZ):aZ:=fun args h=>bE (Vf ks args) h
theorem LH {G:Gm} {k:Option Ct} {x:SC} {v:Value} (h:x.is G v):(ZT k x).is G v:=by
 cases k with
 |none=>exact h
 |some c=>exact vA h
theorem EM {G:Gm}:∀ {ks:List (Option Ct)} {xs:List SC} {vs:List Value},aM G xs vs→aM G (NA ks xs) vs
 |ks,[],[],_=>by
  cases ks <;> trivial
 |_,[],_ :: _,h=>h.elim
 |_,_ :: _,[],h=>h.elim
 |[],_ :: _,_ :: _,h=>h
 |_ :: _,_ :: _,_ :: _,⟨⟨h1,h2⟩,h3⟩=>⟨⟨LH h1,h2⟩,EM h3⟩
theorem Sj {G:Gm} {k:List (Option Ct)} {x:SA} {v:Value} (h:x.is G v):(dn1 k x).is G v:=by
 cases x with
 |agg cs =>
  obtain⟨us,e,hc⟩:=h
  exact⟨us,e,EM hc⟩
 |one c =>
  cases k with
  |nil=>exact h
  |cons a l=>exact LH h
 |dZ c=>cases k <;> exact h
theorem IX {G:Gm}:∀ {ks:List (List (Option Ct))} {xs:List SA} {vs:List Value},bg G xs vs→bg G (Vf ks xs) vs
 |ks,[],[],_=>by
  cases ks <;> trivial
 |_,[],_ :: _,h=>h.elim
 |_,_ :: _,[],h=>h.elim
 |[],_ :: _,_ :: _,h=>h
 |_ :: _,_ :: _,_ :: _,⟨h1,h2⟩=>⟨Sj h1,IX h2⟩
theorem KE {k:Option Ct} {x:SC} {l l' : List SC} (h:dx l=dx l'):dx (ZT k x :: l)=dx (x :: l'):=by
 cases k with
 |none=>cases x <;> first|exact h|exact congrArg (List.cons _) h
 |some c=>exact pQ h
theorem uZ:∀ {ks:List (Option Ct)} {xs:List SC},dx (NA ks xs)=dx xs
 |ks,[]=>by cases ks <;> rfl
 |[],_ :: _=>rfl
 |_ :: _,_ :: _=>KE uZ
theorem LC {k:List (Option Ct)} {x:SA}:mJ (dn1 k x)=mJ x:=by
 cases x with
 |agg cs=>exact uZ
 |one c=>cases k <;> rfl
 |dZ c=>cases k <;> rfl
theorem Aa:∀ {ks:List (List (Option Ct))} {xs:List SA},(Vf ks xs).flatMap mJ=xs.flatMap mJ
 |ks,[]=>by cases ks <;> rfl
 |[],_ :: _=>rfl
 |_ :: _,_ :: _=>by
  unfold Vf
  rw [List.flatMap_cons,List.flatMap_cons,LC,Aa]
theorem Fg {ks:List (List (Option Ct))} {xs:List SA} {h:H}:bN (Vf ks xs) h=bN xs h:=by
 unfold bN
 rw [Aa]
theorem cu {f:FuncId} {bE:aZ} (ks:List (List (Option Ct))) (h:aA Tryz.prog f bE):aA Tryz.prog f (sC ks bE) :=
 ⟨h.1,fun args h0 p hc hC G vs h1 h2 h3 hv=>by
  have:=h.2 (Vf ks args) h0 p hc hC G vs h1 h2 h3 (IX hv)
  rw [Fg] at this
  exact this⟩
end Go.Proofs.YtelhldgdnlppfaaGreat.Ry
namespace Go.Proofs.YtelhldgdnlppfaaGreat.Cmp
open Go.RowKit Law
def iA (a b:Int):Int:=if a < b then -1 else if b < a then 1 else 0
theorem UE {a b:Int} (h:a < b):iA a b = -1:=by simp [iA,h]
theorem UP {a b:Int} (h:b < a):iA a b=1:=by simp [iA];omega
theorem Hc {a b:Int} (h:a=b):iA a b=0:=by simp [iA];omega
theorem xx (a:Int) (w:World):Calls Tryz.prog 131 #[.int .i64 a] w fun e w'=>e = .returned (.bool false)∧w=w':=by
 go_enter Tryz.func131,Tryz.ntmps131
 go_wp2
 go_ret
 exact⟨by simp,rfl⟩
theorem mT (a b:Int) (w:World):Calls Tryz.prog 104 #[.int .i64 a,.int .i64 b] w fun e w'=>e = .returned (.int .i64 (iA a b))∧w=w':=by
 rcases Int.lt_trichotomy a b with h|h|h
 ·go_enter Tryz.func104,Tryz.ntmps104
  go_wp2_with (go_at_call 131;refine (xx _ _).mono ?_;rintro e w' ⟨rfl,rfl⟩)
  go_ret
  exact⟨nh (UE h).symm,rfl⟩
 ·have h1:=Law.xY h;clear h
  have h2:¬a < b:=by have:=h1.out;omega
  have h3:¬b < a:=by have:=h1.out;omega
  go_enter Tryz.func104,Tryz.ntmps104
  go_wp2_with (go_at_call 131;refine (xx _ _).mono ?_;rintro e w' ⟨rfl,rfl⟩)
  go_ret
  exact⟨nh (Hc h1.out).symm,rfl⟩
 ·have h2:¬a < b:=by omega
  go_enter Tryz.func104,Tryz.ntmps104
  go_wp2_with (go_at_call 131;refine (xx _ _).mono ?_;rintro e w' ⟨rfl,rfl⟩)
  go_ret
  exact⟨nh (UP h).symm,rfl⟩
def jt:List Int→Int
 |[]=>0
 |x :: xs=>if x=0 then jt xs else x
theorem Lo (xs:List Int) (B:Nat) (w:World) (hn:xs.length≤1000) (hc:∀ i x,xs[i]? = some x→w.cell? ⟨B,i,none⟩=some (.int .i64 x)) :
  Calls Tryz.prog 111 #[.slice (some ⟨B,0,none⟩) xs.length xs.length] w fun e w'=>e = .returned (.int .i64 (jt xs))∧w=w':=by
 have HC:=Law.xY hc;clear hc
 go_enter Tryz.func111,Tryz.ntmps111
 go_wp2
 go_loop [8] (fun i=>∃ k:Nat,k≤xs.length∧i = .int .i64 k∧Hid (jt xs=jt (xs.drop k))) (fun i=>xs.length - (intOf i).toNat)
 case atStart=>exact⟨0,Nat.zero_le _,rfl,rfl⟩
 case round =>
  obtain⟨k,hk,rfl,ho⟩:=hrel
  by_cases hlt:k < xs.length
  ·have hx:xs[k]? = some xs[k]:=List.getElem?_eq_getElem hlt
   have hcell:=HC.out k _ hx
   have hd:xs.drop k=xs[k] :: xs.drop (k+1):=List.drop_eq_getElem_cons hlt
   have HX:=Law.xY hx;clear hx
   have HD:=Law.xY hd;clear hd
   generalize xs[k]=x at *
   by_cases h0:x=0
   ·subst h0
    go_wp2
    go_round
    case rel=>exact⟨k+1,by omega,by go_num,by rw [Hid,ho.out,HD.out];simp [jt]⟩
    case measure=>simp [intOf];omega
   ·have h1:(x == 0)=false:=by simpa using h0
    have h2:(x != 0)=true:=by simpa using h0
    have H0:=Law.xY h0;clear h0
    go_wp2
    go_ret
    exact⟨nh (by rw [ho.out,HD.out];simp [jt,H0.out]),rfl⟩
  ·have hk2:k=xs.length:=by omega
   have HK:=Law.xY hk2;clear hk2
   go_wp2
   go_ret
   exact⟨nh (by rw [ho.out,HK.out];simp [jt]),rfl⟩
end Go.Proofs.YtelhldgdnlppfaaGreat.Cmp
