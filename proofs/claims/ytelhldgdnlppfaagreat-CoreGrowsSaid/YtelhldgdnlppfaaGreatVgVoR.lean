
/-
  vows sj the reckoner. No condition.
-/
import Derived.Test.YtelhldgdnlppfaaGreatVgRyOp
set_option maxRecDepth 100000
set_option maxHeartbeats 2000000
namespace Go.Proofs.YtelhldgdnlppfaaGreat.VoR
open Go Ry
structure VT where
 m:Int
 t:Bool
 b:Bool
 o:Int
 w:List Int
 tb:Bool
 tp:Bool
 tf:Bool
 e:Int
def ew (m:Int) (t b:Bool) (o:Int):Bool:=decide (0≤m∧m≤2∧0≤o∧o≤2147483647) && (if b then decide (m=0) && !t else decide (m=0) || !t)
def Pa (m:Int) (t b:Bool) (o:Int):Int:=if ew m t b o=true then 0 else 1
def v0 (e:Int):VT:=⟨0,false,false,0,[],false,false,false,e⟩
def same (m:Int) (t b:Bool) (o:Int):VT:=⟨m,t,b,o,[],false,false,false,0⟩
def CB (m o:Int):Int:=if m=2∧o < 2147483647 then o+1 else o
def oZ (m:Int) (t b:Bool) (o:Int):VT:=if ew m t b o=false then v0 1 else if m≠0∨b=true then same m t b o else if t=true then ⟨0,false,true,CB m o,[4],true,false,false,0⟩ else ⟨1,t,b,o,[4],false,false,false,0⟩
def pN (m:Int) (t b:Bool) (o:Int):VT:=if ew m t b o=false then v0 1 else if m≠1 then same m t b o else ⟨2,t,b,o,[5],false,false,false,0⟩
def oD (m:Int) (t b:Bool) (o:Int):VT:=if ew m t b o=false then v0 1 else if b=false then same m t b o else ⟨m,t,false,o,[7],false,true,false,0⟩
def CX (m:Int) (_ b:Bool) (o:Int):VT:=if m≠0 then ⟨0,false,true,CB m o,[],true,false,false,0⟩ else ⟨m,!b,b,o,[],false,false,false,0⟩
def DU (m:Int) (t b:Bool) (o:Int):VT:=if 0 < o then same m t b (o - 1) else if m≠2 then same m t b o else ⟨0,t,b,o,[],false,false,true,0⟩
def oE (m:Int) (t b:Bool) (o k:Int):VT:=if ew m t b o=false then v0 1 else if k=4 then CX m t b o else if k=5 then ⟨m,false,b,o,[6],false,false,false,0⟩ else if k=6 then DU m t b o else if k=7 then ⟨m,t,false,o,[],false,b,false,0⟩ else same m t b o
def smB (w:List Int) (b p f:Bool) (w' : List Int) (b' p' f' : Bool):Bool:=(b == b') && (p == p') && (f == f') && decide (w=w')
structure Fs where
 nA:Int→Bool→Bool→Int→Bool
 Yl:Int→Bool→Bool→Int→Int
 YP:Int→Int→Int
 eh:Int→Bool→Bool→Int→VT
 eK:Int→Bool→Bool→Int→VT
 eI:Int→Bool→Bool→Int→VT
 kV:Int→Bool→Bool→Int→VT
 la:Int→Bool→Bool→Int→VT
 cB:Int→Bool→Bool→Int→Int→VT
 abt:List Int→Bool→Bool→Bool→List Int→Bool→Bool→Bool→Bool
def Fs.U:Fs:=⟨ew,Pa,CB,oZ,pN,oD,CX,DU,oE,smB⟩
def eC (F:Fs):aY:=fun xs h=>match xs,h with
 |[.agg [.val (.int .i64 v_m),.val (.bool v_t),.val (.bool bw),.val (.int .i64 v_o)]],[]=>some ⟨True,.sa (I (F.Yl v_m v_t bw v_o)),[],[Any]⟩
 |_,_=>none
theorem wR (v_m:Int) (v_t:Bool) (bw:Bool) (v_o:Int):aV [] Tryz.f116 [.agg [.val (.int .i64 v_m),.val (.bool v_t),.val (.bool bw),.val (.int .i64 v_o)]] [] ⟨True,.sa (I (Fs.U.Yl v_m v_t bw v_o)),[],[Any]⟩:=by
 intro b gv
 generalize hF:Fs.U=F
 generalize hA:Ar.U=A
 generalize hL:Lp _ _ _=L
 obtain⟨Z,zq⟩:=aQ
 refine @aD _ _ _ _ _ _ _ (ae hL) _ _ zq rfl ?_
 repeat' (first|(refine aw zq ?_;try dsimp only)|refine ax zq ?_ (ae hL)|refine az zq ?_|refine ay ?_|refine aq ?_|refine ar ?_|refine av ?_|refine au rfl ?_|refine ai rfl ?_|refine aj rfl ?_|(refine Cd.mk ?_;cbv)|(refine aE.mk ?_;cbv)|(refine aM.mk ?_;cbv)|exact trivial|refine And.intro ?_ ?_|refine bu fun _=>?_|refine br fun _=>?_)
 all_goals
  clear hL zq Z
  subst hF hA
  simp only [Fs.U,Ar.U] at *
  try (grind [al,bo,lk,wr,ew,Pa,CB,oZ,pN,oD,CX,DU,oE,v0,same])
theorem eE:aA Tryz.prog 116 (eC Fs.U):=by
 refine aG af.nil Tryz.func116 rfl rfl fun xs h p hp=>?_
 unfold eC at hp
 split at hp
 ·cases hp
  exact⟨aB rfl,fun _ _=>@wR _ _ _ _⟩
 ·cases hp
def oF (F:Fs):aY:=fun xs h=>match xs,h with
 |[.agg [.val (.int .i64 v_m),.val (.bool v_t),.val (.bool bw),.val (.int .i64 v_o)]],[]=>some ⟨F.nA v_m v_t bw v_o=true,.sa (.agg [.val (.int .i64 0),.val (.bool false),.val (.bool true),.val (.int .i64 (F.YP v_m v_o))]),[],[Any]⟩
 |_,_=>none
theorem Tj (v_m:Int) (v_t:Bool) (bw:Bool) (v_o:Int) (hC:Fs.U.nA v_m v_t bw v_o=true):aV [] Tryz.f160 [.agg [.val (.int .i64 v_m),.val (.bool v_t),.val (.bool bw),.val (.int .i64 v_o)]] [] ⟨Fs.U.nA v_m v_t bw v_o=true,.sa (.agg [.val (.int .i64 0),.val (.bool false),.val (.bool true),.val (.int .i64 (Fs.U.YP v_m v_o))]),[],[Any]⟩:=by
 intro b gv
 generalize hF:Fs.U=F at hC ⊢
 generalize hA:Ar.U=A
 generalize hL:Lp _ _ _=L
 obtain⟨Z,zq⟩:=aQ
 refine @aD _ _ _ _ _ _ _ (ae hL) _ _ zq rfl ?_
 repeat' (first|(refine aw zq ?_;try dsimp only)|refine ax zq ?_ (ae hL)|refine az zq ?_|refine ay ?_|refine aq ?_|refine ar ?_|refine av ?_|refine au rfl ?_|refine ai rfl ?_|refine aj rfl ?_|(refine Cd.mk ?_;cbv)|(refine aE.mk ?_;cbv)|(refine aM.mk ?_;cbv)|exact trivial|refine And.intro ?_ ?_|refine bu fun _=>?_|refine br fun _=>?_)
 all_goals
  clear hL zq Z
  subst hF hA
  simp only [Fs.U,Ar.U] at *
  try (grind [al,bo,lk,wr,ew,Pa,CB,oZ,pN,oD,CX,DU,oE,v0,same])
theorem qP:aA Tryz.prog 160 (oF Fs.U):=by
 refine aG af.nil Tryz.func160 rfl rfl fun xs h p hp=>?_
 unfold oF at hp
 split at hp
 ·cases hp
  exact⟨aB rfl,fun hC _=>@Tj _ _ _ _ hC⟩
 ·cases hp
def xW (F:Fs):aY:=fun xs h=>match xs,h with
 |[.agg [.val (.int .i64 v_m),.val (.bool v_t),.val (.bool bw),.val (.int .i64 v_o)]],[]=>some ⟨True,.bK [.agg [.val (.int .i64 (F.eh v_m v_t bw v_o).m),.val (.bool (F.eh v_m v_t bw v_o).t),.val (.bool (F.eh v_m v_t bw v_o).b),.val (.int .i64 (F.eh v_m v_t bw v_o).o)],.agg [.sl none (.ints .i64 (F.eh v_m v_t bw v_o).w),.val (.bool (F.eh v_m v_t bw v_o).tb),.val (.bool (F.eh v_m v_t bw v_o).tp),.val (.bool (F.eh v_m v_t bw v_o).tf)],I (F.eh v_m v_t bw v_o).e],[],[Any]⟩
 |_,_=>none
theorem Mh (v_m:Int) (v_t:Bool) (bw:Bool) (v_o:Int):aV [(116,eC Fs.U),(160,oF Fs.U)] Tryz.f141 [.agg [.val (.int .i64 v_m),.val (.bool v_t),.val (.bool bw),.val (.int .i64 v_o)]] [] ⟨True,.bK [.agg [.val (.int .i64 (Fs.U.eh v_m v_t bw v_o).m),.val (.bool (Fs.U.eh v_m v_t bw v_o).t),.val (.bool (Fs.U.eh v_m v_t bw v_o).b),.val (.int .i64 (Fs.U.eh v_m v_t bw v_o).o)],.agg [.sl none (.ints .i64 (Fs.U.eh v_m v_t bw v_o).w),.val (.bool (Fs.U.eh v_m v_t bw v_o).tb),.val (.bool (Fs.U.eh v_m v_t bw v_o).tp),.val (.bool (Fs.U.eh v_m v_t bw v_o).tf)],I (Fs.U.eh v_m v_t bw v_o).e],[],[Any]⟩:=by
 intro b gv
 generalize hF:Fs.U=F
 generalize hA:Ar.U=A
 generalize hL:Lp _ _ _=L
 obtain⟨Z,zq⟩:=aQ
 refine @aD _ _ _ _ _ _ _ (ae hL) _ _ zq rfl ?_
 repeat' (first|(refine aw zq ?_;try dsimp only)|refine ax zq ?_ (ae hL)|refine az zq ?_|refine ay ?_|refine aq ?_|refine ar ?_|refine av ?_|refine au rfl ?_|refine ai rfl ?_|refine aj rfl ?_|(refine Cd.mk ?_;cbv)|(refine aE.mk ?_;cbv)|(refine aM.mk ?_;cbv)|exact trivial|refine And.intro ?_ ?_|refine bu fun _=>?_|refine br fun _=>?_)
 all_goals
  clear hL zq Z
  subst hF hA
  simp only [Fs.U,Ar.U] at *
  try (grind [al,bo,lk,wr,ew,Pa,CB,oZ,pN,oD,CX,DU,oE,v0,same])
theorem zo:aA Tryz.prog 141 (xW Fs.U):=by
 refine aG (af.cons eE (af.cons qP af.nil rfl) rfl) Tryz.func141 rfl rfl fun xs h p hp=>?_
 unfold xW at hp
 split at hp
 ·cases hp
  exact⟨aB rfl,fun _ _=>@Mh _ _ _ _⟩
 ·cases hp
def rI (F:Fs):aY:=fun xs h=>match xs,h with
 |[.agg [.val (.int .i64 v_m),.val (.bool v_t),.val (.bool bw),.val (.int .i64 v_o)]],[]=>some ⟨True,.bK [.agg [.val (.int .i64 (F.eK v_m v_t bw v_o).m),.val (.bool (F.eK v_m v_t bw v_o).t),.val (.bool (F.eK v_m v_t bw v_o).b),.val (.int .i64 (F.eK v_m v_t bw v_o).o)],.agg [.sl none (.ints .i64 (F.eK v_m v_t bw v_o).w),.val (.bool (F.eK v_m v_t bw v_o).tb),.val (.bool (F.eK v_m v_t bw v_o).tp),.val (.bool (F.eK v_m v_t bw v_o).tf)],I (F.eK v_m v_t bw v_o).e],[],[Any]⟩
 |_,_=>none
theorem GJ (v_m:Int) (v_t:Bool) (bw:Bool) (v_o:Int):aV [(116,eC Fs.U),(160,oF Fs.U)] Tryz.f76 [.agg [.val (.int .i64 v_m),.val (.bool v_t),.val (.bool bw),.val (.int .i64 v_o)]] [] ⟨True,.bK [.agg [.val (.int .i64 (Fs.U.eK v_m v_t bw v_o).m),.val (.bool (Fs.U.eK v_m v_t bw v_o).t),.val (.bool (Fs.U.eK v_m v_t bw v_o).b),.val (.int .i64 (Fs.U.eK v_m v_t bw v_o).o)],.agg [.sl none (.ints .i64 (Fs.U.eK v_m v_t bw v_o).w),.val (.bool (Fs.U.eK v_m v_t bw v_o).tb),.val (.bool (Fs.U.eK v_m v_t bw v_o).tp),.val (.bool (Fs.U.eK v_m v_t bw v_o).tf)],I (Fs.U.eK v_m v_t bw v_o).e],[],[Any]⟩:=by
 intro b gv
 generalize hF:Fs.U=F
 generalize hA:Ar.U=A
 generalize hL:Lp _ _ _=L
 obtain⟨Z,zq⟩:=aQ
 refine @aD _ _ _ _ _ _ _ (ae hL) _ _ zq rfl ?_
 repeat' (first|(refine aw zq ?_;try dsimp only)|refine ax zq ?_ (ae hL)|refine az zq ?_|refine ay ?_|refine aq ?_|refine ar ?_|refine av ?_|refine au rfl ?_|refine ai rfl ?_|refine aj rfl ?_|(refine Cd.mk ?_;cbv)|(refine aE.mk ?_;cbv)|(refine aM.mk ?_;cbv)|exact trivial|refine And.intro ?_ ?_|refine bu fun _=>?_|refine br fun _=>?_)
 all_goals
  clear hL zq Z
  subst hF hA
  simp only [Fs.U,Ar.U] at *
  try (grind [al,bo,lk,wr,ew,Pa,CB,oZ,pN,oD,CX,DU,oE,v0,same])
theorem uQ:aA Tryz.prog 76 (rI Fs.U):=by
 refine aG (af.cons eE (af.cons qP af.nil rfl) rfl) Tryz.func76 rfl rfl fun xs h p hp=>?_
 unfold rI at hp
 split at hp
 ·cases hp
  exact⟨aB rfl,fun _ _=>@GJ _ _ _ _⟩
 ·cases hp
def Br (F:Fs):aY:=fun xs h=>match xs,h with
 |[.agg [.val (.int .i64 v_m),.val (.bool v_t),.val (.bool bw),.val (.int .i64 v_o)]],[]=>some ⟨True,.bK [.agg [.val (.int .i64 (F.eI v_m v_t bw v_o).m),.val (.bool (F.eI v_m v_t bw v_o).t),.val (.bool (F.eI v_m v_t bw v_o).b),.val (.int .i64 (F.eI v_m v_t bw v_o).o)],.agg [.sl none (.ints .i64 (F.eI v_m v_t bw v_o).w),.val (.bool (F.eI v_m v_t bw v_o).tb),.val (.bool (F.eI v_m v_t bw v_o).tp),.val (.bool (F.eI v_m v_t bw v_o).tf)],I (F.eI v_m v_t bw v_o).e],[],[Any]⟩
 |_,_=>none
theorem Ti (v_m:Int) (v_t:Bool) (bw:Bool) (v_o:Int):aV [(116,eC Fs.U),(160,oF Fs.U)] Tryz.f75 [.agg [.val (.int .i64 v_m),.val (.bool v_t),.val (.bool bw),.val (.int .i64 v_o)]] [] ⟨True,.bK [.agg [.val (.int .i64 (Fs.U.eI v_m v_t bw v_o).m),.val (.bool (Fs.U.eI v_m v_t bw v_o).t),.val (.bool (Fs.U.eI v_m v_t bw v_o).b),.val (.int .i64 (Fs.U.eI v_m v_t bw v_o).o)],.agg [.sl none (.ints .i64 (Fs.U.eI v_m v_t bw v_o).w),.val (.bool (Fs.U.eI v_m v_t bw v_o).tb),.val (.bool (Fs.U.eI v_m v_t bw v_o).tp),.val (.bool (Fs.U.eI v_m v_t bw v_o).tf)],I (Fs.U.eI v_m v_t bw v_o).e],[],[Any]⟩:=by
 intro b gv
 generalize hF:Fs.U=F
 generalize hA:Ar.U=A
 generalize hL:Lp _ _ _=L
 obtain⟨Z,zq⟩:=aQ
 refine @aD _ _ _ _ _ _ _ (ae hL) _ _ zq rfl ?_
 repeat' (first|(refine aw zq ?_;try dsimp only)|refine ax zq ?_ (ae hL)|refine az zq ?_|refine ay ?_|refine aq ?_|refine ar ?_|refine av ?_|refine au rfl ?_|refine ai rfl ?_|refine aj rfl ?_|(refine Cd.mk ?_;cbv)|(refine aE.mk ?_;cbv)|(refine aM.mk ?_;cbv)|exact trivial|refine And.intro ?_ ?_|refine bu fun _=>?_|refine br fun _=>?_)
 all_goals
  clear hL zq Z
  subst hF hA
  simp only [Fs.U,Ar.U] at *
  try (grind [al,bo,lk,wr,ew,Pa,CB,oZ,pN,oD,CX,DU,oE,v0,same])
theorem DM:aA Tryz.prog 75 (Br Fs.U):=by
 refine aG (af.cons eE (af.cons qP af.nil rfl) rfl) Tryz.func75 rfl rfl fun xs h p hp=>?_
 unfold Br at hp
 split at hp
 ·cases hp
  exact⟨aB rfl,fun _ _=>@Ti _ _ _ _⟩
 ·cases hp
def BU (F:Fs):aY:=fun xs h=>match xs,h with
 |[.agg [.val (.int .i64 v_m),.val (.bool v_t),.val (.bool bw),.val (.int .i64 v_o)]],[]=>some ⟨F.nA v_m v_t bw v_o=true,.bK [.agg [.val (.int .i64 (F.kV v_m v_t bw v_o).m),.val (.bool (F.kV v_m v_t bw v_o).t),.val (.bool (F.kV v_m v_t bw v_o).b),.val (.int .i64 (F.kV v_m v_t bw v_o).o)],.agg [.sl none (.ints .i64 (F.kV v_m v_t bw v_o).w),.val (.bool (F.kV v_m v_t bw v_o).tb),.val (.bool (F.kV v_m v_t bw v_o).tp),.val (.bool (F.kV v_m v_t bw v_o).tf)]],[],[Any]⟩
 |_,_=>none
theorem Tw (v_m:Int) (v_t:Bool) (bw:Bool) (v_o:Int) (hC:Fs.U.nA v_m v_t bw v_o=true):aV [(160,oF Fs.U)] Tryz.f133 [.agg [.val (.int .i64 v_m),.val (.bool v_t),.val (.bool bw),.val (.int .i64 v_o)]] [] ⟨Fs.U.nA v_m v_t bw v_o=true,.bK [.agg [.val (.int .i64 (Fs.U.kV v_m v_t bw v_o).m),.val (.bool (Fs.U.kV v_m v_t bw v_o).t),.val (.bool (Fs.U.kV v_m v_t bw v_o).b),.val (.int .i64 (Fs.U.kV v_m v_t bw v_o).o)],.agg [.sl none (.ints .i64 (Fs.U.kV v_m v_t bw v_o).w),.val (.bool (Fs.U.kV v_m v_t bw v_o).tb),.val (.bool (Fs.U.kV v_m v_t bw v_o).tp),.val (.bool (Fs.U.kV v_m v_t bw v_o).tf)]],[],[Any]⟩:=by
 intro b gv
 generalize hF:Fs.U=F at hC ⊢
 generalize hA:Ar.U=A
 generalize hL:Lp _ _ _=L
 obtain⟨Z,zq⟩:=aQ
 refine @aD _ _ _ _ _ _ _ (ae hL) _ _ zq rfl ?_
 repeat' (first|(refine aw zq ?_;try dsimp only)|refine ax zq ?_ (ae hL)|refine az zq ?_|refine ay ?_|refine aq ?_|refine ar ?_|refine av ?_|refine au rfl ?_|refine ai rfl ?_|refine aj rfl ?_|(refine Cd.mk ?_;cbv)|(refine aE.mk ?_;cbv)|(refine aM.mk ?_;cbv)|exact trivial|refine And.intro ?_ ?_|refine bu fun _=>?_|refine br fun _=>?_)
 all_goals
  clear hL zq Z
  subst hF hA
  simp only [Fs.U,Ar.U] at *
  try (grind [al,bo,lk,wr,ew,Pa,CB,oZ,pN,oD,CX,DU,oE,v0,same])
theorem NK:aA Tryz.prog 133 (BU Fs.U):=by
 refine aG (af.cons qP af.nil rfl) Tryz.func133 rfl rfl fun xs h p hp=>?_
 unfold BU at hp
 split at hp
 ·cases hp
  exact⟨aB rfl,fun hC _=>@Tw _ _ _ _ hC⟩
 ·cases hp
def wv (F:Fs):aY:=fun xs h=>match xs,h with
 |[.agg [.val (.int .i64 v_m),.val (.bool v_t),.val (.bool bw),.val (.int .i64 v_o)]],[]=>some ⟨F.nA v_m v_t bw v_o=true,.bK [.agg [.val (.int .i64 (F.la v_m v_t bw v_o).m),.val (.bool (F.la v_m v_t bw v_o).t),.val (.bool (F.la v_m v_t bw v_o).b),.val (.int .i64 (F.la v_m v_t bw v_o).o)],.agg [.sl none (.ints .i64 (F.la v_m v_t bw v_o).w),.val (.bool (F.la v_m v_t bw v_o).tb),.val (.bool (F.la v_m v_t bw v_o).tp),.val (.bool (F.la v_m v_t bw v_o).tf)]],[],[Any]⟩
 |_,_=>none
theorem NZ (v_m:Int) (v_t:Bool) (bw:Bool) (v_o:Int) (hC:Fs.U.nA v_m v_t bw v_o=true):aV [] Tryz.f134 [.agg [.val (.int .i64 v_m),.val (.bool v_t),.val (.bool bw),.val (.int .i64 v_o)]] [] ⟨Fs.U.nA v_m v_t bw v_o=true,.bK [.agg [.val (.int .i64 (Fs.U.la v_m v_t bw v_o).m),.val (.bool (Fs.U.la v_m v_t bw v_o).t),.val (.bool (Fs.U.la v_m v_t bw v_o).b),.val (.int .i64 (Fs.U.la v_m v_t bw v_o).o)],.agg [.sl none (.ints .i64 (Fs.U.la v_m v_t bw v_o).w),.val (.bool (Fs.U.la v_m v_t bw v_o).tb),.val (.bool (Fs.U.la v_m v_t bw v_o).tp),.val (.bool (Fs.U.la v_m v_t bw v_o).tf)]],[],[Any]⟩:=by
 intro b gv
 generalize hF:Fs.U=F at hC ⊢
 generalize hA:Ar.U=A
 generalize hL:Lp _ _ _=L
 obtain⟨Z,zq⟩:=aQ
 refine @aD _ _ _ _ _ _ _ (ae hL) _ _ zq rfl ?_
 repeat' (first|(refine aw zq ?_;try dsimp only)|refine ax zq ?_ (ae hL)|refine az zq ?_|refine ay ?_|refine aq ?_|refine ar ?_|refine av ?_|refine au rfl ?_|refine ai rfl ?_|refine aj rfl ?_|(refine Cd.mk ?_;cbv)|(refine aE.mk ?_;cbv)|(refine aM.mk ?_;cbv)|exact trivial|refine And.intro ?_ ?_|refine bu fun _=>?_|refine br fun _=>?_)
 all_goals
  clear hL zq Z
  subst hF hA
  simp only [Fs.U,Ar.U] at *
  try (grind [al,bo,lk,wr,ew,Pa,CB,oZ,pN,oD,CX,DU,oE,v0,same])
theorem IE:aA Tryz.prog 134 (wv Fs.U):=by
 refine aG af.nil Tryz.func134 rfl rfl fun xs h p hp=>?_
 unfold wv at hp
 split at hp
 ·cases hp
  exact⟨aB rfl,fun hC _=>@NZ _ _ _ _ hC⟩
 ·cases hp
def lS (F:Fs):aY:=fun xs h=>match xs,h with
 |[.agg [.val (.int .i64 v_m),.val (.bool v_t),.val (.bool bw),.val (.int .i64 v_o)],.one (.val (.int .i64 k))],[]=>some ⟨True,.bK [.agg [.val (.int .i64 (F.cB v_m v_t bw v_o k).m),.val (.bool (F.cB v_m v_t bw v_o k).t),.val (.bool (F.cB v_m v_t bw v_o k).b),.val (.int .i64 (F.cB v_m v_t bw v_o k).o)],.agg [.sl none (.ints .i64 (F.cB v_m v_t bw v_o k).w),.val (.bool (F.cB v_m v_t bw v_o k).tb),.val (.bool (F.cB v_m v_t bw v_o k).tp),.val (.bool (F.cB v_m v_t bw v_o k).tf)],I (F.cB v_m v_t bw v_o k).e],[],[Any,Any]⟩
 |_,_=>none
theorem Bp (v_m:Int) (v_t:Bool) (bw:Bool) (v_o:Int) (k:Int):aV [(116,eC Fs.U),(133,BU Fs.U),(134,wv Fs.U)] Tryz.f110 [.agg [.val (.int .i64 v_m),.val (.bool v_t),.val (.bool bw),.val (.int .i64 v_o)],.one (.val (.int .i64 k))] [] ⟨True,.bK [.agg [.val (.int .i64 (Fs.U.cB v_m v_t bw v_o k).m),.val (.bool (Fs.U.cB v_m v_t bw v_o k).t),.val (.bool (Fs.U.cB v_m v_t bw v_o k).b),.val (.int .i64 (Fs.U.cB v_m v_t bw v_o k).o)],.agg [.sl none (.ints .i64 (Fs.U.cB v_m v_t bw v_o k).w),.val (.bool (Fs.U.cB v_m v_t bw v_o k).tb),.val (.bool (Fs.U.cB v_m v_t bw v_o k).tp),.val (.bool (Fs.U.cB v_m v_t bw v_o k).tf)],I (Fs.U.cB v_m v_t bw v_o k).e],[],[Any,Any]⟩:=by
 intro b gv
 generalize hF:Fs.U=F
 generalize hA:Ar.U=A
 generalize hL:Lp _ _ _=L
 obtain⟨Z,zq⟩:=aQ
 refine @aD _ _ _ _ _ _ _ (ae hL) _ _ zq rfl ?_
 repeat' (first|(refine aw zq ?_;try dsimp only)|refine ax zq ?_ (ae hL)|refine az zq ?_|refine ay ?_|refine aq ?_|refine ar ?_|refine av ?_|refine au rfl ?_|refine ai rfl ?_|refine aj rfl ?_|(refine Cd.mk ?_;cbv)|(refine aE.mk ?_;cbv)|(refine aM.mk ?_;cbv)|exact trivial|refine And.intro ?_ ?_|refine bu fun _=>?_|refine br fun _=>?_)
 all_goals
  clear hL zq Z
  subst hF hA
  simp only [Fs.U,Ar.U] at *
  try (grind [al,bo,lk,wr,ew,Pa,CB,oZ,pN,oD,CX,DU,oE,v0,same])
theorem qC:aA Tryz.prog 110 (lS Fs.U):=by
 refine aG (af.cons eE (af.cons NK (af.cons IE af.nil rfl) rfl) rfl) Tryz.func110 rfl rfl fun xs h p hp=>?_
 unfold lS at hp
 split at hp
 ·cases hp
  exact⟨aB rfl,fun _ _=>@Bp _ _ _ _ _⟩
 ·cases hp
end Go.Proofs.YtelhldgdnlppfaaGreat.VoR
