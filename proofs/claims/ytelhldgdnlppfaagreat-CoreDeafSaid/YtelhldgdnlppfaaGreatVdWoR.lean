
/-
  words yz the reckoner: which there may be,and their bytes. No condition.
-/
import Derived.Test.YtelhldgdnlppfaaGreatVdW22
import Derived.Test.YtelhldgdnlppfaaGreatVdW43
import Derived.Test.YtelhldgdnlppfaaGreatVdW27
set_option cbv.maxSteps 4000000
set_option maxHeartbeats 8000000
set_option maxRecDepth 100000
namespace Go.Proofs.YtelhldgdnlppfaaGreat.WoR
open Go Ry ViR ViC OctR OctP OctQ
structure WD where
 k:Int
 e:Int
 r:Int
 n:List Int
 l:List E
 ck:Int
 ca:Int
 cb:Int
 cs:Int
def JB (k a b s:Int):Bool:=decide (k=1∧a=0∧b=0∧s=0∨(k=2∨k=3)∧cq a=true∧cq b=true∧a≠b∧1≤s∧s≤2147483647∧(k=3→a < b))
def pM (e r:Int):Bool:=decide (e=0∧r=0∨1≤e∧e≤2147483647∧cq r=true)
def er (b:Bool):Int:=if b=true then 0 else 1
def nmd (k:Int):Bool:=decide (k=1∨k=2∨k=3)
def okE (w:WD):Bool:=decide ((nmd w.k=true→¬(w.e=0∧w.r=0))∧(nmd w.k=false→w.e=0∧w.r=0)) && pM w.e w.r
def full (w:WD):Bool:=decide (w.k=2∨w.k=3∧w.ck=1)
def okV (w:WD):Bool:=if full w=true then decide (0 < w.n.length∧w.l.length≤1024) && bf w.n w.l else decide (w.n.length=0∧w.l.length=0)
def okC (w:WD):Bool:=if w.k=3 then JB w.ck w.ca w.cb w.cs else decide (w.ck=0∧w.ca=0∧w.cb=0∧w.cs=0)
def sU (w:WD):Bool:=decide (1≤w.k∧w.k < 8) && (okE w && (okV w && okC w))
def okS (w:WD):Bool:=decide (w.n.length≤1000000∧w.l.length≤1000000)
def pt (b:List Int) (n w:Int):List Int:=b ++ NR [] n w
def lkP (b:List Int) (y:E):List Int:=pt (pt (pt (pt (pt b (ri y 0) 1) (ri y 1) 1) (ri y 2) 4) (ri y 3) 4) (if rb y 4=true then 1 else 0) 1
def lk5 (b:List Int) (n p w s:Int) (mk:Bool):List Int:=pt (pt (pt (pt (pt b n 1) p 1) w 4) s 4) (if mk=true then 1 else 0) 1
def hdP (w:WD):List Int:=pt (pt (pt (pt (pt (pt (pt (NR [] w.k 1) w.e 4) w.r 1) w.ck 1) w.ca 1) w.cb 1) w.cs 4) w.n.length 1
def ndP (b:List Int) (n:List Int):List Int:=n.foldl (fun b x=>pt b x 1) b
def lkA (b:List Int) (l:List E):List Int:=l.foldl lkP b
def WB (w:WD):List Int:=lkA (pt (ndP (hdP w) w.n) w.l.length 2) w.l
def aaI (w:WD):List Int:=if sU w=true then WB w else []
structure XO where
 i:Int
 b:List Int
structure Ws where
 w_c:Int→Int→Int→Int→Bool
 du:Int→Int→Bool
 qw:Bool→Int
 QH:WD→Bool
 Rt:WD→Bool
 Rz:WD→Bool
 Rp:WD→Bool
 Vw:WD→Bool
 abC:Int→Int→List Int
 abP:List Int→Int→Int→List Int
 abq:List Int→Int→Int→Int→Int→Bool→List Int
 aaZ:WD→List Int
 abu:List Int→Bool
 abj:List Int→Bool
def Ws.U:Ws:=⟨JB,pM,er,okE,okV,okC,sU,okS,fun n w=>NR [] n w,pt,lk5,aaI,fun b=>decide (b.length≤200000),fun b=>decide (b.length≤100000)⟩
def tK (F:Ws):aZ:=fun xs h=>match xs,h with
 |[.agg [.val (.int .i64 c_k),.val (.int .i64 c_a),.val (.int .i64 c_b),.val (.int .i64 c_s)]],[]=>some ⟨True,.sa (I (F.qw (F.w_c c_k c_a c_b c_s))),[],[Any]⟩
 |_,_=>none
theorem HG (c_k:Int) (c_a:Int) (c_b:Int) (c_s:Int):aU [(32,fW ViR.Vs.U)] Tryz.f130 [.agg [.val (.int .i64 c_k),.val (.int .i64 c_a),.val (.int .i64 c_b),.val (.int .i64 c_s)]] [] ⟨True,.sa (I (Ws.U.qw (Ws.U.w_c c_k c_a c_b c_s))),[],[Any]⟩:=by
 intro b gv
 have hfs:=(af.cons cL af.nil rfl)
 generalize hF:Ws.U=F at hfs ⊢
 generalize hG0:ViR.Vs.U=G0 at hfs ⊢
 generalize hG1:ViC.Vc.U=G1 at hfs ⊢
 generalize hG2:OctR.Fs.U=G2 at hfs ⊢
 generalize hA:Ar.U=A
 generalize hL:Lp _ _ _=L
 obtain⟨Z,zq⟩:=aP
 refine aD (aa hL) zq rfl ?_
 repeat' (first|(refine ay zq ?_;try dsimp only)|refine ax zq ?_ (aa hL)|refine aw zq ?_|refine az ?_|refine av ?_|refine au ?_|refine aq ?_|refine ar rfl ?_|refine ai rfl ?_|refine aj rfl ?_|(refine Cd.mk ?_;cbv)|(refine aE.mk ?_;cbv)|(refine aJ.mk ?_;cbv)|exact trivial|refine And.intro ?_ ?_|refine bn fun _=>?_|refine bo fun _=>?_)
 all_goals
  clear hL zq Z
  try clear hfs
  subst hA hF hG0 hG1 hG2
  simp only [Ws.U,ViR.Vs.U,Ar.U] at *
  try (grind [al,er,JB])
theorem vd:aA Tryz.prog 130 (tK Ws.U):=by
 refine aG (af.cons cL af.nil rfl) Tryz.func130 rfl rfl fun xs h p hp=>?_
 unfold tK at hp
 split at hp
 ·cases hp
  exact⟨aB rfl,fun _ _=>HG _ _ _ _⟩
 ·cases hp
def pC (F:Ws):aZ:=fun xs h=>match xs,h with
 |[.agg [.val (.int .i64 c_e),.val (.int .i64 c_r)]],[]=>some ⟨True,.sa (I (F.qw (F.du c_e c_r))),[],[Any]⟩
 |_,_=>none
theorem FC (c_e:Int) (c_r:Int):aU [(32,fW ViR.Vs.U)] Tryz.f128 [.agg [.val (.int .i64 c_e),.val (.int .i64 c_r)]] [] ⟨True,.sa (I (Ws.U.qw (Ws.U.du c_e c_r))),[],[Any]⟩:=by
 intro b gv
 have hfs:=(af.cons cL af.nil rfl)
 generalize hF:Ws.U=F at hfs ⊢
 generalize hG0:ViR.Vs.U=G0 at hfs ⊢
 generalize hG1:ViC.Vc.U=G1 at hfs ⊢
 generalize hG2:OctR.Fs.U=G2 at hfs ⊢
 generalize hA:Ar.U=A
 generalize hL:Lp _ _ _=L
 obtain⟨Z,zq⟩:=aP
 refine aD (aa hL) zq rfl ?_
 repeat' (first|(refine ay zq ?_;try dsimp only)|refine ax zq ?_ (aa hL)|refine aw zq ?_|refine az ?_|refine av ?_|refine au ?_|refine aq ?_|refine ar rfl ?_|refine ai rfl ?_|refine aj rfl ?_|(refine Cd.mk ?_;cbv)|(refine aE.mk ?_;cbv)|(refine aJ.mk ?_;cbv)|exact trivial|refine And.intro ?_ ?_|refine bn fun _=>?_|refine bo fun _=>?_)
 all_goals
  clear hL zq Z
  try clear hfs
  subst hA hF hG0 hG1 hG2
  simp only [Ws.U,ViR.Vs.U,Ar.U] at *
  try (grind [al,er,pM])
theorem td:aA Tryz.prog 128 (pC Ws.U):=by
 refine aG (af.cons cL af.nil rfl) Tryz.func128 rfl rfl fun xs h p hp=>?_
 unfold pC at hp
 split at hp
 ·cases hp
  exact⟨aB rfl,fun _ _=>FC _ _⟩
 ·cases hp
def Bl (F:Ws):aZ:=fun xs h=>match xs,h with
 |[.agg [.val (.int .i64 w_k),.val (.int .i64 du),.val (.int .i64 w_r),.sl none (.ints .i64 w_n),.sl none (.ah (.int .i64 (.int .i64 (.int .i64 (.int .i64 (.bool .nil))))) w_l),.val (.int .i64 w_ck),.val (.int .i64 w_ca),.val (.int .i64 w_cb),.val (.int .i64 w_cs)]],[]=>some ⟨True,.sa (I (F.qw (F.QH ⟨w_k,du,w_r,w_n,w_l,w_ck,w_ca,w_cb,w_cs⟩))),[],[Any]⟩
 |_,_=>none
theorem TM (w_k:Int) (du:Int) (w_r:Int) (w_n:List Int) (w_l:List E) (w_ck:Int) (w_ca:Int) (w_cb:Int) (w_cs:Int):aU [(128,pC Ws.U)] Tryz.f100 [.agg [.val (.int .i64 w_k),.val (.int .i64 du),.val (.int .i64 w_r),.sl none (.ints .i64 w_n),.sl none (.ah (.int .i64 (.int .i64 (.int .i64 (.int .i64 (.bool .nil))))) w_l),.val (.int .i64 w_ck),.val (.int .i64 w_ca),.val (.int .i64 w_cb),.val (.int .i64 w_cs)]] [] ⟨True,.sa (I (Ws.U.qw (Ws.U.QH ⟨w_k,du,w_r,w_n,w_l,w_ck,w_ca,w_cb,w_cs⟩))),[],[Any]⟩:=by
 intro b gv
 have hfs:=(af.cons td af.nil rfl)
 generalize hF:Ws.U=F at hfs ⊢
 generalize hG0:ViR.Vs.U=G0 at hfs ⊢
 generalize hG1:ViC.Vc.U=G1 at hfs ⊢
 generalize hG2:OctR.Fs.U=G2 at hfs ⊢
 generalize hA:Ar.U=A
 generalize hL:Lp _ _ _=L
 obtain⟨Z,zq⟩:=aP
 refine aD (aa hL) zq rfl ?_
 repeat' (first|(refine ay zq ?_;try dsimp only)|refine ax zq ?_ (aa hL)|refine aw zq ?_|refine az ?_|refine av ?_|refine au ?_|refine aq ?_|refine ar rfl ?_|refine ai rfl ?_|refine aj rfl ?_|(refine Cd.mk ?_;cbv)|(refine aE.mk ?_;cbv)|(refine aJ.mk ?_;cbv)|exact trivial|refine And.intro ?_ ?_|refine bn fun _=>?_|refine bo fun _=>?_)
 all_goals
  clear hL zq Z
  try clear hfs
  subst hA hF hG0 hG1 hG2
  simp only [Ws.U,Ar.U] at *
  try (grind [al,er,okE,nmd,pM])
theorem CL:aA Tryz.prog 100 (Bl Ws.U):=by
 refine aG (af.cons td af.nil rfl) Tryz.func100 rfl rfl fun xs h p hp=>?_
 unfold Bl at hp
 split at hp
 ·cases hp
  exact⟨aB rfl,fun _ _=>TM _ _ _ _ _ _ _ _ _⟩
 ·cases hp
def xB (F:Ws):aZ:=fun xs h=>match xs,h with
 |[.agg [.val (.int .i64 w_k),.val (.int .i64 du),.val (.int .i64 w_r),.sl none (.ints .i64 w_n),.sl none (.ah (.int .i64 (.int .i64 (.int .i64 (.int .i64 (.bool .nil))))) w_l),.val (.int .i64 w_ck),.val (.int .i64 w_ca),.val (.int .i64 w_cb),.val (.int .i64 w_cs)]],[]=>some ⟨F.Vw ⟨w_k,du,w_r,w_n,w_l,w_ck,w_ca,w_cb,w_cs⟩=true,.sa (I (F.qw (F.Rt ⟨w_k,du,w_r,w_n,w_l,w_ck,w_ca,w_cb,w_cs⟩))),[],[Any]⟩
 |_,_=>none
theorem Nz (w_k:Int) (du:Int) (w_r:Int) (w_n:List Int) (w_l:List E) (w_ck:Int) (w_ca:Int) (w_cb:Int) (w_cs:Int) (hC:Ws.U.Vw ⟨w_k,du,w_r,w_n,w_l,w_ck,w_ca,w_cb,w_cs⟩=true):aU [(129,dv ViC.Vc.U)] Tryz.f101 [.agg [.val (.int .i64 w_k),.val (.int .i64 du),.val (.int .i64 w_r),.sl none (.ints .i64 w_n),.sl none (.ah (.int .i64 (.int .i64 (.int .i64 (.int .i64 (.bool .nil))))) w_l),.val (.int .i64 w_ck),.val (.int .i64 w_ca),.val (.int .i64 w_cb),.val (.int .i64 w_cs)]] [] ⟨Ws.U.Vw ⟨w_k,du,w_r,w_n,w_l,w_ck,w_ca,w_cb,w_cs⟩=true,.sa (I (Ws.U.qw (Ws.U.Rt ⟨w_k,du,w_r,w_n,w_l,w_ck,w_ca,w_cb,w_cs⟩))),[],[Any]⟩:=by
 intro b gv
 have hfs:=(af.cons bL af.nil rfl)
 generalize hF:Ws.U=F at hC hfs ⊢
 generalize hG0:ViR.Vs.U=G0 at hC hfs ⊢
 generalize hG1:ViC.Vc.U=G1 at hC hfs ⊢
 generalize hG2:OctR.Fs.U=G2 at hC hfs ⊢
 generalize hA:Ar.U=A
 generalize hL:Lp _ _ _=L
 obtain⟨Z,zq⟩:=aP
 refine aD (aa hL) zq rfl ?_
 repeat' (first|(refine ay zq ?_;try dsimp only)|refine ax zq ?_ (aa hL)|refine aw zq ?_|refine az ?_|refine av ?_|refine au ?_|refine aq ?_|refine ar rfl ?_|refine ai rfl ?_|refine aj rfl ?_|(refine Cd.mk ?_;cbv)|(refine aE.mk ?_;cbv)|(refine aJ.mk ?_;cbv)|exact trivial|refine And.intro ?_ ?_|refine bn fun _=>?_|refine bo fun _=>?_)
 all_goals
  clear hL zq Z
  try clear hfs
  subst hA hF hG0 hG1 hG2
  simp only [Ws.U,ViC.Vc.U,Ar.U] at *
  try (grind [al,er,okV,full,okS,mI])
theorem zC:aA Tryz.prog 101 (xB Ws.U):=by
 refine aG (af.cons bL af.nil rfl) Tryz.func101 rfl rfl fun xs h p hp=>?_
 unfold xB at hp
 split at hp
 ·cases hp
  exact⟨aB rfl,fun hC _=>Nz _ _ _ _ _ _ _ _ _ hC⟩
 ·cases hp
def AV (F:Ws):aZ:=fun xs h=>match xs,h with
 |[.agg [.val (.int .i64 w_k),.val (.int .i64 du),.val (.int .i64 w_r),.sl none (.ints .i64 w_n),.sl none (.ah (.int .i64 (.int .i64 (.int .i64 (.int .i64 (.bool .nil))))) w_l),.val (.int .i64 w_ck),.val (.int .i64 w_ca),.val (.int .i64 w_cb),.val (.int .i64 w_cs)]],[]=>some ⟨True,.sa (I (F.qw (F.Rz ⟨w_k,du,w_r,w_n,w_l,w_ck,w_ca,w_cb,w_cs⟩))),[],[Any]⟩
 |_,_=>none
theorem Tb (w_k:Int) (du:Int) (w_r:Int) (w_n:List Int) (w_l:List E) (w_ck:Int) (w_ca:Int) (w_cb:Int) (w_cs:Int):aU [(130,tK Ws.U)] Tryz.f102 [.agg [.val (.int .i64 w_k),.val (.int .i64 du),.val (.int .i64 w_r),.sl none (.ints .i64 w_n),.sl none (.ah (.int .i64 (.int .i64 (.int .i64 (.int .i64 (.bool .nil))))) w_l),.val (.int .i64 w_ck),.val (.int .i64 w_ca),.val (.int .i64 w_cb),.val (.int .i64 w_cs)]] [] ⟨True,.sa (I (Ws.U.qw (Ws.U.Rz ⟨w_k,du,w_r,w_n,w_l,w_ck,w_ca,w_cb,w_cs⟩))),[],[Any]⟩:=by
 intro b gv
 have hfs:=(af.cons vd af.nil rfl)
 generalize hF:Ws.U=F at hfs ⊢
 generalize hG0:ViR.Vs.U=G0 at hfs ⊢
 generalize hG1:ViC.Vc.U=G1 at hfs ⊢
 generalize hG2:OctR.Fs.U=G2 at hfs ⊢
 generalize hA:Ar.U=A
 generalize hL:Lp _ _ _=L
 obtain⟨Z,zq⟩:=aP
 refine aD (aa hL) zq rfl ?_
 repeat' (first|(refine ay zq ?_;try dsimp only)|refine ax zq ?_ (aa hL)|refine aw zq ?_|refine az ?_|refine av ?_|refine au ?_|refine aq ?_|refine ar rfl ?_|refine ai rfl ?_|refine aj rfl ?_|(refine Cd.mk ?_;cbv)|(refine aE.mk ?_;cbv)|(refine aJ.mk ?_;cbv)|exact trivial|refine And.intro ?_ ?_|refine bn fun _=>?_|refine bo fun _=>?_)
 all_goals
  clear hL zq Z
  try clear hfs
  subst hA hF hG0 hG1 hG2
  simp only [Ws.U,Ar.U] at *
  try (grind [al,er,okC])
theorem Ey:aA Tryz.prog 102 (AV Ws.U):=by
 refine aG (af.cons vd af.nil rfl) Tryz.func102 rfl rfl fun xs h p hp=>?_
 unfold AV at hp
 split at hp
 ·cases hp
  exact⟨aB rfl,fun _ _=>Tb _ _ _ _ _ _ _ _ _⟩
 ·cases hp
def nS (F:Ws):aZ:=fun xs h=>match xs,h with
 |[.agg [.val (.int .i64 w_k),.val (.int .i64 du),.val (.int .i64 w_r),.sl none (.ints .i64 w_n),.sl none (.ah (.int .i64 (.int .i64 (.int .i64 (.int .i64 (.bool .nil))))) w_l),.val (.int .i64 w_ck),.val (.int .i64 w_ca),.val (.int .i64 w_cb),.val (.int .i64 w_cs)]],[]=>some ⟨F.Vw ⟨w_k,du,w_r,w_n,w_l,w_ck,w_ca,w_cb,w_cs⟩=true,.sa (I (F.qw (F.Rp ⟨w_k,du,w_r,w_n,w_l,w_ck,w_ca,w_cb,w_cs⟩))),[],[Any]⟩
 |_,_=>none
theorem Kw (w_k:Int) (du:Int) (w_r:Int) (w_n:List Int) (w_l:List E) (w_ck:Int) (w_ca:Int) (w_cb:Int) (w_cs:Int) (hC:Ws.U.Vw ⟨w_k,du,w_r,w_n,w_l,w_ck,w_ca,w_cb,w_cs⟩=true):aU [(100,Bl Ws.U),(101,xB Ws.U),(102,AV Ws.U)] Tryz.f61 [.agg [.val (.int .i64 w_k),.val (.int .i64 du),.val (.int .i64 w_r),.sl none (.ints .i64 w_n),.sl none (.ah (.int .i64 (.int .i64 (.int .i64 (.int .i64 (.bool .nil))))) w_l),.val (.int .i64 w_ck),.val (.int .i64 w_ca),.val (.int .i64 w_cb),.val (.int .i64 w_cs)]] [] ⟨Ws.U.Vw ⟨w_k,du,w_r,w_n,w_l,w_ck,w_ca,w_cb,w_cs⟩=true,.sa (I (Ws.U.qw (Ws.U.Rp ⟨w_k,du,w_r,w_n,w_l,w_ck,w_ca,w_cb,w_cs⟩))),[],[Any]⟩:=by
 intro b gv
 have hfs:=(af.cons CL (af.cons zC (af.cons Ey af.nil rfl) rfl) rfl)
 generalize hF:Ws.U=F at hC hfs ⊢
 generalize hG0:ViR.Vs.U=G0 at hC hfs ⊢
 generalize hG1:ViC.Vc.U=G1 at hC hfs ⊢
 generalize hG2:OctR.Fs.U=G2 at hC hfs ⊢
 generalize hA:Ar.U=A
 generalize hL:Lp _ _ _=L
 obtain⟨Z,zq⟩:=aP
 refine aD (aa hL) zq rfl ?_
 repeat' (first|(refine ay zq ?_;try dsimp only)|refine ax zq ?_ (aa hL)|refine aw zq ?_|refine az ?_|refine av ?_|refine au ?_|refine aq ?_|refine ar rfl ?_|refine ai rfl ?_|refine aj rfl ?_|(refine Cd.mk ?_;cbv)|(refine aE.mk ?_;cbv)|(refine aJ.mk ?_;cbv)|exact trivial|refine And.intro ?_ ?_|refine bn fun _=>?_|refine bo fun _=>?_)
 all_goals
  clear hL zq Z
  try clear hfs
  subst hA hF hG0 hG1 hG2
  simp only [Ws.U,Ar.U] at *
  try (grind [al,er,sU])
theorem pz:aA Tryz.prog 61 (nS Ws.U):=by
 refine aG (af.cons CL (af.cons zC (af.cons Ey af.nil rfl) rfl) rfl) Tryz.func61 rfl rfl fun xs h p hp=>?_
 unfold nS at hp
 split at hp
 ·cases hp
  exact⟨aB rfl,fun hC _=>Kw _ _ _ _ _ _ _ _ _ hC⟩
 ·cases hp
end Go.Proofs.YtelhldgdnlppfaaGreat.WoR
