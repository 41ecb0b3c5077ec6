
/-
  words sj the reckoner: which there may be,and their bytes. No condition.
-/
import Derived.Test.YtelhldgdnlppfaaGreatVgW23
import Derived.Test.YtelhldgdnlppfaaGreatVgW45
import Derived.Test.YtelhldgdnlppfaaGreatVgW29
set_option cbv.maxSteps 4000000
set_option maxHeartbeats 8000000
set_option maxRecDepth 100000
namespace Go.Proofs.YtelhldgdnlppfaaGreat.WoR
open Go Ry ViR ViC OctR OctP OctQ
structure WD where
 k:Int
 e:Int
 r:Int
 n:List Int
 l:List E
 ck:Int
 ca:Int
 cb:Int
 cs:Int
def HT (k a b s:Int):Bool:=decide (k=1∧a=0∧b=0∧s=0∨(k=2∨k=3)∧cm a=true∧cm b=true∧a≠b∧1≤s∧s≤2147483647∧(k=3→a < b))
def pj (e r:Int):Bool:=decide (e=0∧r=0∨1≤e∧e≤2147483647∧cm r=true)
def er (b:Bool):Int:=if b=true then 0 else 1
def nmd (k:Int):Bool:=decide (k=1∨k=2∨k=3)
def okE (w:WD):Bool:=decide ((nmd w.k=true→¬(w.e=0∧w.r=0))∧(nmd w.k=false→w.e=0∧w.r=0)) && pj w.e w.r
def full (w:WD):Bool:=decide (w.k=2∨w.k=3∧w.ck=1)
def ZL (w:WD):Bool:=if full w=true then decide (0 < w.n.length∧w.l.length≤1024) && bf w.n w.l else decide (w.n.length=0∧w.l.length=0)
def okC (w:WD):Bool:=if w.k=3 then HT w.ck w.ca w.cb w.cs else decide (w.ck=0∧w.ca=0∧w.cb=0∧w.cs=0)
def rG (w:WD):Bool:=decide (1≤w.k∧w.k < 8) && (okE w && (ZL w && okC w))
def okS (w:WD):Bool:=decide (w.n.length≤1000000∧w.l.length≤1000000)
def pt (b:List Int) (n w:Int):List Int:=b ++ MR [] n w
def lkP (b:List Int) (y:E):List Int:=pt (pt (pt (pt (pt b (ri y 0) 1) (ri y 1) 1) (ri y 2) 4) (ri y 3) 4) (if rb y 4=true then 1 else 0) 1
def lk5 (b:List Int) (n p w s:Int) (mk:Bool):List Int:=pt (pt (pt (pt (pt b n 1) p 1) w 4) s 4) (if mk=true then 1 else 0) 1
def hdP (w:WD):List Int:=pt (pt (pt (pt (pt (pt (pt (MR [] w.k 1) w.e 4) w.r 1) w.ck 1) w.ca 1) w.cb 1) w.cs 4) w.n.length 1
def ndP (b:List Int) (n:List Int):List Int:=n.foldl (fun b x=>pt b x 1) b
def lkA (b:List Int) (l:List E):List Int:=l.foldl lkP b
def WU (w:WD):List Int:=lkA (pt (ndP (hdP w) w.n) w.l.length 2) w.l
def aas (w:WD):List Int:=if rG w=true then WU w else []
structure XO where
 i:Int
 b:List Int
structure Ws where
 w_c:Int→Int→Int→Int→Bool
 dv:Int→Int→Bool
 qd:Bool→Int
 QI:WD→Bool
 Qh:WD→Bool
 QE:WD→Bool
 Qk:WD→Bool
 Vn:WD→Bool
 abz:Int→Int→List Int
 abw:List Int→Int→Int→List Int
 abD:List Int→Int→Int→Int→Int→Bool→List Int
 abd:WD→List Int
 abB:List Int→Bool
 aaW:List Int→Bool
def Ws.U:Ws:=⟨HT,pj,er,okE,ZL,okC,rG,okS,fun n w=>MR [] n w,pt,lk5,aas,fun b=>decide (b.length≤200000),fun b=>decide (b.length≤100000)⟩
def rE (F:Ws):aY:=fun xs h=>match xs,h with
 |[.agg [.val (.int .i64 c_k),.val (.int .i64 c_a),.val (.int .i64 c_b),.val (.int .i64 c_s)]],[]=>some ⟨True,.sa (I (F.qd (F.w_c c_k c_a c_b c_s))),[],[Any]⟩
 |_,_=>none
theorem Jb (c_k:Int) (c_a:Int) (c_b:Int) (c_s:Int):aV [(32,gf ViR.Vs.U)] Tryz.f130 [.agg [.val (.int .i64 c_k),.val (.int .i64 c_a),.val (.int .i64 c_b),.val (.int .i64 c_s)]] [] ⟨True,.sa (I (Ws.U.qd (Ws.U.w_c c_k c_a c_b c_s))),[],[Any]⟩:=by
 intro b gv
 have hfs:=(af.cons cN af.nil rfl)
 generalize hF:Ws.U=F at hfs ⊢
 generalize hG0:ViR.Vs.U=G0 at hfs ⊢
 generalize hG1:ViC.Vc.U=G1 at hfs ⊢
 generalize hG2:OctR.Fs.U=G2 at hfs ⊢
 generalize hA:Ar.U=A
 generalize hL:Lp _ _ _=L
 obtain⟨Z,zq⟩:=aQ
 refine aD (ae hL) zq rfl ?_
 repeat' (first|(refine aw zq ?_;try dsimp only)|refine ax zq ?_ (ae hL)|refine az zq ?_|refine ay ?_|refine aq ?_|refine ar ?_|refine av ?_|refine au rfl ?_|refine ai rfl ?_|refine aj rfl ?_|(refine Cd.mk ?_;cbv)|(refine aE.mk ?_;cbv)|(refine aM.mk ?_;cbv)|exact trivial|refine And.intro ?_ ?_|refine bu fun _=>?_|refine br fun _=>?_)
 all_goals
  clear hL zq Z
  try clear hfs
  subst hA hF hG0 hG1 hG2
  simp only [Ws.U,ViR.Vs.U,Ar.U] at *
  try (grind [al,er,HT])
theorem uV:aA Tryz.prog 130 (rE Ws.U):=by
 refine aG (af.cons cN af.nil rfl) Tryz.func130 rfl rfl fun xs h p hp=>?_
 unfold rE at hp
 split at hp
 ·cases hp
  exact⟨aB rfl,fun _ _=>Jb _ _ _ _⟩
 ·cases hp
def oN (F:Ws):aY:=fun xs h=>match xs,h with
 |[.agg [.val (.int .i64 c_e),.val (.int .i64 c_r)]],[]=>some ⟨True,.sa (I (F.qd (F.dv c_e c_r))),[],[Any]⟩
 |_,_=>none
theorem ER (c_e:Int) (c_r:Int):aV [(32,gf ViR.Vs.U)] Tryz.f128 [.agg [.val (.int .i64 c_e),.val (.int .i64 c_r)]] [] ⟨True,.sa (I (Ws.U.qd (Ws.U.dv c_e c_r))),[],[Any]⟩:=by
 intro b gv
 have hfs:=(af.cons cN af.nil rfl)
 generalize hF:Ws.U=F at hfs ⊢
 generalize hG0:ViR.Vs.U=G0 at hfs ⊢
 generalize hG1:ViC.Vc.U=G1 at hfs ⊢
 generalize hG2:OctR.Fs.U=G2 at hfs ⊢
 generalize hA:Ar.U=A
 generalize hL:Lp _ _ _=L
 obtain⟨Z,zq⟩:=aQ
 refine aD (ae hL) zq rfl ?_
 repeat' (first|(refine aw zq ?_;try dsimp only)|refine ax zq ?_ (ae hL)|refine az zq ?_|refine ay ?_|refine aq ?_|refine ar ?_|refine av ?_|refine au rfl ?_|refine ai rfl ?_|refine aj rfl ?_|(refine Cd.mk ?_;cbv)|(refine aE.mk ?_;cbv)|(refine aM.mk ?_;cbv)|exact trivial|refine And.intro ?_ ?_|refine bu fun _=>?_|refine br fun _=>?_)
 all_goals
  clear hL zq Z
  try clear hfs
  subst hA hF hG0 hG1 hG2
  simp only [Ws.U,ViR.Vs.U,Ar.U] at *
  try (grind [al,er,pj])
theorem tU:aA Tryz.prog 128 (oN Ws.U):=by
 refine aG (af.cons cN af.nil rfl) Tryz.func128 rfl rfl fun xs h p hp=>?_
 unfold oN at hp
 split at hp
 ·cases hp
  exact⟨aB rfl,fun _ _=>ER _ _⟩
 ·cases hp
def BO (F:Ws):aY:=fun xs h=>match xs,h with
 |[.agg [.val (.int .i64 w_k),.val (.int .i64 dv),.val (.int .i64 w_r),.sl none (.ints .i64 w_n),.sl none (.ah (.int .i64 (.int .i64 (.int .i64 (.int .i64 (.bool .nil))))) w_l),.val (.int .i64 w_ck),.val (.int .i64 w_ca),.val (.int .i64 w_cb),.val (.int .i64 w_cs)]],[]=>some ⟨True,.sa (I (F.qd (F.QI ⟨w_k,dv,w_r,w_n,w_l,w_ck,w_ca,w_cb,w_cs⟩))),[],[Any]⟩
 |_,_=>none
theorem Ua (w_k:Int) (dv:Int) (w_r:Int) (w_n:List Int) (w_l:List E) (w_ck:Int) (w_ca:Int) (w_cb:Int) (w_cs:Int):aV [(128,oN Ws.U)] Tryz.f100 [.agg [.val (.int .i64 w_k),.val (.int .i64 dv),.val (.int .i64 w_r),.sl none (.ints .i64 w_n),.sl none (.ah (.int .i64 (.int .i64 (.int .i64 (.int .i64 (.bool .nil))))) w_l),.val (.int .i64 w_ck),.val (.int .i64 w_ca),.val (.int .i64 w_cb),.val (.int .i64 w_cs)]] [] ⟨True,.sa (I (Ws.U.qd (Ws.U.QI ⟨w_k,dv,w_r,w_n,w_l,w_ck,w_ca,w_cb,w_cs⟩))),[],[Any]⟩:=by
 intro b gv
 have hfs:=(af.cons tU af.nil rfl)
 generalize hF:Ws.U=F at hfs ⊢
 generalize hG0:ViR.Vs.U=G0 at hfs ⊢
 generalize hG1:ViC.Vc.U=G1 at hfs ⊢
 generalize hG2:OctR.Fs.U=G2 at hfs ⊢
 generalize hA:Ar.U=A
 generalize hL:Lp _ _ _=L
 obtain⟨Z,zq⟩:=aQ
 refine aD (ae hL) zq rfl ?_
 repeat' (first|(refine aw zq ?_;try dsimp only)|refine ax zq ?_ (ae hL)|refine az zq ?_|refine ay ?_|refine aq ?_|refine ar ?_|refine av ?_|refine au rfl ?_|refine ai rfl ?_|refine aj rfl ?_|(refine Cd.mk ?_;cbv)|(refine aE.mk ?_;cbv)|(refine aM.mk ?_;cbv)|exact trivial|refine And.intro ?_ ?_|refine bu fun _=>?_|refine br fun _=>?_)
 all_goals
  clear hL zq Z
  try clear hfs
  subst hA hF hG0 hG1 hG2
  simp only [Ws.U,Ar.U] at *
  try (grind [al,er,okE,nmd,pj])
theorem DH:aA Tryz.prog 100 (BO Ws.U):=by
 refine aG (af.cons tU af.nil rfl) Tryz.func100 rfl rfl fun xs h p hp=>?_
 unfold BO at hp
 split at hp
 ·cases hp
  exact⟨aB rfl,fun _ _=>Ua _ _ _ _ _ _ _ _ _⟩
 ·cases hp
def wa (F:Ws):aY:=fun xs h=>match xs,h with
 |[.agg [.val (.int .i64 w_k),.val (.int .i64 dv),.val (.int .i64 w_r),.sl none (.ints .i64 w_n),.sl none (.ah (.int .i64 (.int .i64 (.int .i64 (.int .i64 (.bool .nil))))) w_l),.val (.int .i64 w_ck),.val (.int .i64 w_ca),.val (.int .i64 w_cb),.val (.int .i64 w_cs)]],[]=>some ⟨F.Vn ⟨w_k,dv,w_r,w_n,w_l,w_ck,w_ca,w_cb,w_cs⟩=true,.sa (I (F.qd (F.Qh ⟨w_k,dv,w_r,w_n,w_l,w_ck,w_ca,w_cb,w_cs⟩))),[],[Any]⟩
 |_,_=>none
theorem NX (w_k:Int) (dv:Int) (w_r:Int) (w_n:List Int) (w_l:List E) (w_ck:Int) (w_ca:Int) (w_cb:Int) (w_cs:Int) (hC:Ws.U.Vn ⟨w_k,dv,w_r,w_n,w_l,w_ck,w_ca,w_cb,w_cs⟩=true):aV [(129,dD ViC.Vc.U)] Tryz.f101 [.agg [.val (.int .i64 w_k),.val (.int .i64 dv),.val (.int .i64 w_r),.sl none (.ints .i64 w_n),.sl none (.ah (.int .i64 (.int .i64 (.int .i64 (.int .i64 (.bool .nil))))) w_l),.val (.int .i64 w_ck),.val (.int .i64 w_ca),.val (.int .i64 w_cb),.val (.int .i64 w_cs)]] [] ⟨Ws.U.Vn ⟨w_k,dv,w_r,w_n,w_l,w_ck,w_ca,w_cb,w_cs⟩=true,.sa (I (Ws.U.qd (Ws.U.Qh ⟨w_k,dv,w_r,w_n,w_l,w_ck,w_ca,w_cb,w_cs⟩))),[],[Any]⟩:=by
 intro b gv
 have hfs:=(af.cons bM af.nil rfl)
 generalize hF:Ws.U=F at hC hfs ⊢
 generalize hG0:ViR.Vs.U=G0 at hC hfs ⊢
 generalize hG1:ViC.Vc.U=G1 at hC hfs ⊢
 generalize hG2:OctR.Fs.U=G2 at hC hfs ⊢
 generalize hA:Ar.U=A
 generalize hL:Lp _ _ _=L
 obtain⟨Z,zq⟩:=aQ
 refine aD (ae hL) zq rfl ?_
 repeat' (first|(refine aw zq ?_;try dsimp only)|refine ax zq ?_ (ae hL)|refine az zq ?_|refine ay ?_|refine aq ?_|refine ar ?_|refine av ?_|refine au rfl ?_|refine ai rfl ?_|refine aj rfl ?_|(refine Cd.mk ?_;cbv)|(refine aE.mk ?_;cbv)|(refine aM.mk ?_;cbv)|exact trivial|refine And.intro ?_ ?_|refine bu fun _=>?_|refine br fun _=>?_)
 all_goals
  clear hL zq Z
  try clear hfs
  subst hA hF hG0 hG1 hG2
  simp only [Ws.U,ViC.Vc.U,Ar.U] at *
  try (grind [al,er,ZL,full,okS,ob])
theorem yA:aA Tryz.prog 101 (wa Ws.U):=by
 refine aG (af.cons bM af.nil rfl) Tryz.func101 rfl rfl fun xs h p hp=>?_
 unfold wa at hp
 split at hp
 ·cases hp
  exact⟨aB rfl,fun hC _=>NX _ _ _ _ _ _ _ _ _ hC⟩
 ·cases hp
def BZ (F:Ws):aY:=fun xs h=>match xs,h with
 |[.agg [.val (.int .i64 w_k),.val (.int .i64 dv),.val (.int .i64 w_r),.sl none (.ints .i64 w_n),.sl none (.ah (.int .i64 (.int .i64 (.int .i64 (.int .i64 (.bool .nil))))) w_l),.val (.int .i64 w_ck),.val (.int .i64 w_ca),.val (.int .i64 w_cb),.val (.int .i64 w_cs)]],[]=>some ⟨True,.sa (I (F.qd (F.QE ⟨w_k,dv,w_r,w_n,w_l,w_ck,w_ca,w_cb,w_cs⟩))),[],[Any]⟩
 |_,_=>none
theorem Rq (w_k:Int) (dv:Int) (w_r:Int) (w_n:List Int) (w_l:List E) (w_ck:Int) (w_ca:Int) (w_cb:Int) (w_cs:Int):aV [(130,rE Ws.U)] Tryz.f102 [.agg [.val (.int .i64 w_k),.val (.int .i64 dv),.val (.int .i64 w_r),.sl none (.ints .i64 w_n),.sl none (.ah (.int .i64 (.int .i64 (.int .i64 (.int .i64 (.bool .nil))))) w_l),.val (.int .i64 w_ck),.val (.int .i64 w_ca),.val (.int .i64 w_cb),.val (.int .i64 w_cs)]] [] ⟨True,.sa (I (Ws.U.qd (Ws.U.QE ⟨w_k,dv,w_r,w_n,w_l,w_ck,w_ca,w_cb,w_cs⟩))),[],[Any]⟩:=by
 intro b gv
 have hfs:=(af.cons uV af.nil rfl)
 generalize hF:Ws.U=F at hfs ⊢
 generalize hG0:ViR.Vs.U=G0 at hfs ⊢
 generalize hG1:ViC.Vc.U=G1 at hfs ⊢
 generalize hG2:OctR.Fs.U=G2 at hfs ⊢
 generalize hA:Ar.U=A
 generalize hL:Lp _ _ _=L
 obtain⟨Z,zq⟩:=aQ
 refine aD (ae hL) zq rfl ?_
 repeat' (first|(refine aw zq ?_;try dsimp only)|refine ax zq ?_ (ae hL)|refine az zq ?_|refine ay ?_|refine aq ?_|refine ar ?_|refine av ?_|refine au rfl ?_|refine ai rfl ?_|refine aj rfl ?_|(refine Cd.mk ?_;cbv)|(refine aE.mk ?_;cbv)|(refine aM.mk ?_;cbv)|exact trivial|refine And.intro ?_ ?_|refine bu fun _=>?_|refine br fun _=>?_)
 all_goals
  clear hL zq Z
  try clear hfs
  subst hA hF hG0 hG1 hG2
  simp only [Ws.U,Ar.U] at *
  try (grind [al,er,okC])
theorem Cr:aA Tryz.prog 102 (BZ Ws.U):=by
 refine aG (af.cons uV af.nil rfl) Tryz.func102 rfl rfl fun xs h p hp=>?_
 unfold BZ at hp
 split at hp
 ·cases hp
  exact⟨aB rfl,fun _ _=>Rq _ _ _ _ _ _ _ _ _⟩
 ·cases hp
def nr (F:Ws):aY:=fun xs h=>match xs,h with
 |[.agg [.val (.int .i64 w_k),.val (.int .i64 dv),.val (.int .i64 w_r),.sl none (.ints .i64 w_n),.sl none (.ah (.int .i64 (.int .i64 (.int .i64 (.int .i64 (.bool .nil))))) w_l),.val (.int .i64 w_ck),.val (.int .i64 w_ca),.val (.int .i64 w_cb),.val (.int .i64 w_cs)]],[]=>some ⟨F.Vn ⟨w_k,dv,w_r,w_n,w_l,w_ck,w_ca,w_cb,w_cs⟩=true,.sa (I (F.qd (F.Qk ⟨w_k,dv,w_r,w_n,w_l,w_ck,w_ca,w_cb,w_cs⟩))),[],[Any]⟩
 |_,_=>none
theorem Hs (w_k:Int) (dv:Int) (w_r:Int) (w_n:List Int) (w_l:List E) (w_ck:Int) (w_ca:Int) (w_cb:Int) (w_cs:Int) (hC:Ws.U.Vn ⟨w_k,dv,w_r,w_n,w_l,w_ck,w_ca,w_cb,w_cs⟩=true):aV [(100,BO Ws.U),(101,wa Ws.U),(102,BZ Ws.U)] Tryz.f61 [.agg [.val (.int .i64 w_k),.val (.int .i64 dv),.val (.int .i64 w_r),.sl none (.ints .i64 w_n),.sl none (.ah (.int .i64 (.int .i64 (.int .i64 (.int .i64 (.bool .nil))))) w_l),.val (.int .i64 w_ck),.val (.int .i64 w_ca),.val (.int .i64 w_cb),.val (.int .i64 w_cs)]] [] ⟨Ws.U.Vn ⟨w_k,dv,w_r,w_n,w_l,w_ck,w_ca,w_cb,w_cs⟩=true,.sa (I (Ws.U.qd (Ws.U.Qk ⟨w_k,dv,w_r,w_n,w_l,w_ck,w_ca,w_cb,w_cs⟩))),[],[Any]⟩:=by
 intro b gv
 have hfs:=(af.cons DH (af.cons yA (af.cons Cr af.nil rfl) rfl) rfl)
 generalize hF:Ws.U=F at hC hfs ⊢
 generalize hG0:ViR.Vs.U=G0 at hC hfs ⊢
 generalize hG1:ViC.Vc.U=G1 at hC hfs ⊢
 generalize hG2:OctR.Fs.U=G2 at hC hfs ⊢
 generalize hA:Ar.U=A
 generalize hL:Lp _ _ _=L
 obtain⟨Z,zq⟩:=aQ
 refine aD (ae hL) zq rfl ?_
 repeat' (first|(refine aw zq ?_;try dsimp only)|refine ax zq ?_ (ae hL)|refine az zq ?_|refine ay ?_|refine aq ?_|refine ar ?_|refine av ?_|refine au rfl ?_|refine ai rfl ?_|refine aj rfl ?_|(refine Cd.mk ?_;cbv)|(refine aE.mk ?_;cbv)|(refine aM.mk ?_;cbv)|exact trivial|refine And.intro ?_ ?_|refine bu fun _=>?_|refine br fun _=>?_)
 all_goals
  clear hL zq Z
  try clear hfs
  subst hA hF hG0 hG1 hG2
  simp only [Ws.U,Ar.U] at *
  try (grind [al,er,rG])
theorem pg:aA Tryz.prog 61 (nr Ws.U):=by
 refine aG (af.cons DH (af.cons yA (af.cons Cr af.nil rfl) rfl) rfl) Tryz.func61 rfl rfl fun xs h p hp=>?_
 unfold nr at hp
 split at hp
 ·cases hp
  exact⟨aB rfl,fun hC _=>Hs _ _ _ _ _ _ _ _ _ hC⟩
 ·cases hp
end Go.Proofs.YtelhldgdnlppfaaGreat.WoR
