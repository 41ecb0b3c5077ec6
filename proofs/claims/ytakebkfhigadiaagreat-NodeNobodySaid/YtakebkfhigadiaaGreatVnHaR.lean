
/-
  ends that open sessions,and takers,je the reckoner. No condition.
-/
import Derived.Test.YtakebkfhigadiaaGreatVnRyOp
import Derived.Test.YtakebkfhigadiaaGreatVnW23
set_option maxHeartbeats 2000000
set_option maxRecDepth 100000
namespace Go.Proofs.YtakebkfhigadiaaGreat.HaR
open Go Ry
def ca (n:Int):Bool:=decide (1≤n) && decide (n≤2147483647)
def rT (l c p:Int) (o:Bool):Bool:=c == l && c != 0 && p == 0 && !o
def gi (l c p:Int) (o:Bool):Bool:=c == 0 && decide (l < p) && decide (p≤2147483647) && !o
def rG (c p:Int) (o:Bool):Bool:=c == 0 && p == 0 && o
def pf (l c p:Int) (o:Bool):Bool:=decide (0≤l) && decide (l≤2147483647) && (rT l c p o || gi l c p o || rG c p o)
def LJ (l c p:Int) (o:Bool):Int:=if pf l c p o then 0 else 1
structure nz where
 l:Int
 c:Int
 p:Int
 o:Bool
 e:Int
structure lp where
 l:Int
 c:Int
 p:Int
 o:Bool
 a:Bool
 b:Bool
 e:Int
def wZ (n:Int):Bool:=decide (0≤n) && decide (n≤2147483647)
def uI (last limit:Int):nz:=if limit≤last then ⟨last,0,0,true,0⟩ else ⟨last,0,last+1,false,0⟩
def vY (last limit:Int):nz:=if 0≤last∧last≤2147483647∧ca limit=true then uI last limit else ⟨0,0,0,false,1⟩
def ym (l c p:Int) (o:Bool) (limit:Int):nz:=if 0 < c then uI l limit else ⟨l,c,p,o,0⟩
def xN (l c p:Int) (o:Bool) (limit:Int):nz:=if pf l c p o=true∧ca limit=true then ym l c p o limit else ⟨0,0,0,false,1⟩
def UZ (l c p:Int) (o:Bool) (q:Int):lp:=if 0 < p∧p=q then ⟨q,q,0,false,true,false,0⟩ else ⟨l,c,p,o,false,false,0⟩
def TD (l c p:Int) (o:Bool) (q:Int):lp:=if pf l c p o=true then UZ l c p o q else ⟨0,0,0,false,false,false,1⟩
def Us (l c p:Int) (o:Bool) (q limit:Int):lp :=
 if o=true∨q < 1∨limit < q then ⟨l,c,p,o,false,false,0⟩
 else if 0 < c then (if c < q then ⟨l,0,q,false,true,true,0⟩ else ⟨l,c,p,o,q == c,false,0⟩)
 else if p < q then ⟨l,c,q,o,true,false,0⟩ else ⟨l,c,p,o,q == p,false,0⟩
def Uk (l c p:Int) (o:Bool) (q limit:Int):lp:=if pf l c p o=true∧ca limit=true then Us l c p o q limit else ⟨0,0,0,false,false,false,1⟩
structure RR where
 n:Int
 w:Bool
 a:Bool
 k:Int
 e:Int
def Uc (n:Int) (q:Int):RR:=if q=n∧q < 2147483647 then ⟨n+1,true,true,0,0⟩ else ⟨n,true,false,0,0⟩
def Sx (n:Int) (q:Int):RR:=if wZ n=true then Uc n q else ⟨0,false,false,0,1⟩
def Xo (n:Int) (w:Bool):RR:=if w=true∧wZ n=true then ⟨n,false,true,n,0⟩ else ⟨n,w,false,0,0⟩
def MK (n:Int):Int:=if wZ n=true then 0 else 1
structure Fs where
 Ye:Int→Bool
 AQ:Int→Bool
 qy:Int→Int→Int→Bool→Bool
 rq:Int→Int→Int→Bool→Bool
 EG:Int→Int→Bool→Bool
 Og:Int→Int→Int→Bool→Bool
 NU:Int→Int→Int→Bool→Int
 We:Int→Int→nz
 cV:Int→Int→nz
 SS:Int→Int→Int→Bool→Int→nz
 ei:Int→Int→Int→Bool→Int→nz
 VV:Int→Int→Int→Bool→Int→lp
 YC:Int→Int→Int→Bool→Int→lp
 Xl:Int→Int→Int→Bool→Int→Int→lp
 Ya:Int→Int→Int→Bool→Int→Int→lp
 Xz:Int→Int→RR
 XY:Int→Int→RR
 wx:Int→Bool→RR
 Nx:Int→Int
def Fs.U:Fs:=⟨wZ,ca,rT,gi,rG,pf,LJ,uI,vY,ym,xN,UZ,TD,Us,Uk,Uc,Sx,Xo,MK⟩
def mb (F:Fs):aW:=fun xs h=>match xs,h with
 |[.one (.val (.int .i64 n))],[]=>some ⟨True,.sa (B (F.AQ n)),[],[Any]⟩
 |_,_=>none
theorem HL (n:Int):aR [] Tryz.f123 [.one (.val (.int .i64 n))] [] ⟨True,.sa (B (Fs.U.AQ n)),[],[Any]⟩:=by
 intro b gv
 generalize hF:Fs.U=F
 generalize hA:Ar.U=A
 generalize hL:Lp _ _ _=L
 obtain⟨Z,zq⟩:=aH
 refine aA (aa hL) zq rfl ?_
 repeat' (first|(refine ay zq ?_;try dsimp only)|refine ax zq ?_ (aa hL)|refine az zq ?_|refine aw ?_|refine aq ?_|refine au ?_|refine ar ?_|refine al rfl ?_|refine ai rfl ?_|refine aj rfl ?_|(refine Cd.mk ?_;cbv)|(refine aF.mk ?_;cbv)|(refine aK.mk ?_;cbv)|exact trivial|refine And.intro ?_ ?_|refine aZ fun _=>?_|refine ba fun _=>?_)
 all_goals (clear hL zq Z;subst hF hA;simp only [Fs.U,Ar.U] at * <;> grind [ah,aY,ew,wr,ca])
theorem ry:aC Tryz.prog 123 (mb Fs.U):=by
 refine aD af.nil Tryz.func123 rfl rfl fun xs h p hp=>?_
 unfold mb at hp
 split at hp
 ·cases hp
  exact⟨av rfl,fun _ _=>HL _⟩
 ·cases hp
def nT (F:Fs):aW:=fun xs h=>match xs,h with
 |[.agg [.val (.int .i64 h_l),.val (.int .i64 h_c),.val (.int .i64 h_p),.val (.bool h_o)]],[]=>some ⟨True,.sa (B (F.qy h_l h_c h_p h_o)),[],[Any]⟩
 |_,_=>none
theorem MO (h_l:Int) (h_c:Int) (h_p:Int) (h_o:Bool):aR [] Tryz.f175 [.agg [.val (.int .i64 h_l),.val (.int .i64 h_c),.val (.int .i64 h_p),.val (.bool h_o)]] [] ⟨True,.sa (B (Fs.U.qy h_l h_c h_p h_o)),[],[Any]⟩:=by
 intro b gv
 generalize hF:Fs.U=F
 generalize hA:Ar.U=A
 generalize hL:Lp _ _ _=L
 obtain⟨Z,zq⟩:=aH
 refine aA (aa hL) zq rfl ?_
 repeat' (first|(refine ay zq ?_;try dsimp only)|refine ax zq ?_ (aa hL)|refine az zq ?_|refine aw ?_|refine aq ?_|refine au ?_|refine ar ?_|refine al rfl ?_|refine ai rfl ?_|refine aj rfl ?_|(refine Cd.mk ?_;cbv)|(refine aF.mk ?_;cbv)|(refine aK.mk ?_;cbv)|exact trivial|refine And.intro ?_ ?_|refine aZ fun _=>?_|refine ba fun _=>?_)
 all_goals (clear hL zq Z;subst hF hA;simp only [Fs.U,Ar.U] at * <;> grind [ah,aY,ew,wr,rT])
theorem wJ:aC Tryz.prog 175 (nT Fs.U):=by
 refine aD af.nil Tryz.func175 rfl rfl fun xs h p hp=>?_
 unfold nT at hp
 split at hp
 ·cases hp
  exact⟨av rfl,fun _ _=>MO _ _ _ _⟩
 ·cases hp
def jv (F:Fs):aW:=fun xs h=>match xs,h with
 |[.agg [.val (.int .i64 h_l),.val (.int .i64 h_c),.val (.int .i64 h_p),.val (.bool h_o)]],[]=>some ⟨True,.sa (B (F.rq h_l h_c h_p h_o)),[],[Any]⟩
 |_,_=>none
theorem CT (h_l:Int) (h_c:Int) (h_p:Int) (h_o:Bool):aR [] Tryz.f176 [.agg [.val (.int .i64 h_l),.val (.int .i64 h_c),.val (.int .i64 h_p),.val (.bool h_o)]] [] ⟨True,.sa (B (Fs.U.rq h_l h_c h_p h_o)),[],[Any]⟩:=by
 intro b gv
 generalize hF:Fs.U=F
 generalize hA:Ar.U=A
 generalize hL:Lp _ _ _=L
 obtain⟨Z,zq⟩:=aH
 refine aA (aa hL) zq rfl ?_
 repeat' (first|(refine ay zq ?_;try dsimp only)|refine ax zq ?_ (aa hL)|refine az zq ?_|refine aw ?_|refine aq ?_|refine au ?_|refine ar ?_|refine al rfl ?_|refine ai rfl ?_|refine aj rfl ?_|(refine Cd.mk ?_;cbv)|(refine aF.mk ?_;cbv)|(refine aK.mk ?_;cbv)|exact trivial|refine And.intro ?_ ?_|refine aZ fun _=>?_|refine ba fun _=>?_)
 all_goals (clear hL zq Z;subst hF hA;simp only [Fs.U,Ar.U] at * <;> grind [ah,aY,ew,wr,gi])
theorem qc:aC Tryz.prog 176 (jv Fs.U):=by
 refine aD af.nil Tryz.func176 rfl rfl fun xs h p hp=>?_
 unfold jv at hp
 split at hp
 ·cases hp
  exact⟨av rfl,fun _ _=>CT _ _ _ _⟩
 ·cases hp
def tj (F:Fs):aW:=fun xs h=>match xs,h with
 |[.agg [.val (.int .i64 _),.val (.int .i64 h_c),.val (.int .i64 h_p),.val (.bool h_o)]],[]=>some ⟨True,.sa (B (F.EG h_c h_p h_o)),[],[Any]⟩
 |_,_=>none
theorem PD (h_l:Int) (h_c:Int) (h_p:Int) (h_o:Bool):aR [] Tryz.f177 [.agg [.val (.int .i64 h_l),.val (.int .i64 h_c),.val (.int .i64 h_p),.val (.bool h_o)]] [] ⟨True,.sa (B (Fs.U.EG h_c h_p h_o)),[],[Any]⟩:=by
 intro b gv
 generalize hF:Fs.U=F
 generalize hA:Ar.U=A
 generalize hL:Lp _ _ _=L
 obtain⟨Z,zq⟩:=aH
 refine aA (aa hL) zq rfl ?_
 repeat' (first|(refine ay zq ?_;try dsimp only)|refine ax zq ?_ (aa hL)|refine az zq ?_|refine aw ?_|refine aq ?_|refine au ?_|refine ar ?_|refine al rfl ?_|refine ai rfl ?_|refine aj rfl ?_|(refine Cd.mk ?_;cbv)|(refine aF.mk ?_;cbv)|(refine aK.mk ?_;cbv)|exact trivial|refine And.intro ?_ ?_|refine aZ fun _=>?_|refine ba fun _=>?_)
 all_goals (clear hL zq Z;subst hF hA;simp only [Fs.U,Ar.U] at * <;> grind [ah,aY,ew,wr,rG])
theorem BV:aC Tryz.prog 177 (tj Fs.U):=by
 refine aD af.nil Tryz.func177 rfl rfl fun xs h p hp=>?_
 unfold tj at hp
 split at hp
 ·cases hp
  exact⟨av rfl,fun _ _=>PD _ _ _ _⟩
 ·cases hp
def mg (F:Fs):aW:=fun xs h=>match xs,h with
 |[.agg [.val (.int .i64 h_l),.val (.int .i64 h_c),.val (.int .i64 h_p),.val (.bool h_o)]],[]=>some ⟨True,.sa (I (F.NU h_l h_c h_p h_o)),[],[Any]⟩
 |_,_=>none
theorem FQ (h_l:Int) (h_c:Int) (h_p:Int) (h_o:Bool):aR [(175,nT Fs.U),(176,jv Fs.U),(177,tj Fs.U)] Tryz.f124 [.agg [.val (.int .i64 h_l),.val (.int .i64 h_c),.val (.int .i64 h_p),.val (.bool h_o)]] [] ⟨True,.sa (I (Fs.U.NU h_l h_c h_p h_o)),[],[Any]⟩:=by
 intro b gv
 generalize hF:Fs.U=F
 generalize hA:Ar.U=A
 generalize hL:Lp _ _ _=L
 obtain⟨Z,zq⟩:=aH
 refine aA (aa hL) zq rfl ?_
 repeat' (first|(refine ay zq ?_;try dsimp only)|refine ax zq ?_ (aa hL)|refine az zq ?_|refine aw ?_|refine aq ?_|refine au ?_|refine ar ?_|refine al rfl ?_|refine ai rfl ?_|refine aj rfl ?_|(refine Cd.mk ?_;cbv)|(refine aF.mk ?_;cbv)|(refine aK.mk ?_;cbv)|exact trivial|refine And.intro ?_ ?_|refine aZ fun _=>?_|refine ba fun _=>?_)
 all_goals (clear hL zq Z;subst hF hA;simp only [Fs.U,Ar.U] at * <;> grind [ah,aY,ew,wr,LJ,pf])
theorem mP:aC Tryz.prog 124 (mg Fs.U):=by
 refine aD (af.cons wJ (af.cons qc (af.cons BV af.nil rfl) rfl) rfl) Tryz.func124 rfl rfl fun xs h p hp=>?_
 unfold mg at hp
 split at hp
 ·cases hp
  exact⟨av rfl,fun _ _=>FQ _ _ _ _⟩
 ·cases hp
def uc (F:Fs):aW:=fun xs h=>match xs,h with
 |[.one (.val (.int .i64 last)),.one (.val (.int .i64 limit))],[]=>some ⟨True,.bB [.agg [.val (.int .i64 (F.cV last limit).l),.val (.int .i64 (F.cV last limit).c),.val (.int .i64 (F.cV last limit).p),.val (.bool (F.cV last limit).o)],I (F.cV last limit).e],[],[Any,Any]⟩
 |_,_=>none
theorem PE (last:Int) (limit:Int):aR [(123,mb Fs.U)] Tryz.f77 [.one (.val (.int .i64 last)),.one (.val (.int .i64 limit))] [] ⟨True,.bB [.agg [.val (.int .i64 (Fs.U.cV last limit).l),.val (.int .i64 (Fs.U.cV last limit).c),.val (.int .i64 (Fs.U.cV last limit).p),.val (.bool (Fs.U.cV last limit).o)],I (Fs.U.cV last limit).e],[],[Any,Any]⟩:=by
 intro b gv
 generalize hF:Fs.U=F
 generalize hA:Ar.U=A
 generalize hL:Lp _ _ _=L
 obtain⟨Z,zq⟩:=aH
 refine aA (aa hL) zq rfl ?_
 repeat' (first|(refine ay zq ?_;try dsimp only)|refine ax zq ?_ (aa hL)|refine az zq ?_|refine aw ?_|refine aq ?_|refine au ?_|refine ar ?_|refine al rfl ?_|refine ai rfl ?_|refine aj rfl ?_|(refine Cd.mk ?_;cbv)|(refine aF.mk ?_;cbv)|(refine aK.mk ?_;cbv)|exact trivial|refine And.intro ?_ ?_|refine aZ fun _=>?_|refine ba fun _=>?_)
 all_goals (clear hL zq Z;subst hF hA;simp only [Fs.U,Ar.U] at * <;> grind [ah,aY,ew,wr,vY,uI,ca])
theorem uj:aC Tryz.prog 77 (uc Fs.U):=by
 refine aD (af.cons ry af.nil rfl) Tryz.func77 rfl rfl fun xs h p hp=>?_
 unfold uc at hp
 split at hp
 ·cases hp
  exact⟨av rfl,fun _ _=>PE _ _⟩
 ·cases hp
def ql (F:Fs):aW:=fun xs h=>match xs,h with
 |[.agg [.val (.int .i64 h_l),.val (.int .i64 h_c),.val (.int .i64 h_p),.val (.bool h_o)],.one (.val (.int .i64 limit))],[]=>some ⟨True,.bB [.agg [.val (.int .i64 (F.ei h_l h_c h_p h_o limit).l),.val (.int .i64 (F.ei h_l h_c h_p h_o limit).c),.val (.int .i64 (F.ei h_l h_c h_p h_o limit).p),.val (.bool (F.ei h_l h_c h_p h_o limit).o)],I (F.ei h_l h_c h_p h_o limit).e],[],[Any,Any]⟩
 |_,_=>none
theorem Ix (h_l:Int) (h_c:Int) (h_p:Int) (h_o:Bool) (limit:Int):aR [(124,mg Fs.U),(123,mb Fs.U),(77,uc Fs.U),(175,nT Fs.U),(177,tj Fs.U),(176,jv Fs.U)] Tryz.f128 [.agg [.val (.int .i64 h_l),.val (.int .i64 h_c),.val (.int .i64 h_p),.val (.bool h_o)],.one (.val (.int .i64 limit))] [] ⟨True,.bB [.agg [.val (.int .i64 (Fs.U.ei h_l h_c h_p h_o limit).l),.val (.int .i64 (Fs.U.ei h_l h_c h_p h_o limit).c),.val (.int .i64 (Fs.U.ei h_l h_c h_p h_o limit).p),.val (.bool (Fs.U.ei h_l h_c h_p h_o limit).o)],I (Fs.U.ei h_l h_c h_p h_o limit).e],[],[Any,Any]⟩:=by
 intro b gv
 generalize hF:Fs.U=F
 generalize hA:Ar.U=A
 generalize hL:Lp _ _ _=L
 obtain⟨Z,zq⟩:=aH
 refine aA (aa hL) zq rfl ?_
 repeat' (first|(refine ay zq ?_;try dsimp only)|refine ax zq ?_ (aa hL)|refine az zq ?_|refine aw ?_|refine aq ?_|refine au ?_|refine ar ?_|refine al rfl ?_|refine ai rfl ?_|refine aj rfl ?_|(refine Cd.mk ?_;cbv)|(refine aF.mk ?_;cbv)|(refine aK.mk ?_;cbv)|exact trivial|refine And.intro ?_ ?_|refine aZ fun _=>?_|refine ba fun _=>?_)
 all_goals (clear hL zq Z;subst hF hA;simp only [Fs.U,Ar.U] at * <;> grind [ah,aY,ew,wr,xN,ym,vY,uI,LJ,pf,rT,gi,rG,ca])
theorem rQ:aC Tryz.prog 128 (ql Fs.U):=by
 refine aD (af.cons mP (af.cons ry (af.cons uj (af.cons wJ (af.cons BV (af.cons qc af.nil rfl) rfl) rfl) rfl) rfl) rfl) Tryz.func128 rfl rfl fun xs h p hp=>?_
 unfold ql at hp
 split at hp
 ·cases hp
  exact⟨av rfl,fun _ _=>Ix _ _ _ _ _⟩
 ·cases hp
def kY (F:Fs):aW:=fun xs h=>match xs,h with
 |[.agg [.val (.int .i64 t_n),.val (.bool _)]],[]=>some ⟨True,.sa (I (F.Nx t_n)),[],[Any]⟩
 |_,_=>none
theorem FM (t_n:Int) (t_w:Bool):aR [] Tryz.f126 [.agg [.val (.int .i64 t_n),.val (.bool t_w)]] [] ⟨True,.sa (I (Fs.U.Nx t_n)),[],[Any]⟩:=by
 intro b gv
 generalize hF:Fs.U=F
 generalize hA:Ar.U=A
 generalize hL:Lp _ _ _=L
 obtain⟨Z,zq⟩:=aH
 refine aA (aa hL) zq rfl ?_
 repeat' (first|(refine ay zq ?_;try dsimp only)|refine ax zq ?_ (aa hL)|refine az zq ?_|refine aw ?_|refine aq ?_|refine au ?_|refine ar ?_|refine al rfl ?_|refine ai rfl ?_|refine aj rfl ?_|(refine Cd.mk ?_;cbv)|(refine aF.mk ?_;cbv)|(refine aK.mk ?_;cbv)|exact trivial|refine And.intro ?_ ?_|refine aZ fun _=>?_|refine ba fun _=>?_)
 all_goals (clear hL zq Z;subst hF hA;simp only [Fs.U,Ar.U] at * <;> grind [ah,aY,ew,wr,MK,wZ])
theorem mw:aC Tryz.prog 126 (kY Fs.U):=by
 refine aD af.nil Tryz.func126 rfl rfl fun xs h p hp=>?_
 unfold kY at hp
 split at hp
 ·cases hp
  exact⟨av rfl,fun _ _=>FM _ _⟩
 ·cases hp
def zA (F:Fs):aW:=fun xs h=>match xs,h with
 |[.agg [.val (.int .i64 t_n),.val (.bool t_w)]],[]=>some ⟨True,.bB [.agg [.val (.int .i64 (F.wx t_n t_w).n),.val (.bool (F.wx t_n t_w).w)],I (F.wx t_n t_w).k,B (F.wx t_n t_w).a],[],[Any]⟩
 |_,_=>none
theorem Qv (t_n:Int) (t_w:Bool):aR [(126,kY Fs.U)] Tryz.f144 [.agg [.val (.int .i64 t_n),.val (.bool t_w)]] [] ⟨True,.bB [.agg [.val (.int .i64 (Fs.U.wx t_n t_w).n),.val (.bool (Fs.U.wx t_n t_w).w)],I (Fs.U.wx t_n t_w).k,B (Fs.U.wx t_n t_w).a],[],[Any]⟩:=by
 intro b gv
 generalize hF:Fs.U=F
 generalize hA:Ar.U=A
 generalize hL:Lp _ _ _=L
 obtain⟨Z,zq⟩:=aH
 refine aA (aa hL) zq rfl ?_
 repeat' (first|(refine ay zq ?_;try dsimp only)|refine ax zq ?_ (aa hL)|refine az zq ?_|refine aw ?_|refine aq ?_|refine au ?_|refine ar ?_|refine al rfl ?_|refine ai rfl ?_|refine aj rfl ?_|(refine Cd.mk ?_;cbv)|(refine aF.mk ?_;cbv)|(refine aK.mk ?_;cbv)|exact trivial|refine And.intro ?_ ?_|refine aZ fun _=>?_|refine ba fun _=>?_)
 all_goals (clear hL zq Z;subst hF hA;simp only [Fs.U,Ar.U] at * <;> grind [ah,aY,ew,wr,MK,Xo,wZ])
theorem Bc:aC Tryz.prog 144 (zA Fs.U):=by
 refine aD (af.cons mw af.nil rfl) Tryz.func144 rfl rfl fun xs h p hp=>?_
 unfold zA at hp
 split at hp
 ·cases hp
  exact⟨av rfl,fun _ _=>Qv _ _⟩
 ·cases hp
end Go.Proofs.YtakebkfhigadiaaGreat.HaR
