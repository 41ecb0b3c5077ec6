
/-
  lines je the reckoner. No condition.
-/
import Derived.Test.YtakebkfhigadiaaGreatVnHaR
import Derived.Test.YtakebkfhigadiaaGreatVnW40
import Derived.Test.YtakebkfhigadiaaGreatVnFrR
set_option maxHeartbeats 2000000
set_option maxRecDepth 100000
namespace Go.Proofs.YtakebkfhigadiaaGreat.LiR
open Go Ry HaR SeR SeS SeT SeL SeV
open FrR (eX Lt rF)
structure LN where
 l:Int
 c:Int
 p:Int
 o:Bool
 b:Int
 s:Int
 q:List E
 t:Int
 n:Int
 w:Bool
structure NW where
 f:List E
 g:List E
 d:Bool
 s:Int
structure LD where
 x:LN
 y:NW
 e:Int
theorem yA (x:LN):(⟨x.l,x.c,x.p,x.o,x.b,x.s,x.q,x.t,x.n,x.w⟩:LN)=x:=rfl
def zL:LN:=⟨0,0,0,false,0,0,[],0,0,false⟩
def zN:NW:=⟨[],[],false,0⟩
def Ut (x:LN):LN:=⟨x.l,x.c,x.p,x.o,x.b,x.s,nq x.q,x.t,x.n,x.w⟩
def xS (x:LN):LN:=⟨x.l,x.c,x.p,x.o,0,0,[],0,0,false⟩
def xE (x:LN):Bool:=kW x.q
def nc (x:LN):Bool:=x.c != 0
def Jc (x y:LN):Bool:=decide (x.l=y.l∧x.c=y.c∧x.p=y.p∧x.o=y.o) && decide (x.n=y.n∧x.w=y.w) && Ny x.b x.s x.q x.t y.b y.s y.q y.t
def iV (x:LN):Bool:=pf x.l x.c x.p x.o && bZ x.b x.s x.q x.t && wZ x.n && (nc x || Jc x (xS x))
def RY (x:LN):Int:=if iV x=true then 0 else 1
def ml (limit:Int):LD:=let h:=vY 0 limit;if h.e=0 then ⟨⟨h.l,h.c,h.p,h.o,0,0,[],0,0,false⟩,zN,0⟩ else ⟨zL,zN,h.e⟩
def qk (x:LN) (a:SD):LN:=⟨x.l,x.c,x.p,x.o,a.b,a.s,a.q,a.c,x.n,x.w⟩
def zH (x:LN) (p:List Int) (limit:Int):LD :=
 if iV x=true∧ca limit=true then
  if nc x=true then (if (AX x.b x.s x.q x.t p limit).e=0 then ⟨qk x (AX x.b x.s x.q x.t p limit),zN,0⟩ else ⟨zL,zN,(AX x.b x.s x.q x.t p limit).e⟩)
  else ⟨zL,zN,4⟩
 else ⟨zL,zN,1⟩
def Gj (x:LN) (k:Int):LN:=qk x (SZ x.b x.s x.q x.t k)
def Uj (x:LN) (r:lp):LN:=⟨r.l,r.c,r.p,r.o,x.b,x.s,x.q,x.t,x.n,x.w⟩
def Tr (x:LN) (p limit:Int):LD :=
 let r:=Uk x.l x.c x.p x.o p limit
 ⟨if r.b=true then xS (Uj x r) else Uj x r,⟨if r.a=true then [[.int 2,.int p,.int 0,.int 0,.ints []]] else [],[],r.b,0⟩,0⟩
def TL (x:LN) (p:Int):LD :=
 let r:=TD x.l x.c x.p x.o p
 if r.a=true then ⟨⟨r.l,r.c,r.p,r.o,0,0,[],0,0,false⟩,⟨[],[],false,p⟩,0⟩ else ⟨x,zN,0⟩
def Ta (x:LN) (q a:Int) (p:List Int):LD :=
 let g:=Sx x.n q
 ⟨Gj ⟨x.l,x.c,x.p,x.o,x.b,x.s,x.q,x.t,g.n,g.w⟩ a,⟨[],if g.a=true then [[.ints p]] else [],false,0⟩,0⟩
def Of (x:LN) (k s q a:Int) (p:List Int) (limit:Int):LD :=
 if iV x=true∧eX k s q a p=true∧ca limit=true then
  if k=1 then Tr (Ut x) s limit
  else if k=2 then TL (Ut x) s
  else if nc x=false∨s≠x.c then ⟨Ut x,zN,0⟩
  else if k=3 then Ta x q a p
  else ⟨Gj x a,zN,0⟩
 else ⟨zL,zN,1⟩
def Ea (s n:Int) (l:List E):List E:=l.map fun y=>[.int 3,.int s,.int (ri y 0),.int n,.ints (rl y 1)]
def fw (x:LN) (limit:Int):LD :=
 if iV x=true∧ca limit=true then
  if nc x=true then ⟨qk x (Ce x.b x.s x.q x.t),⟨Ea x.c x.n (nd x.b x.s x.q x.t),[],false,0⟩,0⟩
  else ⟨xS x,⟨if x.o=true then [] else [[.int 1,.int x.p,.int 0,.int 0,.ints []]],[],false,0⟩,0⟩
 else ⟨zL,zN,1⟩
def Ms (x:LN):LD :=
 if iV x=true then
  if nc x=true then
   ⟨⟨x.l,x.c,x.p,x.o,(Dx x.b x.s x.q x.t).b,(Dx x.b x.s x.q x.t).s,(Dx x.b x.s x.q x.t).q,(Dx x.b x.s x.q x.t).c,x.n,false⟩,
    ⟨if x.w=true then Ea x.c x.n (yB x.b x.s x.q x.t) ++ [[.int 4,.int x.c,.int 0,.int x.n,.ints []]] else Ea x.c x.n (yB x.b x.s x.q x.t),[],false,0⟩,0⟩
  else ⟨xS x,zN,0⟩
 else ⟨zL,zN,1⟩
def CY (x:LN) (limit:Int):LD :=
 if iV x=true∧ca limit=true then
  if nc x=true then (let h:=xN x.l x.c x.p x.o limit;⟨⟨h.l,h.c,h.p,h.o,0,0,[],0,0,false⟩,⟨[],[],true,0⟩,0⟩)
  else ⟨xS x,zN,0⟩
 else ⟨zL,zN,1⟩
theorem zY {x:LN} (h:xE x=true):x.q.length≤100000∧(kW x.q && kW [])=true:=by
 unfold xE at h
 refine⟨(of_decide_eq_true h).1,?_⟩
 rw [h]
 rfl
theorem wM {x:LN} (h:iV x=true):pf x.l x.c x.p x.o=true∧bZ x.b x.s x.q x.t=true∧wZ x.n=true∧(nc x=true∨Jc x (xS x)=true):=by
 simp only [iV,Bool.and_eq_true,Bool.or_eq_true] at h
 exact⟨h.1.1.1,h.1.1.2,h.1.2,h.2⟩
theorem yZ (s n:Int) (l:List E):(Ea s n l).length=l.length:=by simp [Ea]
theorem Qc (b s:Int) (q:List E) (c:Int):(nd b s q c).length≤100000:=by
 unfold nd
 repeat' split
 all_goals first|(simp;done)|skip
 rw [ou]
 have hm:bZ b s q c=true:=by cases h:bZ b s q c <;> simp_all
 have:=oD hm
 omega
theorem RL (b s:Int) (q:List E) (c:Int):(yB b s q c).length≤16:=by
 unfold yB
 split
 ·simp
 ·rw [ou]
  have hm:bZ b s q c=true:=by cases h:bZ b s q c <;> simp_all
  have:=oD hm
  have:=MQ q
  omega
structure XD where
 i:Int
 o:List E
structure Ks where
 tO:LN→Bool
 Sr:LN→Bool
 fV:LN→LN
 aal:LN→LN
 Ug:LN→LN→Bool
 OM:LN→LN→Bool
 NQ:LN→Bool
 UD:LN→Int
 Ak:Int→Bool
 dj:Int→LD
 WK:LN→List Int→Int→LD
 WW:LN→Int→LN
 Yu:LN→Int→Int→LD
 Yh:LN→Int→LD
 YP:LN→Int→Int→List Int→LD
 VS:LN→Int→Int→Int→Int→List Int→Int→LD
 Uu:Int→Int→List E→List E
 Zj:LN→Int→LD
 cj:LN→LD
 cu:LN→Int→LD
 RH:List E→Bool
 qG:List Int→Bool
 Zp:List E→Bool
 aax:LN→List Int→Bool
def Ks.U:Ks:=⟨xE,nc,xS,Ut,Jc,fun x y=>kW x.q && kW y.q,iV,RY,ca,ml,zH,Gj,Tr,TL,Ta,Of,Ea,fw,Ms,CY,fun l=>decide (l.length≤100000),fun l=>decide (l.length≤1000000),Je,fun x p=>decide (x.q.length≤100000) && decide (p.length≤1000000)⟩
def gh (F:Ks):aW:=fun xs h=>match xs,h with
 |[.agg [.val (.int .i64 v_l),.val (.int .i64 v_c),.val (.int .i64 v_p),.val (.bool v_o),.val (.int .i64 v_b),.val (.int .i64 v_s),.sl none (.ae (.ints .u8 .nil) v_q),.val (.int .i64 v_t),.val (.int .i64 v_n),.val (.bool v_w)]],[]=>some ⟨True,.sa (B (F.Sr ⟨v_l,v_c,v_p,v_o,v_b,v_s,v_q,v_t,v_n,v_w⟩)),[],[Any]⟩
 |_,_=>none
theorem Et (v_l:Int) (v_c:Int) (v_p:Int) (v_o:Bool) (v_b:Int) (v_s:Int) (v_q:List E) (v_t:Int) (v_n:Int) (v_w:Bool):aR [] Tryz.f98 [.agg [.val (.int .i64 v_l),.val (.int .i64 v_c),.val (.int .i64 v_p),.val (.bool v_o),.val (.int .i64 v_b),.val (.int .i64 v_s),.sl none (.ae (.ints .u8 .nil) v_q),.val (.int .i64 v_t),.val (.int .i64 v_n),.val (.bool v_w)]] [] ⟨True,.sa (B (Ks.U.Sr ⟨v_l,v_c,v_p,v_o,v_b,v_s,v_q,v_t,v_n,v_w⟩)),[],[Any]⟩:=by
 intro b gv
 generalize hF:Ks.U=F
 generalize hA:Ar.U=A
 generalize hL:Lp _ _ _=L
 obtain⟨Z,zq⟩:=aH
 refine aA (aa hL) zq rfl ?_
 repeat' (first|(refine ay zq ?_;try dsimp only)|refine ax zq ?_ (aa hL)|refine az zq ?_|refine aw ?_|refine aq ?_|refine au ?_|refine ar ?_|refine al rfl ?_|refine ai rfl ?_|refine aj rfl ?_|(refine Cd.mk ?_;cbv)|(refine aF.mk ?_;cbv)|(refine aK.mk ?_;cbv)|exact trivial|refine And.intro ?_ ?_|refine aZ fun _=>?_|refine ba fun _=>?_)
 all_goals
  clear hL zq Z
  subst hF hA
  simp only [Ks.U,Ar.U] at *
  try (grind [ah,aY,wr,nc])
theorem dH:aC Tryz.prog 98 (gh Ks.U):=by
 refine aD af.nil Tryz.func98 rfl rfl fun xs h p hp=>?_
 unfold gh at hp
 split at hp
 ·cases hp
  exact⟨av rfl,fun _ _=>Et _ _ _ _ _ _ _ _ _ _⟩
 ·cases hp
def jm (F:Ks):aW:=fun xs h=>match xs,h with
 |[.one (.val (.int .i64 n))],[]=>some ⟨True,.sa (B (F.Ak n)),[],[Any]⟩
 |_,_=>none
theorem Dn (n:Int):aR [] Tryz.f97 [.one (.val (.int .i64 n))] [] ⟨True,.sa (B (Ks.U.Ak n)),[],[Any]⟩:=by
 intro b gv
 generalize hF:Ks.U=F
 generalize hA:Ar.U=A
 generalize hL:Lp _ _ _=L
 obtain⟨Z,zq⟩:=aH
 refine aA (aa hL) zq rfl ?_
 repeat' (first|(refine ay zq ?_;try dsimp only)|refine ax zq ?_ (aa hL)|refine az zq ?_|refine aw ?_|refine aq ?_|refine au ?_|refine ar ?_|refine al rfl ?_|refine ai rfl ?_|refine aj rfl ?_|(refine Cd.mk ?_;cbv)|(refine aF.mk ?_;cbv)|(refine aK.mk ?_;cbv)|exact trivial|refine And.intro ?_ ?_|refine aZ fun _=>?_|refine ba fun _=>?_)
 all_goals
  clear hL zq Z
  subst hF hA
  simp only [Ks.U,Ar.U] at *
  try (grind [ah,aY,wr,ca])
theorem gn:aC Tryz.prog 97 (jm Ks.U):=by
 refine aD af.nil Tryz.func97 rfl rfl fun xs h p hp=>?_
 unfold jm at hp
 split at hp
 ·cases hp
  exact⟨av rfl,fun _ _=>Dn _⟩
 ·cases hp
def jE (F:Ks):aW:=fun xs h=>match xs,h with
 |[.agg [.val (.int .i64 v_l),.val (.int .i64 v_c),.val (.int .i64 v_p),.val (.bool v_o),.val (.int .i64 v_b),.val (.int .i64 v_s),.sl none (.ae (.ints .u8 .nil) v_q),.val (.int .i64 v_t),.val (.int .i64 v_n),.val (.bool v_w)]],[]=>some ⟨True,.sa (.agg [.val (.int .i64 (F.fV ⟨v_l,v_c,v_p,v_o,v_b,v_s,v_q,v_t,v_n,v_w⟩).l),.val (.int .i64 (F.fV ⟨v_l,v_c,v_p,v_o,v_b,v_s,v_q,v_t,v_n,v_w⟩).c),.val (.int .i64 (F.fV ⟨v_l,v_c,v_p,v_o,v_b,v_s,v_q,v_t,v_n,v_w⟩).p),.val (.bool (F.fV ⟨v_l,v_c,v_p,v_o,v_b,v_s,v_q,v_t,v_n,v_w⟩).o),.val (.int .i64 (F.fV ⟨v_l,v_c,v_p,v_o,v_b,v_s,v_q,v_t,v_n,v_w⟩).b),.val (.int .i64 (F.fV ⟨v_l,v_c,v_p,v_o,v_b,v_s,v_q,v_t,v_n,v_w⟩).s),.sl none (.ae (.ints .u8 .nil) (F.fV ⟨v_l,v_c,v_p,v_o,v_b,v_s,v_q,v_t,v_n,v_w⟩).q),.val (.int .i64 (F.fV ⟨v_l,v_c,v_p,v_o,v_b,v_s,v_q,v_t,v_n,v_w⟩).t),.val (.int .i64 (F.fV ⟨v_l,v_c,v_p,v_o,v_b,v_s,v_q,v_t,v_n,v_w⟩).n),.val (.bool (F.fV ⟨v_l,v_c,v_p,v_o,v_b,v_s,v_q,v_t,v_n,v_w⟩).w)]),[],[Any]⟩
 |_,_=>none
theorem LP (v_l:Int) (v_c:Int) (v_p:Int) (v_o:Bool) (v_b:Int) (v_s:Int) (v_q:List E) (v_t:Int) (v_n:Int) (v_w:Bool):aR [] Tryz.f106 [.agg [.val (.int .i64 v_l),.val (.int .i64 v_c),.val (.int .i64 v_p),.val (.bool v_o),.val (.int .i64 v_b),.val (.int .i64 v_s),.sl none (.ae (.ints .u8 .nil) v_q),.val (.int .i64 v_t),.val (.int .i64 v_n),.val (.bool v_w)]] [] ⟨True,.sa (.agg [.val (.int .i64 (Ks.U.fV ⟨v_l,v_c,v_p,v_o,v_b,v_s,v_q,v_t,v_n,v_w⟩).l),.val (.int .i64 (Ks.U.fV ⟨v_l,v_c,v_p,v_o,v_b,v_s,v_q,v_t,v_n,v_w⟩).c),.val (.int .i64 (Ks.U.fV ⟨v_l,v_c,v_p,v_o,v_b,v_s,v_q,v_t,v_n,v_w⟩).p),.val (.bool (Ks.U.fV ⟨v_l,v_c,v_p,v_o,v_b,v_s,v_q,v_t,v_n,v_w⟩).o),.val (.int .i64 (Ks.U.fV ⟨v_l,v_c,v_p,v_o,v_b,v_s,v_q,v_t,v_n,v_w⟩).b),.val (.int .i64 (Ks.U.fV ⟨v_l,v_c,v_p,v_o,v_b,v_s,v_q,v_t,v_n,v_w⟩).s),.sl none (.ae (.ints .u8 .nil) (Ks.U.fV ⟨v_l,v_c,v_p,v_o,v_b,v_s,v_q,v_t,v_n,v_w⟩).q),.val (.int .i64 (Ks.U.fV ⟨v_l,v_c,v_p,v_o,v_b,v_s,v_q,v_t,v_n,v_w⟩).t),.val (.int .i64 (Ks.U.fV ⟨v_l,v_c,v_p,v_o,v_b,v_s,v_q,v_t,v_n,v_w⟩).n),.val (.bool (Ks.U.fV ⟨v_l,v_c,v_p,v_o,v_b,v_s,v_q,v_t,v_n,v_w⟩).w)]),[],[Any]⟩:=by
 intro b gv
 generalize hF:Ks.U=F
 generalize hA:Ar.U=A
 generalize hL:Lp _ _ _=L
 obtain⟨Z,zq⟩:=aH
 refine aA (aa hL) zq rfl ?_
 repeat' (first|(refine ay zq ?_;try dsimp only)|refine ax zq ?_ (aa hL)|refine az zq ?_|refine aw ?_|refine aq ?_|refine au ?_|refine ar ?_|refine al rfl ?_|refine ai rfl ?_|refine aj rfl ?_|(refine Cd.mk ?_;cbv)|(refine aF.mk ?_;cbv)|(refine aK.mk ?_;cbv)|exact trivial|refine And.intro ?_ ?_|refine aZ fun _=>?_|refine ba fun _=>?_)
 all_goals
  clear hL zq Z
  subst hF hA
  simp only [Ks.U] at *
  try (grind [ah,aY,wr,xS])
theorem eF:aC Tryz.prog 106 (jE Ks.U):=by
 refine aD af.nil Tryz.func106 rfl rfl fun xs h p hp=>?_
 unfold jE at hp
 split at hp
 ·cases hp
  exact⟨av rfl,fun _ _=>LP _ _ _ _ _ _ _ _ _ _⟩
 ·cases hp
def sV (F:Ks):aW:=fun xs h=>match xs,h with
 |[.agg [.val (.int .i64 v_l),.val (.int .i64 v_c),.val (.int .i64 v_p),.val (.bool v_o),.val (.int .i64 v_b),.val (.int .i64 v_s),.sl none (.ae (.ints .u8 .nil) v_q),.val (.int .i64 v_t),.val (.int .i64 v_n),.val (.bool v_w)],.agg [.val (.int .i64 y_l),.val (.int .i64 y_c),.val (.int .i64 y_p),.val (.bool y_o),.val (.int .i64 y_b),.val (.int .i64 y_s),.sl none (.ae (.ints .u8 .nil) y_q),.val (.int .i64 y_t),.val (.int .i64 y_n),.val (.bool y_w)]],[]=>some ⟨F.OM ⟨v_l,v_c,v_p,v_o,v_b,v_s,v_q,v_t,v_n,v_w⟩ ⟨y_l,y_c,y_p,y_o,y_b,y_s,y_q,y_t,y_n,y_w⟩=true,.sa (B (F.Ug ⟨v_l,v_c,v_p,v_o,v_b,v_s,v_q,v_t,v_n,v_w⟩ ⟨y_l,y_c,y_p,y_o,y_b,y_s,y_q,y_t,y_n,y_w⟩)),[],[Any,Any]⟩
 |_,_=>none
theorem Kz (v_l:Int) (v_c:Int) (v_p:Int) (v_o:Bool) (v_b:Int) (v_s:Int) (v_q:List E) (v_t:Int) (v_n:Int) (v_w:Bool) (y_l:Int) (y_c:Int) (y_p:Int) (y_o:Bool) (y_b:Int) (y_s:Int) (y_q:List E) (y_t:Int) (y_n:Int) (y_w:Bool) (hC:Ks.U.OM ⟨v_l,v_c,v_p,v_o,v_b,v_s,v_q,v_t,v_n,v_w⟩ ⟨y_l,y_c,y_p,y_o,y_b,y_s,y_q,y_t,y_n,y_w⟩=true):aR [(179,zm Hs.U)] Tryz.f127 [.agg [.val (.int .i64 v_l),.val (.int .i64 v_c),.val (.int .i64 v_p),.val (.bool v_o),.val (.int .i64 v_b),.val (.int .i64 v_s),.sl none (.ae (.ints .u8 .nil) v_q),.val (.int .i64 v_t),.val (.int .i64 v_n),.val (.bool v_w)],.agg [.val (.int .i64 y_l),.val (.int .i64 y_c),.val (.int .i64 y_p),.val (.bool y_o),.val (.int .i64 y_b),.val (.int .i64 y_s),.sl none (.ae (.ints .u8 .nil) y_q),.val (.int .i64 y_t),.val (.int .i64 y_n),.val (.bool y_w)]] [] ⟨Ks.U.OM ⟨v_l,v_c,v_p,v_o,v_b,v_s,v_q,v_t,v_n,v_w⟩ ⟨y_l,y_c,y_p,y_o,y_b,y_s,y_q,y_t,y_n,y_w⟩=true,.sa (B (Ks.U.Ug ⟨v_l,v_c,v_p,v_o,v_b,v_s,v_q,v_t,v_n,v_w⟩ ⟨y_l,y_c,y_p,y_o,y_b,y_s,y_q,y_t,y_n,y_w⟩)),[],[Any,Any]⟩:=by
 intro b gv
 have hfs:=(af.cons AD af.nil rfl)
 generalize hF:Ks.U=F at hC hfs ⊢
 generalize hG0:Hs.U=G0 at hC hfs ⊢
 generalize hA:Ar.U=A
 generalize hL:Lp _ _ _=L
 obtain⟨Z,zq⟩:=aH
 refine aA (aa hL) zq rfl ?_
 repeat' (first|(refine ay zq ?_;try dsimp only)|refine ax zq ?_ (aa hL)|refine az zq ?_|refine aw ?_|refine aq ?_|refine au ?_|refine ar ?_|refine al rfl ?_|refine ai rfl ?_|refine aj rfl ?_|(refine Cd.mk ?_;cbv)|(refine aF.mk ?_;cbv)|(refine aK.mk ?_;cbv)|exact trivial|refine And.intro ?_ ?_|refine aZ fun _=>?_|refine ba fun _=>?_)
 all_goals
  clear hL zq Z hfs
  subst hF hA hG0
  simp only [Ks.U,Hs.U,Ar.U] at *
  try (grind [ah,aY,wr,Jc])
theorem vI:aC Tryz.prog 127 (sV Ks.U):=by
 refine aD (af.cons AD af.nil rfl) Tryz.func127 rfl rfl fun xs h p hp=>?_
 unfold sV at hp
 split at hp
 ·cases hp
  exact⟨av rfl,fun hC _=>Kz _ _ _ _ _ _ _ _ _ _ _ _ _ _ _ _ _ _ _ _ hC⟩
 ·cases hp
def gk (F:Ks):aW:=fun xs h=>match xs,h with
 |[.agg [.val (.int .i64 v_l),.val (.int .i64 v_c),.val (.int .i64 v_p),.val (.bool v_o),.val (.int .i64 v_b),.val (.int .i64 v_s),.sl none (.ae (.ints .u8 .nil) v_q),.val (.int .i64 v_t),.val (.int .i64 v_n),.val (.bool v_w)]],[]=>some ⟨F.tO ⟨v_l,v_c,v_p,v_o,v_b,v_s,v_q,v_t,v_n,v_w⟩=true,.sa (I (F.UD ⟨v_l,v_c,v_p,v_o,v_b,v_s,v_q,v_t,v_n,v_w⟩)),[],[Any]⟩
 |_,_=>none
theorem Fa (v_l:Int) (v_c:Int) (v_p:Int) (v_o:Bool) (v_b:Int) (v_s:Int) (v_q:List E) (v_t:Int) (v_n:Int) (v_w:Bool) (hC:Ks.U.tO ⟨v_l,v_c,v_p,v_o,v_b,v_s,v_q,v_t,v_n,v_w⟩=true):aR [(124,mg HaR.Fs.U),(125,eh SeR.Fs.U),(126,kY HaR.Fs.U),(98,gh Ks.U),(106,jE Ks.U),(127,sV Ks.U)] Tryz.f78 [.agg [.val (.int .i64 v_l),.val (.int .i64 v_c),.val (.int .i64 v_p),.val (.bool v_o),.val (.int .i64 v_b),.val (.int .i64 v_s),.sl none (.ae (.ints .u8 .nil) v_q),.val (.int .i64 v_t),.val (.int .i64 v_n),.val (.bool v_w)]] [] ⟨Ks.U.tO ⟨v_l,v_c,v_p,v_o,v_b,v_s,v_q,v_t,v_n,v_w⟩=true,.sa (I (Ks.U.UD ⟨v_l,v_c,v_p,v_o,v_b,v_s,v_q,v_t,v_n,v_w⟩)),[],[Any]⟩:=by
 intro b gv
 have hlb:=zY (show xE ⟨v_l,v_c,v_p,v_o,v_b,v_s,v_q,v_t,v_n,v_w⟩=true from hC)
 dsimp only at hlb
 have hbq:∀ x:LN,(xS x).q=[]:=fun _=>rfl
 have hfs:=(af.cons mP (af.cons cW (af.cons mw (af.cons dH (af.cons eF (af.cons vI af.nil rfl) rfl) rfl) rfl) rfl) rfl)
 generalize hF:Ks.U=F at hC hfs ⊢
 generalize hG0:HaR.Fs.U=G0 at hC hfs ⊢
 generalize hG1:SeR.Fs.U=G1 at hC hfs ⊢
 generalize hA:Ar.U=A
 generalize hL:Lp _ _ _=L
 obtain⟨Z,zq⟩:=aH
 refine aA (aa hL) zq rfl ?_
 repeat' (first|(refine ay zq ?_;try dsimp only)|refine ax zq ?_ (aa hL)|refine az zq ?_|refine aw ?_|refine aq ?_|refine au ?_|refine ar ?_|refine al rfl ?_|refine ai rfl ?_|refine aj rfl ?_|(refine Cd.mk ?_;cbv)|(refine aF.mk ?_;cbv)|(refine aK.mk ?_;cbv)|exact trivial|refine And.intro ?_ ?_|refine aZ fun _=>?_|refine ba fun _=>?_)
 all_goals
  clear hL zq Z hfs
  subst hF hA hG0 hG1
  simp only [Ks.U,HaR.Fs.U,SeR.Fs.U,Ar.U,yA] at *
  try (grind [ah,aY,wr,RY,iV,LJ,RP,MK])
theorem dG:aC Tryz.prog 78 (gk Ks.U):=by
 refine aD (af.cons mP (af.cons cW (af.cons mw (af.cons dH (af.cons eF (af.cons vI af.nil rfl) rfl) rfl) rfl) rfl) rfl) Tryz.func78 rfl rfl fun xs h p hp=>?_
 unfold gk at hp
 split at hp
 ·cases hp
  exact⟨av rfl,fun hC _=>Fa _ _ _ _ _ _ _ _ _ _ hC⟩
 ·cases hp
def yj (F:Ks):aW:=fun xs h=>match xs,h with
 |[.one (.val (.int .i64 n))],[]=>some ⟨True,.bB [.agg [.val (.int .i64 ((F.dj n).x).l),.val (.int .i64 ((F.dj n).x).c),.val (.int .i64 ((F.dj n).x).p),.val (.bool ((F.dj n).x).o),.val (.int .i64 ((F.dj n).x).b),.val (.int .i64 ((F.dj n).x).s),.sl none (.ae (.ints .u8 .nil) ((F.dj n).x).q),.val (.int .i64 ((F.dj n).x).t),.val (.int .i64 ((F.dj n).x).n),.val (.bool ((F.dj n).x).w)],I (F.dj n).e],[],[Any]⟩
 |_,_=>none
theorem Rf (n:Int):aR [(77,uc HaR.Fs.U)] Tryz.f39 [.one (.val (.int .i64 n))] [] ⟨True,.bB [.agg [.val (.int .i64 ((Ks.U.dj n).x).l),.val (.int .i64 ((Ks.U.dj n).x).c),.val (.int .i64 ((Ks.U.dj n).x).p),.val (.bool ((Ks.U.dj n).x).o),.val (.int .i64 ((Ks.U.dj n).x).b),.val (.int .i64 ((Ks.U.dj n).x).s),.sl none (.ae (.ints .u8 .nil) ((Ks.U.dj n).x).q),.val (.int .i64 ((Ks.U.dj n).x).t),.val (.int .i64 ((Ks.U.dj n).x).n),.val (.bool ((Ks.U.dj n).x).w)],I (Ks.U.dj n).e],[],[Any]⟩:=by
 intro b gv
 have hfs:=(af.cons uj af.nil rfl)
 generalize hF:Ks.U=F at hfs ⊢
 generalize hG0:HaR.Fs.U=G0 at hfs ⊢
 generalize hA:Ar.U=A
 generalize hL:Lp _ _ _=L
 obtain⟨Z,zq⟩:=aH
 refine aA (aa hL) zq rfl ?_
 repeat' (first|(refine ay zq ?_;try dsimp only)|refine ax zq ?_ (aa hL)|refine az zq ?_|refine aw ?_|refine aq ?_|refine au ?_|refine ar ?_|refine al rfl ?_|refine ai rfl ?_|refine aj rfl ?_|(refine Cd.mk ?_;cbv)|(refine aF.mk ?_;cbv)|(refine aK.mk ?_;cbv)|exact trivial|refine And.intro ?_ ?_|refine aZ fun _=>?_|refine ba fun _=>?_)
 all_goals
  clear hL zq Z hfs
  subst hF hA hG0
  simp only [Ks.U,HaR.Fs.U,Ar.U] at *
  try (grind [ah,aY,wr,ml,zL])
theorem Aa:aC Tryz.prog 39 (yj Ks.U):=by
 refine aD (af.cons uj af.nil rfl) Tryz.func39 rfl rfl fun xs h p hp=>?_
 unfold yj at hp
 split at hp
 ·cases hp
  exact⟨av rfl,fun _ _=>Rf _⟩
 ·cases hp
def VA (c n:Int) (l:List E) (y:XD):Prop:=0≤y.i∧y.i≤l.length∧y.o=Ea c n (l.take y.i.toNat)
def Yy (l:List E) (y:XD):Nat:=l.length - y.i.toNat
noncomputable def dfI (A:Ar) (v:LN) (l:List E) (y:XD):St:=bW Tryz.f105.ntmps [(2,.ptr 1 0),(5,.sl (some (2,24)) (.ae (.int .i64 (.int .i64 (.int .i64 (.int .i64 (.ints .u8 .nil))))) y.o)),(8,.sl none (.ae (.int .i64 (.ints .u8 .nil)) l)),(9,.val (.int .i64 (A.dw l))),(10,.val (.int .i64 y.i))] [(1,.cells 55 [.val (.int .i64 v.l),.val (.int .i64 v.c),.val (.int .i64 v.p),.val (.bool v.o),.val (.int .i64 v.b),.val (.int .i64 v.s),.sl none (.ae (.ints .u8 .nil) v.q),.val (.int .i64 v.t),.val (.int .i64 v.n),.val (.bool v.w)]),(2,.tok)] [Any,Any]
def dfR (st:St):XD:=⟨bA st 10,oV st 5⟩
theorem Jv (c n:Int) (l:List E) (i:Int) (o:List E) (hl:l.length≤100000) (hq:VA c n l ⟨i,o⟩) (h:i < l.length):o.length≤100000∧aB .add .i64 i 1=i+1∧VA c n l ⟨i+1,o ++ [[.int 3,.int c,.int (ri (l.getD i.toNat []) 0),.int n,.ints (rl (l.getD i.toNat []) 1)]]⟩:=by
 obtain⟨h0,h1,h2⟩:=hq
 simp only at h0 h1 h2
 refine⟨by rw [h2,yZ,List.length_take];omega,by rw [aY,wr _ (by omega) (by omega)],by simp only;omega,by simp only;omega,?_⟩
 simp only
 rw [dh l i h0 h,h2]
 simp [Ea]
theorem Pw (c n:Int) (l:List E) (i:Int) (o:List E) (hq:VA c n l ⟨i,o⟩) (h:¬i < l.length):o=Ea c n l:=by
 obtain⟨h0,h1,h2⟩:=hq
 simp only at h0 h1 h2
 have e:i=l.length:=by omega
 rw [e,Int.toNat_natCast,List.take_length] at h2
 exact h2
def MJ (F:Ks):aW:=fun xs h=>match xs,h with
 |[.agg [.val (.int .i64 _),.val (.int .i64 v_c),.val (.int .i64 _),.val (.bool _),.val (.int .i64 _),.val (.int .i64 _),.sl none (.ae (.ints .u8 .nil) _),.val (.int .i64 _),.val (.int .i64 v_n),.val (.bool _)],.one (.sl none (.ae (.int .i64 (.ints .u8 .nil)) l))],[]=>some ⟨F.RH l=true,.sa (.one (.sl (some (0,24)) (.ae (.int .i64 (.int .i64 (.int .i64 (.int .i64 (.ints .u8 .nil))))) (F.Uu v_c v_n l)))),[(0,.tok)],[Any,Any]⟩
 |_,_=>none
theorem Xb (v_l:Int) (v_c:Int) (v_p:Int) (v_o:Bool) (v_b:Int) (v_s:Int) (v_q:List E) (v_t:Int) (v_n:Int) (v_w:Bool) (l:List E) (hC:Ks.U.RH l=true):aR [] Tryz.f105 [.agg [.val (.int .i64 v_l),.val (.int .i64 v_c),.val (.int .i64 v_p),.val (.bool v_o),.val (.int .i64 v_b),.val (.int .i64 v_s),.sl none (.ae (.ints .u8 .nil) v_q),.val (.int .i64 v_t),.val (.int .i64 v_n),.val (.bool v_w)],.one (.sl none (.ae (.int .i64 (.ints .u8 .nil)) l))] [] ⟨Ks.U.RH l=true,.sa (.one (.sl (some (0,24)) (.ae (.int .i64 (.int .i64 (.int .i64 (.int .i64 (.ints .u8 .nil))))) (Ks.U.Uu v_c v_n l)))),[(0,.tok)],[Any,Any]⟩:=by
 intro b gv
 have hl:l.length≤100000:=of_decide_eq_true (show decide (l.length≤100000)=true from hC)
 have hfs:=af.nil
 generalize hF:Ks.U=F at hC hfs ⊢
 generalize hA:Ar.U=A
 generalize hL:Lp _ _ _=L
 obtain⟨Z,zq⟩:=aH
 refine aA (aa hL) zq rfl ?_
 repeat' (first|(refine ay zq ?_;try dsimp only)|refine ax zq ?_ (aa hL)|refine az zq ?_|refine aw ?_|refine aq ?_|refine au ?_|refine ar ?_|refine al rfl ?_|refine ai rfl ?_|refine aj rfl ?_|(refine Cd.mk ?_;cbv)|(refine aF.mk ?_;cbv)|(refine aK.mk ?_;cbv)|exact trivial|refine And.intro ?_ ?_|refine aZ fun _=>?_|refine ba fun _=>?_)
 subst hL
 refine bj (bo hfs) (VA v_c v_n l) (dfI A ⟨v_l,v_c,v_p,v_o,v_b,v_s,v_q,v_t,v_n,v_w⟩ l) (Yy l) dfR ⟨0,[]⟩ ?_ ?_ ?_
 ·exact⟨Int.le_refl 0,Int.natCast_nonneg _,rfl⟩
 ·cbv
  repeat' (first|exact trivial|exact rfl|refine And.intro ?_ ?_)
 rintro⟨i,o⟩ hq O hO
 have hst:=Jv v_c v_n l i o hl hq
 have hen:=Pw v_c v_n l i o hq
 have q0:=hq.1
 have q1:=hq.2.1
 dsimp only at q0 q1
 subst hA
 generalize hA:Ar.U=A
 generalize hL:Lp _ _ _=L
 refine aT zq ?_
 repeat' (first|(refine ay zq ?_;try dsimp only)|refine ax zq ?_ (aa hL)|refine az zq ?_|refine aw ?_|refine aq ?_|refine au ?_|refine ar ?_|refine al rfl ?_|refine ai rfl ?_|refine aj rfl ?_|(refine Cd.mk ?_;cbv)|(refine aF.mk ?_;cbv)|(refine aK.mk ?_;cbv)|exact trivial|refine And.intro ?_ ?_|refine aZ fun _=>?_|refine ba fun _=>?_)
 all_goals (clear hL hfs zq Z hq;subst hA hF hO;simp only [Ks.U,Ar.U] at * <;> grind [ah,Yy])
theorem AP:aC Tryz.prog 105 (MJ Ks.U):=by
 refine aD af.nil Tryz.func105 rfl rfl fun xs h p hp=>?_
 unfold MJ at hp
 split at hp
 ·cases hp
  exact⟨av rfl,fun hC _=>Xb _ _ _ _ _ _ _ _ _ _ _ hC⟩
 ·cases hp
def tg (F:Ks):aW:=fun xs h=>match xs,h with
 |[.agg [.val (.int .i64 v_l),.val (.int .i64 v_c),.val (.int .i64 v_p),.val (.bool v_o),.val (.int .i64 v_b),.val (.int .i64 v_s),.sl none (.ae (.ints .u8 .nil) v_q),.val (.int .i64 v_t),.val (.int .i64 v_n),.val (.bool v_w)]],[]=>some ⟨F.tO ⟨v_l,v_c,v_p,v_o,v_b,v_s,v_q,v_t,v_n,v_w⟩=true,.bB [.agg [.val (.int .i64 ((F.cj ⟨v_l,v_c,v_p,v_o,v_b,v_s,v_q,v_t,v_n,v_w⟩).x).l),.val (.int .i64 ((F.cj ⟨v_l,v_c,v_p,v_o,v_b,v_s,v_q,v_t,v_n,v_w⟩).x).c),.val (.int .i64 ((F.cj ⟨v_l,v_c,v_p,v_o,v_b,v_s,v_q,v_t,v_n,v_w⟩).x).p),.val (.bool ((F.cj ⟨v_l,v_c,v_p,v_o,v_b,v_s,v_q,v_t,v_n,v_w⟩).x).o),.val (.int .i64 ((F.cj ⟨v_l,v_c,v_p,v_o,v_b,v_s,v_q,v_t,v_n,v_w⟩).x).b),.val (.int .i64 ((F.cj ⟨v_l,v_c,v_p,v_o,v_b,v_s,v_q,v_t,v_n,v_w⟩).x).s),.sl none (.ae (.ints .u8 .nil) ((F.cj ⟨v_l,v_c,v_p,v_o,v_b,v_s,v_q,v_t,v_n,v_w⟩).x).q),.val (.int .i64 ((F.cj ⟨v_l,v_c,v_p,v_o,v_b,v_s,v_q,v_t,v_n,v_w⟩).x).t),.val (.int .i64 ((F.cj ⟨v_l,v_c,v_p,v_o,v_b,v_s,v_q,v_t,v_n,v_w⟩).x).n),.val (.bool ((F.cj ⟨v_l,v_c,v_p,v_o,v_b,v_s,v_q,v_t,v_n,v_w⟩).x).w)],.agg [.sl none (.ae (.int .i64 (.int .i64 (.int .i64 (.int .i64 (.ints .u8 .nil))))) ((F.cj ⟨v_l,v_c,v_p,v_o,v_b,v_s,v_q,v_t,v_n,v_w⟩).y).f),.sl none (.ae (.ints .u8 .nil) ((F.cj ⟨v_l,v_c,v_p,v_o,v_b,v_s,v_q,v_t,v_n,v_w⟩).y).g),.val (.bool ((F.cj ⟨v_l,v_c,v_p,v_o,v_b,v_s,v_q,v_t,v_n,v_w⟩).y).d),.val (.int .i64 ((F.cj ⟨v_l,v_c,v_p,v_o,v_b,v_s,v_q,v_t,v_n,v_w⟩).y).s)],I (F.cj ⟨v_l,v_c,v_p,v_o,v_b,v_s,v_q,v_t,v_n,v_w⟩).e],[],[Any]⟩
 |_,_=>none
theorem Kl (v_l:Int) (v_c:Int) (v_p:Int) (v_o:Bool) (v_b:Int) (v_s:Int) (v_q:List E) (v_t:Int) (v_n:Int) (v_w:Bool) (hC:Ks.U.tO ⟨v_l,v_c,v_p,v_o,v_b,v_s,v_q,v_t,v_n,v_w⟩=true):aR [(78,gk Ks.U),(98,gh Ks.U),(143,tC Gs.U),(105,MJ Ks.U),(144,zA HaR.Fs.U),(106,jE Ks.U)] Tryz.f91 [.agg [.val (.int .i64 v_l),.val (.int .i64 v_c),.val (.int .i64 v_p),.val (.bool v_o),.val (.int .i64 v_b),.val (.int .i64 v_s),.sl none (.ae (.ints .u8 .nil) v_q),.val (.int .i64 v_t),.val (.int .i64 v_n),.val (.bool v_w)]] [] ⟨Ks.U.tO ⟨v_l,v_c,v_p,v_o,v_b,v_s,v_q,v_t,v_n,v_w⟩=true,.bB [.agg [.val (.int .i64 ((Ks.U.cj ⟨v_l,v_c,v_p,v_o,v_b,v_s,v_q,v_t,v_n,v_w⟩).x).l),.val (.int .i64 ((Ks.U.cj ⟨v_l,v_c,v_p,v_o,v_b,v_s,v_q,v_t,v_n,v_w⟩).x).c),.val (.int .i64 ((Ks.U.cj ⟨v_l,v_c,v_p,v_o,v_b,v_s,v_q,v_t,v_n,v_w⟩).x).p),.val (.bool ((Ks.U.cj ⟨v_l,v_c,v_p,v_o,v_b,v_s,v_q,v_t,v_n,v_w⟩).x).o),.val (.int .i64 ((Ks.U.cj ⟨v_l,v_c,v_p,v_o,v_b,v_s,v_q,v_t,v_n,v_w⟩).x).b),.val (.int .i64 ((Ks.U.cj ⟨v_l,v_c,v_p,v_o,v_b,v_s,v_q,v_t,v_n,v_w⟩).x).s),.sl none (.ae (.ints .u8 .nil) ((Ks.U.cj ⟨v_l,v_c,v_p,v_o,v_b,v_s,v_q,v_t,v_n,v_w⟩).x).q),.val (.int .i64 ((Ks.U.cj ⟨v_l,v_c,v_p,v_o,v_b,v_s,v_q,v_t,v_n,v_w⟩).x).t),.val (.int .i64 ((Ks.U.cj ⟨v_l,v_c,v_p,v_o,v_b,v_s,v_q,v_t,v_n,v_w⟩).x).n),.val (.bool ((Ks.U.cj ⟨v_l,v_c,v_p,v_o,v_b,v_s,v_q,v_t,v_n,v_w⟩).x).w)],.agg [.sl none (.ae (.int .i64 (.int .i64 (.int .i64 (.int .i64 (.ints .u8 .nil))))) ((Ks.U.cj ⟨v_l,v_c,v_p,v_o,v_b,v_s,v_q,v_t,v_n,v_w⟩).y).f),.sl none (.ae (.ints .u8 .nil) ((Ks.U.cj ⟨v_l,v_c,v_p,v_o,v_b,v_s,v_q,v_t,v_n,v_w⟩).y).g),.val (.bool ((Ks.U.cj ⟨v_l,v_c,v_p,v_o,v_b,v_s,v_q,v_t,v_n,v_w⟩).y).d),.val (.int .i64 ((Ks.U.cj ⟨v_l,v_c,v_p,v_o,v_b,v_s,v_q,v_t,v_n,v_w⟩).y).s)],I (Ks.U.cj ⟨v_l,v_c,v_p,v_o,v_b,v_s,v_q,v_t,v_n,v_w⟩).e],[],[Any]⟩:=by
 intro b gv
 have hlb:=zY (show xE ⟨v_l,v_c,v_p,v_o,v_b,v_s,v_q,v_t,v_n,v_w⟩=true from hC)
 dsimp only at hlb
 have htl:=RL v_b v_s v_q v_t
 have hdl:=yZ v_c v_n (yB v_b v_s v_q v_t)
 have hml:=fun h=>(wM (x:=⟨v_l,v_c,v_p,v_o,v_b,v_s,v_q,v_t,v_n,v_w⟩) h).2.2.1
 have hfs:=(af.cons dG (af.cons dH (af.cons vM (af.cons AP (af.cons Bc (af.cons eF af.nil rfl) rfl) rfl) rfl) rfl) rfl)
 generalize hF:Ks.U=F at hC hfs ⊢
 generalize hG0:HaR.Fs.U=G0 at hC hfs ⊢
 generalize hG1:Gs.U=G1 at hC hfs ⊢
 generalize hA:Ar.U=A
 generalize hL:Lp _ _ _=L
 obtain⟨Z,zq⟩:=aH
 refine aA (aa hL) zq rfl ?_
 repeat' (first|(refine ay zq ?_;try dsimp only)|refine ax zq ?_ (aa hL)|refine az zq ?_|refine aw ?_|refine aq ?_|refine au ?_|refine ar ?_|refine al rfl ?_|refine ai rfl ?_|refine aj rfl ?_|(refine Cd.mk ?_;cbv)|(refine aF.mk ?_;cbv)|(refine aK.mk ?_;cbv)|exact trivial|refine And.intro ?_ ?_|refine aZ fun _=>?_|refine ba fun _=>?_)
 all_goals
  clear hL zq Z hfs
  subst hF hA hG0 hG1
  simp only [Ks.U,HaR.Fs.U,Gs.U,Ar.U] at *
  try (grind [ah,aY,wr,Ms,zL,zN,RY,xS,Xo])
theorem xm:aC Tryz.prog 91 (tg Ks.U):=by
 refine aD (af.cons dG (af.cons dH (af.cons vM (af.cons AP (af.cons Bc (af.cons eF af.nil rfl) rfl) rfl) rfl) rfl) rfl) Tryz.func91 rfl rfl fun xs h p hp=>?_
 unfold tg at hp
 split at hp
 ·cases hp
  exact⟨av rfl,fun hC _=>Kl _ _ _ _ _ _ _ _ _ _ hC⟩
 ·cases hp
def pL (F:Ks):aW:=fun xs h=>match xs,h with
 |[.agg [.val (.int .i64 v_l),.val (.int .i64 v_c),.val (.int .i64 v_p),.val (.bool v_o),.val (.int .i64 v_b),.val (.int .i64 v_s),.sl none (.ae (.ints .u8 .nil) v_q),.val (.int .i64 v_t),.val (.int .i64 v_n),.val (.bool v_w)],.one (.val (.int .i64 n))],[]=>some ⟨F.tO ⟨v_l,v_c,v_p,v_o,v_b,v_s,v_q,v_t,v_n,v_w⟩=true,.bB [.agg [.val (.int .i64 ((F.cu ⟨v_l,v_c,v_p,v_o,v_b,v_s,v_q,v_t,v_n,v_w⟩ n).x).l),.val (.int .i64 ((F.cu ⟨v_l,v_c,v_p,v_o,v_b,v_s,v_q,v_t,v_n,v_w⟩ n).x).c),.val (.int .i64 ((F.cu ⟨v_l,v_c,v_p,v_o,v_b,v_s,v_q,v_t,v_n,v_w⟩ n).x).p),.val (.bool ((F.cu ⟨v_l,v_c,v_p,v_o,v_b,v_s,v_q,v_t,v_n,v_w⟩ n).x).o),.val (.int .i64 ((F.cu ⟨v_l,v_c,v_p,v_o,v_b,v_s,v_q,v_t,v_n,v_w⟩ n).x).b),.val (.int .i64 ((F.cu ⟨v_l,v_c,v_p,v_o,v_b,v_s,v_q,v_t,v_n,v_w⟩ n).x).s),.sl none (.ae (.ints .u8 .nil) ((F.cu ⟨v_l,v_c,v_p,v_o,v_b,v_s,v_q,v_t,v_n,v_w⟩ n).x).q),.val (.int .i64 ((F.cu ⟨v_l,v_c,v_p,v_o,v_b,v_s,v_q,v_t,v_n,v_w⟩ n).x).t),.val (.int .i64 ((F.cu ⟨v_l,v_c,v_p,v_o,v_b,v_s,v_q,v_t,v_n,v_w⟩ n).x).n),.val (.bool ((F.cu ⟨v_l,v_c,v_p,v_o,v_b,v_s,v_q,v_t,v_n,v_w⟩ n).x).w)],.agg [.sl none (.ae (.int .i64 (.int .i64 (.int .i64 (.int .i64 (.ints .u8 .nil))))) ((F.cu ⟨v_l,v_c,v_p,v_o,v_b,v_s,v_q,v_t,v_n,v_w⟩ n).y).f),.sl none (.ae (.ints .u8 .nil) ((F.cu ⟨v_l,v_c,v_p,v_o,v_b,v_s,v_q,v_t,v_n,v_w⟩ n).y).g),.val (.bool ((F.cu ⟨v_l,v_c,v_p,v_o,v_b,v_s,v_q,v_t,v_n,v_w⟩ n).y).d),.val (.int .i64 ((F.cu ⟨v_l,v_c,v_p,v_o,v_b,v_s,v_q,v_t,v_n,v_w⟩ n).y).s)],I (F.cu ⟨v_l,v_c,v_p,v_o,v_b,v_s,v_q,v_t,v_n,v_w⟩ n).e],[],[Any,Any]⟩
 |_,_=>none
theorem Gx (v_l:Int) (v_c:Int) (v_p:Int) (v_o:Bool) (v_b:Int) (v_s:Int) (v_q:List E) (v_t:Int) (v_n:Int) (v_w:Bool) (n:Int) (hC:Ks.U.tO ⟨v_l,v_c,v_p,v_o,v_b,v_s,v_q,v_t,v_n,v_w⟩=true):aR [(78,gk Ks.U),(97,jm Ks.U),(98,gh Ks.U),(128,ql HaR.Fs.U),(106,jE Ks.U)] Tryz.f81 [.agg [.val (.int .i64 v_l),.val (.int .i64 v_c),.val (.int .i64 v_p),.val (.bool v_o),.val (.int .i64 v_b),.val (.int .i64 v_s),.sl none (.ae (.ints .u8 .nil) v_q),.val (.int .i64 v_t),.val (.int .i64 v_n),.val (.bool v_w)],.one (.val (.int .i64 n))] [] ⟨Ks.U.tO ⟨v_l,v_c,v_p,v_o,v_b,v_s,v_q,v_t,v_n,v_w⟩=true,.bB [.agg [.val (.int .i64 ((Ks.U.cu ⟨v_l,v_c,v_p,v_o,v_b,v_s,v_q,v_t,v_n,v_w⟩ n).x).l),.val (.int .i64 ((Ks.U.cu ⟨v_l,v_c,v_p,v_o,v_b,v_s,v_q,v_t,v_n,v_w⟩ n).x).c),.val (.int .i64 ((Ks.U.cu ⟨v_l,v_c,v_p,v_o,v_b,v_s,v_q,v_t,v_n,v_w⟩ n).x).p),.val (.bool ((Ks.U.cu ⟨v_l,v_c,v_p,v_o,v_b,v_s,v_q,v_t,v_n,v_w⟩ n).x).o),.val (.int .i64 ((Ks.U.cu ⟨v_l,v_c,v_p,v_o,v_b,v_s,v_q,v_t,v_n,v_w⟩ n).x).b),.val (.int .i64 ((Ks.U.cu ⟨v_l,v_c,v_p,v_o,v_b,v_s,v_q,v_t,v_n,v_w⟩ n).x).s),.sl none (.ae (.ints .u8 .nil) ((Ks.U.cu ⟨v_l,v_c,v_p,v_o,v_b,v_s,v_q,v_t,v_n,v_w⟩ n).x).q),.val (.int .i64 ((Ks.U.cu ⟨v_l,v_c,v_p,v_o,v_b,v_s,v_q,v_t,v_n,v_w⟩ n).x).t),.val (.int .i64 ((Ks.U.cu ⟨v_l,v_c,v_p,v_o,v_b,v_s,v_q,v_t,v_n,v_w⟩ n).x).n),.val (.bool ((Ks.U.cu ⟨v_l,v_c,v_p,v_o,v_b,v_s,v_q,v_t,v_n,v_w⟩ n).x).w)],.agg [.sl none (.ae (.int .i64 (.int .i64 (.int .i64 (.int .i64 (.ints .u8 .nil))))) ((Ks.U.cu ⟨v_l,v_c,v_p,v_o,v_b,v_s,v_q,v_t,v_n,v_w⟩ n).y).f),.sl none (.ae (.ints .u8 .nil) ((Ks.U.cu ⟨v_l,v_c,v_p,v_o,v_b,v_s,v_q,v_t,v_n,v_w⟩ n).y).g),.val (.bool ((Ks.U.cu ⟨v_l,v_c,v_p,v_o,v_b,v_s,v_q,v_t,v_n,v_w⟩ n).y).d),.val (.int .i64 ((Ks.U.cu ⟨v_l,v_c,v_p,v_o,v_b,v_s,v_q,v_t,v_n,v_w⟩ n).y).s)],I (Ks.U.cu ⟨v_l,v_c,v_p,v_o,v_b,v_s,v_q,v_t,v_n,v_w⟩ n).e],[],[Any,Any]⟩:=by
 intro b gv
 have hlb:=zY (show xE ⟨v_l,v_c,v_p,v_o,v_b,v_s,v_q,v_t,v_n,v_w⟩=true from hC)
 dsimp only at hlb
 have hfs:=(af.cons dG (af.cons gn (af.cons dH (af.cons rQ (af.cons eF af.nil rfl) rfl) rfl) rfl) rfl)
 generalize hF:Ks.U=F at hC hfs ⊢
 generalize hG0:HaR.Fs.U=G0 at hC hfs ⊢
 generalize hA:Ar.U=A
 generalize hL:Lp _ _ _=L
 obtain⟨Z,zq⟩:=aH
 refine aA (aa hL) zq rfl ?_
 repeat' (first|(refine ay zq ?_;try dsimp only)|refine ax zq ?_ (aa hL)|refine az zq ?_|refine aw ?_|refine aq ?_|refine au ?_|refine ar ?_|refine al rfl ?_|refine ai rfl ?_|refine aj rfl ?_|(refine Cd.mk ?_;cbv)|(refine aF.mk ?_;cbv)|(refine aK.mk ?_;cbv)|exact trivial|refine And.intro ?_ ?_|refine aZ fun _=>?_|refine ba fun _=>?_)
 all_goals
  clear hL zq Z hfs
  subst hF hA hG0
  simp only [Ks.U,HaR.Fs.U,Ar.U] at *
  try (grind [ah,aY,wr,CY,zL,zN,RY,xS,nc])
theorem rS:aC Tryz.prog 81 (pL Ks.U):=by
 refine aD (af.cons dG (af.cons gn (af.cons dH (af.cons rQ (af.cons eF af.nil rfl) rfl) rfl) rfl) rfl) Tryz.func81 rfl rfl fun xs h p hp=>?_
 unfold pL at hp
 split at hp
 ·cases hp
  exact⟨av rfl,fun hC _=>Gx _ _ _ _ _ _ _ _ _ _ _ hC⟩
 ·cases hp
end Go.Proofs.YtakebkfhigadiaaGreat.LiR
