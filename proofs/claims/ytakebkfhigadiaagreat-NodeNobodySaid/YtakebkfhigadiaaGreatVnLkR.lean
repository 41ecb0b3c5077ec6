
/-
  links je the reckoner. No condition.
-/
import Derived.Test.YtakebkfhigadiaaGreatVnW48
set_option maxHeartbeats 2000000
set_option maxRecDepth 100000
namespace Go.Proofs.YtakebkfhigadiaaGreat.LkR
open Go Ry HaR SeR SeS SeT SeU SeL SeV LiR LiQ LiS
open FrR (eX Lt rF Ux qL DF)
abbrev uP:=FrR.pX
theorem tI:aC Tryz.prog 56 (uP FrR.Rs.U):=FrR.Cj
structure KN where
 h:Int
 g:Int
 x:LN
 u:Int
 v:Int
structure KD where
 k:KN
 y:NW
 e:Int
def zK:KN:=⟨0,0,zL,0,0⟩
def Wq (k:KN):KN:=⟨k.h,k.g,Ut k.x,k.u,k.v⟩
def Jj (u v:Int):Bool:=decide (0≤u∧u≤5∧0≤v∧v≤1)
def JN (u v:Int):Int:=if Jj u v=true then 0 else 1
def Ni (w:Int):Bool:=decide (0≤w∧w≤2147483647)
def nM (k:KN):Bool:=decide (1≤k.h∧k.h≤64) && Ni k.g && iV k.x && Jj k.u k.v && (nc k.x || decide (k.u=0∧k.v=0))
def RX (k:KN):Int:=if nM k=true then 0 else 1
structure BT where
 u:Int
 v:Int
 a:Bool
 b:Bool
 e:Int
def WR (u v:Int):BT:=if Jj u v=true then ⟨if u=5 then 0 else u+1,if v=1 then 0 else v+1,v == 1,u == 5,0⟩ else ⟨0,0,false,false,1⟩
def bhT (u v:Int):BT:=if Jj u v=true then ⟨0,v,false,false,0⟩ else ⟨0,0,false,false,1⟩
def Ra (h g n:Int):KD:=if (ml n).e=0 then (if nM ⟨h,g,(ml n).x,0,0⟩=true then ⟨⟨h,g,(ml n).x,0,0⟩,zN,0⟩ else ⟨zK,zN,1⟩) else ⟨zK,zN,(ml n).e⟩
def UF (k:KN) (p:List Int) (n:Int):KD:=if nM k=true then (if (zH k.x p n).e=0 then ⟨⟨k.h,k.g,(zH k.x p n).x,k.u,k.v⟩,zN,0⟩ else ⟨zK,zN,(zH k.x p n).e⟩) else ⟨zK,zN,1⟩
def Wu (k:KN) (f:DF) (r:LD):KD :=
 if r.y.s≠0∨r.y.d=true then ⟨⟨k.h,k.g,r.x,0,0⟩,r.y,0⟩
 else if nc r.x=true∧f.s=r.x.c then ⟨⟨k.h,k.g,r.x,0,k.v⟩,r.y,0⟩
 else ⟨⟨k.h,k.g,r.x,k.u,k.v⟩,r.y,0⟩
def UH (k:KN) (b:List Int) (n:Int):KD :=
 if nM k=true∧ca n=true then
  if (qL b).e=0 then Wu k (qL b) (Of k.x (qL b).k (qL b).s (qL b).q (qL b).a (qL b).p n) else ⟨Wq k,zN,0⟩
 else ⟨zK,zN,1⟩
def JV (k:KN) (n:Int):KD:=if nM k=true∧ca n=true then ⟨⟨k.h,k.g,(CY k.x n).x,0,0⟩,(CY k.x n).y,0⟩ else ⟨zK,zN,1⟩
def Qm (k:KN) (n:Int):KD :=
 if nM k=true∧ca n=true then
  if nc (fw k.x n).x=true then
   if k.u=5 then JV ⟨k.h,k.g,(fw k.x n).x,k.u,k.v⟩ n
   else ⟨⟨k.h,k.g,(fw k.x n).x,k.u+1,if k.v=1 then 0 else k.v+1⟩,⟨if k.v=1 then (fw k.x n).y.f ++ [[.int 5,.int (fw k.x n).x.c,.int 0,.int (fw k.x n).x.n,.ints []]] else (fw k.x n).y.f,(fw k.x n).y.g,(fw k.x n).y.d,(fw k.x n).y.s⟩,0⟩
  else ⟨⟨k.h,k.g,(fw k.x n).x,k.u,k.v⟩,(fw k.x n).y,0⟩
 else ⟨zK,zN,1⟩
def Lo (k:KN):KD:=if nM k=true then ⟨⟨k.h,k.g,(Ms k.x).x,k.u,k.v⟩,(Ms k.x).y,0⟩ else ⟨zK,zN,1⟩
def Wc (k:KN) (w n:Int):KD :=
 if nM k=true∧Ni w=true∧ca n=true then
  if w=k.g then ⟨Wq k,zN,0⟩ else ⟨⟨k.h,w,(CY k.x n).x,0,0⟩,(CY k.x n).y,0⟩
 else ⟨zK,zN,1⟩
def smK (a b:KN):Bool:=decide (a.h=b.h∧a.g=b.g) && decide (a.u=b.u∧a.v=b.v) && Jc a.x b.x
def UG (k:KN):Bool:=xE k.x
def kb2 (a b:KN):Bool:=kW a.x.q && kW b.x.q
theorem UA {k:KN} (h:nM k=true):1≤k.h∧k.h≤64∧0≤k.g∧k.g≤2147483647∧iV k.x=true∧0≤k.u∧k.u≤5∧0≤k.v∧k.v≤1∧(nc k.x=true∨k.u=0∧k.v=0):=by
 simp only [nM,Ni,Jj,Bool.and_eq_true,Bool.or_eq_true,decide_eq_true_eq] at h
 obtain⟨⟨⟨⟨h1,h2⟩,h3⟩,h4⟩,h5⟩:=h
 exact⟨h1.1,h1.2,h2.1,h2.2,h3,h4.1,h4.2.1,h4.2.2.1,h4.2.2.2,h5⟩
theorem OU {x:LN} {n:Int} (hb:kW x.q=true) (hm:iV x=true) (hl:ca n=true):xE (fw x n).x=true∧(fw x n).e=0∧(fw x n).y.f.length≤100000:=by
 have h:=ID hb hm hl
 exact⟨h.b1,h.e,(of_decide_eq_true (Bool.and_eq_true _ _ ▸ (show (Vr (fw x n).y.f && kW (fw x n).y.g)=true from h.n1)).1).1⟩
theorem tm1 (v:Int) (h0:0≤v) (h1:v≤1):aB .rem .i64 (aB .add .i64 v 1) 2=(if v=1 then 0 else v+1):=by
 have:v=0∨v=1:=by omega
 rcases this with rfl|rfl <;> rfl
theorem tm5 (u:Int) (h0:0≤u) (h1:u≤5):aB .rem .i64 (aB .add .i64 u 1) 6=(if u=5 then 0 else u+1):=by
 have:u=0∨u=1∨u=2∨u=3∨u=4∨u=5:=by omega
 rcases this with rfl|rfl|rfl|rfl|rfl|rfl <;> rfl
structure Ts where
 Ys:KN→Bool
 UE:KN→Int
 Th:Int→Bool
 aaf:Int→Int→Bool
 Nc:Int→Int→Int
 qQ:Int→Int→BT
 aaq:Int→Int→BT
 cw:Int→Int→Int→KD
 WJ:KN→List Int→Int→KD
 Xh:KN→List Int→Int→KD
 bK:KN→Int→KD
 bL:KN→KD
 bN:KN→Int→KD
 YD:KN→Int→Int→KD
 aag:KN→KN→Bool
 nP:KN→Bool
 Zm:KN→KN→Bool
 aaB:KN→KN
 TG:KN→Bool
 Nj:Int→Bool
 ZG:List E→Bool
 cv:LN→Int→LD
 OR:LN→Bool
def Ts.U:Ts:=⟨nM,RX,Ni,Jj,JN,WR,bhT,Ra,UF,UH,Qm,Lo,JV,Wc,smK,UG,kb2,Wq,fun k=>nc k.x,ca,Je,fw,xE⟩
def lK (F:Ts):aW:=fun xs h=>match xs,h with
 |[.agg [.val (.int .i64 b_u),.val (.int .i64 b_v)]],[]=>some ⟨True,.sa (I (F.Nc b_u b_v)),[],[Any]⟩
 |_,_=>none
theorem Gz (b_u:Int) (b_v:Int):aR [] Tryz.f79 [.agg [.val (.int .i64 b_u),.val (.int .i64 b_v)]] [] ⟨True,.sa (I (Ts.U.Nc b_u b_v)),[],[Any]⟩:=by
 intro b gv
 generalize hF:Ts.U=F
 generalize hA:Ar.U=A
 generalize hL:Lp _ _ _=L
 obtain⟨Z,zq⟩:=aH
 refine aA (aa hL) zq rfl ?_
 repeat' (first|(refine ay zq ?_;try dsimp only)|refine ax zq ?_ (aa hL)|refine az zq ?_|refine aw ?_|refine aq ?_|refine au ?_|refine ar ?_|refine al rfl ?_|refine ai rfl ?_|refine aj rfl ?_|(refine Cd.mk ?_;cbv)|(refine aF.mk ?_;cbv)|(refine aK.mk ?_;cbv)|exact trivial|refine And.intro ?_ ?_|refine aZ fun _=>?_|refine ba fun _=>?_)
 all_goals
  clear hL zq Z
  subst hF hA
  simp only [Ts.U,Ar.U] at *
  try (grind [ah,aY,wr,JN,Jj])
theorem mT:aC Tryz.prog 79 (lK Ts.U):=by
 refine aD af.nil Tryz.func79 rfl rfl fun xs h p hp=>?_
 unfold lK at hp
 split at hp
 ·cases hp
  exact⟨av rfl,fun _ _=>Gz _ _⟩
 ·cases hp
def uu (F:Ts):aW:=fun xs h=>match xs,h with
 |[.agg [.val (.int .i64 b_u),.val (.int .i64 b_v)]],[]=>some ⟨True,.bB [.agg [.val (.int .i64 (F.qQ b_u b_v).u),.val (.int .i64 (F.qQ b_u b_v).v)],B (F.qQ b_u b_v).a,B (F.qQ b_u b_v).b,I (F.qQ b_u b_v).e],[],[Any]⟩
 |_,_=>none
theorem Jy (b_u:Int) (b_v:Int):aR [(79,lK Ts.U)] Tryz.f61 [.agg [.val (.int .i64 b_u),.val (.int .i64 b_v)]] [] ⟨True,.bB [.agg [.val (.int .i64 (Ts.U.qQ b_u b_v).u),.val (.int .i64 (Ts.U.qQ b_u b_v).v)],B (Ts.U.qQ b_u b_v).a,B (Ts.U.qQ b_u b_v).b,I (Ts.U.qQ b_u b_v).e],[],[Any]⟩:=by
 intro b gv
 have e1:=tm1 b_v
 have e5:=tm5 b_u
 generalize hF:Ts.U=F
 generalize hA:Ar.U=A
 generalize hL:Lp _ _ _=L
 obtain⟨Z,zq⟩:=aH
 refine aA (aa hL) zq rfl ?_
 repeat' (first|(refine ay zq ?_;try dsimp only)|refine ax zq ?_ (aa hL)|refine az zq ?_|refine aw ?_|refine aq ?_|refine au ?_|refine ar ?_|refine al rfl ?_|refine ai rfl ?_|refine aj rfl ?_|(refine Cd.mk ?_;cbv)|(refine aF.mk ?_;cbv)|(refine aK.mk ?_;cbv)|exact trivial|refine And.intro ?_ ?_|refine aZ fun _=>?_|refine ba fun _=>?_)
 all_goals
  clear hL zq Z
  subst hF hA
  simp only [Ts.U,Ar.U] at *
  try (grind [ah,aY,wr,WR,JN,Jj])
theorem FY:aC Tryz.prog 61 (uu Ts.U):=by
 refine aD (af.cons mT af.nil rfl) Tryz.func61 rfl rfl fun xs h p hp=>?_
 unfold uu at hp
 split at hp
 ·cases hp
  exact⟨av rfl,fun _ _=>Jy _ _⟩
 ·cases hp
def mN (F:Ts):aW:=fun xs h=>match xs,h with
 |[.one (.val (.int .i64 w))],[]=>some ⟨True,.sa (B (F.Th w)),[],[Any]⟩
 |_,_=>none
theorem Dz (w:Int):aR [] Tryz.f44 [.one (.val (.int .i64 w))] [] ⟨True,.sa (B (Ts.U.Th w)),[],[Any]⟩:=by
 intro b gv
 generalize hF:Ts.U=F
 generalize hA:Ar.U=A
 generalize hL:Lp _ _ _=L
 obtain⟨Z,zq⟩:=aH
 refine aA (aa hL) zq rfl ?_
 repeat' (first|(refine ay zq ?_;try dsimp only)|refine ax zq ?_ (aa hL)|refine az zq ?_|refine aw ?_|refine aq ?_|refine au ?_|refine ar ?_|refine al rfl ?_|refine ai rfl ?_|refine aj rfl ?_|(refine Cd.mk ?_;cbv)|(refine aF.mk ?_;cbv)|(refine aK.mk ?_;cbv)|exact trivial|refine And.intro ?_ ?_|refine aZ fun _=>?_|refine ba fun _=>?_)
 all_goals
  clear hL zq Z
  subst hF hA
  simp only [Ts.U,Ar.U] at *
  try (grind [ah,aY,wr,Ni])
theorem qF:aC Tryz.prog 44 (mN Ts.U):=by
 refine aD af.nil Tryz.func44 rfl rfl fun xs h p hp=>?_
 unfold mN at hp
 split at hp
 ·cases hp
  exact⟨av rfl,fun _ _=>Dz _⟩
 ·cases hp
def lh (F:Ts):aW:=fun xs h=>match xs,h with
 |[.one (.val (.int .i64 n))],[]=>some ⟨True,.sa (B (F.Nj n)),[],[Any]⟩
 |_,_=>none
theorem GX (n:Int):aR [] Tryz.f45 [.one (.val (.int .i64 n))] [] ⟨True,.sa (B (Ts.U.Nj n)),[],[Any]⟩:=by
 intro b gv
 generalize hF:Ts.U=F
 generalize hA:Ar.U=A
 generalize hL:Lp _ _ _=L
 obtain⟨Z,zq⟩:=aH
 refine aA (aa hL) zq rfl ?_
 repeat' (first|(refine ay zq ?_;try dsimp only)|refine ax zq ?_ (aa hL)|refine az zq ?_|refine aw ?_|refine aq ?_|refine au ?_|refine ar ?_|refine al rfl ?_|refine ai rfl ?_|refine aj rfl ?_|(refine Cd.mk ?_;cbv)|(refine aF.mk ?_;cbv)|(refine aK.mk ?_;cbv)|exact trivial|refine And.intro ?_ ?_|refine aZ fun _=>?_|refine ba fun _=>?_)
 all_goals
  clear hL zq Z
  subst hF hA
  simp only [Ts.U,Ar.U] at *
  try (grind [ah,aY,wr,ca])
theorem mG:aC Tryz.prog 45 (lh Ts.U):=by
 refine aD af.nil Tryz.func45 rfl rfl fun xs h p hp=>?_
 unfold lh at hp
 split at hp
 ·cases hp
  exact⟨av rfl,fun _ _=>GX _⟩
 ·cases hp
def oB (F:Ts):aW:=fun xs h=>match xs,h with
 |[.agg [.val (.int .i64 v_h),.val (.int .i64 v_g),.val (.int .i64 v_xl),.val (.int .i64 v_xc),.val (.int .i64 v_xp),.val (.bool v_xo),.val (.int .i64 v_xb),.val (.int .i64 v_xs),.sl none (.ae (.ints .u8 .nil) v_xq),.val (.int .i64 v_xt),.val (.int .i64 v_xn),.val (.bool v_xw),.val (.int .i64 v_u),.val (.int .i64 v_v)]],[]=>some ⟨True,.sa (B (F.TG ⟨v_h,v_g,⟨v_xl,v_xc,v_xp,v_xo,v_xb,v_xs,v_xq,v_xt,v_xn,v_xw⟩,v_u,v_v⟩)),[],[Any]⟩
 |_,_=>none
theorem Ku (v_h:Int) (v_g:Int) (v_xl:Int) (v_xc:Int) (v_xp:Int) (v_xo:Bool) (v_xb:Int) (v_xs:Int) (v_xq:List E) (v_xt:Int) (v_xn:Int) (v_xw:Bool) (v_u:Int) (v_v:Int):aR [] Tryz.f58 [.agg [.val (.int .i64 v_h),.val (.int .i64 v_g),.val (.int .i64 v_xl),.val (.int .i64 v_xc),.val (.int .i64 v_xp),.val (.bool v_xo),.val (.int .i64 v_xb),.val (.int .i64 v_xs),.sl none (.ae (.ints .u8 .nil) v_xq),.val (.int .i64 v_xt),.val (.int .i64 v_xn),.val (.bool v_xw),.val (.int .i64 v_u),.val (.int .i64 v_v)]] [] ⟨True,.sa (B (Ts.U.TG ⟨v_h,v_g,⟨v_xl,v_xc,v_xp,v_xo,v_xb,v_xs,v_xq,v_xt,v_xn,v_xw⟩,v_u,v_v⟩)),[],[Any]⟩:=by
 intro b gv
 generalize hF:Ts.U=F
 generalize hA:Ar.U=A
 generalize hL:Lp _ _ _=L
 obtain⟨Z,zq⟩:=aH
 refine aA (aa hL) zq rfl ?_
 repeat' (first|(refine ay zq ?_;try dsimp only)|refine ax zq ?_ (aa hL)|refine az zq ?_|refine aw ?_|refine aq ?_|refine au ?_|refine ar ?_|refine al rfl ?_|refine ai rfl ?_|refine aj rfl ?_|(refine Cd.mk ?_;cbv)|(refine aF.mk ?_;cbv)|(refine aK.mk ?_;cbv)|exact trivial|refine And.intro ?_ ?_|refine aZ fun _=>?_|refine ba fun _=>?_)
 all_goals
  clear hL zq Z
  subst hF hA
  simp only [Ts.U,Ar.U] at *
  try (grind [ah,aY,wr,nc])
theorem qm:aC Tryz.prog 58 (oB Ts.U):=by
 refine aD af.nil Tryz.func58 rfl rfl fun xs h p hp=>?_
 unfold oB at hp
 split at hp
 ·cases hp
  exact⟨av rfl,fun _ _=>Ku _ _ _ _ _ _ _ _ _ _ _ _ _ _⟩
 ·cases hp
def gj (F:Ts):aW:=fun xs h=>match xs,h with
 |[.agg [.val (.int .i64 v_h),.val (.int .i64 v_g),.val (.int .i64 v_xl),.val (.int .i64 v_xc),.val (.int .i64 v_xp),.val (.bool v_xo),.val (.int .i64 v_xb),.val (.int .i64 v_xs),.sl none (.ae (.ints .u8 .nil) v_xq),.val (.int .i64 v_xt),.val (.int .i64 v_xn),.val (.bool v_xw),.val (.int .i64 v_u),.val (.int .i64 v_v)]],[]=>some ⟨F.nP ⟨v_h,v_g,⟨v_xl,v_xc,v_xp,v_xo,v_xb,v_xs,v_xq,v_xt,v_xn,v_xw⟩,v_u,v_v⟩=true,.sa (I (F.UE ⟨v_h,v_g,⟨v_xl,v_xc,v_xp,v_xo,v_xb,v_xs,v_xq,v_xt,v_xn,v_xw⟩,v_u,v_v⟩)),[],[Any]⟩
 |_,_=>none
theorem Hv (v_h:Int) (v_g:Int) (v_xl:Int) (v_xc:Int) (v_xp:Int) (v_xo:Bool) (v_xb:Int) (v_xs:Int) (v_xq:List E) (v_xt:Int) (v_xn:Int) (v_xw:Bool) (v_u:Int) (v_v:Int) (hC:Ts.U.nP ⟨v_h,v_g,⟨v_xl,v_xc,v_xp,v_xo,v_xb,v_xs,v_xq,v_xt,v_xn,v_xw⟩,v_u,v_v⟩=true):aR [(44,mN Ts.U),(78,gk Ks.U),(79,lK Ts.U),(58,oB Ts.U)] Tryz.f40 [.agg [.val (.int .i64 v_h),.val (.int .i64 v_g),.val (.int .i64 v_xl),.val (.int .i64 v_xc),.val (.int .i64 v_xp),.val (.bool v_xo),.val (.int .i64 v_xb),.val (.int .i64 v_xs),.sl none (.ae (.ints .u8 .nil) v_xq),.val (.int .i64 v_xt),.val (.int .i64 v_xn),.val (.bool v_xw),.val (.int .i64 v_u),.val (.int .i64 v_v)]] [] ⟨Ts.U.nP ⟨v_h,v_g,⟨v_xl,v_xc,v_xp,v_xo,v_xb,v_xs,v_xq,v_xt,v_xn,v_xw⟩,v_u,v_v⟩=true,.sa (I (Ts.U.UE ⟨v_h,v_g,⟨v_xl,v_xc,v_xp,v_xo,v_xb,v_xs,v_xq,v_xt,v_xn,v_xw⟩,v_u,v_v⟩)),[],[Any]⟩:=by
 intro b gv
 have hkb:xE ⟨v_xl,v_xc,v_xp,v_xo,v_xb,v_xs,v_xq,v_xt,v_xn,v_xw⟩=true:=hC
 have hbs:kW v_xq=true:=hkb
 have hfs:=(af.cons qF (af.cons dG (af.cons mT (af.cons qm af.nil rfl) rfl) rfl) rfl)
 generalize hF:Ts.U=F at hC hfs ⊢
 generalize hG0:Ks.U=G0 at hC hfs ⊢
 generalize hA:Ar.U=A
 generalize hL:Lp _ _ _=L
 obtain⟨Z,zq⟩:=aH
 refine aA (aa hL) zq rfl ?_
 repeat' (first|(refine ay zq ?_;try dsimp only)|refine ax zq ?_ (aa hL)|refine az zq ?_|refine aw ?_|refine aq ?_|refine au ?_|refine ar ?_|refine al rfl ?_|refine ai rfl ?_|refine aj rfl ?_|(refine Cd.mk ?_;cbv)|(refine aF.mk ?_;cbv)|(refine aK.mk ?_;cbv)|exact trivial|refine And.intro ?_ ?_|refine aZ fun _=>?_|refine ba fun _=>?_)
 all_goals
  clear hL zq Z hfs
  subst hF hA hG0
  simp only [Ts.U,Ks.U,Ar.U] at *
  try (grind [ah,aY,wr,RX,nM,RY,JN,Ni])
theorem dY:aC Tryz.prog 40 (gj Ts.U):=by
 refine aD (af.cons qF (af.cons dG (af.cons mT (af.cons qm af.nil rfl) rfl) rfl) rfl) Tryz.func40 rfl rfl fun xs h p hp=>?_
 unfold gj at hp
 split at hp
 ·cases hp
  exact⟨av rfl,fun hC _=>Hv _ _ _ _ _ _ _ _ _ _ _ _ _ _ hC⟩
 ·cases hp
def zt (F:Ts):aW:=fun xs h=>match xs,h with
 |[.one (.val (.int .i64 h)),.one (.val (.int .i64 g)),.one (.val (.int .i64 n))],[]=>some ⟨True,.bB [.agg [.val (.int .i64 ((F.cw h g n).k).h),.val (.int .i64 ((F.cw h g n).k).g),.val (.int .i64 ((F.cw h g n).k).x.l),.val (.int .i64 ((F.cw h g n).k).x.c),.val (.int .i64 ((F.cw h g n).k).x.p),.val (.bool ((F.cw h g n).k).x.o),.val (.int .i64 ((F.cw h g n).k).x.b),.val (.int .i64 ((F.cw h g n).k).x.s),.sl none (.ae (.ints .u8 .nil) ((F.cw h g n).k).x.q),.val (.int .i64 ((F.cw h g n).k).x.t),.val (.int .i64 ((F.cw h g n).k).x.n),.val (.bool ((F.cw h g n).k).x.w),.val (.int .i64 ((F.cw h g n).k).u),.val (.int .i64 ((F.cw h g n).k).v)],I (F.cw h g n).e],[],[Any,Any,Any]⟩
 |_,_=>none
theorem OA (h:Int) (g:Int) (n:Int):aR [(39,yj Ks.U),(40,gj Ts.U)] Tryz.f19 [.one (.val (.int .i64 h)),.one (.val (.int .i64 g)),.one (.val (.int .i64 n))] [] ⟨True,.bB [.agg [.val (.int .i64 ((Ts.U.cw h g n).k).h),.val (.int .i64 ((Ts.U.cw h g n).k).g),.val (.int .i64 ((Ts.U.cw h g n).k).x.l),.val (.int .i64 ((Ts.U.cw h g n).k).x.c),.val (.int .i64 ((Ts.U.cw h g n).k).x.p),.val (.bool ((Ts.U.cw h g n).k).x.o),.val (.int .i64 ((Ts.U.cw h g n).k).x.b),.val (.int .i64 ((Ts.U.cw h g n).k).x.s),.sl none (.ae (.ints .u8 .nil) ((Ts.U.cw h g n).k).x.q),.val (.int .i64 ((Ts.U.cw h g n).k).x.t),.val (.int .i64 ((Ts.U.cw h g n).k).x.n),.val (.bool ((Ts.U.cw h g n).k).x.w),.val (.int .i64 ((Ts.U.cw h g n).k).u),.val (.int .i64 ((Ts.U.cw h g n).k).v)],I (Ts.U.cw h g n).e],[],[Any,Any,Any]⟩:=by
 intro b gv
 have hby:kW (ml n).x.q=true:=by
  cases hl:ca n with
  |true=>exact ((pW (n:=n)).1 hl).2.2.1
  |false=>rw [(pW (n:=n)).2 hl];rfl
 have hfs:=(af.cons Aa (af.cons dY af.nil rfl) rfl)
 generalize hF:Ts.U=F at hfs ⊢
 generalize hG0:Ks.U=G0 at hfs ⊢
 generalize hA:Ar.U=A
 generalize hL:Lp _ _ _=L
 obtain⟨Z,zq⟩:=aH
 refine aA (aa hL) zq rfl ?_
 repeat' (first|(refine ay zq ?_;try dsimp only)|refine ax zq ?_ (aa hL)|refine az zq ?_|refine aw ?_|refine aq ?_|refine au ?_|refine ar ?_|refine al rfl ?_|refine ai rfl ?_|refine aj rfl ?_|(refine Cd.mk ?_;cbv)|(refine aF.mk ?_;cbv)|(refine aK.mk ?_;cbv)|exact trivial|refine And.intro ?_ ?_|refine aZ fun _=>?_|refine ba fun _=>?_)
 all_goals
  clear hL zq Z hfs
  subst hF hA hG0
  simp only [Ts.U,Ks.U,Ar.U,yA] at *
  try (grind [ah,aY,wr,Ra,zK,zL,RX,UG,xE])
theorem Bh:aC Tryz.prog 19 (zt Ts.U):=by
 refine aD (af.cons Aa (af.cons dY af.nil rfl) rfl) Tryz.func19 rfl rfl fun xs h p hp=>?_
 unfold zt at hp
 split at hp
 ·cases hp
  exact⟨av rfl,fun _ _=>OA _ _ _⟩
 ·cases hp
def pr (F:Ts):aW:=fun xs h=>match xs,h with
 |[.agg [.val (.int .i64 v_h),.val (.int .i64 v_g),.val (.int .i64 v_xl),.val (.int .i64 v_xc),.val (.int .i64 v_xp),.val (.bool v_xo),.val (.int .i64 v_xb),.val (.int .i64 v_xs),.sl none (.ae (.ints .u8 .nil) v_xq),.val (.int .i64 v_xt),.val (.int .i64 v_xn),.val (.bool v_xw),.val (.int .i64 v_u),.val (.int .i64 v_v)],.one (.val (.int .i64 n))],[]=>some ⟨F.nP ⟨v_h,v_g,⟨v_xl,v_xc,v_xp,v_xo,v_xb,v_xs,v_xq,v_xt,v_xn,v_xw⟩,v_u,v_v⟩=true,.bB [.agg [.val (.int .i64 ((F.bN ⟨v_h,v_g,⟨v_xl,v_xc,v_xp,v_xo,v_xb,v_xs,v_xq,v_xt,v_xn,v_xw⟩,v_u,v_v⟩ n).k).h),.val (.int .i64 ((F.bN ⟨v_h,v_g,⟨v_xl,v_xc,v_xp,v_xo,v_xb,v_xs,v_xq,v_xt,v_xn,v_xw⟩,v_u,v_v⟩ n).k).g),.val (.int .i64 ((F.bN ⟨v_h,v_g,⟨v_xl,v_xc,v_xp,v_xo,v_xb,v_xs,v_xq,v_xt,v_xn,v_xw⟩,v_u,v_v⟩ n).k).x.l),.val (.int .i64 ((F.bN ⟨v_h,v_g,⟨v_xl,v_xc,v_xp,v_xo,v_xb,v_xs,v_xq,v_xt,v_xn,v_xw⟩,v_u,v_v⟩ n).k).x.c),.val (.int .i64 ((F.bN ⟨v_h,v_g,⟨v_xl,v_xc,v_xp,v_xo,v_xb,v_xs,v_xq,v_xt,v_xn,v_xw⟩,v_u,v_v⟩ n).k).x.p),.val (.bool ((F.bN ⟨v_h,v_g,⟨v_xl,v_xc,v_xp,v_xo,v_xb,v_xs,v_xq,v_xt,v_xn,v_xw⟩,v_u,v_v⟩ n).k).x.o),.val (.int .i64 ((F.bN ⟨v_h,v_g,⟨v_xl,v_xc,v_xp,v_xo,v_xb,v_xs,v_xq,v_xt,v_xn,v_xw⟩,v_u,v_v⟩ n).k).x.b),.val (.int .i64 ((F.bN ⟨v_h,v_g,⟨v_xl,v_xc,v_xp,v_xo,v_xb,v_xs,v_xq,v_xt,v_xn,v_xw⟩,v_u,v_v⟩ n).k).x.s),.sl none (.ae (.ints .u8 .nil) ((F.bN ⟨v_h,v_g,⟨v_xl,v_xc,v_xp,v_xo,v_xb,v_xs,v_xq,v_xt,v_xn,v_xw⟩,v_u,v_v⟩ n).k).x.q),.val (.int .i64 ((F.bN ⟨v_h,v_g,⟨v_xl,v_xc,v_xp,v_xo,v_xb,v_xs,v_xq,v_xt,v_xn,v_xw⟩,v_u,v_v⟩ n).k).x.t),.val (.int .i64 ((F.bN ⟨v_h,v_g,⟨v_xl,v_xc,v_xp,v_xo,v_xb,v_xs,v_xq,v_xt,v_xn,v_xw⟩,v_u,v_v⟩ n).k).x.n),.val (.bool ((F.bN ⟨v_h,v_g,⟨v_xl,v_xc,v_xp,v_xo,v_xb,v_xs,v_xq,v_xt,v_xn,v_xw⟩,v_u,v_v⟩ n).k).x.w),.val (.int .i64 ((F.bN ⟨v_h,v_g,⟨v_xl,v_xc,v_xp,v_xo,v_xb,v_xs,v_xq,v_xt,v_xn,v_xw⟩,v_u,v_v⟩ n).k).u),.val (.int .i64 ((F.bN ⟨v_h,v_g,⟨v_xl,v_xc,v_xp,v_xo,v_xb,v_xs,v_xq,v_xt,v_xn,v_xw⟩,v_u,v_v⟩ n).k).v)],.agg [.sl none (.ae (.int .i64 (.int .i64 (.int .i64 (.int .i64 (.ints .u8 .nil))))) ((F.bN ⟨v_h,v_g,⟨v_xl,v_xc,v_xp,v_xo,v_xb,v_xs,v_xq,v_xt,v_xn,v_xw⟩,v_u,v_v⟩ n).y).f),.sl none (.ae (.ints .u8 .nil) ((F.bN ⟨v_h,v_g,⟨v_xl,v_xc,v_xp,v_xo,v_xb,v_xs,v_xq,v_xt,v_xn,v_xw⟩,v_u,v_v⟩ n).y).g),.val (.bool ((F.bN ⟨v_h,v_g,⟨v_xl,v_xc,v_xp,v_xo,v_xb,v_xs,v_xq,v_xt,v_xn,v_xw⟩,v_u,v_v⟩ n).y).d),.val (.int .i64 ((F.bN ⟨v_h,v_g,⟨v_xl,v_xc,v_xp,v_xo,v_xb,v_xs,v_xq,v_xt,v_xn,v_xw⟩,v_u,v_v⟩ n).y).s)],I (F.bN ⟨v_h,v_g,⟨v_xl,v_xc,v_xp,v_xo,v_xb,v_xs,v_xq,v_xt,v_xn,v_xw⟩,v_u,v_v⟩ n).e],[],[Any,Any]⟩
 |_,_=>none
theorem EO (v_h:Int) (v_g:Int) (v_xl:Int) (v_xc:Int) (v_xp:Int) (v_xo:Bool) (v_xb:Int) (v_xs:Int) (v_xq:List E) (v_xt:Int) (v_xn:Int) (v_xw:Bool) (v_u:Int) (v_v:Int) (n:Int) (hC:Ts.U.nP ⟨v_h,v_g,⟨v_xl,v_xc,v_xp,v_xo,v_xb,v_xs,v_xq,v_xt,v_xn,v_xw⟩,v_u,v_v⟩=true):aR [(40,gj Ts.U),(45,lh Ts.U),(81,pL Ks.U)] Tryz.f46 [.agg [.val (.int .i64 v_h),.val (.int .i64 v_g),.val (.int .i64 v_xl),.val (.int .i64 v_xc),.val (.int .i64 v_xp),.val (.bool v_xo),.val (.int .i64 v_xb),.val (.int .i64 v_xs),.sl none (.ae (.ints .u8 .nil) v_xq),.val (.int .i64 v_xt),.val (.int .i64 v_xn),.val (.bool v_xw),.val (.int .i64 v_u),.val (.int .i64 v_v)],.one (.val (.int .i64 n))] [] ⟨Ts.U.nP ⟨v_h,v_g,⟨v_xl,v_xc,v_xp,v_xo,v_xb,v_xs,v_xq,v_xt,v_xn,v_xw⟩,v_u,v_v⟩=true,.bB [.agg [.val (.int .i64 ((Ts.U.bN ⟨v_h,v_g,⟨v_xl,v_xc,v_xp,v_xo,v_xb,v_xs,v_xq,v_xt,v_xn,v_xw⟩,v_u,v_v⟩ n).k).h),.val (.int .i64 ((Ts.U.bN ⟨v_h,v_g,⟨v_xl,v_xc,v_xp,v_xo,v_xb,v_xs,v_xq,v_xt,v_xn,v_xw⟩,v_u,v_v⟩ n).k).g),.val (.int .i64 ((Ts.U.bN ⟨v_h,v_g,⟨v_xl,v_xc,v_xp,v_xo,v_xb,v_xs,v_xq,v_xt,v_xn,v_xw⟩,v_u,v_v⟩ n).k).x.l),.val (.int .i64 ((Ts.U.bN ⟨v_h,v_g,⟨v_xl,v_xc,v_xp,v_xo,v_xb,v_xs,v_xq,v_xt,v_xn,v_xw⟩,v_u,v_v⟩ n).k).x.c),.val (.int .i64 ((Ts.U.bN ⟨v_h,v_g,⟨v_xl,v_xc,v_xp,v_xo,v_xb,v_xs,v_xq,v_xt,v_xn,v_xw⟩,v_u,v_v⟩ n).k).x.p),.val (.bool ((Ts.U.bN ⟨v_h,v_g,⟨v_xl,v_xc,v_xp,v_xo,v_xb,v_xs,v_xq,v_xt,v_xn,v_xw⟩,v_u,v_v⟩ n).k).x.o),.val (.int .i64 ((Ts.U.bN ⟨v_h,v_g,⟨v_xl,v_xc,v_xp,v_xo,v_xb,v_xs,v_xq,v_xt,v_xn,v_xw⟩,v_u,v_v⟩ n).k).x.b),.val (.int .i64 ((Ts.U.bN ⟨v_h,v_g,⟨v_xl,v_xc,v_xp,v_xo,v_xb,v_xs,v_xq,v_xt,v_xn,v_xw⟩,v_u,v_v⟩ n).k).x.s),.sl none (.ae (.ints .u8 .nil) ((Ts.U.bN ⟨v_h,v_g,⟨v_xl,v_xc,v_xp,v_xo,v_xb,v_xs,v_xq,v_xt,v_xn,v_xw⟩,v_u,v_v⟩ n).k).x.q),.val (.int .i64 ((Ts.U.bN ⟨v_h,v_g,⟨v_xl,v_xc,v_xp,v_xo,v_xb,v_xs,v_xq,v_xt,v_xn,v_xw⟩,v_u,v_v⟩ n).k).x.t),.val (.int .i64 ((Ts.U.bN ⟨v_h,v_g,⟨v_xl,v_xc,v_xp,v_xo,v_xb,v_xs,v_xq,v_xt,v_xn,v_xw⟩,v_u,v_v⟩ n).k).x.n),.val (.bool ((Ts.U.bN ⟨v_h,v_g,⟨v_xl,v_xc,v_xp,v_xo,v_xb,v_xs,v_xq,v_xt,v_xn,v_xw⟩,v_u,v_v⟩ n).k).x.w),.val (.int .i64 ((Ts.U.bN ⟨v_h,v_g,⟨v_xl,v_xc,v_xp,v_xo,v_xb,v_xs,v_xq,v_xt,v_xn,v_xw⟩,v_u,v_v⟩ n).k).u),.val (.int .i64 ((Ts.U.bN ⟨v_h,v_g,⟨v_xl,v_xc,v_xp,v_xo,v_xb,v_xs,v_xq,v_xt,v_xn,v_xw⟩,v_u,v_v⟩ n).k).v)],.agg [.sl none (.ae (.int .i64 (.int .i64 (.int .i64 (.int .i64 (.ints .u8 .nil))))) ((Ts.U.bN ⟨v_h,v_g,⟨v_xl,v_xc,v_xp,v_xo,v_xb,v_xs,v_xq,v_xt,v_xn,v_xw⟩,v_u,v_v⟩ n).y).f),.sl none (.ae (.ints .u8 .nil) ((Ts.U.bN ⟨v_h,v_g,⟨v_xl,v_xc,v_xp,v_xo,v_xb,v_xs,v_xq,v_xt,v_xn,v_xw⟩,v_u,v_v⟩ n).y).g),.val (.bool ((Ts.U.bN ⟨v_h,v_g,⟨v_xl,v_xc,v_xp,v_xo,v_xb,v_xs,v_xq,v_xt,v_xn,v_xw⟩,v_u,v_v⟩ n).y).d),.val (.int .i64 ((Ts.U.bN ⟨v_h,v_g,⟨v_xl,v_xc,v_xp,v_xo,v_xb,v_xs,v_xq,v_xt,v_xn,v_xw⟩,v_u,v_v⟩ n).y).s)],I (Ts.U.bN ⟨v_h,v_g,⟨v_xl,v_xc,v_xp,v_xo,v_xb,v_xs,v_xq,v_xt,v_xn,v_xw⟩,v_u,v_v⟩ n).e],[],[Any,Any]⟩:=by
 intro b gv
 have hkb:xE ⟨v_xl,v_xc,v_xp,v_xo,v_xb,v_xs,v_xq,v_xt,v_xn,v_xw⟩=true:=hC
 have hbs:kW v_xq=true:=hkb
 have hfs:=(af.cons dY (af.cons mG (af.cons rS af.nil rfl) rfl) rfl)
 generalize hF:Ts.U=F at hC hfs ⊢
 generalize hG0:Ks.U=G0 at hC hfs ⊢
 generalize hA:Ar.U=A
 generalize hL:Lp _ _ _=L
 obtain⟨Z,zq⟩:=aH
 refine aA (aa hL) zq rfl ?_
 repeat' (first|(refine ay zq ?_;try dsimp only)|refine ax zq ?_ (aa hL)|refine az zq ?_|refine aw ?_|refine aq ?_|refine au ?_|refine ar ?_|refine al rfl ?_|refine ai rfl ?_|refine aj rfl ?_|(refine Cd.mk ?_;cbv)|(refine aF.mk ?_;cbv)|(refine aK.mk ?_;cbv)|exact trivial|refine And.intro ?_ ?_|refine aZ fun _=>?_|refine ba fun _=>?_)
 all_goals
  clear hL zq Z hfs
  subst hF hA hG0
  simp only [Ts.U,Ks.U,Ar.U] at *
  try (grind [ah,aY,wr,JV,zK,zL,zN,RX])
theorem DH:aC Tryz.prog 46 (pr Ts.U):=by
 refine aD (af.cons dY (af.cons mG (af.cons rS af.nil rfl) rfl) rfl) Tryz.func46 rfl rfl fun xs h p hp=>?_
 unfold pr at hp
 split at hp
 ·cases hp
  exact⟨av rfl,fun hC _=>EO _ _ _ _ _ _ _ _ _ _ _ _ _ _ _ hC⟩
 ·cases hp
def qw (F:Ts):aW:=fun xs h=>match xs,h with
 |[.agg [.val (.int .i64 v_h),.val (.int .i64 v_g),.val (.int .i64 v_xl),.val (.int .i64 v_xc),.val (.int .i64 v_xp),.val (.bool v_xo),.val (.int .i64 v_xb),.val (.int .i64 v_xs),.sl none (.ae (.ints .u8 .nil) v_xq),.val (.int .i64 v_xt),.val (.int .i64 v_xn),.val (.bool v_xw),.val (.int .i64 v_u),.val (.int .i64 v_v)]],[]=>some ⟨F.nP ⟨v_h,v_g,⟨v_xl,v_xc,v_xp,v_xo,v_xb,v_xs,v_xq,v_xt,v_xn,v_xw⟩,v_u,v_v⟩=true,.bB [.agg [.val (.int .i64 ((F.bL ⟨v_h,v_g,⟨v_xl,v_xc,v_xp,v_xo,v_xb,v_xs,v_xq,v_xt,v_xn,v_xw⟩,v_u,v_v⟩).k).h),.val (.int .i64 ((F.bL ⟨v_h,v_g,⟨v_xl,v_xc,v_xp,v_xo,v_xb,v_xs,v_xq,v_xt,v_xn,v_xw⟩,v_u,v_v⟩).k).g),.val (.int .i64 ((F.bL ⟨v_h,v_g,⟨v_xl,v_xc,v_xp,v_xo,v_xb,v_xs,v_xq,v_xt,v_xn,v_xw⟩,v_u,v_v⟩).k).x.l),.val (.int .i64 ((F.bL ⟨v_h,v_g,⟨v_xl,v_xc,v_xp,v_xo,v_xb,v_xs,v_xq,v_xt,v_xn,v_xw⟩,v_u,v_v⟩).k).x.c),.val (.int .i64 ((F.bL ⟨v_h,v_g,⟨v_xl,v_xc,v_xp,v_xo,v_xb,v_xs,v_xq,v_xt,v_xn,v_xw⟩,v_u,v_v⟩).k).x.p),.val (.bool ((F.bL ⟨v_h,v_g,⟨v_xl,v_xc,v_xp,v_xo,v_xb,v_xs,v_xq,v_xt,v_xn,v_xw⟩,v_u,v_v⟩).k).x.o),.val (.int .i64 ((F.bL ⟨v_h,v_g,⟨v_xl,v_xc,v_xp,v_xo,v_xb,v_xs,v_xq,v_xt,v_xn,v_xw⟩,v_u,v_v⟩).k).x.b),.val (.int .i64 ((F.bL ⟨v_h,v_g,⟨v_xl,v_xc,v_xp,v_xo,v_xb,v_xs,v_xq,v_xt,v_xn,v_xw⟩,v_u,v_v⟩).k).x.s),.sl none (.ae (.ints .u8 .nil) ((F.bL ⟨v_h,v_g,⟨v_xl,v_xc,v_xp,v_xo,v_xb,v_xs,v_xq,v_xt,v_xn,v_xw⟩,v_u,v_v⟩).k).x.q),.val (.int .i64 ((F.bL ⟨v_h,v_g,⟨v_xl,v_xc,v_xp,v_xo,v_xb,v_xs,v_xq,v_xt,v_xn,v_xw⟩,v_u,v_v⟩).k).x.t),.val (.int .i64 ((F.bL ⟨v_h,v_g,⟨v_xl,v_xc,v_xp,v_xo,v_xb,v_xs,v_xq,v_xt,v_xn,v_xw⟩,v_u,v_v⟩).k).x.n),.val (.bool ((F.bL ⟨v_h,v_g,⟨v_xl,v_xc,v_xp,v_xo,v_xb,v_xs,v_xq,v_xt,v_xn,v_xw⟩,v_u,v_v⟩).k).x.w),.val (.int .i64 ((F.bL ⟨v_h,v_g,⟨v_xl,v_xc,v_xp,v_xo,v_xb,v_xs,v_xq,v_xt,v_xn,v_xw⟩,v_u,v_v⟩).k).u),.val (.int .i64 ((F.bL ⟨v_h,v_g,⟨v_xl,v_xc,v_xp,v_xo,v_xb,v_xs,v_xq,v_xt,v_xn,v_xw⟩,v_u,v_v⟩).k).v)],.agg [.sl none (.ae (.int .i64 (.int .i64 (.int .i64 (.int .i64 (.ints .u8 .nil))))) ((F.bL ⟨v_h,v_g,⟨v_xl,v_xc,v_xp,v_xo,v_xb,v_xs,v_xq,v_xt,v_xn,v_xw⟩,v_u,v_v⟩).y).f),.sl none (.ae (.ints .u8 .nil) ((F.bL ⟨v_h,v_g,⟨v_xl,v_xc,v_xp,v_xo,v_xb,v_xs,v_xq,v_xt,v_xn,v_xw⟩,v_u,v_v⟩).y).g),.val (.bool ((F.bL ⟨v_h,v_g,⟨v_xl,v_xc,v_xp,v_xo,v_xb,v_xs,v_xq,v_xt,v_xn,v_xw⟩,v_u,v_v⟩).y).d),.val (.int .i64 ((F.bL ⟨v_h,v_g,⟨v_xl,v_xc,v_xp,v_xo,v_xb,v_xs,v_xq,v_xt,v_xn,v_xw⟩,v_u,v_v⟩).y).s)],I (F.bL ⟨v_h,v_g,⟨v_xl,v_xc,v_xp,v_xo,v_xb,v_xs,v_xq,v_xt,v_xn,v_xw⟩,v_u,v_v⟩).e],[],[Any]⟩
 |_,_=>none
theorem FO (v_h:Int) (v_g:Int) (v_xl:Int) (v_xc:Int) (v_xp:Int) (v_xo:Bool) (v_xb:Int) (v_xs:Int) (v_xq:List E) (v_xt:Int) (v_xn:Int) (v_xw:Bool) (v_u:Int) (v_v:Int) (hC:Ts.U.nP ⟨v_h,v_g,⟨v_xl,v_xc,v_xp,v_xo,v_xb,v_xs,v_xq,v_xt,v_xn,v_xw⟩,v_u,v_v⟩=true):aR [(40,gj Ts.U),(91,tg Ks.U)] Tryz.f54 [.agg [.val (.int .i64 v_h),.val (.int .i64 v_g),.val (.int .i64 v_xl),.val (.int .i64 v_xc),.val (.int .i64 v_xp),.val (.bool v_xo),.val (.int .i64 v_xb),.val (.int .i64 v_xs),.sl none (.ae (.ints .u8 .nil) v_xq),.val (.int .i64 v_xt),.val (.int .i64 v_xn),.val (.bool v_xw),.val (.int .i64 v_u),.val (.int .i64 v_v)]] [] ⟨Ts.U.nP ⟨v_h,v_g,⟨v_xl,v_xc,v_xp,v_xo,v_xb,v_xs,v_xq,v_xt,v_xn,v_xw⟩,v_u,v_v⟩=true,.bB [.agg [.val (.int .i64 ((Ts.U.bL ⟨v_h,v_g,⟨v_xl,v_xc,v_xp,v_xo,v_xb,v_xs,v_xq,v_xt,v_xn,v_xw⟩,v_u,v_v⟩).k).h),.val (.int .i64 ((Ts.U.bL ⟨v_h,v_g,⟨v_xl,v_xc,v_xp,v_xo,v_xb,v_xs,v_xq,v_xt,v_xn,v_xw⟩,v_u,v_v⟩).k).g),.val (.int .i64 ((Ts.U.bL ⟨v_h,v_g,⟨v_xl,v_xc,v_xp,v_xo,v_xb,v_xs,v_xq,v_xt,v_xn,v_xw⟩,v_u,v_v⟩).k).x.l),.val (.int .i64 ((Ts.U.bL ⟨v_h,v_g,⟨v_xl,v_xc,v_xp,v_xo,v_xb,v_xs,v_xq,v_xt,v_xn,v_xw⟩,v_u,v_v⟩).k).x.c),.val (.int .i64 ((Ts.U.bL ⟨v_h,v_g,⟨v_xl,v_xc,v_xp,v_xo,v_xb,v_xs,v_xq,v_xt,v_xn,v_xw⟩,v_u,v_v⟩).k).x.p),.val (.bool ((Ts.U.bL ⟨v_h,v_g,⟨v_xl,v_xc,v_xp,v_xo,v_xb,v_xs,v_xq,v_xt,v_xn,v_xw⟩,v_u,v_v⟩).k).x.o),.val (.int .i64 ((Ts.U.bL ⟨v_h,v_g,⟨v_xl,v_xc,v_xp,v_xo,v_xb,v_xs,v_xq,v_xt,v_xn,v_xw⟩,v_u,v_v⟩).k).x.b),.val (.int .i64 ((Ts.U.bL ⟨v_h,v_g,⟨v_xl,v_xc,v_xp,v_xo,v_xb,v_xs,v_xq,v_xt,v_xn,v_xw⟩,v_u,v_v⟩).k).x.s),.sl none (.ae (.ints .u8 .nil) ((Ts.U.bL ⟨v_h,v_g,⟨v_xl,v_xc,v_xp,v_xo,v_xb,v_xs,v_xq,v_xt,v_xn,v_xw⟩,v_u,v_v⟩).k).x.q),.val (.int .i64 ((Ts.U.bL ⟨v_h,v_g,⟨v_xl,v_xc,v_xp,v_xo,v_xb,v_xs,v_xq,v_xt,v_xn,v_xw⟩,v_u,v_v⟩).k).x.t),.val (.int .i64 ((Ts.U.bL ⟨v_h,v_g,⟨v_xl,v_xc,v_xp,v_xo,v_xb,v_xs,v_xq,v_xt,v_xn,v_xw⟩,v_u,v_v⟩).k).x.n),.val (.bool ((Ts.U.bL ⟨v_h,v_g,⟨v_xl,v_xc,v_xp,v_xo,v_xb,v_xs,v_xq,v_xt,v_xn,v_xw⟩,v_u,v_v⟩).k).x.w),.val (.int .i64 ((Ts.U.bL ⟨v_h,v_g,⟨v_xl,v_xc,v_xp,v_xo,v_xb,v_xs,v_xq,v_xt,v_xn,v_xw⟩,v_u,v_v⟩).k).u),.val (.int .i64 ((Ts.U.bL ⟨v_h,v_g,⟨v_xl,v_xc,v_xp,v_xo,v_xb,v_xs,v_xq,v_xt,v_xn,v_xw⟩,v_u,v_v⟩).k).v)],.agg [.sl none (.ae (.int .i64 (.int .i64 (.int .i64 (.int .i64 (.ints .u8 .nil))))) ((Ts.U.bL ⟨v_h,v_g,⟨v_xl,v_xc,v_xp,v_xo,v_xb,v_xs,v_xq,v_xt,v_xn,v_xw⟩,v_u,v_v⟩).y).f),.sl none (.ae (.ints .u8 .nil) ((Ts.U.bL ⟨v_h,v_g,⟨v_xl,v_xc,v_xp,v_xo,v_xb,v_xs,v_xq,v_xt,v_xn,v_xw⟩,v_u,v_v⟩).y).g),.val (.bool ((Ts.U.bL ⟨v_h,v_g,⟨v_xl,v_xc,v_xp,v_xo,v_xb,v_xs,v_xq,v_xt,v_xn,v_xw⟩,v_u,v_v⟩).y).d),.val (.int .i64 ((Ts.U.bL ⟨v_h,v_g,⟨v_xl,v_xc,v_xp,v_xo,v_xb,v_xs,v_xq,v_xt,v_xn,v_xw⟩,v_u,v_v⟩).y).s)],I (Ts.U.bL ⟨v_h,v_g,⟨v_xl,v_xc,v_xp,v_xo,v_xb,v_xs,v_xq,v_xt,v_xn,v_xw⟩,v_u,v_v⟩).e],[],[Any]⟩:=by
 intro b gv
 have hkb:xE ⟨v_xl,v_xc,v_xp,v_xo,v_xb,v_xs,v_xq,v_xt,v_xn,v_xw⟩=true:=hC
 have hbs:kW v_xq=true:=hkb
 have hfs:=(af.cons dY (af.cons xm af.nil rfl) rfl)
 generalize hF:Ts.U=F at hC hfs ⊢
 generalize hG0:Ks.U=G0 at hC hfs ⊢
 generalize hA:Ar.U=A
 generalize hL:Lp _ _ _=L
 obtain⟨Z,zq⟩:=aH
 refine aA (aa hL) zq rfl ?_
 repeat' (first|(refine ay zq ?_;try dsimp only)|refine ax zq ?_ (aa hL)|refine az zq ?_|refine aw ?_|refine aq ?_|refine au ?_|refine ar ?_|refine al rfl ?_|refine ai rfl ?_|refine aj rfl ?_|(refine Cd.mk ?_;cbv)|(refine aF.mk ?_;cbv)|(refine aK.mk ?_;cbv)|exact trivial|refine And.intro ?_ ?_|refine aZ fun _=>?_|refine ba fun _=>?_)
 all_goals
  clear hL zq Z hfs
  subst hF hA hG0
  simp only [Ts.U,Ks.U,Ar.U] at *
  try (grind [ah,aY,wr,Lo,zK,zL,zN,RX])
theorem rB:aC Tryz.prog 54 (qw Ts.U):=by
 refine aD (af.cons dY (af.cons xm af.nil rfl) rfl) Tryz.func54 rfl rfl fun xs h p hp=>?_
 unfold qw at hp
 split at hp
 ·cases hp
  exact⟨av rfl,fun hC _=>FO _ _ _ _ _ _ _ _ _ _ _ _ _ _ hC⟩
 ·cases hp
theorem WG (b s:Int) (q:List E) (c:Int):(nd b s q c).length≤100000:=Qc b s q c
def oS (F:Ts):aW:=fun xs h=>match xs,h with
 |[.agg [.val (.int .i64 v_l),.val (.int .i64 v_c),.val (.int .i64 v_p),.val (.bool v_o),.val (.int .i64 v_b),.val (.int .i64 v_s),.sl none (.ae (.ints .u8 .nil) v_q),.val (.int .i64 v_t),.val (.int .i64 v_n),.val (.bool v_w)],.one (.val (.int .i64 n))],[]=>some ⟨F.OR ⟨v_l,v_c,v_p,v_o,v_b,v_s,v_q,v_t,v_n,v_w⟩=true,.bB [.agg [.val (.int .i64 ((F.cv ⟨v_l,v_c,v_p,v_o,v_b,v_s,v_q,v_t,v_n,v_w⟩ n).x).l),.val (.int .i64 ((F.cv ⟨v_l,v_c,v_p,v_o,v_b,v_s,v_q,v_t,v_n,v_w⟩ n).x).c),.val (.int .i64 ((F.cv ⟨v_l,v_c,v_p,v_o,v_b,v_s,v_q,v_t,v_n,v_w⟩ n).x).p),.val (.bool ((F.cv ⟨v_l,v_c,v_p,v_o,v_b,v_s,v_q,v_t,v_n,v_w⟩ n).x).o),.val (.int .i64 ((F.cv ⟨v_l,v_c,v_p,v_o,v_b,v_s,v_q,v_t,v_n,v_w⟩ n).x).b),.val (.int .i64 ((F.cv ⟨v_l,v_c,v_p,v_o,v_b,v_s,v_q,v_t,v_n,v_w⟩ n).x).s),.sl none (.ae (.ints .u8 .nil) ((F.cv ⟨v_l,v_c,v_p,v_o,v_b,v_s,v_q,v_t,v_n,v_w⟩ n).x).q),.val (.int .i64 ((F.cv ⟨v_l,v_c,v_p,v_o,v_b,v_s,v_q,v_t,v_n,v_w⟩ n).x).t),.val (.int .i64 ((F.cv ⟨v_l,v_c,v_p,v_o,v_b,v_s,v_q,v_t,v_n,v_w⟩ n).x).n),.val (.bool ((F.cv ⟨v_l,v_c,v_p,v_o,v_b,v_s,v_q,v_t,v_n,v_w⟩ n).x).w)],.agg [.sl (some (0,24)) (.ae (.int .i64 (.int .i64 (.int .i64 (.int .i64 (.ints .u8 .nil))))) (F.cv ⟨v_l,v_c,v_p,v_o,v_b,v_s,v_q,v_t,v_n,v_w⟩ n).y.f),.sl none (.ae (.ints .u8 .nil) (F.cv ⟨v_l,v_c,v_p,v_o,v_b,v_s,v_q,v_t,v_n,v_w⟩ n).y.g),.val (.bool (F.cv ⟨v_l,v_c,v_p,v_o,v_b,v_s,v_q,v_t,v_n,v_w⟩ n).y.d),.val (.int .i64 (F.cv ⟨v_l,v_c,v_p,v_o,v_b,v_s,v_q,v_t,v_n,v_w⟩ n).y.s)],I (F.cv ⟨v_l,v_c,v_p,v_o,v_b,v_s,v_q,v_t,v_n,v_w⟩ n).e],[(0,.tok)],[Any,Any]⟩
 |_,_=>none
theorem HJ (v_l:Int) (v_c:Int) (v_p:Int) (v_o:Bool) (v_b:Int) (v_s:Int) (v_q:List E) (v_t:Int) (v_n:Int) (v_w:Bool) (n:Int) (hC:Ts.U.OR ⟨v_l,v_c,v_p,v_o,v_b,v_s,v_q,v_t,v_n,v_w⟩=true):aR [(78,gk Ks.U),(97,jm Ks.U),(98,gh Ks.U),(104,xM Vs.U),(105,MJ Ks.U),(106,jE Ks.U)] Tryz.f60 [.agg [.val (.int .i64 v_l),.val (.int .i64 v_c),.val (.int .i64 v_p),.val (.bool v_o),.val (.int .i64 v_b),.val (.int .i64 v_s),.sl none (.ae (.ints .u8 .nil) v_q),.val (.int .i64 v_t),.val (.int .i64 v_n),.val (.bool v_w)],.one (.val (.int .i64 n))] [] ⟨Ts.U.OR ⟨v_l,v_c,v_p,v_o,v_b,v_s,v_q,v_t,v_n,v_w⟩=true,.bB [.agg [.val (.int .i64 ((Ts.U.cv ⟨v_l,v_c,v_p,v_o,v_b,v_s,v_q,v_t,v_n,v_w⟩ n).x).l),.val (.int .i64 ((Ts.U.cv ⟨v_l,v_c,v_p,v_o,v_b,v_s,v_q,v_t,v_n,v_w⟩ n).x).c),.val (.int .i64 ((Ts.U.cv ⟨v_l,v_c,v_p,v_o,v_b,v_s,v_q,v_t,v_n,v_w⟩ n).x).p),.val (.bool ((Ts.U.cv ⟨v_l,v_c,v_p,v_o,v_b,v_s,v_q,v_t,v_n,v_w⟩ n).x).o),.val (.int .i64 ((Ts.U.cv ⟨v_l,v_c,v_p,v_o,v_b,v_s,v_q,v_t,v_n,v_w⟩ n).x).b),.val (.int .i64 ((Ts.U.cv ⟨v_l,v_c,v_p,v_o,v_b,v_s,v_q,v_t,v_n,v_w⟩ n).x).s),.sl none (.ae (.ints .u8 .nil) ((Ts.U.cv ⟨v_l,v_c,v_p,v_o,v_b,v_s,v_q,v_t,v_n,v_w⟩ n).x).q),.val (.int .i64 ((Ts.U.cv ⟨v_l,v_c,v_p,v_o,v_b,v_s,v_q,v_t,v_n,v_w⟩ n).x).t),.val (.int .i64 ((Ts.U.cv ⟨v_l,v_c,v_p,v_o,v_b,v_s,v_q,v_t,v_n,v_w⟩ n).x).n),.val (.bool ((Ts.U.cv ⟨v_l,v_c,v_p,v_o,v_b,v_s,v_q,v_t,v_n,v_w⟩ n).x).w)],.agg [.sl (some (0,24)) (.ae (.int .i64 (.int .i64 (.int .i64 (.int .i64 (.ints .u8 .nil))))) (Ts.U.cv ⟨v_l,v_c,v_p,v_o,v_b,v_s,v_q,v_t,v_n,v_w⟩ n).y.f),.sl none (.ae (.ints .u8 .nil) (Ts.U.cv ⟨v_l,v_c,v_p,v_o,v_b,v_s,v_q,v_t,v_n,v_w⟩ n).y.g),.val (.bool (Ts.U.cv ⟨v_l,v_c,v_p,v_o,v_b,v_s,v_q,v_t,v_n,v_w⟩ n).y.d),.val (.int .i64 (Ts.U.cv ⟨v_l,v_c,v_p,v_o,v_b,v_s,v_q,v_t,v_n,v_w⟩ n).y.s)],I (Ts.U.cv ⟨v_l,v_c,v_p,v_o,v_b,v_s,v_q,v_t,v_n,v_w⟩ n).e],[(0,.tok)],[Any,Any]⟩:=by
 intro b gv
 have hlb:=zY (show xE ⟨v_l,v_c,v_p,v_o,v_b,v_s,v_q,v_t,v_n,v_w⟩=true from hC)
 dsimp only at hlb
 have htl:=WG v_b v_s v_q v_t
 have hfs:=(af.cons dG (af.cons gn (af.cons dH (af.cons Ao (af.cons AP (af.cons eF af.nil rfl) rfl) rfl) rfl) rfl) rfl)
 generalize hF:Ts.U=F at hC hfs ⊢
 generalize hG0:Ks.U=G0 at hC hfs ⊢
 generalize hG1:Vs.U=G1 at hC hfs ⊢
 generalize hA:Ar.U=A
 generalize hL:Lp _ _ _=L
 obtain⟨Z,zq⟩:=aH
 refine aA (aa hL) zq rfl ?_
 repeat' (first|(refine ay zq ?_;try dsimp only)|refine ax zq ?_ (aa hL)|refine az zq ?_|refine aw ?_|refine aq ?_|refine au ?_|refine ar ?_|refine al rfl ?_|refine ai rfl ?_|refine aj rfl ?_|(refine Cd.mk ?_;cbv)|(refine aF.mk ?_;cbv)|(refine aK.mk ?_;cbv)|exact trivial|refine And.intro ?_ ?_|refine aZ fun _=>?_|refine ba fun _=>?_)
 all_goals
  clear hL zq Z hfs
  subst hF hA hG0 hG1
  simp only [Ts.U,Ks.U,Vs.U,Ar.U] at *
  try (grind [ah,aY,wr,fw,zL,zN,RY,xS,qk,nc])
theorem Dr:aC Tryz.prog 60 (oS Ts.U):=by
 refine aD (af.cons dG (af.cons gn (af.cons dH (af.cons Ao (af.cons AP (af.cons eF af.nil rfl) rfl) rfl) rfl) rfl) rfl) Tryz.func60 rfl rfl fun xs h p hp=>?_
 unfold oS at hp
 split at hp
 ·cases hp
  exact⟨av rfl,fun hC _=>HJ _ _ _ _ _ _ _ _ _ _ _ hC⟩
 ·cases hp
def tT (F:Ts):aW:=fun xs h=>match xs,h with
 |[.agg [.val (.int .i64 v_h),.val (.int .i64 v_g),.val (.int .i64 v_xl),.val (.int .i64 v_xc),.val (.int .i64 v_xp),.val (.bool v_xo),.val (.int .i64 v_xb),.val (.int .i64 v_xs),.sl none (.ae (.ints .u8 .nil) v_xq),.val (.int .i64 v_xt),.val (.int .i64 v_xn),.val (.bool v_xw),.val (.int .i64 v_u),.val (.int .i64 v_v)],.one (.val (.int .i64 n))],[]=>some ⟨F.nP ⟨v_h,v_g,⟨v_xl,v_xc,v_xp,v_xo,v_xb,v_xs,v_xq,v_xt,v_xn,v_xw⟩,v_u,v_v⟩=true,.bB [.agg [.val (.int .i64 ((F.bK ⟨v_h,v_g,⟨v_xl,v_xc,v_xp,v_xo,v_xb,v_xs,v_xq,v_xt,v_xn,v_xw⟩,v_u,v_v⟩ n).k).h),.val (.int .i64 ((F.bK ⟨v_h,v_g,⟨v_xl,v_xc,v_xp,v_xo,v_xb,v_xs,v_xq,v_xt,v_xn,v_xw⟩,v_u,v_v⟩ n).k).g),.val (.int .i64 ((F.bK ⟨v_h,v_g,⟨v_xl,v_xc,v_xp,v_xo,v_xb,v_xs,v_xq,v_xt,v_xn,v_xw⟩,v_u,v_v⟩ n).k).x.l),.val (.int .i64 ((F.bK ⟨v_h,v_g,⟨v_xl,v_xc,v_xp,v_xo,v_xb,v_xs,v_xq,v_xt,v_xn,v_xw⟩,v_u,v_v⟩ n).k).x.c),.val (.int .i64 ((F.bK ⟨v_h,v_g,⟨v_xl,v_xc,v_xp,v_xo,v_xb,v_xs,v_xq,v_xt,v_xn,v_xw⟩,v_u,v_v⟩ n).k).x.p),.val (.bool ((F.bK ⟨v_h,v_g,⟨v_xl,v_xc,v_xp,v_xo,v_xb,v_xs,v_xq,v_xt,v_xn,v_xw⟩,v_u,v_v⟩ n).k).x.o),.val (.int .i64 ((F.bK ⟨v_h,v_g,⟨v_xl,v_xc,v_xp,v_xo,v_xb,v_xs,v_xq,v_xt,v_xn,v_xw⟩,v_u,v_v⟩ n).k).x.b),.val (.int .i64 ((F.bK ⟨v_h,v_g,⟨v_xl,v_xc,v_xp,v_xo,v_xb,v_xs,v_xq,v_xt,v_xn,v_xw⟩,v_u,v_v⟩ n).k).x.s),.sl none (.ae (.ints .u8 .nil) ((F.bK ⟨v_h,v_g,⟨v_xl,v_xc,v_xp,v_xo,v_xb,v_xs,v_xq,v_xt,v_xn,v_xw⟩,v_u,v_v⟩ n).k).x.q),.val (.int .i64 ((F.bK ⟨v_h,v_g,⟨v_xl,v_xc,v_xp,v_xo,v_xb,v_xs,v_xq,v_xt,v_xn,v_xw⟩,v_u,v_v⟩ n).k).x.t),.val (.int .i64 ((F.bK ⟨v_h,v_g,⟨v_xl,v_xc,v_xp,v_xo,v_xb,v_xs,v_xq,v_xt,v_xn,v_xw⟩,v_u,v_v⟩ n).k).x.n),.val (.bool ((F.bK ⟨v_h,v_g,⟨v_xl,v_xc,v_xp,v_xo,v_xb,v_xs,v_xq,v_xt,v_xn,v_xw⟩,v_u,v_v⟩ n).k).x.w),.val (.int .i64 ((F.bK ⟨v_h,v_g,⟨v_xl,v_xc,v_xp,v_xo,v_xb,v_xs,v_xq,v_xt,v_xn,v_xw⟩,v_u,v_v⟩ n).k).u),.val (.int .i64 ((F.bK ⟨v_h,v_g,⟨v_xl,v_xc,v_xp,v_xo,v_xb,v_xs,v_xq,v_xt,v_xn,v_xw⟩,v_u,v_v⟩ n).k).v)],.agg [.sl none (.ae (.int .i64 (.int .i64 (.int .i64 (.int .i64 (.ints .u8 .nil))))) ((F.bK ⟨v_h,v_g,⟨v_xl,v_xc,v_xp,v_xo,v_xb,v_xs,v_xq,v_xt,v_xn,v_xw⟩,v_u,v_v⟩ n).y).f),.sl none (.ae (.ints .u8 .nil) ((F.bK ⟨v_h,v_g,⟨v_xl,v_xc,v_xp,v_xo,v_xb,v_xs,v_xq,v_xt,v_xn,v_xw⟩,v_u,v_v⟩ n).y).g),.val (.bool ((F.bK ⟨v_h,v_g,⟨v_xl,v_xc,v_xp,v_xo,v_xb,v_xs,v_xq,v_xt,v_xn,v_xw⟩,v_u,v_v⟩ n).y).d),.val (.int .i64 ((F.bK ⟨v_h,v_g,⟨v_xl,v_xc,v_xp,v_xo,v_xb,v_xs,v_xq,v_xt,v_xn,v_xw⟩,v_u,v_v⟩ n).y).s)],I (F.bK ⟨v_h,v_g,⟨v_xl,v_xc,v_xp,v_xo,v_xb,v_xs,v_xq,v_xt,v_xn,v_xw⟩,v_u,v_v⟩ n).e],[],[Any,Any]⟩
 |_,_=>none
theorem LY (v_h:Int) (v_g:Int) (v_xl:Int) (v_xc:Int) (v_xp:Int) (v_xo:Bool) (v_xb:Int) (v_xs:Int) (v_xq:List E) (v_xt:Int) (v_xn:Int) (v_xw:Bool) (v_u:Int) (v_v:Int) (n:Int) (hC:Ts.U.nP ⟨v_h,v_g,⟨v_xl,v_xc,v_xp,v_xo,v_xb,v_xs,v_xq,v_xt,v_xn,v_xw⟩,v_u,v_v⟩=true):aR [(40,gj Ts.U),(45,lh Ts.U),(60,oS Ts.U),(58,oB Ts.U),(61,uu Ts.U),(46,pr Ts.U)] Tryz.f27 [.agg [.val (.int .i64 v_h),.val (.int .i64 v_g),.val (.int .i64 v_xl),.val (.int .i64 v_xc),.val (.int .i64 v_xp),.val (.bool v_xo),.val (.int .i64 v_xb),.val (.int .i64 v_xs),.sl none (.ae (.ints .u8 .nil) v_xq),.val (.int .i64 v_xt),.val (.int .i64 v_xn),.val (.bool v_xw),.val (.int .i64 v_u),.val (.int .i64 v_v)],.one (.val (.int .i64 n))] [] ⟨Ts.U.nP ⟨v_h,v_g,⟨v_xl,v_xc,v_xp,v_xo,v_xb,v_xs,v_xq,v_xt,v_xn,v_xw⟩,v_u,v_v⟩=true,.bB [.agg [.val (.int .i64 ((Ts.U.bK ⟨v_h,v_g,⟨v_xl,v_xc,v_xp,v_xo,v_xb,v_xs,v_xq,v_xt,v_xn,v_xw⟩,v_u,v_v⟩ n).k).h),.val (.int .i64 ((Ts.U.bK ⟨v_h,v_g,⟨v_xl,v_xc,v_xp,v_xo,v_xb,v_xs,v_xq,v_xt,v_xn,v_xw⟩,v_u,v_v⟩ n).k).g),.val (.int .i64 ((Ts.U.bK ⟨v_h,v_g,⟨v_xl,v_xc,v_xp,v_xo,v_xb,v_xs,v_xq,v_xt,v_xn,v_xw⟩,v_u,v_v⟩ n).k).x.l),.val (.int .i64 ((Ts.U.bK ⟨v_h,v_g,⟨v_xl,v_xc,v_xp,v_xo,v_xb,v_xs,v_xq,v_xt,v_xn,v_xw⟩,v_u,v_v⟩ n).k).x.c),.val (.int .i64 ((Ts.U.bK ⟨v_h,v_g,⟨v_xl,v_xc,v_xp,v_xo,v_xb,v_xs,v_xq,v_xt,v_xn,v_xw⟩,v_u,v_v⟩ n).k).x.p),.val (.bool ((Ts.U.bK ⟨v_h,v_g,⟨v_xl,v_xc,v_xp,v_xo,v_xb,v_xs,v_xq,v_xt,v_xn,v_xw⟩,v_u,v_v⟩ n).k).x.o),.val (.int .i64 ((Ts.U.bK ⟨v_h,v_g,⟨v_xl,v_xc,v_xp,v_xo,v_xb,v_xs,v_xq,v_xt,v_xn,v_xw⟩,v_u,v_v⟩ n).k).x.b),.val (.int .i64 ((Ts.U.bK ⟨v_h,v_g,⟨v_xl,v_xc,v_xp,v_xo,v_xb,v_xs,v_xq,v_xt,v_xn,v_xw⟩,v_u,v_v⟩ n).k).x.s),.sl none (.ae (.ints .u8 .nil) ((Ts.U.bK ⟨v_h,v_g,⟨v_xl,v_xc,v_xp,v_xo,v_xb,v_xs,v_xq,v_xt,v_xn,v_xw⟩,v_u,v_v⟩ n).k).x.q),.val (.int .i64 ((Ts.U.bK ⟨v_h,v_g,⟨v_xl,v_xc,v_xp,v_xo,v_xb,v_xs,v_xq,v_xt,v_xn,v_xw⟩,v_u,v_v⟩ n).k).x.t),.val (.int .i64 ((Ts.U.bK ⟨v_h,v_g,⟨v_xl,v_xc,v_xp,v_xo,v_xb,v_xs,v_xq,v_xt,v_xn,v_xw⟩,v_u,v_v⟩ n).k).x.n),.val (.bool ((Ts.U.bK ⟨v_h,v_g,⟨v_xl,v_xc,v_xp,v_xo,v_xb,v_xs,v_xq,v_xt,v_xn,v_xw⟩,v_u,v_v⟩ n).k).x.w),.val (.int .i64 ((Ts.U.bK ⟨v_h,v_g,⟨v_xl,v_xc,v_xp,v_xo,v_xb,v_xs,v_xq,v_xt,v_xn,v_xw⟩,v_u,v_v⟩ n).k).u),.val (.int .i64 ((Ts.U.bK ⟨v_h,v_g,⟨v_xl,v_xc,v_xp,v_xo,v_xb,v_xs,v_xq,v_xt,v_xn,v_xw⟩,v_u,v_v⟩ n).k).v)],.agg [.sl none (.ae (.int .i64 (.int .i64 (.int .i64 (.int .i64 (.ints .u8 .nil))))) ((Ts.U.bK ⟨v_h,v_g,⟨v_xl,v_xc,v_xp,v_xo,v_xb,v_xs,v_xq,v_xt,v_xn,v_xw⟩,v_u,v_v⟩ n).y).f),.sl none (.ae (.ints .u8 .nil) ((Ts.U.bK ⟨v_h,v_g,⟨v_xl,v_xc,v_xp,v_xo,v_xb,v_xs,v_xq,v_xt,v_xn,v_xw⟩,v_u,v_v⟩ n).y).g),.val (.bool ((Ts.U.bK ⟨v_h,v_g,⟨v_xl,v_xc,v_xp,v_xo,v_xb,v_xs,v_xq,v_xt,v_xn,v_xw⟩,v_u,v_v⟩ n).y).d),.val (.int .i64 ((Ts.U.bK ⟨v_h,v_g,⟨v_xl,v_xc,v_xp,v_xo,v_xb,v_xs,v_xq,v_xt,v_xn,v_xw⟩,v_u,v_v⟩ n).y).s)],I (Ts.U.bK ⟨v_h,v_g,⟨v_xl,v_xc,v_xp,v_xo,v_xb,v_xs,v_xq,v_xt,v_xn,v_xw⟩,v_u,v_v⟩ n).e],[],[Any,Any]⟩:=by
 intro b gv
 have hkb:xE ⟨v_xl,v_xc,v_xp,v_xo,v_xb,v_xs,v_xq,v_xt,v_xn,v_xw⟩=true:=hC
 have hbs:kW v_xq=true:=hkb
 have hmk:=UA (k:=⟨v_h,v_g,⟨v_xl,v_xc,v_xp,v_xo,v_xb,v_xs,v_xq,v_xt,v_xn,v_xw⟩,v_u,v_v⟩)
 dsimp only at hmk
 have hlt:=fun h1 h2=>OU (x:=⟨v_xl,v_xc,v_xp,v_xo,v_xb,v_xs,v_xq,v_xt,v_xn,v_xw⟩) (n:=n) hbs h1 h2
 have hkk:∀ a b c d e,UG ⟨a,b,c,d,e⟩=xE c:=fun _ _ _ _ _=>rfl
 generalize hF:Ts.U=F at hC ⊢
 generalize hA:Ar.U=A
 generalize hL:Lp _ _ _=L
 obtain⟨Z,zq⟩:=aH
 refine aA (aa hL) zq rfl ?_
 repeat' (first|(refine ay zq ?_;try dsimp only)|refine ax zq ?_ (aa hL)|refine az zq ?_|refine aw ?_|refine aq ?_|refine au ?_|refine ar ?_|refine al rfl ?_|refine ai rfl ?_|refine aj rfl ?_|(refine Cd.mk ?_;cbv)|(refine aF.mk ?_;cbv)|(refine aK.mk ?_;cbv)|exact trivial|refine And.intro ?_ ?_|refine aZ fun _=>?_|refine ba fun _=>?_)
 all_goals
  clear hL zq Z
  subst hF hA
  simp only [Ts.U,Ar.U,yA] at *
  try (grind [ah,aY,wr,Qm,JV,zK,zL,zN,RX,WR,Jj,nc])
theorem vJ:aC Tryz.prog 27 (tT Ts.U):=by
 refine aD (af.cons dY (af.cons mG (af.cons Dr (af.cons qm (af.cons FY (af.cons DH af.nil rfl) rfl) rfl) rfl) rfl) rfl) Tryz.func27 rfl rfl fun xs h p hp=>?_
 unfold tT at hp
 split at hp
 ·cases hp
  exact⟨av rfl,fun hC _=>LY _ _ _ _ _ _ _ _ _ _ _ _ _ _ _ hC⟩
 ·cases hp
end Go.Proofs.YtakebkfhigadiaaGreat.LkR
