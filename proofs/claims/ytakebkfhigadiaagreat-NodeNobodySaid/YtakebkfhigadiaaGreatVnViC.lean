
/-
  which views may be. No condition.
-/
import Derived.Test.YtakebkfhigadiaaGreatVnViR
set_option cbv.maxSteps 4000000
set_option maxHeartbeats 8000000
set_option maxRecDepth 100000
namespace Go.Proofs.YtakebkfhigadiaaGreat.ViC
open Go Ry Cmp ViR
structure Vc where
 Vi:List Int→List E→Int
 YT:List Int→List E→Bool
 Qk:List Int→List E→Bool
def Vc.U:Vc:=⟨mi,bE,fun n l=>decide (n.length≤1000000∧l.length≤1000000)⟩
def dv (F:Vc):aW:=fun xs h=>match xs,h with
 |[.agg [.sl none (.ints .i64 v_n),.sl none (.ae (.int .i64 (.int .i64 (.int .i64 (.int .i64 (.bool .nil))))) v_l)]],[]=>some ⟨F.Qk v_n v_l=true,.sa (I (F.Vi v_n v_l)),[],[Any]⟩
 |_,_=>none
theorem EF (v_n:List Int) (v_l:List E) (hC:Vc.U.Qk v_n v_l=true):aR [(108,jx ViR.Vs.U),(207,uq ViR.Vs.U),(208,nG ViR.Vs.U),(209,tN ViR.Vs.U)] Tryz.f182 [.agg [.sl none (.ints .i64 v_n),.sl none (.ae (.int .i64 (.int .i64 (.int .i64 (.int .i64 (.bool .nil))))) v_l)]] [] ⟨Vc.U.Qk v_n v_l=true,.sa (I (Vc.U.Vi v_n v_l)),[],[Any]⟩:=by
 intro b gv
 have hk:v_n.length≤1000000∧v_l.length≤1000000:=of_decide_eq_true (show decide (v_n.length≤1000000∧v_l.length≤1000000)=true from hC)
 have hfs:=(af.cons er (af.cons vU (af.cons eS (af.cons oq af.nil rfl) rfl) rfl) rfl)
 generalize hF:Vc.U=F at hC hfs ⊢
 generalize hG0:ViR.Vs.U=G0 at hC hfs ⊢
 generalize hA:Ar.U=A
 generalize hL:Lp _ _ _=L
 obtain⟨Z,zq⟩:=aH
 refine aA (aa hL) zq rfl ?_
 repeat' (first|(refine ay zq ?_;try dsimp only)|refine ax zq ?_ (aa hL)|refine az zq ?_|refine aw ?_|refine aq ?_|refine au ?_|refine ar ?_|refine al rfl ?_|refine ai rfl ?_|refine aj rfl ?_|(refine Cd.mk ?_;cbv)|(refine aF.mk ?_;cbv)|(refine aK.mk ?_;cbv)|exact trivial|refine And.intro ?_ ?_|refine aZ fun _=>?_|refine ba fun _=>?_)
 subst hL
 refine bj (bo hfs) (yt v_n.length (CX v_n)) (XQ A v_n v_l) (allM v_n.length) (iR 10) ⟨0⟩ ?_ ?_ ?_
 ·exact all_zero _ _
 ·cbv
  repeat' (first|exact trivial|exact rfl|refine And.intro ?_ ?_)
 rintro⟨i⟩ hq O hO
 obtain⟨e1,e2⟩:=Ah hk.1 hq
 have hst:=fun h=>vk hk.1 hq h
 have hen:=fun h=>BQ hq h
 have hok:=fun h=>Sz (n:=v_n) hq.1 h
 have q0:=hq.1
 have q1:=hq.2.1
 dsimp only at q0 q1 hok
 subst hA
 generalize hA:Ar.U=A
 generalize hL:Lp _ _ _=L
 refine aT zq ?_
 repeat' (first|(refine ay zq ?_;try dsimp only)|refine ax zq ?_ (aa hL)|refine az zq ?_|refine aw ?_|refine aq ?_|refine au ?_|refine ar ?_|refine al rfl ?_|refine ai rfl ?_|refine aj rfl ?_|(refine Cd.mk ?_;cbv)|(refine aF.mk ?_;cbv)|(refine aK.mk ?_;cbv)|exact trivial|refine And.intro ?_ ?_|refine aZ fun _=>?_|refine ba fun _=>?_)
 all_goals first|(show L _ _ _;skip)|(clear hL hfs zq Z hq;subst hA hF hG0 hO;simp only [Vc.U,ViR.Vs.U,Ar.U] at *;first|assumption|(simp only [e1,e2] at *;try generalize (i - 1).toNat=m1 at *;try generalize i.toNat=k1 at *;grind [ah,mi,bE,oP]);done)
 rename_i hx
 have hr:oP v_n=true:=by
  refine hen ?_
  clear hL hfs zq Z hq hst hok hen e1 e2
  subst hA hF hG0 hO
  simp only [Ar.U] at hx
  grind [ah]
 clear hx hst hok hen e1 e2
 have hbs:=fun t=>mv hr t
 subst hL
 refine bj (bo hfs) (yt v_l.length (VI v_n v_l)) (Wz A v_n v_l) (allM v_l.length) (iR 36) ⟨0⟩ ?_ ?_ ?_
 ·exact all_zero _ _
 ·cbv
  repeat' (first|exact trivial|exact rfl|refine And.intro ?_ ?_)
 rintro⟨k⟩ hq2 O2 hO2
 obtain⟨e1,e2⟩:=Ah hk.2 hq2
 have hst:=fun h=>vk hk.2 hq2 h
 have hen:=fun h=>BQ hq2 h
 have hok:=fun h=>SP (n:=v_n) (l:=v_l) hq2.1 h
 have k0:=hq2.1
 have k1:=hq2.2.1
 dsimp only at k0 k1 hok
 subst hA
 generalize hA:Ar.U=A
 generalize hL:Lp _ _ _=L
 refine aT zq ?_
 repeat' (first|(refine ay zq ?_;try dsimp only)|refine ax zq ?_ (aa hL)|refine az zq ?_|refine aw ?_|refine aq ?_|refine au ?_|refine ar ?_|refine al rfl ?_|refine ai rfl ?_|refine aj rfl ?_|(refine Cd.mk ?_;cbv)|(refine aF.mk ?_;cbv)|(refine aK.mk ?_;cbv)|exact trivial|refine And.intro ?_ ?_|refine aZ fun _=>?_|refine ba fun _=>?_)
 all_goals (clear hL hfs zq Z hq hq2;subst hA hF hG0 hO hO2;simp only [Vc.U,ViR.Vs.U,Ar.U] at *)
 all_goals (try assumption)
 all_goals (simp only [e1,e2] at *;try generalize (k - 1).toNat=m1 at *;try generalize k.toNat=k1 at *;grind [ah,mi,bE,Xc])
theorem bP:aC Tryz.prog 182 (dv Vc.U):=by
 refine aD (af.cons er (af.cons vU (af.cons eS (af.cons oq af.nil rfl) rfl) rfl) rfl) Tryz.func182 rfl rfl fun xs h p hp=>?_
 unfold dv at hp
 split at hp
 ·cases hp
  exact⟨av rfl,fun hC _=>EF _ _ hC⟩
 ·cases hp
end Go.Proofs.YtakebkfhigadiaaGreat.ViC
