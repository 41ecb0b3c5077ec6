/-
  a new core,by the code. No condition.
-/
import Derived.Test.YtakebkfhigadiaaGreatVnCoN
set_option cbv.maxSteps 4000000
set_option maxHeartbeats 4000000
set_option maxRecDepth 100000
namespace Go.Proofs.YtakebkfhigadiaaGreat.CoP
open Go Ry Cmp ViR ViC ViL CoN
open MgR (ma kX Dw Co JE ve jK)
theorem jI {l:List (Nat × aW)} {fn:Func} {args:List SA} {h:H} {p:qz} (hd:∀ (b:Bs) (gv:List Value) (Z:(Ex→St→Prop)→Ex→St→Prop) (_:∀ K,Z K=K) (A:Ar) (_:Ar.U=A) (L:Code→St→(Ex→St→Prop)→Prop) (_:Lp Tryz.prog b gv=L),Cd A (yg l) L (qf fn) (Ry.start fn.ntmps args h) (Z fun e s'=>aK A (yg l) fn.results.toList p e s')):aR l fn args h p:=fun b gv=>@aA _ _ _ _ _ _ _ (aa rfl) _ _ (fun _=>rfl) rfl (hd b gv id (fun _=>rfl) _ rfl _ rfl)
def yp (F:CoN.Cn):aW:=fun xs h=>match xs,h with
 |[.one (.ptr 0 0)],[(0,.cells 203 [.val (.int .i64 s_i),.val (.int .i64 s_ee),.val (.int .i64 s_er),.val (.int .i64 s_t),.val (.int .i64 s_p),.val (.slice none 0 0),.val (.slice none 0 0),.val (.slice none 0 0),.val (.slice none 0 0),.val (.int .i64 s_ph),.val (.slice none 0 0),.val (.slice none 0 0),.val (.int .i64 hD),.val (.bool s_o),.val (.slice none 0 0)])]=>some ⟨s_o=false∧s_ph=1∧s_p=0∧F.DW s_i=true,.bB [],[(0,.cells 203 [.val (.int .i64 s_i),.val (.int .i64 s_ee),.val (.int .i64 s_er),.val (.int .i64 s_t),.val (.int .i64 s_p),.val (.slice none 0 0),.val (.slice none 0 0),.val (.slice none 0 0),.val (.slice none 0 0),.val (.int .i64 4),.sl none (.ints .i64 [s_i]),.sl none (.ae (.int .i64 (.int .i64 (.int .i64 (.int .i64 (.bool .nil))))) []),.val (.int .i64 hD),.val (.bool s_o),.val (.slice none 0 0)])],[.one (.ptr 0 0)]⟩
 |_,_=>none
theorem QV (s_i:Int) (s_ee:Int) (s_er:Int) (s_t:Int) (s_p:Int) (s_ph:Int) (hD:Int) (s_o:Bool) (hC:s_o=false∧s_ph=1∧s_p=0∧CoN.Cn.U.DW s_i=true):aR [(212,pe CoN.Cn.U),(bn 212,cT),(213,Rm [[none,none,none,none,none,some (.ae (.int .i64 (.int .i64 (.int .i64 (.int .i64 (.bool (.bool (.int .i64 .nil))))))) []),some (.ints .i64 []),some (.ints .i64 []),some (.ae (.int .i64 (.int .i64 (.int .i64 (.int .i64 (.bool .nil))))) []),none,some (.ints .i64 []),some (.ae (.int .i64 (.int .i64 (.int .i64 (.int .i64 (.bool .nil))))) []),none,none]] (HH CoN.Cn.U)),(200,Rm [[some (.ints .i64 []),some (.ae (.int .i64 (.int .i64 (.int .i64 (.int .i64 (.bool .nil))))) [])],[some (.ints .i64 []),some (.ae (.int .i64 (.int .i64 (.int .i64 (.int .i64 (.bool .nil))))) [])]] (ma MgR.Mg.U)),(214,yq CoN.Cn.U),(165,QI CoN.Cn.U)] Tryz.f191 [.one (.ptr 0 0)] [(0,.cells 203 [.val (.int .i64 s_i),.val (.int .i64 s_ee),.val (.int .i64 s_er),.val (.int .i64 s_t),.val (.int .i64 s_p),.val (.slice none 0 0),.val (.slice none 0 0),.val (.slice none 0 0),.val (.slice none 0 0),.val (.int .i64 s_ph),.val (.slice none 0 0),.val (.slice none 0 0),.val (.int .i64 hD),.val (.bool s_o),.val (.slice none 0 0)])] ⟨s_o=false∧s_ph=1∧s_p=0∧CoN.Cn.U.DW s_i=true,.bB [],[(0,.cells 203 [.val (.int .i64 s_i),.val (.int .i64 s_ee),.val (.int .i64 s_er),.val (.int .i64 s_t),.val (.int .i64 s_p),.val (.slice none 0 0),.val (.slice none 0 0),.val (.slice none 0 0),.val (.slice none 0 0),.val (.int .i64 4),.sl none (.ints .i64 [s_i]),.sl none (.ae (.int .i64 (.int .i64 (.int .i64 (.int .i64 (.bool .nil))))) []),.val (.int .i64 hD),.val (.bool s_o),.val (.slice none 0 0)])],[.one (.ptr 0 0)]⟩:=by
 refine @jI _ _ _ _ _ ?_
 intro b gv Z zq A hA L hL
 have hnd:dI s_i=true:=hC.2.2.2
 obtain⟨h1,h2,h3,_⟩:=hC
 subst h1 h2 h3
 have hC:True:=trivial
 have z5:emp []=true:=rfl
 have z1:=WQ hnd
 have z2:=Xs hnd
 have z3:=Wv hnd
 have z4:WI [s_i] []=true:=by
  unfold WI
  rw [IC hnd]
  rfl
 have hfs:=(af.keeps Bk AB (af.cons (oo [[none,none,none,none,none,some (.ae (.int .i64 (.int .i64 (.int .i64 (.int .i64 (.bool (.bool (.int .i64 .nil))))))) []),some (.ints .i64 []),some (.ints .i64 []),some (.ae (.int .i64 (.int .i64 (.int .i64 (.int .i64 (.bool .nil))))) []),none,some (.ints .i64 []),some (.ae (.int .i64 (.int .i64 (.int .i64 (.int .i64 (.bool .nil))))) []),none,none]] FV) (af.cons (oo [[some (.ints .i64 []),some (.ae (.int .i64 (.int .i64 (.int .i64 (.int .i64 (.bool .nil))))) [])],[some (.ints .i64 []),some (.ae (.int .i64 (.int .i64 (.int .i64 (.int .i64 (.bool .nil))))) [])]] kX) (af.cons AG (af.cons ND af.nil rfl) rfl) rfl) rfl))
 generalize hF:CoN.Cn.U=F at hC hfs ⊢
 generalize hG0:ViR.Vs.U=G0 at hC hfs ⊢
 generalize hG1:MgR.Mg.U=G1 at hC hfs ⊢
 repeat' (first|(refine ay zq ?_;try dsimp only)|refine ax zq ?_ (aa hL)|refine az zq ?_|refine aw ?_|refine aq ?_|refine au ?_|refine ar ?_|refine al rfl ?_|refine ai rfl ?_|refine aj rfl ?_|(refine Cd.mk ?_;cbv)|(refine aF.mk ?_;cbv)|(refine aK.mk ?_;cbv)|exact trivial|refine And.intro ?_ ?_|refine aZ fun _=>?_|refine ba fun _=>?_)
 all_goals first|(show L _ _ _;skip)|(exfalso;clear hL hfs zq Z;subst hA hF hG0 hG1;simp only [CoN.Cn.U,MgR.Mg.U,Ar.U] at * <;> grind [ah];done)|(clear hL hfs zq Z;subst hA hF hG0 hG1;simp only [CoN.Cn.U,MgR.Mg.U,Ar.U] at * <;> grind [ah];done)
theorem AT:aC Tryz.prog 191 (yp CoN.Cn.U):=by
 refine aD (af.keeps Bk AB (af.cons (oo [[none,none,none,none,none,some (.ae (.int .i64 (.int .i64 (.int .i64 (.int .i64 (.bool (.bool (.int .i64 .nil))))))) []),some (.ints .i64 []),some (.ints .i64 []),some (.ae (.int .i64 (.int .i64 (.int .i64 (.int .i64 (.bool .nil))))) []),none,some (.ints .i64 []),some (.ae (.int .i64 (.int .i64 (.int .i64 (.int .i64 (.bool .nil))))) []),none,none]] FV) (af.cons (oo [[some (.ints .i64 []),some (.ae (.int .i64 (.int .i64 (.int .i64 (.int .i64 (.bool .nil))))) [])],[some (.ints .i64 []),some (.ae (.int .i64 (.int .i64 (.int .i64 (.int .i64 (.bool .nil))))) [])]] kX) (af.cons AG (af.cons ND af.nil rfl) rfl) rfl) rfl)) Tryz.func191 rfl rfl fun xs h p hp=>?_
 unfold yp at hp
 split at hp
 ·cases hp
  exact⟨av rfl,fun hC _=>@QV _ _ _ _ _ _ _ _ hC⟩
 ·cases hp
def ub (F:CoN.Cn):aW:=fun xs h=>match xs,h with
 |[.one (.ptr 0 0),.agg [.val (.int .i64 e_e),.val (.int .i64 e_r)],.one (.val (.int .i64 q))],[(0,.cells 203 [.val (.int .i64 s_i),.val (.int .i64 _),.val (.int .i64 _),.val (.int .i64 s_t),.val (.int .i64 _),.val (.slice none 0 0),.val (.slice none 0 0),.val (.slice none 0 0),.val (.slice none 0 0),.val (.int .i64 _),.val (.slice none 0 0),.val (.slice none 0 0),.val (.int .i64 hD),.val (.bool s_o),.val (.slice none 0 0)])]=>some ⟨q=0∧s_o=false∧F.Qi s_t e_e=true∧F.DW s_i=true,.bB [],[(0,.cells 203 [.val (.int .i64 s_i),.val (.int .i64 e_e),.val (.int .i64 e_r),.val (.int .i64 e_e),.val (.int .i64 0),.val (.slice none 0 0),.val (.slice none 0 0),.val (.slice none 0 0),.val (.slice none 0 0),.val (.int .i64 4),.sl none (.ints .i64 [s_i]),.sl none (.ae (.int .i64 (.int .i64 (.int .i64 (.int .i64 (.bool .nil))))) []),.val (.int .i64 hD),.val (.bool s_o),.val (.slice none 0 0)])],[.one (.ptr 0 0),Any,Any]⟩
 |_,_=>none
theorem KT (e_e:Int) (e_r:Int) (q:Int) (s_i:Int) (s_ee:Int) (s_er:Int) (s_t:Int) (s_p:Int) (s_ph:Int) (hD:Int) (s_o:Bool) (hC:q=0∧s_o=false∧CoN.Cn.U.Qi s_t e_e=true∧CoN.Cn.U.DW s_i=true):aR [(189,mX CoN.Cn.U),(bn 189,cT),(191,yp CoN.Cn.U)] Tryz.f155 [.one (.ptr 0 0),.agg [.val (.int .i64 e_e),.val (.int .i64 e_r)],.one (.val (.int .i64 q))] [(0,.cells 203 [.val (.int .i64 s_i),.val (.int .i64 s_ee),.val (.int .i64 s_er),.val (.int .i64 s_t),.val (.int .i64 s_p),.val (.slice none 0 0),.val (.slice none 0 0),.val (.slice none 0 0),.val (.slice none 0 0),.val (.int .i64 s_ph),.val (.slice none 0 0),.val (.slice none 0 0),.val (.int .i64 hD),.val (.bool s_o),.val (.slice none 0 0)])] ⟨q=0∧s_o=false∧CoN.Cn.U.Qi s_t e_e=true∧CoN.Cn.U.DW s_i=true,.bB [],[(0,.cells 203 [.val (.int .i64 s_i),.val (.int .i64 e_e),.val (.int .i64 e_r),.val (.int .i64 e_e),.val (.int .i64 0),.val (.slice none 0 0),.val (.slice none 0 0),.val (.slice none 0 0),.val (.slice none 0 0),.val (.int .i64 4),.sl none (.ints .i64 [s_i]),.sl none (.ae (.int .i64 (.int .i64 (.int .i64 (.int .i64 (.bool .nil))))) []),.val (.int .i64 hD),.val (.bool s_o),.val (.slice none 0 0)])],[.one (.ptr 0 0),Any,Any]⟩:=by
 refine @jI _ _ _ _ _ ?_
 intro b gv Z zq A hA L hL
 obtain⟨h1,h2,h3,hnd⟩:=hC
 subst h1 h2
 have h3:s_t < e_e:=of_decide_eq_true h3
 have hnd:dI s_i=true:=hnd
 have hC:True:=trivial
 have hfs:=(af.keeps nX oA (af.cons AT af.nil rfl))
 generalize hF:CoN.Cn.U=F at hC hfs ⊢
 generalize hG0:ViR.Vs.U=G0 at hC hfs ⊢
 generalize hG1:MgR.Mg.U=G1 at hC hfs ⊢
 repeat' (first|(refine ay zq ?_;try dsimp only)|refine ax zq ?_ (aa hL)|refine az zq ?_|refine aw ?_|refine aq ?_|refine au ?_|refine ar ?_|refine al rfl ?_|refine ai rfl ?_|refine aj rfl ?_|(refine Cd.mk ?_;cbv)|(refine aF.mk ?_;cbv)|(refine aK.mk ?_;cbv)|exact trivial|refine And.intro ?_ ?_|refine aZ fun _=>?_|refine ba fun _=>?_)
 all_goals first|(show L _ _ _;skip)|(exfalso;clear hL hfs zq Z;subst hA hF hG0 hG1;simp only [CoN.Cn.U,ViR.Vs.U,MgR.Mg.U,Ar.U,List.nil_append] at * <;> grind [ah];done)|(clear hL hfs zq Z;subst hA hF hG0 hG1;simp only [CoN.Cn.U,ViR.Vs.U,MgR.Mg.U,Ar.U,List.nil_append] at * <;> grind [ah];done)
 subst hL
 refine bj (bo hfs) (zQ) (fun y=>bW Tryz.f155.ntmps [(0,.ptr 1 0),(50,.val (.slice none 0 0)),(51,.num .i64 0),(52,.val (.int .i64 y.i))] [(1,.cells 203 [.val (.int .i64 s_i),.val (.int .i64 e_e),.val (.int .i64 e_r),.val (.int .i64 (A.yU (A.cmp .gtr e_e s_t) e_e s_t)),.val (.int .i64 0),.val (.slice none 0 0),.val (.slice none 0 0),.val (.slice none 0 0),.val (.slice none 0 0),.val (.int .i64 1),.val (.slice none 0 0),.val (.slice none 0 0),.val (.int .i64 hD),.val (.bool false),.val (.slice none 0 0)])] [.one (.ptr 1 0),Any,Any]) (zM) (zR 52) ⟨0⟩ ?_ ?_ ?_
 ·exact rfl
 ·cbv
  repeat' (first|exact trivial|exact rfl|refine And.intro ?_ ?_)
 rintro⟨i⟩ hq O hO
 have hi0:i=0:=hq
 subst hA
 generalize hA:Ar.U=A
 generalize hL:Lp _ _ _=L
 refine aT zq ?_
 repeat' (first|(refine ay zq ?_;try dsimp only)|refine ax zq ?_ (aa hL)|refine az zq ?_|refine aw ?_|refine aq ?_|refine au ?_|refine ar ?_|refine al rfl ?_|refine ai rfl ?_|refine aj rfl ?_|(refine Cd.mk ?_;cbv)|(refine aF.mk ?_;cbv)|(refine aK.mk ?_;cbv)|exact trivial|refine And.intro ?_ ?_|refine aZ fun _=>?_|refine ba fun _=>?_)
 all_goals first|(show L _ _ _;skip)|(exfalso;clear hL hfs zq Z hq;subst hA hF hG0 hG1 hO;simp only [CoN.Cn.U,Ar.U] at * <;> grind [ah];done)|(clear hL hfs zq Z hq;subst hA hF hG0 hG1 hO;simp only [CoN.Cn.U,ViR.Vs.U,MgR.Mg.U,Ar.U,List.nil_append] at * <;> grind [ah];done)
 clear hO
 subst hL
 refine bj (bo hfs) (zQ) (fun y=>bW Tryz.f155.ntmps [(0,.ptr 1 0),(82,.val (.slice none 0 0)),(83,.num .i64 0),(84,.val (.int .i64 y.i))] [(1,.cells 203 [.val (.int .i64 s_i),.val (.int .i64 e_e),.val (.int .i64 e_r),.val (.int .i64 (A.yU (A.cmp .gtr e_e s_t) e_e s_t)),.val (.int .i64 0),.val (.slice none 0 0),.val (.slice none 0 0),.val (.slice none 0 0),.val (.slice none 0 0),.val (.int .i64 1),.val (.slice none 0 0),.val (.slice none 0 0),.val (.int .i64 hD),.val (.bool false),.val (.slice none 0 0)])] [.one (.ptr 1 0),Any,Any]) (zM) (zR 84) ⟨0⟩ ?_ ?_ ?_
 ·exact rfl
 ·cbv
  repeat' (first|exact trivial|exact rfl|refine And.intro ?_ ?_)
 rintro⟨j⟩ hq2 O2 hO2
 have hj0:j=0:=hq2
 subst hA
 generalize hA:Ar.U=A
 generalize hL:Lp _ _ _=L
 refine aT zq ?_
 repeat' (first|(refine ay zq ?_;try dsimp only)|refine ax zq ?_ (aa hL)|refine az zq ?_|refine aw ?_|refine aq ?_|refine au ?_|refine ar ?_|refine al rfl ?_|refine ai rfl ?_|refine aj rfl ?_|(refine Cd.mk ?_;cbv)|(refine aF.mk ?_;cbv)|(refine aK.mk ?_;cbv)|exact trivial|refine And.intro ?_ ?_|refine aZ fun _=>?_|refine ba fun _=>?_)
 all_goals first|(show L _ _ _;skip)|(exfalso;clear hL hfs zq Z hq hq2;subst hA hF hG0 hG1 hO2;simp only [CoN.Cn.U,Ar.U] at * <;> grind [ah];done)|(clear hL hfs zq Z hq hq2;subst hA hF hG0 hG1 hO2;simp only [CoN.Cn.U,Ar.U] at * <;> grind [ah];done)
theorem wU:aC Tryz.prog 155 (ub CoN.Cn.U):=by
 refine aD (af.keeps nX oA (af.cons AT af.nil rfl)) Tryz.func155 rfl rfl fun xs h p hp=>?_
 unfold ub at hp
 split at hp
 ·cases hp
  exact⟨av rfl,fun hC _=>@KT _ _ _ _ _ _ _ _ _ _ _ hC⟩
 ·cases hp
def uS (F:CoN.Cn):aW:=fun xs h=>match xs,h with
 |[.one (.ptr 0 0)],[(0,.cells 203 [.val (.int .i64 s_i),.val (.int .i64 s_ee),.val (.int .i64 _),.val (.int .i64 s_t),.val (.int .i64 _),.val (.slice none 0 0),.val (.slice none 0 0),.val (.slice none 0 0),.val (.slice none 0 0),.val (.int .i64 _),.val (.slice none 0 0),.val (.slice none 0 0),.val (.int .i64 hD),.val (.bool s_o),.val (.slice none 0 0)])]=>some ⟨s_o=false∧s_ee=0∧s_t=0∧F.PK s_i hD=true,.bB [],[(0,.cells 203 [.val (.int .i64 s_i),.val (.int .i64 1),.val (.int .i64 s_i),.val (.int .i64 1),.val (.int .i64 0),.val (.slice none 0 0),.val (.slice none 0 0),.val (.slice none 0 0),.val (.slice none 0 0),.val (.int .i64 4),.sl none (.ints .i64 [s_i]),.sl none (.ae (.int .i64 (.int .i64 (.int .i64 (.int .i64 (.bool .nil))))) []),.val (.int .i64 hD),.val (.bool s_o),.val (.slice none 0 0)])],[.one (.ptr 0 0)]⟩
 |_,_=>none
theorem Kw (s_i:Int) (s_ee:Int) (s_er:Int) (s_t:Int) (s_p:Int) (s_ph:Int) (hD:Int) (s_o:Bool) (hC:s_o=false∧s_ee=0∧s_t=0∧CoN.Cn.U.PK s_i hD=true):aR [(154,uN CoN.Cn.U),(155,ub CoN.Cn.U)] Tryz.f109 [.one (.ptr 0 0)] [(0,.cells 203 [.val (.int .i64 s_i),.val (.int .i64 s_ee),.val (.int .i64 s_er),.val (.int .i64 s_t),.val (.int .i64 s_p),.val (.slice none 0 0),.val (.slice none 0 0),.val (.slice none 0 0),.val (.slice none 0 0),.val (.int .i64 s_ph),.val (.slice none 0 0),.val (.slice none 0 0),.val (.int .i64 hD),.val (.bool s_o),.val (.slice none 0 0)])] ⟨s_o=false∧s_ee=0∧s_t=0∧CoN.Cn.U.PK s_i hD=true,.bB [],[(0,.cells 203 [.val (.int .i64 s_i),.val (.int .i64 1),.val (.int .i64 s_i),.val (.int .i64 1),.val (.int .i64 0),.val (.slice none 0 0),.val (.slice none 0 0),.val (.slice none 0 0),.val (.slice none 0 0),.val (.int .i64 4),.sl none (.ints .i64 [s_i]),.sl none (.ae (.int .i64 (.int .i64 (.int .i64 (.int .i64 (.bool .nil))))) []),.val (.int .i64 hD),.val (.bool s_o),.val (.slice none 0 0)])],[.one (.ptr 0 0)]⟩:=by
 refine @jI _ _ _ _ _ ?_
 intro b gv Z zq A hA L hL
 obtain⟨h1,h2,h3,hnw⟩:=hC
 subst h1 h2 h3
 have hnw:vX s_i hD=true:=hnw
 have hC:True:=trivial
 have hn:=MS hnw
 have hf:=Ss hnw
 have hfs:=(af.cons wy (af.cons wU af.nil rfl) rfl)
 generalize hF:CoN.Cn.U=F at hC hfs ⊢
 generalize hG0:ViR.Vs.U=G0 at hC hfs ⊢
 generalize hG1:MgR.Mg.U=G1 at hC hfs ⊢
 repeat' (first|(refine ay zq ?_;try dsimp only)|refine ax zq ?_ (aa hL)|refine az zq ?_|refine aw ?_|refine aq ?_|refine au ?_|refine ar ?_|refine al rfl ?_|refine ai rfl ?_|refine aj rfl ?_|(refine Cd.mk ?_;cbv)|(refine aF.mk ?_;cbv)|(refine aK.mk ?_;cbv)|exact trivial|refine And.intro ?_ ?_|refine aZ fun _=>?_|refine ba fun _=>?_)
 all_goals first|(show L _ _ _;skip)|(exfalso;clear hL hfs zq Z;subst hA hF hG0 hG1;simp only [CoN.Cn.U,Ar.U] at * <;> grind [ah];done)|(clear hL hfs zq Z;subst hA hF hG0 hG1;simp only [CoN.Cn.U,Ar.U] at * <;> grind [ah];done)
theorem wS:aC Tryz.prog 109 (uS CoN.Cn.U):=by
 refine aD (af.cons wy (af.cons wU af.nil rfl) rfl) Tryz.func109 rfl rfl fun xs h p hp=>?_
 unfold uS at hp
 split at hp
 ·cases hp
  exact⟨av rfl,fun hC _=>@Kw _ _ _ _ _ _ _ _ hC⟩
 ·cases hp
def gX (F:CoN.Cn):aW:=fun xs h=>match xs,h with
 |[.one (.val (.int .i64 i)),.one (.val (.int .i64 l))],[]=>some ⟨True,.bB [.agg [.val (.int .i64 (F.zb i l i)),.val (.int .i64 (F.zb i l 1)),.val (.int .i64 (F.zb i l i)),.val (.int .i64 (F.zb i l 1)),.val (.int .i64 0),.sl none (.ae (.int .i64 (.int .i64 (.int .i64 (.int .i64 (.bool (.bool (.int .i64 .nil))))))) []),.sl none (.ints .i64 []),.sl none (.ints .i64 []),.sl none (.ae (.int .i64 (.int .i64 (.int .i64 (.int .i64 (.bool .nil))))) []),.val (.int .i64 (F.zb i l 4)),.sl none (.ints .i64 (F.VT i l)),.sl none (.ae (.int .i64 (.int .i64 (.int .i64 (.int .i64 (.bool .nil))))) []),.val (.int .i64 (F.zb i l l)),.val (.bool false)],I (F.Xy i l)],[],[Any,Any]⟩
 |_,_=>none
theorem vz (i:Int) (l:Int):aR [(108,jx ViR.Vs.U),(109,uS CoN.Cn.U)] Tryz.f67 [.one (.val (.int .i64 i)),.one (.val (.int .i64 l))] [] ⟨True,.bB [.agg [.val (.int .i64 (CoN.Cn.U.zb i l i)),.val (.int .i64 (CoN.Cn.U.zb i l 1)),.val (.int .i64 (CoN.Cn.U.zb i l i)),.val (.int .i64 (CoN.Cn.U.zb i l 1)),.val (.int .i64 0),.sl none (.ae (.int .i64 (.int .i64 (.int .i64 (.int .i64 (.bool (.bool (.int .i64 .nil))))))) []),.sl none (.ints .i64 []),.sl none (.ints .i64 []),.sl none (.ae (.int .i64 (.int .i64 (.int .i64 (.int .i64 (.bool .nil))))) []),.val (.int .i64 (CoN.Cn.U.zb i l 4)),.sl none (.ints .i64 (CoN.Cn.U.VT i l)),.sl none (.ae (.int .i64 (.int .i64 (.int .i64 (.int .i64 (.bool .nil))))) []),.val (.int .i64 (CoN.Cn.U.zb i l l)),.val (.bool false)],I (CoN.Cn.U.Xy i l)],[],[Any,Any]⟩:=by
 refine @jI _ _ _ _ _ ?_
 intro b gv Z zq A hA L hL
 have hw:vX i l=(dI i && decide (1≤l∧l≤2147483647)):=rfl
 have hfs:=(af.cons er (af.cons wS af.nil rfl) rfl)
 generalize hF:CoN.Cn.U=F at hfs ⊢
 generalize hG0:ViR.Vs.U=G0 at hfs ⊢
 generalize hG1:MgR.Mg.U=G1 at hfs ⊢
 repeat' (first|(refine ay zq ?_;try dsimp only)|refine ax zq ?_ (aa hL)|refine az zq ?_|refine aw ?_|refine aq ?_|refine au ?_|refine ar ?_|refine al rfl ?_|refine ai rfl ?_|refine aj rfl ?_|(refine Cd.mk ?_;cbv)|(refine aF.mk ?_;cbv)|(refine aK.mk ?_;cbv)|exact trivial|refine And.intro ?_ ?_|refine aZ fun _=>?_|refine ba fun _=>?_)
 all_goals first|(show L _ _ _;skip)|(exfalso;clear hL hfs zq Z;subst hA hF hG0 hG1;simp only [ViR.Vs.U,Ar.U] at * <;> grind [ah];done)|(clear hL hfs zq Z;subst hA hF hG0 hG1;simp only [CoN.Cn.U,ViR.Vs.U,Ar.U] at * <;> grind [ah];done)
theorem iL:aC Tryz.prog 67 (gX CoN.Cn.U):=by
 refine aD (af.cons er (af.cons wS af.nil rfl) rfl) Tryz.func67 rfl rfl fun xs h p hp=>?_
 unfold gX at hp
 split at hp
 ·cases hp
  exact⟨av rfl,fun _ _=>@vz _ _⟩
 ·cases hp
end Go.Proofs.YtakebkfhigadiaaGreat.CoP
