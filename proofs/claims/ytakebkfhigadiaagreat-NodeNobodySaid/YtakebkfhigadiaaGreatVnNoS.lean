/-
  a node that has one port,by the code: its acts. No condition but what is asked.
-/
import Derived.Test.YtakebkfhigadiaaGreatVnNoR
set_option maxHeartbeats 4000000
set_option cbv.maxSteps 4000000
set_option maxRecDepth 100000
namespace Go.Proofs.YtakebkfhigadiaaGreat.NoS
open Go Ry HaR FrR LiR LkR NoR
set_option maxRecDepth 100000
open InK (xe sZ)
abbrev uP:=FrQ.mj
theorem tI:aC Tryz.prog 33 (uP FrQ.Qs.U):=FrQ.yT
def tQ (y:XS):Prop:=y.i=0∧y.o=[uW]
def tM (_:XS):Nat:=0
def uQ (y:XS):Prop:=(y.i=0∧y.o=[])∨(y.i=1∧y.o=[uW])
def uR (st:St):XS:=⟨bA st 18,Pr st.heap (nm st 3 1)⟩
theorem QJ:uQ ⟨1,[uW]⟩:=.inr ⟨rfl,rfl⟩
theorem Qd:List.take 0 ([]:List E) ++ ([D.int 2,D.int 5,D.int 0,D.int 0,D.int 1,D.bool false,D.int 0,D.int 0,D.ae [],D.int 0,D.int 0,D.bool false,D.int 0,D.int 0] :: List.drop 0 [])=[nF]:=rfl
theorem OB:sM ⟨aB .add .i64 0 1,[uW]⟩ < sM ⟨0,[]⟩:=by decide
theorem Pj:uQ ⟨aB .add .i64 0 1,[uW]⟩:=.inr ⟨by decide,rfl⟩
theorem SN:CoN.Cn.U.zb 1 2147483647 1=1∧CoN.Cn.U.zb 1 2147483647 4=4∧CoN.Cn.U.zb 1 2147483647 2147483647=2147483647∧CoN.Cn.U.VT 1 2147483647=[1]∧CoN.Cn.U.Xy 1 2147483647=0:=by decide
theorem XG:RF 2147483647=true:=by decide
theorem DJ:FrQ.Qs.U.Kg (qX 1 1 0 0 [])=true∧(FrQ.Qs.U.fh (qX 1 1 0 0 [])).e=0∧(FrQ.Qs.U.fh (qX 1 1 0 0 [])).k=1∧(FrQ.Qs.U.fh (qX 1 1 0 0 [])).s=1:=by decide +kernel
theorem KF:ri uW 0=1∧ri uW 1=2∧rl uW 2=qX 1 1 0 0 []:=⟨rfl,rfl,rfl⟩
theorem Lu:[uW].getD (Int.toNat 0) []=uW∧[uW].length=1:=⟨rfl,rfl⟩
theorem jI {l:List (Nat × aW)} {fn:Func} {args:List SA} {h:H} {p:qz} (hd:∀ (b:Bs) (gv:List Value) (Z:(Ex→St→Prop)→Ex→St→Prop) (_:∀ K,Z K=K) (A:Ar) (_:Ar.U=A) (L:Code→St→(Ex→St→Prop)→Prop) (_:Lp Tryz.prog b gv=L),Cd A (yg l) L (qf fn) (Ry.start fn.ntmps args h) (Z fun e s'=>aK A (yg l) fn.results.toList p e s')):aR l fn args h p:=fun b gv=>@aA _ _ _ _ _ _ _ (aa rfl) _ _ (fun _=>rfl) rfl (hd b gv id (fun _=>rfl) _ rfl _ rfl)
noncomputable def yF (F:No):aW:=fun xs h=>match xs,h with
 |[.one (.ptr 0 0),.one (.val (.int .i64 i)),.agg [.val (.int .i64 v_h),.val (.int .i64 v_g),.val (.int .i64 v_xl),.val (.int .i64 v_xc),.val (.int .i64 v_xp),.val (.bool v_xo),.val (.int .i64 v_xb),.val (.int .i64 v_xs),.sl none (.ae (.ints .u8 .nil) v_xq),.val (.int .i64 v_xt),.val (.int .i64 v_xn),.val (.bool v_xw),.val (.int .i64 v_u),.val (.int .i64 v_v)],.agg [.sl none (.ae (.int .i64 (.int .i64 (.int .i64 (.int .i64 (.ints .u8 .nil))))) n_f),.sl none (.ae (.ints .u8 .nil) n_g),.val (.bool n_d),.val (.int .i64 n_s)]],[(0,.cells 76 [.ptr 1 0,.sl (some (3,102)) (.ae (.int .i64 (.int .i64 (.ints .u8 (.bool .nil)))) out),.val (.slice none 0 0)]),(1,.cells 42 [.val (.int .i64 2147483647),.val (.int .i64 2147483647),.val (.int .i64 2147483647),.val (.int .i64 1),.val (.int .i64 1),.val (.int .i64 1),.val (.int .i64 1),.val (.int .i64 0),.sl none (.ae (.int .i64 (.int .i64 (.int .i64 (.int .i64 (.bool (.bool (.int .i64 .nil))))))) []),.sl none (.ints .i64 []),.sl none (.ints .i64 []),.sl none (.ae (.int .i64 (.int .i64 (.int .i64 (.int .i64 (.bool .nil))))) []),.val (.int .i64 4),.sl none (.ints .i64 [1]),.sl none (.ae (.int .i64 (.int .i64 (.int .i64 (.int .i64 (.bool .nil))))) []),.val (.int .i64 2147483647),.val (.bool false),.own 2,.val (.slice none 0 0)]),(2,.row 59 (.ae (.int .i64 (.int .i64 (.int .i64 (.int .i64 (.int .i64 (.bool (.int .i64 (.int .i64 (.ae (.ints .u8 .nil) (.int .i64 (.int .i64 (.bool (.int .i64 (.int .i64 .nil)))))))))))))) lk)),(3,.tok)]=>some ⟨i=0∧lk=[F.vv]∧out=[]∧v_h=2∧v_g=5∧v_xl=0∧v_xc=0∧v_xp=1∧v_xo=false∧v_xb=0∧v_xs=0∧v_xq=[]∧v_xt=0∧v_xn=0∧v_xw=false∧v_u=0∧v_v=0∧n_f=[F.DJ]∧n_g=[]∧n_d=false∧n_s=0,.bB [],[(0,.cells 76 [.ptr 1 0,.sl (some (3,102)) (.ae (.int .i64 (.int .i64 (.ints .u8 (.bool .nil)))) [F.Mb]),.val (.slice none 0 0)]),(1,.cells 42 [.val (.int .i64 2147483647),.val (.int .i64 2147483647),.val (.int .i64 2147483647),.val (.int .i64 1),.val (.int .i64 1),.val (.int .i64 1),.val (.int .i64 1),.val (.int .i64 0),.sl none (.ae (.int .i64 (.int .i64 (.int .i64 (.int .i64 (.bool (.bool (.int .i64 .nil))))))) []),.sl none (.ints .i64 []),.sl none (.ints .i64 []),.sl none (.ae (.int .i64 (.int .i64 (.int .i64 (.int .i64 (.bool .nil))))) []),.val (.int .i64 4),.sl none (.ints .i64 [1]),.sl none (.ae (.int .i64 (.int .i64 (.int .i64 (.int .i64 (.bool .nil))))) []),.val (.int .i64 2147483647),.val (.bool false),.own 2,.val (.slice none 0 0)]),(2,.row 59 (.ae (.int .i64 (.int .i64 (.int .i64 (.int .i64 (.int .i64 (.bool (.int .i64 (.int .i64 (.ae (.ints .u8 .nil) (.int .i64 (.int .i64 (.bool (.int .i64 (.int .i64 .nil)))))))))))))) lk)),(3,.tok)],[.one (.ptr 0 0),Any,Any,Any,.one (.ptr 1 0),.one (.own 2)]⟩
 |_,_=>none
theorem QL (i:Int) (v_h:Int) (v_g:Int) (v_xl:Int) (v_xc:Int) (v_xp:Int) (v_xo:Bool) (v_xb:Int) (v_xs:Int) (v_xq:List E) (v_xt:Int) (v_xn:Int) (v_xw:Bool) (v_u:Int) (v_v:Int) (n_f:List E) (n_g:List E) (n_d:Bool) (n_s:Int) (lk:List E) (out:List E) (hC:i=0∧lk=[No.U.vv]∧out=[]∧v_h=2∧v_g=5∧v_xl=0∧v_xc=0∧v_xp=1∧v_xo=false∧v_xb=0∧v_xs=0∧v_xq=[]∧v_xt=0∧v_xn=0∧v_xw=false∧v_u=0∧v_v=0∧n_f=[No.U.DJ]∧n_g=[]∧n_d=false∧n_s=0):aR [(47,yn No.U),(49,yO No.U)] Tryz.f22 [.one (.ptr 0 0),.one (.val (.int .i64 i)),.agg [.val (.int .i64 v_h),.val (.int .i64 v_g),.val (.int .i64 v_xl),.val (.int .i64 v_xc),.val (.int .i64 v_xp),.val (.bool v_xo),.val (.int .i64 v_xb),.val (.int .i64 v_xs),.sl none (.ae (.ints .u8 .nil) v_xq),.val (.int .i64 v_xt),.val (.int .i64 v_xn),.val (.bool v_xw),.val (.int .i64 v_u),.val (.int .i64 v_v)],.agg [.sl none (.ae (.int .i64 (.int .i64 (.int .i64 (.int .i64 (.ints .u8 .nil))))) n_f),.sl none (.ae (.ints .u8 .nil) n_g),.val (.bool n_d),.val (.int .i64 n_s)]] [(0,.cells 76 [.ptr 1 0,.sl (some (3,102)) (.ae (.int .i64 (.int .i64 (.ints .u8 (.bool .nil)))) out),.val (.slice none 0 0)]),(1,.cells 42 [.val (.int .i64 2147483647),.val (.int .i64 2147483647),.val (.int .i64 2147483647),.val (.int .i64 1),.val (.int .i64 1),.val (.int .i64 1),.val (.int .i64 1),.val (.int .i64 0),.sl none (.ae (.int .i64 (.int .i64 (.int .i64 (.int .i64 (.bool (.bool (.int .i64 .nil))))))) []),.sl none (.ints .i64 []),.sl none (.ints .i64 []),.sl none (.ae (.int .i64 (.int .i64 (.int .i64 (.int .i64 (.bool .nil))))) []),.val (.int .i64 4),.sl none (.ints .i64 [1]),.sl none (.ae (.int .i64 (.int .i64 (.int .i64 (.int .i64 (.bool .nil))))) []),.val (.int .i64 2147483647),.val (.bool false),.own 2,.val (.slice none 0 0)]),(2,.row 59 (.ae (.int .i64 (.int .i64 (.int .i64 (.int .i64 (.int .i64 (.bool (.int .i64 (.int .i64 (.ae (.ints .u8 .nil) (.int .i64 (.int .i64 (.bool (.int .i64 (.int .i64 .nil)))))))))))))) lk)),(3,.tok)] ⟨i=0∧lk=[No.U.vv]∧out=[]∧v_h=2∧v_g=5∧v_xl=0∧v_xc=0∧v_xp=1∧v_xo=false∧v_xb=0∧v_xs=0∧v_xq=[]∧v_xt=0∧v_xn=0∧v_xw=false∧v_u=0∧v_v=0∧n_f=[No.U.DJ]∧n_g=[]∧n_d=false∧n_s=0,.bB [],[(0,.cells 76 [.ptr 1 0,.sl (some (3,102)) (.ae (.int .i64 (.int .i64 (.ints .u8 (.bool .nil)))) [No.U.Mb]),.val (.slice none 0 0)]),(1,.cells 42 [.val (.int .i64 2147483647),.val (.int .i64 2147483647),.val (.int .i64 2147483647),.val (.int .i64 1),.val (.int .i64 1),.val (.int .i64 1),.val (.int .i64 1),.val (.int .i64 0),.sl none (.ae (.int .i64 (.int .i64 (.int .i64 (.int .i64 (.bool (.bool (.int .i64 .nil))))))) []),.sl none (.ints .i64 []),.sl none (.ints .i64 []),.sl none (.ae (.int .i64 (.int .i64 (.int .i64 (.int .i64 (.bool .nil))))) []),.val (.int .i64 4),.sl none (.ints .i64 [1]),.sl none (.ae (.int .i64 (.int .i64 (.int .i64 (.int .i64 (.bool .nil))))) []),.val (.int .i64 2147483647),.val (.bool false),.own 2,.val (.slice none 0 0)]),(2,.row 59 (.ae (.int .i64 (.int .i64 (.int .i64 (.int .i64 (.int .i64 (.bool (.int .i64 (.int .i64 (.ae (.ints .u8 .nil) (.int .i64 (.int .i64 (.bool (.int .i64 (.int .i64 .nil)))))))))))))) lk)),(3,.tok)],[.one (.ptr 0 0),Any,Any,Any,.one (.ptr 1 0),.one (.own 2)]⟩:=by
 refine @jI _ _ _ _ _ ?_
 intro b gv Z zq A hA L hL
 obtain⟨rfl,h1,rfl,rfl,rfl,rfl,rfl,rfl,rfl,rfl,rfl,rfl,rfl,rfl,rfl,rfl,rfl,rfl,rfl,rfl,rfl⟩:=hC
 have h1:lk=[nF]:=h1
 have hC:True:=trivial
 have hfs:=(af.cons Ax (af.cons Aj af.nil rfl) rfl)
 generalize hF:No.U=F at hC hfs ⊢
 generalize hG0:CoN.Cn.U=G0 at hC hfs ⊢
 generalize hG1:LkR.Ts.U=G1 at hC hfs ⊢
 generalize hG2:FrR.Rs.U=G2 at hC hfs ⊢
 generalize hG3:InK.Nf.U=G3 at hC hfs ⊢
 generalize hG4:FrQ.Qs.U=G4 at hC hfs ⊢
 repeat' (first|(refine ay zq ?_;try dsimp only)|refine ax zq ?_ (aa hL)|refine az zq ?_|refine aw ?_|refine aq ?_|refine au ?_|refine ar ?_|refine al rfl ?_|refine ai rfl ?_|refine aj rfl ?_|(refine Cd.mk ?_;cbv)|(refine aF.mk ?_;cbv)|(refine aK.mk ?_;cbv)|exact trivial|refine And.intro ?_ ?_|refine aZ fun _=>?_|refine ba fun _=>?_)
 all_goals first|(exfalso;clear hL zq Z hfs;subst hA hF hG0 hG1 hG2 hG3 hG4 h1;simp only [No.U,Ar.U] at * <;> grind [ah];done)|(show L _ _ _;skip)|(clear hL zq Z hfs;subst hA hF hG0 hG1 hG2 hG3 hG4 h1;simp only [No.U,Ar.U,kS,ij] at * <;> grind [ah];done)
 subst hL
 refine bj (bo hfs) (tQ) (fun y=>bW Tryz.f22.ntmps [(0,.ptr 1 0),(63,.val (.int .i64 (A.dw []))),(64,.val (.int .i64 y.i))] [(1,.cells 76 [.ptr 2 0,.sl (some (4,102)) (.ae (.int .i64 (.int .i64 (.ints .u8 (.bool .nil)))) y.o),.val (.slice none 0 0)]),(2,.cells 42 [.val (.int .i64 2147483647),.val (.int .i64 2147483647),.val (.int .i64 2147483647),.val (.int .i64 1),.val (.int .i64 1),.val (.int .i64 1),.val (.int .i64 1),.val (.int .i64 0),.sl none (.ae (.int .i64 (.int .i64 (.int .i64 (.int .i64 (.bool (.bool (.int .i64 .nil))))))) []),.sl none (.ints .i64 []),.sl none (.ints .i64 []),.sl none (.ae (.int .i64 (.int .i64 (.int .i64 (.int .i64 (.bool .nil))))) []),.val (.int .i64 4),.sl none (.ints .i64 [1]),.sl none (.ae (.int .i64 (.int .i64 (.int .i64 (.int .i64 (.bool .nil))))) []),.val (.int .i64 2147483647),.val (.bool false),.own 3,.val (.slice none 0 0)]),(3,.row 59 (.ae (.int .i64 (.int .i64 (.int .i64 (.int .i64 (.int .i64 (.bool (.int .i64 (.int .i64 (.ae (.ints .u8 .nil) (.int .i64 (.int .i64 (.bool (.int .i64 (.int .i64 .nil)))))))))))))) lk)),(4,.tok)] [.one (.ptr 1 0),Any,Any,Any,.one (.ptr 2 0),.one (.own 3)]) (tM) (sR 64) ⟨0,F.IB [] [F.DJ]⟩ ?_ ?_ ?_
 ·exact⟨rfl,by subst hF;rfl⟩
 ·cbv
  repeat' (first|exact trivial|exact rfl|(subst hA h1;exact rfl)|refine And.intro ?_ ?_)
 rintro⟨i,o⟩ hq O hO
 have hi0:i=0∧o=[uW]:=hq
 obtain⟨hi0,ho0⟩:=hi0
 subst hi0
 subst hA
 generalize hA:Ar.U=A
 generalize hL:Lp _ _ _=L
 refine aT zq ?_
 repeat' (first|(refine ay zq ?_;try dsimp only)|refine ax zq ?_ (aa hL)|refine az zq ?_|refine aw ?_|refine aq ?_|refine au ?_|refine ar ?_|refine al rfl ?_|refine ai rfl ?_|refine aj rfl ?_|(refine Cd.mk ?_;cbv)|(refine aF.mk ?_;cbv)|(refine aK.mk ?_;cbv)|exact trivial|refine And.intro ?_ ?_|refine aZ fun _=>?_|refine ba fun _=>?_)
 all_goals first|(exfalso;clear hL zq Z hq hfs;subst hA hF hG0 hG1 hG2 hG3 hG4 hO h1 ho0;simp only [No.U,Ar.U] at * <;> grind [ah];done)|(show L _ _ _;skip)|(clear hL zq Z hq hfs;subst hA hF hG0 hG1 hG2 hG3 hG4 hO h1 ho0;simp only [No.U,Ar.U] at * <;> grind [ah];done)
theorem BF:aC Tryz.prog 22 (yF No.U):=by
 refine aD (af.cons Ax (af.cons Aj af.nil rfl) rfl) Tryz.func22 rfl rfl fun xs h p hp=>?_
 unfold yF at hp
 split at hp
 ·cases hp
  exact⟨av rfl,fun hC _=>@QL _ _ _ _ _ _ _ _ _ _ _ _ _ _ _ _ _ _ _ _ _ hC⟩
 ·cases hp
def tX (F:No):aW:=fun xs h=>match xs,h with
 |[.one (.ptr 0 0)],[(0,.cells 42 [.val (.int .i64 2147483647),.val (.int .i64 2147483647),.val (.int .i64 2147483647),.val (.int .i64 1),.val (.int .i64 1),.val (.int .i64 1),.val (.int .i64 1),.val (.int .i64 0),.sl none (.ae (.int .i64 (.int .i64 (.int .i64 (.int .i64 (.bool (.bool (.int .i64 .nil))))))) []),.sl none (.ints .i64 []),.sl none (.ints .i64 []),.sl none (.ae (.int .i64 (.int .i64 (.int .i64 (.int .i64 (.bool .nil))))) []),.val (.int .i64 4),.sl none (.ints .i64 [1]),.sl none (.ae (.int .i64 (.int .i64 (.int .i64 (.int .i64 (.bool .nil))))) []),.val (.int .i64 2147483647),.val (.bool false),.own 1,.val (.slice none 0 0)]),(1,.row 59 (.ae (.int .i64 (.int .i64 (.int .i64 (.int .i64 (.int .i64 (.bool (.int .i64 (.int .i64 (.ae (.ints .u8 .nil) (.int .i64 (.int .i64 (.bool (.int .i64 (.int .i64 .nil)))))))))))))) lk))]=>some ⟨lk=[F.vv],.sa (.one (.sl none (.ae (.int .i64 (.int .i64 (.ints .u8 (.bool .nil)))) [F.Mb]))),[(0,.cells 42 [.val (.int .i64 2147483647),.val (.int .i64 2147483647),.val (.int .i64 2147483647),.val (.int .i64 1),.val (.int .i64 1),.val (.int .i64 1),.val (.int .i64 1),.val (.int .i64 0),.sl none (.ae (.int .i64 (.int .i64 (.int .i64 (.int .i64 (.bool (.bool (.int .i64 .nil))))))) []),.sl none (.ints .i64 []),.sl none (.ints .i64 []),.sl none (.ae (.int .i64 (.int .i64 (.int .i64 (.int .i64 (.bool .nil))))) []),.val (.int .i64 4),.sl none (.ints .i64 [1]),.sl none (.ae (.int .i64 (.int .i64 (.int .i64 (.int .i64 (.bool .nil))))) []),.val (.int .i64 2147483647),.val (.bool false),.own 1,.val (.slice none 0 0)]),(1,.row 59 (.ae (.int .i64 (.int .i64 (.int .i64 (.int .i64 (.int .i64 (.bool (.int .i64 (.int .i64 (.ae (.ints .u8 .nil) (.int .i64 (.int .i64 (.bool (.int .i64 (.int .i64 .nil)))))))))))))) lk))],[.one (.ptr 0 0)]⟩
 |_,_=>none
theorem KV (lk:List E) (hC:lk=[No.U.vv]):aR [(18,mn No.U),(bn 18,cT),(27,tT LkR.Ts.U),(22,yF No.U),(24,Av No.U)] Tryz.f8 [.one (.ptr 0 0)] [(0,.cells 42 [.val (.int .i64 2147483647),.val (.int .i64 2147483647),.val (.int .i64 2147483647),.val (.int .i64 1),.val (.int .i64 1),.val (.int .i64 1),.val (.int .i64 1),.val (.int .i64 0),.sl none (.ae (.int .i64 (.int .i64 (.int .i64 (.int .i64 (.bool (.bool (.int .i64 .nil))))))) []),.sl none (.ints .i64 []),.sl none (.ints .i64 []),.sl none (.ae (.int .i64 (.int .i64 (.int .i64 (.int .i64 (.bool .nil))))) []),.val (.int .i64 4),.sl none (.ints .i64 [1]),.sl none (.ae (.int .i64 (.int .i64 (.int .i64 (.int .i64 (.bool .nil))))) []),.val (.int .i64 2147483647),.val (.bool false),.own 1,.val (.slice none 0 0)]),(1,.row 59 (.ae (.int .i64 (.int .i64 (.int .i64 (.int .i64 (.int .i64 (.bool (.int .i64 (.int .i64 (.ae (.ints .u8 .nil) (.int .i64 (.int .i64 (.bool (.int .i64 (.int .i64 .nil)))))))))))))) lk))] ⟨lk=[No.U.vv],.sa (.one (.sl none (.ae (.int .i64 (.int .i64 (.ints .u8 (.bool .nil)))) [No.U.Mb]))),[(0,.cells 42 [.val (.int .i64 2147483647),.val (.int .i64 2147483647),.val (.int .i64 2147483647),.val (.int .i64 1),.val (.int .i64 1),.val (.int .i64 1),.val (.int .i64 1),.val (.int .i64 0),.sl none (.ae (.int .i64 (.int .i64 (.int .i64 (.int .i64 (.bool (.bool (.int .i64 .nil))))))) []),.sl none (.ints .i64 []),.sl none (.ints .i64 []),.sl none (.ae (.int .i64 (.int .i64 (.int .i64 (.int .i64 (.bool .nil))))) []),.val (.int .i64 4),.sl none (.ints .i64 [1]),.sl none (.ae (.int .i64 (.int .i64 (.int .i64 (.int .i64 (.bool .nil))))) []),.val (.int .i64 2147483647),.val (.bool false),.own 1,.val (.slice none 0 0)]),(1,.row 59 (.ae (.int .i64 (.int .i64 (.int .i64 (.int .i64 (.int .i64 (.bool (.int .i64 (.int .i64 (.ae (.ints .u8 .nil) (.int .i64 (.int .i64 (.bool (.int .i64 (.int .i64 .nil)))))))))))))) lk))],[.one (.ptr 0 0)]⟩:=by
 intro b gv
 have h1:lk=[nF]:=hC
 have hfs:=(af.keeps nY nR (af.cons vJ (af.cons BF (af.cons xV af.nil rfl) rfl) rfl))
 generalize hF:No.U=F at hC hfs ⊢
 generalize hG0:CoN.Cn.U=G0 at hC hfs ⊢
 generalize hG1:LkR.Ts.U=G1 at hC hfs ⊢
 generalize hG2:FrR.Rs.U=G2 at hC hfs ⊢
 generalize hG3:InK.Nf.U=G3 at hC hfs ⊢
 generalize hG4:FrQ.Qs.U=G4 at hC hfs ⊢
 generalize hA:Ar.U=A
 generalize hL:Lp _ _ _=L
 obtain⟨Z,zq⟩:=aH
 refine @aA _ _ _ _ _ _ _ (aa hL) _ _ zq rfl ?_
 repeat' (first|(refine ay zq ?_;try dsimp only)|refine ax zq ?_ (aa hL)|refine az zq ?_|refine aw ?_|refine aq ?_|refine au ?_|refine ar ?_|refine al rfl ?_|refine ai rfl ?_|refine aj rfl ?_|(refine Cd.mk ?_;cbv)|(refine aF.mk ?_;cbv)|(refine aK.mk ?_;cbv)|exact trivial|refine And.intro ?_ ?_|refine aZ fun _=>?_|refine ba fun _=>?_)
 all_goals first|(exfalso;clear hL zq Z hfs;subst hA hF hG0 hG1 hG2 hG3 hG4 h1;simp only [No.U,Ar.U] at * <;> grind [ah];done)|(show L _ _ _;skip)|(clear hL zq Z hfs;subst hA hF hG0 hG1 hG2 hG3 hG4 h1;simp only [No.U,CoN.Cn.U,LkR.Ts.U,FrR.Rs.U,InK.Nf.U,Ar.U,List.nil_append,kS,ji,iJ,cV,nN,fL,ij,dz,eT,iq,FrQ.Qs.U,eT,dz,KF,Lu] at * <;> grind [ah];done)
 subst hL
 refine bj (bo hfs) (uQ) (fun y=>bW Tryz.f8.ntmps [(0,.ptr 2 0),(3,.ptr 1 0),(17,.val (.int .i64 (A.dw lk))),(18,.val (.int .i64 y.i))] [(1,.cells 76 [.ptr 2 0,.sl (some (4,102)) (.ae (.int .i64 (.int .i64 (.ints .u8 (.bool .nil)))) y.o),.val (.slice none 0 0)]),(2,.cells 42 [.val (.int .i64 2147483647),.val (.int .i64 2147483647),.val (.int .i64 2147483647),.val (.int .i64 1),.val (.int .i64 1),.val (.int .i64 1),.val (.int .i64 1),.val (.int .i64 0),.sl none (.ae (.int .i64 (.int .i64 (.int .i64 (.int .i64 (.bool (.bool (.int .i64 .nil))))))) []),.sl none (.ints .i64 []),.sl none (.ints .i64 []),.sl none (.ae (.int .i64 (.int .i64 (.int .i64 (.int .i64 (.bool .nil))))) []),.val (.int .i64 4),.sl none (.ints .i64 [1]),.sl none (.ae (.int .i64 (.int .i64 (.int .i64 (.int .i64 (.bool .nil))))) []),.val (.int .i64 2147483647),.val (.bool false),.own 3,.val (.slice none 0 0)]),(3,.row 59 (.ae (.int .i64 (.int .i64 (.int .i64 (.int .i64 (.int .i64 (.bool (.int .i64 (.int .i64 (.ae (.ints .u8 .nil) (.int .i64 (.int .i64 (.bool (.int .i64 (.int .i64 .nil)))))))))))))) lk)),(4,.tok)] [.one (.ptr 2 0)]) (sM) uR ⟨0,[]⟩ ?_ ?_ ?_
 ·exact .inl ⟨rfl,rfl⟩
 ·cbv
  repeat' (first|exact trivial|exact rfl|refine And.intro ?_ ?_)
 rintro⟨i,o⟩ hq O hO
 have hcase:(i=0∧o=[])∨(i=1∧o=[uW]):=hq
 have hl9:=OB
 have hl8:=Pj
 have hq9:=QJ
 have ha9:=Iy
 have hkb:=TS
 have hx9:=UI
 subst hA
 generalize hA:Ar.U=A
 generalize hL:Lp _ _ _=L
 refine aT zq ?_
 repeat' (first|(refine ay zq ?_;try dsimp only)|refine ax zq ?_ (aa hL)|refine az zq ?_|refine aw ?_|refine aq ?_|refine au ?_|refine ar ?_|refine al rfl ?_|refine ai rfl ?_|refine aj rfl ?_|(refine Cd.mk ?_;cbv)|(refine aF.mk ?_;cbv)|(refine aK.mk ?_;cbv)|exact trivial|refine And.intro ?_ ?_|refine aZ fun _=>?_|refine ba fun _=>?_)
 all_goals (rcases hcase with ⟨hi,ho⟩ | ⟨hi,ho⟩ <;> subst hi ho)
 all_goals first|(show L _ _ _;skip)|(clear hL zq Z hq hfs;subst hA hF hG0 hG1 hG2 hG3 hG4 hO h1;simp only [No.U,LkR.Ts.U,Ar.U,kS,iJ,nN] at * <;> grind [ah];done)
theorem xa:aC Tryz.prog 8 (tX No.U):=by
 refine aD (af.keeps nY nR (af.cons vJ (af.cons BF (af.cons xV af.nil rfl) rfl) rfl)) Tryz.func8 rfl rfl fun xs h p hp=>?_
 unfold tX at hp
 split at hp
 ·cases hp
  exact⟨av rfl,fun hC _=>@KV _ hC⟩
 ·cases hp
abbrev K7:Sh:=.int .i64 (.int .i64 (.int .i64 (.int .i64 (.int .i64 (.bool (.int .i64 (.int .i64 (.ae (.ints .u8 .nil) (.int .i64 (.int .i64 (.bool (.int .i64 (.int .i64 .nil)))))))))))))
abbrev F7:Sh:=.int .i64 (.int .i64 (.ints .u8 (.bool .nil)))
def Hn (F:No):aW:=OY 0 1 3 102 F7 (Av F)
theorem Bu:aC Tryz.prog 24 (Hn No.U):=JU _ _ _ _ _ xV
def tR (F:No):aW:=fun xs h=>match xs,h with
 |[.one (.ptr 0 0),.one (.val (.int .i64 p)),.one (.val (.int .i64 w))],[(0,.cells 42 [.val (.int .i64 2147483647),.val (.int .i64 2147483647),.val (.int .i64 2147483647),.val (.int .i64 1),.val (.int .i64 1),.val (.int .i64 1),.val (.int .i64 1),.val (.int .i64 0),.sl none (.ae (.int .i64 (.int .i64 (.int .i64 (.int .i64 (.bool (.bool (.int .i64 .nil))))))) []),.sl none (.ints .i64 []),.sl none (.ints .i64 []),.sl none (.ae (.int .i64 (.int .i64 (.int .i64 (.int .i64 (.bool .nil))))) []),.val (.int .i64 4),.sl none (.ints .i64 [1]),.sl none (.ae (.int .i64 (.int .i64 (.int .i64 (.int .i64 (.bool .nil))))) []),.val (.int .i64 2147483647),.val (.bool false),.own 1,.val (.slice none 0 0)]),(1,.row 59 (.ae (.int .i64 (.int .i64 (.int .i64 (.int .i64 (.int .i64 (.bool (.int .i64 (.int .i64 (.ae (.ints .u8 .nil) (.int .i64 (.int .i64 (.bool (.int .i64 (.int .i64 .nil)))))))))))))) lk))]=>some ⟨p=2∧w=5∧lk=[],.bB [.one (.sl none (.ae (.int .i64 (.int .i64 (.ints .u8 (.bool .nil)))) [])),I 0],[(0,.cells 42 [.val (.int .i64 2147483647),.val (.int .i64 2147483647),.val (.int .i64 2147483647),.val (.int .i64 1),.val (.int .i64 1),.val (.int .i64 1),.val (.int .i64 1),.val (.int .i64 0),.sl none (.ae (.int .i64 (.int .i64 (.int .i64 (.int .i64 (.bool (.bool (.int .i64 .nil))))))) []),.sl none (.ints .i64 []),.sl none (.ints .i64 []),.sl none (.ae (.int .i64 (.int .i64 (.int .i64 (.int .i64 (.bool .nil))))) []),.val (.int .i64 4),.sl none (.ints .i64 [1]),.sl none (.ae (.int .i64 (.int .i64 (.int .i64 (.int .i64 (.bool .nil))))) []),.val (.int .i64 2147483647),.val (.bool false),.own 1,.val (.slice none 0 0)]),(1,.row 59 (.ae (.int .i64 (.int .i64 (.int .i64 (.int .i64 (.int .i64 (.bool (.int .i64 (.int .i64 (.ae (.ints .u8 .nil) (.int .i64 (.int .i64 (.bool (.int .i64 (.int .i64 .nil)))))))))))))) [F.vv]))],[.one (.ptr 0 0),Any,Any]⟩
 |_,_=>none
theorem Mk (p:Int) (w:Int) (lk:List E) (hC:p=2∧w=5∧lk=[]):aR [(18,mn No.U),(bn 18,cT),(19,zt LkR.Ts.U),(20,HP No.U),(bn 20,cT),(23,xe InK.Nf.U),(24,Hn No.U)] Tryz.f5 [.one (.ptr 0 0),.one (.val (.int .i64 p)),.one (.val (.int .i64 w))] [(0,.cells 42 [.val (.int .i64 2147483647),.val (.int .i64 2147483647),.val (.int .i64 2147483647),.val (.int .i64 1),.val (.int .i64 1),.val (.int .i64 1),.val (.int .i64 1),.val (.int .i64 0),.sl none (.ae (.int .i64 (.int .i64 (.int .i64 (.int .i64 (.bool (.bool (.int .i64 .nil))))))) []),.sl none (.ints .i64 []),.sl none (.ints .i64 []),.sl none (.ae (.int .i64 (.int .i64 (.int .i64 (.int .i64 (.bool .nil))))) []),.val (.int .i64 4),.sl none (.ints .i64 [1]),.sl none (.ae (.int .i64 (.int .i64 (.int .i64 (.int .i64 (.bool .nil))))) []),.val (.int .i64 2147483647),.val (.bool false),.own 1,.val (.slice none 0 0)]),(1,.row 59 (.ae (.int .i64 (.int .i64 (.int .i64 (.int .i64 (.int .i64 (.bool (.int .i64 (.int .i64 (.ae (.ints .u8 .nil) (.int .i64 (.int .i64 (.bool (.int .i64 (.int .i64 .nil)))))))))))))) lk))] ⟨p=2∧w=5∧lk=[],.bB [.one (.sl none (.ae (.int .i64 (.int .i64 (.ints .u8 (.bool .nil)))) [])),I 0],[(0,.cells 42 [.val (.int .i64 2147483647),.val (.int .i64 2147483647),.val (.int .i64 2147483647),.val (.int .i64 1),.val (.int .i64 1),.val (.int .i64 1),.val (.int .i64 1),.val (.int .i64 0),.sl none (.ae (.int .i64 (.int .i64 (.int .i64 (.int .i64 (.bool (.bool (.int .i64 .nil))))))) []),.sl none (.ints .i64 []),.sl none (.ints .i64 []),.sl none (.ae (.int .i64 (.int .i64 (.int .i64 (.int .i64 (.bool .nil))))) []),.val (.int .i64 4),.sl none (.ints .i64 [1]),.sl none (.ae (.int .i64 (.int .i64 (.int .i64 (.int .i64 (.bool .nil))))) []),.val (.int .i64 2147483647),.val (.bool false),.own 1,.val (.slice none 0 0)]),(1,.row 59 (.ae (.int .i64 (.int .i64 (.int .i64 (.int .i64 (.int .i64 (.bool (.int .i64 (.int .i64 (.ae (.ints .u8 .nil) (.int .i64 (.int .i64 (.bool (.int .i64 (.int .i64 .nil)))))))))))))) [No.U.vv]))],[.one (.ptr 0 0),Any,Any]⟩:=by
 intro b gv
 obtain⟨rfl,rfl,rfl⟩:=hC
 have hC:True:=trivial
 have hk7:=Qd
 have hfs:=(af.keeps nY nR (af.cons Bh (af.keeps NV Nu (af.cons sZ (af.cons Bu af.nil rfl) rfl)) rfl))
 generalize hF:No.U=F at hC hfs ⊢
 generalize hG0:CoN.Cn.U=G0 at hC hfs ⊢
 generalize hG1:LkR.Ts.U=G1 at hC hfs ⊢
 generalize hG2:FrR.Rs.U=G2 at hC hfs ⊢
 generalize hG3:InK.Nf.U=G3 at hC hfs ⊢
 generalize hG4:FrQ.Qs.U=G4 at hC hfs ⊢
 generalize hA:Ar.U=A
 generalize hL:Lp _ _ _=L
 obtain⟨Z,zq⟩:=aH
 refine @aA _ _ _ _ _ _ _ (aa hL) _ _ zq rfl ?_
 repeat' (first|(refine ay zq ?_;try dsimp only)|refine ax zq ?_ (aa hL)|refine az zq ?_|refine aw ?_|refine aq ?_|refine au ?_|refine ar ?_|refine al rfl ?_|refine ai rfl ?_|refine aj rfl ?_|(refine Cd.mk ?_;cbv)|(refine aF.mk ?_;cbv)|(refine aK.mk ?_;cbv)|exact trivial|refine And.intro ?_ ?_|refine aZ fun _=>?_|refine ba fun _=>?_)
 all_goals first|(exfalso;clear hL zq Z hfs;subst hA hF hG0 hG1 hG2 hG3 hG4;simp only [LkR.Ts.U,Ar.U,cV] at * <;> grind [ah];done)|(show L _ _ _;skip)|(clear hL zq Z hfs;subst hA hF hG0 hG1 hG2 hG3 hG4;simp only [No.U,LkR.Ts.U,InK.Nf.U,Ar.U,cV] at * <;> grind [ah];done)
theorem Hp:aC Tryz.prog 5 (tR No.U):=by
 refine aD (af.keeps nY nR (af.cons Bh (af.keeps NV Nu (af.cons sZ (af.cons Bu af.nil rfl) rfl)) rfl)) Tryz.func5 rfl rfl fun xs h p hp=>?_
 unfold tR at hp
 split at hp
 ·cases hp
  exact⟨av rfl,fun hC _=>@Mk _ _ _ hC⟩
 ·cases hp
def Bx (F:No):aW:=EC 0 17 1 59 (.ae K7 []) (tR F)
theorem wW:aC Tryz.prog 5 (Bx No.U):=EV _ _ _ _ _ Hp
def yz (_:No):aW:=fun xs h=>match xs,h with
 |[],[]=>some ⟨True,.sa (.agg [.val (.int .i64 2147483647),.val (.int .i64 2147483647),.val (.int .i64 2147483647)]),[],[]⟩
 |_,_=>none
theorem PV:aR [] Tryz.f32 [] [] ⟨True,.sa (.agg [.val (.int .i64 2147483647),.val (.int .i64 2147483647),.val (.int .i64 2147483647)]),[],[]⟩:=by
 intro b gv
 generalize hF:No.U=F
 generalize hG0:CoN.Cn.U=G0
 generalize hG1:LkR.Ts.U=G1
 generalize hG2:FrR.Rs.U=G2
 generalize hG3:InK.Nf.U=G3
 generalize hG4:FrQ.Qs.U=G4
 generalize hA:Ar.U=A
 generalize hL:Lp _ _ _=L
 obtain⟨Z,zq⟩:=aH
 refine @aA _ _ _ _ _ _ _ (aa hL) _ _ zq rfl ?_
 repeat' (first|(refine ay zq ?_;try dsimp only)|refine ax zq ?_ (aa hL)|refine az zq ?_|refine aw ?_|refine aq ?_|refine au ?_|refine ar ?_|refine al rfl ?_|refine ai rfl ?_|refine aj rfl ?_|(refine Cd.mk ?_;cbv)|(refine aF.mk ?_;cbv)|(refine aK.mk ?_;cbv)|exact trivial|refine And.intro ?_ ?_|refine aZ fun _=>?_|refine ba fun _=>?_)
 all_goals first|(show L _ _ _;skip)|(clear hL zq Z;subst hA hF hG0 hG1 hG2 hG3 hG4;simp only [No.U,CoN.Cn.U,LkR.Ts.U,FrR.Rs.U,InK.Nf.U,Ar.U,List.nil_append,kS,ji,iJ,cV,nN,fL,ij,dz,eT,iq,FrQ.Qs.U,eT,dz,KF,Lu] at * <;> grind [ah];done)
theorem Bj:aC Tryz.prog 32 (yz No.U):=by
 refine aD af.nil Tryz.func32 rfl rfl fun xs h p hp=>?_
 unfold yz at hp
 split at hp
 ·cases hp
  exact⟨av rfl,fun _ _=>@PV ⟩
 ·cases hp
def yG (_:No):aW:=fun xs h=>match xs,h with
 |[.one (.val (.int .i64 i)),.agg [.val (.int .i64 v_e),.val (.int .i64 v_s),.val (.int .i64 v_q)]],[]=>some ⟨i=1∧v_e=2147483647∧v_s=2147483647∧v_q=2147483647,.bB [.one (.ptr 0 0),I 0],[(0,.cells 42 [.val (.int .i64 2147483647),.val (.int .i64 2147483647),.val (.int .i64 2147483647),.val (.int .i64 1),.val (.int .i64 1),.val (.int .i64 1),.val (.int .i64 1),.val (.int .i64 0),.sl none (.ae (.int .i64 (.int .i64 (.int .i64 (.int .i64 (.bool (.bool (.int .i64 .nil))))))) []),.sl none (.ints .i64 []),.sl none (.ints .i64 []),.sl none (.ae (.int .i64 (.int .i64 (.int .i64 (.int .i64 (.bool .nil))))) []),.val (.int .i64 4),.sl none (.ints .i64 [1]),.sl none (.ae (.int .i64 (.int .i64 (.int .i64 (.int .i64 (.bool .nil))))) []),.val (.int .i64 2147483647),.val (.bool false),.val (.slice none 0 0),.val (.slice none 0 0)])],[Any,Any]⟩
 |_,_=>none
theorem Pq (i:Int) (v_e:Int) (v_s:Int) (v_q:Int) (hC:i=1∧v_e=2147483647∧v_s=2147483647∧v_q=2147483647):aR [(66,FN No.U),(67,Iv CoN.Cn.U)] Tryz.f31 [.one (.val (.int .i64 i)),.agg [.val (.int .i64 v_e),.val (.int .i64 v_s),.val (.int .i64 v_q)]] [] ⟨i=1∧v_e=2147483647∧v_s=2147483647∧v_q=2147483647,.bB [.one (.ptr 0 0),I 0],[(0,.cells 42 [.val (.int .i64 2147483647),.val (.int .i64 2147483647),.val (.int .i64 2147483647),.val (.int .i64 1),.val (.int .i64 1),.val (.int .i64 1),.val (.int .i64 1),.val (.int .i64 0),.sl none (.ae (.int .i64 (.int .i64 (.int .i64 (.int .i64 (.bool (.bool (.int .i64 .nil))))))) []),.sl none (.ints .i64 []),.sl none (.ints .i64 []),.sl none (.ae (.int .i64 (.int .i64 (.int .i64 (.int .i64 (.bool .nil))))) []),.val (.int .i64 4),.sl none (.ints .i64 [1]),.sl none (.ae (.int .i64 (.int .i64 (.int .i64 (.int .i64 (.bool .nil))))) []),.val (.int .i64 2147483647),.val (.bool false),.val (.slice none 0 0),.val (.slice none 0 0)])],[Any,Any]⟩:=by
 intro b gv
 obtain⟨rfl,rfl,rfl,rfl⟩:=hC
 have hC:True:=trivial
 have hz9:=SN
 have hl9:=XG
 have hfs:=(af.cons HS (af.cons zV af.nil rfl) rfl)
 generalize hF:No.U=F at hC hfs ⊢
 generalize hG0:CoN.Cn.U=G0 at hC hfs ⊢
 generalize hG1:LkR.Ts.U=G1 at hC hfs ⊢
 generalize hG2:FrR.Rs.U=G2 at hC hfs ⊢
 generalize hG3:InK.Nf.U=G3 at hC hfs ⊢
 generalize hG4:FrQ.Qs.U=G4 at hC hfs ⊢
 generalize hA:Ar.U=A
 generalize hL:Lp _ _ _=L
 obtain⟨Z,zq⟩:=aH
 refine @aA _ _ _ _ _ _ _ (aa hL) _ _ zq rfl ?_
 repeat' (first|(refine ay zq ?_;try dsimp only)|refine ax zq ?_ (aa hL)|refine az zq ?_|refine aw ?_|refine aq ?_|refine au ?_|refine ar ?_|refine al rfl ?_|refine ai rfl ?_|refine aj rfl ?_|(refine Cd.mk ?_;cbv)|(refine aF.mk ?_;cbv)|(refine aK.mk ?_;cbv)|exact trivial|refine And.intro ?_ ?_|refine aZ fun _=>?_|refine ba fun _=>?_)
 all_goals first|(exfalso;clear hL zq Z hfs;subst hA hF hG0 hG1 hG2 hG3 hG4;simp only [No.U,CoN.Cn.U,Ar.U] at * <;> grind [ah];done)|(show L _ _ _;skip)|(clear hL zq Z hfs;subst hA hF hG0 hG1 hG2 hG3 hG4;simp only [No.U,CoN.Cn.U,Ar.U] at * <;> grind [ah];done)
theorem AM:aC Tryz.prog 31 (yG No.U):=by
 refine aD (af.cons HS (af.cons zV af.nil rfl) rfl) Tryz.func31 rfl rfl fun xs h p hp=>?_
 unfold yG at hp
 split at hp
 ·cases hp
  exact⟨av rfl,fun hC _=>@Pq _ _ _ _ hC⟩
 ·cases hp
def uM (_:No):aW:=fun xs h=>match xs,h with
 |[],[]=>some ⟨True,.sa (B true),[],[]⟩
 |_,_=>none
theorem MI:aR [(32,yz No.U),(31,yG No.U),(5,Bx No.U),(8,tX No.U),(33,uP FrQ.Qs.U)] Tryz.f11 [] [] ⟨True,.sa (B true),[],[]⟩:=by
 intro b gv
 have hd9:=DJ
 have hfs:=(af.cons Bj (af.cons AM (af.cons wW (af.cons xa (af.cons tI af.nil rfl) rfl) rfl) rfl) rfl)
 generalize hF:No.U=F at hfs ⊢
 generalize hG0:CoN.Cn.U=G0 at hfs ⊢
 generalize hG1:LkR.Ts.U=G1 at hfs ⊢
 generalize hG2:FrR.Rs.U=G2 at hfs ⊢
 generalize hG3:InK.Nf.U=G3 at hfs ⊢
 generalize hG4:FrQ.Qs.U=G4 at hfs ⊢
 generalize hA:Ar.U=A
 generalize hL:Lp _ _ _=L
 obtain⟨Z,zq⟩:=aH
 refine @aA _ _ _ _ _ _ _ (aa hL) _ _ zq rfl ?_
 repeat' (first|(refine ay zq ?_;try dsimp only)|refine ax zq ?_ (aa hL)|refine az zq ?_|refine aw ?_|refine aq ?_|refine au ?_|refine ar ?_|refine al rfl ?_|refine ai rfl ?_|refine aj rfl ?_|(refine Cd.mk ?_;cbv)|(refine aF.mk ?_;cbv)|(refine aK.mk ?_;cbv)|exact trivial|refine And.intro ?_ ?_|refine aZ fun _=>?_|refine ba fun _=>?_)
 all_goals first|(exfalso;clear hL zq Z hfs;subst hA hF hG0 hG1 hG2 hG3 hG4;simp only [No.U,Ar.U,FrQ.Qs.U,KF,Lu] at * <;> grind [ah];done)|(show L _ _ _;skip)|(clear hL zq Z hfs;subst hA hF hG0 hG1 hG2 hG3 hG4;simp only [No.U,Ar.U,FrQ.Qs.U,KF,Lu] at * <;> grind [ah];done)
theorem xg:aC Tryz.prog 11 (uM No.U):=by
 refine aD (af.cons Bj (af.cons AM (af.cons wW (af.cons xa (af.cons tI af.nil rfl) rfl) rfl) rfl) rfl) Tryz.func11 rfl rfl fun xs h p hp=>?_
 unfold uM at hp
 split at hp
 ·cases hp
  exact⟨av rfl,fun _ _=>@MI ⟩
 ·cases hp
end Go.Proofs.YtakebkfhigadiaaGreat.NoS
