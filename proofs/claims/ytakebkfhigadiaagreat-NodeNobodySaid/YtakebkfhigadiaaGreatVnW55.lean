/-
  The walk of nobody's law. No condition.
-/
import Derived.Test.YtakebkfhigadiaaGreatVnNoS
import Derived.Test.YtakebkfhigadiaaGreatRows
import Derived.Test.YtakebkfhigadiaaGreatVnLaw
import Derived.Test.YtakebkfhigadiaaGreatVnW15
import Derived.Test.YtakebkfhigadiaaGreatVnRyOp
set_option cbv.maxSteps 4000000
set_option maxHeartbeats 4000000
set_option maxRecDepth 100000
namespace Go.Proofs.YtakebkfhigadiaaGreat.NoZ
open Go Ry HaR FrR LiR LkR NoR NoS
theorem De:bY (iv No.U):=by
 intro xs h p hp
 unfold iv at hp
 split at hp
 ·cases hp
  rfl
 ·cases hp
theorem vZ:bY (uL No.U):=sd De CQ
theorem Cq:bY (jk No.U):=by
 intro xs h p hp
 unfold jk at hp
 split at hp
 ·cases hp
  rfl
 ·cases hp
theorem vT:bY (uK No.U):=sd Cq Cg
theorem DX:bY (jf No.U):=by
 intro xs h p hp
 unfold jf at hp
 split at hp
 ·cases hp
  rfl
 ·cases hp
theorem vG:bY (sJ No.U):=sd DX CZ
theorem DL:bY (jj No.U):=by
 intro xs h p hp
 unfold jj at hp
 split at hp
 ·cases hp
  rfl
 ·cases hp
theorem xw:bY (uY No.U):=sd DL Cy
theorem MF:bY (pk No.U):=by
 intro xs h p hp
 unfold pk at hp
 split at hp
 ·cases hp
  rfl
 ·cases hp
theorem IA:bY (IK No.U):=sd MF Lk
def jh (_:No):aW:=fun xs h=>match xs,h with
 |[.one (.val (.pointer none)),.one (.val (.int .i64 _))],[]=>some ⟨True,.bB [.agg [.val (.int .i64 0),.val (.int .i64 0),.val (.int .i64 0),.val (.int .i64 0),.val (.int .i64 0),.val (.bool false),.val (.int .i64 0),.val (.int .i64 0),.val (.slice none 0 0),.val (.int .i64 0),.val (.int .i64 0),.val (.bool false),.val (.int .i64 0),.val (.int .i64 0)],B false],[],[Any,Any]⟩
 |_,_=>none
theorem Fw (p:Int):aR [(18,iz No.U)] Tryz.f6 [.one (.val (.pointer none)),.one (.val (.int .i64 p))] [] ⟨True,.bB [.agg [.val (.int .i64 0),.val (.int .i64 0),.val (.int .i64 0),.val (.int .i64 0),.val (.int .i64 0),.val (.bool false),.val (.int .i64 0),.val (.int .i64 0),.val (.slice none 0 0),.val (.int .i64 0),.val (.int .i64 0),.val (.bool false),.val (.int .i64 0),.val (.int .i64 0)],B false],[],[Any,Any]⟩:=by
 intro b gv
 generalize hF:No.U=F
 generalize hA:Ar.U=A
 generalize hL:Lp _ _ _=L
 obtain⟨Z,zq⟩:=aH
 refine @aA _ _ _ _ _ _ _ (aa hL) _ _ zq rfl ?_
 repeat' (first|(refine ay zq ?_;try dsimp only)|refine ax zq ?_ (aa hL)|refine az zq ?_|refine aw ?_|refine aq ?_|refine au ?_|refine ar ?_|refine al rfl ?_|refine ai rfl ?_|refine aj rfl ?_|(refine Cd.mk ?_;cbv)|(refine aF.mk ?_;cbv)|(refine aK.mk ?_;cbv)|exact trivial|refine And.intro ?_ ?_|refine aZ fun _=>?_|refine ba fun _=>?_)
 all_goals first|(exfalso;clear hL zq Z;subst hA hF;simp only [Ar.U] at * <;> grind [ah];done)|(show L _ _ _;skip)|(clear hL zq Z;subst hA hF;simp only [No.U,Ar.U] at * <;> grind [ah];done)
theorem Cw:aC Tryz.prog 6 (jh No.U):=by
 refine aD (af.cons jt af.nil rfl) Tryz.func6 rfl rfl fun xs h p hp=>?_
 unfold jh at hp
 split at hp
 ·cases hp
  exact⟨av rfl,fun _ _=>@Fw _⟩
 ·cases hp
theorem Cc:bY (jh No.U):=by
 intro xs h p hp
 unfold jh at hp
 split at hp
 ·cases hp
  rfl
 ·cases hp
def ja (_:No):aW:=fun xs h=>match xs,h with
 |[.one (.ptr 0 0),.one (.val (.int .i64 _))],[(0,.cells 42 [.val (.int .i64 z0),.val (.int .i64 z1),.val (.int .i64 z2),.val (.int .i64 z3),.val (.int .i64 z4),.val (.int .i64 z5),.val (.int .i64 z6),.val (.int .i64 z7),.val (.slice none 0 0),.val (.slice none 0 0),.val (.slice none 0 0),.val (.slice none 0 0),.val (.int .i64 z8),.val (.slice none 0 0),.val (.slice none 0 0),.val (.int .i64 z9),.val (.bool zo),.val (.slice none 0 0),.val (.slice none 0 0)])]=>some ⟨z3=0,.bB [.agg [.val (.int .i64 0),.val (.int .i64 0),.val (.int .i64 0),.val (.int .i64 0),.val (.int .i64 0),.val (.bool false),.val (.int .i64 0),.val (.int .i64 0),.val (.slice none 0 0),.val (.int .i64 0),.val (.int .i64 0),.val (.bool false),.val (.int .i64 0),.val (.int .i64 0)],B false],[(0,.cells 42 [.val (.int .i64 z0),.val (.int .i64 z1),.val (.int .i64 z2),.val (.int .i64 z3),.val (.int .i64 z4),.val (.int .i64 z5),.val (.int .i64 z6),.val (.int .i64 z7),.val (.slice none 0 0),.val (.slice none 0 0),.val (.slice none 0 0),.val (.slice none 0 0),.val (.int .i64 z8),.val (.slice none 0 0),.val (.slice none 0 0),.val (.int .i64 z9),.val (.bool zo),.val (.slice none 0 0),.val (.slice none 0 0)])],[.one (.ptr 0 0),Any]⟩
 |_,_=>none
theorem Fe (p:Int) (z0:Int) (z1:Int) (z2:Int) (z3:Int) (z4:Int) (z5:Int) (z6:Int) (z7:Int) (z8:Int) (z9:Int) (zo:Bool) (hC:z3=0):aR [(18,fU No.U),(bn 18,cT)] Tryz.f6 [.one (.ptr 0 0),.one (.val (.int .i64 p))] [(0,.cells 42 [.val (.int .i64 z0),.val (.int .i64 z1),.val (.int .i64 z2),.val (.int .i64 z3),.val (.int .i64 z4),.val (.int .i64 z5),.val (.int .i64 z6),.val (.int .i64 z7),.val (.slice none 0 0),.val (.slice none 0 0),.val (.slice none 0 0),.val (.slice none 0 0),.val (.int .i64 z8),.val (.slice none 0 0),.val (.slice none 0 0),.val (.int .i64 z9),.val (.bool zo),.val (.slice none 0 0),.val (.slice none 0 0)])] ⟨z3=0,.bB [.agg [.val (.int .i64 0),.val (.int .i64 0),.val (.int .i64 0),.val (.int .i64 0),.val (.int .i64 0),.val (.bool false),.val (.int .i64 0),.val (.int .i64 0),.val (.slice none 0 0),.val (.int .i64 0),.val (.int .i64 0),.val (.bool false),.val (.int .i64 0),.val (.int .i64 0)],B false],[(0,.cells 42 [.val (.int .i64 z0),.val (.int .i64 z1),.val (.int .i64 z2),.val (.int .i64 z3),.val (.int .i64 z4),.val (.int .i64 z5),.val (.int .i64 z6),.val (.int .i64 z7),.val (.slice none 0 0),.val (.slice none 0 0),.val (.slice none 0 0),.val (.slice none 0 0),.val (.int .i64 z8),.val (.slice none 0 0),.val (.slice none 0 0),.val (.int .i64 z9),.val (.bool zo),.val (.slice none 0 0),.val (.slice none 0 0)])],[.one (.ptr 0 0),Any]⟩:=by
 intro b gv
 have hz:z3=0:=hC
 subst hz
 generalize hF:No.U=F at hC ⊢
 generalize hA:Ar.U=A
 generalize hL:Lp _ _ _=L
 obtain⟨Z,zq⟩:=aH
 refine @aA _ _ _ _ _ _ _ (aa hL) _ _ zq rfl ?_
 repeat' (first|(refine ay zq ?_;try dsimp only)|refine ax zq ?_ (aa hL)|refine az zq ?_|refine aw ?_|refine aq ?_|refine au ?_|refine ar ?_|refine al rfl ?_|refine ai rfl ?_|refine aj rfl ?_|(refine Cd.mk ?_;cbv)|(refine aF.mk ?_;cbv)|(refine aK.mk ?_;cbv)|exact trivial|refine And.intro ?_ ?_|refine aZ fun _=>?_|refine ba fun _=>?_)
 all_goals first|(exfalso;clear hL zq Z;subst hA hF;simp only [Ar.U] at * <;> grind [ah];done)|(show L _ _ _;skip)|(clear hL zq Z;subst hA hF;simp only [No.U,Ar.U] at * <;> grind [ah];done)
theorem Dp:aC Tryz.prog 6 (ja No.U):=by
 refine aD (af.keeps jr jH af.nil) Tryz.func6 rfl rfl fun xs h p hp=>?_
 unfold ja at hp
 split at hp
 ·cases hp
  exact⟨av rfl,fun hC _=>@Fe _ _ _ _ _ _ _ _ _ _ _ _ hC⟩
 ·cases hp
theorem CA:bY (ja No.U):=by
 intro xs h p hp
 unfold ja at hp
 split at hp
 ·cases hp
  rfl
 ·cases hp
def uE (F:No):aW:=hG (jh F) (ja F)
theorem vq:aC Tryz.prog 6 (uE No.U):=nb Cw Dp
theorem xc:bY (uE No.U):=sd Cc CA
end Go.Proofs.YtakebkfhigadiaaGreat.NoZ
namespace Go.Proofs.YtakebkfhigadiaaGreat.NoX
open Go Ry Law NoZ NoR NoS
open Go.ChangeShapes Go.WideShapes Go.ChangeAt Go.Joins Go.RowKit
def aQ (y:XI):Prop:=y.i=0∨y.i=1∨y.i=2
def aM (y:XI):Nat:=2 - y.i.toNat
theorem Js:aB .add .i64 0 1=1∧aB .add .i64 1 1=2∧aM ⟨1⟩ < aM ⟨0⟩∧aM ⟨2⟩ < aM ⟨1⟩:=by decide
theorem Wp:aQ ⟨1⟩∧aQ ⟨2⟩:=⟨.inr (.inl rfl),.inr (.inr rfl)⟩
noncomputable def ZS (A:Ar) (a:E) (y:XI):St:=bW Tryz.f3.ntmps [(1,.ptr 1 0),(3,.val (.int .i64 y.i))] [(1,.cells 26 [.val (.int .i64 (A.ri a 0)),.val (.int .i64 (A.ri a 1)),.val (.int .i64 (A.ri a 2)),.sl none (.ints .u8 (A.rl a 3)),.val (.int .i64 (A.ri a 4)),.val (.int .i64 (A.ri a 5)),.val (.int .i64 (A.ri a 6)),.val (.int .i64 (A.ri a 7)),.sl none (.ints .u8 (A.rl a 8))])] [Any]
theorem Vj (a0:E) (_:sized [.agg (cG Ar.U (.int .i64 (.int .i64 (.int .i64 (.ints .u8 (.int .i64 (.int .i64 (.int .i64 (.int .i64 (.ints .u8 .nil))))))))) a0 0 9)]):aR [(5,uL No.U),(bn 5,cT),(7,uK No.U),(bn 7,cT),(8,sJ No.U),(bn 8,cT),(9,uY No.U),(bn 9,cT),(10,IK No.U),(bn 10,cT),(6,uE No.U),(bn 6,cT),(11,uM No.U)] Tryz.f3 [.agg (cG Ar.U (.int .i64 (.int .i64 (.int .i64 (.ints .u8 (.int .i64 (.int .i64 (.int .i64 (.int .i64 (.ints .u8 .nil))))))))) a0 0 9)] [] ⟨True,.sa (B true),[],[Any]⟩:=by
 intro b gv
 clear ‹sized _›
 have hfs:=(af.keeps wY vZ (af.keeps wC vT (af.keeps xz vG (af.keeps vh xw (af.keeps Fx IA (af.keeps vq xc (af.cons xg af.nil rfl)))))))
 generalize hF:No.U=F at hfs ⊢
 generalize hA:Ar.U=A
 generalize hL:Lp _ _ _=L
 obtain⟨Z,zq⟩:=aH
 refine @aA _ _ _ _ _ _ _ (aa hL) _ _ zq rfl ?_
 repeat' (first|(refine ay zq ?_;try dsimp only)|refine ax zq ?_ (aa hL)|refine az zq ?_|refine aw ?_|refine aq ?_|refine au ?_|refine ar ?_|refine al rfl ?_|refine ai rfl ?_|refine aj rfl ?_|(refine Cd.mk ?_;cbv)|(refine aF.mk ?_;cbv)|(refine aK.mk ?_;cbv)|exact trivial|refine And.intro ?_ ?_|refine aZ fun _=>?_|refine ba fun _=>?_)
 all_goals first|(show L _ _ _;skip)|(clear hL zq Z hfs;subst hA hF;simp only [No.U,Ar.U] at * <;> grind [ah];done)
 subst hL
 refine bj (bo hfs) (aQ) (fun y=>ZS A a0 y) (aM) (sI 3) ⟨0⟩ ?_ ?_ ?_
 ·exact .inl rfl
 ·cbv
  repeat' (first|exact trivial|exact rfl|refine And.intro ?_ ?_)
 rintro⟨i⟩ hq O hO
 have hcase:i=0∨i=1∨i=2:=hq
 have hf9:=Js
 have hg9:=Wp
 subst hA
 generalize hA:Ar.U=A
 generalize hL:Lp _ _ _=L
 refine aT zq ?_
 repeat' (first|(refine ay zq ?_;try dsimp only)|refine ax zq ?_ (aa hL)|refine az zq ?_|refine aw ?_|refine aq ?_|refine au ?_|refine ar ?_|refine al rfl ?_|refine ai rfl ?_|refine aj rfl ?_|(refine Cd.mk ?_;cbv)|(refine aF.mk ?_;cbv)|(refine aK.mk ?_;cbv)|exact trivial|refine And.intro ?_ ?_|refine aZ fun _=>?_|refine ba fun _=>?_)
 all_goals (rcases hcase with hi|hi|hi <;> subst hi)
 all_goals first|(show L _ _ _;skip)|(clear hL zq Z hfs hq;subst hA hF hO;simp only [Ar.U] at * <;> grind [ah];done)
theorem walk (a0:E) (v0:Value) (w:World) (r0:(SA.agg (cG Ar.U (.int .i64 (.int .i64 (.int .i64 (.ints .u8 (.int .i64 (.int .i64 (.int .i64 (.int .i64 (.ints .u8 .nil))))))))) a0 0 9)).is (G0 w) v0) (_:DQ (.int .i64 (.int .i64 (.int .i64 (.ints .u8 (.int .i64 (.int .i64 (.int .i64 (.int .i64 (.ints .u8 .nil))))))))) a0 0):Calls Tryz.prog 3 #[v0] w (Law.Xt w) :=
 PH (af.keeps wY vZ (af.keeps wC vT (af.keeps xz vG (af.keeps vh xw (af.keeps Fx IA (af.keeps vq xc (af.cons xg af.nil rfl))))))) Tryz.func3 rfl (vs:=[v0]) (by exact⟨r0,trivial⟩) (av rfl) fun hZ=>Vj a0 hZ
end Go.Proofs.YtakebkfhigadiaaGreat.NoX
