
/-
  the order of links;the first of them;copies;which choices may be. No condition.
-/
import Derived.Test.YtakebkfhigadiaaGreatVnSoC
import Derived.Test.YtakebkfhigadiaaGreatVnViL
import Derived.Test.YtakebkfhigadiaaGreatVnW29
set_option cbv.maxSteps 4000000
set_option maxHeartbeats 4000000
set_option maxRecDepth 100000
namespace Go.Proofs.YtakebkfhigadiaaGreat.ChR
open Go Ry Cmp ViR ViL
open ViC (dv bP)
open EcX (mJ)
abbrev K5:=Int × Int × Int × Int × Bool
def k5 (y:E):K5:=(ri y 0,ri y 1,ri y 2,ri y 3,rb y 4)
def cK (n p w n' p' w' : Int):Int:=mJ (Rh n p) (Ow n p) w (Rh n' p') (Ow n' p') w'
def ZM (c:K5) (y:E):K5:=if cK (ri y 0) (ri y 1) (ri y 2) c.1 c.2.1 c.2.2.1 < 0 then k5 y else c
def ZN (l:List E):K5:=l.foldl ZM (k5 (l.getD 0 []))
structure XN where
 i:Int
 n:Int
 p:Int
 w:Int
 s:Int
 b:Bool
def isE (a b w:Int) (y:E):Bool:=decide (Rh (ri y 0) (ri y 1)=a∧Ow (ri y 0) (ri y 1)=b∧ri y 2=w)
def seF (l:List E) (a b w:Int):Int:=match l.find? (isE a b w) with
 |some y=>ri y 3
 |none=>0
structure XI where
 i:Int
def Vp (l:List E) (y:XI):Nat:=l.length - y.i.toNat
def iR (k:Nat) (st:St):XI:=⟨bA st k⟩
noncomputable def i0I (A:Ar) (n:List Int) (l:List E) (y:XI):St:=bW Tryz.f225.ntmps [(1,.ptr 1 0),(4,.val (.slice none 0 0)),(13,.sl none (.ae (.int .i64 (.int .i64 (.int .i64 (.int .i64 (.bool .nil))))) l)),(14,.val (.int .i64 (A.dw l))),(15,.val (.int .i64 y.i))] [(1,.cells 36 [.sl none (.ints .i64 n),.sl none (.ae (.int .i64 (.int .i64 (.int .i64 (.int .i64 (.bool .nil))))) l)])] [Any]
def Xi (l:List E) (y:XI):Prop:=0≤y.i∧y.i≤l.length
theorem Mo {l:List E} (hl:l.length≤1000000) {i:Int} (hq:Xi l ⟨i⟩):0≤i∧i≤l.length∧(i < l.length→aB .add .i64 i 1=i+1∧Vp l ⟨i+1⟩ < Vp l ⟨i⟩∧Xi l ⟨i+1⟩):=by
 obtain⟨h0,h1⟩:=hq
 simp only at h0 h1
 exact⟨h0,h1,fun h=>⟨by rw [aY,wr _ (by omega) (by omega)],by simp only [Vp];omega,by simp only;omega,by simp only;omega⟩⟩
theorem KA {l:List E} (h:sX l=[]) {i:Int} (h0:0≤i) (hi:i < l.length):Ot l (l.getD i.toNat [])=[]:=by
 unfold sX at h
 have hk:i.toNat < l.length:=by omega
 rw [List.flatMap_eq_nil_iff] at h
 refine h _ ?_
 rw [List.getD_eq_getElem?_getD,List.getElem?_eq_getElem hk]
 exact List.getElem_mem hk
def ckC (k a b s:Int):Int:=if k=1∧a=0∧b=0∧s=0 then 0 else if ¬k=2∧¬k=3 then 1 else if ¬dI a=true∨¬dI b=true∨a=b∨s < 1∨s > 2147483647 then 1 else if k=3∧a > b then 1 else 0
def WU (k a b s:Int):Bool:=decide (k=1∧a=0∧b=0∧s=0∨(k=2∨k=3)∧dI a=true∧dI b=true∧a≠b∧1≤s∧s≤2147483647∧(k=2∨a < b))
structure Ch where
 ZW:Int→Int→Int→Int→Int
 Yv:Int→Int→Int→Int→Bool
 aas:Int→Int→Int→Int→Int→Int→Int
 aap:List E→K5
 aaw:List E→Int→Int→Int→Int
 aau:List E→Bool
 ZJ:List E→Bool
 Fi:List Int→List E→Bool
 UJ:List Int→List E→Int
def Ch.U:Ch:=⟨ckC,WU,cK,ZN,seF,fun l=>decide (l.length≤1000000),fun l=>decide (0 < l.length∧l.length≤1000000),fun n l=>decide (n.length≤1000000∧l.length≤1000000∧(Bp n l).length=0),mi⟩
def lB (_:Ch):aW:=fun xs h=>match xs,h with
 |[.one (.val (.slice none 0 0))],[]=>some ⟨True,.sa (.one (.val (.slice none 0 0))),[],[Any]⟩
 |_,_=>none
theorem HT:aR [] Tryz.f245 [.one (.val (.slice none 0 0))] [] ⟨True,.sa (.one (.val (.slice none 0 0))),[],[Any]⟩:=by
 intro b gv
 have hfs:=af.nil
 generalize hF:Ch.U=F at hfs ⊢
 generalize hG0:ViL.Vl.U=G0 at hfs ⊢
 generalize hG1:ViC.Vc.U=G1 at hfs ⊢
 generalize hG2:EgR.Fs.U=G2 at hfs ⊢
 generalize hG3:ViR.Vs.U=G3 at hfs ⊢
 generalize hA:Ar.U=A
 generalize hL:Lp _ _ _=L
 obtain⟨Z,zq⟩:=aH
 refine aA (aa hL) zq rfl ?_
 repeat' (first|(refine ay zq ?_;try dsimp only)|refine ax zq ?_ (aa hL)|refine az zq ?_|refine aw ?_|refine aq ?_|refine au ?_|refine ar ?_|refine al rfl ?_|refine ai rfl ?_|refine aj rfl ?_|(refine Cd.mk ?_;cbv)|(refine aF.mk ?_;cbv)|(refine aK.mk ?_;cbv)|exact trivial|refine And.intro ?_ ?_|refine aZ fun _=>?_|refine ba fun _=>?_)
 all_goals
  clear hL zq Z
  try clear hfs
  subst hA hF hG0 hG1 hG2 hG3
  simp only [Ch.U,ViR.Vs.U,ViL.Vl.U,ViC.Vc.U,EgR.Fs.U,Ar.U,List.nil_append] at *
  try (grind [ah])
theorem mO:aC Tryz.prog 245 (lB Ch.U):=by
 refine aD af.nil Tryz.func245 rfl rfl fun xs h p hp=>?_
 unfold lB at hp
 split at hp
 ·cases hp
  exact⟨av rfl,fun _ _=>HT ⟩
 ·cases hp
def kM (F:Ch):aW:=fun xs h=>match xs,h with
 |[.agg [.sl none (.ints .i64 v_n),.sl none (.ae (.int .i64 (.int .i64 (.int .i64 (.int .i64 (.bool .nil))))) v_l)]],[]=>some ⟨F.Fi v_n v_l=true,.bB [.one (.val (.slice none 0 0)),I (F.UJ v_n v_l)],[],[Any]⟩
 |_,_=>none
theorem Hg (v_n:List Int) (v_l:List E) (hC:Ch.U.Fi v_n v_l=true):aR [(182,dv ViC.Vc.U),(241,ob ViL.Vl.U)] Tryz.f225 [.agg [.sl none (.ints .i64 v_n),.sl none (.ae (.int .i64 (.int .i64 (.int .i64 (.int .i64 (.bool .nil))))) v_l)]] [] ⟨Ch.U.Fi v_n v_l=true,.bB [.one (.val (.slice none 0 0)),I (Ch.U.UJ v_n v_l)],[],[Any]⟩:=by
 intro b gv
 have hk:v_n.length≤1000000∧v_l.length≤1000000∧(Bp v_n v_l).length=0:=of_decide_eq_true (show decide (v_n.length≤1000000∧v_l.length≤1000000∧(Bp v_n v_l).length=0)=true from hC)
 have hz:bE v_n v_l=true→sX v_l=[]:=fun h=>by have e:Bp v_n v_l=sX v_l:=if_pos h;rw [← e];exact List.eq_nil_of_length_eq_zero hk.2.2
 have hfs:=(af.cons bP (af.cons lf af.nil rfl) rfl)
 generalize hF:Ch.U=F at hC hfs ⊢
 generalize hG0:ViL.Vl.U=G0 at hC hfs ⊢
 generalize hG1:ViC.Vc.U=G1 at hC hfs ⊢
 generalize hG2:EgR.Fs.U=G2 at hC hfs ⊢
 generalize hG3:ViR.Vs.U=G3 at hC hfs ⊢
 generalize hA:Ar.U=A
 generalize hL:Lp _ _ _=L
 obtain⟨Z,zq⟩:=aH
 refine aA (aa hL) zq rfl ?_
 repeat' (first|(refine ay zq ?_;try dsimp only)|refine ax zq ?_ (aa hL)|refine az zq ?_|refine aw ?_|refine aq ?_|refine au ?_|refine ar ?_|refine al rfl ?_|refine ai rfl ?_|refine aj rfl ?_|(refine Cd.mk ?_;cbv)|(refine aF.mk ?_;cbv)|(refine aK.mk ?_;cbv)|exact trivial|refine And.intro ?_ ?_|refine aZ fun _=>?_|refine ba fun _=>?_)
 all_goals first|(show L _ _ _;skip)|(clear hL hfs zq Z;subst hA hF hG0 hG1 hG2 hG3;simp only [Ch.U,ViC.Vc.U,Ar.U] at * <;> grind [ah,mi];done)
 rename_i hx
 have hv:bE v_n v_l=true:=by
  clear hL hfs zq Z
  subst hA hF hG0 hG1 hG2 hG3
  simp only [ViC.Vc.U,Ar.U] at hx
  grind [ah,mi]
 clear hx
 have hz:=hz hv
 subst hL
 refine bj (bo hfs) (Xi v_l) (i0I A v_n v_l) (Vp v_l) (iR 15) ⟨0⟩ ?_ ?_ ?_
 ·exact⟨Int.le_refl 0,Int.natCast_nonneg _⟩
 ·cbv
  repeat' (first|exact trivial|exact rfl|refine And.intro ?_ ?_)
 rintro⟨i⟩ hq O hO
 have hst:=Mo hk.2.1 hq
 have hn:=fun h=>KA hz hq.1 h
 dsimp only at hn
 have hin:Ot v_l (v_l.getD i.toNat [])=if ri (v_l.getD i.toNat []) 0 < ri (v_l.getD i.toNat []) 1∧Kx v_l (ri (v_l.getD i.toNat []) 1) (ri (v_l.getD i.toNat []) 0)=true∧(GY v_l (ri (v_l.getD i.toNat []) 1) (ri (v_l.getD i.toNat []) 0)).w=ri (v_l.getD i.toNat []) 2∧(GY v_l (ri (v_l.getD i.toNat []) 1) (ri (v_l.getD i.toNat []) 0)).s=ri (v_l.getD i.toNat []) 3 then [[D.int (ri (v_l.getD i.toNat []) 0),D.int (ri (v_l.getD i.toNat []) 1),D.int (ri (v_l.getD i.toNat []) 2),D.int (ri (v_l.getD i.toNat []) 3),D.bool (rb (v_l.getD i.toNat []) 4 && (GY v_l (ri (v_l.getD i.toNat []) 1) (ri (v_l.getD i.toNat []) 0)).m)]] else []:=rfl
 subst hA
 generalize hA:Ar.U=A
 generalize hL:Lp _ _ _=L
 refine aT zq ?_
 repeat' (first|(refine ay zq ?_;try dsimp only)|refine ax zq ?_ (aa hL)|refine az zq ?_|refine aw ?_|refine aq ?_|refine au ?_|refine ar ?_|refine al rfl ?_|refine ai rfl ?_|refine aj rfl ?_|(refine Cd.mk ?_;cbv)|(refine aF.mk ?_;cbv)|(refine aK.mk ?_;cbv)|exact trivial|refine And.intro ?_ ?_|refine aZ fun _=>?_|refine ba fun _=>?_)
 all_goals (clear hL hfs zq Z hq;subst hA hF hG0 hG1 hG2 hG3 hO;simp only [Ch.U,ViL.Vl.U,Ar.U,List.nil_append] at * <;> grind [ah,mi];done)
theorem mQ:aC Tryz.prog 225 (kM Ch.U):=by
 refine aD (af.cons bP (af.cons lf af.nil rfl) rfl) Tryz.func225 rfl rfl fun xs h p hp=>?_
 unfold kM at hp
 split at hp
 ·cases hp
  exact⟨av rfl,fun hC _=>Hg _ _ hC⟩
 ·cases hp
end Go.Proofs.YtakebkfhigadiaaGreat.ChR
