/-
  slices.Concat je the reckoner. No condition.
-/
import Derived.Test.YtakebkfhigadiaaGreatVnW15
import Derived.Test.YtakebkfhigadiaaGreatVnW17
import Derived.Test.YtakebkfhigadiaaGreatVnW18
import Derived.Test.YtakebkfhigadiaaGreatVnW17
set_option maxHeartbeats 4000000
set_option maxRecDepth 100000
namespace Go.Proofs.YtakebkfhigadiaaGreat.CtK
open Go Ry
open GwK (gS gU)
def cP (q:List E):List E:=q.flatMap fun x=>rr x 0
structure XC where
 i:Int
 s:Int
structure XD where
 i:Int
 o:List E
theorem zj (l:List E) (j:Nat) (h:j < l.length):l.getD j []=l[j]:=by rw [List.getD_eq_getElem?_getD,List.getElem?_eq_getElem h];rfl
theorem iW (q:List E) (i:Int) (h0:0≤i) (h:i < q.length):cP (q.take (i+1).toNat)=cP (q.take i.toNat) ++ rr (q.getD i.toNat []) 0:=by
 have e:(i+1).toNat=i.toNat+1:=by omega
 have hi:i.toNat < q.length:=by omega
 rw [e,List.take_add_one,zj _ _ hi,List.getElem?_eq_getElem hi]
 unfold cP
 rw [List.flatMap_append]
 simp
theorem dN (q:List E) (k:Nat):(cP (q.take k)).length≤(cP q).length:=by
 conv=>rhs;rw [← List.take_append_drop k q]
 unfold cP
 rw [List.flatMap_append,List.length_append]
 omega
def OC (q:List E) (y:XC):Prop:=0≤y.i∧y.i≤q.length∧y.s=(cP (q.take y.i.toNat)).length
def KM (q:List E) (y:XC):Nat:=q.length - y.i.toNat
def QK (q:List E) (y:XD):Prop:=0≤y.i∧y.i≤q.length∧y.o=cP (q.take y.i.toNat)
def KX (q:List E) (y:XD):Nat:=q.length - y.i.toNat
noncomputable def Xp (A:Ar) (q:List E) (y:XC):St:=bW Tryz.f219.ntmps [(0,.sl none (.ae (.ae (.int .i64 (.int .i64 (.int .i64 (.int .i64 (.bool .nil))))) .nil) q)),(3,.val (.int .i64 y.s)),(9,.sl none (.ae (.ae (.int .i64 (.int .i64 (.int .i64 (.int .i64 (.bool .nil))))) .nil) q)),(10,.val (.int .i64 (A.dw q))),(11,.val (.int .i64 y.i))] [] [Any]
def WV (st:St):XC:=⟨bA st 11,bA st 3⟩
noncomputable def VR (A:Ar) (q:List E) (y:XD):St:=bW Tryz.f219.ntmps [(6,.sl (some (1,176)) (.ae (.int .i64 (.int .i64 (.int .i64 (.int .i64 (.bool .nil))))) y.o)),(25,.sl none (.ae (.ae (.int .i64 (.int .i64 (.int .i64 (.int .i64 (.bool .nil))))) .nil) q)),(26,.val (.int .i64 (A.dw q))),(27,.val (.int .i64 y.i))] [(1,.tok)] [Any]
def Xa (st:St):XD:=⟨bA st 27,Sb (match jS st 6 with | .sl _ c=>c|_=>.ae .nil [])⟩
theorem tn {q:List E} (hl:q.length≤1000) (hc:(cP q).length≤1000000) {i s:Int} (hq:OC q ⟨i,s⟩):aB .add .i64 i 1=i+1∧0≤s∧s≤1000000∧(i < q.length→aB .add .i64 s ((rr (q.getD i.toNat []) 0).length:Int)=s+(rr (q.getD i.toNat []) 0).length∧0≤s+((rr (q.getD i.toNat []) 0).length:Int)∧(∀ t,KM q ⟨i+1,t⟩ < KM q ⟨i,s⟩)∧OC q ⟨i+1,s+(rr (q.getD i.toNat []) 0).length⟩):=by
 obtain⟨h0,h1,h2⟩:=hq
 simp only at h0 h1 h2
 have ht:=dN q i.toNat
 refine⟨by rw [aY,wr _ (by omega) (by omega)],by omega,by omega,fun h=>?_⟩
 have hn:=iW q i h0 h
 have ht2:=dN q (i+1).toNat
 rw [hn,List.length_append] at ht2
 refine⟨by rw [aY,wr _ (by omega) (by omega)],by omega,fun t=>by simp only [KM];omega,by simp only;omega,by simp only;omega,?_⟩
 simp only
 rw [hn,List.length_append,h2]
 push_cast
 rfl
theorem sL {q:List E} (hl:q.length≤1000) (hc:(cP q).length≤1000000) {i:Int} {o:List E} (hq:QK q ⟨i,o⟩):aB .add .i64 i 1=i+1∧o.length≤1000000∧(i < q.length→o.length+(rr (q.getD i.toNat []) 0).length≤1000000∧(∀ t,KX q ⟨i+1,t⟩ < KX q ⟨i,o⟩)∧QK q ⟨i+1,o ++ rr (q.getD i.toNat []) 0⟩)∧(¬i < q.length→o=cP q):=by
 obtain⟨h0,h1,h2⟩:=hq
 simp only at h0 h1 h2
 have ht:=dN q i.toNat
 rw [← h2] at ht
 refine⟨by rw [aY,wr _ (by omega) (by omega)],by omega,fun h=>?_,fun h=>?_⟩
 ·have hn:=iW q i h0 h
  have ht2:=dN q (i+1).toNat
  rw [hn,List.length_append,← h2] at ht2
  refine⟨by omega,fun t=>by simp only [KX];omega,by simp only;omega,by simp only;omega,?_⟩
  simp only
  rw [hn,h2]
 ·have e:i=q.length:=by omega
  rw [e,Int.toNat_natCast,List.take_length] at h2
  exact h2
structure Cs where
 qu:List E→List E
 yK:List E→Bool
 EX:List E→Bool
def Cs.U:Cs:=⟨cP,fun q=>decide (q.length≤1000∧(cP q).length≤1000000),fun q=>decide (q.length≤1000∧(cP q).length≤1000000∧0 < (cP q).length)⟩
def oN (F:Cs):aW:=fun xs h=>match xs,h with
 |[.one (.sl none (.ae (.ae (.int .i64 (.int .i64 (.int .i64 (.int .i64 (.bool .nil))))) .nil) q))],[]=>some ⟨F.yK q=true,.sa (.one (.sl (some (0,176)) (.ae (.int .i64 (.int .i64 (.int .i64 (.int .i64 (.bool .nil))))) (F.qu q)))),[(0,.tok)],[Any]⟩
 |_,_=>none
theorem QS (q:List E) (hC:Cs.U.yK q=true):aR [(235,gS GwK.Gf.U)] Tryz.f219 [.one (.sl none (.ae (.ae (.int .i64 (.int .i64 (.int .i64 (.int .i64 (.bool .nil))))) .nil) q))] [] ⟨Cs.U.yK q=true,.sa (.one (.sl (some (0,176)) (.ae (.int .i64 (.int .i64 (.int .i64 (.int .i64 (.bool .nil))))) (Cs.U.qu q)))),[(0,.tok)],[Any]⟩:=by
 intro b gv
 have hk:q.length≤1000∧(cP q).length≤1000000:=of_decide_eq_true (show decide (q.length≤1000∧(cP q).length≤1000000)=true from hC)
 have hfs:=(af.cons gU af.nil rfl)
 generalize hF:Cs.U=F at hC hfs ⊢
 generalize hG0:GwK.Gf.U=G0 at hC hfs ⊢
 generalize hA:Ar.U=A
 generalize hL:Lp _ _ _=L
 obtain⟨Z,zq⟩:=aH
 refine aA (aa hL) zq rfl ?_
 repeat' (first|(refine ay zq ?_;try dsimp only)|refine ax zq ?_ (aa hL)|refine az zq ?_|refine aw ?_|refine aq ?_|refine au ?_|refine ar ?_|refine al rfl ?_|refine ai rfl ?_|refine aj rfl ?_|(refine Cd.mk ?_;cbv)|(refine aF.mk ?_;cbv)|(refine aK.mk ?_;cbv)|exact trivial|refine And.intro ?_ ?_|refine aZ fun _=>?_|refine ba fun _=>?_)
 subst hL
 refine bj (bo hfs) (OC q) (Xp A q) (KM q) WV ⟨0,0⟩ ?_ ?_ ?_
 ·exact⟨Int.le_refl 0,Int.natCast_nonneg _,rfl⟩
 ·cbv
  repeat' (first|exact trivial|exact rfl|refine And.intro ?_ ?_)
 rintro⟨i,s⟩ hq O hO
 obtain⟨e1,q2,q3,hst⟩:=tn hk.1 hk.2 hq
 have q0:=hq.1
 have q1:=hq.2.1
 dsimp only at q0 q1
 subst hA
 generalize hA:Ar.U=A
 generalize hL:Lp _ _ _=L
 refine aT zq ?_
 repeat' (first|(refine ay zq ?_;try dsimp only)|refine ax zq ?_ (aa hL)|refine az zq ?_|refine aw ?_|refine aq ?_|refine au ?_|refine ar ?_|refine al rfl ?_|refine ai rfl ?_|refine aj rfl ?_|(refine Cd.mk ?_;cbv)|(refine aF.mk ?_;cbv)|(refine aK.mk ?_;cbv)|exact trivial|refine And.intro ?_ ?_|refine aZ fun _=>?_|refine ba fun _=>?_)
 all_goals first|(show L _ _ _;skip)|(clear hL hfs zq Z hq;subst hA hF hG0 hO;simp only [Cs.U,GwK.Gf.U,Ar.U] at * <;> grind [ah];done)
 clear hst e1
 subst hL
 refine bj (bo hfs) (QK q) (VR A q) (KX q) Xa ⟨0,[]⟩ ?_ ?_ ?_
 ·exact⟨Int.le_refl 0,Int.natCast_nonneg _,rfl⟩
 ·cbv
  repeat' (first|exact trivial|exact rfl|refine And.intro ?_ ?_)
 rintro⟨j,o⟩ hq2 O2 hO2
 obtain⟨e2,l2,hs2,he2⟩:=sL hk.1 hk.2 hq2
 have k0:=hq2.1
 have k1:=hq2.2.1
 dsimp only at k0 k1
 subst hA
 generalize hA:Ar.U=A
 generalize hL:Lp _ _ _=L
 refine aT zq ?_
 repeat' (first|(refine ay zq ?_;try dsimp only)|refine ax zq ?_ (aa hL)|refine az zq ?_|refine aw ?_|refine aq ?_|refine au ?_|refine ar ?_|refine al rfl ?_|refine ai rfl ?_|refine aj rfl ?_|(refine Cd.mk ?_;cbv)|(refine aF.mk ?_;cbv)|(refine aK.mk ?_;cbv)|exact trivial|refine And.intro ?_ ?_|refine aZ fun _=>?_|refine ba fun _=>?_)
 all_goals (clear hL hfs zq Z hq hq2;subst hA hF hG0 hO hO2;simp only [Cs.U,Ar.U,List.length_append] at * <;> grind [ah])
theorem jo:aC Tryz.prog 219 (oN Cs.U):=by
 refine aD (af.cons gU af.nil rfl) Tryz.func219 rfl rfl fun xs h p hp=>?_
 unfold oN at hp
 split at hp
 ·cases hp
  exact⟨av rfl,fun hC _=>QS _ hC⟩
 ·cases hp
def la (F:Cs):aW:=fun xs h=>match xs,h with
 |[.one (.sl none (.ae (.ae (.int .i64 (.int .i64 (.int .i64 (.int .i64 (.bool .nil))))) .nil) q))],[]=>some ⟨F.EX q=true,.sa (.one (.own 0)),[(0,.row 176 (.ae (.int .i64 (.int .i64 (.int .i64 (.int .i64 (.bool .nil))))) (F.qu q)))],[Any]⟩
 |_,_=>none
theorem iK:aC Tryz.prog 219 (la Cs.U):=by
 refine Thw.BB jo fun xs h p hp=>?_
 unfold la at hp
 split at hp
 ·cases hp
  refine⟨rfl,_,_,_,_,rfl,rfl,fun hC=>?_,fun _ _ _ h=>h,fun _ _ _ _ vs _=>match vs with|[]=>(fun _ (h:_∈([]:List (Bool × Nat × Nat)))=>by cases h)|_ :: _=>⟨trivial,trivial⟩⟩
  have hk:=of_decide_eq_true hC
  exact⟨decide_eq_true ⟨hk.1,hk.2.1⟩,hk.2.2⟩
 ·cases hp
end Go.Proofs.YtakebkfhigadiaaGreat.CtK
