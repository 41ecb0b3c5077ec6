/-
  slices.Grow of a nil slice: nothing is in what it gives,and it may be appended to. No condition.
-/
import Derived.Test.YtakebkfhigadiaaGreatVnW15
import Derived.Test.YtakebkfhigadiaaGreatVnW17
import Derived.Test.YtakebkfhigadiaaGreatVnRyOp
set_option maxHeartbeats 4000000
set_option maxRecDepth 100000
namespace Go.Proofs.YtakebkfhigadiaaGreat.CtI
open Go Ry
open GwI (gS gU)
def cP (q:List E):List Int:=q.flatMap fun x=>rl x 0
structure XC where
 i:Int
 s:Int
structure XD where
 i:Int
 o:List Int
theorem zj (l:List E) (j:Nat) (h:j < l.length):l.getD j []=l[j]:=by rw [List.getD_eq_getElem?_getD,List.getElem?_eq_getElem h];rfl
theorem iW (q:List E) (i:Int) (h0:0≤i) (h:i < q.length):cP (q.take (i+1).toNat)=cP (q.take i.toNat) ++ rl (q.getD i.toNat []) 0:=by
 have e:(i+1).toNat=i.toNat+1:=by omega
 have hi:i.toNat < q.length:=by omega
 rw [e,List.take_add_one,zj _ _ hi,List.getElem?_eq_getElem hi]
 unfold cP
 rw [List.flatMap_append]
 simp
theorem dN (q:List E) (k:Nat):(cP (q.take k)).length≤(cP q).length:=by
 conv=>rhs;rw [← List.take_append_drop k q]
 unfold cP
 rw [List.flatMap_append,List.length_append]
 omega
def OC (q:List E) (y:XC):Prop:=0≤y.i∧y.i≤q.length∧y.s=(cP (q.take y.i.toNat)).length
def KM (q:List E) (y:XC):Nat:=q.length - y.i.toNat
def QK (q:List E) (y:XD):Prop:=0≤y.i∧y.i≤q.length∧y.o=cP (q.take y.i.toNat)
def KX (q:List E) (y:XD):Nat:=q.length - y.i.toNat
noncomputable def Xp (A:Ar) (q:List E) (y:XC):St:=bW Tryz.f218.ntmps [(0,.sl none (.ae (.ints .i64 .nil) q)),(3,.val (.int .i64 y.s)),(9,.sl none (.ae (.ints .i64 .nil) q)),(10,.val (.int .i64 (A.dw q))),(11,.val (.int .i64 y.i))] [] [Any]
def WV (st:St):XC:=⟨bA st 11,bA st 3⟩
noncomputable def VR (A:Ar) (q:List E) (y:XD):St:=bW Tryz.f218.ntmps [(6,.sl (some (1,3)) (.ints .i64 y.o)),(25,.sl none (.ae (.ints .i64 .nil) q)),(26,.val (.int .i64 (A.dw q))),(27,.val (.int .i64 y.i))] [(1,.tok)] [Any]
def Xa (st:St):XD:=⟨bA st 27,VP (match jS st 6 with | .sl _ c=>c|_=>.ae .nil [])⟩
theorem tn {q:List E} (hl:q.length≤1000) (hc:(cP q).length≤1000000) {i s:Int} (hq:OC q ⟨i,s⟩):aB .add .i64 i 1=i+1∧0≤s∧s≤1000000∧(i < q.length→aB .add .i64 s ((rl (q.getD i.toNat []) 0).length:Int)=s+(rl (q.getD i.toNat []) 0).length∧0≤s+((rl (q.getD i.toNat []) 0).length:Int)∧(∀ t,KM q ⟨i+1,t⟩ < KM q ⟨i,s⟩)∧OC q ⟨i+1,s+(rl (q.getD i.toNat []) 0).length⟩):=by
 obtain⟨h0,h1,h2⟩:=hq
 simp only at h0 h1 h2
 have ht:=dN q i.toNat
 refine⟨by rw [aY,wr _ (by omega) (by omega)],by omega,by omega,fun h=>?_⟩
 have hn:=iW q i h0 h
 have ht2:=dN q (i+1).toNat
 rw [hn,List.length_append] at ht2
 refine⟨by rw [aY,wr _ (by omega) (by omega)],by omega,fun t=>by simp only [KM];omega,by simp only;omega,by simp only;omega,?_⟩
 simp only
 rw [hn,List.length_append,h2]
 push_cast
 rfl
theorem sL {q:List E} (hl:q.length≤1000) (hc:(cP q).length≤1000000) {i:Int} {o:List Int} (hq:QK q ⟨i,o⟩):aB .add .i64 i 1=i+1∧o.length≤1000000∧(i < q.length→o.length+(rl (q.getD i.toNat []) 0).length≤1000000∧(∀ t,KX q ⟨i+1,t⟩ < KX q ⟨i,o⟩)∧QK q ⟨i+1,o ++ rl (q.getD i.toNat []) 0⟩)∧(¬i < q.length→o=cP q):=by
 obtain⟨h0,h1,h2⟩:=hq
 simp only at h0 h1 h2
 have ht:=dN q i.toNat
 rw [← h2] at ht
 refine⟨by rw [aY,wr _ (by omega) (by omega)],by omega,fun h=>?_,fun h=>?_⟩
 ·have hn:=iW q i h0 h
  have ht2:=dN q (i+1).toNat
  rw [hn,List.length_append,← h2] at ht2
  refine⟨by omega,fun t=>by simp only [KX];omega,by simp only;omega,by simp only;omega,?_⟩
  simp only
  rw [hn,h2]
 ·have e:i=q.length:=by omega
  rw [e,Int.toNat_natCast,List.take_length] at h2
  exact h2
structure Cs where
 qu:List E→List Int
 yK:List E→Bool
 EX:List E→Bool
def Cs.U:Cs:=⟨cP,fun q=>decide (q.length≤1000∧(cP q).length≤1000000),fun q=>decide (q.length≤1000∧(cP q).length≤1000000∧0 < (cP q).length)⟩
def qC (F:Cs):aW:=fun xs h=>match xs,h with
 |[.one (.sl none (.ae (.ints .i64 .nil) q))],[]=>some ⟨F.yK q=true,.sa (.one (.sl (some (0,3)) (.ints .i64 (F.qu q)))),[(0,.tok)],[Any]⟩
 |_,_=>none
theorem Pe (q:List E) (hC:Cs.U.yK q=true):aR [(234,gS GwI.Gf.U)] Tryz.f218 [.one (.sl none (.ae (.ints .i64 .nil) q))] [] ⟨Cs.U.yK q=true,.sa (.one (.sl (some (0,3)) (.ints .i64 (Cs.U.qu q)))),[(0,.tok)],[Any]⟩:=by
 intro b gv
 have hk:q.length≤1000∧(cP q).length≤1000000:=of_decide_eq_true (show decide (q.length≤1000∧(cP q).length≤1000000)=true from hC)
 have hfs:=(af.cons gU af.nil rfl)
 generalize hF:Cs.U=F at hC hfs ⊢
 generalize hG0:GwI.Gf.U=G0 at hC hfs ⊢
 generalize hA:Ar.U=A
 generalize hL:Lp _ _ _=L
 obtain⟨Z,zq⟩:=aH
 refine aA (aa hL) zq rfl ?_
 repeat' (first|(refine ay zq ?_;try dsimp only)|refine ax zq ?_ (aa hL)|refine az zq ?_|refine aw ?_|refine aq ?_|refine au ?_|refine ar ?_|refine al rfl ?_|refine ai rfl ?_|refine aj rfl ?_|(refine Cd.mk ?_;cbv)|(refine aF.mk ?_;cbv)|(refine aK.mk ?_;cbv)|exact trivial|refine And.intro ?_ ?_|refine aZ fun _=>?_|refine ba fun _=>?_)
 subst hL
 refine bj (bo hfs) (OC q) (Xp A q) (KM q) WV ⟨0,0⟩ ?_ ?_ ?_
 ·exact⟨Int.le_refl 0,Int.natCast_nonneg _,rfl⟩
 ·cbv
  repeat' (first|exact trivial|exact rfl|refine And.intro ?_ ?_)
 rintro⟨i,s⟩ hq O hO
 obtain⟨e1,q2,q3,hst⟩:=tn hk.1 hk.2 hq
 have q0:=hq.1
 have q1:=hq.2.1
 dsimp only at q0 q1
 subst hA
 generalize hA:Ar.U=A
 generalize hL:Lp _ _ _=L
 refine aT zq ?_
 repeat' (first|(refine ay zq ?_;try dsimp only)|refine ax zq ?_ (aa hL)|refine az zq ?_|refine aw ?_|refine aq ?_|refine au ?_|refine ar ?_|refine al rfl ?_|refine ai rfl ?_|refine aj rfl ?_|(refine Cd.mk ?_;cbv)|(refine aF.mk ?_;cbv)|(refine aK.mk ?_;cbv)|exact trivial|refine And.intro ?_ ?_|refine aZ fun _=>?_|refine ba fun _=>?_)
 all_goals first|(show L _ _ _;skip)|(clear hL hfs zq Z hq;subst hA hF hG0 hO;simp only [Cs.U,GwI.Gf.U,Ar.U] at * <;> grind [ah];done)
 clear hst e1
 subst hL
 refine bj (bo hfs) (QK q) (VR A q) (KX q) Xa ⟨0,[]⟩ ?_ ?_ ?_
 ·exact⟨Int.le_refl 0,Int.natCast_nonneg _,rfl⟩
 ·cbv
  repeat' (first|exact trivial|exact rfl|refine And.intro ?_ ?_)
 rintro⟨j,o⟩ hq2 O2 hO2
 obtain⟨e2,l2,hs2,he2⟩:=sL hk.1 hk.2 hq2
 have k0:=hq2.1
 have k1:=hq2.2.1
 dsimp only at k0 k1
 subst hA
 generalize hA:Ar.U=A
 generalize hL:Lp _ _ _=L
 refine aT zq ?_
 repeat' (first|(refine ay zq ?_;try dsimp only)|refine ax zq ?_ (aa hL)|refine az zq ?_|refine aw ?_|refine aq ?_|refine au ?_|refine ar ?_|refine al rfl ?_|refine ai rfl ?_|refine aj rfl ?_|(refine Cd.mk ?_;cbv)|(refine aF.mk ?_;cbv)|(refine aK.mk ?_;cbv)|exact trivial|refine And.intro ?_ ?_|refine aZ fun _=>?_|refine ba fun _=>?_)
 all_goals (clear hL hfs zq Z hq hq2;subst hA hF hG0 hO hO2;simp only [Cs.U,Ar.U,List.length_append] at * <;> grind [ah])
theorem jD:aC Tryz.prog 218 (qC Cs.U):=by
 refine aD (af.cons gU af.nil rfl) Tryz.func218 rfl rfl fun xs h p hp=>?_
 unfold qC at hp
 split at hp
 ·cases hp
  exact⟨av rfl,fun hC _=>Pe _ hC⟩
 ·cases hp
def lY (F:Cs):aW:=fun xs h=>match xs,h with
 |[.one (.sl none (.ae (.ints .i64 .nil) q))],[]=>some ⟨F.EX q=true,.sa (.one (.own 0)),[(0,.row 3 (.ints .i64 (F.qu q)))],[Any]⟩
 |_,_=>none
theorem iD:aC Tryz.prog 218 (lY Cs.U):=by
 refine Thw.BB jD fun xs h p hp=>?_
 unfold lY at hp
 split at hp
 ·cases hp
  refine⟨rfl,_,_,_,_,rfl,rfl,fun hC=>?_,fun _ _ _ h=>h,fun _ _ _ _ vs _=>match vs with|[]=>(fun _ (h:_∈([]:List (Bool × Nat × Nat)))=>by cases h)|_ :: _=>⟨trivial,trivial⟩⟩
  have hk:=of_decide_eq_true hC
  exact⟨decide_eq_true ⟨hk.1,hk.2.1⟩,hk.2.2⟩
 ·cases hp
end Go.Proofs.YtakebkfhigadiaaGreat.CtI
namespace Go.Proofs.YtakebkfhigadiaaGreat.GwK
open Go Go.Proofs Ry Go.Lib Go.RowKit
structure Gf where
 ok:Int→Bool
def Gf.U:Gf:=⟨fun n=>decide (0≤n∧n≤1000000)⟩
def gS (F:Gf):aW:=fun xs h=>match xs,h with
 |[.one (.val (.slice none 0 0)),.one (.val (.int .i64 n))],[]=>some ⟨F.ok n=true,.sa (.one (.sl (some (0,176)) (.ae (.int .i64 (.int .i64 (.int .i64 (.int .i64 (.bool .nil))))) []))),[(0,.tok)],[Any,Any]⟩
 |_,_=>none
theorem info:∃ i z,Tryz.prog.info? 176=some i∧i.zero=some z∧i.size=5∧i.bytes≤1000∧z.cells.size=5:=by
 have h:(match Tryz.prog.info? 176 with
  |some i=>(match i.zero with
   |some z=>(i.size == 5) && (decide (i.bytes≤1000) && (z.cells.size == 5))
   |none=>false)
  |none=>false)=true:=by kernel_rfl
 split at h
 ·rename_i i hi
  split at h
  ·rename_i z hz
   simp only [Bool.and_eq_true,beq_iff_eq,decide_eq_true_eq] at h
   exact⟨i,z,hi,hz,h.1,h.2.1,h.2.2⟩
  ·cases h
 ·cases h
theorem gU:aC Tryz.prog 235 (gS Gf.U):=by
 refine⟨⟨_,Tryz.func235,rfl,by kernel_rfl⟩,?_⟩
 intro args h p hp hC G vs hh hbs hm hv
 unfold gS at hp
 split at hp
 ·rename_i n
  cases hp
  have hk:0≤n∧n≤1000000:=of_decide_eq_true hC
  have hd:ak G.h 0=none:=by rw [hh];rfl
  have hset0:aS G.h 0 .tok=[(0,.tok)]:=by rw [hh];rfl
  match vs,hv with
  |[v0,v1],⟨hv0,hv1,_⟩ =>
   have hv0:v0 = .slice none 0 0:=hv0
   have hv1:v1 = .int .i64 n:=hv1
   subst hv0 hv1
   by_cases h0:n=0
   ·subst h0
    refine (Any8.slices_Grow_room Sg.Np none 0 0 0 G.w (Nat.le_refl _) (by decide) (by decide) (Nat.le_refl _)).mono fun e w' ⟨he,hw⟩=>?_
    subst hw
    obtain⟨x2,m2⟩:=bH (G:=G) (d:=0) (k':=.tok) (x:=none) (w':=G.w) hm rfl rfl rfl (Nat.le_refl _) (fun _ _ _=>rfl) (fun _ _ _ _ _ _=>rfl) (fun b m h=>by cases h) (fun k hk _=>by rw [hd] at hk;cases hk) (fun _=>trivial)
    refine⟨_,Ry.one G 0 .tok none G.w,he,rfl,rfl,hset0,m2,?_,trivial,trivial,trivial⟩
    exact⟨⟨none,0,rfl,Nat.le_refl _,by unfold maxLen;omega,fun h=>absurd rfl h⟩,ky (aJ _ _ _) (.inl ⟨none,rfl⟩)⟩
   ·have hn:((n.toNat:Nat):Int)=n:=by omega
    obtain⟨i,z,hi,hz,hs,hb,hzs⟩:=info
    have hc:=Any8.slices_Grow_grow Sg.Np i z hi hz (by omega) none 0 0 n.toNat [] G.w (Nat.le_refl _) (by omega) (by
     have:(0+n.toNat) * i.bytes≤1000000 * 1000:=Nat.mul_le_mul (by omega) hb
     omega) (by omega) (by simp) (fun _=>rfl) (fun a h=>by cases h)
    rw [hn] at hc
    have hcge:=grownCap_ge G.w (0+n.toNat) 0 176
    have hcle:=grownCap_le_maxLen G.w (0+n.toNat) 0 176 (by unfold maxLen;omega)
    refine hc.mono fun e w' ⟨he,hw⟩=>?_
    change e = .returned (.slice (some ⟨G.w.heap.size,0,none⟩) 0 (grownCap G.w (0+n.toNat) 0 176)) at he
    change w' = G.w.drew.alloc (.cells (#[] ++ Builtin.zeroCells z.cells (0+n.toNat - 0) ++ Builtin.zeroCells z.cells (grownCap G.w (0+n.toNat) 0 176 - (0+n.toNat))) 176) at hw
    generalize grownCap G.w (0+n.toNat) 0 176=cap at he hw hcge hcle
    have hw2:w' = G.w.drew.alloc (.cells ([] ++ ((Builtin.zeroCells z.cells (0+n.toNat - 0)).toList ++ (Builtin.zeroCells z.cells (cap - (0+n.toNat))).toList)).toArray 176):=by
     rw [hw]
     congr 2
     simp
    have hbl:Below G.w.heap.size G.w w':=by
     rw [hw2]
     exact ((Below.refl _ _).drew).alloc (by simp) _
    obtain⟨x2,m2,i2⟩:=lP (G:=G) (w':=w') (d:=0) (ct:=.ae (.int .i64 (.int .i64 (.int .i64 (.int .i64 (.bool .nil))))) []) (cap:=cap) (e:=176) hm hd hbl (us:=[]) (rest:=(Builtin.zeroCells z.cells (0+n.toNat - 0)).toList ++ (Builtin.zeroCells z.cells (cap - (0+n.toNat))).toList) (by rw [hw2];exact heap_alloc_new _ _) ⟨rfl,fun j x h=>(by cases h)⟩ (fun u hu=>by cases hu) (Nat.zero_le _) hcle (by
     simp only [List.nil_append,List.length_append,Array.length_toList,size_zeroCells,hzs]
     show _=cap * 5
     rw [← Nat.add_mul]
     congr 1
     omega)
    exact⟨_,Ry.one G 0 .tok (some (G.w.heap.size,(.ae (.int .i64 (.int .i64 (.int .i64 (.int .i64 (.bool .nil))))) []:Ct).n * (.ae (.int .i64 (.int .i64 (.int .i64 (.int .i64 (.bool .nil))))) []:Ct).sz)) w',he,rfl,rfl,hset0,m2,i2,trivial,trivial,trivial⟩
 ·cases hp
end Go.Proofs.YtakebkfhigadiaaGreat.GwK
