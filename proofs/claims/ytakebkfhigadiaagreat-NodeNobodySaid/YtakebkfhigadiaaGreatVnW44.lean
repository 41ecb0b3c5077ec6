/-
  numbers in bytes: read back,and in order. No condition.
-/
import Derived.Test.YtakebkfhigadiaaGreatVnW15
import Derived.Test.YtakebkfhigadiaaGreatVnOctR
set_option maxRecDepth 100000
namespace Go.Proofs.YtakebkfhigadiaaGreat.OctP
open Go Ry OctR
def ZR (b l:List Int):List Int:=if l.length≤65535 then dJ b l.length 2 ++ l else []
def ZU (l:List Int):Int:=if l.length≤65535 then 0 else 3
def lsL (l:List Int):List Int:=hU l.length 2 ++ l
def sh2 (b l:List Int):Bool:=xu b && xu l
def CX (n w:Int):Bool:=decide (0≤n∧n≤9223372036854775807) && nf w
theorem BR (n w:Int):(hU n w).length=w.toNat:=by simp [hU,kz]
structure XN where
 n:Int
 i:Int
 o:List Int
def Yd (n w:Int) (y:XN):Prop:=0≤y.i∧y.i≤w∧y.n=n / 256 ^ y.i.toNat∧y.o=kz n y.i y.i.toNat
noncomputable def WE (w:Int) (y:XN):St:=bW Tryz.f113.ntmps [(0,.val (.int .i64 y.n)),(1,.val (.int .i64 w)),(5,.sl (some (1,5)) (.ints .u8 y.o)),(6,.val (.int .i64 y.i))] [(1,.tok)] [Any,Any]
def ZB (w:Int) (y:XN):Nat:=(w - y.i).toNat
def Xu (st:St):XN:=⟨bA st 0,bA st 6,NN st 5⟩
theorem NH (n i:Int) (h0:0≤n) (hi:0≤i) (h4:i < 4):vf n i=IntKind.u8.wrap (aB .rem .i64 (n / 256 ^ i.toNat) 256):=by
 have h:IntKind.u8.bits=8:=rfl
 unfold vf IntKind.wrap
 have:i=0∨i=1∨i=2∨i=3:=by omega
 rcases this with rfl|rfl|rfl|rfl
 ·show (if IntKind.u8.signed then _ else ((n.fdiv (2 ^ 0)) % 2 ^ 8))=(if IntKind.u8.signed then _ else ((n / 256 ^ 0).tmod 256) % 2 ^ 8)
  have hs:IntKind.u8.signed=false:=rfl
  simp only [hs]
  rw [Int.fdiv_eq_ediv_of_nonneg _ (by decide),Int.tmod_eq_emod_of_nonneg (by omega)]
  simp
 ·show (if IntKind.u8.signed then _ else ((n.fdiv (2 ^ 8)) % 2 ^ 8))=(if IntKind.u8.signed then _ else ((n / 256 ^ 1).tmod 256) % 2 ^ 8)
  have hs:IntKind.u8.signed=false:=rfl
  simp only [hs]
  rw [Int.fdiv_eq_ediv_of_nonneg _ (by decide),Int.tmod_eq_emod_of_nonneg (by omega)]
  simp
 ·show (if IntKind.u8.signed then _ else ((n.fdiv (2 ^ 16)) % 2 ^ 8))=(if IntKind.u8.signed then _ else ((n / 256 ^ 2).tmod 256) % 2 ^ 8)
  have hs:IntKind.u8.signed=false:=rfl
  simp only [hs]
  rw [Int.fdiv_eq_ediv_of_nonneg _ (by decide),Int.tmod_eq_emod_of_nonneg (by omega)]
  simp
 ·show (if IntKind.u8.signed then _ else ((n.fdiv (2 ^ 24)) % 2 ^ 8))=(if IntKind.u8.signed then _ else ((n / 256 ^ 3).tmod 256) % 2 ^ 8)
  have hs:IntKind.u8.signed=false:=rfl
  simp only [hs]
  rw [Int.fdiv_eq_ediv_of_nonneg _ (by decide),Int.tmod_eq_emod_of_nonneg (by omega)]
  simp
theorem KB (n w m i:Int) (o:List Int) (hw:CX n w=true) (h0:0≤i) (h1:i < w) (hm:m=n / 256 ^ i.toNat) (ho:o=kz n i i.toNat) :
  o.length≤10∧aB .quo .i64 m 256=n / 256 ^ (i+1).toNat∧IntKind.u8.wrap (aB .rem .i64 m 256) :: o=kz n (i+1) (i+1).toNat:=by
 simp only [CX,Bool.and_eq_true,decide_eq_true_eq] at hw
 obtain⟨hn,hw⟩:=hw
 have hw:=of_decide_eq_true hw
 have e:(i+1).toNat=i.toNat+1:=by omega
 refine⟨by subst ho;simp [kz];omega,?_,?_⟩
 ·rw [MW,hm,e,Int.pow_succ,← Int.ediv_ediv_of_nonneg (Int.pow_nonneg (by decide))]
  have hp:0≤n / 256 ^ i.toNat:=Int.ediv_nonneg hn.1 (Int.pow_nonneg (by decide))
  rw [Int.tdiv_eq_ediv_of_nonneg hp]
  have hp2:n / 256 ^ i.toNat≤n:=Int.ediv_le_self _ hn.1
  have e256:((256:Nat):Int)=256:=rfl
  rw [wr _ (by omega) (by omega)]
 ·subst ho hm
  rw [← NH n i hn.1 h0 (by omega),e]
  unfold kz
  rw [List.range_succ_eq_map,List.map_cons,List.map_map]
  congr 1
  ·congr 1
   simp
  ·apply List.map_congr_left
   intro j _
   simp only [Function.comp]
   congr 1
   push_cast
   omega
structure Hs where
 YA:List Int→List Int→List Int
 YW:List Int→Int
 aan:List Int→List Int
 Nn:Int→Int→List Int
 Zh:List Int→List Int→Bool
 GV:Int→Int→Bool
 aaz:List Int→Bool
def Hs.U:Hs:=⟨ZR,ZU,lsL,hU,sh2,CX,xu⟩
def sF (F:Hs):aW:=fun xs h=>match xs,h with
 |[.one (.val (.int .i64 n)),.one (.val (.int .i64 w))],[]=>some ⟨F.GV n w=true,.sa (.one (.sl (some (1,5)) (.ints .u8 (F.Nn n w)))),[(1,.tok)],[Any,Any]⟩
 |_,_=>none
theorem Mf (n:Int) (w:Int) (hC:Hs.U.GV n w=true):aR [] Tryz.f113 [.one (.val (.int .i64 n)),.one (.val (.int .i64 w))] [] ⟨Hs.U.GV n w=true,.sa (.one (.sl (some (1,5)) (.ints .u8 (Hs.U.Nn n w)))),[(1,.tok)],[Any,Any]⟩:=by
 intro b gv
 have hfs:=af.nil
 generalize hF:Hs.U=F at hC hfs ⊢
 generalize hA:Ar.U=A
 generalize hL:Lp _ _ _=L
 obtain⟨Z,zq⟩:=aH
 refine @aA _ _ _ _ _ _ _ (aa hL) _ _ zq rfl ?_
 repeat' (first|(refine ay zq ?_;try dsimp only)|refine ax zq ?_ (aa hL)|refine az zq ?_|refine aw ?_|refine aq ?_|refine au ?_|refine ar ?_|refine al rfl ?_|refine ai rfl ?_|refine aj rfl ?_|(refine Cd.mk ?_;cbv)|(refine aF.mk ?_;cbv)|(refine aK.mk ?_;cbv)|exact trivial|refine And.intro ?_ ?_|refine aZ fun _=>?_|refine ba fun _=>?_)
 have hk:CX n w=true:=by
  subst hF
  exact hC
 have hwk:1≤w∧w≤4:=by
  simp only [CX,Bool.and_eq_true] at hk
  exact of_decide_eq_true hk.2
 subst hL
 refine bj (bo hfs) (Yd n w) (WE w) (ZB w) Xu ⟨n,0,[]⟩ ?_ ?_ ?_
 ·exact⟨Int.le_refl 0,by simp only;omega,by simp,by simp [kz]⟩
 ·cbv
  repeat' (first|exact trivial|exact rfl|refine And.intro ?_ ?_)
 rintro⟨m,i,o⟩ ⟨q0,q1,q2,q3⟩ O hO
 dsimp only at q0 q1 q2 q3
 have hst:=fun h=>KB n w m i o hk q0 h q2 q3
 subst hA
 generalize hA:Ar.U=A
 generalize hL:Lp _ _ _=L
 refine aT zq ?_
 repeat' (first|(refine ay zq ?_;try dsimp only)|refine ax zq ?_ (aa hL)|refine az zq ?_|refine aw ?_|refine aq ?_|refine au ?_|refine ar ?_|refine al rfl ?_|refine ai rfl ?_|refine aj rfl ?_|(refine Cd.mk ?_;cbv)|(refine aF.mk ?_;cbv)|(refine aK.mk ?_;cbv)|exact trivial|refine And.intro ?_ ?_|refine aZ fun _=>?_|refine ba fun _=>?_)
 all_goals (clear hL hfs zq Z;subst hA hF hO;simp only [Hs.U,Ar.U] at * <;> grind [ah,aY,wr,Yd,ZB,hU])
theorem vL:aC Tryz.prog 113 (sF Hs.U):=by
 refine aD af.nil Tryz.func113 rfl rfl fun xs h p hp=>?_
 unfold sF at hp
 split at hp
 ·cases hp
  exact⟨av rfl,fun hC _=>@Mf _ _ hC⟩
 ·cases hp
end Go.Proofs.YtakebkfhigadiaaGreat.OctP
namespace Go.Proofs.YtakebkfhigadiaaGreat.OctQ
open Go Ry OctR OctP
def fits (m w:Int):Bool:=decide (0≤m∧m≤DS w) && nf w
theorem fR (m i:Int) (h0:0≤m) (hi:0≤i) (h4:i < 4):vf m i=m / 256 ^ i.toNat % 256:=by
 rw [NH m i h0 hi h4]
 show IntKind.u8.wrap ((m / 256 ^ i.toNat).tmod 256)=_
 have hp:0≤m / 256 ^ i.toNat:=Int.ediv_nonneg h0 (Int.pow_nonneg (by decide))
 rw [Int.tmod_eq_emod_of_nonneg hp]
 unfold IntKind.wrap
 simp [IntKind.bits,IntKind.signed]
theorem num_1 (m:Int) (h:0≤m):hU m 1=[m % 256]:=by
 show [vf m (1 - 1 - ((0:Nat):Int))]=_
 have:=fR m 0 h (by decide) (by decide)
 simpa using this
theorem Tm (m:Int) (h:0≤m):hU m 2=[m / 256 % 256,m % 256]:=by
 show [vf m (2 - 1 - ((0:Nat):Int)),vf m (2 - 1 - ((1:Nat):Int))]=_
 have h0:=fR m 0 h (by decide) (by decide)
 have h1:=fR m 1 h (by decide) (by decide)
 simp at h0 h1 ⊢
 exact⟨h1,h0⟩
theorem Sv (m:Int) (h:0≤m):hU m 3=[m / 65536 % 256,m / 256 % 256,m % 256]:=by
 show [vf m (3 - 1 - ((0:Nat):Int)),vf m (3 - 1 - ((1:Nat):Int)),vf m (3 - 1 - ((2:Nat):Int))]=_
 have h0:=fR m 0 h (by decide) (by decide)
 have h1:=fR m 1 h (by decide) (by decide)
 have h2:=fR m 2 h (by decide) (by decide)
 simp at h0 h1 h2 ⊢
 exact⟨h2,h1,h0⟩
theorem UN (m:Int) (h:0≤m):hU m 4=[m / 16777216 % 256,m / 65536 % 256,m / 256 % 256,m % 256]:=by
 show [vf m (4 - 1 - ((0:Nat):Int)),vf m (4 - 1 - ((1:Nat):Int)),vf m (4 - 1 - ((2:Nat):Int)),vf m (4 - 1 - ((3:Nat):Int))]=_
 have h0:=fR m 0 h (by decide) (by decide)
 have h1:=fR m 1 h (by decide) (by decide)
 have h2:=fR m 2 h (by decide) (by decide)
 have h3:=fR m 3 h (by decide) (by decide)
 simp at h0 h1 h2 h3 ⊢
 exact⟨h3,h2,h1,h0⟩
theorem Ba {m w:Int} (h:fits m w=true):0≤m∧(w=1∧m < 256∨w=2∧m < 65536∨w=3∧m < 16777216∨w=4∧m < 2147483648):=by
 simp only [fits,Bool.and_eq_true,decide_eq_true_eq] at h
 obtain⟨⟨h0,h1⟩,hw⟩:=h
 have hw:=of_decide_eq_true hw
 have:w=1∨w=2∨w=3∨w=4:=by omega
 refine⟨h0,?_⟩
 rcases this with rfl|rfl|rfl|rfl
 ·have h1:m≤255:=h1
  exact .inl ⟨rfl,by omega⟩
 ·have h1:m≤65535:=h1
  exact .inr (.inl ⟨rfl,by omega⟩)
 ·have h1:m≤16777215:=h1
  exact .inr (.inr (.inl ⟨rfl,by omega⟩))
 ·have h1:m≤2147483647:=h1
  exact .inr (.inr (.inr ⟨rfl,by omega⟩))
theorem pH {m w:Int} (h:fits m w=true):∀ x∈hU m w,0≤x∧x≤255:=by
 obtain⟨h0,hc⟩:=Ba h
 intro x hx
 rcases hc with ⟨rfl,h1⟩ | ⟨rfl,h1⟩ | ⟨rfl,h1⟩ | ⟨rfl,h1⟩
 ·rw [num_1 m h0] at hx
  simp at hx
  omega
 ·rw [Tm m h0] at hx
  simp at hx
  omega
 ·rw [Sv m h0] at hx
  simp at hx
  omega
 ·rw [UN m h0] at hx
  simp at hx
  omega
theorem KL {m w:Int} (h:fits m w=true):yN m w=0∧Lz [] m w=hU m w:=by
 have hw:nf w=true:=by simp only [fits,Bool.and_eq_true] at h;exact h.2
 have hm:0≤m∧m≤DS w:=by simp only [fits,Bool.and_eq_true,decide_eq_true_eq] at h;exact h.1
 have e:yN m w=0:=by
  unfold yN
  simp [hw]
  omega
 refine⟨e,?_⟩
 unfold Lz
 rw [e]
 simp [dJ]
end Go.Proofs.YtakebkfhigadiaaGreat.OctQ
