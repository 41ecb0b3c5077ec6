
/-
  edges je the reckoner. No condition.
-/
import Derived.Test.YtakebkfhigadiaaGreatVnW20
import Derived.Test.YtakebkfhigadiaaGreatVnRyU
import Derived.Test.YtakebkfhigadiaaGreatVnRyOp
import Derived.Test.YtakebkfhigadiaaGreatVnW15
set_option maxHeartbeats 2000000
set_option maxRecDepth 100000
namespace Go.Proofs.YtakebkfhigadiaaGreat.So
open Go Go.Shelf Go.RowKit Go.Lib Go.Sort Ry EcX Cmp
def cfE (x y:E):Int:=mJ (ri x 0) (ri x 1) (ri x 2) (ri y 0) (ri y 1) (ri y 2)
def Tc (l:List E):List E:=(pdq (ltOf cfE) l.toArray 0 l.toArray.size (Lib.bitLen l.toArray.size) true true).toList
structure Os where
 kN:List E→List E
 ok:List E→Bool
end Go.Proofs.YtakebkfhigadiaaGreat.So
namespace Go.Proofs.YtakebkfhigadiaaGreat.EgR
open Go Ry Go.Proofs.YtakebkfhigadiaaGreat.So EcX Cmp
theorem ZV:Int.ofNat 65=65:=rfl
theorem Nl (p:List E):(match p with|[]=>0|_ :: l=>l.length+1)=p.length:=by cases p <;> rfl
theorem NY (p q:List E):p.length=q.length→Int.ofNat (match p with|[]=>0|_ :: l=>l.length+1)=Int.ofNat (match q with|[]=>0|_ :: l=>l.length+1):=fun h=>by rw [Nl,Nl,h]
theorem mU {q:List E} {i:Int} (h0:0≤i) (h:i < q.length):q.getD i.toNat []∈q:=by
 have hi:i.toNat < q.length:=by omega
 rw [List.getD_eq_getElem?_getD,List.getElem?_eq_getElem hi]
 exact List.getElem_mem hi
theorem dh (l:List E) (i:Int) (h0:0≤i) (h:i < l.length):l.take (i+1).toNat=l.take i.toNat ++ [l.getD i.toNat []]:=by
 have e:(i+1).toNat=i.toNat+1:=by omega
 have hi:i.toNat < l.length:=by omega
 rw [e,List.take_add_one,List.getD_eq_getElem?_getD,List.getElem?_eq_getElem hi]
 rfl
def dI (n:Int):Bool:=decide (1≤n∧n≤64)
def Iw (a b w:Int):Bool:=decide (1≤a∧a≤64∧1≤b∧b≤64∧a < b∧0≤w∧w≤2147483647)
def WO (a b w:Int):Int:=if Iw a b w=true then 0 else 1
structure EE where
 a:Int
 b:Int
 w:Int
 e:Int
def ofE (a b w:Int):EE:=let lo:=if a < b then a else b;let hi:=if a < b then b else a;if Iw lo hi w=true then ⟨lo,hi,w,0⟩ else ⟨0,0,0,1⟩
def WL (a b n:Int):Int:=if n=a then b else if n=b then a else 0
def Zd (y:E):Int × Int × Int:=(ri y 0,ri y 1,ri y 2)
def LG (y:E):Int × Int:=(ri y 0,ri y 1)
def nQ (y:E):Bool:=Iw (ri y 0) (ri y 1) (ri y 2)
def im (l:List E):Bool:=decide (∀ y∈l,nQ y=true) && decide ((l.map LG).Nodup)
def vl (l:List E):Int:=if im l=true then (if 512 < l.length then 3 else 0) else 1
def Xq (l:List E):List E:=if vl l=0 then Tc l else []
def pw (y:E):Nat:=(ri y 0 * 65+ri y 1).toNat
def zh (M:List E) (y:E):List E:=M.set (pw y) [D.bool true]
def Dm (l:List E):List E:=l.foldl zh (List.replicate 4225 [D.bool false])
theorem zD {y:E} (h:nQ y=true):1≤ri y 0∧ri y 0≤64∧1≤ri y 1∧ri y 1≤64∧ri y 0 < ri y 1∧0≤ri y 2∧ri y 2≤2147483647:=of_decide_eq_true h
theorem Kk (l:List E):(Dm l).length=4225:=by
 have:∀ (l M:List E),(l.foldl zh M).length=M.length:=by
  intro l
  induction l with
  |nil=>intro M;rfl
  |cons y l ih =>
   intro M
   rw [List.foldl_cons,ih]
   unfold zh
   rw [List.length_set]
 unfold Dm
 rw [this,List.length_replicate]
theorem PR (M:List E) (k j:Nat) (hk:k < M.length):rb ((M.set k [D.bool true]).getD j []) 0=true↔j=k∨rb (M.getD j []) 0=true:=by
 rw [List.getD_eq_getElem?_getD,List.getD_eq_getElem?_getD,List.getElem?_set]
 by_cases h:k=j
 ·subst h
  rw [if_pos rfl,if_pos hk]
  simp [rb]
 ·rw [if_neg h]
  simp only [Option.getD]
  constructor
  ·exact fun g=>.inr g
  ·rintro (g|g)
   ·exact absurd g.symm h
   ·exact g
theorem zT (j:Nat):∀ (l M:List E),(∀ y∈l,pw y < M.length)→(rb ((l.foldl zh M).getD j []) 0=true↔rb (M.getD j []) 0=true∨∃ y∈l,pw y=j)
 |[],M,_=>by simp
 |y :: l,M,h=>by
  have hk:=h y (List.mem_cons_self ..)
  rw [List.foldl_cons,zT j l (zh M y) (fun z hz=>by unfold zh;rw [List.length_set];exact h z (List.mem_cons_of_mem _ hz))]
  unfold zh
  rw [PR M _ _ hk]
  simp only [List.mem_cons]
  constructor
  ·rintro ((g|g) | ⟨z,hz,g⟩)
   ·exact .inr ⟨y,.inl rfl,g.symm⟩
   ·exact .inl g
   ·exact .inr ⟨z,.inr hz,g⟩
  ·rintro (g | ⟨z,hz|hz,g⟩)
   ·exact .inl (.inr g)
   ·subst hz
    exact .inl (.inl g.symm)
   ·exact .inr ⟨z,hz,g⟩
theorem Ou {y:E} (h:nQ y=true):pw y < 4225:=by
 have:=zD h
 unfold pw
 omega
theorem key_inj {y z:E} (h:nQ y=true) (g:nQ z=true):pw y=pw z↔LG y=LG z:=by
 have h:=zD h
 have g:=zD g
 unfold pw LG
 rw [Prod.mk.injEq]
 omega
theorem Lg {l:List E} {y:E} (hl:∀ z∈l,nQ z=true) (hy:nQ y=true):rb ((Dm l).getD (pw y) []) 0=true↔LG y∈l.map LG:=by
 unfold Dm
 rw [zT _ _ _ (fun z hz=>by rw [List.length_replicate];exact Ou (hl z hz))]
 have e:¬rb ((List.replicate 4225 [D.bool false]).getD (pw y) []) 0=true:=by
  rw [List.getD_eq_getElem?_getD,List.getElem?_replicate]
  split <;> simp [rb]
 rw [List.mem_map]
 constructor
 ·rintro (g | ⟨z,hz,g⟩)
  ·exact absurd g e
  ·exact⟨z,hz,(key_inj (hl z hz) hy).1 g⟩
 ·rintro⟨z,hz,g⟩
  exact .inr ⟨z,hz,(key_inj (hl z hz) hy).2 g⟩
theorem ic (l:List E):im l=true↔(∀ y∈l,nQ y=true)∧(l.map LG).Nodup:=by
 unfold im
 rw [Bool.and_eq_true,decide_eq_true_eq,decide_eq_true_eq]
theorem CV {l:List E} {i:Int} (h0:0≤i) (h:i < l.length) (hg:im (l.take i.toNat)=true) :
  (im (l.take (i+1).toNat)=true↔nQ (l.getD i.toNat [])=true∧LG (l.getD i.toNat []) ∉ (l.take i.toNat).map LG):=by
 rw [dh l i h0 h,ic]
 obtain⟨g1,g2⟩:=(ic _).1 hg
 simp only [List.map_append,List.map_cons,List.map_nil,List.mem_append,List.mem_singleton]
 rw [List.nodup_append]
 constructor
 ·rintro⟨a,b,c,d⟩
  exact⟨a _ (.inr rfl),fun w=>d _ w _ (by simp) rfl⟩
 ·rintro⟨a,b⟩
  refine⟨fun y hy=>?_,g2,by simp,fun p hp q hq w=>?_⟩
  ·rcases hy with hy|rfl
   ·exact g1 y hy
   ·exact a
  ·rw [List.mem_singleton] at hq
   subst hq
   exact b (w ▸ hp)
theorem rv {l:List E} (k:Nat) (h:im l=true):im (l.take k)=true:=by
 obtain⟨g1,g2⟩:=(ic _).1 h
 refine (ic _).2 ⟨fun y hy=>g1 y (List.mem_of_mem_take hy),?_⟩
 rw [List.map_take]
 exact g2.sublist (List.take_sublist _ _)
structure XC where
 i:Int
 M:List E
def Tn (l:List E) (y:XC):Prop:=0≤y.i∧y.i≤l.length∧y.M=Dm (l.take y.i.toNat)∧im (l.take y.i.toNat)=true
def ZH (l:List E) (y:XC):Nat:=l.length - y.i.toNat
theorem MA (l:List E):Tn l ⟨0,List.replicate 4225 [D.bool false]⟩:=⟨Int.le_refl 0,Int.natCast_nonneg _,rfl,rfl⟩
theorem Jz (l:List E) (i:Int) (M:List E) (hq:Tn l ⟨i,M⟩) (h:i < l.length) (hl:l.length≤1000000) :
  aB .add .i64 i 1=i+1∧M.length=4225∧(nQ (l.getD i.toNat [])=false→im l=false) ∧
  (nQ (l.getD i.toNat [])=true→1≤ri (l.getD i.toNat []) 0∧ri (l.getD i.toNat []) 0≤64∧1≤ri (l.getD i.toNat []) 1∧ri (l.getD i.toNat []) 1≤64∧0≤(aB .add .i64 (aB .mul .i64 (ri (l.getD i.toNat []) 0) 65) (ri (l.getD i.toNat []) 1))∧(aB .add .i64 (aB .mul .i64 (ri (l.getD i.toNat []) 0) 65) (ri (l.getD i.toNat []) 1)) < 4225∧0≤aB .mul .i64 (ri (l.getD i.toNat []) 0) 65∧aB .add .i64 (aB .mul .i64 (ri (l.getD i.toNat []) 0) 65) 65≤4225 ∧
   (rb (M.getD (aB .add .i64 (aB .mul .i64 (ri (l.getD i.toNat []) 0) 65) (ri (l.getD i.toNat []) 1)).toNat []) 0=true→im l=false) ∧
   (rb (M.getD (aB .add .i64 (aB .mul .i64 (ri (l.getD i.toNat []) 0) 65) (ri (l.getD i.toNat []) 1)).toNat []) 0=false→Tn l ⟨i+1,M.set (aB .add .i64 (aB .mul .i64 (ri (l.getD i.toNat []) 0) 65) (ri (l.getD i.toNat []) 1)).toNat [D.bool true]⟩)):=by
 obtain⟨h0,h1,h2,h3⟩:=hq
 simp only at h0 h1 h2 h3
 have hn:=CV h0 h h3
 refine⟨by rw [aY,wr _ (by omega) (by omega)],by rw [h2,Kk],fun g=>?_,fun g=>?_⟩
 ·rw [← Bool.not_eq_true]
  intro w
  have:=(hn.1 (rv _ w)).1
  rw [g] at this
  cases this
 ·have k:=zD g
  have hm:=Lg (l:=l.take i.toNat) (y:=l.getD i.toNat []) ((ic _).1 h3).1 g
  rw [← h2] at hm
  have k1:aB .mul .i64 (ri (l.getD i.toNat []) 0) 65=ri (l.getD i.toNat []) 0 * 65:=by rw [kT,wr _ (by omega) (by omega)]
  have k2:aB .add .i64 (ri (l.getD i.toNat []) 0 * 65) (ri (l.getD i.toNat []) 1)=ri (l.getD i.toNat []) 0 * 65+ri (l.getD i.toNat []) 1:=by rw [aY,wr _ (by omega) (by omega)]
  have k3:aB .add .i64 (ri (l.getD i.toNat []) 0 * 65) 65=ri (l.getD i.toNat []) 0 * 65+65:=by rw [aY,wr _ (by omega) (by omega)]
  rw [k1,k2,k3]
  refine⟨k.1,k.2.1,k.2.2.1,k.2.2.2.1,by omega,by omega,by omega,by omega,fun w=>?_,fun w=>?_⟩
  ·rw [← Bool.not_eq_true]
   intro v
   exact (hn.1 (rv _ v)).2 (hm.1 w)
  ·refine⟨by simp only;omega,by simp only;omega,?_,hn.2 ⟨g,fun v=>?_⟩⟩
   ·simp only
    rw [dh l i h0 h,h2]
    unfold Dm
    rw [List.foldl_append]
    rfl
   ·have:=hm.2 v
    unfold pw at this
    rw [w] at this
    cases this
theorem OI (l:List E) (i:Int) (M:List E) (hq:Tn l ⟨i,M⟩) (h:¬i < l.length):im l=true:=by
 obtain⟨h0,h1,h2,h3⟩:=hq
 simp only at h0 h1 h2 h3
 have e:i=l.length:=by omega
 rw [e,Int.toNat_natCast,List.take_length] at h3
 exact h3
noncomputable def caI (A:Ar) (l:List E) (y:XC):St:=bW Tryz.f243.ntmps [(0,.sl none (.ae (.int .i64 (.int .i64 (.int .i64 .nil))) l)),(3,.ptr 1 0),(6,.sl none (.ae (.int .i64 (.int .i64 (.int .i64 .nil))) l)),(7,.val (.int .i64 (A.dw l))),(8,.val (.int .i64 y.i))] [(1,.row 351 (.ae (.bool .nil) y.M))] [Any]
def ZT (st:St):XC:=⟨bA st 8,match ak st.heap (match jS st 3 with | .ptr n _=>n|_=>0) with|some (.row _ c)=>Sb c|_=>[]⟩
structure XI where
 i:Int
def UR (p q:List E):Bool:=decide (p.map Zd=q.map Zd)
structure XE where
 i:Int
structure Fs where
 FG:Int→Bool
 YO:Int→Int→Int→Bool
 TV:Int→Int→Int→Int
 aak:Int→Int→Int→EE
 Zb:Int→Int→Int→Int
 Nt:List E→Int
 Zn:List E→List E
 RE:List E→Bool
 ZI:List Int→Bool
 Zx:Int→Int→Int
 aao:List Int→Int
 Yp:Int→Int→Int→Int→Int→Int→Int
 WY:List E→List E→Bool
 Ze:List E→List E→Bool
def Fs.U:Fs:=⟨dI,Iw,WO,ofE,WL,vl,Xq,fun l=>decide (l.length≤1000000),fun l=>decide (l.length≤1000000),lA,kl,mJ,UR,fun p q=>decide (p.length≤1000000∧q.length≤1000000)⟩
def za (F:Fs):aW:=fun xs h=>match xs,h with
 |[.one (.val (.int .i64 n))],[]=>some ⟨True,.sa (B (F.FG n)),[],[Any]⟩
 |_,_=>none
theorem Pd (n:Int):aR [] Tryz.f108 [.one (.val (.int .i64 n))] [] ⟨True,.sa (B (Fs.U.FG n)),[],[Any]⟩:=by
 intro b gv
 generalize hF:Fs.U=F
 generalize hA:Ar.U=A
 generalize hL:Lp _ _ _=L
 obtain⟨Z,zq⟩:=aH
 refine aA (aa hL) zq rfl ?_
 repeat' (first|(refine ay zq ?_;try dsimp only)|refine ax zq ?_ (aa hL)|refine az zq ?_|refine aw ?_|refine aq ?_|refine au ?_|refine ar ?_|refine al rfl ?_|refine ai rfl ?_|refine aj rfl ?_|(refine Cd.mk ?_;cbv)|(refine aF.mk ?_;cbv)|(refine aK.mk ?_;cbv)|exact trivial|refine And.intro ?_ ?_|refine aZ fun _=>?_|refine ba fun _=>?_)
 all_goals
  clear hL zq Z
  subst hF hA
  simp only [Fs.U,Ar.U] at *
  try (first|(exact NY _ _ (by assumption))|(grind [ah,aY,wr,dI]))
theorem My:aC Tryz.prog 108 (za Fs.U):=by
 refine aD af.nil Tryz.func108 rfl rfl fun xs h p hp=>?_
 unfold za at hp
 split at hp
 ·cases hp
  exact⟨av rfl,fun _ _=>Pd _⟩
 ·cases hp
def pT (F:Fs):aW:=fun xs h=>match xs,h with
 |[.agg [.val (.int .i64 e_a),.val (.int .i64 e_b),.val (.int .i64 e_w)]],[]=>some ⟨True,.sa (I (F.TV e_a e_b e_w)),[],[Any]⟩
 |_,_=>none
theorem El (e_a:Int) (e_b:Int) (e_w:Int):aR [(108,za Fs.U)] Tryz.f268 [.agg [.val (.int .i64 e_a),.val (.int .i64 e_b),.val (.int .i64 e_w)]] [] ⟨True,.sa (I (Fs.U.TV e_a e_b e_w)),[],[Any]⟩:=by
 intro b gv
 generalize hF:Fs.U=F
 generalize hA:Ar.U=A
 generalize hL:Lp _ _ _=L
 obtain⟨Z,zq⟩:=aH
 refine aA (aa hL) zq rfl ?_
 repeat' (first|(refine ay zq ?_;try dsimp only)|refine ax zq ?_ (aa hL)|refine az zq ?_|refine aw ?_|refine aq ?_|refine au ?_|refine ar ?_|refine al rfl ?_|refine ai rfl ?_|refine aj rfl ?_|(refine Cd.mk ?_;cbv)|(refine aF.mk ?_;cbv)|(refine aK.mk ?_;cbv)|exact trivial|refine And.intro ?_ ?_|refine aZ fun _=>?_|refine ba fun _=>?_)
 all_goals
  clear hL zq Z
  subst hF hA
  simp only [Fs.U,Ar.U] at *
  try (first|(exact NY _ _ (by assumption))|(grind [ah,aY,wr,WO,Iw,dI]))
theorem rR:aC Tryz.prog 268 (pT Fs.U):=by
 refine aD (af.cons My af.nil rfl) Tryz.func268 rfl rfl fun xs h p hp=>?_
 unfold pT at hp
 split at hp
 ·cases hp
  exact⟨av rfl,fun _ _=>El _ _ _⟩
 ·cases hp
def jc (F:Fs):aW:=fun xs h=>match xs,h with
 |[.one (.sl none (.ae (.int .i64 (.int .i64 (.int .i64 .nil))) l))],[]=>some ⟨F.RE l=true,.sa (I (F.Nt l)),[],[Any]⟩
 |_,_=>none
theorem xC (l:List E) (hC:Fs.U.RE l=true):aR [(268,pT Fs.U)] Tryz.f243 [.one (.sl none (.ae (.int .i64 (.int .i64 (.int .i64 .nil))) l))] [] ⟨Fs.U.RE l=true,.sa (I (Fs.U.Nt l)),[],[Any]⟩:=by
 intro b gv
 have hk:l.length≤1000000:=of_decide_eq_true (show decide (l.length≤1000000)=true from hC)
 have hfs:=(af.cons rR af.nil rfl)
 generalize hF:Fs.U=F at hC hfs ⊢
 generalize hA:Ar.U=A
 generalize hL:Lp _ _ _=L
 obtain⟨Z,zq⟩:=aH
 refine aA (aa hL) zq rfl ?_
 repeat' (first|(refine ay zq ?_;try dsimp only)|refine ax zq ?_ (aa hL)|refine az zq ?_|refine aw ?_|refine aq ?_|refine au ?_|refine ar ?_|refine al rfl ?_|refine ai rfl ?_|refine aj rfl ?_|(refine Cd.mk ?_;cbv)|(refine aF.mk ?_;cbv)|(refine aK.mk ?_;cbv)|exact trivial|refine And.intro ?_ ?_|refine aZ fun _=>?_|refine ba fun _=>?_)
 subst hL
 refine bj (bo hfs) (Tn l) (caI A l) (ZH l) ZT ⟨0,A.KZ 4225 [D.bool false]⟩ ?_ ?_ ?_
 ·exact (by subst hA;exact MA l)
 ·cbv
  repeat' (first|exact trivial|exact rfl|refine And.intro ?_ ?_)
 rintro⟨i,M⟩ hq O hO
 have hst:=fun h=>Jz l i M hq h hk
 have hen:=OI l i M hq
 have q0:=hq.1
 have q1:=hq.2.1
 dsimp only at q0 q1
 subst hA
 generalize hA:Ar.U=A
 generalize hL:Lp _ _ _=L
 refine aT zq ?_
 repeat' (first|(refine ay zq ?_;try dsimp only)|refine ax zq ?_ (aa hL)|refine az zq ?_|refine aw ?_|refine aq ?_|refine au ?_|refine ar ?_|refine al rfl ?_|refine ai rfl ?_|refine aj rfl ?_|(refine Cd.mk ?_;cbv)|(refine aF.mk ?_;cbv)|(refine aK.mk ?_;cbv)|exact trivial|refine And.intro ?_ ?_|refine aZ fun _=>?_|refine ba fun _=>?_)
 all_goals (clear hL hfs zq Z hq;subst hA hF hO;simp only [Fs.U,Ar.U,ZV] at * <;> grind [ah,ZH,vl,nQ,WO])
theorem lV:aC Tryz.prog 243 (jc Fs.U):=by
 refine aD (af.cons rR af.nil rfl) Tryz.func243 rfl rfl fun xs h p hp=>?_
 unfold jc at hp
 split at hp
 ·cases hp
  exact⟨av rfl,fun hC _=>xC _ hC⟩
 ·cases hp
end Go.Proofs.YtakebkfhigadiaaGreat.EgR
