
/-
  edges yz the reckoner. No condition.
-/
import Derived.Test.YtelhldgdnlppfaaGreatVdW21
import Derived.Test.YtelhldgdnlppfaaGreatVdW14
import Derived.Test.YtelhldgdnlppfaaGreatVdRyOp
set_option maxHeartbeats 2000000
set_option maxRecDepth 100000
namespace Go.Proofs.YtelhldgdnlppfaaGreat.So
open Go Go.Shelf Go.RowKit Go.Lib Go.Sort Ry EcX Cmp
def cfE (x y:E):Int:=gZ (ri x 0) (ri x 1) (ri x 2) (ri y 0) (ri y 1) (ri y 2)
def Wi (l:List E):List E:=(pdq (ltOf cfE) l.toArray 0 l.toArray.size (Lib.bitLen l.toArray.size) true true).toList
structure Os where
 mz:List E→List E
 ok:List E→Bool
end Go.Proofs.YtelhldgdnlppfaaGreat.So
namespace Go.Proofs.YtelhldgdnlppfaaGreat.EgR
open Go Ry Go.Proofs.YtelhldgdnlppfaaGreat.So EcX Cmp
theorem o65:Int.ofNat 65=65:=rfl
theorem Rm (p:List E):(match p with|[]=>0|_ :: l=>l.length+1)=p.length:=by cases p <;> rfl
theorem we (p q:List E):p.length=q.length→Int.ofNat (match p with|[]=>0|_ :: l=>l.length+1)=Int.ofNat (match q with|[]=>0|_ :: l=>l.length+1):=fun h=>by rw [Rm,Rm,h]
theorem wC {q:List E} {i:Int} (h0:0≤i) (h:i < q.length):q.getD i.toNat []∈q:=by
 have hi:i.toNat < q.length:=by omega
 rw [List.getD_eq_getElem?_getD,List.getElem?_eq_getElem hi]
 exact List.getElem_mem hi
theorem eO (l:List E) (i:Int) (h0:0≤i) (h:i < l.length):l.take (i+1).toNat=l.take i.toNat ++ [l.getD i.toNat []]:=by
 have e:(i+1).toNat=i.toNat+1:=by omega
 have hi:i.toNat < l.length:=by omega
 rw [e,List.take_add_one,List.getD_eq_getElem?_getD,List.getElem?_eq_getElem hi]
 rfl
def cq (n:Int):Bool:=decide (1≤n∧n≤64)
def pM (a b w:Int):Bool:=decide (1≤a∧a≤64∧1≤b∧b≤64∧a < b∧0≤w∧w≤2147483647)
def my (a b w:Int):Int:=if pM a b w=true then 0 else 1
structure EE where
 a:Int
 b:Int
 w:Int
 e:Int
def ofE (a b w:Int):EE:=let lo:=if a < b then a else b;let hi:=if a < b then b else a;if pM lo hi w=true then ⟨lo,hi,w,0⟩ else ⟨0,0,0,1⟩
def pk (a b n:Int):Int:=if n=a then b else if n=b then a else 0
def fZ (y:E):Int × Int × Int:=(ri y 0,ri y 1,ri y 2)
def PN (y:E):Int × Int:=(ri y 0,ri y 1)
def qu (y:E):Bool:=pM (ri y 0) (ri y 1) (ri y 2)
def jo (l:List E):Bool:=decide (∀ y∈l,qu y=true) && decide ((l.map PN).Nodup)
def oM (l:List E):Int:=if jo l=true then (if 512 < l.length then 3 else 0) else 1
def aah (l:List E):List E:=if oM l=0 then Wi l else []
def ta (y:E):Nat:=(ri y 0 * 65+ri y 1).toNat
def AW (M:List E) (y:E):List E:=M.set (ta y) [D.bool true]
def Fv (l:List E):List E:=l.foldl AW (List.replicate 4225 [D.bool false])
theorem Ee {y:E} (h:qu y=true):1≤ri y 0∧ri y 0≤64∧1≤ri y 1∧ri y 1≤64∧ri y 0 < ri y 1∧0≤ri y 2∧ri y 2≤2147483647:=of_decide_eq_true h
theorem OW (l:List E):(Fv l).length=4225:=by
 have:∀ (l M:List E),(l.foldl AW M).length=M.length:=by
  intro l
  induction l with
  |nil=>intro M;rfl
  |cons y l ih =>
   intro M
   rw [List.foldl_cons,ih]
   unfold AW
   rw [List.length_set]
 unfold Fv
 rw [this,List.length_replicate]
theorem UW (M:List E) (k j:Nat) (hk:k < M.length):rb ((M.set k [D.bool true]).getD j []) 0=true↔j=k∨rb (M.getD j []) 0=true:=by
 rw [List.getD_eq_getElem?_getD,List.getD_eq_getElem?_getD,List.getElem?_set]
 by_cases h:k=j
 ·subst h
  rw [if_pos rfl,if_pos hk]
  simp [rb]
 ·rw [if_neg h]
  simp only [Option.getD]
  constructor
  ·exact fun g=>.inr g
  ·rintro (g|g)
   ·exact absurd g.symm h
   ·exact g
theorem EK (j:Nat):∀ (l M:List E),(∀ y∈l,ta y < M.length)→(rb ((l.foldl AW M).getD j []) 0=true↔rb (M.getD j []) 0=true∨∃ y∈l,ta y=j)
 |[],M,_=>by simp
 |y :: l,M,h=>by
  have hk:=h y (List.mem_cons_self ..)
  rw [List.foldl_cons,EK j l (AW M y) (fun z hz=>by unfold AW;rw [List.length_set];exact h z (List.mem_cons_of_mem _ hz))]
  unfold AW
  rw [UW M _ _ hk]
  simp only [List.mem_cons]
  constructor
  ·rintro ((g|g) | ⟨z,hz,g⟩)
   ·exact .inr ⟨y,.inl rfl,g.symm⟩
   ·exact .inl g
   ·exact .inr ⟨z,.inr hz,g⟩
  ·rintro (g | ⟨z,hz|hz,g⟩)
   ·exact .inl (.inr g)
   ·subst hz
    exact .inl (.inl g.symm)
   ·exact .inr ⟨z,hz,g⟩
theorem To {y:E} (h:qu y=true):ta y < 4225:=by
 have:=Ee h
 unfold ta
 omega
theorem key_inj {y z:E} (h:qu y=true) (g:qu z=true):ta y=ta z↔PN y=PN z:=by
 have h:=Ee h
 have g:=Ee g
 unfold ta PN
 rw [Prod.mk.injEq]
 omega
theorem NB {l:List E} {y:E} (hl:∀ z∈l,qu z=true) (hy:qu y=true):rb ((Fv l).getD (ta y) []) 0=true↔PN y∈l.map PN:=by
 unfold Fv
 rw [EK _ _ _ (fun z hz=>by rw [List.length_replicate];exact To (hl z hz))]
 have e:¬rb ((List.replicate 4225 [D.bool false]).getD (ta y) []) 0=true:=by
  rw [List.getD_eq_getElem?_getD,List.getElem?_replicate]
  split <;> simp [rb]
 rw [List.mem_map]
 constructor
 ·rintro (g | ⟨z,hz,g⟩)
  ·exact absurd g e
  ·exact⟨z,hz,(key_inj (hl z hz) hy).1 g⟩
 ·rintro⟨z,hz,g⟩
  exact .inr ⟨z,hz,(key_inj (hl z hz) hy).2 g⟩
theorem iB (l:List E):jo l=true↔(∀ y∈l,qu y=true)∧(l.map PN).Nodup:=by
 unfold jo
 rw [Bool.and_eq_true,decide_eq_true_eq,decide_eq_true_eq]
theorem Gx {l:List E} {i:Int} (h0:0≤i) (h:i < l.length) (hg:jo (l.take i.toNat)=true) :
  (jo (l.take (i+1).toNat)=true↔qu (l.getD i.toNat [])=true∧PN (l.getD i.toNat []) ∉ (l.take i.toNat).map PN):=by
 rw [eO l i h0 h,iB]
 obtain⟨g1,g2⟩:=(iB _).1 hg
 simp only [List.map_append,List.map_cons,List.map_nil,List.mem_append,List.mem_singleton]
 rw [List.nodup_append]
 constructor
 ·rintro⟨a,b,c,d⟩
  exact⟨a _ (.inr rfl),fun w=>d _ w _ (by simp) rfl⟩
 ·rintro⟨a,b⟩
  refine⟨fun y hy=>?_,g2,by simp,fun p hp q hq w=>?_⟩
  ·rcases hy with hy|rfl
   ·exact g1 y hy
   ·exact a
  ·rw [List.mem_singleton] at hq
   subst hq
   exact b (w ▸ hp)
theorem vQ {l:List E} (k:Nat) (h:jo l=true):jo (l.take k)=true:=by
 obtain⟨g1,g2⟩:=(iB _).1 h
 refine (iB _).2 ⟨fun y hy=>g1 y (List.mem_of_mem_take hy),?_⟩
 rw [List.map_take]
 exact g2.sublist (List.take_sublist _ _)
structure XC where
 i:Int
 M:List E
def Yx (l:List E) (y:XC):Prop:=0≤y.i∧y.i≤l.length∧y.M=Fv (l.take y.i.toNat)∧jo (l.take y.i.toNat)=true
def caM (l:List E) (y:XC):Nat:=l.length - y.i.toNat
theorem Nn (l:List E):Yx l ⟨0,List.replicate 4225 [D.bool false]⟩:=⟨Int.le_refl 0,Int.natCast_nonneg _,rfl,rfl⟩
theorem Nk (l:List E) (i:Int) (M:List E) (hq:Yx l ⟨i,M⟩) (h:i < l.length) (hl:l.length≤1000000) :
  aN .add .i64 i 1=i+1∧M.length=4225∧(qu (l.getD i.toNat [])=false→jo l=false) ∧
  (qu (l.getD i.toNat [])=true→1≤ri (l.getD i.toNat []) 0∧ri (l.getD i.toNat []) 0≤64∧1≤ri (l.getD i.toNat []) 1∧ri (l.getD i.toNat []) 1≤64∧0≤(aN .add .i64 (aN .mul .i64 (ri (l.getD i.toNat []) 0) 65) (ri (l.getD i.toNat []) 1))∧(aN .add .i64 (aN .mul .i64 (ri (l.getD i.toNat []) 0) 65) (ri (l.getD i.toNat []) 1)) < 4225∧0≤aN .mul .i64 (ri (l.getD i.toNat []) 0) 65∧aN .add .i64 (aN .mul .i64 (ri (l.getD i.toNat []) 0) 65) 65≤4225 ∧
   (rb (M.getD (aN .add .i64 (aN .mul .i64 (ri (l.getD i.toNat []) 0) 65) (ri (l.getD i.toNat []) 1)).toNat []) 0=true→jo l=false) ∧
   (rb (M.getD (aN .add .i64 (aN .mul .i64 (ri (l.getD i.toNat []) 0) 65) (ri (l.getD i.toNat []) 1)).toNat []) 0=false→Yx l ⟨i+1,M.set (aN .add .i64 (aN .mul .i64 (ri (l.getD i.toNat []) 0) 65) (ri (l.getD i.toNat []) 1)).toNat [D.bool true]⟩)):=by
 obtain⟨h0,h1,h2,h3⟩:=hq
 simp only at h0 h1 h2 h3
 have hn:=Gx h0 h h3
 refine⟨by rw [bp,wr _ (by omega) (by omega)],by rw [h2,OW],fun g=>?_,fun g=>?_⟩
 ·rw [← Bool.not_eq_true]
  intro w
  have:=(hn.1 (vQ _ w)).1
  rw [g] at this
  cases this
 ·have k:=Ee g
  have hm:=NB (l:=l.take i.toNat) (y:=l.getD i.toNat []) ((iB _).1 h3).1 g
  rw [← h2] at hm
  have k1:aN .mul .i64 (ri (l.getD i.toNat []) 0) 65=ri (l.getD i.toNat []) 0 * 65:=by rw [Za,wr _ (by omega) (by omega)]
  have k2:aN .add .i64 (ri (l.getD i.toNat []) 0 * 65) (ri (l.getD i.toNat []) 1)=ri (l.getD i.toNat []) 0 * 65+ri (l.getD i.toNat []) 1:=by rw [bp,wr _ (by omega) (by omega)]
  have k3:aN .add .i64 (ri (l.getD i.toNat []) 0 * 65) 65=ri (l.getD i.toNat []) 0 * 65+65:=by rw [bp,wr _ (by omega) (by omega)]
  rw [k1,k2,k3]
  refine⟨k.1,k.2.1,k.2.2.1,k.2.2.2.1,by omega,by omega,by omega,by omega,fun w=>?_,fun w=>?_⟩
  ·rw [← Bool.not_eq_true]
   intro v
   exact (hn.1 (vQ _ v)).2 (hm.1 w)
  ·refine⟨by simp only;omega,by simp only;omega,?_,hn.2 ⟨g,fun v=>?_⟩⟩
   ·simp only
    rw [eO l i h0 h,h2]
    unfold Fv
    rw [List.foldl_append]
    rfl
   ·have:=hm.2 v
    unfold ta at this
    rw [w] at this
    cases this
theorem UR (l:List E) (i:Int) (M:List E) (hq:Yx l ⟨i,M⟩) (h:¬i < l.length):jo l=true:=by
 obtain⟨h0,h1,h2,h3⟩:=hq
 simp only at h0 h1 h2 h3
 have e:i=l.length:=by omega
 rw [e,Int.toNat_natCast,List.take_length] at h3
 exact h3
noncomputable def caI (A:Ar) (l:List E) (y:XC):St:=cg Tryz.f171.ntmps [(0,.sl none (.ah (.int .i64 (.int .i64 (.int .i64 .nil))) l)),(3,.ptr 1 0),(6,.sl none (.ah (.int .i64 (.int .i64 (.int .i64 .nil))) l)),(7,.val (.int .i64 (A.dK l))),(8,.val (.int .i64 y.i))] [(1,.row 237 (.ah (.bool .nil) y.M))] [Any]
def caR (st:St):XC:=⟨bQ st 8,match ak st.heap (match kE st 3 with | .ptr n _=>n|_=>0) with|some (.row _ c)=>ctR c|_=>[]⟩
structure XI where
 i:Int
def ML (l:List Int) (y:XI):Prop:=0≤y.i∧y.i≤l.length∧jt (l.drop y.i.toNat)=jt l
def orM (l:List Int) (y:XI):Nat:=l.length - y.i.toNat
def orR (st:St):XI:=⟨bQ st 8⟩
noncomputable def orI (A:Ar) (l:List Int) (y:XI):St:=cg Tryz.f111.ntmps [(3,.num .i64 0),(6,.sl none (.ints .i64 l)),(7,.val (.int .i64 (A.fN l))),(8,.val (.int .i64 y.i))] [] [Any]
theorem xg (l:List Int) (i:Int) (hq:ML l ⟨i⟩) (h:i < l.length) (hl:l.length≤1000000):aN .add .i64 i 1=i+1∧(l.getD i.toNat 0=0→ML l ⟨i+1⟩)∧(¬l.getD i.toNat 0=0→jt l=l.getD i.toNat 0):=by
 obtain⟨h0,h1,h2⟩:=hq
 simp only at h0 h1 h2
 have hi:i.toNat < l.length:=by omega
 have e:l.getD i.toNat 0=l[i.toNat]:=by rw [List.getD_eq_getElem?_getD,List.getElem?_eq_getElem hi];rfl
 have e2:(i+1).toNat=i.toNat+1:=by omega
 rw [List.drop_eq_getElem_cons hi] at h2
 rw [e]
 refine⟨by rw [bp,wr _ (by omega) (by omega)],fun g=>⟨by simp only;omega,by simp only;omega,?_⟩,fun g=>?_⟩
 ·simp only
  rw [e2,← h2]
  rw [g]
  simp [jt]
 ·rw [← h2]
  simp [jt,g]
theorem Cw (l:List Int) (i:Int) (hq:ML l ⟨i⟩) (h:¬i < l.length):jt l=0:=by
 obtain⟨h0,h1,h2⟩:=hq
 simp only at h0 h1 h2
 rw [← h2,List.drop_eq_nil_of_le (by omega)]
 rfl
def VS (p q:List E):Bool:=decide (p.map fZ=q.map fZ)
structure XE where
 i:Int
structure Fs where
 Hw:Int→Bool
 abp:Int→Int→Int→Bool
 YS:Int→Int→Int→Int
 abr:Int→Int→Int→EE
 QF:Int→Int→Int→Int
 RH:List E→Int
 abb:List E→List E
 UJ:List E→Bool
 Jf:List Int→Bool
 Aw:Int→Int→Int
 Xw:List Int→Int
 Ri:Int→Int→Int→Int→Int→Int→Int
 aao:List E→List E→Bool
 abk:List E→List E→Bool
def Fs.U:Fs:=⟨cq,pM,my,ofE,pk,oM,aah,fun l=>decide (l.length≤1000000),fun l=>decide (l.length≤1000000),iA,jt,gZ,VS,fun p q=>decide (p.length≤1000000∧q.length≤1000000)⟩
def wQ (F:Fs):aZ:=fun xs h=>match xs,h with
 |[.one (.val (.int .i64 n))],[]=>some ⟨True,.sa (B (F.Hw n)),[],[Any]⟩
 |_,_=>none
theorem Sw (n:Int):aU [] Tryz.f32 [.one (.val (.int .i64 n))] [] ⟨True,.sa (B (Fs.U.Hw n)),[],[Any]⟩:=by
 intro b gv
 generalize hF:Fs.U=F
 generalize hA:Ar.U=A
 generalize hL:Lp _ _ _=L
 obtain⟨Z,zq⟩:=aP
 refine aD (aa hL) zq rfl ?_
 repeat' (first|(refine ay zq ?_;try dsimp only)|refine ax zq ?_ (aa hL)|refine aw zq ?_|refine az ?_|refine av ?_|refine au ?_|refine aq ?_|refine ar rfl ?_|refine ai rfl ?_|refine aj rfl ?_|(refine Cd.mk ?_;cbv)|(refine aE.mk ?_;cbv)|(refine aJ.mk ?_;cbv)|exact trivial|refine And.intro ?_ ?_|refine bn fun _=>?_|refine bo fun _=>?_)
 all_goals
  clear hL zq Z
  subst hF hA
  simp only [Fs.U,Ar.U] at *
  try (first|(exact we _ _ (by assumption))|(grind [al,bp,wr,cq]))
theorem yq:aA Tryz.prog 32 (wQ Fs.U):=by
 refine aG af.nil Tryz.func32 rfl rfl fun xs h p hp=>?_
 unfold wQ at hp
 split at hp
 ·cases hp
  exact⟨aB rfl,fun _ _=>Sw _⟩
 ·cases hp
def sw (F:Fs):aZ:=fun xs h=>match xs,h with
 |[.agg [.val (.int .i64 e_a),.val (.int .i64 e_b),.val (.int .i64 e_w)]],[]=>some ⟨True,.sa (I (F.YS e_a e_b e_w)),[],[Any]⟩
 |_,_=>none
theorem HP (e_a:Int) (e_b:Int) (e_w:Int):aU [(32,wQ Fs.U)] Tryz.f198 [.agg [.val (.int .i64 e_a),.val (.int .i64 e_b),.val (.int .i64 e_w)]] [] ⟨True,.sa (I (Fs.U.YS e_a e_b e_w)),[],[Any]⟩:=by
 intro b gv
 generalize hF:Fs.U=F
 generalize hA:Ar.U=A
 generalize hL:Lp _ _ _=L
 obtain⟨Z,zq⟩:=aP
 refine aD (aa hL) zq rfl ?_
 repeat' (first|(refine ay zq ?_;try dsimp only)|refine ax zq ?_ (aa hL)|refine aw zq ?_|refine az ?_|refine av ?_|refine au ?_|refine aq ?_|refine ar rfl ?_|refine ai rfl ?_|refine aj rfl ?_|(refine Cd.mk ?_;cbv)|(refine aE.mk ?_;cbv)|(refine aJ.mk ?_;cbv)|exact trivial|refine And.intro ?_ ?_|refine bn fun _=>?_|refine bo fun _=>?_)
 all_goals
  clear hL zq Z
  subst hF hA
  simp only [Fs.U,Ar.U] at *
  try (first|(exact we _ _ (by assumption))|(grind [al,bp,wr,my,pM,cq]))
theorem wi:aA Tryz.prog 198 (sw Fs.U):=by
 refine aG (af.cons yq af.nil rfl) Tryz.func198 rfl rfl fun xs h p hp=>?_
 unfold sw at hp
 split at hp
 ·cases hp
  exact⟨aB rfl,fun _ _=>HP _ _ _⟩
 ·cases hp
def xb (F:Fs):aZ:=fun xs h=>match xs,h with
 |[.agg [.val (.int .i64 e_a),.val (.int .i64 e_b),.val (.int .i64 _)],.one (.val (.int .i64 n))],[]=>some ⟨True,.sa (I (F.QF e_a e_b n)),[],[Any,Any]⟩
 |_,_=>none
theorem Nw (e_a:Int) (e_b:Int) (e_w:Int) (n:Int):aU [] Tryz.f219 [.agg [.val (.int .i64 e_a),.val (.int .i64 e_b),.val (.int .i64 e_w)],.one (.val (.int .i64 n))] [] ⟨True,.sa (I (Fs.U.QF e_a e_b n)),[],[Any,Any]⟩:=by
 intro b gv
 generalize hF:Fs.U=F
 generalize hA:Ar.U=A
 generalize hL:Lp _ _ _=L
 obtain⟨Z,zq⟩:=aP
 refine aD (aa hL) zq rfl ?_
 repeat' (first|(refine ay zq ?_;try dsimp only)|refine ax zq ?_ (aa hL)|refine aw zq ?_|refine az ?_|refine av ?_|refine au ?_|refine aq ?_|refine ar rfl ?_|refine ai rfl ?_|refine aj rfl ?_|(refine Cd.mk ?_;cbv)|(refine aE.mk ?_;cbv)|(refine aJ.mk ?_;cbv)|exact trivial|refine And.intro ?_ ?_|refine bn fun _=>?_|refine bo fun _=>?_)
 all_goals
  clear hL zq Z
  subst hF hA
  simp only [Fs.U,Ar.U] at *
  try (first|(exact we _ _ (by assumption))|(grind [al,bp,wr,pk]))
theorem AQ:aA Tryz.prog 219 (xb Fs.U):=by
 refine aG af.nil Tryz.func219 rfl rfl fun xs h p hp=>?_
 unfold xb at hp
 split at hp
 ·cases hp
  exact⟨aB rfl,fun _ _=>Nw _ _ _ _⟩
 ·cases hp
def jL (F:Fs):aZ:=fun xs h=>match xs,h with
 |[.one (.sl none (.ah (.int .i64 (.int .i64 (.int .i64 .nil))) l))],[]=>some ⟨F.UJ l=true,.sa (I (F.RH l)),[],[Any]⟩
 |_,_=>none
theorem Ai (l:List E) (hC:Fs.U.UJ l=true):aU [(198,sw Fs.U)] Tryz.f171 [.one (.sl none (.ah (.int .i64 (.int .i64 (.int .i64 .nil))) l))] [] ⟨Fs.U.UJ l=true,.sa (I (Fs.U.RH l)),[],[Any]⟩:=by
 intro b gv
 have hk:l.length≤1000000:=of_decide_eq_true (show decide (l.length≤1000000)=true from hC)
 have hfs:=(af.cons wi af.nil rfl)
 generalize hF:Fs.U=F at hC hfs ⊢
 generalize hA:Ar.U=A
 generalize hL:Lp _ _ _=L
 obtain⟨Z,zq⟩:=aP
 refine aD (aa hL) zq rfl ?_
 repeat' (first|(refine ay zq ?_;try dsimp only)|refine ax zq ?_ (aa hL)|refine aw zq ?_|refine az ?_|refine av ?_|refine au ?_|refine aq ?_|refine ar rfl ?_|refine ai rfl ?_|refine aj rfl ?_|(refine Cd.mk ?_;cbv)|(refine aE.mk ?_;cbv)|(refine aJ.mk ?_;cbv)|exact trivial|refine And.intro ?_ ?_|refine bn fun _=>?_|refine bo fun _=>?_)
 subst hL
 refine aX (br hfs) (Yx l) (caI A l) (caM l) caR ⟨0,A.Mn 4225 [D.bool false]⟩ ?_ ?_ ?_
 ·exact (by subst hA;exact Nn l)
 ·cbv
  repeat' (first|exact trivial|exact rfl|refine And.intro ?_ ?_)
 rintro⟨i,M⟩ hq O hO
 have hst:=fun h=>Nk l i M hq h hk
 have hen:=UR l i M hq
 have q0:=hq.1
 have q1:=hq.2.1
 dsimp only at q0 q1
 subst hA
 generalize hA:Ar.U=A
 generalize hL:Lp _ _ _=L
 refine aO zq ?_
 repeat' (first|(refine ay zq ?_;try dsimp only)|refine ax zq ?_ (aa hL)|refine aw zq ?_|refine az ?_|refine av ?_|refine au ?_|refine aq ?_|refine ar rfl ?_|refine ai rfl ?_|refine aj rfl ?_|(refine Cd.mk ?_;cbv)|(refine aE.mk ?_;cbv)|(refine aJ.mk ?_;cbv)|exact trivial|refine And.intro ?_ ?_|refine bn fun _=>?_|refine bo fun _=>?_)
 all_goals (clear hL hfs zq Z hq;subst hA hF hO;simp only [Fs.U,Ar.U,o65] at * <;> grind [al,caM,oM,qu,my])
theorem oG:aA Tryz.prog 171 (jL Fs.U):=by
 refine aG (af.cons wi af.nil rfl) Tryz.func171 rfl rfl fun xs h p hp=>?_
 unfold jL at hp
 split at hp
 ·cases hp
  exact⟨aB rfl,fun hC _=>Ai _ hC⟩
 ·cases hp
def qb (_:Fs):aZ:=fun xs h=>match xs,h with
 |[.one (.val (.int .i64 _))],[]=>some ⟨True,.sa (B false),[],[Any]⟩
 |_,_=>none
theorem KD (a:Int):aU [] Tryz.f131 [.one (.val (.int .i64 a))] [] ⟨True,.sa (B false),[],[Any]⟩:=by
 intro b gv
 generalize hF:Fs.U=F
 generalize hA:Ar.U=A
 generalize hL:Lp _ _ _=L
 obtain⟨Z,zq⟩:=aP
 refine aD (aa hL) zq rfl ?_
 repeat' (first|(refine ay zq ?_;try dsimp only)|refine ax zq ?_ (aa hL)|refine aw zq ?_|refine az ?_|refine av ?_|refine au ?_|refine aq ?_|refine ar rfl ?_|refine ai rfl ?_|refine aj rfl ?_|(refine Cd.mk ?_;cbv)|(refine aE.mk ?_;cbv)|(refine aJ.mk ?_;cbv)|exact trivial|refine And.intro ?_ ?_|refine bn fun _=>?_|refine bo fun _=>?_)
 all_goals
  clear hL zq Z
  subst hF hA
  simp only [Ar.U] at *
  try (first|(simp [al];done)|(exact we _ _ (by assumption))|(grind [al,bp,wr]))
theorem pj:aA Tryz.prog 131 (qb Fs.U):=by
 refine aG af.nil Tryz.func131 rfl rfl fun xs h p hp=>?_
 unfold qb at hp
 split at hp
 ·cases hp
  exact⟨aB rfl,fun _ _=>KD _⟩
 ·cases hp
def iJ (F:Fs):aZ:=fun xs h=>match xs,h with
 |[.one (.val (.int .i64 a)),.one (.val (.int .i64 d))],[]=>some ⟨True,.sa (I (F.Aw a d)),[],[Any,Any]⟩
 |_,_=>none
theorem Cp (a:Int) (d:Int):aU [(131,qb Fs.U)] Tryz.f104 [.one (.val (.int .i64 a)),.one (.val (.int .i64 d))] [] ⟨True,.sa (I (Fs.U.Aw a d)),[],[Any,Any]⟩:=by
 intro b gv
 generalize hF:Fs.U=F
 generalize hA:Ar.U=A
 generalize hL:Lp _ _ _=L
 obtain⟨Z,zq⟩:=aP
 refine aD (aa hL) zq rfl ?_
 repeat' (first|(refine ay zq ?_;try dsimp only)|refine ax zq ?_ (aa hL)|refine aw zq ?_|refine az ?_|refine av ?_|refine au ?_|refine aq ?_|refine ar rfl ?_|refine ai rfl ?_|refine aj rfl ?_|(refine Cd.mk ?_;cbv)|(refine aE.mk ?_;cbv)|(refine aJ.mk ?_;cbv)|exact trivial|refine And.intro ?_ ?_|refine bn fun _=>?_|refine bo fun _=>?_)
 all_goals
  clear hL zq Z
  subst hF hA
  simp only [Fs.U,Ar.U] at *
  try (first|(exact we _ _ (by assumption))|(grind [al,bp,wr,iA]))
theorem gE:aA Tryz.prog 104 (iJ Fs.U):=by
 refine aG (af.cons pj af.nil rfl) Tryz.func104 rfl rfl fun xs h p hp=>?_
 unfold iJ at hp
 split at hp
 ·cases hp
  exact⟨aB rfl,fun _ _=>Cp _ _⟩
 ·cases hp
def qd (F:Fs):aZ:=fun xs h=>match xs,h with
 |[.one (.sl none (.ints .i64 l))],[]=>some ⟨F.Jf l=true,.sa (I (F.Xw l)),[],[Any]⟩
 |_,_=>none
theorem JP (l:List Int) (hC:Fs.U.Jf l=true):aU [] Tryz.f111 [.one (.sl none (.ints .i64 l))] [] ⟨Fs.U.Jf l=true,.sa (I (Fs.U.Xw l)),[],[Any]⟩:=by
 intro b gv
 have hk:l.length≤1000000:=of_decide_eq_true (show decide (l.length≤1000000)=true from hC)
 have hfs:=af.nil
 generalize hF:Fs.U=F at hC hfs ⊢
 generalize hA:Ar.U=A
 generalize hL:Lp _ _ _=L
 obtain⟨Z,zq⟩:=aP
 refine aD (aa hL) zq rfl ?_
 repeat' (first|(refine ay zq ?_;try dsimp only)|refine ax zq ?_ (aa hL)|refine aw zq ?_|refine az ?_|refine av ?_|refine au ?_|refine aq ?_|refine ar rfl ?_|refine ai rfl ?_|refine aj rfl ?_|(refine Cd.mk ?_;cbv)|(refine aE.mk ?_;cbv)|(refine aJ.mk ?_;cbv)|exact trivial|refine And.intro ?_ ?_|refine bn fun _=>?_|refine bo fun _=>?_)
 subst hL
 refine aX (br hfs) (ML l) (orI A l) (orM l) orR ⟨0⟩ ?_ ?_ ?_
 ·exact⟨Int.le_refl 0,Int.natCast_nonneg _,rfl⟩
 ·cbv
  repeat' (first|exact trivial|exact rfl|refine And.intro ?_ ?_)
 rintro⟨i⟩ hq O hO
 have hst:=fun h=>xg l i hq h hk
 have hen:=Cw l i hq
 have q0:=hq.1
 have q1:=hq.2.1
 dsimp only at q0 q1
 subst hA
 generalize hA:Ar.U=A
 generalize hL:Lp _ _ _=L
 refine aO zq ?_
 repeat' (first|(refine ay zq ?_;try dsimp only)|refine ax zq ?_ (aa hL)|refine aw zq ?_|refine az ?_|refine av ?_|refine au ?_|refine aq ?_|refine ar rfl ?_|refine ai rfl ?_|refine aj rfl ?_|(refine Cd.mk ?_;cbv)|(refine aE.mk ?_;cbv)|(refine aJ.mk ?_;cbv)|exact trivial|refine And.intro ?_ ?_|refine bn fun _=>?_|refine bo fun _=>?_)
 all_goals (clear hL hfs zq Z hq;subst hA hF hO;simp only [Fs.U,Ar.U] at * <;> grind [al,orM])
theorem po:aA Tryz.prog 111 (qd Fs.U):=by
 refine aG af.nil Tryz.func111 rfl rfl fun xs h p hp=>?_
 unfold qd at hp
 split at hp
 ·cases hp
  exact⟨aB rfl,fun hC _=>JP _ hC⟩
 ·cases hp
def jS (F:Fs):aZ:=fun xs h=>match xs,h with
 |[.agg [.val (.int .i64 x_a),.val (.int .i64 x_b),.val (.int .i64 x_w)],.agg [.val (.int .i64 y_a),.val (.int .i64 y_b),.val (.int .i64 y_w)]],[]=>some ⟨True,.sa (I (F.Ri x_a x_b x_w y_a y_b y_w)),[],[Any,Any]⟩
 |_,_=>none
theorem SP (x_a:Int) (x_b:Int) (x_w:Int) (y_a:Int) (y_b:Int) (y_w:Int):aU [(104,iJ Fs.U),(111,qd Fs.U)] Tryz.f175 [.agg [.val (.int .i64 x_a),.val (.int .i64 x_b),.val (.int .i64 x_w)],.agg [.val (.int .i64 y_a),.val (.int .i64 y_b),.val (.int .i64 y_w)]] [] ⟨True,.sa (I (Fs.U.Ri x_a x_b x_w y_a y_b y_w)),[],[Any,Any]⟩:=by
 intro b gv
 have h0:=AE x_a x_b x_w y_a y_b y_w
 generalize hF:Fs.U=F
 generalize hA:Ar.U=A
 generalize hL:Lp _ _ _=L
 obtain⟨Z,zq⟩:=aP
 refine aD (aa hL) zq rfl ?_
 repeat' (first|(refine ay zq ?_;try dsimp only)|refine ax zq ?_ (aa hL)|refine aw zq ?_|refine az ?_|refine av ?_|refine au ?_|refine aq ?_|refine ar rfl ?_|refine ai rfl ?_|refine aj rfl ?_|(refine Cd.mk ?_;cbv)|(refine aE.mk ?_;cbv)|(refine aJ.mk ?_;cbv)|exact trivial|refine And.intro ?_ ?_|refine bn fun _=>?_|refine bo fun _=>?_)
 all_goals
  clear hL zq Z
  subst hF hA
  simp only [Fs.U,Ar.U] at *
  try (first|(exact we _ _ (by assumption))|(grind [al,bp,wr,gZ]))
theorem fa:aA Tryz.prog 175 (jS Fs.U):=by
 refine aG (af.cons gE (af.cons po af.nil rfl) rfl) Tryz.func175 rfl rfl fun xs h p hp=>?_
 unfold jS at hp
 split at hp
 ·cases hp
  exact⟨aB rfl,fun _ _=>SP _ _ _ _ _ _⟩
 ·cases hp
end Go.Proofs.YtelhldgdnlppfaaGreat.EgR
