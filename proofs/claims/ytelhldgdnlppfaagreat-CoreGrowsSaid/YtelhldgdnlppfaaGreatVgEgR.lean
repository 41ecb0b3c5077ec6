
/-
  edges sj the reckoner. No condition.
-/
import Derived.Test.YtelhldgdnlppfaaGreatVgRyOp
import Derived.Test.YtelhldgdnlppfaaGreatVgW14
import Derived.Test.YtelhldgdnlppfaaGreatVgSo
set_option maxHeartbeats 2000000
set_option maxRecDepth 100000
namespace Go.Proofs.YtelhldgdnlppfaaGreat.EgR
open Go Ry Go.Proofs.YtelhldgdnlppfaaGreat.So EcX Cmp
theorem o65:Int.ofNat 65=65:=rfl
theorem QA (p:List E):(match p with|[]=>0|_ :: l=>l.length+1)=p.length:=by cases p <;> rfl
theorem vz (p q:List E):p.length=q.length→Int.ofNat (match p with|[]=>0|_ :: l=>l.length+1)=Int.ofNat (match q with|[]=>0|_ :: l=>l.length+1):=fun h=>by rw [QA,QA,h]
theorem tO {q:List E} {i:Int} (h0:0≤i) (h:i < q.length):q.getD i.toNat []∈q:=by
 have hi:i.toNat < q.length:=by omega
 rw [List.getD_eq_getElem?_getD,List.getElem?_eq_getElem hi]
 exact List.getElem_mem hi
theorem fa (l:List E) (i:Int) (h0:0≤i) (h:i < l.length):l.take (i+1).toNat=l.take i.toNat ++ [l.getD i.toNat []]:=by
 have e:(i+1).toNat=i.toNat+1:=by omega
 have hi:i.toNat < l.length:=by omega
 rw [e,List.take_add_one,List.getD_eq_getElem?_getD,List.getElem?_eq_getElem hi]
 rfl
def cm (n:Int):Bool:=decide (1≤n∧n≤64)
def pj (a b w:Int):Bool:=decide (1≤a∧a≤64∧1≤b∧b≤64∧a < b∧0≤w∧w≤2147483647)
def mh (a b w:Int):Int:=if pj a b w=true then 0 else 1
structure EE where
 a:Int
 b:Int
 w:Int
 e:Int
def ofE (a b w:Int):EE:=let lo:=if a < b then a else b;let hi:=if a < b then b else a;if pj lo hi w=true then ⟨lo,hi,w,0⟩ else ⟨0,0,0,1⟩
def px (a b n:Int):Int:=if n=a then b else if n=b then a else 0
def gi (y:E):Int × Int × Int:=(ri y 0,ri y 1,ri y 2)
def OO (y:E):Int × Int:=(ri y 0,ri y 1)
def qg (y:E):Bool:=pj (ri y 0) (ri y 1) (ri y 2)
def ji (l:List E):Bool:=decide (∀ y∈l,qg y=true) && decide ((l.map OO).Nodup)
def oQ (l:List E):Int:=if ji l=true then (if 512 < l.length then 3 else 0) else 1
def aau (l:List E):List E:=if oQ l=0 then Zn l else []
def tj (y:E):Nat:=(ri y 0 * 65+ri y 1).toNat
def AL (M:List E) (y:E):List E:=M.set (tj y) [D.bool true]
def FC (l:List E):List E:=l.foldl AL (List.replicate 4225 [D.bool false])
theorem DL {y:E} (h:qg y=true):1≤ri y 0∧ri y 0≤64∧1≤ri y 1∧ri y 1≤64∧ri y 0 < ri y 1∧0≤ri y 2∧ri y 2≤2147483647:=of_decide_eq_true h
theorem NR (l:List E):(FC l).length=4225:=by
 have:∀ (l M:List E),(l.foldl AL M).length=M.length:=by
  intro l
  induction l with
  |nil=>intro M;rfl
  |cons y l ih =>
   intro M
   rw [List.foldl_cons,ih]
   unfold AL
   rw [List.length_set]
 unfold FC
 rw [this,List.length_replicate]
theorem Ux (M:List E) (k j:Nat) (hk:k < M.length):rb ((M.set k [D.bool true]).getD j []) 0=true↔j=k∨rb (M.getD j []) 0=true:=by
 rw [List.getD_eq_getElem?_getD,List.getD_eq_getElem?_getD,List.getElem?_set]
 by_cases h:k=j
 ·subst h
  rw [if_pos rfl,if_pos hk]
  simp [rb]
 ·rw [if_neg h]
  simp only [Option.getD]
  constructor
  ·exact fun g=>.inr g
  ·rintro (g|g)
   ·exact absurd g.symm h
   ·exact g
theorem CD (j:Nat):∀ (l M:List E),(∀ y∈l,tj y < M.length)→(rb ((l.foldl AL M).getD j []) 0=true↔rb (M.getD j []) 0=true∨∃ y∈l,tj y=j)
 |[],M,_=>by simp
 |y :: l,M,h=>by
  have hk:=h y (List.mem_cons_self ..)
  rw [List.foldl_cons,CD j l (AL M y) (fun z hz=>by unfold AL;rw [List.length_set];exact h z (List.mem_cons_of_mem _ hz))]
  unfold AL
  rw [Ux M _ _ hk]
  simp only [List.mem_cons]
  constructor
  ·rintro ((g|g) | ⟨z,hz,g⟩)
   ·exact .inr ⟨y,.inl rfl,g.symm⟩
   ·exact .inl g
   ·exact .inr ⟨z,.inr hz,g⟩
  ·rintro (g | ⟨z,hz|hz,g⟩)
   ·exact .inl (.inr g)
   ·subst hz
    exact .inl (.inl g.symm)
   ·exact .inr ⟨z,hz,g⟩
theorem TP {y:E} (h:qg y=true):tj y < 4225:=by
 have:=DL h
 unfold tj
 omega
theorem key_inj {y z:E} (h:qg y=true) (g:qg z=true):tj y=tj z↔OO y=OO z:=by
 have h:=DL h
 have g:=DL g
 unfold tj OO
 rw [Prod.mk.injEq]
 omega
theorem Pq {l:List E} {y:E} (hl:∀ z∈l,qg z=true) (hy:qg y=true):rb ((FC l).getD (tj y) []) 0=true↔OO y∈l.map OO:=by
 unfold FC
 rw [CD _ _ _ (fun z hz=>by rw [List.length_replicate];exact TP (hl z hz))]
 have e:¬rb ((List.replicate 4225 [D.bool false]).getD (tj y) []) 0=true:=by
  rw [List.getD_eq_getElem?_getD,List.getElem?_replicate]
  split <;> simp [rb]
 rw [List.mem_map]
 constructor
 ·rintro (g | ⟨z,hz,g⟩)
  ·exact absurd g e
  ·exact⟨z,hz,(key_inj (hl z hz) hy).1 g⟩
 ·rintro⟨z,hz,g⟩
  exact .inr ⟨z,hz,(key_inj (hl z hz) hy).2 g⟩
theorem iA (l:List E):ji l=true↔(∀ y∈l,qg y=true)∧(l.map OO).Nodup:=by
 unfold ji
 rw [Bool.and_eq_true,decide_eq_true_eq,decide_eq_true_eq]
theorem Fk {l:List E} {i:Int} (h0:0≤i) (h:i < l.length) (hg:ji (l.take i.toNat)=true) :
  (ji (l.take (i+1).toNat)=true↔qg (l.getD i.toNat [])=true∧OO (l.getD i.toNat []) ∉ (l.take i.toNat).map OO):=by
 rw [fa l i h0 h,iA]
 obtain⟨g1,g2⟩:=(iA _).1 hg
 simp only [List.map_append,List.map_cons,List.map_nil,List.mem_append,List.mem_singleton]
 rw [List.nodup_append]
 constructor
 ·rintro⟨a,b,c,d⟩
  exact⟨a _ (.inr rfl),fun w=>d _ w _ (by simp) rfl⟩
 ·rintro⟨a,b⟩
  refine⟨fun y hy=>?_,g2,by simp,fun p hp q hq w=>?_⟩
  ·rcases hy with hy|rfl
   ·exact g1 y hy
   ·exact a
  ·rw [List.mem_singleton] at hq
   subst hq
   exact b (w ▸ hp)
theorem vm {l:List E} (k:Nat) (h:ji l=true):ji (l.take k)=true:=by
 obtain⟨g1,g2⟩:=(iA _).1 h
 refine (iA _).2 ⟨fun y hy=>g1 y (List.mem_of_mem_take hy),?_⟩
 rw [List.map_take]
 exact g2.sublist (List.take_sublist _ _)
structure XC where
 i:Int
 M:List E
def YD (l:List E) (y:XC):Prop:=0≤y.i∧y.i≤l.length∧y.M=FC (l.take y.i.toNat)∧ji (l.take y.i.toNat)=true
def caM (l:List E) (y:XC):Nat:=l.length - y.i.toNat
theorem Mm (l:List E):YD l ⟨0,List.replicate 4225 [D.bool false]⟩:=⟨Int.le_refl 0,Int.natCast_nonneg _,rfl,rfl⟩
theorem Ph (l:List E) (i:Int) (M:List E) (hq:YD l ⟨i,M⟩) (h:i < l.length) (hl:l.length≤1000000) :
  aO .add .i64 i 1=i+1∧M.length=4225∧(qg (l.getD i.toNat [])=false→ji l=false) ∧
  (qg (l.getD i.toNat [])=true→1≤ri (l.getD i.toNat []) 0∧ri (l.getD i.toNat []) 0≤64∧1≤ri (l.getD i.toNat []) 1∧ri (l.getD i.toNat []) 1≤64∧0≤(aO .add .i64 (aO .mul .i64 (ri (l.getD i.toNat []) 0) 65) (ri (l.getD i.toNat []) 1))∧(aO .add .i64 (aO .mul .i64 (ri (l.getD i.toNat []) 0) 65) (ri (l.getD i.toNat []) 1)) < 4225∧0≤aO .mul .i64 (ri (l.getD i.toNat []) 0) 65∧aO .add .i64 (aO .mul .i64 (ri (l.getD i.toNat []) 0) 65) 65≤4225 ∧
   (rb (M.getD (aO .add .i64 (aO .mul .i64 (ri (l.getD i.toNat []) 0) 65) (ri (l.getD i.toNat []) 1)).toNat []) 0=true→ji l=false) ∧
   (rb (M.getD (aO .add .i64 (aO .mul .i64 (ri (l.getD i.toNat []) 0) 65) (ri (l.getD i.toNat []) 1)).toNat []) 0=false→YD l ⟨i+1,M.set (aO .add .i64 (aO .mul .i64 (ri (l.getD i.toNat []) 0) 65) (ri (l.getD i.toNat []) 1)).toNat [D.bool true]⟩)):=by
 obtain⟨h0,h1,h2,h3⟩:=hq
 simp only at h0 h1 h2 h3
 have hn:=Fk h0 h h3
 refine⟨by rw [bo,wr _ (by omega) (by omega)],by rw [h2,NR],fun g=>?_,fun g=>?_⟩
 ·rw [← Bool.not_eq_true]
  intro w
  have:=(hn.1 (vm _ w)).1
  rw [g] at this
  cases this
 ·have k:=DL g
  have hm:=Pq (l:=l.take i.toNat) (y:=l.getD i.toNat []) ((iA _).1 h3).1 g
  rw [← h2] at hm
  have k1:aO .mul .i64 (ri (l.getD i.toNat []) 0) 65=ri (l.getD i.toNat []) 0 * 65:=by rw [YC,wr _ (by omega) (by omega)]
  have k2:aO .add .i64 (ri (l.getD i.toNat []) 0 * 65) (ri (l.getD i.toNat []) 1)=ri (l.getD i.toNat []) 0 * 65+ri (l.getD i.toNat []) 1:=by rw [bo,wr _ (by omega) (by omega)]
  have k3:aO .add .i64 (ri (l.getD i.toNat []) 0 * 65) 65=ri (l.getD i.toNat []) 0 * 65+65:=by rw [bo,wr _ (by omega) (by omega)]
  rw [k1,k2,k3]
  refine⟨k.1,k.2.1,k.2.2.1,k.2.2.2.1,by omega,by omega,by omega,by omega,fun w=>?_,fun w=>?_⟩
  ·rw [← Bool.not_eq_true]
   intro v
   exact (hn.1 (vm _ v)).2 (hm.1 w)
  ·refine⟨by simp only;omega,by simp only;omega,?_,hn.2 ⟨g,fun v=>?_⟩⟩
   ·simp only
    rw [fa l i h0 h,h2]
    unfold FC
    rw [List.foldl_append]
    rfl
   ·have:=hm.2 v
    unfold tj at this
    rw [w] at this
    cases this
theorem RM (l:List E) (i:Int) (M:List E) (hq:YD l ⟨i,M⟩) (h:¬i < l.length):ji l=true:=by
 obtain⟨h0,h1,h2,h3⟩:=hq
 simp only at h0 h1 h2 h3
 have e:i=l.length:=by omega
 rw [e,Int.toNat_natCast,List.take_length] at h3
 exact h3
noncomputable def caI (A:Ar) (l:List E) (y:XC):St:=cC Tryz.f171.ntmps [(0,.sl none (.ah (.int .i64 (.int .i64 (.int .i64 .nil))) l)),(3,.ptr 1 0),(6,.sl none (.ah (.int .i64 (.int .i64 (.int .i64 .nil))) l)),(7,.val (.int .i64 (A.dN l))),(8,.val (.int .i64 y.i))] [(1,.row 237 (.ah (.bool .nil) y.M))] [Any]
def caR (st:St):XC:=⟨bR st 8,match ak st.heap (match jA st 3 with | .ptr n _=>n|_=>0) with|some (.row _ c)=>ZS c|_=>[]⟩
structure XI where
 i:Int
def Pp (l:List Int) (y:XI):Prop:=0≤y.i∧y.i≤l.length∧jj (l.drop y.i.toNat)=jj l
def orM (l:List Int) (y:XI):Nat:=l.length - y.i.toNat
def orR (st:St):XI:=⟨bR st 8⟩
noncomputable def orI (A:Ar) (l:List Int) (y:XI):St:=cC Tryz.f111.ntmps [(3,.num .i64 0),(6,.sl none (.ints .i64 l)),(7,.val (.int .i64 (A.fE l))),(8,.val (.int .i64 y.i))] [] [Any]
theorem xF (l:List Int) (i:Int) (hq:Pp l ⟨i⟩) (h:i < l.length) (hl:l.length≤1000000):aO .add .i64 i 1=i+1∧(l.getD i.toNat 0=0→Pp l ⟨i+1⟩)∧(¬l.getD i.toNat 0=0→jj l=l.getD i.toNat 0):=by
 obtain⟨h0,h1,h2⟩:=hq
 simp only at h0 h1 h2
 have hi:i.toNat < l.length:=by omega
 have e:l.getD i.toNat 0=l[i.toNat]:=by rw [List.getD_eq_getElem?_getD,List.getElem?_eq_getElem hi];rfl
 have e2:(i+1).toNat=i.toNat+1:=by omega
 rw [List.drop_eq_getElem_cons hi] at h2
 rw [e]
 refine⟨by rw [bo,wr _ (by omega) (by omega)],fun g=>⟨by simp only;omega,by simp only;omega,?_⟩,fun g=>?_⟩
 ·simp only
  rw [e2,← h2]
  rw [g]
  simp [jj]
 ·rw [← h2]
  simp [jj,g]
theorem AS (l:List Int) (i:Int) (hq:Pp l ⟨i⟩) (h:¬i < l.length):jj l=0:=by
 obtain⟨h0,h1,h2⟩:=hq
 simp only at h0 h1 h2
 rw [← h2,List.drop_eq_nil_of_le (by omega)]
 rfl
def VY (p q:List E):Bool:=decide (p.map gi=q.map gi)
structure XE where
 i:Int
structure Fs where
 Hj:Int→Bool
 aaP:Int→Int→Int→Bool
 Xu:Int→Int→Int→Int
 abi:Int→Int→Int→EE
 Qd:Int→Int→Int→Int
 QH:List E→Int
 aaL:List E→List E
 UK:List E→Bool
 HV:List Int→Bool
 yu:Int→Int→Int
 Xw:List Int→Int
 Qm:Int→Int→Int→Int→Int→Int→Int
 aaB:List E→List E→Bool
 aaO:List E→List E→Bool
def Fs.U:Fs:=⟨cm,pj,mh,ofE,px,oQ,aau,fun l=>decide (l.length≤1000000),fun l=>decide (l.length≤1000000),ic,jj,hG,VY,fun p q=>decide (p.length≤1000000∧q.length≤1000000)⟩
def xJ (F:Fs):aY:=fun xs h=>match xs,h with
 |[.one (.val (.int .i64 n))],[]=>some ⟨True,.sa (B (F.Hj n)),[],[Any]⟩
 |_,_=>none
theorem RK (n:Int):aV [] Tryz.f32 [.one (.val (.int .i64 n))] [] ⟨True,.sa (B (Fs.U.Hj n)),[],[Any]⟩:=by
 intro b gv
 generalize hF:Fs.U=F
 generalize hA:Ar.U=A
 generalize hL:Lp _ _ _=L
 obtain⟨Z,zq⟩:=aQ
 refine aD (ae hL) zq rfl ?_
 repeat' (first|(refine aw zq ?_;try dsimp only)|refine ax zq ?_ (ae hL)|refine az zq ?_|refine ay ?_|refine aq ?_|refine ar ?_|refine av ?_|refine au rfl ?_|refine ai rfl ?_|refine aj rfl ?_|(refine Cd.mk ?_;cbv)|(refine aE.mk ?_;cbv)|(refine aM.mk ?_;cbv)|exact trivial|refine And.intro ?_ ?_|refine bu fun _=>?_|refine br fun _=>?_)
 all_goals
  clear hL zq Z
  subst hF hA
  simp only [Fs.U,Ar.U] at *
  try (first|(exact vz _ _ (by assumption))|(grind [al,bo,wr,cm]))
theorem wI:aA Tryz.prog 32 (xJ Fs.U):=by
 refine aG af.nil Tryz.func32 rfl rfl fun xs h p hp=>?_
 unfold xJ at hp
 split at hp
 ·cases hp
  exact⟨aB rfl,fun _ _=>RK _⟩
 ·cases hp
def sK (F:Fs):aY:=fun xs h=>match xs,h with
 |[.agg [.val (.int .i64 e_a),.val (.int .i64 e_b),.val (.int .i64 e_w)]],[]=>some ⟨True,.sa (I (F.Xu e_a e_b e_w)),[],[Any]⟩
 |_,_=>none
theorem Jm (e_a:Int) (e_b:Int) (e_w:Int):aV [(32,xJ Fs.U)] Tryz.f198 [.agg [.val (.int .i64 e_a),.val (.int .i64 e_b),.val (.int .i64 e_w)]] [] ⟨True,.sa (I (Fs.U.Xu e_a e_b e_w)),[],[Any]⟩:=by
 intro b gv
 generalize hF:Fs.U=F
 generalize hA:Ar.U=A
 generalize hL:Lp _ _ _=L
 obtain⟨Z,zq⟩:=aQ
 refine aD (ae hL) zq rfl ?_
 repeat' (first|(refine aw zq ?_;try dsimp only)|refine ax zq ?_ (ae hL)|refine az zq ?_|refine ay ?_|refine aq ?_|refine ar ?_|refine av ?_|refine au rfl ?_|refine ai rfl ?_|refine aj rfl ?_|(refine Cd.mk ?_;cbv)|(refine aE.mk ?_;cbv)|(refine aM.mk ?_;cbv)|exact trivial|refine And.intro ?_ ?_|refine bu fun _=>?_|refine br fun _=>?_)
 all_goals
  clear hL zq Z
  subst hF hA
  simp only [Fs.U,Ar.U] at *
  try (first|(exact vz _ _ (by assumption))|(grind [al,bo,wr,mh,pj,cm]))
theorem uY:aA Tryz.prog 198 (sK Fs.U):=by
 refine aG (af.cons wI af.nil rfl) Tryz.func198 rfl rfl fun xs h p hp=>?_
 unfold sK at hp
 split at hp
 ·cases hp
  exact⟨aB rfl,fun _ _=>Jm _ _ _⟩
 ·cases hp
def xQ (F:Fs):aY:=fun xs h=>match xs,h with
 |[.agg [.val (.int .i64 e_a),.val (.int .i64 e_b),.val (.int .i64 _)],.one (.val (.int .i64 n))],[]=>some ⟨True,.sa (I (F.Qd e_a e_b n)),[],[Any,Any]⟩
 |_,_=>none
theorem Pk (e_a:Int) (e_b:Int) (e_w:Int) (n:Int):aV [] Tryz.f219 [.agg [.val (.int .i64 e_a),.val (.int .i64 e_b),.val (.int .i64 e_w)],.one (.val (.int .i64 n))] [] ⟨True,.sa (I (Fs.U.Qd e_a e_b n)),[],[Any,Any]⟩:=by
 intro b gv
 generalize hF:Fs.U=F
 generalize hA:Ar.U=A
 generalize hL:Lp _ _ _=L
 obtain⟨Z,zq⟩:=aQ
 refine aD (ae hL) zq rfl ?_
 repeat' (first|(refine aw zq ?_;try dsimp only)|refine ax zq ?_ (ae hL)|refine az zq ?_|refine ay ?_|refine aq ?_|refine ar ?_|refine av ?_|refine au rfl ?_|refine ai rfl ?_|refine aj rfl ?_|(refine Cd.mk ?_;cbv)|(refine aE.mk ?_;cbv)|(refine aM.mk ?_;cbv)|exact trivial|refine And.intro ?_ ?_|refine bu fun _=>?_|refine br fun _=>?_)
 all_goals
  clear hL zq Z
  subst hF hA
  simp only [Fs.U,Ar.U] at *
  try (first|(exact vz _ _ (by assumption))|(grind [al,bo,wr,px]))
theorem zh:aA Tryz.prog 219 (xQ Fs.U):=by
 refine aG af.nil Tryz.func219 rfl rfl fun xs h p hp=>?_
 unfold xQ at hp
 split at hp
 ·cases hp
  exact⟨aB rfl,fun _ _=>Pk _ _ _ _⟩
 ·cases hp
def kr (F:Fs):aY:=fun xs h=>match xs,h with
 |[.one (.sl none (.ah (.int .i64 (.int .i64 (.int .i64 .nil))) l))],[]=>some ⟨F.UK l=true,.sa (I (F.QH l)),[],[Any]⟩
 |_,_=>none
theorem zO (l:List E) (hC:Fs.U.UK l=true):aV [(198,sK Fs.U)] Tryz.f171 [.one (.sl none (.ah (.int .i64 (.int .i64 (.int .i64 .nil))) l))] [] ⟨Fs.U.UK l=true,.sa (I (Fs.U.QH l)),[],[Any]⟩:=by
 intro b gv
 have hk:l.length≤1000000:=of_decide_eq_true (show decide (l.length≤1000000)=true from hC)
 have hfs:=(af.cons uY af.nil rfl)
 generalize hF:Fs.U=F at hC hfs ⊢
 generalize hA:Ar.U=A
 generalize hL:Lp _ _ _=L
 obtain⟨Z,zq⟩:=aQ
 refine aD (ae hL) zq rfl ?_
 repeat' (first|(refine aw zq ?_;try dsimp only)|refine ax zq ?_ (ae hL)|refine az zq ?_|refine ay ?_|refine aq ?_|refine ar ?_|refine av ?_|refine au rfl ?_|refine ai rfl ?_|refine aj rfl ?_|(refine Cd.mk ?_;cbv)|(refine aE.mk ?_;cbv)|(refine aM.mk ?_;cbv)|exact trivial|refine And.intro ?_ ?_|refine bu fun _=>?_|refine br fun _=>?_)
 subst hL
 refine ba (bx hfs) (YD l) (caI A l) (caM l) caR ⟨0,A.OP 4225 [D.bool false]⟩ ?_ ?_ ?_
 ·exact (by subst hA;exact Mm l)
 ·cbv
  repeat' (first|exact trivial|exact rfl|refine And.intro ?_ ?_)
 rintro⟨i,M⟩ hq O hO
 have hst:=fun h=>Ph l i M hq h hk
 have hen:=RM l i M hq
 have q0:=hq.1
 have q1:=hq.2.1
 dsimp only at q0 q1
 subst hA
 generalize hA:Ar.U=A
 generalize hL:Lp _ _ _=L
 refine aR zq ?_
 repeat' (first|(refine aw zq ?_;try dsimp only)|refine ax zq ?_ (ae hL)|refine az zq ?_|refine ay ?_|refine aq ?_|refine ar ?_|refine av ?_|refine au rfl ?_|refine ai rfl ?_|refine aj rfl ?_|(refine Cd.mk ?_;cbv)|(refine aE.mk ?_;cbv)|(refine aM.mk ?_;cbv)|exact trivial|refine And.intro ?_ ?_|refine bu fun _=>?_|refine br fun _=>?_)
 all_goals (clear hL hfs zq Z hq;subst hA hF hO;simp only [Fs.U,Ar.U,o65] at * <;> grind [al,caM,oQ,qg,mh])
theorem nG:aA Tryz.prog 171 (kr Fs.U):=by
 refine aG (af.cons uY af.nil rfl) Tryz.func171 rfl rfl fun xs h p hp=>?_
 unfold kr at hp
 split at hp
 ·cases hp
  exact⟨aB rfl,fun hC _=>zO _ hC⟩
 ·cases hp
def qb (_:Fs):aY:=fun xs h=>match xs,h with
 |[.one (.val (.int .i64 _))],[]=>some ⟨True,.sa (B false),[],[Any]⟩
 |_,_=>none
theorem Jw (a:Int):aV [] Tryz.f131 [.one (.val (.int .i64 a))] [] ⟨True,.sa (B false),[],[Any]⟩:=by
 intro b gv
 generalize hF:Fs.U=F
 generalize hA:Ar.U=A
 generalize hL:Lp _ _ _=L
 obtain⟨Z,zq⟩:=aQ
 refine aD (ae hL) zq rfl ?_
 repeat' (first|(refine aw zq ?_;try dsimp only)|refine ax zq ?_ (ae hL)|refine az zq ?_|refine ay ?_|refine aq ?_|refine ar ?_|refine av ?_|refine au rfl ?_|refine ai rfl ?_|refine aj rfl ?_|(refine Cd.mk ?_;cbv)|(refine aE.mk ?_;cbv)|(refine aM.mk ?_;cbv)|exact trivial|refine And.intro ?_ ?_|refine bu fun _=>?_|refine br fun _=>?_)
 all_goals
  clear hL zq Z
  subst hF hA
  simp only [Ar.U] at *
  try (first|(simp [al];done)|(exact vz _ _ (by assumption))|(grind [al,bo,wr]))
theorem pz:aA Tryz.prog 131 (qb Fs.U):=by
 refine aG af.nil Tryz.func131 rfl rfl fun xs h p hp=>?_
 unfold qb at hp
 split at hp
 ·cases hp
  exact⟨aB rfl,fun _ _=>Jw _⟩
 ·cases hp
def iM (F:Fs):aY:=fun xs h=>match xs,h with
 |[.one (.val (.int .i64 a)),.one (.val (.int .i64 d))],[]=>some ⟨True,.sa (I (F.yu a d)),[],[Any,Any]⟩
 |_,_=>none
theorem Bq (a:Int) (d:Int):aV [(131,qb Fs.U)] Tryz.f104 [.one (.val (.int .i64 a)),.one (.val (.int .i64 d))] [] ⟨True,.sa (I (Fs.U.yu a d)),[],[Any,Any]⟩:=by
 intro b gv
 generalize hF:Fs.U=F
 generalize hA:Ar.U=A
 generalize hL:Lp _ _ _=L
 obtain⟨Z,zq⟩:=aQ
 refine aD (ae hL) zq rfl ?_
 repeat' (first|(refine aw zq ?_;try dsimp only)|refine ax zq ?_ (ae hL)|refine az zq ?_|refine ay ?_|refine aq ?_|refine ar ?_|refine av ?_|refine au rfl ?_|refine ai rfl ?_|refine aj rfl ?_|(refine Cd.mk ?_;cbv)|(refine aE.mk ?_;cbv)|(refine aM.mk ?_;cbv)|exact trivial|refine And.intro ?_ ?_|refine bu fun _=>?_|refine br fun _=>?_)
 all_goals
  clear hL zq Z
  subst hF hA
  simp only [Fs.U,Ar.U] at *
  try (first|(exact vz _ _ (by assumption))|(grind [al,bo,wr,ic]))
theorem gM:aA Tryz.prog 104 (iM Fs.U):=by
 refine aG (af.cons pz af.nil rfl) Tryz.func104 rfl rfl fun xs h p hp=>?_
 unfold iM at hp
 split at hp
 ·cases hp
  exact⟨aB rfl,fun _ _=>Bq _ _⟩
 ·cases hp
def pY (F:Fs):aY:=fun xs h=>match xs,h with
 |[.one (.sl none (.ints .i64 l))],[]=>some ⟨F.HV l=true,.sa (I (F.Xw l)),[],[Any]⟩
 |_,_=>none
theorem La (l:List Int) (hC:Fs.U.HV l=true):aV [] Tryz.f111 [.one (.sl none (.ints .i64 l))] [] ⟨Fs.U.HV l=true,.sa (I (Fs.U.Xw l)),[],[Any]⟩:=by
 intro b gv
 have hk:l.length≤1000000:=of_decide_eq_true (show decide (l.length≤1000000)=true from hC)
 have hfs:=af.nil
 generalize hF:Fs.U=F at hC hfs ⊢
 generalize hA:Ar.U=A
 generalize hL:Lp _ _ _=L
 obtain⟨Z,zq⟩:=aQ
 refine aD (ae hL) zq rfl ?_
 repeat' (first|(refine aw zq ?_;try dsimp only)|refine ax zq ?_ (ae hL)|refine az zq ?_|refine ay ?_|refine aq ?_|refine ar ?_|refine av ?_|refine au rfl ?_|refine ai rfl ?_|refine aj rfl ?_|(refine Cd.mk ?_;cbv)|(refine aE.mk ?_;cbv)|(refine aM.mk ?_;cbv)|exact trivial|refine And.intro ?_ ?_|refine bu fun _=>?_|refine br fun _=>?_)
 subst hL
 refine ba (bx hfs) (Pp l) (orI A l) (orM l) orR ⟨0⟩ ?_ ?_ ?_
 ·exact⟨Int.le_refl 0,Int.natCast_nonneg _,rfl⟩
 ·cbv
  repeat' (first|exact trivial|exact rfl|refine And.intro ?_ ?_)
 rintro⟨i⟩ hq O hO
 have hst:=fun h=>xF l i hq h hk
 have hen:=AS l i hq
 have q0:=hq.1
 have q1:=hq.2.1
 dsimp only at q0 q1
 subst hA
 generalize hA:Ar.U=A
 generalize hL:Lp _ _ _=L
 refine aR zq ?_
 repeat' (first|(refine aw zq ?_;try dsimp only)|refine ax zq ?_ (ae hL)|refine az zq ?_|refine ay ?_|refine aq ?_|refine ar ?_|refine av ?_|refine au rfl ?_|refine ai rfl ?_|refine aj rfl ?_|(refine Cd.mk ?_;cbv)|(refine aE.mk ?_;cbv)|(refine aM.mk ?_;cbv)|exact trivial|refine And.intro ?_ ?_|refine bu fun _=>?_|refine br fun _=>?_)
 all_goals (clear hL hfs zq Z hq;subst hA hF hO;simp only [Fs.U,Ar.U] at * <;> grind [al,orM])
theorem oH:aA Tryz.prog 111 (pY Fs.U):=by
 refine aG af.nil Tryz.func111 rfl rfl fun xs h p hp=>?_
 unfold pY at hp
 split at hp
 ·cases hp
  exact⟨aB rfl,fun hC _=>La _ hC⟩
 ·cases hp
def ka (F:Fs):aY:=fun xs h=>match xs,h with
 |[.agg [.val (.int .i64 x_a),.val (.int .i64 x_b),.val (.int .i64 x_w)],.agg [.val (.int .i64 y_a),.val (.int .i64 y_b),.val (.int .i64 y_w)]],[]=>some ⟨True,.sa (I (F.Qm x_a x_b x_w y_a y_b y_w)),[],[Any,Any]⟩
 |_,_=>none
theorem SF (x_a:Int) (x_b:Int) (x_w:Int) (y_a:Int) (y_b:Int) (y_w:Int):aV [(104,iM Fs.U),(111,pY Fs.U)] Tryz.f175 [.agg [.val (.int .i64 x_a),.val (.int .i64 x_b),.val (.int .i64 x_w)],.agg [.val (.int .i64 y_a),.val (.int .i64 y_b),.val (.int .i64 y_w)]] [] ⟨True,.sa (I (Fs.U.Qm x_a x_b x_w y_a y_b y_w)),[],[Any,Any]⟩:=by
 intro b gv
 have h0:=zW x_a x_b x_w y_a y_b y_w
 generalize hF:Fs.U=F
 generalize hA:Ar.U=A
 generalize hL:Lp _ _ _=L
 obtain⟨Z,zq⟩:=aQ
 refine aD (ae hL) zq rfl ?_
 repeat' (first|(refine aw zq ?_;try dsimp only)|refine ax zq ?_ (ae hL)|refine az zq ?_|refine ay ?_|refine aq ?_|refine ar ?_|refine av ?_|refine au rfl ?_|refine ai rfl ?_|refine aj rfl ?_|(refine Cd.mk ?_;cbv)|(refine aE.mk ?_;cbv)|(refine aM.mk ?_;cbv)|exact trivial|refine And.intro ?_ ?_|refine bu fun _=>?_|refine br fun _=>?_)
 all_goals
  clear hL zq Z
  subst hF hA
  simp only [Fs.U,Ar.U] at *
  try (first|(exact vz _ _ (by assumption))|(grind [al,bo,wr,hG]))
theorem fg:aA Tryz.prog 175 (ka Fs.U):=by
 refine aG (af.cons gM (af.cons oH af.nil rfl) rfl) Tryz.func175 rfl rfl fun xs h p hp=>?_
 unfold ka at hp
 split at hp
 ·cases hp
  exact⟨aB rfl,fun _ _=>SF _ _ _ _ _ _⟩
 ·cases hp
end Go.Proofs.YtelhldgdnlppfaaGreat.EgR
