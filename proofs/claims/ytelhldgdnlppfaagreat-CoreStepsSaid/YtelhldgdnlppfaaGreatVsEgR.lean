
/-
  edges El the reckoner. No condition.
-/
import Derived.Test.YtelhldgdnlppfaaGreatVsRyOp
import Derived.Test.YtelhldgdnlppfaaGreatVsW14
import Derived.Test.YtelhldgdnlppfaaGreatVsW23
set_option maxHeartbeats 2000000
set_option maxRecDepth 100000
namespace Go.Proofs.YtelhldgdnlppfaaGreat.EgR
open Go Ry Go.Proofs.YtelhldgdnlppfaaGreat.So EcX Cmp
theorem o65:Int.ofNat 65=65:=rfl
theorem Wu (p:List E):(match p with|[]=>0|_ :: l=>l.length+1)=p.length:=by cases p <;> rfl
theorem sY (p q:List E):p.length=q.length→Int.ofNat (match p with|[]=>0|_ :: l=>l.length+1)=Int.ofNat (match q with|[]=>0|_ :: l=>l.length+1):=fun h=>by rw [Wu,Wu,h]
theorem nh {q:List E} {i:Int} (h0:0≤i) (h:i < q.length):q.getD i.toNat []∈q:=by
 have hi:i.toNat < q.length:=by omega
 rw [List.getD_eq_getElem?_getD,List.getElem?_eq_getElem hi];exact List.getElem_mem hi
theorem cC (l:List E) (i:Int) (h0:0≤i) (h:i < l.length):l.take (i+1).toNat=l.take i.toNat ++ [l.getD i.toNat []]:=by
 have e:(i+1).toNat=i.toNat+1:=by omega
 have hi:i.toNat < l.length:=by omega
 rw [e,List.take_add_one,List.getD_eq_getElem?_getD,List.getElem?_eq_getElem hi];rfl
def bG (n:Int):Bool:=decide (1≤n∧n≤64)
def ky (a b w:Int):Bool:=decide (1≤a∧a≤64∧1≤b∧b≤64∧a < b∧0≤w∧w≤2147483647)
def jt (a b w:Int):Int:=if ky a b w=true then 0 else 1
structure EE where
 a:Int
 b:Int
 w:Int
 e:Int
def ofE (a b w:Int):EE:=let lo:=if a < b then a else b;let hi:=if a < b then b else a;if ky lo hi w=true then ⟨lo,hi,w,0⟩ else ⟨0,0,0,1⟩
def qM (a b n:Int):Int:=if n=a then b else if n=b then a else 0
def bM (y:E):Int × Int × Int:=(ri y 0,ri y 1,ri y 2)
def Ta (y:E):Int × Int:=(ri y 0,ri y 1)
def qe (y:E):Bool:=ky (ri y 0) (ri y 1) (ri y 2)
def gJ (l:List E):Bool:=decide (∀ y∈l,qe y=true) && decide ((l.map Ta).Nodup)
def kS (l:List E):Int:=if gJ l=true then (if 512 < l.length then 3 else 0) else 1
def afa (l:List E):List E:=if kS l=0 then aeb l else []
def uN (y:E):Nat:=(ri y 0 * 65+ri y 1).toNat
def Er (M:List E) (y:E):List E:=M.set (uN y) [D.bool true]
def JU (l:List E):List E:=l.foldl Er (List.replicate 4225 [D.bool false])
theorem wU {y:E} (h:qe y=true):1≤ri y 0∧ri y 0≤64∧1≤ri y 1∧ri y 1≤64∧ri y 0 < ri y 1∧0≤ri y 2∧ri y 2≤2147483647:=of_decide_eq_true h
theorem RH (l:List E):(JU l).length=4225:=by
 have:∀ (l M:List E),(l.foldl Er M).length=M.length:=by
  intro l
  induction l with
  |nil=>intro M;rfl
  |cons y l ih =>
   intro M;rw [List.foldl_cons,ih];unfold Er;rw [List.length_set]
 unfold JU;rw [this,List.length_replicate]
theorem xA (M:List E) (k j:Nat) (hk:k < M.length):rb ((M.set k [D.bool true]).getD j []) 0=true↔j=k∨rb (M.getD j []) 0=true:=by
 rw [List.getD_eq_getElem?_getD,List.getD_eq_getElem?_getD,List.getElem?_set]
 by_cases h:k=j
 ·subst h;rw [if_pos rfl,if_pos hk];simp [rb]
 ·rw [if_neg h];simp only [Option.getD];constructor
  ·exact fun g=>.inr g
  ·rintro (g|g)
   ·exact absurd g.symm h
   ·exact g
theorem Gq (j:Nat):∀ (l M:List E),(∀ y∈l,uN y < M.length)→(rb ((l.foldl Er M).getD j []) 0=true↔rb (M.getD j []) 0=true∨∃ y∈l,uN y=j)
 |[],M,_=>by simp
 |y :: l,M,h=>by
  have hk:=h y (List.mem_cons_self ..);rw [List.foldl_cons,Gq j l (Er M y) (fun z hz=>by unfold Er;rw [List.length_set];exact h z (List.mem_cons_of_mem _ hz))];unfold Er;rw [xA M _ _ hk];simp only [List.mem_cons];constructor
  ·rintro ((g|g) | ⟨z,hz,g⟩)
   ·exact .inr ⟨y,.inl rfl,g.symm⟩
   ·exact .inl g
   ·exact .inr ⟨z,.inr hz,g⟩
  ·rintro (g | ⟨z,hz|hz,g⟩)
   ·exact .inl (.inr g)
   ·subst hz;exact .inl (.inl g.symm)
   ·exact .inr ⟨z,hz,g⟩
theorem aat {y:E} (h:qe y=true):uN y < 4225:=by
 have:=wU h;unfold uN;omega
theorem key_inj {y z:E} (h:qe y=true) (g:qe z=true):uN y=uN z↔Ta y=Ta z:=by
 have h:=wU h;have g:=wU g;unfold uN Ta;rw [Prod.mk.injEq];omega
theorem Rm {l:List E} {y:E} (hl:∀ z∈l,qe z=true) (hy:qe y=true):rb ((JU l).getD (uN y) []) 0=true↔Ta y∈l.map Ta:=by
 unfold JU;rw [Gq _ _ _ (fun z hz=>by rw [List.length_replicate];exact aat (hl z hz))];have e:¬rb ((List.replicate 4225 [D.bool false]).getD (uN y) []) 0=true:=by
  rw [List.getD_eq_getElem?_getD,List.getElem?_replicate];split <;> simp [rb]
 rw [List.mem_map];constructor
 ·rintro (g | ⟨z,hz,g⟩)
  ·exact absurd g e
  ·exact⟨z,hz,(key_inj (hl z hz) hy).1 g⟩
 ·rintro⟨z,hz,g⟩;exact .inr ⟨z,hz,(key_inj (hl z hz) hy).2 g⟩
theorem fU (l:List E):gJ l=true↔(∀ y∈l,qe y=true)∧(l.map Ta).Nodup:=by
 unfold gJ;rw [Bool.and_eq_true,decide_eq_true_eq,decide_eq_true_eq]
theorem Jm {l:List E} {i:Int} (h0:0≤i) (h:i < l.length) (hg:gJ (l.take i.toNat)=true) :
  (gJ (l.take (i+1).toNat)=true↔qe (l.getD i.toNat [])=true∧Ta (l.getD i.toNat []) ∉ (l.take i.toNat).map Ta):=by
 rw [cC l i h0 h,fU];obtain⟨g1,g2⟩:=(fU _).1 hg;simp only [List.map_append,List.map_cons,List.map_nil,List.mem_append,List.mem_singleton];rw [List.nodup_append];constructor
 ·rintro⟨a,b,c,d⟩;exact⟨a _ (.inr rfl),fun w=>d _ w _ (by simp) rfl⟩
 ·rintro⟨a,b⟩;refine⟨fun y hy=>?_,g2,by simp,fun p hp q hq w=>?_⟩
  ·rcases hy with hy|rfl
   ·exact g1 y hy
   ·exact a
  ·rw [List.mem_singleton] at hq;subst hq;exact b (w ▸ hp)
theorem wS {l:List E} (k:Nat) (h:gJ l=true):gJ (l.take k)=true:=by
 obtain⟨g1,g2⟩:=(fU _).1 h;refine (fU _).2 ⟨fun y hy=>g1 y (List.mem_of_mem_take hy),?_⟩;rw [List.map_take];exact g2.sublist (List.take_sublist _ _)
structure XC where
 i:Int
 M:List E
def caQ (l:List E) (y:XC):Prop:=0≤y.i∧y.i≤l.length∧y.M=JU (l.take y.i.toNat)∧gJ (l.take y.i.toNat)=true
def caM (l:List E) (y:XC):Nat:=l.length - y.i.toNat
theorem Se (l:List E):caQ l ⟨0,List.replicate 4225 [D.bool false]⟩:=⟨Int.le_refl 0,Int.natCast_nonneg _,rfl,rfl⟩
theorem Rl (l:List E) (i:Int) (M:List E) (hq:caQ l ⟨i,M⟩) (h:i < l.length) (hl:l.length≤1000000) :
  aD .add .i64 i 1=i+1∧M.length=4225∧(qe (l.getD i.toNat [])=false→gJ l=false) ∧
  (qe (l.getD i.toNat [])=true→1≤ri (l.getD i.toNat []) 0∧ri (l.getD i.toNat []) 0≤64∧1≤ri (l.getD i.toNat []) 1∧ri (l.getD i.toNat []) 1≤64∧0≤(aD .add .i64 (aD .mul .i64 (ri (l.getD i.toNat []) 0) 65) (ri (l.getD i.toNat []) 1))∧(aD .add .i64 (aD .mul .i64 (ri (l.getD i.toNat []) 0) 65) (ri (l.getD i.toNat []) 1)) < 4225∧0≤aD .mul .i64 (ri (l.getD i.toNat []) 0) 65∧aD .add .i64 (aD .mul .i64 (ri (l.getD i.toNat []) 0) 65) 65≤4225 ∧
   (rb (M.getD (aD .add .i64 (aD .mul .i64 (ri (l.getD i.toNat []) 0) 65) (ri (l.getD i.toNat []) 1)).toNat []) 0=true→gJ l=false) ∧
   (rb (M.getD (aD .add .i64 (aD .mul .i64 (ri (l.getD i.toNat []) 0) 65) (ri (l.getD i.toNat []) 1)).toNat []) 0=false→caQ l ⟨i+1,M.set (aD .add .i64 (aD .mul .i64 (ri (l.getD i.toNat []) 0) 65) (ri (l.getD i.toNat []) 1)).toNat [D.bool true]⟩)):=by
 obtain⟨h0,h1,h2,h3⟩:=hq;simp only at h0 h1 h2 h3;have hn:=Jm h0 h h3;refine⟨by rw [aW,wr _ (by omega) (by omega)],by rw [h2,RH],fun g=>?_,fun g=>?_⟩
 ·rw [← Bool.not_eq_true];intro w;have:=(hn.1 (wS _ w)).1;rw [g] at this;cases this
 ·have k:=wU g;have hm:=Rm (l:=l.take i.toNat) (y:=l.getD i.toNat []) ((fU _).1 h3).1 g;rw [← h2] at hm;have k1:aD .mul .i64 (ri (l.getD i.toNat []) 0) 65=ri (l.getD i.toNat []) 0 * 65:=by rw [aec,wr _ (by omega) (by omega)]
  have k2:aD .add .i64 (ri (l.getD i.toNat []) 0 * 65) (ri (l.getD i.toNat []) 1)=ri (l.getD i.toNat []) 0 * 65+ri (l.getD i.toNat []) 1:=by rw [aW,wr _ (by omega) (by omega)]
  have k3:aD .add .i64 (ri (l.getD i.toNat []) 0 * 65) 65=ri (l.getD i.toNat []) 0 * 65+65:=by rw [aW,wr _ (by omega) (by omega)]
  rw [k1,k2,k3];refine⟨k.1,k.2.1,k.2.2.1,k.2.2.2.1,by omega,by omega,by omega,by omega,fun w=>?_,fun w=>?_⟩
  ·rw [← Bool.not_eq_true];intro v;exact (hn.1 (wS _ v)).2 (hm.1 w)
  ·refine⟨by simp only;omega,by simp only;omega,?_,hn.2 ⟨g,fun v=>?_⟩⟩
   ·simp only;rw [cC l i h0 h,h2];unfold JU;rw [List.foldl_append];rfl
   ·have:=hm.2 v;unfold uN at this;rw [w] at this;cases this
theorem Xm (l:List E) (i:Int) (M:List E) (hq:caQ l ⟨i,M⟩) (h:¬i < l.length):gJ l=true:=by
 obtain⟨h0,h1,h2,h3⟩:=hq;simp only at h0 h1 h2 h3;have e:i=l.length:=by omega
 rw [e,Int.toNat_natCast,List.take_length] at h3;exact h3
noncomputable def caI (A:Ar) (l:List E) (y:XC):St:=br Tryz.f171.ntmps [(0,.sl none (.ae .pY l)),(3,.ptr 1 0),(6,.sl none (.ae .pY l)),(7,.ay (A.dN l)),(8,.ay y.i)] [(1,.row 237 (.ae (.bool .nil) y.M))] [Any]
def caR (st:St):XC:=⟨bw st 8,match ar st.heap (match fW st 3 with | .ptr n _=>n|_=>0) with|some (.row _ c)=>ZC c|_=>[]⟩
structure XI where
 i:Int
def myR (st:St):XI:=⟨bw st 3⟩
def RJ (l:List Int) (y:XI):Prop:=0≤y.i∧y.i≤l.length∧iZ (l.drop y.i.toNat)=iZ l
def orM (l:List Int) (y:XI):Nat:=l.length - y.i.toNat
def orR (st:St):XI:=⟨bw st 8⟩
noncomputable def orI (A:Ar) (l:List Int) (y:XI):St:=br Tryz.f111.ntmps [(3,.num .i64 0),(6,.sl none (.ints .i64 l)),(7,.ay (A.fT l)),(8,.ay y.i)] [] [Any]
theorem xK (l:List Int) (i:Int) (hq:RJ l ⟨i⟩) (h:i < l.length) (hl:l.length≤1000000):aD .add .i64 i 1=i+1∧(l.getD i.toNat 0=0→RJ l ⟨i+1⟩)∧(¬l.getD i.toNat 0=0→iZ l=l.getD i.toNat 0):=by
 obtain⟨h0,h1,h2⟩:=hq;simp only at h0 h1 h2;have hi:i.toNat < l.length:=by omega
 have e:l.getD i.toNat 0=l[i.toNat]:=by rw [List.getD_eq_getElem?_getD,List.getElem?_eq_getElem hi];rfl
 have e2:(i+1).toNat=i.toNat+1:=by omega
 rw [List.drop_eq_getElem_cons hi] at h2;rw [e];refine⟨by rw [aW,wr _ (by omega) (by omega)],fun g=>⟨by simp only;omega,by simp only;omega,?_⟩,fun g=>?_⟩
 ·simp only;rw [e2,← h2];rw [g];simp [iZ]
 ·rw [← h2];simp [iZ,g]
theorem Dx (l:List Int) (i:Int) (hq:RJ l ⟨i⟩) (h:¬i < l.length):iZ l=0:=by
 obtain⟨h0,h1,h2⟩:=hq;simp only at h0 h1 h2;rw [← h2,List.drop_eq_nil_of_le (by omega)];rfl
def acE (p q:List E):Bool:=decide (p.map bM=q.map bM)
structure XE where
 i:Int
structure Fs where
 LG:Int→Bool
 agO:Int→Int→Int→Bool
 afX:Int→Int→Int→Int
 ahv:Int→Int→Int→EE
 adL:Int→Int→Int→Int
 aed:List E→Int
 agX:List E→List E
 afF:List E→Bool
 aaM:List Int→Bool
 LX:Int→Int→Int
 agl:List Int→Int
 aeE:Int→Int→Int→Int→Int→Int→Int
 agG:List E→List E→Bool
 agL:List E→List E→Bool
def Fs.aa:Fs:=⟨bG,ky,jt,ofE,qM,kS,afa,fun l=>decide (l.length≤1000000),fun l=>decide (l.length≤1000000),iK,iZ,fX,acE,fun p q=>decide (p.length≤1000000∧q.length≤1000000)⟩
def PZ (F:Fs):aO:=fun xs h=>match xs,h with
 |[.one (.val (.int .i64 n))],[]=>some ⟨True,.sa (B (F.LG n)),[],[Any]⟩
 |_,_=>none
theorem Gi:au Tryz.prog 32 (PZ Fs.aa):=by
 refine aw ak.nil Tryz.func32 rfl rfl fun xs h p hp=>?_;unfold PZ at hp;split at hp
 ·rename_i n;cases hp;refine⟨av rfl,fun _ _=>?_⟩;intro b gv;generalize hF:Fs.aa=F;refine bu fun Z zq A hA L hL=>?_
  repeat' (first|(apply al zq;try dsimp only)|apply aS zq (af hL)|apply aq zq|refine aT rfl ?_|apply ai|refine ah rfl ?_|refine aR rfl ?_|exact aA|apply aB|refine aP fun _=>?_|refine aQ fun _=>?_|(constructor;cbv))
  all_goals
   clear hL zq Z;subst hF hA;simp only [Fs.aa,Ar.aa] at *
   try (first|(exact sY _ _ (by assumption))|(grind [aj,aW,wr,bG]))
 ·cases hp
def pO (F:Fs):aO:=fun xs h=>match xs,h with
 |[.one (.val (.int .i64 n))],[]=>some ⟨True,.sa (B (F.LG n)),[],[Any]⟩
 |_,_=>none
theorem fY:au Tryz.prog 23 (pO Fs.aa):=by
 refine aw ak.nil Tryz.func23 rfl rfl fun xs h p hp=>?_;unfold pO at hp;split at hp
 ·rename_i n;cases hp;refine⟨av rfl,fun _ _=>?_⟩;intro b gv;generalize hF:Fs.aa=F;refine bu fun Z zq A hA L hL=>?_
  repeat' (first|(apply al zq;try dsimp only)|apply aS zq (af hL)|apply aq zq|refine aT rfl ?_|apply ai|refine ah rfl ?_|refine aR rfl ?_|exact aA|apply aB|refine aP fun _=>?_|refine aQ fun _=>?_|(constructor;cbv))
  all_goals
   clear hL zq Z;subst hF hA;simp only [Fs.aa,Ar.aa] at *
   try (first|(exact sY _ _ (by assumption))|(grind [aj,aW,wr,bG]))
 ·cases hp
def BC (F:Fs):aO:=fun xs h=>match xs,h with
 |[.agg [.val (.int .i64 e_a),.val (.int .i64 e_b),.val (.int .i64 e_w)]],[]=>some ⟨True,.sa (I (F.afX e_a e_b e_w)),[],[Any]⟩
 |_,_=>none
theorem IL:au Tryz.prog 198 (BC Fs.aa):=by
 refine aw (ak.cons Gi ak.nil rfl) Tryz.func198 rfl rfl fun xs h p hp=>?_;unfold BC at hp;split at hp
 ·rename_i e_a e_b e_w;cases hp;refine⟨av rfl,fun _ _=>?_⟩;intro b gv;generalize hF:Fs.aa=F;refine bu fun Z zq A hA L hL=>?_
  repeat' (first|(apply al zq;try dsimp only)|apply aS zq (af hL)|apply aq zq|refine aT rfl ?_|apply ai|refine ah rfl ?_|refine aR rfl ?_|exact aA|apply aB|refine aP fun _=>?_|refine aQ fun _=>?_|(constructor;cbv))
  all_goals
   clear hL zq Z;subst hF hA;simp only [Fs.aa,Ar.aa] at *
   try (first|(exact sY _ _ (by assumption))|(grind [aj,aW,wr,jt,ky,bG]))
 ·cases hp
def Hg (F:Fs):aO:=fun xs h=>match xs,h with
 |[.agg [.val (.int .i64 e_a),.val (.int .i64 e_b),.val (.int .i64 _)],.one (.val (.int .i64 n))],[]=>some ⟨True,.sa (I (F.adL e_a e_b n)),[],[Any,Any]⟩
 |_,_=>none
theorem My:au Tryz.prog 219 (Hg Fs.aa):=by
 refine aw ak.nil Tryz.func219 rfl rfl fun xs h p hp=>?_;unfold Hg at hp;split at hp
 ·rename_i e_a e_b e_w n;cases hp;refine⟨av rfl,fun _ _=>?_⟩;intro b gv;generalize hF:Fs.aa=F;refine bu fun Z zq A hA L hL=>?_
  repeat' (first|(apply al zq;try dsimp only)|apply aS zq (af hL)|apply aq zq|refine aT rfl ?_|apply ai|refine ah rfl ?_|refine aR rfl ?_|exact aA|apply aB|refine aP fun _=>?_|refine aQ fun _=>?_|(constructor;cbv))
  all_goals
   clear hL zq Z;subst hF hA;simp only [Fs.aa,Ar.aa] at *
   try (first|(exact sY _ _ (by assumption))|(grind [aj,aW,wr,qM]))
 ·cases hp
def rG (F:Fs):aO:=fun xs h=>match xs,h with
 |[.one (.sl none (.ae (.int .i64 (.int .i64 (.int .i64 .nil))) l))],[]=>some ⟨F.afF l=true,.sa (I (F.aed l)),[],[Any]⟩
 |_,_=>none
theorem yp:au Tryz.prog 171 (rG Fs.aa):=by
 have hfs:=(ak.cons IL ak.nil rfl);refine aw hfs Tryz.func171 rfl rfl fun xs h p hp=>?_;unfold rG at hp;split at hp
 ·rename_i l;cases hp;refine⟨av rfl,fun hC _=>?_⟩;dsimp only at hC;intro b gv;have hk:l.length≤1000000:=of_decide_eq_true hC;generalize hF:Fs.aa=F at hC hfs ⊢;refine bu fun Z zq A hA L hL=>?_
  repeat' (first|(apply al zq;try dsimp only)|apply aS zq (af hL)|apply aq zq|refine aT rfl ?_|apply ai|refine ah rfl ?_|refine aR rfl ?_|exact aA|apply aB|refine aP fun _=>?_|refine aQ fun _=>?_|(constructor;cbv))
  subst hL;refine aJ (aN hfs) (caQ l) (caI A l) (caM l) caR ⟨0,A.Dq 4225 [D.bool false]⟩ ?_ ?_ ?_
  ·exact (by subst hA;exact Se l)
  ·cbv
   repeat' (first|exact trivial|exact rfl|refine And.intro ?_ ?_)
  rintro⟨i,M⟩ hq O hO;have hst:=fun h=>Rl l i M hq h hk;have hen:=Xm l i M hq;have q0:=hq.1;have q1:=hq.2.1;dsimp only at q0 q1;subst hA;generalize hA:Ar.aa=A;generalize hL:Lp _ _ _=L;refine az zq ?_
  repeat' (first|(apply al zq;try dsimp only)|apply aS zq (af hL)|apply aq zq|refine aT rfl ?_|apply ai|refine ah rfl ?_|refine aR rfl ?_|exact aA|apply aB|refine aP fun _=>?_|refine aQ fun _=>?_|(constructor;cbv))
  all_goals (clear hL hfs zq Z hq;subst hA hF hO;simp only [Fs.aa,Ar.aa,o65] at * <;> grind [aj,caM,kS,qe,jt])
 ·cases hp
def Cw (_:Fs):aO:=fun xs h=>match xs,h with
 |[.one (.val (.int .i64 _))],[]=>some ⟨True,.sa (B false),[],[Any]⟩
 |_,_=>none
theorem zc:au Tryz.prog 131 (Cw Fs.aa):=by
 refine aw ak.nil Tryz.func131 rfl rfl fun xs h p hp=>?_;unfold Cw at hp;split at hp
 ·rename_i a;cases hp;refine⟨av rfl,fun _ _=>?_⟩;intro b gv;generalize hF:Fs.aa=F;refine bu fun Z zq A hA L hL=>?_
  repeat' (first|(apply al zq;try dsimp only)|apply aS zq (af hL)|apply aq zq|refine aT rfl ?_|apply ai|refine ah rfl ?_|refine aR rfl ?_|exact aA|apply aB|refine aP fun _=>?_|refine aQ fun _=>?_|(constructor;cbv))
  all_goals
   clear hL zq Z;subst hF hA;simp only [Ar.aa] at *
   try (first|(simp [aj];done)|(exact sY _ _ (by assumption))|(grind [aj,aW,wr]))
 ·cases hp
def tJ (F:Fs):aO:=fun xs h=>match xs,h with
 |[.one (.val (.int .i64 a)),.one (.val (.int .i64 d))],[]=>some ⟨True,.sa (I (F.LX a d)),[],[Any,Any]⟩
 |_,_=>none
theorem pH:au Tryz.prog 104 (tJ Fs.aa):=by
 refine aw (ak.cons zc ak.nil rfl) Tryz.func104 rfl rfl fun xs h p hp=>?_;unfold tJ at hp;split at hp
 ·rename_i a d;cases hp;refine⟨av rfl,fun _ _=>?_⟩;intro b gv;generalize hF:Fs.aa=F;refine bu fun Z zq A hA L hL=>?_
  repeat' (first|(apply al zq;try dsimp only)|apply aS zq (af hL)|apply aq zq|refine aT rfl ?_|apply ai|refine ah rfl ?_|refine aR rfl ?_|exact aA|apply aB|refine aP fun _=>?_|refine aQ fun _=>?_|(constructor;cbv))
  all_goals
   clear hL zq Z;subst hF hA;simp only [Fs.aa,Ar.aa] at *
   try (first|(exact sY _ _ (by assumption))|(grind [aj,aW,wr,iK]))
 ·cases hp
def Br (F:Fs):aO:=fun xs h=>match xs,h with
 |[.one (.sl none (.ints .i64 l))],[]=>some ⟨F.aaM l=true,.sa (I (F.agl l)),[],[Any]⟩
 |_,_=>none
theorem yw:au Tryz.prog 111 (Br Fs.aa):=by
 have hfs:=ak.nil;refine aw hfs Tryz.func111 rfl rfl fun xs h p hp=>?_;unfold Br at hp;split at hp
 ·rename_i l;cases hp;refine⟨av rfl,fun hC _=>?_⟩;dsimp only at hC;intro b gv;have hk:l.length≤1000000:=of_decide_eq_true hC;generalize hF:Fs.aa=F at hC hfs ⊢;refine bu fun Z zq A hA L hL=>?_
  repeat' (first|(apply al zq;try dsimp only)|apply aS zq (af hL)|apply aq zq|refine aT rfl ?_|apply ai|refine ah rfl ?_|refine aR rfl ?_|exact aA|apply aB|refine aP fun _=>?_|refine aQ fun _=>?_|(constructor;cbv))
  subst hL;refine aJ (aN hfs) (RJ l) (orI A l) (orM l) orR ⟨0⟩ ?_ ?_ ?_
  ·exact⟨Int.le_refl 0,Int.natCast_nonneg _,rfl⟩
  ·cbv
   repeat' (first|exact trivial|exact rfl|refine And.intro ?_ ?_)
  rintro⟨i⟩ hq O hO;have hst:=fun h=>xK l i hq h hk;have hen:=Dx l i hq;have q0:=hq.1;have q1:=hq.2.1;dsimp only at q0 q1;subst hA;generalize hA:Ar.aa=A;generalize hL:Lp _ _ _=L;refine az zq ?_
  repeat' (first|(apply al zq;try dsimp only)|apply aS zq (af hL)|apply aq zq|refine aT rfl ?_|apply ai|refine ah rfl ?_|refine aR rfl ?_|exact aA|apply aB|refine aP fun _=>?_|refine aQ fun _=>?_|(constructor;cbv))
  all_goals (clear hL hfs zq Z hq;subst hA hF hO;simp only [Fs.aa,Ar.aa] at * <;> grind [aj,orM])
 ·cases hp
def xH (F:Fs):aO:=fun xs h=>match xs,h with
 |[.agg [.val (.int .i64 x_a),.val (.int .i64 x_b),.val (.int .i64 x_w)],.agg [.val (.int .i64 y_a),.val (.int .i64 y_b),.val (.int .i64 y_w)]],[]=>some ⟨True,.sa (I (F.aeE x_a x_b x_w y_a y_b y_w)),[],[Any,Any]⟩
 |_,_=>none
theorem ma:au Tryz.prog 175 (xH Fs.aa):=by
 refine aw (ak.cons pH (ak.cons yw ak.nil rfl) rfl) Tryz.func175 rfl rfl fun xs h p hp=>?_;unfold xH at hp;split at hp
 ·rename_i x_a x_b x_w y_a y_b y_w;cases hp;refine⟨av rfl,fun _ _=>?_⟩;intro b gv;have h0:=Bl x_a x_b x_w y_a y_b y_w;generalize hF:Fs.aa=F;refine bu fun Z zq A hA L hL=>?_
  repeat' (first|(apply al zq;try dsimp only)|apply aS zq (af hL)|apply aq zq|refine aT rfl ?_|apply ai|refine ah rfl ?_|refine aR rfl ?_|exact aA|apply aB|refine aP fun _=>?_|refine aQ fun _=>?_|(constructor;cbv))
  all_goals
   clear hL zq Z;subst hF hA;simp only [Fs.aa,Ar.aa] at *
   try (first|(exact sY _ _ (by assumption))|(grind [aj,aW,wr,fX]))
 ·cases hp
end Go.Proofs.YtelhldgdnlppfaaGreat.EgR
