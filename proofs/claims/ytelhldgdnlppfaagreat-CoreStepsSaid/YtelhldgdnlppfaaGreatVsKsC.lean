/-
  what a core's step is made of: new memory,words,U,vows. No condition but size.
-/
import Derived.Test.YtelhldgdnlppfaaGreatVsKsS
import Derived.Test.YtelhldgdnlppfaaGreatVsRyOp
import Derived.Test.YtelhldgdnlppfaaGreatVsW16
set_option maxHeartbeats 4000000
set_option cbv.maxSteps 4000000
set_option maxRecDepth 100000
namespace Go.Proofs.YtelhldgdnlppfaaGreat.KsC
open Go Ry ViR VoR KsS Cmp
structure XI where
 i:Int
def Qt (k:Nat) (st:St):XI:=⟨bw st k⟩
def mF (n:Nat) (y:XI):Nat:=n - y.i.toNat
structure XQ where
 i:Int
 q:List E
def mJ (st:St) (n j:Nat):List E :=
 match ar st.heap n with
 |some (.cells _ cs)=>(match cs[j]? with
  |some (.sl _ (.ae _ l))=>l
  |_=>[])
 |_=>[]
def KO (k n:Nat) (st:St):XQ:=⟨bw st k,mJ st n 14⟩
def itQ (l:List E) (p:Int) (y:XI):Prop:=0≤y.i∧y.i≤l.length∧∀ k:Nat,k < y.i→¬ri (l.getD k []) 0=p
theorem Iy (l:List E) (p:Int):itQ l p ⟨0⟩:=⟨Int.le_refl 0,Int.natCast_nonneg _,fun k h=>by simp only at h;omega⟩
theorem getD_in {l:List E} {k:Nat} (h:k < l.length):l.getD k []=l[k]:=by rw [List.getD_eq_getElem?_getD,List.getElem?_eq_getElem h];rfl
theorem Gb {l:List E} (hl:l.length≤1000000) {p i:Int} (hq:itQ l p ⟨i⟩) (h:i < l.length):aD .add .i64 i 1=i+1∧mF l.length ⟨i+1⟩ < mF l.length ⟨i⟩∧(¬ri (l.getD i.toNat []) 0=p→itQ l p ⟨i+1⟩)∧(ri (l.getD i.toNat []) 0=p→bA l p=i):=by
 obtain⟨h0,h1,h2⟩:=hq;simp only at h0 h1 h2;have hi:i.toNat < l.length:=by omega
 refine⟨by rw [aW,wr _ (by omega) (by omega)],by simp only [mF];omega,fun g=>⟨by simp only;omega,by simp only;omega,fun k hk=>?_⟩,fun g=>?_⟩
 ·simp only at hk
  by_cases c:k=i.toNat
  ·rw [c];exact g
  ·exact h2 k (by omega)
 ·have hg:=getD_in hi;have e:l.findIdx (fun y=>decide (ri y 0=p))=i.toNat:=(List.findIdx_eq hi).2 ⟨by rw [← hg];exact decide_eq_true g,fun j hj=>by
   have:=h2 j (by omega);rw [getD_in (show j < l.length by omega)] at this;exact decide_eq_false this⟩
  unfold bA;rw [e,if_pos (List.any_eq_true.2 ⟨l[i.toNat],List.getElem_mem hi,by rw [← hg];exact decide_eq_true g⟩)];omega
theorem Pm {l:List E} {p i:Int} (hq:itQ l p ⟨i⟩) (h:¬i < l.length):bA l p = -1:=by
 obtain⟨h0,h1,h2⟩:=hq;simp only at h0 h1 h2;unfold bA;rw [if_neg];intro hc;obtain⟨y,hy,hp⟩:=List.any_eq_true.1 hc;obtain⟨k,hk,rfl⟩:=List.getElem_of_mem hy;have:=h2 k (by omega);rw [getD_in hk] at this;exact this (of_decide_eq_true hp)
theorem jd (l:List E) (p:Int) : -1≤bA l p∧bA l p < l.length:=by
 unfold bA;split
 ·rename_i h;have:l.findIdx (fun y=>decide (ri y 0=p)) < l.length:=by
   rw [List.findIdx_lt_length];obtain⟨y,hy,hp⟩:=List.any_eq_true.1 h;exact⟨y,hy,hp⟩
  omega
 ·omega
def QA (l:List E):Int:=if qo l=true then (l.findIdx fun y=>!decide (ri y 3=0):Nat) else -1
def WV (l:List E) (y:XI):Prop:=0≤y.i∧y.i≤l.length∧∀ k:Nat,k < y.i→ri (l.getD k []) 3=0
theorem xD (l:List E):WV l ⟨0⟩:=⟨Int.le_refl 0,Int.natCast_nonneg _,fun k h=>by simp only at h;omega⟩
theorem zB {l:List E} (hl:l.length≤1000000) {i:Int} (hq:WV l ⟨i⟩) (h:i < l.length):aD .add .i64 i 1=i+1∧mF l.length ⟨i+1⟩ < mF l.length ⟨i⟩∧(ri (l.getD i.toNat []) 3=0→WV l ⟨i+1⟩)∧(¬ri (l.getD i.toNat []) 3=0→QA l=i):=by
 obtain⟨h0,h1,h2⟩:=hq;simp only at h0 h1 h2;have hi:i.toNat < l.length:=by omega
 refine⟨by rw [aW,wr _ (by omega) (by omega)],by simp only [mF];omega,fun g=>⟨by simp only;omega,by simp only;omega,fun k hk=>?_⟩,fun g=>?_⟩
 ·simp only at hk
  by_cases c:k=i.toNat
  ·rw [c];exact g
  ·exact h2 k (by omega)
 ·have hg:=getD_in hi;have e:l.findIdx (fun y=>!decide (ri y 3=0))=i.toNat:=(List.findIdx_eq hi).2 ⟨by rw [← hg,decide_eq_false g];rfl,fun j hj=>by
   have:=h2 j (by omega);rw [getD_in (show j < l.length by omega)] at this;rw [decide_eq_true this];rfl⟩
  unfold QA qo;rw [e,if_pos (List.any_eq_true.2 ⟨l[i.toNat],List.getElem_mem hi,by rw [← hg,decide_eq_false g];rfl⟩)];omega
theorem EM {l:List E} {i:Int} (hq:WV l ⟨i⟩) (h:¬i < l.length):QA l = -1:=by
 obtain⟨h0,h1,h2⟩:=hq;simp only at h0 h1 h2;unfold QA qo;rw [if_neg];intro hc;obtain⟨y,hy,hp⟩:=List.any_eq_true.1 hc;obtain⟨k,hk,rfl⟩:=List.getElem_of_mem hy;have:=h2 k (by omega);rw [getD_in hk] at this;rw [decide_eq_true this] at hp;cases hp
theorem Ol (l:List E):(qo l=true→¬QA l < 0)∧(qo l=false→QA l < 0):=by
 unfold QA;constructor
 ·intro h;rw [if_pos h];omega
 ·intro h;rw [if_neg (by rw [h];decide)];omega
structure XL where
 i:Int
 o:List Int
def slL (st:St) (k:Nat):List Int:=match fW st k with | .sl _ (.ints _ l)=>l|_=>[]
def xlR (k j:Nat) (st:St):XL:=⟨bw st k,slL st j⟩
def Tx (l:List E) (p:Int) (y:XL):Prop:=0≤y.i∧y.i≤l.length∧y.o=bJ (l.take y.i.toNat) p
def kdM (l:List E) (y:XL):Nat:=l.length - y.i.toNat
theorem yE (l:List E) (p:Int):Tx l p ⟨0,[]⟩:=⟨Int.le_refl 0,Int.natCast_nonneg _,rfl⟩
theorem lO (l:List E) {i:Int} (h0:0≤i) (h:i < l.length):l.take (i+1).toNat=l.take i.toNat ++ [l.getD i.toNat []]:=by
 have hi:i.toNat < l.length:=by omega
 rw [show (i+1).toNat=i.toNat+1 by omega,List.take_add_one,List.getElem?_eq_getElem hi,getD_in hi];rfl
theorem zu {l:List E} (hl:l.length≤1000000) {p i:Int} {o:List Int} (hq:Tx l p ⟨i,o⟩) (h:i < l.length):aD .add .i64 i 1=i+1∧(∀ o',kdM l ⟨i+1,o'⟩ < kdM l ⟨i,o⟩)∧o.length≤1000000 ∧
  (rb (l.getD i.toNat []) 5=true→¬ri (l.getD i.toNat []) 0=p→Tx l p ⟨i+1,o ++ [ri (l.getD i.toNat []) 0]⟩)∧(rb (l.getD i.toNat []) 5=true→ri (l.getD i.toNat []) 0=p→Tx l p ⟨i+1,o⟩)∧(rb (l.getD i.toNat []) 5=false→Tx l p ⟨i+1,o⟩):=by
 obtain⟨h0,h1,h2⟩:=hq;simp only at h0 h1 h2;have ht:=lO l h0 h;have hs:∀ y,bJ (l.take i.toNat ++ [y]) p=bJ (l.take i.toNat) p ++ (if vW p y=true then [ri y 0] else []):=fun y=>by
  unfold bJ;rw [List.filter_append,List.map_append]
  by_cases g:vW p y=true
  ·rw [if_pos g,List.filter_cons_of_pos g];rfl
  ·rw [if_neg g,List.filter_cons_of_neg g];rfl
 have hlen:o.length≤1000000:=by
  rw [h2];unfold bJ;rw [List.length_map];have h3:=List.length_filter_le (vW p) (l.take i.toNat);rw [List.length_take] at h3;omega
 refine⟨by rw [aW,wr _ (by omega) (by omega)],fun o'=>by simp only [kdM];omega,hlen,fun g1 g2=>⟨by simp only;omega,by simp only;omega,?_⟩,fun g1 g2=>⟨by simp only;omega,by simp only;omega,?_⟩,fun g=>⟨by simp only;omega,by simp only;omega,?_⟩⟩
 ·simp only;rw [ht,hs,if_pos (by unfold vW;rw [g1,decide_eq_false g2];rfl),h2]
 ·simp only;rw [ht,hs,if_neg (by unfold vW;rw [g1,decide_eq_true g2];decide),h2,List.append_nil]
 ·simp only;rw [ht,hs,if_neg (by unfold vW;rw [g];simp),h2,List.append_nil]
theorem Dt {l:List E} {p i:Int} {o:List Int} (hq:Tx l p ⟨i,o⟩) (h:¬i < l.length):o=bJ l p:=by
 obtain⟨h0,h1,h2⟩:=hq;simp only at h0 h1 h2;rw [h2,show i.toNat=l.length by omega,List.take_length]
def Uh (q0:List E) (p:Int) (w:List Int) (y:XQ):Prop:=0≤y.i∧y.i≤w.length∧y.q=q0 ++ (w.take y.i.toNat).map fun k=>cB p (xc k)
def IK (w:List Int) (y:XQ):Nat:=w.length - y.i.toNat
theorem oI (q0:List E) (p:Int) (w:List Int):Uh q0 p w ⟨0,q0⟩:=⟨Int.le_refl 0,Int.natCast_nonneg _,by simp⟩
theorem la (l:List Int) {i:Int} (h0:0≤i) (h:i < l.length):l.take (i+1).toNat=l.take i.toNat ++ [l.getD i.toNat 0]:=by
 have hi:i.toNat < l.length:=by omega
 rw [show (i+1).toNat=i.toNat+1 by omega,List.take_add_one,List.getElem?_eq_getElem hi,List.getD_eq_getElem?_getD,List.getElem?_eq_getElem hi];rfl
theorem oY {q0:List E} {p:Int} {w:List Int} (hw:w.length≤1000) (hq0:q0.length≤99000) {i:Int} {q:List E} (hq:Uh q0 p w ⟨i,q⟩) (h:i < w.length):aD .add .i64 i 1=i+1∧(∀ q',IK w ⟨i+1,q'⟩ < IK w ⟨i,q⟩)∧q.length≤100000∧Uh q0 p w ⟨i+1,q ++ [cB p (xc (w.getD i.toNat 0))]⟩:=by
 obtain⟨h0,h1,h2⟩:=hq;simp only at h0 h1 h2;refine⟨by rw [aW,wr _ (by omega) (by omega)],fun o'=>by simp only [IK];omega,?_,⟨by simp only;omega,by simp only;omega,?_⟩⟩
 ·rw [h2,List.length_append,List.length_map,List.length_take];omega
 ·simp only;rw [la w h0 h,List.map_append,← List.append_assoc,← h2];rfl
theorem tS {q0:List E} {p:Int} {w:List Int} {i:Int} {q:List E} (hq:Uh q0 p w ⟨i,q⟩) (h:¬i < w.length):q=q0 ++ w.map fun k=>cB p (xc k):=by
 obtain⟨h0,h1,h2⟩:=hq;simp only at h0 h1 h2;rw [h2,show i.toNat=w.length by omega,List.take_length]
theorem kQ (m:Int) (t b:Bool) (o k:Int):(ki m t b o).w.length≤1∧(iN m t b o).w.length≤1∧(gm m t b o).w.length≤1∧(mH m t b o k).w.length≤1:=by
 refine⟨?_,?_,?_,?_⟩
 ·unfold ki same v0
  repeat' split
  all_goals simp
 ·unfold iN same v0
  repeat' split
  all_goals simp
 ·unfold gm same v0
  repeat' split
  all_goals simp
 ·unfold mH Aj An same v0
  repeat' split
  all_goals simp
theorem HY (m:Int) (t b:Bool) (o k:Int):(¬(ki m t b o).e=0→(ki m t b o).w=[]∧(ki m t b o).tb=false∧(ki m t b o).tp=false∧(ki m t b o).tf=false)∧(¬(iN m t b o).e=0→(iN m t b o).w=[]∧(iN m t b o).tb=false∧(iN m t b o).tp=false∧(iN m t b o).tf=false)∧(¬(gm m t b o).e=0→(gm m t b o).w=[]∧(gm m t b o).tb=false∧(gm m t b o).tp=false∧(gm m t b o).tf=false)∧(¬(mH m t b o k).e=0→(mH m t b o k).w=[]∧(mH m t b o k).tb=false∧(mH m t b o k).tp=false∧(mH m t b o k).tf=false):=by
 refine⟨?_,?_,?_,?_⟩
 ·unfold ki same v0
  repeat' split
  all_goals simp
 ·unfold iN same v0
  repeat' split
  all_goals simp
 ·unfold gm same v0
  repeat' split
  all_goals simp
 ·unfold mH Aj An same v0
  repeat' split
  all_goals simp
def pZ (n:List Int) (l:List E):Bool:=decide (n.length≤1000∧l.length≤1000)
def qa (d:CS):Bool:=decide (d.U.length≤1000∧d.q.length≤100000)
def UO (e r e' r' : Int):Int:=if e=e' then (if r=r' then 0 else if r < r' then -1 else 1) else if e < e' then -1 else 1
structure Kc where
 acF:List Int→Bool
 MA:List E→Bool
 TJ:List Int→List E→Bool
 Es:CS→Bool
 rC:CS→Int→WK→CS
 EB:List E→Int→Int
 aaU:List E→Int
 aaZ:List E→Bool
 rD:List E→Int→List Int
 Mz:CS→Int→VT→CS
 Jr:CS→Int→VT
 KD:CS→Int→VT
 IE:CS→Int→VT
 Kh:Int→CS→Int→VT
 OQ:CS→Int→Bool
 afy:Int→Int→Bool
 afA:Int→Bool
 adT:Int→Int→Int→Int
 aeB:Int→Int→Int→Int
 adC:Int→Int→Int→Int
 v:Fs
def Kc.aa:Kc:=⟨fun n=>decide (n.length≤1000),fun n=>decide (n.length≤1000),pZ,qa,jz,bA,QA,qo,bJ,aE,fun d a=>pE (tie d a),fun d a=>zg (tie d a),fun d a=>kq (tie d a),fun k d a=>eT k (tie d a),fun d a=>decide (0≤a∧a < d.U.length∧d.U.length≤1000∧d.q.length≤100000),fun a b=>decide (a=b),fun a=>!decide (a=0),zy,fun t l i=>if zy t l i=0 then t+1 else 0,fun t l i=>if zy t l i=0 then i else 0,Fs.aa⟩
noncomputable def Hf (F:Kc):aO:=fun xs h=>match xs,h with
 |[.one (.val (.int .i64 t)),.one (.val (.int .i64 l)),.one (.val (.int .i64 i))],[]=>some ⟨True,.cN [.agg [.ay (F.aeB t l i),.ay (F.adC t l i)],I (F.adT t l i)],[],[Any,Any,Any]⟩
 |_,_=>none
theorem Mi:au Tryz.prog 57 (Hf Kc.aa):=by
 have hfs:=(ak.cons ia ak.nil rfl);refine aw hfs Tryz.func57 rfl rfl fun xs h p hp=>?_;unfold Hf at hp;split at hp
 ·rename_i t l i;cases hp;refine⟨av rfl,fun _ _=>?_⟩;intro b gv;have h0:zy t l i=0→aD .add .i64 t 1=t+1:=fun h=>by
   unfold zy at h;split at h
   ·split at h
    ·cases h
    ·rw [aW,wr _ (by omega) (by omega)]
   ·cases h
  generalize hF:Kc.aa=F,hG0:VoR.Fs.aa=G0,hG1:ViR.Vs.aa=G1 at hfs ⊢;refine bu fun Z zq A hA L hL=>?_
  repeat' (first|(apply al zq;try dsimp only)|apply aS zq (af hL)|apply aq zq|refine aT rfl ?_|apply ai|refine ah rfl ?_|refine aR rfl ?_|exact aA|apply aB|refine aP fun _=>?_|refine aQ fun _=>?_|(constructor;cbv))
  all_goals
   clear hL zq Z
   try clear hfs
   subst hA hF hG0 hG1;simp only [Kc.aa,VoR.Fs.aa,ViR.Vs.aa,Ar.aa] at *
   try (grind [aj,zy])
 ·cases hp
noncomputable def Wj (F:Kc):aO:=fun xs h=>match xs,h with
 |[.one (.sl none (.ints .i64 l))],[]=>some ⟨F.acF l=true,.sa (.one (.sl none (.ints .i64 l))),[],[Any]⟩
 |_,_=>none
theorem PU:au Tryz.prog 63 (Wj Kc.aa):=by
 have hfs:=ak.nil;refine aw hfs Tryz.func63 rfl rfl fun xs h p hp=>?_;unfold Wj at hp;split at hp
 ·rename_i l;cases hp;refine⟨av rfl,fun hC _=>?_⟩;dsimp only at hC;intro b gv;have hk:l.length≤1000:=of_decide_eq_true hC;generalize hF:Kc.aa=F,hG0:VoR.Fs.aa=G0,hG1:ViR.Vs.aa=G1 at hC hfs ⊢;refine bu fun Z zq A hA L hL=>?_
  repeat' (first|(apply al zq;try dsimp only)|apply aS zq (af hL)|apply aq zq|refine aT rfl ?_|apply ai|refine ah rfl ?_|refine aR rfl ?_|exact aA|apply aB|refine aP fun _=>?_|refine aQ fun _=>?_|(constructor;cbv))
  all_goals
   clear hL zq Z
   try clear hfs
   subst hA hF hG0 hG1;simp only [Kc.aa,VoR.Fs.aa,Ar.aa,List.nil_append] at *
   try (grind [aj])
 ·cases hp
noncomputable def WJ (F:Kc):aO:=fun xs h=>match xs,h with
 |[.one (.sl none (.ints .i64 l))],[]=>some ⟨F.acF l=true,.sa (.one (.own 0)),[(0,.row 3 (.ints .i64 l))],[Any]⟩
 |_,_=>none
theorem ZU:au Tryz.prog 63 (WJ Kc.aa):=by
 have hfs:=(ak.own (u:=2002) ak.nil);refine aw hfs Tryz.func63 rfl rfl fun xs h p hp=>?_;unfold WJ at hp;split at hp
 ·rename_i l;cases hp;refine⟨av rfl,fun hC _=>?_⟩;dsimp only at hC;intro b gv;have hk:l.length≤1000:=of_decide_eq_true hC;generalize hF:Kc.aa=F,hG0:VoR.Fs.aa=G0,hG1:ViR.Vs.aa=G1 at hC hfs ⊢;refine bu fun Z zq A hA L hL=>?_
  repeat' (first|(apply al zq;try dsimp only)|apply aS zq (af hL)|apply aq zq|refine aT rfl ?_|apply ai|refine ah rfl ?_|refine aR rfl ?_|exact aA|apply aB|refine aP fun _=>?_|refine aQ fun _=>?_|(constructor;cbv))
  all_goals
   clear hL zq Z
   try clear hfs
   subst hA hF hG0 hG1;simp only [Kc.aa,VoR.Fs.aa,Ar.aa,List.nil_append] at *
   try (grind [aj])
 ·cases hp
noncomputable def WL (F:Kc):aO:=fun xs h=>match xs,h with
 |[.one (.sl none (.ae (.int .i64 (.int .i64 (.int .i64 (.int .i64 (.bool .nil))))) l))],[]=>some ⟨F.MA l=true,.sa (.one (.sl none (.ae .bg l))),[],[Any]⟩
 |_,_=>none
theorem Zu:au Tryz.prog 103 (WL Kc.aa):=by
 have hfs:=ak.nil;refine aw hfs Tryz.func103 rfl rfl fun xs h p hp=>?_;unfold WL at hp;split at hp
 ·rename_i l;cases hp;refine⟨av rfl,fun hC _=>?_⟩;dsimp only at hC;intro b gv;have hk:l.length≤1000:=of_decide_eq_true hC;generalize hF:Kc.aa=F,hG0:VoR.Fs.aa=G0,hG1:ViR.Vs.aa=G1 at hC hfs ⊢;refine bu fun Z zq A hA L hL=>?_
  repeat' (first|(apply al zq;try dsimp only)|apply aS zq (af hL)|apply aq zq|refine aT rfl ?_|apply ai|refine ah rfl ?_|refine aR rfl ?_|exact aA|apply aB|refine aP fun _=>?_|refine aQ fun _=>?_|(constructor;cbv))
  all_goals
   clear hL zq Z
   try clear hfs
   subst hA hF hG0 hG1;simp only [Kc.aa,VoR.Fs.aa,Ar.aa,List.nil_append] at *
   try (grind [aj])
 ·cases hp
noncomputable def Wz (F:Kc):aO:=fun xs h=>match xs,h with
 |[.one (.sl none (.ae (.int .i64 (.int .i64 (.int .i64 (.int .i64 (.bool (.bool (.int .i64 .nil))))))) l))],[]=>some ⟨F.MA l=true,.sa (.one (.own 0)),[(0,.row 58 (.ae .eC l))],[Any]⟩
 |_,_=>none
theorem Ot:au Tryz.prog 62 (Wz Kc.aa):=by
 have hfs:=(ak.own (u:=2002) ak.nil);refine aw hfs Tryz.func62 rfl rfl fun xs h p hp=>?_;unfold Wz at hp;split at hp
 ·rename_i l;cases hp;refine⟨av rfl,fun hC _=>?_⟩;dsimp only at hC;intro b gv;have hk:l.length≤1000:=of_decide_eq_true hC;generalize hF:Kc.aa=F,hG0:VoR.Fs.aa=G0,hG1:ViR.Vs.aa=G1 at hC hfs ⊢;refine bu fun Z zq A hA L hL=>?_
  repeat' (first|(apply al zq;try dsimp only)|apply aS zq (af hL)|apply aq zq|refine aT rfl ?_|apply ai|refine ah rfl ?_|refine aR rfl ?_|exact aA|apply aB|refine aP fun _=>?_|refine aQ fun _=>?_|(constructor;cbv))
  all_goals
   clear hL zq Z
   try clear hfs
   subst hA hF hG0 hG1;simp only [Kc.aa,VoR.Fs.aa,Ar.aa,List.nil_append] at *
   try (grind [aj])
 ·cases hp
noncomputable def aba (F:Kc):aO:=fun xs h=>match xs,h with
 |[.agg [.sl none (.ints .i64 v_n),.sl none (.ae (.int .i64 (.int .i64 (.int .i64 (.int .i64 (.bool .nil))))) v_l)]],[]=>some ⟨F.TJ v_n v_l=true,.sa (.agg [.sl none (.ints .i64 v_n),.sl none (.ae .bg v_l)]),[],[Any]⟩
 |_,_=>none
theorem Ft:au Tryz.prog 64 (aba Kc.aa):=by
 have hfs:=(ak.cons PU (ak.cons Zu ak.nil rfl) rfl);refine aw hfs Tryz.func64 rfl rfl fun xs h p hp=>?_;unfold aba at hp;split at hp
 ·rename_i v_n v_l;cases hp;refine⟨av rfl,fun hC _=>?_⟩;dsimp only at hC;intro b gv;have hk:v_n.length≤1000∧v_l.length≤1000:=of_decide_eq_true hC;generalize hF:Kc.aa=F,hG0:VoR.Fs.aa=G0,hG1:ViR.Vs.aa=G1 at hC hfs ⊢;refine bu fun Z zq A hA L hL=>?_
  repeat' (first|(apply al zq;try dsimp only)|apply aS zq (af hL)|apply aq zq|refine aT rfl ?_|apply ai|refine ah rfl ?_|refine aR rfl ?_|exact aA|apply aB|refine aP fun _=>?_|refine aQ fun _=>?_|(constructor;cbv))
  all_goals
   clear hL zq Z
   try clear hfs
   subst hA hF hG0 hG1;simp only [Kc.aa,VoR.Fs.aa] at *
   try (grind [aj])
 ·cases hp
noncomputable def ack (F:Kc):aO:=fun xs h=>match xs,h with
 |[.agg [.val (.int .i64 w_k),.val (.int .i64 gY),.val (.int .i64 w_r),.sl none (.ints .i64 w_n),.sl none (.ae (.int .i64 (.int .i64 (.int .i64 (.int .i64 (.bool .nil))))) w_l),.val (.int .i64 w_ck),.val (.int .i64 w_ca),.val (.int .i64 w_cb),.val (.int .i64 w_cs)]],[]=>some ⟨F.TJ w_n w_l=true,.sa (.agg [.ay w_k,.ay gY,.ay w_r,.sl none (.ints .i64 w_n),.sl none (.ae .bg w_l),.ay w_ck,.ay w_ca,.ay w_cb,.ay w_cs]),[],[Any]⟩
 |_,_=>none
theorem Vh:au Tryz.prog 92 (ack Kc.aa):=by
 have hfs:=(ak.cons Ft ak.nil rfl);refine aw hfs Tryz.func92 rfl rfl fun xs h p hp=>?_;unfold ack at hp;split at hp
 ·rename_i w_k gY w_r w_n w_l w_ck w_ca w_cb w_cs;cases hp;refine⟨av rfl,fun hC _=>?_⟩;dsimp only at hC;intro b gv;have hk:w_n.length≤1000∧w_l.length≤1000:=of_decide_eq_true hC;generalize hF:Kc.aa=F,hG0:VoR.Fs.aa=G0,hG1:ViR.Vs.aa=G1 at hC hfs ⊢;refine bu fun Z zq A hA L hL=>?_
  repeat' (first|(apply al zq;try dsimp only)|apply aS zq (af hL)|apply aq zq|refine aT rfl ?_|apply ai|refine ah rfl ?_|refine aR rfl ?_|exact aA|apply aB|refine aP fun _=>?_|refine aQ fun _=>?_|(constructor;cbv))
  all_goals
   clear hL zq Z
   try clear hfs
   subst hA hF hG0 hG1;simp only [Kc.aa,VoR.Fs.aa] at *
   try (grind [aj])
 ·cases hp
noncomputable def rC (F:Kc):aO:=fun xs h=>match xs with
 |[.one (.ptr 0 0),.one (.val (.int .i64 to)),.agg [.val (.int .i64 w_k),.val (.int .i64 gY),.val (.int .i64 w_r),.sl none (.ints .i64 w_n),.sl none (.ae (.int .i64 (.int .i64 (.int .i64 (.int .i64 (.bool .nil))))) w_l),.val (.int .i64 w_ck),.val (.int .i64 w_ca),.val (.int .i64 w_cb),.val (.int .i64 w_cs)]]=>(match wg h with
  |some s=>some ⟨F.Es s=true∧F.TJ w_n w_l=true,.cN [],(vK (F.rC s to ⟨w_k,gY,w_r,w_n,w_l,w_ck,w_ca,w_cb,w_cs⟩)),[.one (.ptr 0 0),Any,Any,.one (.own 1)]⟩
  |none=>none)
 |_=>none
theorem hN:au Tryz.prog 96 (rC Kc.aa):=by
 have hfs:=(ak.cons Vh ak.nil rfl);refine aw hfs Tryz.func96 rfl rfl fun xs h p hp=>?_;unfold rC at hp;split at hp
 ·rename_i to w_k gY w_r w_n w_l w_ck w_ca w_cb w_cs;split at hp
  ·rename_i s e0;cases hp;have g0:=da e0;subst g0;refine⟨av rfl,fun hC _=>?_⟩;dsimp only at hC;intro b gv;have hk:s.U.length≤1000∧s.q.length≤100000:=of_decide_eq_true hC.1;generalize hF:Kc.aa=F,hG0:VoR.Fs.aa=G0,hG1:ViR.Vs.aa=G1 at hC hfs ⊢;refine bu fun Z zq A hA L hL=>?_
   repeat' (first|(apply al zq;try dsimp only)|apply aS zq (af hL)|apply aq zq|refine aT rfl ?_|apply ai|refine ah rfl ?_|refine aR rfl ?_|exact aA|apply aB|refine aP fun _=>?_|refine aQ fun _=>?_|(constructor;cbv))
   all_goals
    clear hL zq Z
    try clear hfs
    subst hA hF hG0 hG1;simp only [Kc.aa,VoR.Fs.aa,Ar.aa] at *
    try (grind [aj,jz,cB])
  ·cases hp
 ·cases hp
noncomputable def Qm (F:Kc):aO:=fun xs h=>match xs with
 |[.one (.ptr 0 0),.one (.val (.int .i64 to)),.agg [.val (.int .i64 w_k),.val (.int .i64 gY),.val (.int .i64 w_r),.sl none (.ints .i64 w_n),.sl none (.ae (.int .i64 (.int .i64 (.int .i64 (.int .i64 (.bool .nil))))) w_l),.val (.int .i64 w_ck),.val (.int .i64 w_ca),.val (.int .i64 w_cb),.val (.int .i64 w_cs)]]=>(match hp1 h with
  |some s=>some ⟨F.Es s=true∧F.TJ w_n w_l=true,.cN [],(qi (F.rC s to ⟨w_k,gY,w_r,w_n,w_l,w_ck,w_ca,w_cb,w_cs⟩)),[.one (.ptr 0 0),Any,Any,.one (.own 1)]⟩
  |none=>none)
 |_=>none
theorem Re:au Tryz.prog 96 (Qm Kc.aa):=by
 have hfs:=(ak.cons Vh ak.nil rfl);refine aw hfs Tryz.func96 rfl rfl fun xs h p hp=>?_;unfold Qm at hp;split at hp
 ·rename_i to w_k gY w_r w_n w_l w_ck w_ca w_cb w_cs;split at hp
  ·rename_i s e0;cases hp;have g0:=YR e0;subst g0;refine⟨av rfl,fun hC _=>?_⟩;dsimp only at hC;intro b gv;have hk:s.U.length≤1000∧s.q.length≤100000:=of_decide_eq_true hC.1;generalize hF:Kc.aa=F,hG0:VoR.Fs.aa=G0,hG1:ViR.Vs.aa=G1 at hC hfs ⊢;refine bu fun Z zq A hA L hL=>?_
   repeat' (first|(apply al zq;try dsimp only)|apply aS zq (af hL)|apply aq zq|refine aT rfl ?_|apply ai|refine ah rfl ?_|refine aR rfl ?_|exact aA|apply aB|refine aP fun _=>?_|refine aQ fun _=>?_|(constructor;cbv))
   all_goals
    clear hL zq Z
    try clear hfs
    subst hA hF hG0 hG1;simp only [Kc.aa,VoR.Fs.aa,Ar.aa] at *
    try (grind [aj,jz,cB])
  ·cases hp
 ·cases hp
noncomputable def zN (F:Kc):aO:=fun xs h=>match xs,h with
 |[.agg [.val (.int .i64 t_p),.val (.int .i64 _),.val (.int .i64 _),.val (.int .i64 _),.val (.bool _),.val (.bool _),.val (.int .i64 _)],.one (.ptr 0 0)],[(0,.cells 3 [.val (.int .i64 p)])]=>some ⟨True,.sa (B (F.afy t_p p)),[(0,.cells 3 [.ay p])],[Any,.one (.ptr 0 0)]⟩
 |_,_=>none
theorem Uk:au Tryz.prog 108 (zN Kc.aa):=by
 have hfs:=ak.nil;refine aw hfs Tryz.func108 rfl rfl fun xs h p hp=>?_;unfold zN at hp;split at hp
 ·rename_i t_p sw t_s t_m t_t t_b t_o p;cases hp;refine⟨av rfl,fun _ _=>?_⟩;intro b gv;generalize hF:Kc.aa=F,hG0:VoR.Fs.aa=G0,hG1:ViR.Vs.aa=G1 at hfs ⊢;refine bu fun Z zq A hA L hL=>?_
  repeat' (first|(apply al zq;try dsimp only)|apply aS zq (af hL)|apply aq zq|refine aT rfl ?_|apply ai|refine ah rfl ?_|refine aR rfl ?_|exact aA|apply aB|refine aP fun _=>?_|refine aQ fun _=>?_|(constructor;cbv))
  all_goals
   clear hL zq Z
   try clear hfs
   subst hA hF hG0 hG1;simp only [Kc.aa,VoR.Fs.aa,Ar.aa] at *
   try (grind [aj])
 ·cases hp
theorem Sb:jg (zN Kc.aa):=by
 intro xs h p hp;unfold zN at hp;split at hp
 ·cases hp;rfl
 ·cases hp
noncomputable def yP (F:Kc):aO:=fun xs h=>match xs,h with
 |[.one (.own 0),.one (.fn 108 1)],[(0,.row 58 (.ae (.int .i64 (.int .i64 (.int .i64 (.int .i64 (.bool (.bool (.int .i64 .nil))))))) l)),(1,.cells 3 [.val (.int .i64 p)])]=>some ⟨F.MA l=true,.sa (I (F.EB l p)),[(0,.row 58 (.ae .eC l)),(1,.cells 3 [.ay p])],[.one (.own 0),.one (.fn 108 1)]⟩
 |_,_=>none
theorem Fk:au Tryz.prog 107 (yP Kc.aa):=by
 have hfs:=(ak.keeps Uk Sb ak.nil);refine aw hfs Tryz.func107 rfl rfl fun xs h p hp=>?_;unfold yP at hp;split at hp
 ·rename_i l p;cases hp;refine⟨av rfl,fun hC _=>?_⟩;dsimp only at hC;intro b gv;have hk:l.length≤1000:=of_decide_eq_true hC;have hk6:l.length≤1000000:=by omega
  generalize hF:Kc.aa=F,hG0:VoR.Fs.aa=G0,hG1:ViR.Vs.aa=G1 at hC hfs ⊢;refine bu fun Z zq A hA L hL=>?_
  repeat' (first|(apply al zq;try dsimp only)|apply aS zq (af hL)|apply aq zq|refine aT rfl ?_|apply ai|refine ah rfl ?_|refine aR rfl ?_|exact aA|apply aB|refine aP fun _=>?_|refine aQ fun _=>?_|(constructor;cbv))
  subst hL;refine aJ (aN hfs) (itQ l p) (fun y=>br Tryz.f107.ntmps [(0,.own 1),(1,.fn 108 2),(7,.ay (A.dN l)),(8,.ay y.i)] [(1,.row 58 (.ae .eC l)),(2,.cells 3 [.ay p])] [.one (.own 1),.one (.fn 108 2)]) (mF l.length) (Qt 8) ⟨0⟩ ?_ ?_ ?_
  ·exact Iy _ _
  ·cbv
   repeat' (first|exact trivial|exact rfl|refine And.intro ?_ ?_)
  rintro⟨i⟩ hq O hO;have hst:=fun h=>Gb hk6 hq h;have hen:=fun h=>Pm hq h;have q0:=hq.1;have q1:=hq.2.1;dsimp only at q0 q1;subst hA;generalize hA:Ar.aa=A;generalize hL:Lp _ _ _=L;refine az zq ?_
  repeat' (first|(apply al zq;try dsimp only)|apply aS zq (af hL)|apply aq zq|refine aT rfl ?_|apply ai|refine ah rfl ?_|refine aR rfl ?_|exact aA|apply aB|refine aP fun _=>?_|refine aQ fun _=>?_|(constructor;cbv))
  all_goals first|(show L _ _ _;skip)|(clear hL hfs zq Z hq;subst hA hF hG0 hG1 hO;simp only [Kc.aa,VoR.Fs.aa,Ar.aa] at * <;> grind [aj];done)
 ·cases hp
theorem Hk:jg (yP Kc.aa):=by
 intro xs h p hp;unfold yP at hp;split at hp
 ·cases hp;rfl
 ·cases hp
noncomputable def Ie (F:Kc):aO:=fun xs h=>match xs with
 |[.one (.ptr 0 0),.one (.val (.int .i64 p))]=>(match wg h with
  |some s=>some ⟨F.Es s=true,.sa (I (F.EB s.U p)),(vK s),[.one (.ptr 0 0),Any]⟩
  |none=>none)
 |_=>none
theorem Dp:au Tryz.prog 68 (Ie Kc.aa):=by
 have hfs:=(ak.keeps Fk Hk ak.nil);refine aw hfs Tryz.func68 rfl rfl fun xs h p hp=>?_;unfold Ie at hp;split at hp
 ·rename_i p;split at hp
  ·rename_i s e0;cases hp;have g0:=da e0;subst g0;refine⟨av rfl,fun hC _=>?_⟩;dsimp only at hC;intro b gv;have hk:s.U.length≤1000∧s.q.length≤100000:=of_decide_eq_true hC;generalize hF:Kc.aa=F,hG0:VoR.Fs.aa=G0,hG1:ViR.Vs.aa=G1 at hC hfs ⊢;refine bu fun Z zq A hA L hL=>?_
   repeat' (first|(apply al zq;try dsimp only)|apply aS zq (af hL)|apply aq zq|refine aT rfl ?_|apply ai|refine ah rfl ?_|refine aR rfl ?_|exact aA|apply aB|refine aP fun _=>?_|refine aQ fun _=>?_|(constructor;cbv))
   all_goals
    clear hL zq Z
    try clear hfs
    subst hA hF hG0 hG1;simp only [Kc.aa,VoR.Fs.aa] at *
    try (grind [aj])
  ·cases hp
 ·cases hp
theorem DD:jg (Ie Kc.aa):=by
 intro xs h p hp;unfold Ie at hp;split at hp
 ·split at hp
  ·rename_i e0;cases hp;exact (da e0).symm
  ·cases hp
 ·cases hp
noncomputable def zD (F:Kc):aO:=fun xs h=>match xs with
 |[.one (.ptr 0 0),.one (.val (.int .i64 p))]=>(match hp2 h with
  |some s=>some ⟨F.Es s=true,.sa (I (F.EB s.U p)),(Bp s),[.one (.ptr 0 0),Any]⟩
  |none=>none)
 |_=>none
theorem RQ:au Tryz.prog 68 (zD Kc.aa):=by
 have hfs:=(ak.keeps Fk Hk ak.nil);refine aw hfs Tryz.func68 rfl rfl fun xs h p hp=>?_;unfold zD at hp;split at hp
 ·rename_i p;split at hp
  ·rename_i s e0;cases hp;have g0:=yk e0;subst g0;refine⟨av rfl,fun hC _=>?_⟩;dsimp only at hC;intro b gv;have hk:s.U.length≤1000∧s.q.length≤100000:=of_decide_eq_true hC;generalize hF:Kc.aa=F,hG0:VoR.Fs.aa=G0,hG1:ViR.Vs.aa=G1 at hC hfs ⊢;refine bu fun Z zq A hA L hL=>?_
   repeat' (first|(apply al zq;try dsimp only)|apply aS zq (af hL)|apply aq zq|refine aT rfl ?_|apply ai|refine ah rfl ?_|refine aR rfl ?_|exact aA|apply aB|refine aP fun _=>?_|refine aQ fun _=>?_|(constructor;cbv))
   all_goals
    clear hL zq Z
    try clear hfs
    subst hA hF hG0 hG1;simp only [Kc.aa,VoR.Fs.aa] at *
    try (grind [aj])
  ·cases hp
 ·cases hp
theorem Uz:jg (zD Kc.aa):=by
 intro xs h p hp;unfold zD at hp;split at hp
 ·split at hp
  ·rename_i e0;cases hp;exact (yk e0).symm
  ·cases hp
 ·cases hp
noncomputable def zL (F:Kc):aO:=fun xs h=>match xs with
 |[.one (.ptr 0 0)]=>(match wg h with
  |some s=>some ⟨F.Es s=true,.sa (.one (.sl none (.ints .i64 (F.rD s.U s.p)))),(vK s),[.one (.ptr 0 0)]⟩
  |none=>none)
 |_=>none
theorem RZ:au Tryz.prog 95 (zL Kc.aa):=by
 have hfs:=ak.nil;refine aw hfs Tryz.func95 rfl rfl fun xs h p hp=>?_;unfold zL at hp;split at hp
 ·split at hp
  ·rename_i s e0;cases hp;have g0:=da e0;subst g0;refine⟨av rfl,fun hC _=>?_⟩;dsimp only at hC;intro b gv;have hk:s.U.length≤1000∧s.q.length≤100000:=of_decide_eq_true hC;have hk6:s.U.length≤1000000:=by omega
   generalize hF:Kc.aa=F,hG0:VoR.Fs.aa=G0,hG1:ViR.Vs.aa=G1 at hC hfs ⊢;refine bu fun Z zq A hA L hL=>?_
   repeat' (first|(apply al zq;try dsimp only)|apply aS zq (af hL)|apply aq zq|refine aT rfl ?_|apply ai|refine ah rfl ?_|refine aR rfl ?_|exact aA|apply aB|refine aP fun _=>?_|refine aQ fun _=>?_|(constructor;cbv))
   subst hL;refine aJ (aN hfs) (Tx s.U s.p) (fun y=>br Tryz.f95.ntmps [(0,.ptr 1 0),(3,.sl (some (4,3)) (.ints .i64 y.o)),(10,.own 2),(11,.ay (A.dN s.U)),(12,.ay y.i)] [(1,.cells 75 [.ay s.i,.ay s.ee,.ay s.er,.ay s.t,.ay s.p,.own 2,.sl none (.ints .i64 s.w),.sl none (.ints .i64 s.gn),.sl none (.ae .bg s.gl),.ay s.ph,.sl none (.ints .i64 s.tn),.sl none (.ae .bg s.tl),.ay s.l,.bK s.o,.sl (some (3,89)) (.ae .iY s.q)]),(2,.row 58 (.ae .eC s.U)),(3,.tok),(4,.tok)] [.one (.ptr 1 0)]) (kdM s.U) (xlR 12 3) ⟨0,[]⟩ ?_ ?_ ?_
   ·exact yE _ _
   ·cbv
    repeat' (first|exact trivial|exact rfl|refine And.intro ?_ ?_)
   rintro⟨i,o⟩ hq O hO;have hst:=fun h=>zu hk6 hq h;have hen:=fun h=>Dt hq h;have q0:=hq.1;have q1:=hq.2.1;dsimp only at q0 q1;subst hA;generalize hA:Ar.aa=A;generalize hL:Lp _ _ _=L;refine az zq ?_
   repeat' (first|(apply al zq;try dsimp only)|apply aS zq (af hL)|apply aq zq|refine aT rfl ?_|apply ai|refine ah rfl ?_|refine aR rfl ?_|exact aA|apply aB|refine aP fun _=>?_|refine aQ fun _=>?_|(constructor;cbv))
   all_goals first|(show L _ _ _;skip)|(clear hL zq Z hq;subst hA hF hG0 hG1 hO;simp only [Kc.aa,VoR.Fs.aa,Ar.aa] at * <;> grind [aj];done)
  ·cases hp
 ·cases hp
theorem SO:jg (zL Kc.aa):=by
 intro xs h p hp;unfold zL at hp;split at hp
 ·split at hp
  ·rename_i e0;cases hp;exact (da e0).symm
  ·cases hp
 ·cases hp
noncomputable def sq (F:Kc):aO:=fun xs h=>match xs,h with
 |[.one (.ptr 0 0)],[(0,.cells 75 [.val (.int .i64 s_i),.val (.int .i64 s_ee),.val (.int .i64 s_er),.val (.int .i64 s_t),.val (.int .i64 s_p),.own 1,.val (.slice none 0 0),.val (.slice none 0 0),.val (.slice none 0 0),.val (.int .i64 s_ph),.val (.slice none 0 0),.val (.slice none 0 0),.val (.int .i64 Je),.val (.bool s_o),.sl (some (2,89)) (.ae (.int .i64 (.int .i64 (.int .i64 (.int .i64 (.ints .i64 (.ae (.int .i64 (.int .i64 (.int .i64 (.int .i64 (.bool .nil))))) (.int .i64 (.int .i64 (.int .i64 (.int .i64 .nil)))))))))) s_q)]),(1,.row 58 (.ae (.int .i64 (.int .i64 (.int .i64 (.int .i64 (.bool (.bool (.int .i64 .nil))))))) s_ties)),(2,.tok)]=>some ⟨F.Es ⟨s_i,s_ee,s_er,s_t,s_p,s_ties,[],[],[],s_ph,[],[],Je,s_o,s_q⟩=true,.sa (.one (.sl none (.ints .i64 (F.rD s_ties s_p)))),[(0,.cells 75 [.ay s_i,.ay s_ee,.ay s_er,.ay s_t,.ay s_p,.own 1,.val (.slice none 0 0),.val (.slice none 0 0),.val (.slice none 0 0),.ay s_ph,.val (.slice none 0 0),.val (.slice none 0 0),.ay Je,.bK s_o,.sl (some (2,89)) (.ae .iY s_q)]),(1,.row 58 (.ae .eC s_ties)),(2,.tok)],[.one (.ptr 0 0)]⟩
 |_,_=>none
theorem MS:au Tryz.prog 95 (sq Kc.aa):=by
 have hfs:=ak.nil;refine aw hfs Tryz.func95 rfl rfl fun xs h p hp=>?_;unfold sq at hp;split at hp
 ·rename_i s_i s_ee s_er s_t s_p s_ph Je s_o s_q s_ties;cases hp;refine⟨av rfl,fun hC _=>?_⟩;dsimp only at hC;intro b gv;have hk:s_ties.length≤1000∧s_q.length≤100000:=of_decide_eq_true hC;have hk6:s_ties.length≤1000000:=by omega
  generalize hF:Kc.aa=F,hG0:VoR.Fs.aa=G0,hG1:ViR.Vs.aa=G1 at hC hfs ⊢;refine bu fun Z zq A hA L hL=>?_
  repeat' (first|(apply al zq;try dsimp only)|apply aS zq (af hL)|apply aq zq|refine aT rfl ?_|apply ai|refine ah rfl ?_|refine aR rfl ?_|exact aA|apply aB|refine aP fun _=>?_|refine aQ fun _=>?_|(constructor;cbv))
  subst hL;refine aJ (aN hfs) (Tx s_ties s_p) (fun y=>br Tryz.f95.ntmps [(0,.ptr 1 0),(3,.sl (some (4,3)) (.ints .i64 y.o)),(10,.own 2),(11,.ay (A.dN s_ties)),(12,.ay y.i)] [(1,.cells 75 [.ay s_i,.ay s_ee,.ay s_er,.ay s_t,.ay s_p,.own 2,.val (.slice none 0 0),.val (.slice none 0 0),.val (.slice none 0 0),.ay s_ph,.val (.slice none 0 0),.val (.slice none 0 0),.ay Je,.bK s_o,.sl (some (3,89)) (.ae .iY s_q)]),(2,.row 58 (.ae .eC s_ties)),(3,.tok),(4,.tok)] [.one (.ptr 1 0)]) (kdM s_ties) (xlR 12 3) ⟨0,[]⟩ ?_ ?_ ?_
  ·exact yE _ _
  ·cbv
   repeat' (first|exact trivial|exact rfl|refine And.intro ?_ ?_)
  rintro⟨i,o⟩ hq O hO;have hst:=fun h=>zu hk6 hq h;have hen:=fun h=>Dt hq h;have q0:=hq.1;have q1:=hq.2.1;dsimp only at q0 q1;subst hA;generalize hA:Ar.aa=A;generalize hL:Lp _ _ _=L;refine az zq ?_
  repeat' (first|(apply al zq;try dsimp only)|apply aS zq (af hL)|apply aq zq|refine aT rfl ?_|apply ai|refine ah rfl ?_|refine aR rfl ?_|exact aA|apply aB|refine aP fun _=>?_|refine aQ fun _=>?_|(constructor;cbv))
  all_goals first|(show L _ _ _;skip)|(clear hL zq Z hq;subst hA hF hG0 hG1 hO;simp only [Kc.aa,VoR.Fs.aa,Ar.aa] at * <;> grind [aj];done)
 ·cases hp
theorem Qk:jg (sq Kc.aa):=by
 intro xs h p hp;unfold sq at hp;split at hp
 ·cases hp;rfl
 ·cases hp
noncomputable def VH (F:Kc):aO:=fun xs h=>match xs,h with
 |[.agg [.val (.int .i64 _),.val (.int .i64 _),.val (.int .i64 _),.val (.int .i64 t_m),.val (.bool _),.val (.bool _),.val (.int .i64 _)]],[]=>some ⟨True,.sa (B (F.afA t_m)),[],[Any]⟩
 |_,_=>none
theorem Yf:au Tryz.prog 150 (VH Kc.aa):=by
 have hfs:=ak.nil;refine aw hfs Tryz.func150 rfl rfl fun xs h p hp=>?_;unfold VH at hp;split at hp
 ·rename_i t_p sw t_s t_m t_t t_b t_o;cases hp;refine⟨av rfl,fun _ _=>?_⟩;intro b gv;generalize hF:Kc.aa=F,hG0:VoR.Fs.aa=G0,hG1:ViR.Vs.aa=G1 at hfs ⊢;refine bu fun Z zq A hA L hL=>?_
  repeat' (first|(apply al zq;try dsimp only)|apply aS zq (af hL)|apply aq zq|refine aT rfl ?_|apply ai|refine ah rfl ?_|refine aR rfl ?_|exact aA|apply aB|refine aP fun _=>?_|refine aQ fun _=>?_|(constructor;cbv))
  all_goals
   clear hL zq Z
   try clear hfs
   subst hA hF hG0 hG1;simp only [Kc.aa,VoR.Fs.aa,Ar.aa] at *
   try (grind [aj])
 ·cases hp
noncomputable def Mk (F:Kc):aO:=fun xs h=>match xs,h with
 |[.one (.sl none (.ae (.int .i64 (.int .i64 (.int .i64 (.int .i64 (.bool (.bool (.int .i64 .nil))))))) l)),.one (.val (.func (.func 150) ⟨[]⟩ ⟨[]⟩))],[]=>some ⟨F.MA l=true,.sa (I (F.aaU l)),[],[Any,Any]⟩
 |_,_=>none
theorem Ut:au Tryz.prog 107 (Mk Kc.aa):=by
 have hfs:=(ak.cons Yf ak.nil rfl);refine aw hfs Tryz.func107 rfl rfl fun xs h p hp=>?_;unfold Mk at hp;split at hp
 ·rename_i l;cases hp;refine⟨av rfl,fun hC _=>?_⟩;dsimp only at hC;intro b gv;have hk:l.length≤1000:=of_decide_eq_true hC;have hk6:l.length≤1000000:=by omega
  generalize hF:Kc.aa=F,hG0:VoR.Fs.aa=G0,hG1:ViR.Vs.aa=G1 at hC hfs ⊢;refine bu fun Z zq A hA L hL=>?_
  repeat' (first|(apply al zq;try dsimp only)|apply aS zq (af hL)|apply aq zq|refine aT rfl ?_|apply ai|refine ah rfl ?_|refine aR rfl ?_|exact aA|apply aB|refine aP fun _=>?_|refine aQ fun _=>?_|(constructor;cbv))
  subst hL;refine aJ (aN hfs) (WV l) (fun y=>br Tryz.f107.ntmps [(0,.sl none (.ae .eC l)),(1,.val (.func (.func 150) ⟨[]⟩ ⟨[]⟩)),(7,.ay (A.dN l)),(8,.ay y.i)] [] [Any,Any]) (mF l.length) (Qt 8) ⟨0⟩ ?_ ?_ ?_
  ·exact xD _
  ·cbv
   repeat' (first|exact trivial|exact rfl|refine And.intro ?_ ?_)
  rintro⟨i⟩ hq O hO;have hst:=fun h=>zB hk6 hq h;have hen:=fun h=>EM hq h;have q0:=hq.1;have q1:=hq.2.1;dsimp only at q0 q1;subst hA;generalize hA:Ar.aa=A;generalize hL:Lp _ _ _=L;refine az zq ?_
  repeat' (first|(apply al zq;try dsimp only)|apply aS zq (af hL)|apply aq zq|refine aT rfl ?_|apply ai|refine ah rfl ?_|refine aR rfl ?_|exact aA|apply aB|refine aP fun _=>?_|refine aQ fun _=>?_|(constructor;cbv))
  all_goals first|(show L _ _ _;skip)|(clear hL hfs zq Z hq;subst hA hF hG0 hG1 hO;simp only [Kc.aa,VoR.Fs.aa,Ar.aa] at * <;> grind [aj];done)
 ·cases hp
noncomputable def Fp (F:Kc):aO:=fun xs h=>match xs,h with
 |[.one (.sl none (.ae (.int .i64 (.int .i64 (.int .i64 (.int .i64 (.bool (.bool (.int .i64 .nil))))))) l)),.one (.val (.func (.func 150) ⟨[]⟩ ⟨[]⟩))],[]=>some ⟨F.MA l=true,.sa (B (F.aaZ l)),[],[Any,Any]⟩
 |_,_=>none
theorem Pf:au Tryz.prog 124 (Fp Kc.aa):=by
 have hfs:=(ak.cons Ut ak.nil rfl);refine aw hfs Tryz.func124 rfl rfl fun xs h p hp=>?_;unfold Fp at hp;split at hp
 ·rename_i l;cases hp;refine⟨av rfl,fun hC _=>?_⟩;dsimp only at hC;intro b gv;have hk:l.length≤1000:=of_decide_eq_true hC;have hk6:l.length≤1000000:=by omega
  have hh:=Ol l;generalize hF:Kc.aa=F,hG0:VoR.Fs.aa=G0,hG1:ViR.Vs.aa=G1 at hC hfs ⊢;refine bu fun Z zq A hA L hL=>?_
  repeat' (first|(apply al zq;try dsimp only)|apply aS zq (af hL)|apply aq zq|refine aT rfl ?_|apply ai|refine ah rfl ?_|refine aR rfl ?_|exact aA|apply aB|refine aP fun _=>?_|refine aQ fun _=>?_|(constructor;cbv))
  all_goals
   clear hL zq Z
   try clear hfs
   subst hA hF hG0 hG1;simp only [Kc.aa,VoR.Fs.aa,Ar.aa] at *
   try (grind [aj])
 ·cases hp
noncomputable def yR (F:Kc):aO:=fun xs h=>match xs with
 |[.one (.ptr 0 0)]=>(match wg h with
  |some s=>some ⟨F.Es s=true,.sa (B (F.aaZ s.U)),(vK s),[.one (.ptr 0 0)]⟩
  |none=>none)
 |_=>none
theorem TX:au Tryz.prog 126 (yR Kc.aa):=by
 have hfs:=(ak.cons Pf ak.nil rfl);refine aw hfs Tryz.func126 rfl rfl fun xs h p hp=>?_;unfold yR at hp;split at hp
 ·split at hp
  ·rename_i s e0;cases hp;have g0:=da e0;subst g0;refine⟨av rfl,fun hC _=>?_⟩;dsimp only at hC;intro b gv;have hk:s.U.length≤1000∧s.q.length≤100000:=of_decide_eq_true hC;generalize hF:Kc.aa=F,hG0:VoR.Fs.aa=G0,hG1:ViR.Vs.aa=G1 at hC hfs ⊢;refine bu fun Z zq A hA L hL=>?_
   repeat' (first|(apply al zq;try dsimp only)|apply aS zq (af hL)|apply aq zq|refine aT rfl ?_|apply ai|refine ah rfl ?_|refine aR rfl ?_|exact aA|apply aB|refine aP fun _=>?_|refine aQ fun _=>?_|(constructor;cbv))
   all_goals
    clear hL zq Z
    try clear hfs
    subst hA hF hG0 hG1;simp only [Kc.aa,VoR.Fs.aa] at *
    try (grind [aj])
  ·cases hp
 ·cases hp
theorem Sv:jg (yR Kc.aa):=by
 intro xs h p hp;unfold yR at hp;split at hp
 ·split at hp
  ·rename_i e0;cases hp;exact (da e0).symm
  ·cases hp
 ·cases hp
end Go.Proofs.YtelhldgdnlppfaaGreat.KsC
