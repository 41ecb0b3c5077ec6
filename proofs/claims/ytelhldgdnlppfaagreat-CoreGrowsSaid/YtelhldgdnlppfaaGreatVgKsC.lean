/-
  what a core's step is made of: new memory,words,aa,vows. No condition but size.
-/
import Derived.Test.YtelhldgdnlppfaaGreatVgKsS
import Derived.Test.YtelhldgdnlppfaaGreatVgRyOp
import Derived.Test.YtelhldgdnlppfaaGreatVgW17
set_option maxHeartbeats 4000000
set_option cbv.maxSteps 4000000
set_option maxRecDepth 100000
namespace Go.Proofs.YtelhldgdnlppfaaGreat.KsC
open Go Ry ViR VoR KsS Cmp
structure XI where
 i:Int
def xiR (k:Nat) (st:St):XI:=⟨bR st k⟩
def uB (n:Nat) (y:XI):Nat:=n - y.i.toNat
structure XQ where
 i:Int
 q:List E
def Cu (st:St) (n j:Nat):List E :=
 match ak st.heap n with
 |some (.cells _ cs)=>(match cs[j]? with
  |some (.sl _ (.ah _ l))=>l
  |_=>[])
 |_=>[]
def Vi (k n:Nat) (st:St):XQ:=⟨bR st k,Cu st n 14⟩
def WB (l:List E) (p:Int) (y:XI):Prop:=0≤y.i∧y.i≤l.length∧∀ k:Nat,k < y.i→¬ri (l.getD k []) 0=p
theorem OH (l:List E) (p:Int):WB l p ⟨0⟩:=⟨Int.le_refl 0,Int.natCast_nonneg _,fun k h=>by simp only at h;omega⟩
theorem getD_in {l:List E} {k:Nat} (h:k < l.length):l.getD k []=l[k]:=by rw [List.getD_eq_getElem?_getD,List.getElem?_eq_getElem h];rfl
theorem Nq {l:List E} (hl:l.length≤1000000) {p i:Int} (hq:WB l p ⟨i⟩) (h:i < l.length):aO .add .i64 i 1=i+1∧uB l.length ⟨i+1⟩ < uB l.length ⟨i⟩∧(¬ri (l.getD i.toNat []) 0=p→WB l p ⟨i+1⟩)∧(ri (l.getD i.toNat []) 0=p→dw l p=i):=by
 obtain⟨h0,h1,h2⟩:=hq
 simp only at h0 h1 h2
 have hi:i.toNat < l.length:=by omega
 refine⟨by rw [bo,wr _ (by omega) (by omega)],by simp only [uB];omega,fun g=>⟨by simp only;omega,by simp only;omega,fun k hk=>?_⟩,fun g=>?_⟩
 ·simp only at hk
  by_cases c:k=i.toNat
  ·rw [c]
   exact g
  ·exact h2 k (by omega)
 ·have hg:=getD_in hi
  have e:l.findIdx (fun y=>decide (ri y 0=p))=i.toNat:=(List.findIdx_eq hi).2 ⟨by rw [← hg];exact decide_eq_true g,fun j hj=>by
   have:=h2 j (by omega)
   rw [getD_in (show j < l.length by omega)] at this
   exact decide_eq_false this⟩
  unfold dw
  rw [e,if_pos (List.any_eq_true.2 ⟨l[i.toNat],List.getElem_mem hi,by rw [← hg];exact decide_eq_true g⟩)]
  omega
theorem Te {l:List E} {p i:Int} (hq:WB l p ⟨i⟩) (h:¬i < l.length):dw l p = -1:=by
 obtain⟨h0,h1,h2⟩:=hq
 simp only at h0 h1 h2
 unfold dw
 rw [if_neg]
 intro hc
 obtain⟨y,hy,hp⟩:=List.any_eq_true.1 hc
 obtain⟨k,hk,rfl⟩:=List.getElem_of_mem hy
 have:=h2 k (by omega)
 rw [getD_in hk] at this
 exact this (of_decide_eq_true hp)
theorem lf (l:List E) (p:Int) : -1≤dw l p∧dw l p < l.length:=by
 unfold dw
 split
 ·rename_i h
  have:l.findIdx (fun y=>decide (ri y 0=p)) < l.length:=by
   rw [List.findIdx_lt_length]
   obtain⟨y,hy,hp⟩:=List.any_eq_true.1 h
   exact⟨y,hy,hp⟩
  omega
 ·omega
def LF (l:List E):Int:=if ue l=true then (l.findIdx fun y=>!decide (ri y 3=0):Nat) else -1
def Xt (l:List E) (y:XI):Prop:=0≤y.i∧y.i≤l.length∧∀ k:Nat,k < y.i→ri (l.getD k []) 3=0
theorem MA (l:List E):Xt l ⟨0⟩:=⟨Int.le_refl 0,Int.natCast_nonneg _,fun k h=>by simp only at h;omega⟩
theorem My {l:List E} (hl:l.length≤1000000) {i:Int} (hq:Xt l ⟨i⟩) (h:i < l.length):aO .add .i64 i 1=i+1∧uB l.length ⟨i+1⟩ < uB l.length ⟨i⟩∧(ri (l.getD i.toNat []) 3=0→Xt l ⟨i+1⟩)∧(¬ri (l.getD i.toNat []) 3=0→LF l=i):=by
 obtain⟨h0,h1,h2⟩:=hq
 simp only at h0 h1 h2
 have hi:i.toNat < l.length:=by omega
 refine⟨by rw [bo,wr _ (by omega) (by omega)],by simp only [uB];omega,fun g=>⟨by simp only;omega,by simp only;omega,fun k hk=>?_⟩,fun g=>?_⟩
 ·simp only at hk
  by_cases c:k=i.toNat
  ·rw [c]
   exact g
  ·exact h2 k (by omega)
 ·have hg:=getD_in hi
  have e:l.findIdx (fun y=>!decide (ri y 3=0))=i.toNat:=(List.findIdx_eq hi).2 ⟨by rw [← hg,decide_eq_false g];rfl,fun j hj=>by
   have:=h2 j (by omega)
   rw [getD_in (show j < l.length by omega)] at this
   rw [decide_eq_true this]
   rfl⟩
  unfold LF ue
  rw [e,if_pos (List.any_eq_true.2 ⟨l[i.toNat],List.getElem_mem hi,by rw [← hg,decide_eq_false g];rfl⟩)]
  omega
theorem RS {l:List E} {i:Int} (hq:Xt l ⟨i⟩) (h:¬i < l.length):LF l = -1:=by
 obtain⟨h0,h1,h2⟩:=hq
 simp only at h0 h1 h2
 unfold LF ue
 rw [if_neg]
 intro hc
 obtain⟨y,hy,hp⟩:=List.any_eq_true.1 hc
 obtain⟨k,hk,rfl⟩:=List.getElem_of_mem hy
 have:=h2 k (by omega)
 rw [getD_in hk] at this
 rw [decide_eq_true this] at hp
 cases hp
theorem Wf (l:List E):(ue l=true→¬LF l < 0)∧(ue l=false→LF l < 0):=by
 unfold LF
 constructor
 ·intro h
  rw [if_pos h]
  omega
 ·intro h
  rw [if_neg (by rw [h];decide)]
  omega
structure XL where
 i:Int
 o:List Int
def slL (st:St) (k:Nat):List Int:=match jA st k with | .sl _ (.ints _ l)=>l|_=>[]
def xlR (k j:Nat) (st:St):XL:=⟨bR st k,slL st j⟩
def QV (l:List E) (p:Int) (y:XL):Prop:=0≤y.i∧y.i≤l.length∧y.o=cw (l.take y.i.toNat) p
def YI (l:List E) (y:XL):Nat:=l.length - y.i.toNat
theorem CZ (l:List E) (p:Int):QV l p ⟨0,[]⟩:=⟨Int.le_refl 0,Int.natCast_nonneg _,rfl⟩
theorem qO (l:List E) {i:Int} (h0:0≤i) (h:i < l.length):l.take (i+1).toNat=l.take i.toNat ++ [l.getD i.toNat []]:=by
 have hi:i.toNat < l.length:=by omega
 rw [show (i+1).toNat=i.toNat+1 by omega,List.take_add_one,List.getElem?_eq_getElem hi,getD_in hi]
 rfl
theorem DW {l:List E} (hl:l.length≤1000000) {p i:Int} {o:List Int} (hq:QV l p ⟨i,o⟩) (h:i < l.length):aO .add .i64 i 1=i+1∧(∀ o',YI l ⟨i+1,o'⟩ < YI l ⟨i,o⟩)∧o.length≤1000000 ∧
  (rb (l.getD i.toNat []) 5=true→¬ri (l.getD i.toNat []) 0=p→QV l p ⟨i+1,o ++ [ri (l.getD i.toNat []) 0]⟩)∧(rb (l.getD i.toNat []) 5=true→ri (l.getD i.toNat []) 0=p→QV l p ⟨i+1,o⟩)∧(rb (l.getD i.toNat []) 5=false→QV l p ⟨i+1,o⟩):=by
 obtain⟨h0,h1,h2⟩:=hq
 simp only at h0 h1 h2
 have ht:=qO l h0 h
 have hs:∀ y,cw (l.take i.toNat ++ [y]) p=cw (l.take i.toNat) p ++ (if uz p y=true then [ri y 0] else []):=fun y=>by
  unfold cw
  rw [List.filter_append,List.map_append]
  by_cases g:uz p y=true
  ·rw [if_pos g,List.filter_cons_of_pos g]
   rfl
  ·rw [if_neg g,List.filter_cons_of_neg g]
   rfl
 have hlen:o.length≤1000000:=by
  rw [h2]
  unfold cw
  rw [List.length_map]
  have h3:=List.length_filter_le (uz p) (l.take i.toNat)
  rw [List.length_take] at h3
  omega
 refine⟨by rw [bo,wr _ (by omega) (by omega)],fun o'=>by simp only [YI];omega,hlen,fun g1 g2=>⟨by simp only;omega,by simp only;omega,?_⟩,fun g1 g2=>⟨by simp only;omega,by simp only;omega,?_⟩,fun g=>⟨by simp only;omega,by simp only;omega,?_⟩⟩
 ·simp only
  rw [ht,hs,if_pos (by unfold uz;rw [g1,decide_eq_false g2];rfl),h2]
 ·simp only
  rw [ht,hs,if_neg (by unfold uz;rw [g1,decide_eq_true g2];decide),h2,List.append_nil]
 ·simp only
  rw [ht,hs,if_neg (by unfold uz;rw [g];simp),h2,List.append_nil]
theorem Iw {l:List E} {p i:Int} {o:List Int} (hq:QV l p ⟨i,o⟩) (h:¬i < l.length):o=cw l p:=by
 obtain⟨h0,h1,h2⟩:=hq
 simp only at h0 h1 h2
 rw [h2,show i.toNat=l.length by omega,List.take_length]
def PL (q0:List E) (p:Int) (w:List Int) (y:XQ):Prop:=0≤y.i∧y.i≤w.length∧y.q=q0 ++ (w.take y.i.toNat).map fun k=>eF p (ED k)
def GD (w:List Int) (y:XQ):Nat:=w.length - y.i.toNat
theorem qy (q0:List E) (p:Int) (w:List Int):PL q0 p w ⟨0,q0⟩:=⟨Int.le_refl 0,Int.natCast_nonneg _,by simp⟩
theorem tM (l:List Int) {i:Int} (h0:0≤i) (h:i < l.length):l.take (i+1).toNat=l.take i.toNat ++ [l.getD i.toNat 0]:=by
 have hi:i.toNat < l.length:=by omega
 rw [show (i+1).toNat=i.toNat+1 by omega,List.take_add_one,List.getElem?_eq_getElem hi,List.getD_eq_getElem?_getD,List.getElem?_eq_getElem hi]
 rfl
theorem qL {q0:List E} {p:Int} {w:List Int} (hw:w.length≤1000) (hq0:q0.length≤99000) {i:Int} {q:List E} (hq:PL q0 p w ⟨i,q⟩) (h:i < w.length):aO .add .i64 i 1=i+1∧(∀ q',GD w ⟨i+1,q'⟩ < GD w ⟨i,q⟩)∧q.length≤100000∧PL q0 p w ⟨i+1,q ++ [eF p (ED (w.getD i.toNat 0))]⟩:=by
 obtain⟨h0,h1,h2⟩:=hq
 simp only at h0 h1 h2
 refine⟨by rw [bo,wr _ (by omega) (by omega)],fun o'=>by simp only [GD];omega,?_,⟨by simp only;omega,by simp only;omega,?_⟩⟩
 ·rw [h2,List.length_append,List.length_map,List.length_take]
  omega
 ·simp only
  rw [tM w h0 h,List.map_append,← List.append_assoc,← h2]
  rfl
theorem ya {q0:List E} {p:Int} {w:List Int} {i:Int} {q:List E} (hq:PL q0 p w ⟨i,q⟩) (h:¬i < w.length):q=q0 ++ w.map fun k=>eF p (ED k):=by
 obtain⟨h0,h1,h2⟩:=hq
 simp only at h0 h1 h2
 rw [h2,show i.toNat=w.length by omega,List.take_length]
theorem pE (m:Int) (t b:Bool) (o k:Int):(oZ m t b o).w.length≤1∧(pN m t b o).w.length≤1∧(oD m t b o).w.length≤1∧(oE m t b o k).w.length≤1:=by
 refine⟨?_,?_,?_,?_⟩
 ·unfold oZ same v0
  repeat' split
  all_goals simp
 ·unfold pN same v0
  repeat' split
  all_goals simp
 ·unfold oD same v0
  repeat' split
  all_goals simp
 ·unfold oE CX DU same v0
  repeat' split
  all_goals simp
theorem CC (m:Int) (t b:Bool) (o k:Int):(¬(oZ m t b o).e=0→(oZ m t b o).w=[]∧(oZ m t b o).tb=false∧(oZ m t b o).tp=false∧(oZ m t b o).tf=false)∧(¬(pN m t b o).e=0→(pN m t b o).w=[]∧(pN m t b o).tb=false∧(pN m t b o).tp=false∧(pN m t b o).tf=false)∧(¬(oD m t b o).e=0→(oD m t b o).w=[]∧(oD m t b o).tb=false∧(oD m t b o).tp=false∧(oD m t b o).tf=false)∧(¬(oE m t b o k).e=0→(oE m t b o k).w=[]∧(oE m t b o k).tb=false∧(oE m t b o k).tp=false∧(oE m t b o k).tf=false):=by
 refine⟨?_,?_,?_,?_⟩
 ·unfold oZ same v0
  repeat' split
  all_goals simp
 ·unfold pN same v0
  repeat' split
  all_goals simp
 ·unfold oD same v0
  repeat' split
  all_goals simp
 ·unfold oE CX DU same v0
  repeat' split
  all_goals simp
def py (n:List Int) (l:List E):Bool:=decide (n.length≤1000∧l.length≤1000)
def oY (d:CS):Bool:=decide (d.aa.length≤1000∧d.q.length≤100000)
def QQ (e r e' r' : Int):Int:=if e=e' then (if r=r' then 0 else if r < r' then -1 else 1) else if e < e' then -1 else 1
structure Kc where
 FT:List Int→Bool
 lN:List E→Bool
 qj:List Int→List E→Bool
 gT:CS→Bool
 iC:CS→Int→WK→CS
 Gp:List E→Int→Int
 Qr:List E→Int
 MP:List E→Bool
 lB:List E→Int→List Int
 yf:CS→Int→VT→CS
 rq:CS→Int→VT
 se:CS→Int→VT
 sZ:CS→Int→VT
 rC:Int→CS→Int→VT
 oR:CS→Int→Bool
 WA:Int→Int→Bool
 YQ:Int→Bool
 QU:Int→Int→Int→Int
 PV:Int→Int→Int→Int
 Qo:Int→Int→Int→Int
 v:Fs
def Kc.U:Kc:=⟨fun n=>decide (n.length≤1000),fun n=>decide (n.length≤1000),py,oY,oX,dw,LF,ue,cw,aL,fun d a=>qN (tie d a),fun d a=>zY (tie d a),fun d a=>kY (tie d a),fun k d a=>dx k (tie d a),fun d a=>decide (0≤a∧a < d.aa.length∧d.aa.length≤1000∧d.q.length≤100000),fun a b=>decide (a=b),fun a=>!decide (a=0),Hm,fun t l i=>if Hm t l i=0 then t+1 else 0,fun t l i=>if Hm t l i=0 then i else 0,Fs.U⟩
noncomputable def wu (F:Kc):aY:=fun xs h=>match xs,h with
 |[.one (.val (.int .i64 t)),.one (.val (.int .i64 l)),.one (.val (.int .i64 i))],[]=>some ⟨True,.bK [.agg [.val (.int .i64 (F.PV t l i)),.val (.int .i64 (F.Qo t l i))],I (F.QU t l i)],[],[Any,Any,Any]⟩
 |_,_=>none
theorem Pu (t:Int) (l:Int) (i:Int):aV [(32,gf ViR.Vs.U)] Tryz.f57 [.one (.val (.int .i64 t)),.one (.val (.int .i64 l)),.one (.val (.int .i64 i))] [] ⟨True,.bK [.agg [.val (.int .i64 (Kc.U.PV t l i)),.val (.int .i64 (Kc.U.Qo t l i))],I (Kc.U.QU t l i)],[],[Any,Any,Any]⟩:=by
 intro b gv
 have h0:Hm t l i=0→aO .add .i64 t 1=t+1:=fun h=>by
  unfold Hm at h
  split at h
  ·split at h
   ·cases h
   ·rw [bo,wr _ (by omega) (by omega)]
  ·cases h
 have hfs:=(af.cons cN af.nil rfl)
 generalize hF:Kc.U=F at hfs ⊢
 generalize hG0:VoR.Fs.U=G0 at hfs ⊢
 generalize hG1:ViR.Vs.U=G1 at hfs ⊢
 generalize hA:Ar.U=A
 generalize hL:Lp _ _ _=L
 obtain⟨Z,zq⟩:=aQ
 refine @aD _ _ _ _ _ _ _ (ae hL) _ _ zq rfl ?_
 repeat' (first|(refine aw zq ?_;try dsimp only)|refine ax zq ?_ (ae hL)|refine az zq ?_|refine ay ?_|refine aq ?_|refine ar ?_|refine av ?_|refine au rfl ?_|refine ai rfl ?_|refine aj rfl ?_|(refine Cd.mk ?_;cbv)|(refine aE.mk ?_;cbv)|(refine aM.mk ?_;cbv)|exact trivial|refine And.intro ?_ ?_|refine bu fun _=>?_|refine br fun _=>?_)
 all_goals
  clear hL zq Z
  try clear hfs
  subst hA hF hG0 hG1
  simp only [Kc.U,VoR.Fs.U,ViR.Vs.U,Ar.U] at *
  try (grind [al,Hm])
theorem zu:aA Tryz.prog 57 (wu Kc.U):=by
 refine aG (af.cons cN af.nil rfl) Tryz.func57 rfl rfl fun xs h p hp=>?_
 unfold wu at hp
 split at hp
 ·cases hp
  exact⟨aB rfl,fun _ _=>@Pu _ _ _⟩
 ·cases hp
noncomputable def De (F:Kc):aY:=fun xs h=>match xs,h with
 |[.one (.sl none (.ints .i64 l))],[]=>some ⟨F.FT l=true,.sa (.one (.sl none (.ints .i64 l))),[],[Any]⟩
 |_,_=>none
theorem Vw (l:List Int) (hC:Kc.U.FT l=true):aV [] Tryz.f63 [.one (.sl none (.ints .i64 l))] [] ⟨Kc.U.FT l=true,.sa (.one (.sl none (.ints .i64 l))),[],[Any]⟩:=by
 intro b gv
 have hk:l.length≤1000:=of_decide_eq_true (show decide _=true from hC)
 have hfs:=af.nil
 generalize hF:Kc.U=F at hC hfs ⊢
 generalize hG0:VoR.Fs.U=G0 at hC hfs ⊢
 generalize hG1:ViR.Vs.U=G1 at hC hfs ⊢
 generalize hA:Ar.U=A
 generalize hL:Lp _ _ _=L
 obtain⟨Z,zq⟩:=aQ
 refine @aD _ _ _ _ _ _ _ (ae hL) _ _ zq rfl ?_
 repeat' (first|(refine aw zq ?_;try dsimp only)|refine ax zq ?_ (ae hL)|refine az zq ?_|refine ay ?_|refine aq ?_|refine ar ?_|refine av ?_|refine au rfl ?_|refine ai rfl ?_|refine aj rfl ?_|(refine Cd.mk ?_;cbv)|(refine aE.mk ?_;cbv)|(refine aM.mk ?_;cbv)|exact trivial|refine And.intro ?_ ?_|refine bu fun _=>?_|refine br fun _=>?_)
 all_goals
  clear hL zq Z
  try clear hfs
  subst hA hF hG0 hG1
  simp only [Kc.U,VoR.Fs.U,Ar.U,List.nil_append] at *
  try (grind [al])
theorem xY:aA Tryz.prog 63 (De Kc.U):=by
 refine aG af.nil Tryz.func63 rfl rfl fun xs h p hp=>?_
 unfold De at hp
 split at hp
 ·cases hp
  exact⟨aB rfl,fun hC _=>@Vw _ hC⟩
 ·cases hp
noncomputable def HE (F:Kc):aY:=fun xs h=>match xs,h with
 |[.one (.sl none (.ints .i64 l))],[]=>some ⟨F.FT l=true,.sa (.one (.own 0)),[(0,.row 3 (.ints .i64 l))],[Any]⟩
 |_,_=>none
theorem VO (l:List Int) (hC:Kc.U.FT l=true):aV [(dJ 2002,fy)] Tryz.f63 [.one (.sl none (.ints .i64 l))] [] ⟨Kc.U.FT l=true,.sa (.one (.own 0)),[(0,.row 3 (.ints .i64 l))],[Any]⟩:=by
 intro b gv
 have hk:l.length≤1000:=of_decide_eq_true (show decide _=true from hC)
 have hfs:=(af.own (u:=2002) af.nil)
 generalize hF:Kc.U=F at hC hfs ⊢
 generalize hG0:VoR.Fs.U=G0 at hC hfs ⊢
 generalize hG1:ViR.Vs.U=G1 at hC hfs ⊢
 generalize hA:Ar.U=A
 generalize hL:Lp _ _ _=L
 obtain⟨Z,zq⟩:=aQ
 refine @aD _ _ _ _ _ _ _ (ae hL) _ _ zq rfl ?_
 repeat' (first|(refine aw zq ?_;try dsimp only)|refine ax zq ?_ (ae hL)|refine az zq ?_|refine ay ?_|refine aq ?_|refine ar ?_|refine av ?_|refine au rfl ?_|refine ai rfl ?_|refine aj rfl ?_|(refine Cd.mk ?_;cbv)|(refine aE.mk ?_;cbv)|(refine aM.mk ?_;cbv)|exact trivial|refine And.intro ?_ ?_|refine bu fun _=>?_|refine br fun _=>?_)
 all_goals
  clear hL zq Z
  try clear hfs
  subst hA hF hG0 hG1
  simp only [Kc.U,VoR.Fs.U,Ar.U,List.nil_append] at *
  try (grind [al])
theorem Ja:aA Tryz.prog 63 (HE Kc.U):=by
 refine aG (af.own (u:=2002) af.nil) Tryz.func63 rfl rfl fun xs h p hp=>?_
 unfold HE at hp
 split at hp
 ·cases hp
  exact⟨aB rfl,fun hC _=>@VO _ hC⟩
 ·cases hp
noncomputable def Hn (F:Kc):aY:=fun xs h=>match xs,h with
 |[.one (.sl none (.ah (.int .i64 (.int .i64 (.int .i64 (.int .i64 (.bool .nil))))) l))],[]=>some ⟨F.lN l=true,.sa (.one (.sl none (.ah (.int .i64 (.int .i64 (.int .i64 (.int .i64 (.bool .nil))))) l))),[],[Any]⟩
 |_,_=>none
theorem Zj (l:List E) (hC:Kc.U.lN l=true):aV [] Tryz.f103 [.one (.sl none (.ah (.int .i64 (.int .i64 (.int .i64 (.int .i64 (.bool .nil))))) l))] [] ⟨Kc.U.lN l=true,.sa (.one (.sl none (.ah (.int .i64 (.int .i64 (.int .i64 (.int .i64 (.bool .nil))))) l))),[],[Any]⟩:=by
 intro b gv
 have hk:l.length≤1000:=of_decide_eq_true (show decide _=true from hC)
 have hfs:=af.nil
 generalize hF:Kc.U=F at hC hfs ⊢
 generalize hG0:VoR.Fs.U=G0 at hC hfs ⊢
 generalize hG1:ViR.Vs.U=G1 at hC hfs ⊢
 generalize hA:Ar.U=A
 generalize hL:Lp _ _ _=L
 obtain⟨Z,zq⟩:=aQ
 refine @aD _ _ _ _ _ _ _ (ae hL) _ _ zq rfl ?_
 repeat' (first|(refine aw zq ?_;try dsimp only)|refine ax zq ?_ (ae hL)|refine az zq ?_|refine ay ?_|refine aq ?_|refine ar ?_|refine av ?_|refine au rfl ?_|refine ai rfl ?_|refine aj rfl ?_|(refine Cd.mk ?_;cbv)|(refine aE.mk ?_;cbv)|(refine aM.mk ?_;cbv)|exact trivial|refine And.intro ?_ ?_|refine bu fun _=>?_|refine br fun _=>?_)
 all_goals
  clear hL zq Z
  try clear hfs
  subst hA hF hG0 hG1
  simp only [Kc.U,VoR.Fs.U,Ar.U,List.nil_append] at *
  try (grind [al])
theorem JI:aA Tryz.prog 103 (Hn Kc.U):=by
 refine aG af.nil Tryz.func103 rfl rfl fun xs h p hp=>?_
 unfold Hn at hp
 split at hp
 ·cases hp
  exact⟨aB rfl,fun hC _=>@Zj _ hC⟩
 ·cases hp
noncomputable def EJ (F:Kc):aY:=fun xs h=>match xs,h with
 |[.one (.sl none (.ah (.int .i64 (.int .i64 (.int .i64 (.int .i64 (.bool (.bool (.int .i64 .nil))))))) l))],[]=>some ⟨F.lN l=true,.sa (.one (.own 0)),[(0,.row 58 (.ah (.int .i64 (.int .i64 (.int .i64 (.int .i64 (.bool (.bool (.int .i64 .nil))))))) l))],[Any]⟩
 |_,_=>none
theorem Vz (l:List E) (hC:Kc.U.lN l=true):aV [(dJ 2002,fy)] Tryz.f62 [.one (.sl none (.ah (.int .i64 (.int .i64 (.int .i64 (.int .i64 (.bool (.bool (.int .i64 .nil))))))) l))] [] ⟨Kc.U.lN l=true,.sa (.one (.own 0)),[(0,.row 58 (.ah (.int .i64 (.int .i64 (.int .i64 (.int .i64 (.bool (.bool (.int .i64 .nil))))))) l))],[Any]⟩:=by
 intro b gv
 have hk:l.length≤1000:=of_decide_eq_true (show decide _=true from hC)
 have hfs:=(af.own (u:=2002) af.nil)
 generalize hF:Kc.U=F at hC hfs ⊢
 generalize hG0:VoR.Fs.U=G0 at hC hfs ⊢
 generalize hG1:ViR.Vs.U=G1 at hC hfs ⊢
 generalize hA:Ar.U=A
 generalize hL:Lp _ _ _=L
 obtain⟨Z,zq⟩:=aQ
 refine @aD _ _ _ _ _ _ _ (ae hL) _ _ zq rfl ?_
 repeat' (first|(refine aw zq ?_;try dsimp only)|refine ax zq ?_ (ae hL)|refine az zq ?_|refine ay ?_|refine aq ?_|refine ar ?_|refine av ?_|refine au rfl ?_|refine ai rfl ?_|refine aj rfl ?_|(refine Cd.mk ?_;cbv)|(refine aE.mk ?_;cbv)|(refine aM.mk ?_;cbv)|exact trivial|refine And.intro ?_ ?_|refine bu fun _=>?_|refine br fun _=>?_)
 all_goals
  clear hL zq Z
  try clear hfs
  subst hA hF hG0 hG1
  simp only [Kc.U,VoR.Fs.U,Ar.U,List.nil_append] at *
  try (grind [al])
theorem yc:aA Tryz.prog 62 (EJ Kc.U):=by
 refine aG (af.own (u:=2002) af.nil) Tryz.func62 rfl rfl fun xs h p hp=>?_
 unfold EJ at hp
 split at hp
 ·cases hp
  exact⟨aB rfl,fun hC _=>@Vz _ hC⟩
 ·cases hp
noncomputable def Ge (F:Kc):aY:=fun xs h=>match xs,h with
 |[.agg [.sl none (.ints .i64 v_n),.sl none (.ah (.int .i64 (.int .i64 (.int .i64 (.int .i64 (.bool .nil))))) v_l)]],[]=>some ⟨F.qj v_n v_l=true,.sa (.agg [.sl none (.ints .i64 v_n),.sl none (.ah (.int .i64 (.int .i64 (.int .i64 (.int .i64 (.bool .nil))))) v_l)]),[],[Any]⟩
 |_,_=>none
theorem aab (v_n:List Int) (v_l:List E) (hC:Kc.U.qj v_n v_l=true):aV [(63,De Kc.U),(103,Hn Kc.U)] Tryz.f64 [.agg [.sl none (.ints .i64 v_n),.sl none (.ah (.int .i64 (.int .i64 (.int .i64 (.int .i64 (.bool .nil))))) v_l)]] [] ⟨Kc.U.qj v_n v_l=true,.sa (.agg [.sl none (.ints .i64 v_n),.sl none (.ah (.int .i64 (.int .i64 (.int .i64 (.int .i64 (.bool .nil))))) v_l)]),[],[Any]⟩:=by
 intro b gv
 have hk:v_n.length≤1000∧v_l.length≤1000:=of_decide_eq_true (show decide _=true from hC)
 have hfs:=(af.cons xY (af.cons JI af.nil rfl) rfl)
 generalize hF:Kc.U=F at hC hfs ⊢
 generalize hG0:VoR.Fs.U=G0 at hC hfs ⊢
 generalize hG1:ViR.Vs.U=G1 at hC hfs ⊢
 generalize hA:Ar.U=A
 generalize hL:Lp _ _ _=L
 obtain⟨Z,zq⟩:=aQ
 refine @aD _ _ _ _ _ _ _ (ae hL) _ _ zq rfl ?_
 repeat' (first|(refine aw zq ?_;try dsimp only)|refine ax zq ?_ (ae hL)|refine az zq ?_|refine ay ?_|refine aq ?_|refine ar ?_|refine av ?_|refine au rfl ?_|refine ai rfl ?_|refine aj rfl ?_|(refine Cd.mk ?_;cbv)|(refine aE.mk ?_;cbv)|(refine aM.mk ?_;cbv)|exact trivial|refine And.intro ?_ ?_|refine bu fun _=>?_|refine br fun _=>?_)
 all_goals
  clear hL zq Z
  try clear hfs
  subst hA hF hG0 hG1
  simp only [Kc.U,VoR.Fs.U] at *
  try (grind [al])
theorem pU:aA Tryz.prog 64 (Ge Kc.U):=by
 refine aG (af.cons xY (af.cons JI af.nil rfl) rfl) Tryz.func64 rfl rfl fun xs h p hp=>?_
 unfold Ge at hp
 split at hp
 ·cases hp
  exact⟨aB rfl,fun hC _=>@aab _ _ hC⟩
 ·cases hp
noncomputable def Mn (F:Kc):aY:=fun xs h=>match xs,h with
 |[.agg [.val (.int .i64 w_k),.val (.int .i64 dv),.val (.int .i64 w_r),.sl none (.ints .i64 w_n),.sl none (.ah (.int .i64 (.int .i64 (.int .i64 (.int .i64 (.bool .nil))))) w_l),.val (.int .i64 w_ck),.val (.int .i64 w_ca),.val (.int .i64 w_cb),.val (.int .i64 w_cs)]],[]=>some ⟨F.qj w_n w_l=true,.sa (.agg [.val (.int .i64 w_k),.val (.int .i64 dv),.val (.int .i64 w_r),.sl none (.ints .i64 w_n),.sl none (.ah (.int .i64 (.int .i64 (.int .i64 (.int .i64 (.bool .nil))))) w_l),.val (.int .i64 w_ck),.val (.int .i64 w_ca),.val (.int .i64 w_cb),.val (.int .i64 w_cs)]),[],[Any]⟩
 |_,_=>none
theorem ZW (w_k:Int) (dv:Int) (w_r:Int) (w_n:List Int) (w_l:List E) (w_ck:Int) (w_ca:Int) (w_cb:Int) (w_cs:Int) (hC:Kc.U.qj w_n w_l=true):aV [(64,Ge Kc.U)] Tryz.f92 [.agg [.val (.int .i64 w_k),.val (.int .i64 dv),.val (.int .i64 w_r),.sl none (.ints .i64 w_n),.sl none (.ah (.int .i64 (.int .i64 (.int .i64 (.int .i64 (.bool .nil))))) w_l),.val (.int .i64 w_ck),.val (.int .i64 w_ca),.val (.int .i64 w_cb),.val (.int .i64 w_cs)]] [] ⟨Kc.U.qj w_n w_l=true,.sa (.agg [.val (.int .i64 w_k),.val (.int .i64 dv),.val (.int .i64 w_r),.sl none (.ints .i64 w_n),.sl none (.ah (.int .i64 (.int .i64 (.int .i64 (.int .i64 (.bool .nil))))) w_l),.val (.int .i64 w_ck),.val (.int .i64 w_ca),.val (.int .i64 w_cb),.val (.int .i64 w_cs)]),[],[Any]⟩:=by
 intro b gv
 have hk:w_n.length≤1000∧w_l.length≤1000:=of_decide_eq_true (show decide _=true from hC)
 have hfs:=(af.cons pU af.nil rfl)
 generalize hF:Kc.U=F at hC hfs ⊢
 generalize hG0:VoR.Fs.U=G0 at hC hfs ⊢
 generalize hG1:ViR.Vs.U=G1 at hC hfs ⊢
 generalize hA:Ar.U=A
 generalize hL:Lp _ _ _=L
 obtain⟨Z,zq⟩:=aQ
 refine @aD _ _ _ _ _ _ _ (ae hL) _ _ zq rfl ?_
 repeat' (first|(refine aw zq ?_;try dsimp only)|refine ax zq ?_ (ae hL)|refine az zq ?_|refine ay ?_|refine aq ?_|refine ar ?_|refine av ?_|refine au rfl ?_|refine ai rfl ?_|refine aj rfl ?_|(refine Cd.mk ?_;cbv)|(refine aE.mk ?_;cbv)|(refine aM.mk ?_;cbv)|exact trivial|refine And.intro ?_ ?_|refine bu fun _=>?_|refine br fun _=>?_)
 all_goals
  clear hL zq Z
  try clear hfs
  subst hA hF hG0 hG1
  simp only [Kc.U,VoR.Fs.U] at *
  try (grind [al])
theorem Ev:aA Tryz.prog 92 (Mn Kc.U):=by
 refine aG (af.cons pU af.nil rfl) Tryz.func92 rfl rfl fun xs h p hp=>?_
 unfold Mn at hp
 split at hp
 ·cases hp
  exact⟨aB rfl,fun hC _=>@ZW _ _ _ _ _ _ _ _ _ hC⟩
 ·cases hp
noncomputable def iC (F:Kc):aY:=fun xs h=>match xs with
 |[.one (.ptr 0 0),.one (.val (.int .i64 to)),.agg [.val (.int .i64 w_k),.val (.int .i64 dv),.val (.int .i64 w_r),.sl none (.ints .i64 w_n),.sl none (.ah (.int .i64 (.int .i64 (.int .i64 (.int .i64 (.bool .nil))))) w_l),.val (.int .i64 w_ck),.val (.int .i64 w_ca),.val (.int .i64 w_cb),.val (.int .i64 w_cs)]]=>(match vL h with
  |some s=>some ⟨F.gT s=true∧F.qj w_n w_l=true,.bK [],(eO (F.iC s to ⟨w_k,dv,w_r,w_n,w_l,w_ck,w_ca,w_cb,w_cs⟩)),[.one (.ptr 0 0),Any,Any,.one (.own 1)]⟩
  |none=>none)
 |_=>none
theorem Zr (to:Int) (w_k:Int) (dv:Int) (w_r:Int) (w_n:List Int) (w_l:List E) (w_ck:Int) (w_ca:Int) (w_cb:Int) (w_cs:Int) (s:CS) (hC:Kc.U.gT s=true∧Kc.U.qj w_n w_l=true):aV [(92,Mn Kc.U)] Tryz.f96 [.one (.ptr 0 0),.one (.val (.int .i64 to)),.agg [.val (.int .i64 w_k),.val (.int .i64 dv),.val (.int .i64 w_r),.sl none (.ints .i64 w_n),.sl none (.ah (.int .i64 (.int .i64 (.int .i64 (.int .i64 (.bool .nil))))) w_l),.val (.int .i64 w_ck),.val (.int .i64 w_ca),.val (.int .i64 w_cb),.val (.int .i64 w_cs)]] (eO s) ⟨Kc.U.gT s=true∧Kc.U.qj w_n w_l=true,.bK [],(eO (Kc.U.iC s to ⟨w_k,dv,w_r,w_n,w_l,w_ck,w_ca,w_cb,w_cs⟩)),[.one (.ptr 0 0),Any,Any,.one (.own 1)]⟩:=by
 intro b gv
 have hk:s.aa.length≤1000∧s.q.length≤100000:=of_decide_eq_true hC.1
 have hfs:=(af.cons Ev af.nil rfl)
 generalize hF:Kc.U=F at hC hfs ⊢
 generalize hG0:VoR.Fs.U=G0 at hC hfs ⊢
 generalize hG1:ViR.Vs.U=G1 at hC hfs ⊢
 generalize hA:Ar.U=A
 generalize hL:Lp _ _ _=L
 obtain⟨Z,zq⟩:=aQ
 refine @aD _ _ _ _ _ _ _ (ae hL) _ _ zq rfl ?_
 repeat' (first|(refine aw zq ?_;try dsimp only)|refine ax zq ?_ (ae hL)|refine az zq ?_|refine ay ?_|refine aq ?_|refine ar ?_|refine av ?_|refine au rfl ?_|refine ai rfl ?_|refine aj rfl ?_|(refine Cd.mk ?_;cbv)|(refine aE.mk ?_;cbv)|(refine aM.mk ?_;cbv)|exact trivial|refine And.intro ?_ ?_|refine bu fun _=>?_|refine br fun _=>?_)
 all_goals
  clear hL zq Z
  try clear hfs
  subst hA hF hG0 hG1
  simp only [Kc.U,VoR.Fs.U,Ar.U] at *
  try (grind [al,oX,eF])
theorem fF:aA Tryz.prog 96 (iC Kc.U):=by
 refine aG (af.cons Ev af.nil rfl) Tryz.func96 rfl rfl fun xs h p hp=>?_
 unfold iC at hp
 split at hp
 ·split at hp
  ·rename_i e0
   cases hp
   have g0:=cV e0
   subst g0
   exact⟨aB rfl,fun hC _=>@Zr _ _ _ _ _ _ _ _ _ _ _ hC⟩
  ·cases hp
 ·cases hp
noncomputable def Cg (F:Kc):aY:=fun xs h=>match xs with
 |[.one (.ptr 0 0),.one (.val (.int .i64 to)),.agg [.val (.int .i64 w_k),.val (.int .i64 dv),.val (.int .i64 w_r),.sl none (.ints .i64 w_n),.sl none (.ah (.int .i64 (.int .i64 (.int .i64 (.int .i64 (.bool .nil))))) w_l),.val (.int .i64 w_ck),.val (.int .i64 w_ca),.val (.int .i64 w_cb),.val (.int .i64 w_cs)]]=>(match hp1 h with
  |some s=>some ⟨F.gT s=true∧F.qj w_n w_l=true,.bK [],(oh (F.iC s to ⟨w_k,dv,w_r,w_n,w_l,w_ck,w_ca,w_cb,w_cs⟩)),[.one (.ptr 0 0),Any,Any,.one (.own 1)]⟩
  |none=>none)
 |_=>none
theorem Uy (to:Int) (w_k:Int) (dv:Int) (w_r:Int) (w_n:List Int) (w_l:List E) (w_ck:Int) (w_ca:Int) (w_cb:Int) (w_cs:Int) (s:CS) (hC:Kc.U.gT s=true∧Kc.U.qj w_n w_l=true):aV [(92,Mn Kc.U)] Tryz.f96 [.one (.ptr 0 0),.one (.val (.int .i64 to)),.agg [.val (.int .i64 w_k),.val (.int .i64 dv),.val (.int .i64 w_r),.sl none (.ints .i64 w_n),.sl none (.ah (.int .i64 (.int .i64 (.int .i64 (.int .i64 (.bool .nil))))) w_l),.val (.int .i64 w_ck),.val (.int .i64 w_ca),.val (.int .i64 w_cb),.val (.int .i64 w_cs)]] (oh s) ⟨Kc.U.gT s=true∧Kc.U.qj w_n w_l=true,.bK [],(oh (Kc.U.iC s to ⟨w_k,dv,w_r,w_n,w_l,w_ck,w_ca,w_cb,w_cs⟩)),[.one (.ptr 0 0),Any,Any,.one (.own 1)]⟩:=by
 intro b gv
 have hk:s.aa.length≤1000∧s.q.length≤100000:=of_decide_eq_true hC.1
 have hfs:=(af.cons Ev af.nil rfl)
 generalize hF:Kc.U=F at hC hfs ⊢
 generalize hG0:VoR.Fs.U=G0 at hC hfs ⊢
 generalize hG1:ViR.Vs.U=G1 at hC hfs ⊢
 generalize hA:Ar.U=A
 generalize hL:Lp _ _ _=L
 obtain⟨Z,zq⟩:=aQ
 refine @aD _ _ _ _ _ _ _ (ae hL) _ _ zq rfl ?_
 repeat' (first|(refine aw zq ?_;try dsimp only)|refine ax zq ?_ (ae hL)|refine az zq ?_|refine ay ?_|refine aq ?_|refine ar ?_|refine av ?_|refine au rfl ?_|refine ai rfl ?_|refine aj rfl ?_|(refine Cd.mk ?_;cbv)|(refine aE.mk ?_;cbv)|(refine aM.mk ?_;cbv)|exact trivial|refine And.intro ?_ ?_|refine bu fun _=>?_|refine br fun _=>?_)
 all_goals
  clear hL zq Z
  try clear hfs
  subst hA hF hG0 hG1
  simp only [Kc.U,VoR.Fs.U,Ar.U] at *
  try (grind [al,oX,eF])
theorem Ds:aA Tryz.prog 96 (Cg Kc.U):=by
 refine aG (af.cons Ev af.nil rfl) Tryz.func96 rfl rfl fun xs h p hp=>?_
 unfold Cg at hp
 split at hp
 ·split at hp
  ·rename_i e0
   cases hp
   have g0:=Rz e0
   subst g0
   exact⟨aB rfl,fun hC _=>@Uy _ _ _ _ _ _ _ _ _ _ _ hC⟩
  ·cases hp
 ·cases hp
noncomputable def rY (F:Kc):aY:=fun xs h=>match xs,h with
 |[.agg [.val (.int .i64 t_p),.val (.int .i64 _),.val (.int .i64 _),.val (.int .i64 _),.val (.bool _),.val (.bool _),.val (.int .i64 _)],.one (.ptr 0 0)],[(0,.cells 3 [.val (.int .i64 p)])]=>some ⟨True,.sa (B (F.WA t_p p)),[(0,.cells 3 [.val (.int .i64 p)])],[Any,.one (.ptr 0 0)]⟩
 |_,_=>none
theorem Se (t_p:Int) (LQ:Int) (t_s:Int) (t_m:Int) (t_t:Bool) (t_b:Bool) (t_o:Int) (p:Int):aV [] Tryz.f108 [.agg [.val (.int .i64 t_p),.val (.int .i64 LQ),.val (.int .i64 t_s),.val (.int .i64 t_m),.val (.bool t_t),.val (.bool t_b),.val (.int .i64 t_o)],.one (.ptr 0 0)] [(0,.cells 3 [.val (.int .i64 p)])] ⟨True,.sa (B (Kc.U.WA t_p p)),[(0,.cells 3 [.val (.int .i64 p)])],[Any,.one (.ptr 0 0)]⟩:=by
 intro b gv
 have hfs:=af.nil
 generalize hF:Kc.U=F at hfs ⊢
 generalize hG0:VoR.Fs.U=G0 at hfs ⊢
 generalize hG1:ViR.Vs.U=G1 at hfs ⊢
 generalize hA:Ar.U=A
 generalize hL:Lp _ _ _=L
 obtain⟨Z,zq⟩:=aQ
 refine @aD _ _ _ _ _ _ _ (ae hL) _ _ zq rfl ?_
 repeat' (first|(refine aw zq ?_;try dsimp only)|refine ax zq ?_ (ae hL)|refine az zq ?_|refine ay ?_|refine aq ?_|refine ar ?_|refine av ?_|refine au rfl ?_|refine ai rfl ?_|refine aj rfl ?_|(refine Cd.mk ?_;cbv)|(refine aE.mk ?_;cbv)|(refine aM.mk ?_;cbv)|exact trivial|refine And.intro ?_ ?_|refine bu fun _=>?_|refine br fun _=>?_)
 all_goals
  clear hL zq Z
  try clear hfs
  subst hA hF hG0 hG1
  simp only [Kc.U,VoR.Fs.U,Ar.U] at *
  try (grind [al])
theorem CP:aA Tryz.prog 108 (rY Kc.U):=by
 refine aG af.nil Tryz.func108 rfl rfl fun xs h p hp=>?_
 unfold rY at hp
 split at hp
 ·cases hp
  exact⟨aB rfl,fun _ _=>@Se _ _ _ _ _ _ _ _⟩
 ·cases hp
theorem DQ:iB (rY Kc.U):=by
 intro xs h p hp
 unfold rY at hp
 split at hp
 ·cases hp
  rfl
 ·cases hp
noncomputable def oI (F:Kc):aY:=fun xs h=>match xs,h with
 |[.one (.own 0),.one (.fn 108 1)],[(0,.row 58 (.ah (.int .i64 (.int .i64 (.int .i64 (.int .i64 (.bool (.bool (.int .i64 .nil))))))) l)),(1,.cells 3 [.val (.int .i64 p)])]=>some ⟨F.lN l=true,.sa (I (F.Gp l p)),[(0,.row 58 (.ah (.int .i64 (.int .i64 (.int .i64 (.int .i64 (.bool (.bool (.int .i64 .nil))))))) l)),(1,.cells 3 [.val (.int .i64 p)])],[.one (.own 0),.one (.fn 108 1)]⟩
 |_,_=>none
theorem RV (l:List E) (p:Int) (hC:Kc.U.lN l=true):aV [(108,rY Kc.U),(bG 108,fy)] Tryz.f107 [.one (.own 0),.one (.fn 108 1)] [(0,.row 58 (.ah (.int .i64 (.int .i64 (.int .i64 (.int .i64 (.bool (.bool (.int .i64 .nil))))))) l)),(1,.cells 3 [.val (.int .i64 p)])] ⟨Kc.U.lN l=true,.sa (I (Kc.U.Gp l p)),[(0,.row 58 (.ah (.int .i64 (.int .i64 (.int .i64 (.int .i64 (.bool (.bool (.int .i64 .nil))))))) l)),(1,.cells 3 [.val (.int .i64 p)])],[.one (.own 0),.one (.fn 108 1)]⟩:=by
 intro b gv
 have hk:l.length≤1000:=of_decide_eq_true (show decide (l.length≤1000)=true from hC)
 have hk6:l.length≤1000000:=by omega
 have hfs:=(af.keeps CP DQ af.nil)
 generalize hF:Kc.U=F at hC hfs ⊢
 generalize hG0:VoR.Fs.U=G0 at hC hfs ⊢
 generalize hG1:ViR.Vs.U=G1 at hC hfs ⊢
 generalize hA:Ar.U=A
 generalize hL:Lp _ _ _=L
 obtain⟨Z,zq⟩:=aQ
 refine @aD _ _ _ _ _ _ _ (ae hL) _ _ zq rfl ?_
 repeat' (first|(refine aw zq ?_;try dsimp only)|refine ax zq ?_ (ae hL)|refine az zq ?_|refine ay ?_|refine aq ?_|refine ar ?_|refine av ?_|refine au rfl ?_|refine ai rfl ?_|refine aj rfl ?_|(refine Cd.mk ?_;cbv)|(refine aE.mk ?_;cbv)|(refine aM.mk ?_;cbv)|exact trivial|refine And.intro ?_ ?_|refine bu fun _=>?_|refine br fun _=>?_)
 subst hL
 refine ba (bx hfs) (WB l p) (fun y=>cC Tryz.f107.ntmps [(0,.own 1),(1,.fn 108 2),(7,.val (.int .i64 (A.dN l))),(8,.val (.int .i64 y.i))] [(1,.row 58 (.ah (.int .i64 (.int .i64 (.int .i64 (.int .i64 (.bool (.bool (.int .i64 .nil))))))) l)),(2,.cells 3 [.val (.int .i64 p)])] [.one (.own 1),.one (.fn 108 2)]) (uB l.length) (xiR 8) ⟨0⟩ ?_ ?_ ?_
 ·exact OH _ _
 ·cbv
  repeat' (first|exact trivial|exact rfl|refine And.intro ?_ ?_)
 rintro⟨i⟩ hq O hO
 have hst:=fun h=>Nq hk6 hq h
 have hen:=fun h=>Te hq h
 have q0:=hq.1
 have q1:=hq.2.1
 dsimp only at q0 q1
 subst hA
 generalize hA:Ar.U=A
 generalize hL:Lp _ _ _=L
 refine aR zq ?_
 repeat' (first|(refine aw zq ?_;try dsimp only)|refine ax zq ?_ (ae hL)|refine az zq ?_|refine ay ?_|refine aq ?_|refine ar ?_|refine av ?_|refine au rfl ?_|refine ai rfl ?_|refine aj rfl ?_|(refine Cd.mk ?_;cbv)|(refine aE.mk ?_;cbv)|(refine aM.mk ?_;cbv)|exact trivial|refine And.intro ?_ ?_|refine bu fun _=>?_|refine br fun _=>?_)
 all_goals first|(show L _ _ _;skip)|(clear hL hfs zq Z hq;subst hA hF hG0 hG1 hO;simp only [Kc.U,VoR.Fs.U,Ar.U] at * <;> grind [al];done)
theorem rj:aA Tryz.prog 107 (oI Kc.U):=by
 refine aG (af.keeps CP DQ af.nil) Tryz.func107 rfl rfl fun xs h p hp=>?_
 unfold oI at hp
 split at hp
 ·cases hp
  exact⟨aB rfl,fun hC _=>@RV _ _ hC⟩
 ·cases hp
theorem ra:iB (oI Kc.U):=by
 intro xs h p hp
 unfold oI at hp
 split at hp
 ·cases hp
  rfl
 ·cases hp
noncomputable def sq (F:Kc):aY:=fun xs h=>match xs with
 |[.one (.ptr 0 0),.one (.val (.int .i64 p))]=>(match vL h with
  |some s=>some ⟨F.gT s=true,.sa (I (F.Gp s.aa p)),(eO s),[.one (.ptr 0 0),Any]⟩
  |none=>none)
 |_=>none
theorem Wt (p:Int) (s:CS) (hC:Kc.U.gT s=true):aV [(107,oI Kc.U),(bG 107,fy)] Tryz.f68 [.one (.ptr 0 0),.one (.val (.int .i64 p))] (eO s) ⟨Kc.U.gT s=true,.sa (I (Kc.U.Gp s.aa p)),(eO s),[.one (.ptr 0 0),Any]⟩:=by
 intro b gv
 have hk:s.aa.length≤1000∧s.q.length≤100000:=of_decide_eq_true (show decide _=true from hC)
 have hfs:=(af.keeps rj ra af.nil)
 generalize hF:Kc.U=F at hC hfs ⊢
 generalize hG0:VoR.Fs.U=G0 at hC hfs ⊢
 generalize hG1:ViR.Vs.U=G1 at hC hfs ⊢
 generalize hA:Ar.U=A
 generalize hL:Lp _ _ _=L
 obtain⟨Z,zq⟩:=aQ
 refine @aD _ _ _ _ _ _ _ (ae hL) _ _ zq rfl ?_
 repeat' (first|(refine aw zq ?_;try dsimp only)|refine ax zq ?_ (ae hL)|refine az zq ?_|refine ay ?_|refine aq ?_|refine ar ?_|refine av ?_|refine au rfl ?_|refine ai rfl ?_|refine aj rfl ?_|(refine Cd.mk ?_;cbv)|(refine aE.mk ?_;cbv)|(refine aM.mk ?_;cbv)|exact trivial|refine And.intro ?_ ?_|refine bu fun _=>?_|refine br fun _=>?_)
 all_goals
  clear hL zq Z
  try clear hfs
  subst hA hF hG0 hG1
  simp only [Kc.U,VoR.Fs.U] at *
  try (grind [al])
theorem oS:aA Tryz.prog 68 (sq Kc.U):=by
 refine aG (af.keeps rj ra af.nil) Tryz.func68 rfl rfl fun xs h p hp=>?_
 unfold sq at hp
 split at hp
 ·split at hp
  ·rename_i e0
   cases hp
   have g0:=cV e0
   subst g0
   exact⟨aB rfl,fun hC _=>@Wt _ _ hC⟩
  ·cases hp
 ·cases hp
theorem oO:iB (sq Kc.U):=by
 intro xs h p hp
 unfold sq at hp
 split at hp
 ·split at hp
  ·rename_i e0
   cases hp
   exact (cV e0).symm
  ·cases hp
 ·cases hp
noncomputable def rL (F:Kc):aY:=fun xs h=>match xs with
 |[.one (.ptr 0 0),.one (.val (.int .i64 p))]=>(match Xr h with
  |some s=>some ⟨F.gT s=true,.sa (I (F.Gp s.aa p)),(uC s),[.one (.ptr 0 0),Any]⟩
  |none=>none)
 |_=>none
theorem Ur (p:Int) (s:CS) (hC:Kc.U.gT s=true):aV [(107,oI Kc.U),(bG 107,fy)] Tryz.f68 [.one (.ptr 0 0),.one (.val (.int .i64 p))] (uC s) ⟨Kc.U.gT s=true,.sa (I (Kc.U.Gp s.aa p)),(uC s),[.one (.ptr 0 0),Any]⟩:=by
 intro b gv
 have hk:s.aa.length≤1000∧s.q.length≤100000:=of_decide_eq_true (show decide _=true from hC)
 have hfs:=(af.keeps rj ra af.nil)
 generalize hF:Kc.U=F at hC hfs ⊢
 generalize hG0:VoR.Fs.U=G0 at hC hfs ⊢
 generalize hG1:ViR.Vs.U=G1 at hC hfs ⊢
 generalize hA:Ar.U=A
 generalize hL:Lp _ _ _=L
 obtain⟨Z,zq⟩:=aQ
 refine @aD _ _ _ _ _ _ _ (ae hL) _ _ zq rfl ?_
 repeat' (first|(refine aw zq ?_;try dsimp only)|refine ax zq ?_ (ae hL)|refine az zq ?_|refine ay ?_|refine aq ?_|refine ar ?_|refine av ?_|refine au rfl ?_|refine ai rfl ?_|refine aj rfl ?_|(refine Cd.mk ?_;cbv)|(refine aE.mk ?_;cbv)|(refine aM.mk ?_;cbv)|exact trivial|refine And.intro ?_ ?_|refine bu fun _=>?_|refine br fun _=>?_)
 all_goals
  clear hL zq Z
  try clear hfs
  subst hA hF hG0 hG1
  simp only [Kc.U,VoR.Fs.U] at *
  try (grind [al])
theorem Dc:aA Tryz.prog 68 (rL Kc.U):=by
 refine aG (af.keeps rj ra af.nil) Tryz.func68 rfl rfl fun xs h p hp=>?_
 unfold rL at hp
 split at hp
 ·split at hp
  ·rename_i e0
   cases hp
   have g0:=yd e0
   subst g0
   exact⟨aB rfl,fun hC _=>@Ur _ _ hC⟩
  ·cases hp
 ·cases hp
theorem Co:iB (rL Kc.U):=by
 intro xs h p hp
 unfold rL at hp
 split at hp
 ·split at hp
  ·rename_i e0
   cases hp
   exact (yd e0).symm
  ·cases hp
 ·cases hp
noncomputable def rU (F:Kc):aY:=fun xs h=>match xs with
 |[.one (.ptr 0 0)]=>(match vL h with
  |some s=>some ⟨F.gT s=true,.sa (.one (.sl none (.ints .i64 (F.lB s.aa s.p)))),(eO s),[.one (.ptr 0 0)]⟩
  |none=>none)
 |_=>none
theorem SO (s:CS) (hC:Kc.U.gT s=true):aV [] Tryz.f95 [.one (.ptr 0 0)] (eO s) ⟨Kc.U.gT s=true,.sa (.one (.sl none (.ints .i64 (Kc.U.lB s.aa s.p)))),(eO s),[.one (.ptr 0 0)]⟩:=by
 intro b gv
 have hk:s.aa.length≤1000∧s.q.length≤100000:=of_decide_eq_true (show decide _=true from hC)
 have hk6:s.aa.length≤1000000:=by omega
 have hfs:=af.nil
 generalize hF:Kc.U=F at hC hfs ⊢
 generalize hG0:VoR.Fs.U=G0 at hC hfs ⊢
 generalize hG1:ViR.Vs.U=G1 at hC hfs ⊢
 generalize hA:Ar.U=A
 generalize hL:Lp _ _ _=L
 obtain⟨Z,zq⟩:=aQ
 refine @aD _ _ _ _ _ _ _ (ae hL) _ _ zq rfl ?_
 repeat' (first|(refine aw zq ?_;try dsimp only)|refine ax zq ?_ (ae hL)|refine az zq ?_|refine ay ?_|refine aq ?_|refine ar ?_|refine av ?_|refine au rfl ?_|refine ai rfl ?_|refine aj rfl ?_|(refine Cd.mk ?_;cbv)|(refine aE.mk ?_;cbv)|(refine aM.mk ?_;cbv)|exact trivial|refine And.intro ?_ ?_|refine bu fun _=>?_|refine br fun _=>?_)
 subst hL
 refine ba (bx hfs) (QV s.aa s.p) (fun y=>cC Tryz.f95.ntmps [(0,.ptr 1 0),(3,.sl (some (4,3)) (.ints .i64 y.o)),(10,.own 2),(11,.val (.int .i64 (A.dN s.aa))),(12,.val (.int .i64 y.i))] [(1,.cells 75 [.val (.int .i64 s.i),.val (.int .i64 s.ee),.val (.int .i64 s.er),.val (.int .i64 s.t),.val (.int .i64 s.p),.own 2,.sl none (.ints .i64 s.w),.sl none (.ints .i64 s.gn),.sl none (.ah (.int .i64 (.int .i64 (.int .i64 (.int .i64 (.bool .nil))))) s.gl),.val (.int .i64 s.ph),.sl none (.ints .i64 s.tn),.sl none (.ah (.int .i64 (.int .i64 (.int .i64 (.int .i64 (.bool .nil))))) s.tl),.val (.int .i64 s.l),.val (.bool s.o),.sl (some (3,89)) (.ah (.int .i64 (.int .i64 (.int .i64 (.int .i64 (.ints .i64 (.ah (.int .i64 (.int .i64 (.int .i64 (.int .i64 (.bool .nil))))) (.int .i64 (.int .i64 (.int .i64 (.int .i64 .nil)))))))))) s.q)]),(2,.row 58 (.ah (.int .i64 (.int .i64 (.int .i64 (.int .i64 (.bool (.bool (.int .i64 .nil))))))) s.aa)),(3,.tok),(4,.tok)] [.one (.ptr 1 0)]) (YI s.aa) (xlR 12 3) ⟨0,[]⟩ ?_ ?_ ?_
 ·exact CZ _ _
 ·cbv
  repeat' (first|exact trivial|exact rfl|refine And.intro ?_ ?_)
 rintro⟨i,o⟩ hq O hO
 have hst:=fun h=>DW hk6 hq h
 have hen:=fun h=>Iw hq h
 have q0:=hq.1
 have q1:=hq.2.1
 dsimp only at q0 q1
 subst hA
 generalize hA:Ar.U=A
 generalize hL:Lp _ _ _=L
 refine aR zq ?_
 repeat' (first|(refine aw zq ?_;try dsimp only)|refine ax zq ?_ (ae hL)|refine az zq ?_|refine ay ?_|refine aq ?_|refine ar ?_|refine av ?_|refine au rfl ?_|refine ai rfl ?_|refine aj rfl ?_|(refine Cd.mk ?_;cbv)|(refine aE.mk ?_;cbv)|(refine aM.mk ?_;cbv)|exact trivial|refine And.intro ?_ ?_|refine bu fun _=>?_|refine br fun _=>?_)
 all_goals first|(show L _ _ _;skip)|(clear hL zq Z hq;subst hA hF hG0 hG1 hO;simp only [Kc.U,VoR.Fs.U,Ar.U] at * <;> grind [al];done)
theorem Ea:aA Tryz.prog 95 (rU Kc.U):=by
 refine aG af.nil Tryz.func95 rfl rfl fun xs h p hp=>?_
 unfold rU at hp
 split at hp
 ·split at hp
  ·rename_i e0
   cases hp
   have g0:=cV e0
   subst g0
   exact⟨aB rfl,fun hC _=>@SO _ hC⟩
  ·cases hp
 ·cases hp
theorem Em:iB (rU Kc.U):=by
 intro xs h p hp
 unfold rU at hp
 split at hp
 ·split at hp
  ·rename_i e0
   cases hp
   exact (cV e0).symm
  ·cases hp
 ·cases hp
noncomputable def nf (F:Kc):aY:=fun xs h=>match xs,h with
 |[.one (.ptr 0 0)],[(0,.cells 75 [.val (.int .i64 s_i),.val (.int .i64 s_ee),.val (.int .i64 s_er),.val (.int .i64 s_t),.val (.int .i64 s_p),.own 1,.val (.slice none 0 0),.val (.slice none 0 0),.val (.slice none 0 0),.val (.int .i64 s_ph),.val (.slice none 0 0),.val (.slice none 0 0),.val (.int .i64 AE),.val (.bool s_o),.sl (some (2,89)) (.ah (.int .i64 (.int .i64 (.int .i64 (.int .i64 (.ints .i64 (.ah (.int .i64 (.int .i64 (.int .i64 (.int .i64 (.bool .nil))))) (.int .i64 (.int .i64 (.int .i64 (.int .i64 .nil)))))))))) s_q)]),(1,.row 58 (.ah (.int .i64 (.int .i64 (.int .i64 (.int .i64 (.bool (.bool (.int .i64 .nil))))))) s_ties)),(2,.tok)]=>some ⟨F.gT ⟨s_i,s_ee,s_er,s_t,s_p,s_ties,[],[],[],s_ph,[],[],AE,s_o,s_q⟩=true,.sa (.one (.sl none (.ints .i64 (F.lB s_ties s_p)))),[(0,.cells 75 [.val (.int .i64 s_i),.val (.int .i64 s_ee),.val (.int .i64 s_er),.val (.int .i64 s_t),.val (.int .i64 s_p),.own 1,.val (.slice none 0 0),.val (.slice none 0 0),.val (.slice none 0 0),.val (.int .i64 s_ph),.val (.slice none 0 0),.val (.slice none 0 0),.val (.int .i64 AE),.val (.bool s_o),.sl (some (2,89)) (.ah (.int .i64 (.int .i64 (.int .i64 (.int .i64 (.ints .i64 (.ah (.int .i64 (.int .i64 (.int .i64 (.int .i64 (.bool .nil))))) (.int .i64 (.int .i64 (.int .i64 (.int .i64 .nil)))))))))) s_q)]),(1,.row 58 (.ah (.int .i64 (.int .i64 (.int .i64 (.int .i64 (.bool (.bool (.int .i64 .nil))))))) s_ties)),(2,.tok)],[.one (.ptr 0 0)]⟩
 |_,_=>none
theorem Nj (s_i:Int) (s_ee:Int) (s_er:Int) (s_t:Int) (s_p:Int) (s_ties:List E) (s_ph:Int) (AE:Int) (s_o:Bool) (s_q:List E) (hC:Kc.U.gT ⟨s_i,s_ee,s_er,s_t,s_p,s_ties,[],[],[],s_ph,[],[],AE,s_o,s_q⟩=true):aV [] Tryz.f95 [.one (.ptr 0 0)] [(0,.cells 75 [.val (.int .i64 s_i),.val (.int .i64 s_ee),.val (.int .i64 s_er),.val (.int .i64 s_t),.val (.int .i64 s_p),.own 1,.val (.slice none 0 0),.val (.slice none 0 0),.val (.slice none 0 0),.val (.int .i64 s_ph),.val (.slice none 0 0),.val (.slice none 0 0),.val (.int .i64 AE),.val (.bool s_o),.sl (some (2,89)) (.ah (.int .i64 (.int .i64 (.int .i64 (.int .i64 (.ints .i64 (.ah (.int .i64 (.int .i64 (.int .i64 (.int .i64 (.bool .nil))))) (.int .i64 (.int .i64 (.int .i64 (.int .i64 .nil)))))))))) s_q)]),(1,.row 58 (.ah (.int .i64 (.int .i64 (.int .i64 (.int .i64 (.bool (.bool (.int .i64 .nil))))))) s_ties)),(2,.tok)] ⟨Kc.U.gT ⟨s_i,s_ee,s_er,s_t,s_p,s_ties,[],[],[],s_ph,[],[],AE,s_o,s_q⟩=true,.sa (.one (.sl none (.ints .i64 (Kc.U.lB s_ties s_p)))),[(0,.cells 75 [.val (.int .i64 s_i),.val (.int .i64 s_ee),.val (.int .i64 s_er),.val (.int .i64 s_t),.val (.int .i64 s_p),.own 1,.val (.slice none 0 0),.val (.slice none 0 0),.val (.slice none 0 0),.val (.int .i64 s_ph),.val (.slice none 0 0),.val (.slice none 0 0),.val (.int .i64 AE),.val (.bool s_o),.sl (some (2,89)) (.ah (.int .i64 (.int .i64 (.int .i64 (.int .i64 (.ints .i64 (.ah (.int .i64 (.int .i64 (.int .i64 (.int .i64 (.bool .nil))))) (.int .i64 (.int .i64 (.int .i64 (.int .i64 .nil)))))))))) s_q)]),(1,.row 58 (.ah (.int .i64 (.int .i64 (.int .i64 (.int .i64 (.bool (.bool (.int .i64 .nil))))))) s_ties)),(2,.tok)],[.one (.ptr 0 0)]⟩:=by
 intro b gv
 have hk:s_ties.length≤1000∧s_q.length≤100000:=of_decide_eq_true (show decide _=true from hC)
 have hk6:s_ties.length≤1000000:=by omega
 have hfs:=af.nil
 generalize hF:Kc.U=F at hC hfs ⊢
 generalize hG0:VoR.Fs.U=G0 at hC hfs ⊢
 generalize hG1:ViR.Vs.U=G1 at hC hfs ⊢
 generalize hA:Ar.U=A
 generalize hL:Lp _ _ _=L
 obtain⟨Z,zq⟩:=aQ
 refine @aD _ _ _ _ _ _ _ (ae hL) _ _ zq rfl ?_
 repeat' (first|(refine aw zq ?_;try dsimp only)|refine ax zq ?_ (ae hL)|refine az zq ?_|refine ay ?_|refine aq ?_|refine ar ?_|refine av ?_|refine au rfl ?_|refine ai rfl ?_|refine aj rfl ?_|(refine Cd.mk ?_;cbv)|(refine aE.mk ?_;cbv)|(refine aM.mk ?_;cbv)|exact trivial|refine And.intro ?_ ?_|refine bu fun _=>?_|refine br fun _=>?_)
 subst hL
 refine ba (bx hfs) (QV s_ties s_p) (fun y=>cC Tryz.f95.ntmps [(0,.ptr 1 0),(3,.sl (some (4,3)) (.ints .i64 y.o)),(10,.own 2),(11,.val (.int .i64 (A.dN s_ties))),(12,.val (.int .i64 y.i))] [(1,.cells 75 [.val (.int .i64 s_i),.val (.int .i64 s_ee),.val (.int .i64 s_er),.val (.int .i64 s_t),.val (.int .i64 s_p),.own 2,.val (.slice none 0 0),.val (.slice none 0 0),.val (.slice none 0 0),.val (.int .i64 s_ph),.val (.slice none 0 0),.val (.slice none 0 0),.val (.int .i64 AE),.val (.bool s_o),.sl (some (3,89)) (.ah (.int .i64 (.int .i64 (.int .i64 (.int .i64 (.ints .i64 (.ah (.int .i64 (.int .i64 (.int .i64 (.int .i64 (.bool .nil))))) (.int .i64 (.int .i64 (.int .i64 (.int .i64 .nil)))))))))) s_q)]),(2,.row 58 (.ah (.int .i64 (.int .i64 (.int .i64 (.int .i64 (.bool (.bool (.int .i64 .nil))))))) s_ties)),(3,.tok),(4,.tok)] [.one (.ptr 1 0)]) (YI s_ties) (xlR 12 3) ⟨0,[]⟩ ?_ ?_ ?_
 ·exact CZ _ _
 ·cbv
  repeat' (first|exact trivial|exact rfl|refine And.intro ?_ ?_)
 rintro⟨i,o⟩ hq O hO
 have hst:=fun h=>DW hk6 hq h
 have hen:=fun h=>Iw hq h
 have q0:=hq.1
 have q1:=hq.2.1
 dsimp only at q0 q1
 subst hA
 generalize hA:Ar.U=A
 generalize hL:Lp _ _ _=L
 refine aR zq ?_
 repeat' (first|(refine aw zq ?_;try dsimp only)|refine ax zq ?_ (ae hL)|refine az zq ?_|refine ay ?_|refine aq ?_|refine ar ?_|refine av ?_|refine au rfl ?_|refine ai rfl ?_|refine aj rfl ?_|(refine Cd.mk ?_;cbv)|(refine aE.mk ?_;cbv)|(refine aM.mk ?_;cbv)|exact trivial|refine And.intro ?_ ?_|refine bu fun _=>?_|refine br fun _=>?_)
 all_goals first|(show L _ _ _;skip)|(clear hL zq Z hq;subst hA hF hG0 hG1 hO;simp only [Kc.U,VoR.Fs.U,Ar.U] at * <;> grind [al];done)
theorem Ab:aA Tryz.prog 95 (nf Kc.U):=by
 refine aG af.nil Tryz.func95 rfl rfl fun xs h p hp=>?_
 unfold nf at hp
 split at hp
 ·cases hp
  exact⟨aB rfl,fun hC _=>@Nj _ _ _ _ _ _ _ _ _ _ hC⟩
 ·cases hp
theorem zA:iB (nf Kc.U):=by
 intro xs h p hp
 unfold nf at hp
 split at hp
 ·cases hp
  rfl
 ·cases hp
noncomputable def GV (F:Kc):aY:=fun xs h=>match xs,h with
 |[.agg [.val (.int .i64 _),.val (.int .i64 _),.val (.int .i64 _),.val (.int .i64 t_m),.val (.bool _),.val (.bool _),.val (.int .i64 _)]],[]=>some ⟨True,.sa (B (F.YQ t_m)),[],[Any]⟩
 |_,_=>none
theorem WQ (t_p:Int) (LQ:Int) (t_s:Int) (t_m:Int) (t_t:Bool) (t_b:Bool) (t_o:Int):aV [] Tryz.f150 [.agg [.val (.int .i64 t_p),.val (.int .i64 LQ),.val (.int .i64 t_s),.val (.int .i64 t_m),.val (.bool t_t),.val (.bool t_b),.val (.int .i64 t_o)]] [] ⟨True,.sa (B (Kc.U.YQ t_m)),[],[Any]⟩:=by
 intro b gv
 have hfs:=af.nil
 generalize hF:Kc.U=F at hfs ⊢
 generalize hG0:VoR.Fs.U=G0 at hfs ⊢
 generalize hG1:ViR.Vs.U=G1 at hfs ⊢
 generalize hA:Ar.U=A
 generalize hL:Lp _ _ _=L
 obtain⟨Z,zq⟩:=aQ
 refine @aD _ _ _ _ _ _ _ (ae hL) _ _ zq rfl ?_
 repeat' (first|(refine aw zq ?_;try dsimp only)|refine ax zq ?_ (ae hL)|refine az zq ?_|refine ay ?_|refine aq ?_|refine ar ?_|refine av ?_|refine au rfl ?_|refine ai rfl ?_|refine aj rfl ?_|(refine Cd.mk ?_;cbv)|(refine aE.mk ?_;cbv)|(refine aM.mk ?_;cbv)|exact trivial|refine And.intro ?_ ?_|refine bu fun _=>?_|refine br fun _=>?_)
 all_goals
  clear hL zq Z
  try clear hfs
  subst hA hF hG0 hG1
  simp only [Kc.U,VoR.Fs.U,Ar.U] at *
  try (grind [al])
theorem Jn:aA Tryz.prog 150 (GV Kc.U):=by
 refine aG af.nil Tryz.func150 rfl rfl fun xs h p hp=>?_
 unfold GV at hp
 split at hp
 ·cases hp
  exact⟨aB rfl,fun _ _=>@WQ _ _ _ _ _ _ _⟩
 ·cases hp
noncomputable def BF (F:Kc):aY:=fun xs h=>match xs,h with
 |[.one (.sl none (.ah (.int .i64 (.int .i64 (.int .i64 (.int .i64 (.bool (.bool (.int .i64 .nil))))))) l)),.one (.val (.func (.func 150) ⟨[]⟩ ⟨[]⟩))],[]=>some ⟨F.lN l=true,.sa (I (F.Qr l)),[],[Any,Any]⟩
 |_,_=>none
theorem SE (l:List E) (hC:Kc.U.lN l=true):aV [(150,GV Kc.U)] Tryz.f107 [.one (.sl none (.ah (.int .i64 (.int .i64 (.int .i64 (.int .i64 (.bool (.bool (.int .i64 .nil))))))) l)),.one (.val (.func (.func 150) ⟨[]⟩ ⟨[]⟩))] [] ⟨Kc.U.lN l=true,.sa (I (Kc.U.Qr l)),[],[Any,Any]⟩:=by
 intro b gv
 have hk:l.length≤1000:=of_decide_eq_true (show decide (l.length≤1000)=true from hC)
 have hk6:l.length≤1000000:=by omega
 have hfs:=(af.cons Jn af.nil rfl)
 generalize hF:Kc.U=F at hC hfs ⊢
 generalize hG0:VoR.Fs.U=G0 at hC hfs ⊢
 generalize hG1:ViR.Vs.U=G1 at hC hfs ⊢
 generalize hA:Ar.U=A
 generalize hL:Lp _ _ _=L
 obtain⟨Z,zq⟩:=aQ
 refine @aD _ _ _ _ _ _ _ (ae hL) _ _ zq rfl ?_
 repeat' (first|(refine aw zq ?_;try dsimp only)|refine ax zq ?_ (ae hL)|refine az zq ?_|refine ay ?_|refine aq ?_|refine ar ?_|refine av ?_|refine au rfl ?_|refine ai rfl ?_|refine aj rfl ?_|(refine Cd.mk ?_;cbv)|(refine aE.mk ?_;cbv)|(refine aM.mk ?_;cbv)|exact trivial|refine And.intro ?_ ?_|refine bu fun _=>?_|refine br fun _=>?_)
 subst hL
 refine ba (bx hfs) (Xt l) (fun y=>cC Tryz.f107.ntmps [(0,.sl none (.ah (.int .i64 (.int .i64 (.int .i64 (.int .i64 (.bool (.bool (.int .i64 .nil))))))) l)),(1,.val (.func (.func 150) ⟨[]⟩ ⟨[]⟩)),(7,.val (.int .i64 (A.dN l))),(8,.val (.int .i64 y.i))] [] [Any,Any]) (uB l.length) (xiR 8) ⟨0⟩ ?_ ?_ ?_
 ·exact MA _
 ·cbv
  repeat' (first|exact trivial|exact rfl|refine And.intro ?_ ?_)
 rintro⟨i⟩ hq O hO
 have hst:=fun h=>My hk6 hq h
 have hen:=fun h=>RS hq h
 have q0:=hq.1
 have q1:=hq.2.1
 dsimp only at q0 q1
 subst hA
 generalize hA:Ar.U=A
 generalize hL:Lp _ _ _=L
 refine aR zq ?_
 repeat' (first|(refine aw zq ?_;try dsimp only)|refine ax zq ?_ (ae hL)|refine az zq ?_|refine ay ?_|refine aq ?_|refine ar ?_|refine av ?_|refine au rfl ?_|refine ai rfl ?_|refine aj rfl ?_|(refine Cd.mk ?_;cbv)|(refine aE.mk ?_;cbv)|(refine aM.mk ?_;cbv)|exact trivial|refine And.intro ?_ ?_|refine bu fun _=>?_|refine br fun _=>?_)
 all_goals first|(show L _ _ _;skip)|(clear hL hfs zq Z hq;subst hA hF hG0 hG1 hO;simp only [Kc.U,VoR.Fs.U,Ar.U] at * <;> grind [al];done)
theorem Dt:aA Tryz.prog 107 (BF Kc.U):=by
 refine aG (af.cons Jn af.nil rfl) Tryz.func107 rfl rfl fun xs h p hp=>?_
 unfold BF at hp
 split at hp
 ·cases hp
  exact⟨aB rfl,fun hC _=>@SE _ hC⟩
 ·cases hp
noncomputable def yg (F:Kc):aY:=fun xs h=>match xs,h with
 |[.one (.sl none (.ah (.int .i64 (.int .i64 (.int .i64 (.int .i64 (.bool (.bool (.int .i64 .nil))))))) l)),.one (.val (.func (.func 150) ⟨[]⟩ ⟨[]⟩))],[]=>some ⟨F.lN l=true,.sa (B (F.MP l)),[],[Any,Any]⟩
 |_,_=>none
theorem Mz (l:List E) (hC:Kc.U.lN l=true):aV [(107,BF Kc.U)] Tryz.f124 [.one (.sl none (.ah (.int .i64 (.int .i64 (.int .i64 (.int .i64 (.bool (.bool (.int .i64 .nil))))))) l)),.one (.val (.func (.func 150) ⟨[]⟩ ⟨[]⟩))] [] ⟨Kc.U.lN l=true,.sa (B (Kc.U.MP l)),[],[Any,Any]⟩:=by
 intro b gv
 have hk:l.length≤1000:=of_decide_eq_true (show decide (l.length≤1000)=true from hC)
 have hk6:l.length≤1000000:=by omega
 have hh:=Wf l
 have hfs:=(af.cons Dt af.nil rfl)
 generalize hF:Kc.U=F at hC hfs ⊢
 generalize hG0:VoR.Fs.U=G0 at hC hfs ⊢
 generalize hG1:ViR.Vs.U=G1 at hC hfs ⊢
 generalize hA:Ar.U=A
 generalize hL:Lp _ _ _=L
 obtain⟨Z,zq⟩:=aQ
 refine @aD _ _ _ _ _ _ _ (ae hL) _ _ zq rfl ?_
 repeat' (first|(refine aw zq ?_;try dsimp only)|refine ax zq ?_ (ae hL)|refine az zq ?_|refine ay ?_|refine aq ?_|refine ar ?_|refine av ?_|refine au rfl ?_|refine ai rfl ?_|refine aj rfl ?_|(refine Cd.mk ?_;cbv)|(refine aE.mk ?_;cbv)|(refine aM.mk ?_;cbv)|exact trivial|refine And.intro ?_ ?_|refine bu fun _=>?_|refine br fun _=>?_)
 all_goals
  clear hL zq Z
  try clear hfs
  subst hA hF hG0 hG1
  simp only [Kc.U,VoR.Fs.U,Ar.U] at *
  try (grind [al])
theorem Ae:aA Tryz.prog 124 (yg Kc.U):=by
 refine aG (af.cons Dt af.nil rfl) Tryz.func124 rfl rfl fun xs h p hp=>?_
 unfold yg at hp
 split at hp
 ·cases hp
  exact⟨aB rfl,fun hC _=>@Mz _ hC⟩
 ·cases hp
noncomputable def sG (F:Kc):aY:=fun xs h=>match xs with
 |[.one (.ptr 0 0)]=>(match vL h with
  |some s=>some ⟨F.gT s=true,.sa (B (F.MP s.aa)),(eO s),[.one (.ptr 0 0)]⟩
  |none=>none)
 |_=>none
theorem Uw (s:CS) (hC:Kc.U.gT s=true):aV [(124,yg Kc.U)] Tryz.f126 [.one (.ptr 0 0)] (eO s) ⟨Kc.U.gT s=true,.sa (B (Kc.U.MP s.aa)),(eO s),[.one (.ptr 0 0)]⟩:=by
 intro b gv
 have hk:s.aa.length≤1000∧s.q.length≤100000:=of_decide_eq_true (show decide _=true from hC)
 have hfs:=(af.cons Ae af.nil rfl)
 generalize hF:Kc.U=F at hC hfs ⊢
 generalize hG0:VoR.Fs.U=G0 at hC hfs ⊢
 generalize hG1:ViR.Vs.U=G1 at hC hfs ⊢
 generalize hA:Ar.U=A
 generalize hL:Lp _ _ _=L
 obtain⟨Z,zq⟩:=aQ
 refine @aD _ _ _ _ _ _ _ (ae hL) _ _ zq rfl ?_
 repeat' (first|(refine aw zq ?_;try dsimp only)|refine ax zq ?_ (ae hL)|refine az zq ?_|refine ay ?_|refine aq ?_|refine ar ?_|refine av ?_|refine au rfl ?_|refine ai rfl ?_|refine aj rfl ?_|(refine Cd.mk ?_;cbv)|(refine aE.mk ?_;cbv)|(refine aM.mk ?_;cbv)|exact trivial|refine And.intro ?_ ?_|refine bu fun _=>?_|refine br fun _=>?_)
 all_goals
  clear hL zq Z
  try clear hfs
  subst hA hF hG0 hG1
  simp only [Kc.U,VoR.Fs.U] at *
  try (grind [al])
theorem DK:aA Tryz.prog 126 (sG Kc.U):=by
 refine aG (af.cons Ae af.nil rfl) Tryz.func126 rfl rfl fun xs h p hp=>?_
 unfold sG at hp
 split at hp
 ·split at hp
  ·rename_i e0
   cases hp
   have g0:=cV e0
   subst g0
   exact⟨aB rfl,fun hC _=>@Uw _ hC⟩
  ·cases hp
 ·cases hp
theorem CE:iB (sG Kc.U):=by
 intro xs h p hp
 unfold sG at hp
 split at hp
 ·split at hp
  ·rename_i e0
   cases hp
   exact (cV e0).symm
  ·cases hp
 ·cases hp
end Go.Proofs.YtelhldgdnlppfaaGreat.KsC
