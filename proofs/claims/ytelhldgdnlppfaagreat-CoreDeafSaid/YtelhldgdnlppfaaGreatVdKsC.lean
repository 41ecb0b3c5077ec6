/-
  what a core's step is made of: new memory,words,ae,vows. No condition but size.
-/
import Derived.Test.YtelhldgdnlppfaaGreatVdKsS
import Derived.Test.YtelhldgdnlppfaaGreatVdRyOp
import Derived.Test.YtelhldgdnlppfaaGreatVdW16
set_option maxHeartbeats 4000000
set_option cbv.maxSteps 4000000
set_option maxRecDepth 100000
namespace Go.Proofs.YtelhldgdnlppfaaGreat.KsC
open Go Ry ViR VoR KsS Cmp
structure XI where
 i:Int
def Zy (k:Nat) (st:St):XI:=⟨bQ st k⟩
def pA (n:Nat) (y:XI):Nat:=n - y.i.toNat
structure XQ where
 i:Int
 q:List E
def zc (st:St) (n j:Nat):List E :=
 match ak st.heap n with
 |some (.cells _ cs)=>(match cs[j]? with
  |some (.sl _ (.ah _ l))=>l
  |_=>[])
 |_=>[]
def Qk (k n:Nat) (st:St):XQ:=⟨bQ st k,zc st n 14⟩
def VD (l:List E) (p:Int) (y:XI):Prop:=0≤y.i∧y.i≤l.length∧∀ k:Nat,k < y.i→¬ri (l.getD k []) 0=p
theorem Dm (l:List E) (p:Int):VD l p ⟨0⟩:=⟨Int.le_refl 0,Int.natCast_nonneg _,fun k h=>by simp only at h;omega⟩
theorem getD_in {l:List E} {k:Nat} (h:k < l.length):l.getD k []=l[k]:=by rw [List.getD_eq_getElem?_getD,List.getElem?_eq_getElem h];rfl
theorem DC {l:List E} (hl:l.length≤1000000) {p i:Int} (hq:VD l p ⟨i⟩) (h:i < l.length):aN .add .i64 i 1=i+1∧pA l.length ⟨i+1⟩ < pA l.length ⟨i⟩∧(¬ri (l.getD i.toNat []) 0=p→VD l p ⟨i+1⟩)∧(ri (l.getD i.toNat []) 0=p→dn l p=i):=by
 obtain⟨h0,h1,h2⟩:=hq
 simp only at h0 h1 h2
 have hi:i.toNat < l.length:=by omega
 refine⟨by rw [bp,wr _ (by omega) (by omega)],by simp only [pA];omega,fun g=>⟨by simp only;omega,by simp only;omega,fun k hk=>?_⟩,fun g=>?_⟩
 ·simp only at hk
  by_cases c:k=i.toNat
  ·rw [c]
   exact g
  ·exact h2 k (by omega)
 ·have hg:=getD_in hi
  have e:l.findIdx (fun y=>decide (ri y 0=p))=i.toNat:=(List.findIdx_eq hi).2 ⟨by rw [← hg];exact decide_eq_true g,fun j hj=>by
   have:=h2 j (by omega)
   rw [getD_in (show j < l.length by omega)] at this
   exact decide_eq_false this⟩
  unfold dn
  rw [e,if_pos (List.any_eq_true.2 ⟨l[i.toNat],List.getElem_mem hi,by rw [← hg];exact decide_eq_true g⟩)]
  omega
theorem Js {l:List E} {p i:Int} (hq:VD l p ⟨i⟩) (h:¬i < l.length):dn l p = -1:=by
 obtain⟨h0,h1,h2⟩:=hq
 simp only at h0 h1 h2
 unfold dn
 rw [if_neg]
 intro hc
 obtain⟨y,hy,hp⟩:=List.any_eq_true.1 hc
 obtain⟨k,hk,rfl⟩:=List.getElem_of_mem hy
 have:=h2 k (by omega)
 rw [getD_in hk] at this
 exact this (of_decide_eq_true hp)
theorem lI (l:List E) (p:Int) : -1≤dn l p∧dn l p < l.length:=by
 unfold dn
 split
 ·rename_i h
  have:l.findIdx (fun y=>decide (ri y 0=p)) < l.length:=by
   rw [List.findIdx_lt_length]
   obtain⟨y,hy,hp⟩:=List.any_eq_true.1 h
   exact⟨y,hy,hp⟩
  omega
 ·omega
def Me (l:List E):Int:=if uO l=true then (l.findIdx fun y=>!decide (ri y 3=0):Nat) else -1
def Yy (l:List E) (y:XI):Prop:=0≤y.i∧y.i≤l.length∧∀ k:Nat,k < y.i→ri (l.getD k []) 3=0
theorem Qd (l:List E):Yy l ⟨0⟩:=⟨Int.le_refl 0,Int.natCast_nonneg _,fun k h=>by simp only at h;omega⟩
theorem MX {l:List E} (hl:l.length≤1000000) {i:Int} (hq:Yy l ⟨i⟩) (h:i < l.length):aN .add .i64 i 1=i+1∧pA l.length ⟨i+1⟩ < pA l.length ⟨i⟩∧(ri (l.getD i.toNat []) 3=0→Yy l ⟨i+1⟩)∧(¬ri (l.getD i.toNat []) 3=0→Me l=i):=by
 obtain⟨h0,h1,h2⟩:=hq
 simp only at h0 h1 h2
 have hi:i.toNat < l.length:=by omega
 refine⟨by rw [bp,wr _ (by omega) (by omega)],by simp only [pA];omega,fun g=>⟨by simp only;omega,by simp only;omega,fun k hk=>?_⟩,fun g=>?_⟩
 ·simp only at hk
  by_cases c:k=i.toNat
  ·rw [c]
   exact g
  ·exact h2 k (by omega)
 ·have hg:=getD_in hi
  have e:l.findIdx (fun y=>!decide (ri y 3=0))=i.toNat:=(List.findIdx_eq hi).2 ⟨by rw [← hg,decide_eq_false g];rfl,fun j hj=>by
   have:=h2 j (by omega)
   rw [getD_in (show j < l.length by omega)] at this
   rw [decide_eq_true this]
   rfl⟩
  unfold Me uO
  rw [e,if_pos (List.any_eq_true.2 ⟨l[i.toNat],List.getElem_mem hi,by rw [← hg,decide_eq_false g];rfl⟩)]
  omega
theorem TE {l:List E} {i:Int} (hq:Yy l ⟨i⟩) (h:¬i < l.length):Me l = -1:=by
 obtain⟨h0,h1,h2⟩:=hq
 simp only at h0 h1 h2
 unfold Me uO
 rw [if_neg]
 intro hc
 obtain⟨y,hy,hp⟩:=List.any_eq_true.1 hc
 obtain⟨k,hk,rfl⟩:=List.getElem_of_mem hy
 have:=h2 k (by omega)
 rw [getD_in hk] at this
 rw [decide_eq_true this] at hp
 cases hp
theorem Xa (l:List E):(uO l=true→¬Me l < 0)∧(uO l=false→Me l < 0):=by
 unfold Me
 constructor
 ·intro h
  rw [if_pos h]
  omega
 ·intro h
  rw [if_neg (by rw [h];decide)]
  omega
structure XL where
 i:Int
 o:List Int
def slL (st:St) (k:Nat):List Int:=match kE st k with | .sl _ (.ints _ l)=>l|_=>[]
def xlR (k j:Nat) (st:St):XL:=⟨bQ st k,slL st j⟩
def Qx (l:List E) (p:Int) (y:XL):Prop:=0≤y.i∧y.i≤l.length∧y.o=cw (l.take y.i.toNat) p
def Zs (l:List E) (y:XL):Nat:=l.length - y.i.toNat
theorem CJ (l:List E) (p:Int):Qx l p ⟨0,[]⟩:=⟨Int.le_refl 0,Int.natCast_nonneg _,rfl⟩
theorem qH (l:List E) {i:Int} (h0:0≤i) (h:i < l.length):l.take (i+1).toNat=l.take i.toNat ++ [l.getD i.toNat []]:=by
 have hi:i.toNat < l.length:=by omega
 rw [show (i+1).toNat=i.toNat+1 by omega,List.take_add_one,List.getElem?_eq_getElem hi,getD_in hi]
 rfl
theorem DH {l:List E} (hl:l.length≤1000000) {p i:Int} {o:List Int} (hq:Qx l p ⟨i,o⟩) (h:i < l.length):aN .add .i64 i 1=i+1∧(∀ o',Zs l ⟨i+1,o'⟩ < Zs l ⟨i,o⟩)∧o.length≤1000000 ∧
  (rb (l.getD i.toNat []) 5=true→¬ri (l.getD i.toNat []) 0=p→Qx l p ⟨i+1,o ++ [ri (l.getD i.toNat []) 0]⟩)∧(rb (l.getD i.toNat []) 5=true→ri (l.getD i.toNat []) 0=p→Qx l p ⟨i+1,o⟩)∧(rb (l.getD i.toNat []) 5=false→Qx l p ⟨i+1,o⟩):=by
 obtain⟨h0,h1,h2⟩:=hq
 simp only at h0 h1 h2
 have ht:=qH l h0 h
 have hs:∀ y,cw (l.take i.toNat ++ [y]) p=cw (l.take i.toNat) p ++ (if uJ p y=true then [ri y 0] else []):=fun y=>by
  unfold cw
  rw [List.filter_append,List.map_append]
  by_cases g:uJ p y=true
  ·rw [if_pos g,List.filter_cons_of_pos g]
   rfl
  ·rw [if_neg g,List.filter_cons_of_neg g]
   rfl
 have hlen:o.length≤1000000:=by
  rw [h2]
  unfold cw
  rw [List.length_map]
  have h3:=List.length_filter_le (uJ p) (l.take i.toNat)
  rw [List.length_take] at h3
  omega
 refine⟨by rw [bp,wr _ (by omega) (by omega)],fun o'=>by simp only [Zs];omega,hlen,fun g1 g2=>⟨by simp only;omega,by simp only;omega,?_⟩,fun g1 g2=>⟨by simp only;omega,by simp only;omega,?_⟩,fun g=>⟨by simp only;omega,by simp only;omega,?_⟩⟩
 ·simp only
  rw [ht,hs,if_pos (by unfold uJ;rw [g1,decide_eq_false g2];rfl),h2]
 ·simp only
  rw [ht,hs,if_neg (by unfold uJ;rw [g1,decide_eq_true g2];decide),h2,List.append_nil]
 ·simp only
  rw [ht,hs,if_neg (by unfold uJ;rw [g];simp),h2,List.append_nil]
theorem JQ {l:List E} {p i:Int} {o:List Int} (hq:Qx l p ⟨i,o⟩) (h:¬i < l.length):o=cw l p:=by
 obtain⟨h0,h1,h2⟩:=hq
 simp only at h0 h1 h2
 rw [h2,show i.toNat=l.length by omega,List.take_length]
def PT (q0:List E) (p:Int) (w:List Int) (y:XQ):Prop:=0≤y.i∧y.i≤w.length∧y.q=q0 ++ (w.take y.i.toNat).map fun k=>dI p (AR k)
def GF (w:List Int) (y:XQ):Nat:=w.length - y.i.toNat
theorem nR (q0:List E) (p:Int) (w:List Int):PT q0 p w ⟨0,q0⟩:=⟨Int.le_refl 0,Int.natCast_nonneg _,by simp⟩
theorem sE (l:List Int) {i:Int} (h0:0≤i) (h:i < l.length):l.take (i+1).toNat=l.take i.toNat ++ [l.getD i.toNat 0]:=by
 have hi:i.toNat < l.length:=by omega
 rw [show (i+1).toNat=i.toNat+1 by omega,List.take_add_one,List.getElem?_eq_getElem hi,List.getD_eq_getElem?_getD,List.getElem?_eq_getElem hi]
 rfl
theorem ou {q0:List E} {p:Int} {w:List Int} (hw:w.length≤1000) (hq0:q0.length≤99000) {i:Int} {q:List E} (hq:PT q0 p w ⟨i,q⟩) (h:i < w.length):aN .add .i64 i 1=i+1∧(∀ q',GF w ⟨i+1,q'⟩ < GF w ⟨i,q⟩)∧q.length≤100000∧PT q0 p w ⟨i+1,q ++ [dI p (AR (w.getD i.toNat 0))]⟩:=by
 obtain⟨h0,h1,h2⟩:=hq
 simp only at h0 h1 h2
 refine⟨by rw [bp,wr _ (by omega) (by omega)],fun o'=>by simp only [GF];omega,?_,⟨by simp only;omega,by simp only;omega,?_⟩⟩
 ·rw [h2,List.length_append,List.length_map,List.length_take]
  omega
 ·simp only
  rw [sE w h0 h,List.map_append,← List.append_assoc,← h2]
  rfl
theorem sJ {q0:List E} {p:Int} {w:List Int} {i:Int} {q:List E} (hq:PT q0 p w ⟨i,q⟩) (h:¬i < w.length):q=q0 ++ w.map fun k=>dI p (AR k):=by
 obtain⟨h0,h1,h2⟩:=hq
 simp only at h0 h1 h2
 rw [h2,show i.toNat=w.length by omega,List.take_length]
theorem pU (m:Int) (t b:Bool) (o k:Int):(oS m t b o).w.length≤1∧(pP m t b o).w.length≤1∧(pW m t b o).w.length≤1∧(qW m t b o k).w.length≤1:=by
 refine⟨?_,?_,?_,?_⟩
 ·unfold oS same v0
  repeat' split
  all_goals simp
 ·unfold pP same v0
  repeat' split
  all_goals simp
 ·unfold pW same v0
  repeat' split
  all_goals simp
 ·unfold qW Fw FW same v0
  repeat' split
  all_goals simp
theorem Db (m:Int) (t b:Bool) (o k:Int):(¬(oS m t b o).e=0→(oS m t b o).w=[]∧(oS m t b o).tb=false∧(oS m t b o).tp=false∧(oS m t b o).tf=false)∧(¬(pP m t b o).e=0→(pP m t b o).w=[]∧(pP m t b o).tb=false∧(pP m t b o).tp=false∧(pP m t b o).tf=false)∧(¬(pW m t b o).e=0→(pW m t b o).w=[]∧(pW m t b o).tb=false∧(pW m t b o).tp=false∧(pW m t b o).tf=false)∧(¬(qW m t b o k).e=0→(qW m t b o k).w=[]∧(qW m t b o k).tb=false∧(qW m t b o k).tp=false∧(qW m t b o k).tf=false):=by
 refine⟨?_,?_,?_,?_⟩
 ·unfold oS same v0
  repeat' split
  all_goals simp
 ·unfold pP same v0
  repeat' split
  all_goals simp
 ·unfold pW same v0
  repeat' split
  all_goals simp
 ·unfold qW Fw FW same v0
  repeat' split
  all_goals simp
def px (n:List Int) (l:List E):Bool:=decide (n.length≤1000∧l.length≤1000)
def pG (d:CS):Bool:=decide (d.ae.length≤1000∧d.q.length≤100000)
def VG (e r e' r' : Int):Int:=if e=e' then (if r=r' then 0 else if r < r' then -1 else 1) else if e < e' then -1 else 1
structure Kc where
 Gi:List Int→Bool
 lJ:List E→Bool
 qo:List Int→List E→Bool
 ia:CS→Bool
 gN:CS→Int→WK→CS
 sZ:List E→Int→Int
 Qp:List E→Int
 MN:List E→Bool
 lu:List E→Int→List Int
 wT:CS→Int→VT→CS
 tc:CS→Int→VT
 sK:CS→Int→VT
 sf:CS→Int→VT
 tQ:Int→CS→Int→VT
 pg:CS→Int→Bool
 ZG:Int→Int→Bool
 Yl:Int→Bool
 QD:Int→Int→Int→Int
 Rf:Int→Int→Int→Int
 Rs:Int→Int→Int→Int
 v:Fs
def Kc.U:Kc:=⟨fun n=>decide (n.length≤1000),fun n=>decide (n.length≤1000),px,pG,kY,dn,Me,uO,cw,aR,fun d a=>ue (tie d a),fun d a=>Cl (tie d a),fun d a=>oL (tie d a),fun k d a=>fv k (tie d a),fun d a=>decide (0≤a∧a < d.ae.length∧d.ae.length≤1000∧d.q.length≤100000),fun a b=>decide (a=b),fun a=>!decide (a=0),IY,fun t l i=>if IY t l i=0 then t+1 else 0,fun t l i=>if IY t l i=0 then i else 0,Fs.U⟩
noncomputable def xM (F:Kc):aZ:=fun xs h=>match xs,h with
 |[.one (.val (.int .i64 t)),.one (.val (.int .i64 l)),.one (.val (.int .i64 i))],[]=>some ⟨True,.bJ [.agg [.val (.int .i64 (F.Rf t l i)),.val (.int .i64 (F.Rs t l i))],I (F.QD t l i)],[],[Any,Any,Any]⟩
 |_,_=>none
theorem PE (t:Int) (l:Int) (i:Int):aU [(32,fW ViR.Vs.U)] Tryz.f57 [.one (.val (.int .i64 t)),.one (.val (.int .i64 l)),.one (.val (.int .i64 i))] [] ⟨True,.bJ [.agg [.val (.int .i64 (Kc.U.Rf t l i)),.val (.int .i64 (Kc.U.Rs t l i))],I (Kc.U.QD t l i)],[],[Any,Any,Any]⟩:=by
 intro b gv
 have h0:IY t l i=0→aN .add .i64 t 1=t+1:=fun h=>by
  unfold IY at h
  split at h
  ·split at h
   ·cases h
   ·rw [bp,wr _ (by omega) (by omega)]
  ·cases h
 have hfs:=(af.cons cL af.nil rfl)
 generalize hF:Kc.U=F at hfs ⊢
 generalize hG0:VoR.Fs.U=G0 at hfs ⊢
 generalize hG1:ViR.Vs.U=G1 at hfs ⊢
 generalize hA:Ar.U=A
 generalize hL:Lp _ _ _=L
 obtain⟨Z,zq⟩:=aP
 refine @aD _ _ _ _ _ _ _ (aa hL) _ _ zq rfl ?_
 repeat' (first|(refine ay zq ?_;try dsimp only)|refine ax zq ?_ (aa hL)|refine aw zq ?_|refine az ?_|refine av ?_|refine au ?_|refine aq ?_|refine ar rfl ?_|refine ai rfl ?_|refine aj rfl ?_|(refine Cd.mk ?_;cbv)|(refine aE.mk ?_;cbv)|(refine aJ.mk ?_;cbv)|exact trivial|refine And.intro ?_ ?_|refine bn fun _=>?_|refine bo fun _=>?_)
 all_goals
  clear hL zq Z
  try clear hfs
  subst hA hF hG0 hG1
  simp only [Kc.U,VoR.Fs.U,ViR.Vs.U,Ar.U] at *
  try (grind [al,IY])
theorem yK:aA Tryz.prog 57 (xM Kc.U):=by
 refine aG (af.cons cL af.nil rfl) Tryz.func57 rfl rfl fun xs h p hp=>?_
 unfold xM at hp
 split at hp
 ·cases hp
  exact⟨aB rfl,fun _ _=>@PE _ _ _⟩
 ·cases hp
noncomputable def Dq (F:Kc):aZ:=fun xs h=>match xs,h with
 |[.one (.sl none (.ints .i64 l))],[]=>some ⟨F.Gi l=true,.sa (.one (.sl none (.ints .i64 l))),[],[Any]⟩
 |_,_=>none
theorem Wa (l:List Int) (hC:Kc.U.Gi l=true):aU [] Tryz.f63 [.one (.sl none (.ints .i64 l))] [] ⟨Kc.U.Gi l=true,.sa (.one (.sl none (.ints .i64 l))),[],[Any]⟩:=by
 intro b gv
 have hk:l.length≤1000:=of_decide_eq_true (show decide _=true from hC)
 have hfs:=af.nil
 generalize hF:Kc.U=F at hC hfs ⊢
 generalize hG0:VoR.Fs.U=G0 at hC hfs ⊢
 generalize hG1:ViR.Vs.U=G1 at hC hfs ⊢
 generalize hA:Ar.U=A
 generalize hL:Lp _ _ _=L
 obtain⟨Z,zq⟩:=aP
 refine @aD _ _ _ _ _ _ _ (aa hL) _ _ zq rfl ?_
 repeat' (first|(refine ay zq ?_;try dsimp only)|refine ax zq ?_ (aa hL)|refine aw zq ?_|refine az ?_|refine av ?_|refine au ?_|refine aq ?_|refine ar rfl ?_|refine ai rfl ?_|refine aj rfl ?_|(refine Cd.mk ?_;cbv)|(refine aE.mk ?_;cbv)|(refine aJ.mk ?_;cbv)|exact trivial|refine And.intro ?_ ?_|refine bn fun _=>?_|refine bo fun _=>?_)
 all_goals
  clear hL zq Z
  try clear hfs
  subst hA hF hG0 hG1
  simp only [Kc.U,VoR.Fs.U,Ar.U,List.nil_append] at *
  try (grind [al])
theorem wv:aA Tryz.prog 63 (Dq Kc.U):=by
 refine aG af.nil Tryz.func63 rfl rfl fun xs h p hp=>?_
 unfold Dq at hp
 split at hp
 ·cases hp
  exact⟨aB rfl,fun hC _=>@Wa _ hC⟩
 ·cases hp
noncomputable def LA (F:Kc):aZ:=fun xs h=>match xs,h with
 |[.one (.sl none (.ints .i64 l))],[]=>some ⟨F.Gi l=true,.sa (.one (.own 0)),[(0,.row 3 (.ints .i64 l))],[Any]⟩
 |_,_=>none
theorem YF (l:List Int) (hC:Kc.U.Gi l=true):aU [(dG 2002,fy)] Tryz.f63 [.one (.sl none (.ints .i64 l))] [] ⟨Kc.U.Gi l=true,.sa (.one (.own 0)),[(0,.row 3 (.ints .i64 l))],[Any]⟩:=by
 intro b gv
 have hk:l.length≤1000:=of_decide_eq_true (show decide _=true from hC)
 have hfs:=(af.own (u:=2002) af.nil)
 generalize hF:Kc.U=F at hC hfs ⊢
 generalize hG0:VoR.Fs.U=G0 at hC hfs ⊢
 generalize hG1:ViR.Vs.U=G1 at hC hfs ⊢
 generalize hA:Ar.U=A
 generalize hL:Lp _ _ _=L
 obtain⟨Z,zq⟩:=aP
 refine @aD _ _ _ _ _ _ _ (aa hL) _ _ zq rfl ?_
 repeat' (first|(refine ay zq ?_;try dsimp only)|refine ax zq ?_ (aa hL)|refine aw zq ?_|refine az ?_|refine av ?_|refine au ?_|refine aq ?_|refine ar rfl ?_|refine ai rfl ?_|refine aj rfl ?_|(refine Cd.mk ?_;cbv)|(refine aE.mk ?_;cbv)|(refine aJ.mk ?_;cbv)|exact trivial|refine And.intro ?_ ?_|refine bn fun _=>?_|refine bo fun _=>?_)
 all_goals
  clear hL zq Z
  try clear hfs
  subst hA hF hG0 hG1
  simp only [Kc.U,VoR.Fs.U,Ar.U,List.nil_append] at *
  try (grind [al])
theorem Ky:aA Tryz.prog 63 (LA Kc.U):=by
 refine aG (af.own (u:=2002) af.nil) Tryz.func63 rfl rfl fun xs h p hp=>?_
 unfold LA at hp
 split at hp
 ·cases hp
  exact⟨aB rfl,fun hC _=>@YF _ hC⟩
 ·cases hp
noncomputable def Jc (F:Kc):aZ:=fun xs h=>match xs,h with
 |[.one (.sl none (.ah (.int .i64 (.int .i64 (.int .i64 (.int .i64 (.bool .nil))))) l))],[]=>some ⟨F.lJ l=true,.sa (.one (.sl none (.ah (.int .i64 (.int .i64 (.int .i64 (.int .i64 (.bool .nil))))) l))),[],[Any]⟩
 |_,_=>none
theorem Xt (l:List E) (hC:Kc.U.lJ l=true):aU [] Tryz.f103 [.one (.sl none (.ah (.int .i64 (.int .i64 (.int .i64 (.int .i64 (.bool .nil))))) l))] [] ⟨Kc.U.lJ l=true,.sa (.one (.sl none (.ah (.int .i64 (.int .i64 (.int .i64 (.int .i64 (.bool .nil))))) l))),[],[Any]⟩:=by
 intro b gv
 have hk:l.length≤1000:=of_decide_eq_true (show decide _=true from hC)
 have hfs:=af.nil
 generalize hF:Kc.U=F at hC hfs ⊢
 generalize hG0:VoR.Fs.U=G0 at hC hfs ⊢
 generalize hG1:ViR.Vs.U=G1 at hC hfs ⊢
 generalize hA:Ar.U=A
 generalize hL:Lp _ _ _=L
 obtain⟨Z,zq⟩:=aP
 refine @aD _ _ _ _ _ _ _ (aa hL) _ _ zq rfl ?_
 repeat' (first|(refine ay zq ?_;try dsimp only)|refine ax zq ?_ (aa hL)|refine aw zq ?_|refine az ?_|refine av ?_|refine au ?_|refine aq ?_|refine ar rfl ?_|refine ai rfl ?_|refine aj rfl ?_|(refine Cd.mk ?_;cbv)|(refine aE.mk ?_;cbv)|(refine aJ.mk ?_;cbv)|exact trivial|refine And.intro ?_ ?_|refine bn fun _=>?_|refine bo fun _=>?_)
 all_goals
  clear hL zq Z
  try clear hfs
  subst hA hF hG0 hG1
  simp only [Kc.U,VoR.Fs.U,Ar.U,List.nil_append] at *
  try (grind [al])
theorem Kk:aA Tryz.prog 103 (Jc Kc.U):=by
 refine aG af.nil Tryz.func103 rfl rfl fun xs h p hp=>?_
 unfold Jc at hp
 split at hp
 ·cases hp
  exact⟨aB rfl,fun hC _=>@Xt _ hC⟩
 ·cases hp
noncomputable def EI (F:Kc):aZ:=fun xs h=>match xs,h with
 |[.one (.sl none (.ah (.int .i64 (.int .i64 (.int .i64 (.int .i64 (.bool (.bool (.int .i64 .nil))))))) l))],[]=>some ⟨F.lJ l=true,.sa (.one (.own 0)),[(0,.row 58 (.ah (.int .i64 (.int .i64 (.int .i64 (.int .i64 (.bool (.bool (.int .i64 .nil))))))) l))],[Any]⟩
 |_,_=>none
theorem Xl (l:List E) (hC:Kc.U.lJ l=true):aU [(dG 2002,fy)] Tryz.f62 [.one (.sl none (.ah (.int .i64 (.int .i64 (.int .i64 (.int .i64 (.bool (.bool (.int .i64 .nil))))))) l))] [] ⟨Kc.U.lJ l=true,.sa (.one (.own 0)),[(0,.row 58 (.ah (.int .i64 (.int .i64 (.int .i64 (.int .i64 (.bool (.bool (.int .i64 .nil))))))) l))],[Any]⟩:=by
 intro b gv
 have hk:l.length≤1000:=of_decide_eq_true (show decide _=true from hC)
 have hfs:=(af.own (u:=2002) af.nil)
 generalize hF:Kc.U=F at hC hfs ⊢
 generalize hG0:VoR.Fs.U=G0 at hC hfs ⊢
 generalize hG1:ViR.Vs.U=G1 at hC hfs ⊢
 generalize hA:Ar.U=A
 generalize hL:Lp _ _ _=L
 obtain⟨Z,zq⟩:=aP
 refine @aD _ _ _ _ _ _ _ (aa hL) _ _ zq rfl ?_
 repeat' (first|(refine ay zq ?_;try dsimp only)|refine ax zq ?_ (aa hL)|refine aw zq ?_|refine az ?_|refine av ?_|refine au ?_|refine aq ?_|refine ar rfl ?_|refine ai rfl ?_|refine aj rfl ?_|(refine Cd.mk ?_;cbv)|(refine aE.mk ?_;cbv)|(refine aJ.mk ?_;cbv)|exact trivial|refine And.intro ?_ ?_|refine bn fun _=>?_|refine bo fun _=>?_)
 all_goals
  clear hL zq Z
  try clear hfs
  subst hA hF hG0 hG1
  simp only [Kc.U,VoR.Fs.U,Ar.U,List.nil_append] at *
  try (grind [al])
theorem xL:aA Tryz.prog 62 (EI Kc.U):=by
 refine aG (af.own (u:=2002) af.nil) Tryz.func62 rfl rfl fun xs h p hp=>?_
 unfold EI at hp
 split at hp
 ·cases hp
  exact⟨aB rfl,fun hC _=>@Xl _ hC⟩
 ·cases hp
noncomputable def Fl (F:Kc):aZ:=fun xs h=>match xs,h with
 |[.agg [.sl none (.ints .i64 v_n),.sl none (.ah (.int .i64 (.int .i64 (.int .i64 (.int .i64 (.bool .nil))))) v_l)]],[]=>some ⟨F.qo v_n v_l=true,.sa (.agg [.sl none (.ints .i64 v_n),.sl none (.ah (.int .i64 (.int .i64 (.int .i64 (.int .i64 (.bool .nil))))) v_l)]),[],[Any]⟩
 |_,_=>none
theorem aai (v_n:List Int) (v_l:List E) (hC:Kc.U.qo v_n v_l=true):aU [(63,Dq Kc.U),(103,Jc Kc.U)] Tryz.f64 [.agg [.sl none (.ints .i64 v_n),.sl none (.ah (.int .i64 (.int .i64 (.int .i64 (.int .i64 (.bool .nil))))) v_l)]] [] ⟨Kc.U.qo v_n v_l=true,.sa (.agg [.sl none (.ints .i64 v_n),.sl none (.ah (.int .i64 (.int .i64 (.int .i64 (.int .i64 (.bool .nil))))) v_l)]),[],[Any]⟩:=by
 intro b gv
 have hk:v_n.length≤1000∧v_l.length≤1000:=of_decide_eq_true (show decide _=true from hC)
 have hfs:=(af.cons wv (af.cons Kk af.nil rfl) rfl)
 generalize hF:Kc.U=F at hC hfs ⊢
 generalize hG0:VoR.Fs.U=G0 at hC hfs ⊢
 generalize hG1:ViR.Vs.U=G1 at hC hfs ⊢
 generalize hA:Ar.U=A
 generalize hL:Lp _ _ _=L
 obtain⟨Z,zq⟩:=aP
 refine @aD _ _ _ _ _ _ _ (aa hL) _ _ zq rfl ?_
 repeat' (first|(refine ay zq ?_;try dsimp only)|refine ax zq ?_ (aa hL)|refine aw zq ?_|refine az ?_|refine av ?_|refine au ?_|refine aq ?_|refine ar rfl ?_|refine ai rfl ?_|refine aj rfl ?_|(refine Cd.mk ?_;cbv)|(refine aE.mk ?_;cbv)|(refine aJ.mk ?_;cbv)|exact trivial|refine And.intro ?_ ?_|refine bn fun _=>?_|refine bo fun _=>?_)
 all_goals
  clear hL zq Z
  try clear hfs
  subst hA hF hG0 hG1
  simp only [Kc.U,VoR.Fs.U] at *
  try (grind [al])
theorem pO:aA Tryz.prog 64 (Fl Kc.U):=by
 refine aG (af.cons wv (af.cons Kk af.nil rfl) rfl) Tryz.func64 rfl rfl fun xs h p hp=>?_
 unfold Fl at hp
 split at hp
 ·cases hp
  exact⟨aB rfl,fun hC _=>@aai _ _ hC⟩
 ·cases hp
noncomputable def NT (F:Kc):aZ:=fun xs h=>match xs,h with
 |[.agg [.val (.int .i64 w_k),.val (.int .i64 du),.val (.int .i64 w_r),.sl none (.ints .i64 w_n),.sl none (.ah (.int .i64 (.int .i64 (.int .i64 (.int .i64 (.bool .nil))))) w_l),.val (.int .i64 w_ck),.val (.int .i64 w_ca),.val (.int .i64 w_cb),.val (.int .i64 w_cs)]],[]=>some ⟨F.qo w_n w_l=true,.sa (.agg [.val (.int .i64 w_k),.val (.int .i64 du),.val (.int .i64 w_r),.sl none (.ints .i64 w_n),.sl none (.ah (.int .i64 (.int .i64 (.int .i64 (.int .i64 (.bool .nil))))) w_l),.val (.int .i64 w_ck),.val (.int .i64 w_ca),.val (.int .i64 w_cb),.val (.int .i64 w_cs)]),[],[Any]⟩
 |_,_=>none
theorem aaa (w_k:Int) (du:Int) (w_r:Int) (w_n:List Int) (w_l:List E) (w_ck:Int) (w_ca:Int) (w_cb:Int) (w_cs:Int) (hC:Kc.U.qo w_n w_l=true):aU [(64,Fl Kc.U)] Tryz.f92 [.agg [.val (.int .i64 w_k),.val (.int .i64 du),.val (.int .i64 w_r),.sl none (.ints .i64 w_n),.sl none (.ah (.int .i64 (.int .i64 (.int .i64 (.int .i64 (.bool .nil))))) w_l),.val (.int .i64 w_ck),.val (.int .i64 w_ca),.val (.int .i64 w_cb),.val (.int .i64 w_cs)]] [] ⟨Kc.U.qo w_n w_l=true,.sa (.agg [.val (.int .i64 w_k),.val (.int .i64 du),.val (.int .i64 w_r),.sl none (.ints .i64 w_n),.sl none (.ah (.int .i64 (.int .i64 (.int .i64 (.int .i64 (.bool .nil))))) w_l),.val (.int .i64 w_ck),.val (.int .i64 w_ca),.val (.int .i64 w_cb),.val (.int .i64 w_cs)]),[],[Any]⟩:=by
 intro b gv
 have hk:w_n.length≤1000∧w_l.length≤1000:=of_decide_eq_true (show decide _=true from hC)
 have hfs:=(af.cons pO af.nil rfl)
 generalize hF:Kc.U=F at hC hfs ⊢
 generalize hG0:VoR.Fs.U=G0 at hC hfs ⊢
 generalize hG1:ViR.Vs.U=G1 at hC hfs ⊢
 generalize hA:Ar.U=A
 generalize hL:Lp _ _ _=L
 obtain⟨Z,zq⟩:=aP
 refine @aD _ _ _ _ _ _ _ (aa hL) _ _ zq rfl ?_
 repeat' (first|(refine ay zq ?_;try dsimp only)|refine ax zq ?_ (aa hL)|refine aw zq ?_|refine az ?_|refine av ?_|refine au ?_|refine aq ?_|refine ar rfl ?_|refine ai rfl ?_|refine aj rfl ?_|(refine Cd.mk ?_;cbv)|(refine aE.mk ?_;cbv)|(refine aJ.mk ?_;cbv)|exact trivial|refine And.intro ?_ ?_|refine bn fun _=>?_|refine bo fun _=>?_)
 all_goals
  clear hL zq Z
  try clear hfs
  subst hA hF hG0 hG1
  simp only [Kc.U,VoR.Fs.U] at *
  try (grind [al])
theorem Dn:aA Tryz.prog 92 (NT Kc.U):=by
 refine aG (af.cons pO af.nil rfl) Tryz.func92 rfl rfl fun xs h p hp=>?_
 unfold NT at hp
 split at hp
 ·cases hp
  exact⟨aB rfl,fun hC _=>@aaa _ _ _ _ _ _ _ _ _ hC⟩
 ·cases hp
noncomputable def gN (F:Kc):aZ:=fun xs h=>match xs with
 |[.one (.ptr 0 0),.one (.val (.int .i64 to)),.agg [.val (.int .i64 w_k),.val (.int .i64 du),.val (.int .i64 w_r),.sl none (.ints .i64 w_n),.sl none (.ah (.int .i64 (.int .i64 (.int .i64 (.int .i64 (.bool .nil))))) w_l),.val (.int .i64 w_ck),.val (.int .i64 w_ca),.val (.int .i64 w_cb),.val (.int .i64 w_cs)]]=>(match vV h with
  |some s=>some ⟨F.ia s=true∧F.qo w_n w_l=true,.bJ [],(eN (F.gN s to ⟨w_k,du,w_r,w_n,w_l,w_ck,w_ca,w_cb,w_cs⟩)),[.one (.ptr 0 0),Any,Any,.one (.own 1)]⟩
  |none=>none)
 |_=>none
theorem QR (to:Int) (w_k:Int) (du:Int) (w_r:Int) (w_n:List Int) (w_l:List E) (w_ck:Int) (w_ca:Int) (w_cb:Int) (w_cs:Int) (s:CS) (hC:Kc.U.ia s=true∧Kc.U.qo w_n w_l=true):aU [(92,NT Kc.U)] Tryz.f96 [.one (.ptr 0 0),.one (.val (.int .i64 to)),.agg [.val (.int .i64 w_k),.val (.int .i64 du),.val (.int .i64 w_r),.sl none (.ints .i64 w_n),.sl none (.ah (.int .i64 (.int .i64 (.int .i64 (.int .i64 (.bool .nil))))) w_l),.val (.int .i64 w_ck),.val (.int .i64 w_ca),.val (.int .i64 w_cb),.val (.int .i64 w_cs)]] (eN s) ⟨Kc.U.ia s=true∧Kc.U.qo w_n w_l=true,.bJ [],(eN (Kc.U.gN s to ⟨w_k,du,w_r,w_n,w_l,w_ck,w_ca,w_cb,w_cs⟩)),[.one (.ptr 0 0),Any,Any,.one (.own 1)]⟩:=by
 intro b gv
 have hk:s.ae.length≤1000∧s.q.length≤100000:=of_decide_eq_true hC.1
 have hfs:=(af.cons Dn af.nil rfl)
 generalize hF:Kc.U=F at hC hfs ⊢
 generalize hG0:VoR.Fs.U=G0 at hC hfs ⊢
 generalize hG1:ViR.Vs.U=G1 at hC hfs ⊢
 generalize hA:Ar.U=A
 generalize hL:Lp _ _ _=L
 obtain⟨Z,zq⟩:=aP
 refine @aD _ _ _ _ _ _ _ (aa hL) _ _ zq rfl ?_
 repeat' (first|(refine ay zq ?_;try dsimp only)|refine ax zq ?_ (aa hL)|refine aw zq ?_|refine az ?_|refine av ?_|refine au ?_|refine aq ?_|refine ar rfl ?_|refine ai rfl ?_|refine aj rfl ?_|(refine Cd.mk ?_;cbv)|(refine aE.mk ?_;cbv)|(refine aJ.mk ?_;cbv)|exact trivial|refine And.intro ?_ ?_|refine bn fun _=>?_|refine bo fun _=>?_)
 all_goals
  clear hL zq Z
  try clear hfs
  subst hA hF hG0 hG1
  simp only [Kc.U,VoR.Fs.U,Ar.U] at *
  try (grind [al,kY,dI])
theorem fK:aA Tryz.prog 96 (gN Kc.U):=by
 refine aG (af.cons Dn af.nil rfl) Tryz.func96 rfl rfl fun xs h p hp=>?_
 unfold gN at hp
 split at hp
 ·split at hp
  ·rename_i e0
   cases hp
   have g0:=cT e0
   subst g0
   exact⟨aB rfl,fun hC _=>@QR _ _ _ _ _ _ _ _ _ _ _ hC⟩
  ·cases hp
 ·cases hp
noncomputable def AT (F:Kc):aZ:=fun xs h=>match xs with
 |[.one (.ptr 0 0),.one (.val (.int .i64 to)),.agg [.val (.int .i64 w_k),.val (.int .i64 du),.val (.int .i64 w_r),.sl none (.ints .i64 w_n),.sl none (.ah (.int .i64 (.int .i64 (.int .i64 (.int .i64 (.bool .nil))))) w_l),.val (.int .i64 w_ck),.val (.int .i64 w_ca),.val (.int .i64 w_cb),.val (.int .i64 w_cs)]]=>(match hp1 h with
  |some s=>some ⟨F.ia s=true∧F.qo w_n w_l=true,.bJ [],(nT (F.gN s to ⟨w_k,du,w_r,w_n,w_l,w_ck,w_ca,w_cb,w_cs⟩)),[.one (.ptr 0 0),Any,Any,.one (.own 1)]⟩
  |none=>none)
 |_=>none
theorem UQ (to:Int) (w_k:Int) (du:Int) (w_r:Int) (w_n:List Int) (w_l:List E) (w_ck:Int) (w_ca:Int) (w_cb:Int) (w_cs:Int) (s:CS) (hC:Kc.U.ia s=true∧Kc.U.qo w_n w_l=true):aU [(92,NT Kc.U)] Tryz.f96 [.one (.ptr 0 0),.one (.val (.int .i64 to)),.agg [.val (.int .i64 w_k),.val (.int .i64 du),.val (.int .i64 w_r),.sl none (.ints .i64 w_n),.sl none (.ah (.int .i64 (.int .i64 (.int .i64 (.int .i64 (.bool .nil))))) w_l),.val (.int .i64 w_ck),.val (.int .i64 w_ca),.val (.int .i64 w_cb),.val (.int .i64 w_cs)]] (nT s) ⟨Kc.U.ia s=true∧Kc.U.qo w_n w_l=true,.bJ [],(nT (Kc.U.gN s to ⟨w_k,du,w_r,w_n,w_l,w_ck,w_ca,w_cb,w_cs⟩)),[.one (.ptr 0 0),Any,Any,.one (.own 1)]⟩:=by
 intro b gv
 have hk:s.ae.length≤1000∧s.q.length≤100000:=of_decide_eq_true hC.1
 have hfs:=(af.cons Dn af.nil rfl)
 generalize hF:Kc.U=F at hC hfs ⊢
 generalize hG0:VoR.Fs.U=G0 at hC hfs ⊢
 generalize hG1:ViR.Vs.U=G1 at hC hfs ⊢
 generalize hA:Ar.U=A
 generalize hL:Lp _ _ _=L
 obtain⟨Z,zq⟩:=aP
 refine @aD _ _ _ _ _ _ _ (aa hL) _ _ zq rfl ?_
 repeat' (first|(refine ay zq ?_;try dsimp only)|refine ax zq ?_ (aa hL)|refine aw zq ?_|refine az ?_|refine av ?_|refine au ?_|refine aq ?_|refine ar rfl ?_|refine ai rfl ?_|refine aj rfl ?_|(refine Cd.mk ?_;cbv)|(refine aE.mk ?_;cbv)|(refine aJ.mk ?_;cbv)|exact trivial|refine And.intro ?_ ?_|refine bn fun _=>?_|refine bo fun _=>?_)
 all_goals
  clear hL zq Z
  try clear hfs
  subst hA hF hG0 hG1
  simp only [Kc.U,VoR.Fs.U,Ar.U] at *
  try (grind [al,kY,dI])
theorem CY:aA Tryz.prog 96 (AT Kc.U):=by
 refine aG (af.cons Dn af.nil rfl) Tryz.func96 rfl rfl fun xs h p hp=>?_
 unfold AT at hp
 split at hp
 ·split at hp
  ·rename_i e0
   cases hp
   have g0:=UI e0
   subst g0
   exact⟨aB rfl,fun hC _=>@UQ _ _ _ _ _ _ _ _ _ _ _ hC⟩
  ·cases hp
 ·cases hp
noncomputable def tE (F:Kc):aZ:=fun xs h=>match xs,h with
 |[.agg [.val (.int .i64 t_p),.val (.int .i64 _),.val (.int .i64 _),.val (.int .i64 _),.val (.bool _),.val (.bool _),.val (.int .i64 _)],.one (.ptr 0 0)],[(0,.cells 3 [.val (.int .i64 p)])]=>some ⟨True,.sa (B (F.ZG t_p p)),[(0,.cells 3 [.val (.int .i64 p)])],[Any,.one (.ptr 0 0)]⟩
 |_,_=>none
theorem Tf (t_p:Int) (uj:Int) (t_s:Int) (t_m:Int) (t_t:Bool) (t_b:Bool) (t_o:Int) (p:Int):aU [] Tryz.f108 [.agg [.val (.int .i64 t_p),.val (.int .i64 uj),.val (.int .i64 t_s),.val (.int .i64 t_m),.val (.bool t_t),.val (.bool t_b),.val (.int .i64 t_o)],.one (.ptr 0 0)] [(0,.cells 3 [.val (.int .i64 p)])] ⟨True,.sa (B (Kc.U.ZG t_p p)),[(0,.cells 3 [.val (.int .i64 p)])],[Any,.one (.ptr 0 0)]⟩:=by
 intro b gv
 have hfs:=af.nil
 generalize hF:Kc.U=F at hfs ⊢
 generalize hG0:VoR.Fs.U=G0 at hfs ⊢
 generalize hG1:ViR.Vs.U=G1 at hfs ⊢
 generalize hA:Ar.U=A
 generalize hL:Lp _ _ _=L
 obtain⟨Z,zq⟩:=aP
 refine @aD _ _ _ _ _ _ _ (aa hL) _ _ zq rfl ?_
 repeat' (first|(refine ay zq ?_;try dsimp only)|refine ax zq ?_ (aa hL)|refine aw zq ?_|refine az ?_|refine av ?_|refine au ?_|refine aq ?_|refine ar rfl ?_|refine ai rfl ?_|refine aj rfl ?_|(refine Cd.mk ?_;cbv)|(refine aE.mk ?_;cbv)|(refine aJ.mk ?_;cbv)|exact trivial|refine And.intro ?_ ?_|refine bn fun _=>?_|refine bo fun _=>?_)
 all_goals
  clear hL zq Z
  try clear hfs
  subst hA hF hG0 hG1
  simp only [Kc.U,VoR.Fs.U,Ar.U] at *
  try (grind [al])
theorem DN:aA Tryz.prog 108 (tE Kc.U):=by
 refine aG af.nil Tryz.func108 rfl rfl fun xs h p hp=>?_
 unfold tE at hp
 split at hp
 ·cases hp
  exact⟨aB rfl,fun _ _=>@Tf _ _ _ _ _ _ _ _⟩
 ·cases hp
theorem EP:iv (tE Kc.U):=by
 intro xs h p hp
 unfold tE at hp
 split at hp
 ·cases hp
  rfl
 ·cases hp
noncomputable def pf (F:Kc):aZ:=fun xs h=>match xs,h with
 |[.one (.own 0),.one (.fn 108 1)],[(0,.row 58 (.ah (.int .i64 (.int .i64 (.int .i64 (.int .i64 (.bool (.bool (.int .i64 .nil))))))) l)),(1,.cells 3 [.val (.int .i64 p)])]=>some ⟨F.lJ l=true,.sa (I (F.sZ l p)),[(0,.row 58 (.ah (.int .i64 (.int .i64 (.int .i64 (.int .i64 (.bool (.bool (.int .i64 .nil))))))) l)),(1,.cells 3 [.val (.int .i64 p)])],[.one (.own 0),.one (.fn 108 1)]⟩
 |_,_=>none
theorem TY (l:List E) (p:Int) (hC:Kc.U.lJ l=true):aU [(108,tE Kc.U),(bG 108,fy)] Tryz.f107 [.one (.own 0),.one (.fn 108 1)] [(0,.row 58 (.ah (.int .i64 (.int .i64 (.int .i64 (.int .i64 (.bool (.bool (.int .i64 .nil))))))) l)),(1,.cells 3 [.val (.int .i64 p)])] ⟨Kc.U.lJ l=true,.sa (I (Kc.U.sZ l p)),[(0,.row 58 (.ah (.int .i64 (.int .i64 (.int .i64 (.int .i64 (.bool (.bool (.int .i64 .nil))))))) l)),(1,.cells 3 [.val (.int .i64 p)])],[.one (.own 0),.one (.fn 108 1)]⟩:=by
 intro b gv
 have hk:l.length≤1000:=of_decide_eq_true (show decide (l.length≤1000)=true from hC)
 have hk6:l.length≤1000000:=by omega
 have hfs:=(af.keeps DN EP af.nil)
 generalize hF:Kc.U=F at hC hfs ⊢
 generalize hG0:VoR.Fs.U=G0 at hC hfs ⊢
 generalize hG1:ViR.Vs.U=G1 at hC hfs ⊢
 generalize hA:Ar.U=A
 generalize hL:Lp _ _ _=L
 obtain⟨Z,zq⟩:=aP
 refine @aD _ _ _ _ _ _ _ (aa hL) _ _ zq rfl ?_
 repeat' (first|(refine ay zq ?_;try dsimp only)|refine ax zq ?_ (aa hL)|refine aw zq ?_|refine az ?_|refine av ?_|refine au ?_|refine aq ?_|refine ar rfl ?_|refine ai rfl ?_|refine aj rfl ?_|(refine Cd.mk ?_;cbv)|(refine aE.mk ?_;cbv)|(refine aJ.mk ?_;cbv)|exact trivial|refine And.intro ?_ ?_|refine bn fun _=>?_|refine bo fun _=>?_)
 subst hL
 refine aX (br hfs) (VD l p) (fun y=>cg Tryz.f107.ntmps [(0,.own 1),(1,.fn 108 2),(7,.val (.int .i64 (A.dK l))),(8,.val (.int .i64 y.i))] [(1,.row 58 (.ah (.int .i64 (.int .i64 (.int .i64 (.int .i64 (.bool (.bool (.int .i64 .nil))))))) l)),(2,.cells 3 [.val (.int .i64 p)])] [.one (.own 1),.one (.fn 108 2)]) (pA l.length) (Zy 8) ⟨0⟩ ?_ ?_ ?_
 ·exact Dm _ _
 ·cbv
  repeat' (first|exact trivial|exact rfl|refine And.intro ?_ ?_)
 rintro⟨i⟩ hq O hO
 have hst:=fun h=>DC hk6 hq h
 have hen:=fun h=>Js hq h
 have q0:=hq.1
 have q1:=hq.2.1
 dsimp only at q0 q1
 subst hA
 generalize hA:Ar.U=A
 generalize hL:Lp _ _ _=L
 refine aO zq ?_
 repeat' (first|(refine ay zq ?_;try dsimp only)|refine ax zq ?_ (aa hL)|refine aw zq ?_|refine az ?_|refine av ?_|refine au ?_|refine aq ?_|refine ar rfl ?_|refine ai rfl ?_|refine aj rfl ?_|(refine Cd.mk ?_;cbv)|(refine aE.mk ?_;cbv)|(refine aJ.mk ?_;cbv)|exact trivial|refine And.intro ?_ ?_|refine bn fun _=>?_|refine bo fun _=>?_)
 all_goals first|(show L _ _ _;skip)|(clear hL hfs zq Z hq;subst hA hF hG0 hG1 hO;simp only [Kc.U,VoR.Fs.U,Ar.U] at * <;> grind [al];done)
theorem qC:aA Tryz.prog 107 (pf Kc.U):=by
 refine aG (af.keeps DN EP af.nil) Tryz.func107 rfl rfl fun xs h p hp=>?_
 unfold pf at hp
 split at hp
 ·cases hp
  exact⟨aB rfl,fun hC _=>@TY _ _ hC⟩
 ·cases hp
theorem qz:iv (pf Kc.U):=by
 intro xs h p hp
 unfold pf at hp
 split at hp
 ·cases hp
  rfl
 ·cases hp
noncomputable def sO (F:Kc):aZ:=fun xs h=>match xs with
 |[.one (.ptr 0 0),.one (.val (.int .i64 p))]=>(match vV h with
  |some s=>some ⟨F.ia s=true,.sa (I (F.sZ s.ae p)),(eN s),[.one (.ptr 0 0),Any]⟩
  |none=>none)
 |_=>none
theorem YM (p:Int) (s:CS) (hC:Kc.U.ia s=true):aU [(107,pf Kc.U),(bG 107,fy)] Tryz.f68 [.one (.ptr 0 0),.one (.val (.int .i64 p))] (eN s) ⟨Kc.U.ia s=true,.sa (I (Kc.U.sZ s.ae p)),(eN s),[.one (.ptr 0 0),Any]⟩:=by
 intro b gv
 have hk:s.ae.length≤1000∧s.q.length≤100000:=of_decide_eq_true (show decide _=true from hC)
 have hfs:=(af.keeps qC qz af.nil)
 generalize hF:Kc.U=F at hC hfs ⊢
 generalize hG0:VoR.Fs.U=G0 at hC hfs ⊢
 generalize hG1:ViR.Vs.U=G1 at hC hfs ⊢
 generalize hA:Ar.U=A
 generalize hL:Lp _ _ _=L
 obtain⟨Z,zq⟩:=aP
 refine @aD _ _ _ _ _ _ _ (aa hL) _ _ zq rfl ?_
 repeat' (first|(refine ay zq ?_;try dsimp only)|refine ax zq ?_ (aa hL)|refine aw zq ?_|refine az ?_|refine av ?_|refine au ?_|refine aq ?_|refine ar rfl ?_|refine ai rfl ?_|refine aj rfl ?_|(refine Cd.mk ?_;cbv)|(refine aE.mk ?_;cbv)|(refine aJ.mk ?_;cbv)|exact trivial|refine And.intro ?_ ?_|refine bn fun _=>?_|refine bo fun _=>?_)
 all_goals
  clear hL zq Z
  try clear hfs
  subst hA hF hG0 hG1
  simp only [Kc.U,VoR.Fs.U] at *
  try (grind [al])
theorem pb:aA Tryz.prog 68 (sO Kc.U):=by
 refine aG (af.keeps qC qz af.nil) Tryz.func68 rfl rfl fun xs h p hp=>?_
 unfold sO at hp
 split at hp
 ·split at hp
  ·rename_i e0
   cases hp
   have g0:=cT e0
   subst g0
   exact⟨aB rfl,fun hC _=>@YM _ _ hC⟩
  ·cases hp
 ·cases hp
theorem oW:iv (sO Kc.U):=by
 intro xs h p hp
 unfold sO at hp
 split at hp
 ·split at hp
  ·rename_i e0
   cases hp
   exact (cT e0).symm
  ·cases hp
 ·cases hp
noncomputable def ua (F:Kc):aZ:=fun xs h=>match xs with
 |[.one (.ptr 0 0),.one (.val (.int .i64 p))]=>(match ZO h with
  |some s=>some ⟨F.ia s=true,.sa (I (F.sZ s.ae p)),(uG s),[.one (.ptr 0 0),Any]⟩
  |none=>none)
 |_=>none
theorem Ts (p:Int) (s:CS) (hC:Kc.U.ia s=true):aU [(107,pf Kc.U),(bG 107,fy)] Tryz.f68 [.one (.ptr 0 0),.one (.val (.int .i64 p))] (uG s) ⟨Kc.U.ia s=true,.sa (I (Kc.U.sZ s.ae p)),(uG s),[.one (.ptr 0 0),Any]⟩:=by
 intro b gv
 have hk:s.ae.length≤1000∧s.q.length≤100000:=of_decide_eq_true (show decide _=true from hC)
 have hfs:=(af.keeps qC qz af.nil)
 generalize hF:Kc.U=F at hC hfs ⊢
 generalize hG0:VoR.Fs.U=G0 at hC hfs ⊢
 generalize hG1:ViR.Vs.U=G1 at hC hfs ⊢
 generalize hA:Ar.U=A
 generalize hL:Lp _ _ _=L
 obtain⟨Z,zq⟩:=aP
 refine @aD _ _ _ _ _ _ _ (aa hL) _ _ zq rfl ?_
 repeat' (first|(refine ay zq ?_;try dsimp only)|refine ax zq ?_ (aa hL)|refine aw zq ?_|refine az ?_|refine av ?_|refine au ?_|refine aq ?_|refine ar rfl ?_|refine ai rfl ?_|refine aj rfl ?_|(refine Cd.mk ?_;cbv)|(refine aE.mk ?_;cbv)|(refine aJ.mk ?_;cbv)|exact trivial|refine And.intro ?_ ?_|refine bn fun _=>?_|refine bo fun _=>?_)
 all_goals
  clear hL zq Z
  try clear hfs
  subst hA hF hG0 hG1
  simp only [Kc.U,VoR.Fs.U] at *
  try (grind [al])
theorem Eh:aA Tryz.prog 68 (ua Kc.U):=by
 refine aG (af.keeps qC qz af.nil) Tryz.func68 rfl rfl fun xs h p hp=>?_
 unfold ua at hp
 split at hp
 ·split at hp
  ·rename_i e0
   cases hp
   have g0:=wZ e0
   subst g0
   exact⟨aB rfl,fun hC _=>@Ts _ _ hC⟩
  ·cases hp
 ·cases hp
theorem ES:iv (ua Kc.U):=by
 intro xs h p hp
 unfold ua at hp
 split at hp
 ·split at hp
  ·rename_i e0
   cases hp
   exact (wZ e0).symm
  ·cases hp
 ·cases hp
noncomputable def rX (F:Kc):aZ:=fun xs h=>match xs with
 |[.one (.ptr 0 0)]=>(match vV h with
  |some s=>some ⟨F.ia s=true,.sa (.one (.sl none (.ints .i64 (F.lu s.ae s.p)))),(eN s),[.one (.ptr 0 0)]⟩
  |none=>none)
 |_=>none
theorem RT (s:CS) (hC:Kc.U.ia s=true):aU [] Tryz.f95 [.one (.ptr 0 0)] (eN s) ⟨Kc.U.ia s=true,.sa (.one (.sl none (.ints .i64 (Kc.U.lu s.ae s.p)))),(eN s),[.one (.ptr 0 0)]⟩:=by
 intro b gv
 have hk:s.ae.length≤1000∧s.q.length≤100000:=of_decide_eq_true (show decide _=true from hC)
 have hk6:s.ae.length≤1000000:=by omega
 have hfs:=af.nil
 generalize hF:Kc.U=F at hC hfs ⊢
 generalize hG0:VoR.Fs.U=G0 at hC hfs ⊢
 generalize hG1:ViR.Vs.U=G1 at hC hfs ⊢
 generalize hA:Ar.U=A
 generalize hL:Lp _ _ _=L
 obtain⟨Z,zq⟩:=aP
 refine @aD _ _ _ _ _ _ _ (aa hL) _ _ zq rfl ?_
 repeat' (first|(refine ay zq ?_;try dsimp only)|refine ax zq ?_ (aa hL)|refine aw zq ?_|refine az ?_|refine av ?_|refine au ?_|refine aq ?_|refine ar rfl ?_|refine ai rfl ?_|refine aj rfl ?_|(refine Cd.mk ?_;cbv)|(refine aE.mk ?_;cbv)|(refine aJ.mk ?_;cbv)|exact trivial|refine And.intro ?_ ?_|refine bn fun _=>?_|refine bo fun _=>?_)
 subst hL
 refine aX (br hfs) (Qx s.ae s.p) (fun y=>cg Tryz.f95.ntmps [(0,.ptr 1 0),(3,.sl (some (4,3)) (.ints .i64 y.o)),(10,.own 2),(11,.val (.int .i64 (A.dK s.ae))),(12,.val (.int .i64 y.i))] [(1,.cells 75 [.val (.int .i64 s.i),.val (.int .i64 s.ee),.val (.int .i64 s.er),.val (.int .i64 s.t),.val (.int .i64 s.p),.own 2,.sl none (.ints .i64 s.w),.sl none (.ints .i64 s.gn),.sl none (.ah (.int .i64 (.int .i64 (.int .i64 (.int .i64 (.bool .nil))))) s.gl),.val (.int .i64 s.ph),.sl none (.ints .i64 s.tn),.sl none (.ah (.int .i64 (.int .i64 (.int .i64 (.int .i64 (.bool .nil))))) s.tl),.val (.int .i64 s.l),.val (.bool s.o),.sl (some (3,89)) (.ah (.int .i64 (.int .i64 (.int .i64 (.int .i64 (.ints .i64 (.ah (.int .i64 (.int .i64 (.int .i64 (.int .i64 (.bool .nil))))) (.int .i64 (.int .i64 (.int .i64 (.int .i64 .nil)))))))))) s.q)]),(2,.row 58 (.ah (.int .i64 (.int .i64 (.int .i64 (.int .i64 (.bool (.bool (.int .i64 .nil))))))) s.ae)),(3,.tok),(4,.tok)] [.one (.ptr 1 0)]) (Zs s.ae) (xlR 12 3) ⟨0,[]⟩ ?_ ?_ ?_
 ·exact CJ _ _
 ·cbv
  repeat' (first|exact trivial|exact rfl|refine And.intro ?_ ?_)
 rintro⟨i,o⟩ hq O hO
 have hst:=fun h=>DH hk6 hq h
 have hen:=fun h=>JQ hq h
 have q0:=hq.1
 have q1:=hq.2.1
 dsimp only at q0 q1
 subst hA
 generalize hA:Ar.U=A
 generalize hL:Lp _ _ _=L
 refine aO zq ?_
 repeat' (first|(refine ay zq ?_;try dsimp only)|refine ax zq ?_ (aa hL)|refine aw zq ?_|refine az ?_|refine av ?_|refine au ?_|refine aq ?_|refine ar rfl ?_|refine ai rfl ?_|refine aj rfl ?_|(refine Cd.mk ?_;cbv)|(refine aE.mk ?_;cbv)|(refine aJ.mk ?_;cbv)|exact trivial|refine And.intro ?_ ?_|refine bn fun _=>?_|refine bo fun _=>?_)
 all_goals first|(show L _ _ _;skip)|(clear hL zq Z hq;subst hA hF hG0 hG1 hO;simp only [Kc.U,VoR.Fs.U,Ar.U] at * <;> grind [al];done)
theorem Dx:aA Tryz.prog 95 (rX Kc.U):=by
 refine aG af.nil Tryz.func95 rfl rfl fun xs h p hp=>?_
 unfold rX at hp
 split at hp
 ·split at hp
  ·rename_i e0
   cases hp
   have g0:=cT e0
   subst g0
   exact⟨aB rfl,fun hC _=>@RT _ hC⟩
  ·cases hp
 ·cases hp
theorem DT:iv (rX Kc.U):=by
 intro xs h p hp
 unfold rX at hp
 split at hp
 ·split at hp
  ·rename_i e0
   cases hp
   exact (cT e0).symm
  ·cases hp
 ·cases hp
noncomputable def oD (F:Kc):aZ:=fun xs h=>match xs,h with
 |[.one (.ptr 0 0)],[(0,.cells 75 [.val (.int .i64 s_i),.val (.int .i64 s_ee),.val (.int .i64 s_er),.val (.int .i64 s_t),.val (.int .i64 s_p),.own 1,.val (.slice none 0 0),.val (.slice none 0 0),.val (.slice none 0 0),.val (.int .i64 s_ph),.val (.slice none 0 0),.val (.slice none 0 0),.val (.int .i64 zu),.val (.bool s_o),.sl (some (2,89)) (.ah (.int .i64 (.int .i64 (.int .i64 (.int .i64 (.ints .i64 (.ah (.int .i64 (.int .i64 (.int .i64 (.int .i64 (.bool .nil))))) (.int .i64 (.int .i64 (.int .i64 (.int .i64 .nil)))))))))) s_q)]),(1,.row 58 (.ah (.int .i64 (.int .i64 (.int .i64 (.int .i64 (.bool (.bool (.int .i64 .nil))))))) s_ties)),(2,.tok)]=>some ⟨F.ia ⟨s_i,s_ee,s_er,s_t,s_p,s_ties,[],[],[],s_ph,[],[],zu,s_o,s_q⟩=true,.sa (.one (.sl none (.ints .i64 (F.lu s_ties s_p)))),[(0,.cells 75 [.val (.int .i64 s_i),.val (.int .i64 s_ee),.val (.int .i64 s_er),.val (.int .i64 s_t),.val (.int .i64 s_p),.own 1,.val (.slice none 0 0),.val (.slice none 0 0),.val (.slice none 0 0),.val (.int .i64 s_ph),.val (.slice none 0 0),.val (.slice none 0 0),.val (.int .i64 zu),.val (.bool s_o),.sl (some (2,89)) (.ah (.int .i64 (.int .i64 (.int .i64 (.int .i64 (.ints .i64 (.ah (.int .i64 (.int .i64 (.int .i64 (.int .i64 (.bool .nil))))) (.int .i64 (.int .i64 (.int .i64 (.int .i64 .nil)))))))))) s_q)]),(1,.row 58 (.ah (.int .i64 (.int .i64 (.int .i64 (.int .i64 (.bool (.bool (.int .i64 .nil))))))) s_ties)),(2,.tok)],[.one (.ptr 0 0)]⟩
 |_,_=>none
theorem PU (s_i:Int) (s_ee:Int) (s_er:Int) (s_t:Int) (s_p:Int) (s_ties:List E) (s_ph:Int) (zu:Int) (s_o:Bool) (s_q:List E) (hC:Kc.U.ia ⟨s_i,s_ee,s_er,s_t,s_p,s_ties,[],[],[],s_ph,[],[],zu,s_o,s_q⟩=true):aU [] Tryz.f95 [.one (.ptr 0 0)] [(0,.cells 75 [.val (.int .i64 s_i),.val (.int .i64 s_ee),.val (.int .i64 s_er),.val (.int .i64 s_t),.val (.int .i64 s_p),.own 1,.val (.slice none 0 0),.val (.slice none 0 0),.val (.slice none 0 0),.val (.int .i64 s_ph),.val (.slice none 0 0),.val (.slice none 0 0),.val (.int .i64 zu),.val (.bool s_o),.sl (some (2,89)) (.ah (.int .i64 (.int .i64 (.int .i64 (.int .i64 (.ints .i64 (.ah (.int .i64 (.int .i64 (.int .i64 (.int .i64 (.bool .nil))))) (.int .i64 (.int .i64 (.int .i64 (.int .i64 .nil)))))))))) s_q)]),(1,.row 58 (.ah (.int .i64 (.int .i64 (.int .i64 (.int .i64 (.bool (.bool (.int .i64 .nil))))))) s_ties)),(2,.tok)] ⟨Kc.U.ia ⟨s_i,s_ee,s_er,s_t,s_p,s_ties,[],[],[],s_ph,[],[],zu,s_o,s_q⟩=true,.sa (.one (.sl none (.ints .i64 (Kc.U.lu s_ties s_p)))),[(0,.cells 75 [.val (.int .i64 s_i),.val (.int .i64 s_ee),.val (.int .i64 s_er),.val (.int .i64 s_t),.val (.int .i64 s_p),.own 1,.val (.slice none 0 0),.val (.slice none 0 0),.val (.slice none 0 0),.val (.int .i64 s_ph),.val (.slice none 0 0),.val (.slice none 0 0),.val (.int .i64 zu),.val (.bool s_o),.sl (some (2,89)) (.ah (.int .i64 (.int .i64 (.int .i64 (.int .i64 (.ints .i64 (.ah (.int .i64 (.int .i64 (.int .i64 (.int .i64 (.bool .nil))))) (.int .i64 (.int .i64 (.int .i64 (.int .i64 .nil)))))))))) s_q)]),(1,.row 58 (.ah (.int .i64 (.int .i64 (.int .i64 (.int .i64 (.bool (.bool (.int .i64 .nil))))))) s_ties)),(2,.tok)],[.one (.ptr 0 0)]⟩:=by
 intro b gv
 have hk:s_ties.length≤1000∧s_q.length≤100000:=of_decide_eq_true (show decide _=true from hC)
 have hk6:s_ties.length≤1000000:=by omega
 have hfs:=af.nil
 generalize hF:Kc.U=F at hC hfs ⊢
 generalize hG0:VoR.Fs.U=G0 at hC hfs ⊢
 generalize hG1:ViR.Vs.U=G1 at hC hfs ⊢
 generalize hA:Ar.U=A
 generalize hL:Lp _ _ _=L
 obtain⟨Z,zq⟩:=aP
 refine @aD _ _ _ _ _ _ _ (aa hL) _ _ zq rfl ?_
 repeat' (first|(refine ay zq ?_;try dsimp only)|refine ax zq ?_ (aa hL)|refine aw zq ?_|refine az ?_|refine av ?_|refine au ?_|refine aq ?_|refine ar rfl ?_|refine ai rfl ?_|refine aj rfl ?_|(refine Cd.mk ?_;cbv)|(refine aE.mk ?_;cbv)|(refine aJ.mk ?_;cbv)|exact trivial|refine And.intro ?_ ?_|refine bn fun _=>?_|refine bo fun _=>?_)
 subst hL
 refine aX (br hfs) (Qx s_ties s_p) (fun y=>cg Tryz.f95.ntmps [(0,.ptr 1 0),(3,.sl (some (4,3)) (.ints .i64 y.o)),(10,.own 2),(11,.val (.int .i64 (A.dK s_ties))),(12,.val (.int .i64 y.i))] [(1,.cells 75 [.val (.int .i64 s_i),.val (.int .i64 s_ee),.val (.int .i64 s_er),.val (.int .i64 s_t),.val (.int .i64 s_p),.own 2,.val (.slice none 0 0),.val (.slice none 0 0),.val (.slice none 0 0),.val (.int .i64 s_ph),.val (.slice none 0 0),.val (.slice none 0 0),.val (.int .i64 zu),.val (.bool s_o),.sl (some (3,89)) (.ah (.int .i64 (.int .i64 (.int .i64 (.int .i64 (.ints .i64 (.ah (.int .i64 (.int .i64 (.int .i64 (.int .i64 (.bool .nil))))) (.int .i64 (.int .i64 (.int .i64 (.int .i64 .nil)))))))))) s_q)]),(2,.row 58 (.ah (.int .i64 (.int .i64 (.int .i64 (.int .i64 (.bool (.bool (.int .i64 .nil))))))) s_ties)),(3,.tok),(4,.tok)] [.one (.ptr 1 0)]) (Zs s_ties) (xlR 12 3) ⟨0,[]⟩ ?_ ?_ ?_
 ·exact CJ _ _
 ·cbv
  repeat' (first|exact trivial|exact rfl|refine And.intro ?_ ?_)
 rintro⟨i,o⟩ hq O hO
 have hst:=fun h=>DH hk6 hq h
 have hen:=fun h=>JQ hq h
 have q0:=hq.1
 have q1:=hq.2.1
 dsimp only at q0 q1
 subst hA
 generalize hA:Ar.U=A
 generalize hL:Lp _ _ _=L
 refine aO zq ?_
 repeat' (first|(refine ay zq ?_;try dsimp only)|refine ax zq ?_ (aa hL)|refine aw zq ?_|refine az ?_|refine av ?_|refine au ?_|refine aq ?_|refine ar rfl ?_|refine ai rfl ?_|refine aj rfl ?_|(refine Cd.mk ?_;cbv)|(refine aE.mk ?_;cbv)|(refine aJ.mk ?_;cbv)|exact trivial|refine And.intro ?_ ?_|refine bn fun _=>?_|refine bo fun _=>?_)
 all_goals first|(show L _ _ _;skip)|(clear hL zq Z hq;subst hA hF hG0 hG1 hO;simp only [Kc.U,VoR.Fs.U,Ar.U] at * <;> grind [al];done)
theorem za:aA Tryz.prog 95 (oD Kc.U):=by
 refine aG af.nil Tryz.func95 rfl rfl fun xs h p hp=>?_
 unfold oD at hp
 split at hp
 ·cases hp
  exact⟨aB rfl,fun hC _=>@PU _ _ _ _ _ _ _ _ _ _ hC⟩
 ·cases hp
theorem zi:iv (oD Kc.U):=by
 intro xs h p hp
 unfold oD at hp
 split at hp
 ·cases hp
  rfl
 ·cases hp
noncomputable def JL (F:Kc):aZ:=fun xs h=>match xs,h with
 |[.agg [.val (.int .i64 _),.val (.int .i64 _),.val (.int .i64 _),.val (.int .i64 t_m),.val (.bool _),.val (.bool _),.val (.int .i64 _)]],[]=>some ⟨True,.sa (B (F.Yl t_m)),[],[Any]⟩
 |_,_=>none
theorem Zp (t_p:Int) (uj:Int) (t_s:Int) (t_m:Int) (t_t:Bool) (t_b:Bool) (t_o:Int):aU [] Tryz.f150 [.agg [.val (.int .i64 t_p),.val (.int .i64 uj),.val (.int .i64 t_s),.val (.int .i64 t_m),.val (.bool t_t),.val (.bool t_b),.val (.int .i64 t_o)]] [] ⟨True,.sa (B (Kc.U.Yl t_m)),[],[Any]⟩:=by
 intro b gv
 have hfs:=af.nil
 generalize hF:Kc.U=F at hfs ⊢
 generalize hG0:VoR.Fs.U=G0 at hfs ⊢
 generalize hG1:ViR.Vs.U=G1 at hfs ⊢
 generalize hA:Ar.U=A
 generalize hL:Lp _ _ _=L
 obtain⟨Z,zq⟩:=aP
 refine @aD _ _ _ _ _ _ _ (aa hL) _ _ zq rfl ?_
 repeat' (first|(refine ay zq ?_;try dsimp only)|refine ax zq ?_ (aa hL)|refine aw zq ?_|refine az ?_|refine av ?_|refine au ?_|refine aq ?_|refine ar rfl ?_|refine ai rfl ?_|refine aj rfl ?_|(refine Cd.mk ?_;cbv)|(refine aE.mk ?_;cbv)|(refine aJ.mk ?_;cbv)|exact trivial|refine And.intro ?_ ?_|refine bn fun _=>?_|refine bo fun _=>?_)
 all_goals
  clear hL zq Z
  try clear hfs
  subst hA hF hG0 hG1
  simp only [Kc.U,VoR.Fs.U,Ar.U] at *
  try (grind [al])
theorem IN:aA Tryz.prog 150 (JL Kc.U):=by
 refine aG af.nil Tryz.func150 rfl rfl fun xs h p hp=>?_
 unfold JL at hp
 split at hp
 ·cases hp
  exact⟨aB rfl,fun _ _=>@Zp _ _ _ _ _ _ _⟩
 ·cases hp
noncomputable def AZ (F:Kc):aZ:=fun xs h=>match xs,h with
 |[.one (.sl none (.ah (.int .i64 (.int .i64 (.int .i64 (.int .i64 (.bool (.bool (.int .i64 .nil))))))) l)),.one (.val (.func (.func 150) ⟨[]⟩ ⟨[]⟩))],[]=>some ⟨F.lJ l=true,.sa (I (F.Qp l)),[],[Any,Any]⟩
 |_,_=>none
theorem Sz (l:List E) (hC:Kc.U.lJ l=true):aU [(150,JL Kc.U)] Tryz.f107 [.one (.sl none (.ah (.int .i64 (.int .i64 (.int .i64 (.int .i64 (.bool (.bool (.int .i64 .nil))))))) l)),.one (.val (.func (.func 150) ⟨[]⟩ ⟨[]⟩))] [] ⟨Kc.U.lJ l=true,.sa (I (Kc.U.Qp l)),[],[Any,Any]⟩:=by
 intro b gv
 have hk:l.length≤1000:=of_decide_eq_true (show decide (l.length≤1000)=true from hC)
 have hk6:l.length≤1000000:=by omega
 have hfs:=(af.cons IN af.nil rfl)
 generalize hF:Kc.U=F at hC hfs ⊢
 generalize hG0:VoR.Fs.U=G0 at hC hfs ⊢
 generalize hG1:ViR.Vs.U=G1 at hC hfs ⊢
 generalize hA:Ar.U=A
 generalize hL:Lp _ _ _=L
 obtain⟨Z,zq⟩:=aP
 refine @aD _ _ _ _ _ _ _ (aa hL) _ _ zq rfl ?_
 repeat' (first|(refine ay zq ?_;try dsimp only)|refine ax zq ?_ (aa hL)|refine aw zq ?_|refine az ?_|refine av ?_|refine au ?_|refine aq ?_|refine ar rfl ?_|refine ai rfl ?_|refine aj rfl ?_|(refine Cd.mk ?_;cbv)|(refine aE.mk ?_;cbv)|(refine aJ.mk ?_;cbv)|exact trivial|refine And.intro ?_ ?_|refine bn fun _=>?_|refine bo fun _=>?_)
 subst hL
 refine aX (br hfs) (Yy l) (fun y=>cg Tryz.f107.ntmps [(0,.sl none (.ah (.int .i64 (.int .i64 (.int .i64 (.int .i64 (.bool (.bool (.int .i64 .nil))))))) l)),(1,.val (.func (.func 150) ⟨[]⟩ ⟨[]⟩)),(7,.val (.int .i64 (A.dK l))),(8,.val (.int .i64 y.i))] [] [Any,Any]) (pA l.length) (Zy 8) ⟨0⟩ ?_ ?_ ?_
 ·exact Qd _
 ·cbv
  repeat' (first|exact trivial|exact rfl|refine And.intro ?_ ?_)
 rintro⟨i⟩ hq O hO
 have hst:=fun h=>MX hk6 hq h
 have hen:=fun h=>TE hq h
 have q0:=hq.1
 have q1:=hq.2.1
 dsimp only at q0 q1
 subst hA
 generalize hA:Ar.U=A
 generalize hL:Lp _ _ _=L
 refine aO zq ?_
 repeat' (first|(refine ay zq ?_;try dsimp only)|refine ax zq ?_ (aa hL)|refine aw zq ?_|refine az ?_|refine av ?_|refine au ?_|refine aq ?_|refine ar rfl ?_|refine ai rfl ?_|refine aj rfl ?_|(refine Cd.mk ?_;cbv)|(refine aE.mk ?_;cbv)|(refine aJ.mk ?_;cbv)|exact trivial|refine And.intro ?_ ?_|refine bn fun _=>?_|refine bo fun _=>?_)
 all_goals first|(show L _ _ _;skip)|(clear hL hfs zq Z hq;subst hA hF hG0 hG1 hO;simp only [Kc.U,VoR.Fs.U,Ar.U] at * <;> grind [al];done)
theorem EY:aA Tryz.prog 107 (AZ Kc.U):=by
 refine aG (af.cons IN af.nil rfl) Tryz.func107 rfl rfl fun xs h p hp=>?_
 unfold AZ at hp
 split at hp
 ·cases hp
  exact⟨aB rfl,fun hC _=>@Sz _ hC⟩
 ·cases hp
noncomputable def xR (F:Kc):aZ:=fun xs h=>match xs,h with
 |[.one (.sl none (.ah (.int .i64 (.int .i64 (.int .i64 (.int .i64 (.bool (.bool (.int .i64 .nil))))))) l)),.one (.val (.func (.func 150) ⟨[]⟩ ⟨[]⟩))],[]=>some ⟨F.lJ l=true,.sa (B (F.MN l)),[],[Any,Any]⟩
 |_,_=>none
theorem Nb (l:List E) (hC:Kc.U.lJ l=true):aU [(107,AZ Kc.U)] Tryz.f124 [.one (.sl none (.ah (.int .i64 (.int .i64 (.int .i64 (.int .i64 (.bool (.bool (.int .i64 .nil))))))) l)),.one (.val (.func (.func 150) ⟨[]⟩ ⟨[]⟩))] [] ⟨Kc.U.lJ l=true,.sa (B (Kc.U.MN l)),[],[Any,Any]⟩:=by
 intro b gv
 have hk:l.length≤1000:=of_decide_eq_true (show decide (l.length≤1000)=true from hC)
 have hk6:l.length≤1000000:=by omega
 have hh:=Xa l
 have hfs:=(af.cons EY af.nil rfl)
 generalize hF:Kc.U=F at hC hfs ⊢
 generalize hG0:VoR.Fs.U=G0 at hC hfs ⊢
 generalize hG1:ViR.Vs.U=G1 at hC hfs ⊢
 generalize hA:Ar.U=A
 generalize hL:Lp _ _ _=L
 obtain⟨Z,zq⟩:=aP
 refine @aD _ _ _ _ _ _ _ (aa hL) _ _ zq rfl ?_
 repeat' (first|(refine ay zq ?_;try dsimp only)|refine ax zq ?_ (aa hL)|refine aw zq ?_|refine az ?_|refine av ?_|refine au ?_|refine aq ?_|refine ar rfl ?_|refine ai rfl ?_|refine aj rfl ?_|(refine Cd.mk ?_;cbv)|(refine aE.mk ?_;cbv)|(refine aJ.mk ?_;cbv)|exact trivial|refine And.intro ?_ ?_|refine bn fun _=>?_|refine bo fun _=>?_)
 all_goals
  clear hL zq Z
  try clear hfs
  subst hA hF hG0 hG1
  simp only [Kc.U,VoR.Fs.U,Ar.U] at *
  try (grind [al])
theorem Ak:aA Tryz.prog 124 (xR Kc.U):=by
 refine aG (af.cons EY af.nil rfl) Tryz.func124 rfl rfl fun xs h p hp=>?_
 unfold xR at hp
 split at hp
 ·cases hp
  exact⟨aB rfl,fun hC _=>@Nb _ hC⟩
 ·cases hp
noncomputable def uf (F:Kc):aZ:=fun xs h=>match xs with
 |[.one (.ptr 0 0)]=>(match vV h with
  |some s=>some ⟨F.ia s=true,.sa (B (F.MN s.ae)),(eN s),[.one (.ptr 0 0)]⟩
  |none=>none)
 |_=>none
theorem TX (s:CS) (hC:Kc.U.ia s=true):aU [(124,xR Kc.U)] Tryz.f126 [.one (.ptr 0 0)] (eN s) ⟨Kc.U.ia s=true,.sa (B (Kc.U.MN s.ae)),(eN s),[.one (.ptr 0 0)]⟩:=by
 intro b gv
 have hk:s.ae.length≤1000∧s.q.length≤100000:=of_decide_eq_true (show decide _=true from hC)
 have hfs:=(af.cons Ak af.nil rfl)
 generalize hF:Kc.U=F at hC hfs ⊢
 generalize hG0:VoR.Fs.U=G0 at hC hfs ⊢
 generalize hG1:ViR.Vs.U=G1 at hC hfs ⊢
 generalize hA:Ar.U=A
 generalize hL:Lp _ _ _=L
 obtain⟨Z,zq⟩:=aP
 refine @aD _ _ _ _ _ _ _ (aa hL) _ _ zq rfl ?_
 repeat' (first|(refine ay zq ?_;try dsimp only)|refine ax zq ?_ (aa hL)|refine aw zq ?_|refine az ?_|refine av ?_|refine au ?_|refine aq ?_|refine ar rfl ?_|refine ai rfl ?_|refine aj rfl ?_|(refine Cd.mk ?_;cbv)|(refine aE.mk ?_;cbv)|(refine aJ.mk ?_;cbv)|exact trivial|refine And.intro ?_ ?_|refine bn fun _=>?_|refine bo fun _=>?_)
 all_goals
  clear hL zq Z
  try clear hfs
  subst hA hF hG0 hG1
  simp only [Kc.U,VoR.Fs.U] at *
  try (grind [al])
theorem CW:aA Tryz.prog 126 (uf Kc.U):=by
 refine aG (af.cons Ak af.nil rfl) Tryz.func126 rfl rfl fun xs h p hp=>?_
 unfold uf at hp
 split at hp
 ·split at hp
  ·rename_i e0
   cases hp
   have g0:=cT e0
   subst g0
   exact⟨aB rfl,fun hC _=>@TX _ hC⟩
  ·cases hp
 ·cases hp
theorem CO:iv (uf Kc.U):=by
 intro xs h p hp
 unfold uf at hp
 split at hp
 ·split at hp
  ·rename_i e0
   cases hp
   exact (cT e0).symm
  ·cases hp
 ·cases hp
end Go.Proofs.YtelhldgdnlppfaaGreat.KsC
