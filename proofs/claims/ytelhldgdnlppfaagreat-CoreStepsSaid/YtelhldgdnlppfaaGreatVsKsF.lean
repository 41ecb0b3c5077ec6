/-
  echoes,and a whole step of a core. No condition but size.
-/
import Derived.Test.YtelhldgdnlppfaaGreatVsKsE
import Derived.Test.YtelhldgdnlppfaaGreatVsW41
import Derived.Test.YtelhldgdnlppfaaGreatVsTrR
import Derived.Test.YtelhldgdnlppfaaGreatVsW41
set_option maxHeartbeats 4000000
set_option cbv.maxSteps 4000000
set_option maxRecDepth 100000
namespace Go.Proofs.YtelhldgdnlppfaaGreat.KsF
open Go Ry ViR VoR KsS KsC KsU KsT KsD KsE
open Fz (EG FP)
open MgR (sF oT oO nY oo)
open WoR (ug wC kx WD)
open TrR (xV va bS)
def mo (d:CS) (p:Int) (w:WK):CS:=⟨d.i,d.ee,d.er,d.t,d.p,d.U,d.w.take (bS d.w p).toNat ++ d.w.drop (bS d.w p+1).toNat,if oo d.gn d.gl w.n w.l=0 then oO d.gn d.gl w.n w.l else d.gn,if oo d.gn d.gl w.n w.l=0 then nY d.gn d.gl w.n w.l else d.gl,d.ph,d.tn,d.tl,d.l,d.o,d.q⟩
def nX (L:Lv) (d:CS) (p:Int) (w:WK):CS:=if w.e=d.ee∧w.r=d.er∧d.ph=1∧0≤bS d.w p then cy L (mo d p w) else d
def IU (d:CS) (w:WK):Bool:=decide (d.U.length≤300∧d.q.length≤70000∧d.w.length≤1000∧d.gn.length≤500∧d.gl.length≤500∧w.n.length≤1000∧w.l.length≤1000)
def uf (L:Lv) (d:CS) (p:Int) (w:WK):Bool:=IU d w && (!decide (w.e=d.ee∧w.r=d.er∧d.ph=1∧0≤bS d.w p) || eN L (mo d p w))
theorem Yw {L:Lv} {d:CS} {p:Int} {w:WK} (h:uf L d p w=true):(d.U.length≤300∧d.q.length≤70000∧d.w.length≤1000∧d.gn.length≤500∧d.gl.length≤500∧w.n.length≤1000∧w.l.length≤1000) ∧
  (w.e=d.ee→w.r=d.er→d.ph=1→¬bS d.w p < 0→eN L (mo d p w)=true∧nX L d p w=cy L (mo d p w))∧(¬w.e=d.ee→nX L d p w=d)∧(¬w.r=d.er→nX L d p w=d)∧(¬d.ph=1→nX L d p w=d)∧(bS d.w p < 0→nX L d p w=d):=by
 unfold uf IU at h;simp only [Bool.and_eq_true,Bool.or_eq_true,Bool.not_eq_true',decide_eq_true_eq,decide_eq_false_iff_not] at h;obtain⟨h1,h2⟩:=h;unfold nX;refine⟨h1,fun e1 e2 e3 e4=>?_,fun e=>if_neg fun q=>e q.1,fun e=>if_neg fun q=>e q.2.1,fun e=>if_neg fun q=>e q.2.2.1,fun e=>if_neg fun q=>by omega⟩;have e5:w.e=d.ee∧w.r=d.er∧d.ph=1∧0≤bS d.w p:=⟨e1,e2,e3,by omega⟩;rw [if_pos e5];exact⟨h2.resolve_left fun q=>q e5,rfl⟩
theorem UW {d:CS} {p:Int} {w:WK} (h:oo d.gn d.gl w.n w.l=0):mo d p w=⟨d.i,d.ee,d.er,d.t,d.p,d.U,d.w.take (bS d.w p).toNat ++ d.w.drop (bS d.w p+1).toNat,oO d.gn d.gl w.n w.l,nY d.gn d.gl w.n w.l,d.ph,d.tn,d.tl,d.l,d.o,d.q⟩:=by
 unfold mo;rw [if_pos h,if_pos h]
theorem Wr {d:CS} {p:Int} {w:WK} (h:¬oo d.gn d.gl w.n w.l=0):mo d p w=⟨d.i,d.ee,d.er,d.t,d.p,d.U,d.w.take (bS d.w p).toNat ++ d.w.drop (bS d.w p+1).toNat,d.gn,d.gl,d.ph,d.tn,d.tl,d.l,d.o,d.q⟩:=by
 unfold mo;rw [if_neg h,if_neg h]
theorem Qa (l:List Int) (p:Int) : -1≤bS l p∧bS l p < l.length:=by
 unfold TrR.bS;split
 ·rename_i h;have:=List.idxOf_lt_length_of_mem h;omega
 ·omega
def iD (L:Lv) (d:CS) (p:Int) (w:WK):CS:=if w.k=2 then (if bA d.U p < 0 then d else if d.o=true then d else nX L d p w) else dG L d p w
def rH (L:Lv) (d:CS) (p:Int) (w:WK):Bool:=IU d w && (decide (bA d.U p < 0) || (d.o || uf L d p w))
theorem WU {L:Lv} {d:CS} {p:Int} {w:WK} (h:rH L d p w=true):(d.U.length≤300∧d.q.length≤70000∧d.w.length≤1000∧d.gn.length≤500∧d.gl.length≤500∧w.n.length≤1000∧w.l.length≤1000) ∧
  (w.k=2→bA d.U p < 0→iD L d p w=d)∧(w.k=2→¬bA d.U p < 0→d.o=true→iD L d p w=d)∧(w.k=2→¬bA d.U p < 0→d.o=false→uf L d p w=true∧iD L d p w=nX L d p w):=by
 unfold rH IU at h;simp only [Bool.and_eq_true,Bool.or_eq_true,decide_eq_true_eq] at h;obtain⟨h1,h2⟩:=h;unfold iD;refine⟨h1,fun e1 e2=>?_,fun e1 e2 e3=>?_,fun e1 e2 e3=>?_⟩
 ·rw [if_pos e1,if_pos e2]
 ·rw [if_pos e1,if_neg e2,if_pos e3]
 ·rw [if_pos e1,if_neg e2,if_neg (by rw [e3];decide)];rcases h2 with h2|h2|h2
  ·exact absurd h2 e2
  ·rw [e3] at h2;cases h2
  ·exact⟨h2,rfl⟩
structure EV where
 k:Int
 p:Int
 w:Int
 s:Int
 x:WK
def tH (x:WK):WD:=⟨x.k,x.e,x.r,x.n,x.l,x.ck,x.ca,x.cb,x.cs⟩
def dy (i:Int) (v:EV):Bool:=if v.k=1 then bG v.p && decide (v.p≠i∧0≤v.w∧v.w≤2147483647∧1≤v.s∧v.s≤2147483647) else if v.k=3 then kx (tH v.x) else decide (v.k=2∨v.k=4)
def eV (i:Int) (v:EV):Int:=if dy i v=true then 0 else 1
def ju (L:Lv) (d:CS) (v:EV):CS:=if v.k=1 then L.B (Jl d v.p v.w v.s) else if v.k=2 then QC L d v.p else if v.k=3 then iD L d v.p v.x else mj d
def vm (L:Lv) (d:CS) (v:EV):Bool:=IU d v.x && ((!decide (v.k=1) || CG L d v.p v.w v.s) && ((!decide (v.k=2) || Cy L d v.p) && ((!decide (v.k=3∧¬v.x.k=2) || lq L d v.p v.x) && (!decide (v.k=3∧v.x.k=2) || rH L d v.p v.x))))
theorem Wd {L:Lv} {d:CS} {v:EV} (h:vm L d v=true):(d.U.length≤300∧d.q.length≤70000∧d.w.length≤1000∧d.gn.length≤500∧d.gl.length≤500∧v.x.n.length≤1000∧v.x.l.length≤1000) ∧
  (v.k=1→CG L d v.p v.w v.s=true∧ju L d v=L.B (Jl d v.p v.w v.s))∧(v.k=2→Cy L d v.p=true∧ju L d v=QC L d v.p)∧(v.k=3→¬v.x.k=2→lq L d v.p v.x=true∧ju L d v=dG L d v.p v.x)∧(v.k=3→v.x.k=2→rH L d v.p v.x=true∧ju L d v=iD L d v.p v.x)∧(v.k=4→ju L d v=mj d):=by
 unfold vm IU at h;simp only [Bool.and_eq_true,Bool.or_eq_true,Bool.not_eq_true',decide_eq_true_eq,decide_eq_false_iff_not] at h;obtain⟨h1,h2,h3,h4,h5⟩:=h;unfold ju;refine⟨h1,fun e=>⟨h2.resolve_left fun q=>q e,if_pos e⟩,fun e=>⟨h3.resolve_left fun q=>q e,?_⟩,fun e1 e2=>⟨h4.resolve_left fun q=>q ⟨e1,e2⟩,?_⟩,fun e1 e2=>⟨h5.resolve_left fun q=>q ⟨e1,e2⟩,?_⟩,fun e=>?_⟩
 ·rw [if_neg (by omega),if_pos e]
 ·rw [if_neg (by omega),if_neg (by omega),if_pos e1];unfold iD;rw [if_neg e2]
 ·rw [if_neg (by omega),if_neg (by omega),if_pos e1]
 ·rw [if_neg (by omega),if_neg (by omega),if_neg (by omega)]
theorem VS {i:Int} {v:EV} (h:eV i v=0):v.k=1∨v.k=2∨v.k=3∨v.k=4:=by
 unfold eV at h;split at h
 ·rename_i h2;unfold dy at h2;clear h;revert h2;intro h;split at h
  ·omega
  ·split at h
   ·omega
   ·have:=of_decide_eq_true h;omega
 ·cases h
def dg (L:Lv) (d:CS) (v:EV):CS:=if eV d.i v=0 then ju L d v else ⟨0,0,0,0,0,[],[],[],[],0,[],[],0,false,[]⟩
def Bh (v:EV):Bool:=decide (v.k=3∧v.x.k=2)
structure Kf where
 adi:CS→Int→WK→Bool
 aeI:CS→Int→WK→CS
 adW:CS→Int→WK→Bool
 agh:CS→Int→WK→CS
 wc:Int→EV→Int
 aeZ:WK→Bool
 Ve:List E→List Int→List Int→List E→List Int→List E→Bool
 Ba:CS→EV→Bool
 yM:CS→EV→CS
 Bd:EV→Bool
def vI (L:Lv):Kf:=⟨uf L,nX L,rH L,iD L,eV,fun w=>decide (w.n.length≤1000∧w.l.length≤1000),fun t w gn gl tn tl=>decide (t.length≤1000∧w.length≤1000∧gn.length≤1000∧gl.length≤1000∧tn.length≤1000∧tl.length≤1000),fun d v=>vm L d v && decide (d.tn.length≤1000∧d.tl.length≤1000∧d.q=[]),dg L,Bh⟩
variable {V:Lv}
theorem bV {l:List (Nat × aO)} {fn:Func} {args:List SA} {h:H} {p:qK} (hd:∀ (b:Bs) (gv:List Value) (Z:(Ex→St→Prop)→Ex→St→Prop) (_:∀ K,Z K=K) (A:Ar) (_:Ar.aa=A) (L:Code→St→(Ex→St→Prop)→Prop) (_:Lp Tryz.prog b gv=L),Cd A (zY l) L (qC fn) (Ry.start fn.ntmps args h) (Z fun e s'=>Mj A (zY l) fn.results.toList p e s')):ID l fn args h p:=fun b gv=>@sj _ _ _ _ _ _ _ (af rfl) _ _ (fun _=>rfl) rfl (hd b gv id (fun _=>rfl) _ rfl _ rfl)
noncomputable def LH (F:Kf):aO:=fun xs h=>match xs with
 |[.one (.ptr 0 0),.one (.val (.int .i64 p)),.agg [.val (.int .i64 w_k),.val (.int .i64 gY),.val (.int .i64 w_r),.sl none (.ints .i64 w_n),.sl none (.ae (.int .i64 (.int .i64 (.int .i64 (.int .i64 (.bool .nil))))) w_l),.val (.int .i64 w_ck),.val (.int .i64 w_ca),.val (.int .i64 w_cb),.val (.int .i64 w_cs)]]=>(match hp2 h with
  |some s=>some ⟨F.adi s p ⟨w_k,gY,w_r,w_n,w_l,w_ck,w_ca,w_cb,w_cs⟩=true,.cN [],(vK (F.aeI s p ⟨w_k,gY,w_r,w_n,w_l,w_ck,w_ca,w_cb,w_cs⟩)),[.one (.ptr 0 0),Any,Any]⟩
  |none=>none)
 |_=>none
theorem Rh (hb:au Tryz.prog 33 (bX (db V))):au Tryz.prog 72 (LH (vI V)):=by
 have hfs:=(ak.cons va (ak.cons oT (ak.cons FP (ak.cons (jv hb) ak.nil rfl) rfl) rfl) rfl);refine aw hfs Tryz.func72 rfl rfl fun xs h p hp=>?_;unfold LH at hp;split at hp
 ·rename_i p w_k gY w_r w_n w_l w_ck w_ca w_cb w_cs;split at hp
  ·rename_i s e0;cases hp;have g0:=yk e0;subst g0;refine⟨av rfl,fun hC _=>?_⟩;dsimp only at hC;refine @bV _ _ _ _ _ ?_;intro b gv Z zq A hA L hL;have hgo:=Yw (show uf V s p ⟨w_k,gY,w_r,w_n,w_l,w_ck,w_ca,w_cb,w_cs⟩=true from hC);have hix:=Qa s.w p;have hin:0≤bS s.w p→s.w.length≤1000→aD .add .i64 (bS s.w p) 1=bS s.w p+1:=fun h1 h2=>by rw [aW,wr _ (by omega) (by omega)]
   have he1:=fun h=>UW (d:=s) (p:=p) (w:=⟨w_k,gY,w_r,w_n,w_l,w_ck,w_ca,w_cb,w_cs⟩) h;have he2:=fun h=>Wr (d:=s) (p:=p) (w:=⟨w_k,gY,w_r,w_n,w_l,w_ck,w_ca,w_cb,w_cs⟩) h;generalize hF:(vI V)=F,hG0:ViR.Vs.aa=G0,hG1:KsC.Kc.aa=G1,hG2:MgR.Mg.aa=G2,hG3:WoR.Ws.aa=G3,hG4:TrR.Tr.aa=G4,hG5:DlI.Df.aa=G5,hG6:(db V)=G6,hG7:(ml V)=G7 at hC hfs ⊢
   repeat' (first|(apply al zq;try dsimp only)|apply aS zq (af hL)|apply aq zq|refine aT rfl ?_|apply ai|refine ah rfl ?_|refine aR rfl ?_|exact aA|apply aB|refine aP fun _=>?_|refine aQ fun _=>?_|(constructor;cbv))
   all_goals first|(show L _ _ _;skip)|(clear hL hfs zq Z;subst hA hF hG0 hG1 hG2 hG3 hG4 hG5 hG6 hG7;simp only [vI,db,MgR.Mg.aa,TrR.Tr.aa,DlI.Df.aa,Ar.aa] at * <;> grind [aj,qa,nZ,pZ,Bu];done)
  ·cases hp
 ·cases hp
noncomputable def yW (F:Kf):aO:=fun xs h=>match xs with
 |[.one (.ptr 0 0),.one (.val (.int .i64 p)),.agg [.val (.int .i64 w_k),.val (.int .i64 gY),.val (.int .i64 w_r),.sl none (.ints .i64 w_n),.sl none (.ae (.int .i64 (.int .i64 (.int .i64 (.int .i64 (.bool .nil))))) w_l),.val (.int .i64 w_ck),.val (.int .i64 w_ca),.val (.int .i64 w_cb),.val (.int .i64 w_cs)]]=>(match hp2 h with
  |some s=>some ⟨F.adW s p ⟨w_k,gY,w_r,w_n,w_l,w_ck,w_ca,w_cb,w_cs⟩=true∧w_k=2,.cN [],(vK (F.agh s p ⟨w_k,gY,w_r,w_n,w_l,w_ck,w_ca,w_cb,w_cs⟩)),[.one (.ptr 0 0),Any,Any]⟩
  |none=>none)
 |_=>none
theorem OD (hb:au Tryz.prog 33 (bX (db V))):au Tryz.prog 39 (yW (vI V)):=by
 have hfs:=(ak.keeps RQ Uz (ak.cons (Rh hb) ak.nil rfl));refine aw hfs Tryz.func39 rfl rfl fun xs h p hp=>?_;unfold yW at hp;split at hp
 ·rename_i p w_k gY w_r w_n w_l w_ck w_ca w_cb w_cs;split at hp
  ·rename_i s e0;cases hp;have g0:=yk e0;subst g0;refine⟨av rfl,fun hC _=>?_⟩;dsimp only at hC;refine @bV _ _ _ _ _ ?_;intro b gv Z zq A hA L hL;have hgo:=WU (show rH V s p ⟨w_k,gY,w_r,w_n,w_l,w_ck,w_ca,w_cb,w_cs⟩=true from hC.1);have hk2:=hC.2;have hat:=jd s.U p;generalize hF:(vI V)=F,hG0:ViR.Vs.aa=G0,hG1:KsC.Kc.aa=G1,hG2:MgR.Mg.aa=G2,hG3:WoR.Ws.aa=G3,hG4:TrR.Tr.aa=G4,hG5:DlI.Df.aa=G5,hG6:(db V)=G6,hG7:(ml V)=G7 at hC hfs ⊢
   repeat' (first|(apply al zq;try dsimp only)|apply aS zq (af hL)|apply aq zq|refine aT rfl ?_|apply ai|refine ah rfl ?_|refine aR rfl ?_|exact aA|apply aB|refine aP fun _=>?_|refine aQ fun _=>?_|(constructor;cbv))
   all_goals first|(show L _ _ _;skip)|(clear hL hfs zq Z;subst hA hF hG0 hG1 hG2 hG3 hG4 hG5 hG6 hG7;simp only [vI,db,KsC.Kc.aa,Ar.aa,dY] at * <;> grind [aj,qa,nZ,pZ,Bu];done)
  ·cases hp
 ·cases hp
noncomputable def pA (F:Kf):aO:=fun xs h=>match xs,h with
 |[.agg [.val (.int .i64 c_i),.val (.int .i64 _),.val (.int .i64 _),.val (.int .i64 _),.val (.int .i64 _),.sl none (.ae (.int .i64 (.int .i64 (.int .i64 (.int .i64 (.bool (.bool (.int .i64 .nil))))))) _),.sl none (.ints .i64 _),.sl none (.ints .i64 _),.sl none (.ae (.int .i64 (.int .i64 (.int .i64 (.int .i64 (.bool .nil))))) _),.val (.int .i64 _),.sl none (.ints .i64 _),.sl none (.ae (.int .i64 (.int .i64 (.int .i64 (.int .i64 (.bool .nil))))) _),.val (.int .i64 _),.val (.bool _)],.agg [.val (.int .i64 v_k),.val (.int .i64 v_p),.val (.int .i64 v_w),.val (.int .i64 Hr),.val (.int .i64 v_xk),.val (.int .i64 v_xe),.val (.int .i64 v_xr),.sl none (.ints .i64 v_xn),.sl none (.ae (.int .i64 (.int .i64 (.int .i64 (.int .i64 (.bool .nil))))) v_xl),.val (.int .i64 v_xck),.val (.int .i64 v_xca),.val (.int .i64 v_xcb),.val (.int .i64 v_xcs)]],[]=>some ⟨F.aeZ ⟨v_xk,v_xe,v_xr,v_xn,v_xl,v_xck,v_xca,v_xcb,v_xcs⟩=true,.sa (I (F.wc c_i ⟨v_k,v_p,v_w,Hr,⟨v_xk,v_xe,v_xr,v_xn,v_xl,v_xck,v_xca,v_xcb,v_xcs⟩⟩)),[],[Any,Any]⟩
 |_,_=>none
theorem il:au Tryz.prog 35 (pA (vI V)):=by
 have hfs:=(ak.cons ia (ak.cons wC ak.nil rfl) rfl);refine aw hfs Tryz.func35 rfl rfl fun xs h p hp=>?_;unfold pA at hp;split at hp
 ·rename_i c_i c_ee c_er c_t c_p c_ties c_w c_gn c_gl c_ph c_tn c_tl c_l c_o v_k v_p v_w Hr v_xk v_xe v_xr v_xn v_xl v_xck v_xca v_xcb v_xcs;cases hp;refine⟨av rfl,fun hC _=>?_⟩;dsimp only at hC;refine @bV _ _ _ _ _ ?_;intro b gv Z zq A hA L hL;have hk:v_xn.length≤1000∧v_xl.length≤1000:=of_decide_eq_true hC;generalize hF:(vI V)=F,hG0:ViR.Vs.aa=G0,hG1:KsC.Kc.aa=G1,hG2:MgR.Mg.aa=G2,hG3:WoR.Ws.aa=G3,hG4:TrR.Tr.aa=G4,hG5:DlI.Df.aa=G5,hG6:(db V)=G6,hG7:(ml V)=G7 at hC hfs ⊢
  repeat' (first|(apply al zq;try dsimp only)|apply aS zq (af hL)|apply aq zq|refine aT rfl ?_|apply ai|refine ah rfl ?_|refine aR rfl ?_|exact aA|apply aB|refine aP fun _=>?_|refine aQ fun _=>?_|(constructor;cbv))
  all_goals first|(show L _ _ _;skip)|(clear hL hfs zq Z;subst hA hF hG0 hG1 hG2 hG3 hG4 hG5 hG6 hG7;simp only [vI,ViR.Vs.aa,WoR.Ws.aa,Ar.aa] at * <;> grind [aj,qa,nZ,pZ,Bu,eV,dy,tH,WoR.FL,WoR.er];done)
 ·cases hp
noncomputable def US (F:Kf):aO:=fun xs h=>match xs,h with
 |[.agg [.val (.int .i64 c_i),.val (.int .i64 c_ee),.val (.int .i64 c_er),.val (.int .i64 c_t),.val (.int .i64 c_p),.sl none (.ae (.int .i64 (.int .i64 (.int .i64 (.int .i64 (.bool (.bool (.int .i64 .nil))))))) c_ties),.sl none (.ints .i64 c_w),.sl none (.ints .i64 c_gn),.sl none (.ae (.int .i64 (.int .i64 (.int .i64 (.int .i64 (.bool .nil))))) c_gl),.val (.int .i64 c_ph),.sl none (.ints .i64 c_tn),.sl none (.ae (.int .i64 (.int .i64 (.int .i64 (.int .i64 (.bool .nil))))) c_tl),.val (.int .i64 c_l),.val (.bool c_o)]],[]=>some ⟨F.Ve c_ties c_w c_gn c_gl c_tn c_tl=true,.sa (.agg [.ay c_i,.ay c_ee,.ay c_er,.ay c_t,.ay c_p,.own 0,.sl none (.ints .i64 c_w),.sl none (.ints .i64 c_gn),.sl none (.ae .bg c_gl),.ay c_ph,.sl none (.ints .i64 c_tn),.sl none (.ae .bg c_tl),.ay c_l,.bK c_o]),[(0,.row 58 (.ae .eC c_ties))],[Any]⟩
 |_,_=>none
theorem YC:au Tryz.prog 36 (US (vI V)):=by
 have hfs:=(ak.cons Ot (ak.cons PU (ak.cons Ft ak.nil rfl) rfl) rfl);refine aw hfs Tryz.func36 rfl rfl fun xs h p hp=>?_;unfold US at hp;split at hp
 ·rename_i c_i c_ee c_er c_t c_p c_ties c_w c_gn c_gl c_ph c_tn c_tl c_l c_o;cases hp;refine⟨av rfl,fun hC _=>?_⟩;dsimp only at hC;refine @bV _ _ _ _ _ ?_;intro b gv Z zq A hA L hL;have hk:c_ties.length≤1000∧c_w.length≤1000∧c_gn.length≤1000∧c_gl.length≤1000∧c_tn.length≤1000∧c_tl.length≤1000:=of_decide_eq_true hC;generalize hF:(vI V)=F,hG0:ViR.Vs.aa=G0,hG1:KsC.Kc.aa=G1,hG2:MgR.Mg.aa=G2,hG3:WoR.Ws.aa=G3,hG4:TrR.Tr.aa=G4,hG5:DlI.Df.aa=G5,hG6:(db V)=G6,hG7:(ml V)=G7 at hC hfs ⊢
  repeat' (first|(apply al zq;try dsimp only)|apply aS zq (af hL)|apply aq zq|refine aT rfl ?_|apply ai|refine ah rfl ?_|refine aR rfl ?_|exact aA|apply aB|refine aP fun _=>?_|refine aQ fun _=>?_|(constructor;cbv))
  all_goals first|(show L _ _ _;skip)|(clear hL hfs zq Z;subst hA hF hG0 hG1 hG2 hG3 hG4 hG5 hG6 hG7;simp only [vI,KsC.Kc.aa] at * <;> grind [aj,qa,nZ,pZ,Bu];done)
 ·cases hp
noncomputable def VB (F:Kf):aO:=fun xs h=>match xs,h with
 |[.agg [.val (.int .i64 c_i),.val (.int .i64 c_ee),.val (.int .i64 c_er),.val (.int .i64 c_t),.val (.int .i64 c_p),.sl none (.ae (.int .i64 (.int .i64 (.int .i64 (.int .i64 (.bool (.bool (.int .i64 .nil))))))) c_ties),.sl none (.ints .i64 c_w),.sl none (.ints .i64 c_gn),.sl none (.ae (.int .i64 (.int .i64 (.int .i64 (.int .i64 (.bool .nil))))) c_gl),.val (.int .i64 c_ph),.sl none (.ints .i64 c_tn),.sl none (.ae (.int .i64 (.int .i64 (.int .i64 (.int .i64 (.bool .nil))))) c_tl),.val (.int .i64 c_l),.val (.bool c_o)]],[]=>some ⟨F.Ve c_ties c_w c_gn c_gl c_tn c_tl=true,.sa (.agg [.ay c_i,.ay c_ee,.ay c_er,.ay c_t,.ay c_p,.own 0,.own 1,.sl none (.ints .i64 c_gn),.sl none (.ae .bg c_gl),.ay c_ph,.sl none (.ints .i64 c_tn),.sl none (.ae .bg c_tl),.ay c_l,.bK c_o]),[(0,.row 58 (.ae .eC c_ties)),(1,.row 3 (.ints .i64 c_w))],[Any]⟩
 |_,_=>none
theorem Zd:au Tryz.prog 36 (VB (vI V)):=by
 have hfs:=(ak.cons Ot (ak.cons ZU (ak.cons Ft ak.nil rfl) rfl) rfl);refine aw hfs Tryz.func36 rfl rfl fun xs h p hp=>?_;unfold VB at hp;split at hp
 ·rename_i c_i c_ee c_er c_t c_p c_ties c_w c_gn c_gl c_ph c_tn c_tl c_l c_o;cases hp;refine⟨av rfl,fun hC _=>?_⟩;dsimp only at hC;refine @bV _ _ _ _ _ ?_;intro b gv Z zq A hA L hL;have hk:c_ties.length≤1000∧c_w.length≤1000∧c_gn.length≤1000∧c_gl.length≤1000∧c_tn.length≤1000∧c_tl.length≤1000:=of_decide_eq_true hC;generalize hF:(vI V)=F,hG0:ViR.Vs.aa=G0,hG1:KsC.Kc.aa=G1,hG2:MgR.Mg.aa=G2,hG3:WoR.Ws.aa=G3,hG4:TrR.Tr.aa=G4,hG5:DlI.Df.aa=G5,hG6:(db V)=G6,hG7:(ml V)=G7 at hC hfs ⊢
  repeat' (first|(apply al zq;try dsimp only)|apply aS zq (af hL)|apply aq zq|refine aT rfl ?_|apply ai|refine ah rfl ?_|refine aR rfl ?_|exact aA|apply aB|refine aP fun _=>?_|refine aQ fun _=>?_|(constructor;cbv))
  all_goals first|(show L _ _ _;skip)|(clear hL hfs zq Z;subst hA hF hG0 hG1 hG2 hG3 hG4 hG5 hG6 hG7;simp only [vI,KsC.Kc.aa] at * <;> grind [aj,qa,nZ,pZ,Bu];done)
 ·cases hp
end Go.Proofs.YtelhldgdnlppfaaGreat.KsF
