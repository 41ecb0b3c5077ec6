/-
  Views: what the search finds,what inner links are,and how many there are. No condition.
-/
import Derived.Test.YtelhldgdnlppfaaGreatVsKsF
import Derived.Test.YtelhldgdnlppfaaGreatVsKrS
import Derived.Test.YtelhldgdnlppfaaGreatVsRyK
import Derived.Test.YtelhldgdnlppfaaGreatVsW23
set_option maxHeartbeats 4000000
set_option cbv.maxSteps 4000000
set_option maxRecDepth 100000
namespace Go.Proofs.YtelhldgdnlppfaaGreat.KsG
open Go Ry ViR VoR KsS KsC KsT KsE KsF
open KrS (mr pj jB dF)
open KsD (db bX IC EN)
def aaB (v:EV):List SC:=[.val (.int .i64 v.k),.val (.int .i64 v.p),.val (.int .i64 v.w),.val (.int .i64 v.s),.val (.int .i64 v.x.k),.val (.int .i64 v.x.e),.val (.int .i64 v.x.r),.sl none (.ints .i64 v.x.n),.sl none (.ae (.int .i64 (.int .i64 (.int .i64 (.int .i64 (.bool .nil))))) v.x.l),.val (.int .i64 v.x.ck),.val (.int .i64 v.x.ca),.val (.int .i64 v.x.cb),.val (.int .i64 v.x.cs)]
def vS:List SC→Option EV
 |[.val (.int .i64 k),.val (.int .i64 p),.val (.int .i64 w),.val (.int .i64 s),.val (.int .i64 xk),.val (.int .i64 xe),.val (.int .i64 xr),.sl none (.ints .i64 xn),.sl none (.ae (.int .i64 (.int .i64 (.int .i64 (.int .i64 (.bool .nil))))) xl),.val (.int .i64 xck),.val (.int .i64 xca),.val (.int .i64 xcb),.val (.int .i64 xcs)]=>some ⟨k,p,w,s,⟨xk,xe,xr,xn,xl,xck,xca,xcb,xcs⟩⟩
 |_=>none
theorem jP {l:List SC} {x:EV} (h:vS l=some x):l=aaB x:=by
 unfold vS at h;split at h
 ·cases h;rfl
 ·cases h
variable {V:Lv}
theorem lJ (v:EV):(⟨v.k,v.p,v.w,v.s,v.x⟩:EV)=v:=rfl
theorem qw (w:WK):(⟨w.k,w.e,w.r,w.n,w.l,w.ck,w.ca,w.cb,w.cs⟩:WK)=w:=rfl
theorem AL {c:CS} (h:c.q=[]):(⟨c.i,c.ee,c.er,c.t,c.p,c.U,c.w,c.gn,c.gl,c.ph,c.tn,c.tl,c.l,c.o,[]⟩:CS)=c:=by rw [← h]
def Kb (L:Lv) (d:CS) (v:EV):Bool:=IU d v.x && ((!decide (eV d.i v=0) || vm L d v) && decide (d.tn.length≤1000∧d.tl.length≤1000∧d.q=[]))
def iW (i l:Int):CS:=⟨i,0,0,0,0,[],[],[],[],0,[],[],l,false,[]⟩
def eJ (i l:Int):Bool:=bG i && decide (1≤l∧l≤2147483647)
def rN (L:Lv) (i l:Int):CS:=if eJ i l=true then L.B (iW i l) else ⟨0,0,0,0,0,[],[],[],[],0,[],[],0,false,[]⟩
structure Kg where
 abq:Int→Int→Bool
 agB:Int→Int→CS
 afp:Int→Int→Int
 Ba:CS→EV→Bool
 yM:CS→EV→CS
 wc:Int→EV→Int
 Bd:EV→Bool
def oa (L:Lv):Kg:=⟨fun i l=>!eJ i l || L.ok (iW i l),rN L,fun i l=>if eJ i l=true then 0 else 1,Kb L,dg L,eV,Bh⟩
noncomputable def abr (F:KsE.Ke):aO:=AJ 0 14 2 89 (.int .i64 (.int .i64 (.int .i64 (.int .i64 (.ints .i64 (.ae (.int .i64 (.int .i64 (.int .i64 (.int .i64 (.bool .nil))))) (.int .i64 (.int .i64 (.int .i64 (.int .i64 .nil)))))))))) (Kq F)
theorem YH (hb:au Tryz.prog 33 (bX (db V))):au Tryz.prog 37 (abr (ml V)):=lK _ _ _ _ _ (Pd hb)
noncomputable def TO (F:KsE.Ke):aO:=AJ 0 14 2 89 (.int .i64 (.int .i64 (.int .i64 (.int .i64 (.ints .i64 (.ae (.int .i64 (.int .i64 (.int .i64 (.int .i64 (.bool .nil))))) (.int .i64 (.int .i64 (.int .i64 (.int .i64 .nil)))))))))) (DF F)
theorem Qg (hb:au Tryz.prog 33 (bX (db V))):au Tryz.prog 38 (TO (ml V)):=lK _ _ _ _ _ (Tf hb)
noncomputable def Ui (F:KsE.Ke):aO:=AJ 0 14 2 89 (.int .i64 (.int .i64 (.int .i64 (.int .i64 (.ints .i64 (.ae (.int .i64 (.int .i64 (.int .i64 (.int .i64 (.bool .nil))))) (.int .i64 (.int .i64 (.int .i64 (.int .i64 .nil)))))))))) (jY F)
theorem LQ (hb:au Tryz.prog 33 (bX (db V))):au Tryz.prog 39 (Ui (ml V)):=lK _ _ _ _ _ (pU hb)
noncomputable def LW (F:KsF.Kf):aO:=AJ 0 14 3 89 (.int .i64 (.int .i64 (.int .i64 (.int .i64 (.ints .i64 (.ae (.int .i64 (.int .i64 (.int .i64 (.int .i64 (.bool .nil))))) (.int .i64 (.int .i64 (.int .i64 (.int .i64 .nil)))))))))) (yW F)
theorem Kz (hb:au Tryz.prog 33 (bX (db V))):au Tryz.prog 39 (LW (vI V)):=lK _ _ _ _ _ (OD hb)
noncomputable def Xz (F:KsD.Kd):aO:=AJ 0 14 2 89 (.int .i64 (.int .i64 (.int .i64 (.int .i64 (.ints .i64 (.ae (.int .i64 (.int .i64 (.int .i64 (.int .i64 (.bool .nil))))) (.int .i64 (.int .i64 (.int .i64 (.int .i64 .nil)))))))))) (IC F)
theorem Si:au Tryz.prog 40 (Xz (db V)):=lK _ _ _ _ _ EN
noncomputable def rS (F:Kg):aO:=fun xs h=>match xs,h with
 |[.agg c_,.agg v_],[]=>(match jB c_,vS v_ with
  |some c,some v=>some ⟨F.Ba c v=true∧F.Bd v=false,.cN [.agg (pj (F.yM c v)),.one (.sl none (.ae .iY (F.yM c v).q)),I (F.wc c.i v)],[],[Any,Any]⟩
  |_,_=>none)
 |_,_=>none
theorem uQ (hb:au Tryz.prog 33 (bX (db V))):au Tryz.prog 11 (rS (oa V)):=by
 have hfs:=(ak.cons (il (V:=V)) (ak.cons (YC (V:=V)) (ak.cons (YH hb) (ak.cons (Qg hb) (ak.cons (LQ hb) (ak.cons (Si (V:=V)) ak.nil rfl) rfl) rfl) rfl) rfl) rfl);refine aw hfs Tryz.func11 rfl rfl fun xs h p hp=>?_;unfold rS at hp;split at hp
 ·split at hp
  ·rename_i c v e0 e1;cases hp;have g0:=dF e0;have g1:=jP e1;subst g0 g1;refine⟨av rfl,fun hC _=>?_⟩;dsimp only at hC;intro b gv;have hc2:(c.U.length≤300∧c.q.length≤70000∧c.w.length≤1000∧c.gn.length≤500∧c.gl.length≤500∧v.x.n.length≤1000∧v.x.l.length≤1000)∧(eV c.i v=0→vm V c v=true)∧(c.tn.length≤1000∧c.tl.length≤1000∧c.q=[]):=by
    have h:=(show (IU c v.x && ((!decide (eV c.i v=0) || vm V c v) && decide (c.tn.length≤1000∧c.tl.length≤1000∧c.q=[])))=true from hC.1);unfold IU at h;simp only [Bool.and_eq_true,decide_eq_true_eq,Bool.or_eq_true,Bool.not_eq_true',decide_eq_false_iff_not] at h;exact⟨h.1,fun e=>h.2.1.resolve_left fun q=>q e,h.2.2⟩
   have hsz:=hc2.1;have hsz2:=hc2.2.2;have hq0:c.q=[]:=hc2.2.2.2.2;have hgo:=fun e=>(Wd (hc2.2.1 e)).2;have hze:nZ c=true:=decide_eq_true ⟨by omega,by omega⟩;have hc01:eV c.i v=0∨eV c.i v=1:=by
    unfold eV;split
    ·exact .inl rfl
    ·exact .inr rfl
   have hck:=fun h=>VS (i:=c.i) (v:=v) h;have hs1:eV c.i v=0→dg V c v=ju V c v:=fun h=>if_pos h;have hs2:¬eV c.i v=0→dg V c v=⟨0,0,0,0,0,[],[],[],[],0,[],[],0,false,[]⟩:=fun h=>if_neg h;have heC:=AL hq0;have hk2:=hC.2;have hkE:Bh v=decide (v.k=3∧v.x.k=2):=rfl;generalize hF:(oa V)=F,hG0:(db V)=G0,hG1:(ml V)=G1,hG2:(vI V)=G2,hG3:ViR.Vs.aa=G3 at hC hfs ⊢;refine bu fun Z zq A hA L hL=>?_
   repeat' (first|(apply al zq;try dsimp only)|apply aS zq (af hL)|apply aq zq|refine aT rfl ?_|apply ai|refine ah rfl ?_|refine aR rfl ?_|exact aA|apply aB|refine aP fun _=>?_|refine aQ fun _=>?_|(constructor;cbv))
   all_goals first|(show L _ _ _;skip)|(clear hL hfs zq Z hc2;subst hA hF hG0 hG1 hG2 hG3;simp only [oa,vI,ml,db,Ar.aa,lJ,qw] at * <;> (try simp only [heC] at *) <;> grind [aj];done)
  ·cases hp
 ·cases hp
noncomputable def sy (F:Kg):aO:=fun xs h=>match xs,h with
 |[.agg c_,.agg v_],[]=>(match jB c_,vS v_ with
  |some c,some v=>some ⟨F.Ba c v=true∧F.Bd v=true,.cN [.agg (pj (F.yM c v)),.one (.sl none (.ae .iY (F.yM c v).q)),I (F.wc c.i v)],[],[Any,Any]⟩
  |_,_=>none)
 |_,_=>none
theorem Av (hb:au Tryz.prog 33 (bX (db V))):au Tryz.prog 11 (sy (oa V)):=by
 have hfs:=(ak.cons (il (V:=V)) (ak.cons (Zd (V:=V)) (ak.cons (Kz hb) ak.nil rfl) rfl) rfl);refine aw hfs Tryz.func11 rfl rfl fun xs h p hp=>?_;unfold sy at hp;split at hp
 ·split at hp
  ·rename_i c v e0 e1;cases hp;have g0:=dF e0;have g1:=jP e1;subst g0 g1;refine⟨av rfl,fun hC _=>?_⟩;dsimp only at hC;intro b gv;have hc2:(c.U.length≤300∧c.q.length≤70000∧c.w.length≤1000∧c.gn.length≤500∧c.gl.length≤500∧v.x.n.length≤1000∧v.x.l.length≤1000)∧(eV c.i v=0→vm V c v=true)∧(c.tn.length≤1000∧c.tl.length≤1000∧c.q=[]):=by
    have h:=(show (IU c v.x && ((!decide (eV c.i v=0) || vm V c v) && decide (c.tn.length≤1000∧c.tl.length≤1000∧c.q=[])))=true from hC.1);unfold IU at h;simp only [Bool.and_eq_true,decide_eq_true_eq,Bool.or_eq_true,Bool.not_eq_true',decide_eq_false_iff_not] at h;exact⟨h.1,fun e=>h.2.1.resolve_left fun q=>q e,h.2.2⟩
   have hsz:=hc2.1;have hsz2:=hc2.2.2;have hq0:c.q=[]:=hc2.2.2.2.2;have hgo:=fun e=>(Wd (hc2.2.1 e)).2;have hze:nZ c=true:=decide_eq_true ⟨by omega,by omega⟩;have hc01:eV c.i v=0∨eV c.i v=1:=by
    unfold eV;split
    ·exact .inl rfl
    ·exact .inr rfl
   have hck:=fun h=>VS (i:=c.i) (v:=v) h;have hs1:eV c.i v=0→dg V c v=ju V c v:=fun h=>if_pos h;have hs2:¬eV c.i v=0→dg V c v=⟨0,0,0,0,0,[],[],[],[],0,[],[],0,false,[]⟩:=fun h=>if_neg h;have heC:=AL hq0;have hk2:=hC.2;have hkE:Bh v=decide (v.k=3∧v.x.k=2):=rfl;generalize hF:(oa V)=F,hG0:(db V)=G0,hG1:(ml V)=G1,hG2:(vI V)=G2,hG3:ViR.Vs.aa=G3 at hC hfs ⊢;refine bu fun Z zq A hA L hL=>?_
   repeat' (first|(apply al zq;try dsimp only)|apply aS zq (af hL)|apply aq zq|refine aT rfl ?_|apply ai|refine ah rfl ?_|refine aR rfl ?_|exact aA|apply aB|refine aP fun _=>?_|refine aQ fun _=>?_|(constructor;cbv))
   all_goals first|(show L _ _ _;skip)|(clear hL hfs zq Z hc2;subst hA hF hG0 hG1 hG2 hG3;simp only [oa,vI,db,Ar.aa,lJ,qw] at * <;> (try simp only [heC] at *) <;> grind [aj];done)
  ·cases hp
 ·cases hp
noncomputable def ZZ (F:KsD.Kd):aO:=LY 0 5 1 58 (.ae (.int .i64 (.int .i64 (.int .i64 (.int .i64 (.bool (.bool (.int .i64 .nil))))))) []) (tu 0 6 (.ints .i64 []) (tu 0 7 (.ints .i64 []) (tu 0 8 (.ae (.int .i64 (.int .i64 (.int .i64 (.int .i64 (.bool .nil))))) []) (tu 0 10 (.ints .i64 []) (tu 0 11 (.ae (.int .i64 (.int .i64 (.int .i64 (.int .i64 (.bool .nil))))) []) (AJ 0 14 2 89 (.int .i64 (.int .i64 (.int .i64 (.int .i64 (.ints .i64 (.ae (.int .i64 (.int .i64 (.int .i64 (.int .i64 (.bool .nil))))) (.int .i64 (.int .i64 (.int .i64 (.int .i64 .nil)))))))))) (bX F)))))))
theorem Rt (hb:au Tryz.prog 33 (bX (db V))):au Tryz.prog 33 (ZZ (db V)):=Lq _ _ _ _ _ (kI _ _ _ (kI _ _ _ (kI _ _ _ (kI _ _ _ (kI _ _ _ (lK _ _ _ _ _ hb))))))
noncomputable def tR (F:Kg):aO:=fun xs h=>match xs,h with
 |[.one (.val (.int .i64 i)),.one (.val (.int .i64 l))],[]=>some ⟨F.abq i l=true,.cN [.agg (pj (F.agB i l)),I (F.afp i l)],[],[Any,Any]⟩
 |_,_=>none
theorem sv (hb:au Tryz.prog 33 (bX (db V))):au Tryz.prog 8 (tR (oa V)):=by
 have hfs:=(ak.cons ia (ak.cons (Rt hb) ak.nil rfl) rfl);refine aw hfs Tryz.func8 rfl rfl fun xs h p hp=>?_;unfold tR at hp;split at hp
 ·rename_i i l;cases hp;refine⟨av rfl,fun hC _=>?_⟩;dsimp only at hC;intro b gv;have hn1:eJ i l=true→V.ok ⟨i,0,0,0,0,[],[],[],[],0,[],[],l,false,[]⟩=true∧rN V i l=V.B ⟨i,0,0,0,0,[],[],[],[],0,[],[],l,false,[]⟩:=fun h=>by
   have hC2:(!eJ i l || V.ok (iW i l))=true:=hC;rw [h] at hC2;exact⟨by simpa [iW] using hC2,if_pos h⟩
  have hn2:¬eJ i l=true→rN V i l=⟨0,0,0,0,0,[],[],[],[],0,[],[],0,false,[]⟩:=fun h=>if_neg h;have hn3:eJ i l=true↔bG i=true∧1≤l∧l≤2147483647:=by
   unfold eJ;rw [Bool.and_eq_true,decide_eq_true_eq]
  generalize hF:(oa V)=F,hG0:(db V)=G0,hG1:(ml V)=G1,hG2:(vI V)=G2,hG3:ViR.Vs.aa=G3 at hC hfs ⊢;refine bu fun Z zq A hA L hL=>?_
  repeat' (first|(apply al zq;try dsimp only)|apply aS zq (af hL)|apply aq zq|refine aT rfl ?_|apply ai|refine ah rfl ?_|refine aR rfl ?_|exact aA|apply aB|refine aP fun _=>?_|refine aQ fun _=>?_|(constructor;cbv))
  all_goals first|(show L _ _ _;skip)|(clear hL hfs zq Z;subst hA hF hG0 hG1 hG2 hG3;simp only [oa,db,ViR.Vs.aa,Ar.aa] at * <;> grind [aj];done)
 ·cases hp
end Go.Proofs.YtelhldgdnlppfaaGreat.KsG
namespace Go.Proofs.YtelhldgdnlppfaaGreat.ViT
open Go Ry ViR ViL
def ln (x y:E):Prop:=ri x 0 < ri y 0∨ri x 0=ri y 0∧ri x 1 < ri y 1
theorem acH {x y z:E} (h:ln x y) (g:ln y z):ln x z:=by unfold ln at *;omega
theorem YK (x:E):¬ln x x:=by unfold ln;omega
theorem MK {n:List Int} {l:List E} (h:aX n l=true):∀ i,i < l.length→JY (l.getD i [])=true∧n.contains (ri (l.getD i []) 0)=true∧(0 < i→ln (l.getD (i - 1) []) (l.getD i [])):=by
 unfold aX at h;rw [Bool.and_eq_true] at h;intro i hi;have g:=gK.1 h.2 i hi;unfold okL at g;rw [decide_eq_true_eq] at g;exact⟨g.1,g.2.1,fun k=>(qV _ _ _ _).1 (g.2.2 k)⟩
theorem oR {n:List Int} {l:List E} (h:aX n l=true):dM n=true:=by
 unfold aX at h;rw [Bool.and_eq_true] at h;exact h.1
theorem FW {n:List Int} {l:List E} (h:aX n l=true):∀ (j i:Nat),i < j→j < l.length→ln (l.getD i []) (l.getD j [])
 |0,_,h1,_=>absurd h1 (Nat.not_lt_zero _)
 |j+1,i,h1,h2=>by
  have g:=(MK h (j+1) h2).2.2 (Nat.zero_lt_succ _);rw [Nat.add_sub_cancel] at g
  by_cases e:i=j
  ·rw [e];exact g
  ·exact acH (FW h j i (by omega) (by omega)) g
theorem lA {n:List Int} {l:List E} (h:aX n l=true):l.Pairwise ln:=by
 rw [List.pairwise_iff_getElem];intro i j hi hj hij;have:=FW h j i hij hj;rw [fF l _ hi,fF l _ hj] at this;exact this
theorem Zl {n:List Int} {l:List E} (h:aX n l=true):l.Nodup:=List.Pairwise.imp (R:=ln) (S:=fun x y=>x≠y) (fun {x y} k e=>YK x (by rw [← e] at k;exact k)) (lA h)
theorem Py:∀ {l:List E},l.Pairwise ln→∀ {y z:E},y∈l→z∈l→ri y 0=ri z 0→ri y 1=ri z 1→y=z
 |[],_,_,_,hy,_,_,_=>by cases hy
 |x :: l,h,y,z,hy,hz,e0,e1=>by
  obtain⟨h1,h2⟩:=List.pairwise_cons.1 h;rcases List.mem_cons.1 hy with rfl|hy
  ·rcases List.mem_cons.1 hz with rfl|hz
   ·rfl
   ·have:=h1 z hz;unfold ln at this;omega
  ·rcases List.mem_cons.1 hz with e|hz
   ·have:=h1 y hy;rw [e] at e0 e1;unfold ln at this;omega
   ·exact Py h2 hy hz e0 e1
theorem YI {n:List Int} {l:List E} (h:aX n l=true) (a p:Int):(Gy l a p=true→l.getD (pG l a p).toNat []∈l∧ri (l.getD (pG l a p).toNat []) 0=a∧ri (l.getD (pG l a p).toNat []) 1=p)∧((∃ y∈l,ri y 0=a∧ri y 1=p)→Gy l a p=true):=by
 have hs:=pD (VP l a p) l.length l.length 0 l.length (Int.le_refl 0) (Int.natCast_nonneg _) (Int.le_refl _) (by omega) (fun x x0 x1=>by omega) (fun x x0 x1=>by omega) (fun x y x0 hxy hy hf=>by
  unfold VP at *;rw [decide_eq_true_eq,qV] at *
  by_cases e:x=y
  ·rw [e];exact hf
  ·have:=FW h y.toNat x.toNat (by omega) (by omega);unfold ln at this;omega)
 obtain⟨s0,s1,s2,s3⟩:=hs;have e:nL (VP l a p) l.length 0 l.length=pG l a p:=rfl;rw [e] at s0 s1 s2 s3;constructor
 ·intro hb;unfold Gy at hb;rw [decide_eq_true_eq,UG] at hb;refine⟨?_,hb.2⟩;have hi:(pG l a p).toNat < l.length:=by omega
  rw [fF l _ hi];exact List.getElem_mem hi
 ·rintro⟨y,hy,y0,y1⟩;obtain⟨k,hk,hky⟩:=List.getElem_of_mem hy;have hk2:l.getD k []=y:=by rw [fF l k hk];exact hky
  have k1:pG l a p≤k:=by
   by_cases c:pG l a p≤k
   ·exact c
   ·have:=s2 k (by omega) (by omega);unfold VP at this;rw [decide_eq_true_eq,qV,Int.toNat_natCast,hk2] at this;omega
  have k2:¬pG l a p < k:=fun c=>by
   have q:=FW h k (pG l a p).toNat (by omega) hk;have b:=s3 (pG l a p) (Int.le_refl _) (by omega);unfold VP at b;rw [decide_eq_false_iff_not,qV] at b;rw [hk2] at q;unfold ln at q;omega
  have ee:pG l a p=k:=by omega
  unfold Gy;rw [ee,Int.toNat_natCast,hk2,decide_eq_true_eq,UG];exact⟨by omega,y0,y1⟩
def uu (y z:E):List E:=if ri y 0 < ri y 1∧ri y 0=ri z 1∧ri y 1=ri z 0∧ri y 2=ri z 2∧ri y 3=ri z 3 then [[D.int (ri y 0),D.int (ri y 1),D.int (ri y 2),D.int (ri y 3),D.bool (rb y 4 && rb z 4)]] else []
def ba (l:List E):List E:=l.flatMap fun y=>l.flatMap (uu y)
theorem EC {g:E→List E}:∀ {l:List E},(∀ z∈l,g z=[])→l.flatMap g=[]
 |[],_=>rfl
 |x :: l,h=>by
  rw [List.flatMap_cons,h x (List.mem_cons_self ..),List.nil_append];exact EC fun z hz=>h z (List.mem_cons_of_mem _ hz)
theorem MU {g:E→List E} {w:E}:∀ {l:List E},l.Nodup→w∈l→(∀ z∈l,z≠w→g z=[])→l.flatMap g=g w
 |[],_,h,_=>by cases h
 |x :: l,nd,hw,h=>by
  obtain⟨n1,n2⟩:=List.nodup_cons.1 nd;rw [List.flatMap_cons]
  by_cases e:x=w
  ·rw [e] at n1 ⊢;rw [EC (fun z hz=>h z (List.mem_cons_of_mem _ hz) fun q=>n1 (q ▸ hz)),List.append_nil]
  ·rw [h x (List.mem_cons_self ..) e,List.nil_append];exact MU n2 ((List.mem_cons.1 hw).resolve_left fun q=>e q.symm) fun z hz=>h z (List.mem_cons_of_mem _ hz)
theorem aaG {n:List Int} {l:List E} (h:aX n l=true) (y:E):l.flatMap (uu y)=Dd l y:=by
 obtain⟨b1,b2⟩:=YI h (ri y 1) (ri y 0)
 by_cases hb:Gy l (ri y 1) (ri y 0)=true
 ·obtain⟨m1,m2,m3⟩:=b1 hb;rw [MU (w:=l.getD (pG l (ri y 1) (ri y 0)).toNat []) (Zl h) m1 (fun z hz ne=>?_)]
  ·unfold Dd uu KJ;rw [if_pos hb];simp only [m2,m3,hb];have c:(ri y 0 < ri y 1∧True∧True∧ri y 2=ri (l.getD (pG l (ri y 1) (ri y 0)).toNat []) 2∧ri y 3=ri (l.getD (pG l (ri y 1) (ri y 0)).toNat []) 3)↔(ri y 0 < ri y 1∧True∧ri (l.getD (pG l (ri y 1) (ri y 0)).toNat []) 2=ri y 2∧ri (l.getD (pG l (ri y 1) (ri y 0)).toNat []) 3=ri y 3):=by
    constructor
    ·rintro⟨a,_,_,b,c⟩;exact⟨a,trivial,b.symm,c.symm⟩
    ·rintro⟨a,_,b,c⟩;exact⟨a,trivial,trivial,b.symm,c.symm⟩
   simp only [c]
  ·unfold uu;rw [if_neg];rintro⟨_,e0,e1,_⟩;exact ne (Py (lA h) hz m1 (by rw [m2,e1]) (by rw [m3,e0]))
 ·have hn:Dd l y=[]:=by
   unfold Dd;rw [if_neg fun q=>hb q.2.1]
  rw [hn];refine EC fun z hz=>?_;unfold uu;rw [if_neg];rintro⟨_,e0,e1,_⟩;exact hb (b2 ⟨z,hz,e1.symm,e0.symm⟩)
theorem CZ {n:List Int} {l:List E} (h:aX n l=true):ba l=eO l:=by
 unfold ba eO
 congr 1
 funext y
 exact aaG h y
theorem Dj {n:List Int} {l:List E} (h:aX n l=true) {a:E} (ha:a∈eO l):∃ y∈l,∃ z∈l,ri y 0 < ri y 1∧ri z 0=ri y 1∧ri z 1=ri y 0∧ri z 2=ri y 2∧ri z 3=ri y 3∧a=[D.int (ri y 0),D.int (ri y 1),D.int (ri y 2),D.int (ri y 3),D.bool (rb y 4 && rb z 4)]:=by
 rw [← CZ h] at ha;unfold ba at ha;obtain⟨y,hy,ha⟩:=List.mem_flatMap.1 ha;obtain⟨z,hz,ha⟩:=List.mem_flatMap.1 ha;unfold uu at ha;split at ha
 ·rename_i c;rw [List.mem_singleton] at ha;exact⟨y,hy,z,hz,c.1,c.2.2.1.symm,c.2.1.symm,c.2.2.2.1.symm,c.2.2.2.2.symm,ha⟩
 ·cases ha
theorem Zx (l:List E):(fz l).length≤l.length:=ij sA l
end Go.Proofs.YtelhldgdnlppfaaGreat.ViT
