/-
  a word,an event,a whole step of a core,by the document. No condition but that the core may be.
-/
import Derived.Test.YtelhldgdnlppfaaGreatVsW53
import Derived.Test.YtelhldgdnlppfaaGreatVsKrT
set_option maxHeartbeats 4000000
set_option cbv.maxSteps 4000000
set_option maxRecDepth 100000
namespace Go.Proofs.YtelhldgdnlppfaaGreat.KrU
open Go Ry ViR VoR KsS KsT KrV KrX KrY KrT KrZ
open KsC (XI XQ XL KO Qt xlR mF mJ slL jd)
open ViM (oJ lU Dv Al oL)
open KrS (mu mr jB pj YA cw9 dF dQ uY EB Na qw)
open KsF (EV tH iD mo dg ju eV dy)
open KsE (QB Jl PG dnS QC)
open KsG (aaB vS jP lJ)
open KrW (VV)
open WoR (zd Aw kx WD)
open ViS (sd pC jf fy OI Fc yj CT gE dV kT)
open KsG (iW eJ rN AL)
open TrR (bS)
open KrW (Ce)
theorem adE {L M:Lv} (h:L.B=M.B):gW L=gW M:=by
 funext d a r
 unfold gW;rw [OH h,h]
theorem uC:cy RV=cy VV:=OH CQ
theorem AF:mh RV=mh VV:=acg CQ
theorem tG:gW RV=gW VV:=adE CQ
theorem hbR:au Tryz.prog 34 (bX (dS RV)):=OZ (OZ abZ)
theorem Rw:au Tryz.prog 60 (Ln (dS RV)):=Lf hbR
theorem NQ:au Tryz.prog 81 (qk (dS RV)):=jv hbR
theorem RN:au Tryz.prog 82 (Ng (dS RV)):=Lh hbR
theorem OM:au Tryz.prog 84 (DT (dS RV)):=Tb hbR
theorem PK:au Tryz.prog 44 (DQ (dS RV)):=HU (V:=RV)
theorem xE:au Tryz.prog 34 (bX (dS RV)):=hbR
structure Kw where
 abI:CS→EV→Bool
 aeS:CS→EV→CS
 acW:CS→Int→WK→Bool
 agn:CS→Int→WK→CS
 XH:Int→Int→Int→Int→Bool
 adb:CS→EV→Bool
 abm:CS→EV→CS
 ace:Int→EV→Bool
 adH:Int→Int→Bool
 agb:Int→Int→CS
 Yg:CS→CS→Bool
 OX:CS→CS→Bool
 aaC:List E→List E→Bool
 acx:List E→List E→Bool
 afL:WK→WK→Bool
 aaP:WK→WK→Bool
 abj:List E→List E→Bool
 acj:List E→List E→Bool
noncomputable def Kw.aa:Kw:=⟨fun d v=>vR d && decide (bG v.p=true∧v.p≠d.i∧0≤v.w∧v.w≤2147483647∧1≤v.s∧v.s≤2147483647∧d.q.length≤100),fun d v=>VV.B (Jl d v.p v.w v.s),Kn,Dc,fun e r e2 r2=>decide (e < e2∨e=e2∧r < r2),Jz,dg VV,dy,eJ,CI,wN,CE,FM,fun p q=>Ze p && Ze q,tU,fun w u=>YY w && YY u,lB,fun p q=>decide (p.length≤1000∧q.length≤1000)⟩
noncomputable def qT (F:Kw):aO:=fun xs h=>match xs,h with
 |[.agg [.val (.int .i64 a_e),.val (.int .i64 a_r)],.agg [.val (.int .i64 b_e),.val (.int .i64 b_r)]],[]=>some ⟨True,.sa (B (F.XH a_e a_r b_e b_r)),[],[Any,Any]⟩
 |_,_=>none
theorem yi:au Tryz.prog 20 (qT Kw.aa):=by
 have hfs:=ak.nil;refine aw hfs Tryz.func20 rfl rfl fun xs h p hp=>?_;unfold qT at hp;split at hp
 ·rename_i a_e a_r b_e b_r;cases hp;refine⟨av rfl,fun _ _=>?_⟩;intro b gv;generalize hF:Kw.aa=F,hG0:(dS RV)=G0,hG1:KrS.Kr.aa=G1,hG2:VoR.Fs.aa=G2,hG3:ViM.Vg.aa=G3,hG4:ViR.Vs.aa=G4,hG5:WoR.Ws.aa=G5,hG6:ViS.Vq.aa=G6 at hfs ⊢;refine bu fun Z zq A hA L hL=>?_
  repeat' (first|(apply al zq;try dsimp only)|apply aS zq (af hL)|apply aq zq|refine aT rfl ?_|apply ai|refine ah rfl ?_|refine aR rfl ?_|exact aA|apply aB|refine aP fun _=>?_|refine aQ fun _=>?_|(constructor;cbv))
  all_goals
   clear hL zq Z
   try clear hfs
   subst hA hF hG0 hG1 hG2 hG3 hG4 hG5 hG6;simp only [Kw.aa,Ar.aa] at *
   try (grind [aj])
 ·cases hp
noncomputable def Kq (F:Kw):aO:=fun xs h=>match xs,h with
 |[.agg s_,.agg v_],[]=>(match mu s_,vS v_ with
  |some s,some v=>some ⟨F.abI s v=true,.sa (.agg (mr (F.aeS s v))),[],[Any,Any]⟩
  |_,_=>none)
 |_,_=>none
theorem Pd:au Tryz.prog 41 (Kq Kw.aa):=by
 have hfs:=(ak.cons xE ak.nil rfl);refine aw hfs Tryz.func41 rfl rfl fun xs h p hp=>?_;unfold Kq at hp;split at hp
 ·split at hp
  ·rename_i s v e0 e1;cases hp;have g0:=dQ e0;have g1:=jP e1;subst g0 g1;refine⟨av rfl,fun hC _=>?_⟩;dsimp only at hC;intro b gv;have hc2:vR s=true∧bG v.p=true∧v.p≠s.i∧0≤v.w∧v.w≤2147483647∧1≤v.s∧v.s≤2147483647∧s.q.length≤100:=by
    have h:(vR s && decide (bG v.p=true∧v.p≠s.i∧0≤v.w∧v.w≤2147483647∧1≤v.s∧v.s≤2147483647∧s.q.length≤100))=true:=hC;rw [Bool.and_eq_true,decide_eq_true_eq] at h;exact h
   have hvd:=dA.1 hc2.1;have hl6:=hvd.len;have hk6:s.U.length≤1000:=by omega
   have hrv:RV.ok (Jl s v.p v.w v.s)=true:=Ig.ok _ (GD hvd hc2.2.1 hc2.2.2.1 ⟨hc2.2.2.2.1,hc2.2.2.2.2.1,hc2.2.2.2.2.2.1,hc2.2.2.2.2.2.2.1⟩) (show s.q.length≤50000 by omega);have hus:Jl s v.p v.w v.s=⟨s.i,s.ee,s.er,s.t,s.p,QB s.U v.p v.w v.s,s.w,s.gn,s.gl,s.ph,s.tn,s.tl,s.l,s.o,s.q⟩:=rfl;generalize hF:Kw.aa=F,hG0:(dS RV)=G0,hG1:KrS.Kr.aa=G1,hG2:VoR.Fs.aa=G2,hG3:ViM.Vg.aa=G3,hG4:ViR.Vs.aa=G4,hG5:WoR.Ws.aa=G5,hG6:ViS.Vq.aa=G6 at hC hfs ⊢;refine bu fun Z zq A hA L hL=>?_
   repeat' (first|(apply al zq;try dsimp only)|apply aS zq (af hL)|apply aq zq|refine aT rfl ?_|apply ai|refine ah rfl ?_|refine aR rfl ?_|exact aA|apply aB|refine aP fun _=>?_|refine aQ fun _=>?_|(constructor;cbv))
   subst hL;refine aJ (aN hfs) (Ur s.U v.p (BR v.p v.w v.s)) (fun y=>br Tryz.f41.ntmps [(2,.ptr 1 0),(3,.ptr 2 0),(4,.ptr 3 0),(5,.ptr 4 0),(6,.sl (some (5,58)) (.ae .eC y.o)),(7,.bK y.b),(8,.ay y.i)] [(1,.cells 77 [.ay s.i,.ay s.ee,.ay s.er,.ay s.t,.ay s.p,.sl none (.ae .eC s.U),.sl none (.ints .i64 s.w),.sl none (.ints .i64 s.gn),.sl none (.ae .bg s.gl),.ay s.ph,.sl none (.ints .i64 s.tn),.sl none (.ae .bg s.tl),.ay s.l,.bK s.o,.sl none (.ae .iY s.q)]),(2,.cells 42 [.ay v.k,.ay v.p,.ay v.w,.ay v.s,.ay v.x.k,.ay v.x.e,.ay v.x.r,.sl none (.ints .i64 v.x.n),.sl none (.ae .bg v.x.l),.ay v.x.ck,.ay v.x.ca,.ay v.x.cb,.ay v.x.cs]),(3,.cells 77 [.any,.any,.any,.any,.any,.any,.any,.any,.any,.any,.any,.any,.any,.any,.any]),(4,.cells 58 [.ay v.p,.ay v.w,.ay v.s,.ay 0,.bK false,.bK false,.ay 0]),(5,.tok)] [Any,Any]) (upM s.U) xuR ⟨0,[],false⟩ ?_ ?_ ?_
   ·exact Rg _ _ _
   ·cbv
    repeat' (first|exact trivial|exact rfl|refine And.intro ?_ ?_)
   rintro⟨i,o,b⟩ hq O hO;have hst:=fun h=>TV hk6 hq h;have hen:=fun h=>ZG hvd hq h;have q0:=hq.1;have q1:=hq.2.1;have hol:=TS hq;dsimp only at q0 q1;subst hA;generalize hA:Ar.aa=A;generalize hL:Lp _ _ _=L;refine az zq ?_
   repeat' (first|(apply al zq;try dsimp only)|apply aS zq (af hL)|apply aq zq|refine aT rfl ?_|apply ai|refine ah rfl ?_|refine aR rfl ?_|exact aA|apply aB|refine aP fun _=>?_|refine aQ fun _=>?_|(constructor;cbv))
   all_goals first|(show L _ _ _;skip)|(clear hL hfs zq Z hq hvd;subst hA hF hG0 hG1 hG2 hG3 hG4 hG5 hG6 hO;simp only [Kw.aa,dS,CQ,uC,AF,tG,Ar.aa] at * <;> (try simp only [BR,t7] at *) <;> grind [aj];done)
  ·cases hp
 ·cases hp
noncomputable def jY (F:Kw):aO:=fun xs h=>match xs,h with
 |[.agg s_,.one (.val (.int .i64 a)),.agg w_],[]=>(match mu s_,YA w_ with
  |some s,some w=>some ⟨F.acW s a w=true,.sa (.agg (mr (F.agn s a w))),[],[Any,Any,Any]⟩
  |_,_=>none)
 |_,_=>none
theorem pU:au Tryz.prog 43 (jY Kw.aa):=by
 have hfs:=(ak.cons yi (ak.cons Rw (ak.cons lU (ak.cons NQ (ak.cons RN (ak.cons La (ak.cons OM ak.nil rfl) rfl) rfl) rfl) rfl) rfl) rfl);refine aw hfs Tryz.func43 rfl rfl fun xs h p hp=>?_;unfold jY at hp;split at hp
 ·rename_i a z;split at hp
  ·rename_i s w e0 e1;cases hp;have g0:=dQ e0;have g1:=uY e1;subst g0 g1;refine⟨av rfl,fun hC _=>?_⟩;dsimp only at hC;intro b gv;obtain⟨hvd,hwk,ha0,ha1,hl6,hqq,hw6,hg6,hgl,hwn,hwl,hkk,hmb,hgo⟩:=ada (show Kn s a w=true from hC);have hechq:=vd hvd hgl hwk;have hwk6:s.w.length≤1000:=by omega
   have helen:=fun (m o:Int) (t b:Bool) (k:Int)=>(KsC.kQ m t b o k).2.2.2;generalize hF:Kw.aa=F,hG0:(dS RV)=G0,hG1:KrS.Kr.aa=G1,hG2:VoR.Fs.aa=G2,hG3:ViM.Vg.aa=G3,hG4:ViR.Vs.aa=G4,hG5:WoR.Ws.aa=G5,hG6:ViS.Vq.aa=G6 at hC hfs ⊢;refine bu fun Z zq A hA L hL=>?_
   repeat' (first|(apply al zq;try dsimp only)|apply aS zq (af hL)|apply aq zq|refine aT rfl ?_|apply ai|refine ah rfl ?_|refine aR rfl ?_|exact aA|apply aB|refine aP fun _=>?_|refine aQ fun _=>?_|(constructor;cbv))
   all_goals first|(show L _ _ _;skip)|(clear hL hfs zq Z;subst hA hF hG0 hG1 hG2 hG3 hG4 hG5 hG6;simp only [Kw.aa,dS,CQ,uC,AF,tG,VoR.Fs.aa,Ar.aa,dY] at * <;> (try simp only [vx] at *) <;> grind [aj];done)
   subst hL;refine aJ (aN hfs) (Nx s.w (ri (s.U.getD a.toNat []) 0)) (fun y=>br Tryz.f43.ntmps [(3,.ptr 1 0),(5,.ptr 2 0),(6,.ptr 3 0),(7,.ptr 4 0),(8,.sl (some (5,3)) (.ints .i64 y.o)),(9,.ay y.i)] [(1,.cells 77 [.ay s.i,.ay s.ee,.ay s.er,.ay s.t,.ay s.p,.sl none (.ae .eC s.U),.sl none (.ints .i64 s.w),.sl none (.ints .i64 s.gn),.sl none (.ae .bg s.gl),.ay s.ph,.sl none (.ints .i64 s.tn),.sl none (.ae .bg s.tl),.ay s.l,.bK s.o,.sl none (.ae .iY s.q)]),(2,.cells 40 [.ay w.k,.ay w.e,.ay w.r,.sl none (.ints .i64 w.n),.sl none (.ae .bg w.l),.ay w.ck,.ay w.ca,.ay w.cb,.ay w.cs]),(3,.cells 77 [.any,.any,.any,.any,.any,.any,.any,.any,.any,.any,.any,.any,.any,.any,.any]),(4,.cells 58 [.ay (A.ri (A.bh s.U a) 0),.any,.any,.any,.any,.any,.any]),(5,.tok)] [Any,Any,Any]) (rsM s.w) (xlR 9 8) ⟨0,[]⟩ ?_ ?_ ?_
   ·exact RM _ _
   ·cbv
    repeat' (first|exact trivial|exact rfl|refine And.intro ?_ ?_)
   rintro⟨i,o⟩ hq O hO;have hst:=fun h=>yd hwk6 hq h;have hen:=fun h=>Xc hvd.w.1 hq h;have q0:=hq.1;have q1:=hq.2.1;dsimp only at q0 q1;subst hA;generalize hA:Ar.aa=A;generalize hL:Lp _ _ _=L;refine az zq ?_
   repeat' (first|(apply al zq;try dsimp only)|apply aS zq (af hL)|apply aq zq|refine aT rfl ?_|apply ai|refine ah rfl ?_|refine aR rfl ?_|exact aA|apply aB|refine aP fun _=>?_|refine aQ fun _=>?_|(constructor;cbv))
   all_goals first|(show L _ _ _;skip)|(clear hL hfs zq Z hq hvd;subst hA hF hG0 hG1 hG2 hG3 hG4 hG5 hG6 hO;simp only [Kw.aa,dS,CQ,uC,AF,tG,ViM.Vg.aa,Ar.aa] at * <;> (try simp only [vx] at *) <;> grind [aj];done)
  ·cases hp
 ·cases hp
noncomputable def tM (F:Kw):aO:=fun xs h=>match xs,h with
 |[.one (.val (.int .i64 i)),.one (.val (.int .i64 l))],[]=>some ⟨F.adH i l=true,.sa (.agg (pj (F.agb i l))),[],[Any,Any]⟩
 |_,_=>none
theorem tc:au Tryz.prog 9 (tM Kw.aa):=by
 have hfs:=(ak.cons (bI [[none,none,none,none,none,some (.ae .eC []),some (.ints .i64 []),some (.ints .i64 []),some (.ae .bg []),none,some (.ints .i64 []),some (.ae .bg []),none,none,some (.ae .iY [])]] xE) ak.nil rfl);refine aw hfs Tryz.func9 rfl rfl fun xs h p hp=>?_;unfold tM at hp;split at hp
 ·rename_i i l;cases hp;refine⟨av rfl,fun hC _=>?_⟩;dsimp only at hC;intro b gv;have hn:bG i=true∧1≤l∧l≤2147483647:=by
   have h:eJ i l=true:=hC;unfold eJ at h;rw [Bool.and_eq_true,decide_eq_true_eq] at h;exact h
  have hrv:RV.ok ⟨i,0,0,0,0,[],[],[],[],0,[],[],l,false,[]⟩=true:=Ig.ok _ (zZ hn.1 l) (Nat.zero_le _);have hnw:CI i l=VV.B ⟨i,0,0,0,0,[],[],[],[],0,[],[],l,false,[]⟩:=rfl;generalize hF:Kw.aa=F,hG0:(dS RV)=G0,hG1:KrS.Kr.aa=G1,hG2:VoR.Fs.aa=G2,hG3:ViM.Vg.aa=G3,hG4:ViR.Vs.aa=G4,hG5:WoR.Ws.aa=G5,hG6:ViS.Vq.aa=G6 at hC hfs ⊢;refine bu fun Z zq A hA L hL=>?_
  repeat' (first|(apply al zq;try dsimp only)|apply aS zq (af hL)|apply aq zq|refine aT rfl ?_|apply ai|refine ah rfl ?_|refine aR rfl ?_|exact aA|apply aB|refine aP fun _=>?_|refine aQ fun _=>?_|(constructor;cbv))
  all_goals first|(show L _ _ _;skip)|(clear hL hfs zq Z;subst hA hF hG0 hG1 hG2 hG3 hG4 hG5 hG6;simp only [Kw.aa,dS,CQ,uC,AF,tG] at * <;> grind [aj];done)
 ·cases hp
noncomputable def Aa (F:Kw):aO:=fun xs h=>match xs,h with
 |[.agg c_,.agg v_],[]=>(match jB c_,vS v_ with
  |some c,some v=>some ⟨F.adb c v=true,.cN [.agg (pj (F.abm c v)),.one (.sl none (.ae .iY (F.abm c v).q)),B (F.ace c.i v)],[],[Any,Any]⟩
  |_,_=>none)
 |_,_=>none
theorem yz:au Tryz.prog 12 (Aa Kw.aa):=by
 have hfs:=(ak.cons Na (ak.cons fY (ak.cons (bI [[none,none,none,none,none,some (.ae .eC []),some (.ints .i64 []),some (.ints .i64 []),some (.ae .bg []),none,some (.ints .i64 []),some (.ae .bg []),none,none,some (.ae .iY [])],[none,none,none,none,none,none,none,some (.ints .i64 []),some (.ae .bg []),none,none,none,none]] Pd) (ak.cons (bI [[none,none,none,none,none,some (.ae .eC []),some (.ints .i64 []),some (.ints .i64 []),some (.ae .bg []),none,some (.ints .i64 []),some (.ae .bg []),none,none,some (.ae .iY [])]] xE) (ak.cons Aw (ak.cons (bI [[none,none,none,none,none,some (.ae .eC []),some (.ints .i64 []),some (.ints .i64 []),some (.ae .bg []),none,some (.ints .i64 []),some (.ae .bg []),none,none,some (.ae .iY [])],[none],[none,none,none,some (.ints .i64 []),some (.ae .bg []),none,none,none,none]] pU) (ak.cons (bI [[none,none,none,none,none,some (.ae .eC []),some (.ints .i64 []),some (.ints .i64 []),some (.ae .bg []),none,some (.ints .i64 []),some (.ae .bg []),none,none,some (.ae .iY [])]] PK) ak.nil rfl) rfl) rfl) rfl) rfl) rfl) rfl);refine aw hfs Tryz.func12 rfl rfl fun xs h p hp=>?_;unfold Aa at hp;split at hp
 ·split at hp
  ·rename_i c v e0 e1;cases hp;have g0:=dF e0;have g1:=jP e1;subst g0 g1;refine⟨av rfl,fun hC _=>?_⟩;dsimp only at hC;intro b gv;obtain⟨hvd,hq0,hl6,hwn,hwl,hat1,hat2,hgo⟩:=adw (show Jz c v=true from hC);have heC:=AL hq0;have hin:0≤bA c.U v.p→aD .add .i64 (bA c.U v.p) 1=bA c.U v.p+1:=fun h1=>by rw [aW,wr _ (by omega) (by omega)]
   generalize hF:Kw.aa=F,hG0:(dS RV)=G0,hG1:KrS.Kr.aa=G1,hG2:VoR.Fs.aa=G2,hG3:ViM.Vg.aa=G3,hG4:ViR.Vs.aa=G4,hG5:WoR.Ws.aa=G5,hG6:ViS.Vq.aa=G6 at hC hfs ⊢;refine bu fun Z zq A hA L hL=>?_
   repeat' (first|(apply al zq;try dsimp only)|apply aS zq (af hL)|apply aq zq|refine aT rfl ?_|apply ai|refine ah rfl ?_|refine aR rfl ?_|exact aA|apply aB|refine aP fun _=>?_|refine aQ fun _=>?_|(constructor;cbv))
   all_goals first|(show L _ _ _;skip)|(clear hL hfs zq Z hvd;subst hA hF hG0 hG1 hG2 hG3 hG4 hG5 hG6;simp only [Kw.aa,dS,CQ,uC,AF,tG,KrS.Kr.aa,ViR.Vs.aa,WoR.Ws.aa,Ar.aa,List.nil_append,qw,lJ] at * <;> (try simp only [heC,Int.toNat_natCast,List.take_length] at *) <;> grind [aj,WoR.FL];done)
  ·cases hp
 ·cases hp
noncomputable def Fu (F:Kw):aO:=fun xs h=>match xs,h with
 |[.agg w_,.agg u_],[]=>(match YA w_,YA u_ with
  |some w,some u=>some ⟨F.aaP w u=true,.sa (B (F.afL w u)),[],[Any,Any]⟩
  |_,_=>none)
 |_,_=>none
theorem PD:au Tryz.prog 46 (Fu Kw.aa):=by
 have hfs:=(ak.cons fy ak.nil rfl);refine aw hfs Tryz.func46 rfl rfl fun xs h p hp=>?_;unfold Fu at hp;split at hp
 ·split at hp
  ·rename_i w u e0 e1;cases hp;have g0:=uY e0;have g1:=uY e1;subst g0 g1;refine⟨av rfl,fun hC _=>?_⟩;dsimp only at hC;intro b gv;have hk:(w.n.length≤1000∧w.l.length≤1000)∧(u.n.length≤1000∧u.l.length≤1000):=by
    have h:(YY w && YY u)=true:=hC;unfold YY at h;simp only [Bool.and_eq_true,decide_eq_true_eq] at h;exact h
   have hsw:tU w u=(decide (w.k=u.k∧w.e=u.e∧w.r=u.r∧w.ck=u.ck∧w.ca=u.ca∧w.cb=u.cb∧w.cs=u.cs) && dV w.n w.l u.n u.l):=rfl;generalize hF:Kw.aa=F,hG0:(dS RV)=G0,hG1:KrS.Kr.aa=G1,hG2:VoR.Fs.aa=G2,hG3:ViM.Vg.aa=G3,hG4:ViR.Vs.aa=G4,hG5:WoR.Ws.aa=G5,hG6:ViS.Vq.aa=G6 at hC hfs ⊢;refine bu fun Z zq A hA L hL=>?_
   repeat' (first|(apply al zq;try dsimp only)|apply aS zq (af hL)|apply aq zq|refine aT rfl ?_|apply ai|refine ah rfl ?_|refine aR rfl ?_|exact aA|apply aB|refine aP fun _=>?_|refine aQ fun _=>?_|(constructor;cbv))
   all_goals first|(show L _ _ _;skip)|(clear hL hfs zq Z;subst hA hF hG0 hG1 hG2 hG3 hG4 hG5 hG6;simp only [Kw.aa,ViS.Vq.aa,Ar.aa] at * <;> grind [aj];done)
  ·cases hp
 ·cases hp
noncomputable def zI (F:Kw):aO:=fun xs h=>match xs,h with
 |[.one (.sl none (.ae (.int .i64 (.int .i64 (.int .i64 (.int .i64 (.ints .i64 (.ae (.int .i64 (.int .i64 (.int .i64 (.int .i64 (.bool .nil))))) (.int .i64 (.int .i64 (.int .i64 (.int .i64 .nil)))))))))) p)),.one (.sl none (.ae (.int .i64 (.int .i64 (.int .i64 (.int .i64 (.ints .i64 (.ae (.int .i64 (.int .i64 (.int .i64 (.int .i64 (.bool .nil))))) (.int .i64 (.int .i64 (.int .i64 (.int .i64 .nil)))))))))) q))],[]=>some ⟨F.acx p q=true,.sa (B (F.aaC p q)),[],[Any,Any]⟩
 |_,_=>none
theorem yF:au Tryz.prog 14 (zI Kw.aa):=by
 have hfs:=(ak.cons PD ak.nil rfl);refine aw hfs Tryz.func14 rfl rfl fun xs h p hp=>?_;unfold zI at hp;split at hp
 ·rename_i p q;cases hp;refine⟨av rfl,fun hC _=>?_⟩;dsimp only at hC;intro b gv;have hk:(p.length≤1000000∧∀ y∈p,NS y)∧(q.length≤1000000∧∀ y∈q,NS y):=by
   have h:(Ze p && Ze q)=true:=hC;rw [Bool.and_eq_true] at h;exact⟨yx.1 h.1,yx.1 h.2⟩
  have hk6:=hk.1.1;have hk7:=hk.2.1;have hso:FM p q=(decide (p.length=q.length) && Cv p q BB):=rfl;generalize hF:Kw.aa=F,hG0:(dS RV)=G0,hG1:KrS.Kr.aa=G1,hG2:VoR.Fs.aa=G2,hG3:ViM.Vg.aa=G3,hG4:ViR.Vs.aa=G4,hG5:WoR.Ws.aa=G5,hG6:ViS.Vq.aa=G6 at hC hfs ⊢;refine bu fun Z zq A hA L hL=>?_
  repeat' (first|(apply al zq;try dsimp only)|apply aS zq (af hL)|apply aq zq|refine aT rfl ?_|apply ai|refine ah rfl ?_|refine aR rfl ?_|exact aA|apply aB|refine aP fun _=>?_|refine aQ fun _=>?_|(constructor;cbv))
  all_goals first|(show L _ _ _;skip)|(clear hL hfs zq Z;subst hA hF hG0 hG1 hG2 hG3 hG4 hG5 hG6;simp only [Kw.aa,Ar.aa] at * <;> grind [aj];done)
  subst hL;refine aJ (aN hfs) (YO p q BB) (fun y=>br Tryz.f14.ntmps [(0,.sl none (.ae .iY p)),(1,.sl none (.ae .iY q)),(5,.ay y.i)] [] [Any,Any]) (mF p.length) (Qt 5) ⟨0⟩ ?_ ?_ ?_
  ·exact xR _ _ _
  ·cbv
   repeat' (first|exact trivial|exact rfl|refine And.intro ?_ ?_)
  rintro⟨i⟩ hq O hO;have hst:=fun h=>Ab hk6 hq h;have hen:=fun h=>DN hq h;have hs1:=fun h1 h2=>acO (p:=p) (q:=q) hk.1.2 hk.2.2 hq.1 h1 h2;have hsm:=PX (p.getD i.toNat []) (q.getD i.toNat []);have q0:=hq.1;have q1:=hq.2.1;dsimp only at q0 q1;subst hA;generalize hA:Ar.aa=A;generalize hL:Lp _ _ _=L;refine az zq ?_
  repeat' (first|(apply al zq;try dsimp only)|apply aS zq (af hL)|apply aq zq|refine aT rfl ?_|apply ai|refine ah rfl ?_|refine aR rfl ?_|exact aA|apply aB|refine aP fun _=>?_|refine aQ fun _=>?_|(constructor;cbv))
  all_goals first|(show L _ _ _;skip)|(clear hL hfs zq Z hq hk;subst hA hF hG0 hG1 hG2 hG3 hG4 hG5 hG6 hO;simp only [Kw.aa,Ar.aa] at * <;> grind [aj];done)
 ·cases hp
noncomputable def VC (F:Kw):aO:=fun xs h=>match xs,h with
 |[.one (.sl none (.ae (.int .i64 (.int .i64 (.int .i64 (.int .i64 (.bool (.bool (.int .i64 .nil))))))) p)),.one (.sl none (.ae (.int .i64 (.int .i64 (.int .i64 (.int .i64 (.bool (.bool (.int .i64 .nil))))))) q))],[]=>some ⟨F.acj p q=true,.sa (B (F.abj p q)),[],[Any,Any]⟩
 |_,_=>none
theorem Xe:au Tryz.prog 47 (VC Kw.aa):=by
 refine aw ak.nil Tryz.func47 rfl rfl fun xs h p hp=>?_;unfold VC at hp;split at hp
 ·rename_i p q;cases hp;refine⟨av rfl,fun hC _=>?_⟩;dsimp only at hC;intro b gv;have hk:p.length≤1000∧q.length≤1000:=of_decide_eq_true hC;have hk6:p.length≤1000000:=by omega
  have ht1:=fun h=>wK (p:=p) (q:=q) h;have ht2:=fun h=>BP (p:=p) (q:=q) h;generalize hF:Kw.aa=F,hG0:(dS RV)=G0,hG1:KrS.Kr.aa=G1,hG2:VoR.Fs.aa=G2,hG3:ViM.Vg.aa=G3,hG4:ViR.Vs.aa=G4,hG5:WoR.Ws.aa=G5,hG6:ViS.Vq.aa=G6 at hC ⊢;refine bu fun Z zq A hA L hL=>?_
  repeat' (first|(apply al zq;try dsimp only)|apply aS zq (af hL)|apply aq zq|refine aT rfl ?_|apply ai|refine ah rfl ?_|refine aR rfl ?_|exact aA|apply aB|refine aP fun _=>?_|refine aQ fun _=>?_|(constructor;cbv))
  all_goals first|(show L _ _ _;skip)|(clear hL zq Z;subst hA hF hG0 hG1 hG2 hG3 hG4 hG5 hG6;simp only [Kw.aa,Ar.aa] at * <;> grind [aj];done)
  subst hL;refine aJ (aN ak.nil) (YO p q f7) (fun y=>br Tryz.f47.ntmps [(0,.sl none (.ae .eC p)),(1,.sl none (.ae .eC q)),(12,.ay (A.dN p)),(13,.ay y.i)] [] [Any,Any]) (mF p.length) (Qt 13) ⟨0⟩ ?_ ?_ ?_
  ·exact xR _ _ _
  ·cbv
   repeat' (first|exact trivial|exact rfl|refine And.intro ?_ ?_)
  rintro⟨i⟩ hq O hO;have hst:=fun h=>Ab hk6 hq h;have hen:=fun h=>DN hq h;have hf7:=WA (p.getD i.toNat []) (q.getD i.toNat []);have q0:=hq.1;have q1:=hq.2.1;dsimp only at q0 q1;subst hA;generalize hA:Ar.aa=A;generalize hL:Lp _ _ _=L;refine az zq ?_
  repeat' (first|(apply al zq;try dsimp only)|apply aS zq (af hL)|apply aq zq|refine aT rfl ?_|apply ai|refine ah rfl ?_|refine aR rfl ?_|exact aA|apply aB|refine aP fun _=>?_|refine aQ fun _=>?_|(constructor;cbv))
  all_goals first|(show L _ _ _;skip)|(clear hL zq Z hq;subst hA hF hG0 hG1 hG2 hG3 hG4 hG5 hG6 hO;simp only [Kw.aa,Ar.aa] at * <;> (try simp only [Bool.if_true_left,Bool.if_false_right,Bool.decide_eq_true,Bool.or_eq_false_iff,Bool.or_eq_true] at *) <;> grind [aj];done)
 ·cases hp
noncomputable def pX (F:Kw):aO:=fun xs h=>match xs,h with
 |[.agg a_,.agg d_],[]=>(match jB a_,jB d_ with
  |some a,some d=>some ⟨F.OX a d=true,.sa (B (F.Yg a d)),[],[Any,Any]⟩
  |_,_=>none)
 |_,_=>none
theorem qf:au Tryz.prog 15 (pX Kw.aa):=by
 have hfs:=(ak.cons Xe (ak.cons Fc (ak.cons CT ak.nil rfl) rfl) rfl);refine aw hfs Tryz.func15 rfl rfl fun xs h p hp=>?_;unfold pX at hp;split at hp
 ·split at hp
  ·rename_i a d e0 e1;cases hp;have g0:=dF e0;have g1:=dF e1;subst g0 g1;refine⟨av rfl,fun hC _=>?_⟩;dsimp only at hC;intro b gv;have hk:(a.U.length≤1000∧a.w.length≤1000∧a.gn.length≤1000∧a.gl.length≤1000∧a.tn.length≤1000∧a.tl.length≤1000)∧(d.U.length≤1000∧d.w.length≤1000∧d.gn.length≤1000∧d.gl.length≤1000∧d.tn.length≤1000∧d.tl.length≤1000):=by
    have h:CE a d=true:=hC;unfold CE rP at h;simp only [Bool.and_eq_true,decide_eq_true_eq] at h;exact h
   have hsc:wN a d=(decide (a.i=d.i∧a.ee=d.ee∧a.er=d.er∧a.t=d.t∧a.p=d.p∧a.ph=d.ph∧a.l=d.l∧a.o=d.o) && (lB a.U d.U && (gE a.w d.w && (dV a.gn a.gl d.gn d.gl && dV a.tn a.tl d.tn d.tl)))):=rfl;generalize hF:Kw.aa=F,hG0:(dS RV)=G0,hG1:KrS.Kr.aa=G1,hG2:VoR.Fs.aa=G2,hG3:ViM.Vg.aa=G3,hG4:ViR.Vs.aa=G4,hG5:WoR.Ws.aa=G5,hG6:ViS.Vq.aa=G6 at hC hfs ⊢;refine bu fun Z zq A hA L hL=>?_
   repeat' (first|(apply al zq;try dsimp only)|apply aS zq (af hL)|apply aq zq|refine aT rfl ?_|apply ai|refine ah rfl ?_|refine aR rfl ?_|exact aA|apply aB|refine aP fun _=>?_|refine aQ fun _=>?_|(constructor;cbv))
   all_goals first|(show L _ _ _;skip)|(clear hL hfs zq Z;subst hA hF hG0 hG1 hG2 hG3 hG4 hG5 hG6;simp only [Kw.aa,ViS.Vq.aa,Ar.aa] at * <;> grind [aj];done)
  ·cases hp
 ·cases hp
end Go.Proofs.YtelhldgdnlppfaaGreat.KrU
