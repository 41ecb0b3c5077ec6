/-
  a core's steps,by the document. No condition but size.
-/
import Derived.Test.YtelhldgdnlppfaaGreatVsKsC
set_option maxHeartbeats 4000000
set_option cbv.maxSteps 4000000
set_option maxRecDepth 100000
namespace Go.Proofs.YtelhldgdnlppfaaGreat.KrS
open Go Ry ViR VoR KsS KsC
def mr (d:CS):List SC:=[.val (.int .i64 d.i),.val (.int .i64 d.ee),.val (.int .i64 d.er),.val (.int .i64 d.t),.val (.int .i64 d.p),.sl none (.ae (.int .i64 (.int .i64 (.int .i64 (.int .i64 (.bool (.bool (.int .i64 .nil))))))) d.U),.sl none (.ints .i64 d.w),.sl none (.ints .i64 d.gn),.sl none (.ae (.int .i64 (.int .i64 (.int .i64 (.int .i64 (.bool .nil))))) d.gl),.val (.int .i64 d.ph),.sl none (.ints .i64 d.tn),.sl none (.ae (.int .i64 (.int .i64 (.int .i64 (.int .i64 (.bool .nil))))) d.tl),.val (.int .i64 d.l),.val (.bool d.o),.sl none (.ae (.int .i64 (.int .i64 (.int .i64 (.int .i64 (.ints .i64 (.ae (.int .i64 (.int .i64 (.int .i64 (.int .i64 (.bool .nil))))) (.int .i64 (.int .i64 (.int .i64 (.int .i64 .nil)))))))))) d.q)]
def pj (d:CS):List SC:=[.val (.int .i64 d.i),.val (.int .i64 d.ee),.val (.int .i64 d.er),.val (.int .i64 d.t),.val (.int .i64 d.p),.sl none (.ae (.int .i64 (.int .i64 (.int .i64 (.int .i64 (.bool (.bool (.int .i64 .nil))))))) d.U),.sl none (.ints .i64 d.w),.sl none (.ints .i64 d.gn),.sl none (.ae (.int .i64 (.int .i64 (.int .i64 (.int .i64 (.bool .nil))))) d.gl),.val (.int .i64 d.ph),.sl none (.ints .i64 d.tn),.sl none (.ae (.int .i64 (.int .i64 (.int .i64 (.int .i64 (.bool .nil))))) d.tl),.val (.int .i64 d.l),.val (.bool d.o)]
def cw9 (w:WK):List SC:=[.val (.int .i64 w.k),.val (.int .i64 w.e),.val (.int .i64 w.r),.sl none (.ints .i64 w.n),.sl none (.ae (.int .i64 (.int .i64 (.int .i64 (.int .i64 (.bool .nil))))) w.l),.val (.int .i64 w.ck),.val (.int .i64 w.ca),.val (.int .i64 w.cb),.val (.int .i64 w.cs)]
def mu:List SC→Option CS
 |[.val (.int .i64 i),.val (.int .i64 ee),.val (.int .i64 er),.val (.int .i64 t),.val (.int .i64 p),.sl none (.ae (.int .i64 (.int .i64 (.int .i64 (.int .i64 (.bool (.bool (.int .i64 .nil))))))) U),.sl none (.ints .i64 w),.sl none (.ints .i64 gn),.sl none (.ae (.int .i64 (.int .i64 (.int .i64 (.int .i64 (.bool .nil))))) gl),.val (.int .i64 ph),.sl none (.ints .i64 tn),.sl none (.ae (.int .i64 (.int .i64 (.int .i64 (.int .i64 (.bool .nil))))) tl),.val (.int .i64 l),.val (.bool o),.sl none (.ae (.int .i64 (.int .i64 (.int .i64 (.int .i64 (.ints .i64 (.ae (.int .i64 (.int .i64 (.int .i64 (.int .i64 (.bool .nil))))) (.int .i64 (.int .i64 (.int .i64 (.int .i64 .nil)))))))))) q)]=>some ⟨i,ee,er,t,p,U,w,gn,gl,ph,tn,tl,l,o,q⟩
 |_=>none
def jB:List SC→Option CS
 |[.val (.int .i64 i),.val (.int .i64 ee),.val (.int .i64 er),.val (.int .i64 t),.val (.int .i64 p),.sl none (.ae (.int .i64 (.int .i64 (.int .i64 (.int .i64 (.bool (.bool (.int .i64 .nil))))))) U),.sl none (.ints .i64 w),.sl none (.ints .i64 gn),.sl none (.ae (.int .i64 (.int .i64 (.int .i64 (.int .i64 (.bool .nil))))) gl),.val (.int .i64 ph),.sl none (.ints .i64 tn),.sl none (.ae (.int .i64 (.int .i64 (.int .i64 (.int .i64 (.bool .nil))))) tl),.val (.int .i64 l),.val (.bool o)]=>some ⟨i,ee,er,t,p,U,w,gn,gl,ph,tn,tl,l,o,[]⟩
 |_=>none
def YA:List SC→Option WK
 |[.val (.int .i64 k),.val (.int .i64 e),.val (.int .i64 r),.sl none (.ints .i64 n),.sl none (.ae (.int .i64 (.int .i64 (.int .i64 (.int .i64 (.bool .nil))))) l),.val (.int .i64 ck),.val (.int .i64 ca),.val (.int .i64 cb),.val (.int .i64 cs)]=>some ⟨k,e,r,n,l,ck,ca,cb,cs⟩
 |_=>none
theorem dQ {l:List SC} {x:CS} (h:mu l=some x):l=mr x:=by
 unfold mu at h;split at h
 ·cases h;rfl
 ·cases h
theorem dF {l:List SC} {x:CS} (h:jB l=some x):l=pj x:=by
 unfold jB at h;split at h
 ·cases h;rfl
 ·cases h
theorem uY {l:List SC} {x:WK} (h:YA l=some x):l=cw9 x:=by
 unfold YA at h;split at h
 ·cases h;rfl
 ·cases h
theorem qw (w:WK):(⟨w.k,w.e,w.r,w.n,w.l,w.ck,w.ca,w.cb,w.cs⟩:WK)=w:=rfl
def gF (d:CS) (p:Int) (w:List Int):CS:={ d with q:=d.q ++ w.map fun k=>cB p (xc k) }
def kr (d:CS) (a m:Int) (t b:Bool) (o:Int):CS:={ d with U:=d.U.set a.toNat [.int (ri (tie d a) 0),.int (ri (tie d a) 1),.int (ri (tie d a) 2),.int m,.bool t,.bool b,.int o] }
theorem yS {d:CS} {a:Int} {r:VT} (h:r.e=0):gF (kr d a r.m r.t r.b r.o) (ri (tie d a) 0) r.w=aE d a r:=by
 unfold aE;rw [if_pos h];rfl
structure XO where
 i:Int
 o:List E
def KN (i:Int) (l:List E) (y:XO):Prop:=0≤y.i∧y.i≤l.length∧y.o=dx i (l.take y.i.toNat)
def Qz (l:List E) (y:XO):Nat:=l.length - y.i.toNat
def owR (st:St):XO:=⟨bw st 4,mJ st 2 1⟩
theorem rW (i:Int) (l:List E):KN i l ⟨0,[]⟩:=⟨Int.le_refl 0,Int.natCast_nonneg _,rfl⟩
theorem sx {n:Int} {l:List E} (hl:l.length≤1000000) {i:Int} {o:List E} (hq:KN n l ⟨i,o⟩) (h:i < l.length):aD .add .i64 i 1=i+1∧(∀ o',Qz l ⟨i+1,o'⟩ < Qz l ⟨i,o⟩)∧o.length≤1000000∧KN n l ⟨i+1,o ++ [JE n (l.getD i.toNat [])]⟩:=by
 obtain⟨h0,h1,h2⟩:=hq;simp only at h0 h1 h2;refine⟨by rw [aW,wr _ (by omega) (by omega)],fun o'=>by simp only [Qz];omega,?_,by simp only;omega,by simp only;omega,?_⟩
 ·rw [h2];unfold dx;rw [List.length_map,List.length_take];omega
 ·simp only;rw [lO l h0 h,h2];unfold dx;rw [List.map_append];rfl
theorem zE {n:Int} {l:List E} {i:Int} {o:List E} (hq:KN n l ⟨i,o⟩) (h:¬i < l.length):o=dx n l:=by
 obtain⟨h0,h1,h2⟩:=hq;simp only at h0 h1 h2;rw [h2,show i.toNat=l.length by omega,List.take_length]
structure Kr where
 abp:CS→Int→WK→CS
 Xw:CS→Int→List Int→CS
 abn:CS→Int→Int→Bool→Bool→Int→CS
 afS:List E→Int→Int
 aeD:Int→List E→List E
 Is:List E→Int→List Int
 r_q:List E→Bool
 agc:List E→List Int→Bool
 r_l:List E→Bool
 Pj:List E→Int→Bool
def Kr.aa:Kr:=⟨jz,gF,kr,bA,dx,bJ,fun q=>decide (q.length≤100000),fun q w=>decide (q.length≤99000∧w.length≤1000),fun l=>decide (l.length≤1000),fun l a=>decide (0≤a∧a < l.length∧l.length≤1000)⟩
noncomputable def OT (F:Kr):aO:=fun xs h=>match xs,h with
 |[.agg s_,.one (.val (.int .i64 to)),.agg w_],[]=>(match mu s_,YA w_ with
  |some s,some w=>some ⟨F.r_q s.q=true,.sa (.agg (mr (F.abp s to w))),[],[Any,Any,Any]⟩
  |_,_=>none)
 |_,_=>none
theorem rY:au Tryz.prog 99 (OT Kr.aa):=by
 refine aw ak.nil Tryz.func99 rfl rfl fun xs h p hp=>?_;unfold OT at hp;split at hp
 ·rename_i to;split at hp
  ·rename_i s w e0 e1;cases hp;have g0:=dQ e0;have g1:=uY e1;subst g0 g1;refine⟨av rfl,fun hC _=>?_⟩;dsimp only at hC;intro b gv;have hk:s.q.length≤100000:=of_decide_eq_true hC;generalize hF:Kr.aa=F,hG0:KsC.Kc.aa=G0 at hC ⊢;refine bu fun Z zq A hA L hL=>?_
   repeat' (first|(apply al zq;try dsimp only)|apply aS zq (af hL)|apply aq zq|refine aT rfl ?_|apply ai|refine ah rfl ?_|refine aR rfl ?_|exact aA|apply aB|refine aP fun _=>?_|refine aQ fun _=>?_|(constructor;cbv))
   all_goals first|(show L _ _ _;skip)|(clear hL zq Z;subst hA hF hG0;simp only [Kr.aa,Ar.aa,List.nil_append] at * <;> (try simp only [jz,cB] at *) <;> grind [aj];done)
  ·cases hp
 ·cases hp
noncomputable def rC (F:Kr):aO:=fun xs h=>match xs,h with
 |[.agg s_,.one (.val (.int .i64 to)),.agg [.sl none (.ints .i64 sw),.val (.bool _),.val (.bool _),.val (.bool _)]],[]=>(match mu s_ with
  |some s=>some ⟨F.agc s.q sw=true,.sa (.agg (mr (F.Xw s to sw))),[],[Any,Any,Any]⟩
  |_=>none)
 |_,_=>none
theorem hN:au Tryz.prog 88 (rC Kr.aa):=by
 have hfs:=(ak.cons (bI [[none,none,none,none,none,some (.ae .eC []),some (.ints .i64 []),some (.ints .i64 []),some (.ae .bg []),none,some (.ints .i64 []),some (.ae .bg []),none,none,some (.ae .iY [])],[none],[none,none,none,some (.ints .i64 []),some (.ae .bg []),none,none,none,none]] rY) ak.nil rfl);refine aw hfs Tryz.func88 rfl rfl fun xs h p hp=>?_;unfold rC at hp;split at hp
 ·rename_i to sw t_b t_p t_f;split at hp
  ·rename_i s e0;cases hp;have g0:=dQ e0;subst g0;refine⟨av rfl,fun hC _=>?_⟩;dsimp only at hC;intro b gv;have hk:s.q.length≤99000∧sw.length≤1000:=of_decide_eq_true hC;generalize hF:Kr.aa=F,hG0:KsC.Kc.aa=G0 at hC hfs ⊢;refine bu fun Z zq A hA L hL=>?_
   repeat' (first|(apply al zq;try dsimp only)|apply aS zq (af hL)|apply aq zq|refine aT rfl ?_|apply ai|refine ah rfl ?_|refine aR rfl ?_|exact aA|apply aB|refine aP fun _=>?_|refine aQ fun _=>?_|(constructor;cbv))
   subst hL;refine aJ (aN hfs) (Uh s.q to sw) (fun y=>br Tryz.f88.ntmps [(1,.ay to),(3,.ptr 1 0),(5,.ptr 2 0),(6,.ptr 3 0),(7,.ay y.i)] [(1,.cells 77 [.ay s.i,.ay s.ee,.ay s.er,.ay s.t,.ay s.p,.sl none (.ae .eC s.U),.sl none (.ints .i64 s.w),.sl none (.ints .i64 s.gn),.sl none (.ae .bg s.gl),.ay s.ph,.sl none (.ints .i64 s.tn),.sl none (.ae .bg s.tl),.ay s.l,.bK s.o,.sl none (.ae .iY y.q)]),(2,.cells 125 [.sl none (.ints .i64 sw),.bK t_b,.bK t_p,.bK t_f]),(3,.cells 77 [.any,.any,.any,.any,.any,.any,.any,.any,.any,.any,.any,.any,.any,.any,.any])] [Any,Any,Any]) (IK sw) (KO 7 1) ⟨0,s.q⟩ ?_ ?_ ?_
   ·exact oI _ _ _
   ·cbv
    repeat' (first|exact trivial|exact rfl|refine And.intro ?_ ?_)
   rintro⟨i,q⟩ hq O hO;have hst:=fun h=>oY hk.2 hk.1 hq h;have hen:=fun h=>tS hq h;have q0:=hq.1;have q1:=hq.2.1;dsimp only at q0 q1;subst hA;generalize hA:Ar.aa=A;generalize hL:Lp _ _ _=L;refine az zq ?_
   repeat' (first|(apply al zq;try dsimp only)|apply aS zq (af hL)|apply aq zq|refine aT rfl ?_|apply ai|refine ah rfl ?_|refine aR rfl ?_|exact aA|apply aB|refine aP fun _=>?_|refine aQ fun _=>?_|(constructor;cbv))
   all_goals first|(show L _ _ _;skip)|(clear hL hfs zq Z hq;subst hA hF hG0 hO;simp only [Kr.aa,Ar.aa] at * <;> (try simp only [jz,gF,cB,xc,decide_eq_true_eq] at *) <;> grind [aj];done)
  ·cases hp
 ·cases hp
noncomputable def WC (F:Kr):aO:=fun xs h=>match xs,h with
 |[.agg s_,.one (.val (.int .i64 a)),.agg [.val (.int .i64 v_m),.val (.bool v_t),.val (.bool bB),.val (.int .i64 v_o)]],[]=>(match mu s_ with
  |some s=>some ⟨F.Pj s.U a=true,.sa (.agg (mr (F.abn s a v_m v_t bB v_o))),[],[Any,Any,Any]⟩
  |_=>none)
 |_,_=>none
theorem yh:au Tryz.prog 87 (WC Kr.aa):=by
 refine aw (ak.own (u:=1000) ak.nil) Tryz.func87 rfl rfl fun xs h p hp=>?_;unfold WC at hp;split at hp
 ·rename_i a v_m v_t bB v_o;split at hp
  ·rename_i s e0;cases hp;have g0:=dQ e0;subst g0;refine⟨av rfl,fun hC _=>?_⟩;dsimp only at hC;intro b gv;have hk:0≤a∧a < s.U.length∧s.U.length≤1000:=of_decide_eq_true hC;generalize hF:Kr.aa=F,hG0:KsC.Kc.aa=G0 at hC ⊢;refine bu fun Z zq A hA L hL=>?_
   repeat' (first|(apply al zq;try dsimp only)|apply aS zq (af hL)|apply aq zq|refine aT rfl ?_|apply ai|refine ah rfl ?_|refine aR rfl ?_|exact aA|apply aB|refine aP fun _=>?_|refine aQ fun _=>?_|(constructor;cbv))
   all_goals first|(show L _ _ _;skip)|(clear hL zq Z;subst hA hF hG0;simp only [Kr.aa,Ar.aa,List.nil_append] at * <;> (try simp only [kr,tie] at *) <;> grind [aj];done)
  ·cases hp
 ·cases hp
noncomputable def EB (F:Kr):aO:=fun xs h=>match xs,h with
 |[.agg c_,.one (.val (.int .i64 p))],[]=>(match jB c_ with
  |some c=>some ⟨F.r_l c.U=true,.sa (I (F.afS c.U p)),[],[Any,Any]⟩
  |_=>none)
 |_,_=>none
theorem Na:au Tryz.prog 21 (EB Kr.aa):=by
 refine aw ak.nil Tryz.func21 rfl rfl fun xs h p hp=>?_;unfold EB at hp;split at hp
 ·rename_i p;split at hp
  ·rename_i c e0;cases hp;have g0:=dF e0;subst g0;refine⟨av rfl,fun hC _=>?_⟩;dsimp only at hC;intro b gv;have hk:c.U.length≤1000:=of_decide_eq_true hC;have hk6:c.U.length≤1000000:=by omega
   generalize hF:Kr.aa=F,hG0:KsC.Kc.aa=G0 at hC ⊢;refine bu fun Z zq A hA L hL=>?_
   repeat' (first|(apply al zq;try dsimp only)|apply aS zq (af hL)|apply aq zq|refine aT rfl ?_|apply ai|refine ah rfl ?_|refine aR rfl ?_|exact aA|apply aB|refine aP fun _=>?_|refine aQ fun _=>?_|(constructor;cbv))
   subst hL;refine aJ (aN ak.nil) (itQ c.U p) (fun y=>br Tryz.f21.ntmps [(1,.ay p),(2,.ptr 1 0),(5,.ay y.i)] [(1,.cells 31 [.ay c.i,.ay c.ee,.ay c.er,.ay c.t,.ay c.p,.sl none (.ae .eC c.U),.sl none (.ints .i64 c.w),.sl none (.ints .i64 c.gn),.sl none (.ae .bg c.gl),.ay c.ph,.sl none (.ints .i64 c.tn),.sl none (.ae .bg c.tl),.ay c.l,.bK c.o])] [Any,Any]) (mF c.U.length) (Qt 5) ⟨0⟩ ?_ ?_ ?_
   ·exact Iy _ _
   ·cbv
    repeat' (first|exact trivial|exact rfl|refine And.intro ?_ ?_)
   rintro⟨i⟩ hq O hO;have hst:=fun h=>Gb hk6 hq h;have hen:=fun h=>Pm hq h;have q0:=hq.1;have q1:=hq.2.1;dsimp only at q0 q1;subst hA;generalize hA:Ar.aa=A;generalize hL:Lp _ _ _=L;refine az zq ?_
   repeat' (first|(apply al zq;try dsimp only)|apply aS zq (af hL)|apply aq zq|refine aT rfl ?_|apply ai|refine ah rfl ?_|refine aR rfl ?_|exact aA|apply aB|refine aP fun _=>?_|refine aQ fun _=>?_|(constructor;cbv))
   all_goals first|(show L _ _ _;skip)|(clear hL zq Z hq;subst hA hF hG0 hO;simp only [Kr.aa,Ar.aa] at * <;> grind [aj];done)
  ·cases hp
 ·cases hp
noncomputable def Cp (F:Kr):aO:=fun xs h=>match xs,h with
 |[.agg c_],[]=>(match jB c_ with
  |some c=>some ⟨F.r_l c.U=true,.sa (.agg [.sl none (.ints .i64 [c.i]),.sl none (.ae .bg (F.aeD c.i c.U))]),[],[Any]⟩
  |_=>none)
 |_,_=>none
theorem xv:au Tryz.prog 18 (Cp Kr.aa):=by
 refine aw ak.nil Tryz.func18 rfl rfl fun xs h p hp=>?_;unfold Cp at hp;split at hp
 ·split at hp
  ·rename_i c e0;cases hp;have g0:=dF e0;subst g0;refine⟨av rfl,fun hC _=>?_⟩;dsimp only at hC;intro b gv;have hk:c.U.length≤1000:=of_decide_eq_true hC;have hk6:c.U.length≤1000000:=by omega
   generalize hF:Kr.aa=F,hG0:KsC.Kc.aa=G0 at hC ⊢;refine bu fun Z zq A hA L hL=>?_
   repeat' (first|(apply al zq;try dsimp only)|apply aS zq (af hL)|apply aq zq|refine aT rfl ?_|apply ai|refine ah rfl ?_|refine aR rfl ?_|exact aA|apply aB|refine aP fun _=>?_|refine aQ fun _=>?_|(constructor;cbv))
   subst hL;refine aJ (aN ak.nil) (KN c.i c.U) (fun y=>br Tryz.f18.ntmps [(1,.ptr 4 0),(2,.ptr 3 0),(3,.ptr 2 0),(4,.ay y.i)] [(2,.cells 29 [.sl none (.ints .i64 [c.i]),.sl (some (5,94)) (.ae .bg y.o)]),(3,.cells 29 [.any,.any]),(4,.cells 31 [.ay c.i,.ay c.ee,.ay c.er,.ay c.t,.ay c.p,.sl none (.ae .eC c.U),.sl none (.ints .i64 c.w),.sl none (.ints .i64 c.gn),.sl none (.ae .bg c.gl),.ay c.ph,.sl none (.ints .i64 c.tn),.sl none (.ae .bg c.tl),.ay c.l,.bK c.o]),(5,.tok)] [Any]) (Qz c.U) owR ⟨0,[]⟩ ?_ ?_ ?_
   ·exact rW _ _
   ·cbv
    repeat' (first|exact trivial|exact rfl|refine And.intro ?_ ?_)
   rintro⟨i,o⟩ hq O hO;have hst:=fun h=>sx hk6 hq h;have hen:=fun h=>zE hq h;have q0:=hq.1;have q1:=hq.2.1;dsimp only at q0 q1;subst hA;generalize hA:Ar.aa=A;generalize hL:Lp _ _ _=L;refine az zq ?_
   repeat' (first|(apply al zq;try dsimp only)|apply aS zq (af hL)|apply aq zq|refine aT rfl ?_|apply ai|refine ah rfl ?_|refine aR rfl ?_|exact aA|apply aB|refine aP fun _=>?_|refine aQ fun _=>?_|(constructor;cbv))
   all_goals first|(show L _ _ _;skip)|(clear hL zq Z hq;subst hA hF hG0 hO;simp only [Kr.aa,Ar.aa] at * <;> (try simp only [JE] at *) <;> grind [aj];done)
  ·cases hp
 ·cases hp
noncomputable def abW (F:Kr):aO:=fun xs h=>match xs,h with
 |[.agg c_,.one (.val (.int .i64 x))],[]=>(match jB c_ with
  |some c=>some ⟨F.r_l c.U=true,.sa (.one (.sl none (.ints .i64 (F.Is c.U x)))),[],[Any,Any]⟩
  |_=>none)
 |_,_=>none
theorem UY:au Tryz.prog 98 (abW Kr.aa):=by
 refine aw ak.nil Tryz.func98 rfl rfl fun xs h p hp=>?_;unfold abW at hp;split at hp
 ·rename_i x;split at hp
  ·rename_i c e0;cases hp;have g0:=dF e0;subst g0;refine⟨av rfl,fun hC _=>?_⟩;dsimp only at hC;intro b gv;have hk:c.U.length≤1000:=of_decide_eq_true hC;have hk6:c.U.length≤1000000:=by omega
   generalize hF:Kr.aa=F,hG0:KsC.Kc.aa=G0 at hC ⊢;refine bu fun Z zq A hA L hL=>?_
   repeat' (first|(apply al zq;try dsimp only)|apply aS zq (af hL)|apply aq zq|refine aT rfl ?_|apply ai|refine ah rfl ?_|refine aR rfl ?_|exact aA|apply aB|refine aP fun _=>?_|refine aQ fun _=>?_|(constructor;cbv))
   subst hL;refine aJ (aN ak.nil) (Tx c.U x) (fun y=>br Tryz.f98.ntmps [(1,.ay x),(2,.ptr 1 0),(5,.sl (some (2,3)) (.ints .i64 y.o)),(6,.ay y.i)] [(1,.cells 31 [.ay c.i,.ay c.ee,.ay c.er,.ay c.t,.ay c.p,.sl none (.ae .eC c.U),.sl none (.ints .i64 c.w),.sl none (.ints .i64 c.gn),.sl none (.ae .bg c.gl),.ay c.ph,.sl none (.ints .i64 c.tn),.sl none (.ae .bg c.tl),.ay c.l,.bK c.o]),(2,.tok)] [Any,Any]) (kdM c.U) (xlR 6 5) ⟨0,[]⟩ ?_ ?_ ?_
   ·exact yE _ _
   ·cbv
    repeat' (first|exact trivial|exact rfl|refine And.intro ?_ ?_)
   rintro⟨i,o⟩ hq O hO;have hst:=fun h=>zu hk6 hq h;have hen:=fun h=>Dt hq h;have q0:=hq.1;have q1:=hq.2.1;dsimp only at q0 q1;subst hA;generalize hA:Ar.aa=A;generalize hL:Lp _ _ _=L;refine az zq ?_
   repeat' (first|(apply al zq;try dsimp only)|apply aS zq (af hL)|apply aq zq|refine aT rfl ?_|apply ai|refine ah rfl ?_|refine aR rfl ?_|exact aA|apply aB|refine aP fun _=>?_|refine aQ fun _=>?_|(constructor;cbv))
   all_goals first|(show L _ _ _;skip)|(clear hL zq Z hq;subst hA hF hG0 hO;simp only [Kr.aa,Ar.aa] at * <;> grind [aj];done)
  ·cases hp
 ·cases hp
end Go.Proofs.YtelhldgdnlppfaaGreat.KrS
