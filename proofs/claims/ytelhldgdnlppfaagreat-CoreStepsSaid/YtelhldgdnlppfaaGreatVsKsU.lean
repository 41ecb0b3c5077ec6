/-
  how a tie's vow turns. No condition but size.
-/
import Derived.Test.YtelhldgdnlppfaaGreatVsKsC
set_option maxHeartbeats 4000000
set_option cbv.maxSteps 4000000
set_option maxRecDepth 100000
namespace Go.Proofs.YtelhldgdnlppfaaGreat.KsU
open Go Ry ViR VoR KsS KsC
theorem vX (d:CS) (a:Int) (r:VT):(aE d a r).i=d.i:=by unfold aE;split <;> rfl
theorem mL (d:CS) (a:Int) (r:VT):(aE d a r).ee=d.ee:=by unfold aE;split <;> rfl
theorem mT (d:CS) (a:Int) (r:VT):(aE d a r).er=d.er:=by unfold aE;split <;> rfl
theorem vM (d:CS) (a:Int) (r:VT):(aE d a r).t=d.t:=by unfold aE;split <;> rfl
theorem vJ (d:CS) (a:Int) (r:VT):(aE d a r).p=d.p:=by unfold aE;split <;> rfl
theorem vB (d:CS) (a:Int) (r:VT):(aE d a r).w=d.w:=by unfold aE;split <;> rfl
theorem mD (d:CS) (a:Int) (r:VT):(aE d a r).gn=d.gn:=by unfold aE;split <;> rfl
theorem mI (d:CS) (a:Int) (r:VT):(aE d a r).gl=d.gl:=by unfold aE;split <;> rfl
theorem mR (d:CS) (a:Int) (r:VT):(aE d a r).ph=d.ph:=by unfold aE;split <;> rfl
theorem mG (d:CS) (a:Int) (r:VT):(aE d a r).tn=d.tn:=by unfold aE;split <;> rfl
theorem mN (d:CS) (a:Int) (r:VT):(aE d a r).tl=d.tl:=by unfold aE;split <;> rfl
theorem vD (d:CS) (a:Int) (r:VT):(aE d a r).l=d.l:=by unfold aE;split <;> rfl
theorem vA (d:CS) (a:Int) (r:VT):(aE d a r).o=d.o:=by unfold aE;split <;> rfl
theorem jQ {d:CS} {a:Int} {r:VT} (h:r.e=0):aE d a r=⟨d.i,d.ee,d.er,d.t,d.p,d.U.set a.toNat (jN (tie d a) r),d.w,d.gn,d.gl,d.ph,d.tn,d.tl,d.l,d.o,d.q ++ r.w.map fun k=>cB (ri (tie d a) 0) (xc k)⟩:=if_pos h
theorem sH {d:CS} {a:Int} {r:VT} (h:¬r.e=0):aE d a r=d:=if_neg h
theorem sK {l:List E} {a:Int} (x:E) (h0:0≤a) (h:a < l.length):(l.set a.toNat x).getD a.toNat []=x:=by
 rw [List.getD_eq_getElem?_getD,List.getElem?_set_self (by omega)];rfl
structure Ku where
 Mz:CS→Int→VT→CS
 Jr:CS→Int→VT
 KD:CS→Int→VT
 IE:CS→Int→VT
 Kh:Int→CS→Int→VT
 OQ:CS→Int→Bool
 v:Fs
def Ku.aa:Ku:=⟨aE,fun d a=>pE (tie d a),fun d a=>zg (tie d a),fun d a=>kq (tie d a),fun k d a=>eT k (tie d a),fun d a=>decide (0≤a∧a < d.U.length∧d.U.length≤1000∧d.q.length≤99000),Fs.aa⟩
noncomputable def Gs (F:Ku):aO:=fun xs h=>match xs,h with
 |[.agg [.val (.int .i64 v_m),.val (.bool v_t),.val (.bool bB),.val (.int .i64 v_o)],.one (.ptr 0 0)],[(0,.cells 3 [.val (.int .i64 p)])]=>some ⟨True,.cN [.agg [.ay (F.v.dI v_m v_t bB v_o p).m,.bK (F.v.dI v_m v_t bB v_o p).t,.bK (F.v.dI v_m v_t bB v_o p).b,.ay (F.v.dI v_m v_t bB v_o p).o],.agg [.sl none (.ints .i64 (F.v.dI v_m v_t bB v_o p).w),.bK (F.v.dI v_m v_t bB v_o p).tb,.bK (F.v.dI v_m v_t bB v_o p).tp,.bK (F.v.dI v_m v_t bB v_o p).tf],I (F.v.dI v_m v_t bB v_o p).e],[(0,.cells 3 [.ay p])],[Any,.one (.ptr 0 0)]⟩
 |_,_=>none
theorem Zq:au Tryz.prog 109 (Gs Ku.aa):=by
 have hfs:=(ak.cons pU ak.nil rfl);refine aw hfs Tryz.func109 rfl rfl fun xs h p hp=>?_;unfold Gs at hp;split at hp
 ·rename_i v_m v_t bB v_o p;cases hp;refine⟨av rfl,fun _ _=>?_⟩;intro b gv;generalize hF:Ku.aa=F,hG0:VoR.Fs.aa=G0,hG1:KsC.Kc.aa=G1 at hfs ⊢;refine bu fun Z zq A hA L hL=>?_
  repeat' (first|(apply al zq;try dsimp only)|apply aS zq (af hL)|apply aq zq|refine aT rfl ?_|apply ai|refine ah rfl ?_|refine aR rfl ?_|exact aA|apply aB|refine aP fun _=>?_|refine aQ fun _=>?_|(constructor;cbv))
  all_goals
   clear hL zq Z
   try clear hfs
   subst hA hF hG0 hG1;simp only [Ku.aa,VoR.Fs.aa] at *
   try (grind [aj])
 ·cases hp
theorem aah:jg (Gs Ku.aa):=by
 intro xs h p hp;unfold Gs at hp;split at hp
 ·cases hp;rfl
 ·cases hp
noncomputable def yC (F:Ku):aO:=fun xs h=>match xs with
 |[.one (.ptr 0 0),.one (.val (.int .i64 a)),.one (.val (.func (.func 76) ⟨[]⟩ ⟨[]⟩))]=>(match wg h with
  |some s=>some ⟨F.OQ s a=true,.sa (.agg [.sl none (.ints .i64 ((F.KD s a)).w),.bK ((F.KD s a)).tb,.bK ((F.KD s a)).tp,.bK ((F.KD s a)).tf]),(vK (F.Mz s a (F.KD s a))),[.one (.ptr 0 0),Any,Any,.one (.own 1)]⟩
  |none=>none)
 |_=>none
theorem Bv:au Tryz.prog 74 (yC Ku.aa):=by
 have hfs:=(ak.cons Jb (ak.cons (bI [[none],[none],[none,none,none,some (.ints .i64 []),some (.ae .bg []),none,none,none,none]] hN) ak.nil rfl) rfl);refine aw hfs Tryz.func74 rfl rfl fun xs h p hp=>?_;unfold yC at hp;split at hp
 ·rename_i a;split at hp
  ·rename_i s e0;cases hp;have g0:=da e0;subst g0;refine⟨av rfl,fun hC _=>?_⟩;dsimp only at hC;intro b gv;have hk:0≤a∧a < s.U.length∧s.U.length≤1000∧s.q.length≤99000:=of_decide_eq_true hC;have hse:=fun x=>sK (l:=s.U) x hk.1 hk.2.1;have hs2:∀ (m:Int) (t b:Bool) (o:Int),ri ((s.U.set a.toNat [.int (ri (s.U.getD a.toNat []) 0),.int (ri (s.U.getD a.toNat []) 1),.int (ri (s.U.getD a.toNat []) 2),.int m,.bool t,.bool b,.int o]).getD a.toNat []) 0=ri (s.U.getD a.toNat []) 0:=fun m t b o=>by rw [hse];rfl
   have hlen:=(kQ (ri (s.U.getD a.toNat []) 3) (rb (s.U.getD a.toNat []) 4) (rb (s.U.getD a.toNat []) 5) (ri (s.U.getD a.toNat []) 6) 0);have hbad:=(HY (ri (s.U.getD a.toNat []) 3) (rb (s.U.getD a.toNat []) 4) (rb (s.U.getD a.toNat []) 5) (ri (s.U.getD a.toNat []) 6) 0);have hok:=fun h=>jQ (d:=s) (a:=a) (r:=(iN (ri (s.U.getD a.toNat []) 3) (rb (s.U.getD a.toNat []) 4) (rb (s.U.getD a.toNat []) 5) (ri (s.U.getD a.toNat []) 6))) h;have hno:=fun h=>sH (d:=s) (a:=a) (r:=(iN (ri (s.U.getD a.toNat []) 3) (rb (s.U.getD a.toNat []) 4) (rb (s.U.getD a.toNat []) 5) (ri (s.U.getD a.toNat []) 6))) h;generalize hF:Ku.aa=F,hG0:VoR.Fs.aa=G0,hG1:KsC.Kc.aa=G1 at hC hfs ⊢;refine bu fun Z zq A hA L hL=>?_
   repeat' (first|(apply al zq;try dsimp only)|apply aS zq (af hL)|apply aq zq|refine aT rfl ?_|apply ai|refine ah rfl ?_|refine aR rfl ?_|exact aA|apply aB|refine aP fun _=>?_|refine aQ fun _=>?_|(constructor;cbv))
   all_goals first|(show L _ _ _;skip)|(clear hL hfs zq Z;subst hA hF hG0 hG1;simp only [Ku.aa,VoR.Fs.aa,Ar.aa] at * <;> (try simp only [zg,tie,jN,cB,xc,decide_eq_true_eq,hs2] at *) <;> grind [aj];done)
   subst hL;refine aJ (aN hfs) (Uh s.q (ri (s.U.getD a.toNat []) 0) (iN (ri (s.U.getD a.toNat []) 3) (rb (s.U.getD a.toNat []) 4) (rb (s.U.getD a.toNat []) 5) (ri (s.U.getD a.toNat []) 6)).w) (fun y=>br Tryz.f74.ntmps [(0,.ptr 1 0),(1,.ay a),(6,.ptr 4 0),(8,.ptr 5 0),(40,.sl none (.ints .i64 (G0.fv (A.ri (A.bh s.U a) 3) (A.rb (A.bh s.U a) 4) (A.rb (A.bh s.U a) 5) (A.ri (A.bh s.U a) 6)).w)),(41,.ay (A.fT (G0.fv (A.ri (A.bh s.U a) 3) (A.rb (A.bh s.U a) 4) (A.rb (A.bh s.U a) 5) (A.ri (A.bh s.U a) 6)).w)),(42,.ay y.i)] [(1,.cells 75 [.ay s.i,.ay s.ee,.ay s.er,.ay s.t,.ay s.p,.own 2,.sl none (.ints .i64 s.w),.sl none (.ints .i64 s.gn),.sl none (.ae .bg s.gl),.ay s.ph,.sl none (.ints .i64 s.tn),.sl none (.ae .bg s.tl),.ay s.l,.bK s.o,.sl (some (3,89)) (.ae .iY y.q)]),(2,.row 58 (.ae .eC (A.EJ s.U a [.int (A.ri (A.bh s.U a) 0),.int (A.ri (A.bh s.U a) 1),.int (A.ri (A.bh s.U a) 2),.int (G0.fv (A.ri (A.bh s.U a) 3) (A.rb (A.bh s.U a) 4) (A.rb (A.bh s.U a) 5) (A.ri (A.bh s.U a) 6)).m,.bool (G0.fv (A.ri (A.bh s.U a) 3) (A.rb (A.bh s.U a) 4) (A.rb (A.bh s.U a) 5) (A.ri (A.bh s.U a) 6)).t,.bool (G0.fv (A.ri (A.bh s.U a) 3) (A.rb (A.bh s.U a) 4) (A.rb (A.bh s.U a) 5) (A.ri (A.bh s.U a) 6)).b,.int (G0.fv (A.ri (A.bh s.U a) 3) (A.rb (A.bh s.U a) 4) (A.rb (A.bh s.U a) 5) (A.ri (A.bh s.U a) 6)).o]))),(3,.tok),(4,.cells 125 [.any,.any,.any,.any]),(5,.cells 125 [.sl none (.ints .i64 (G0.fv (A.ri (A.bh s.U a) 3) (A.rb (A.bh s.U a) 4) (A.rb (A.bh s.U a) 5) (A.ri (A.bh s.U a) 6)).w),.bK (G0.fv (A.ri (A.bh s.U a) 3) (A.rb (A.bh s.U a) 4) (A.rb (A.bh s.U a) 5) (A.ri (A.bh s.U a) 6)).tb,.bK (G0.fv (A.ri (A.bh s.U a) 3) (A.rb (A.bh s.U a) 4) (A.rb (A.bh s.U a) 5) (A.ri (A.bh s.U a) 6)).tp,.bK (G0.fv (A.ri (A.bh s.U a) 3) (A.rb (A.bh s.U a) 4) (A.rb (A.bh s.U a) 5) (A.ri (A.bh s.U a) 6)).tf])] [.one (.ptr 1 0),Any,Any,.one (.own 2)]) (IK (iN (ri (s.U.getD a.toNat []) 3) (rb (s.U.getD a.toNat []) 4) (rb (s.U.getD a.toNat []) 5) (ri (s.U.getD a.toNat []) 6)).w) (KO 42 1) ⟨0,s.q⟩ ?_ ?_ ?_
   ·exact oI _ _ _
   ·cbv
    repeat' (first|exact trivial|exact rfl|refine And.intro ?_ ?_)
   rintro⟨i,q⟩ hq O hO;have hst:=fun hw hq0 h=>oY hw hq0 hq h;have hen:=fun h=>tS hq h;have q0:=hq.1;have q1:=hq.2.1;dsimp only at q0 q1;subst hA;generalize hA:Ar.aa=A;generalize hL:Lp _ _ _=L;refine az zq ?_
   repeat' (first|(apply al zq;try dsimp only)|apply aS zq (af hL)|apply aq zq|refine aT rfl ?_|apply ai|refine ah rfl ?_|refine aR rfl ?_|exact aA|apply aB|refine aP fun _=>?_|refine aQ fun _=>?_|(constructor;cbv))
   all_goals first|(show L _ _ _;skip)|(clear hL hfs zq Z hq;subst hA hF hG0 hG1 hO;simp only [Ku.aa,VoR.Fs.aa,KsC.Kc.aa,Ar.aa] at * <;> (try simp only [zg,tie,jN,jz,qa,pZ,cB,xc,List.length_set,List.length_nil,decide_eq_true_eq,hs2] at *) <;> grind [aj];done)
  ·cases hp
 ·cases hp
noncomputable def yO (F:Ku):aO:=fun xs h=>match xs with
 |[.one (.ptr 0 0),.one (.val (.int .i64 a)),.one (.val (.func (.func 141) ⟨[]⟩ ⟨[]⟩))]=>(match wg h with
  |some s=>some ⟨F.OQ s a=true,.sa (.agg [.sl none (.ints .i64 ((F.Jr s a)).w),.bK ((F.Jr s a)).tb,.bK ((F.Jr s a)).tp,.bK ((F.Jr s a)).tf]),(vK (F.Mz s a (F.Jr s a))),[.one (.ptr 0 0),Any,Any,.one (.own 1)]⟩
  |none=>none)
 |_=>none
theorem ND:au Tryz.prog 74 (yO Ku.aa):=by
 have hfs:=(ak.cons MI (ak.cons (bI [[none],[none],[none,none,none,some (.ints .i64 []),some (.ae .bg []),none,none,none,none]] hN) ak.nil rfl) rfl);refine aw hfs Tryz.func74 rfl rfl fun xs h p hp=>?_;unfold yO at hp;split at hp
 ·rename_i a;split at hp
  ·rename_i s e0;cases hp;have g0:=da e0;subst g0;refine⟨av rfl,fun hC _=>?_⟩;dsimp only at hC;intro b gv;have hk:0≤a∧a < s.U.length∧s.U.length≤1000∧s.q.length≤99000:=of_decide_eq_true hC;have hse:=fun x=>sK (l:=s.U) x hk.1 hk.2.1;have hs2:∀ (m:Int) (t b:Bool) (o:Int),ri ((s.U.set a.toNat [.int (ri (s.U.getD a.toNat []) 0),.int (ri (s.U.getD a.toNat []) 1),.int (ri (s.U.getD a.toNat []) 2),.int m,.bool t,.bool b,.int o]).getD a.toNat []) 0=ri (s.U.getD a.toNat []) 0:=fun m t b o=>by rw [hse];rfl
   have hlen:=(kQ (ri (s.U.getD a.toNat []) 3) (rb (s.U.getD a.toNat []) 4) (rb (s.U.getD a.toNat []) 5) (ri (s.U.getD a.toNat []) 6) 0);have hbad:=(HY (ri (s.U.getD a.toNat []) 3) (rb (s.U.getD a.toNat []) 4) (rb (s.U.getD a.toNat []) 5) (ri (s.U.getD a.toNat []) 6) 0);have hok:=fun h=>jQ (d:=s) (a:=a) (r:=(ki (ri (s.U.getD a.toNat []) 3) (rb (s.U.getD a.toNat []) 4) (rb (s.U.getD a.toNat []) 5) (ri (s.U.getD a.toNat []) 6))) h;have hno:=fun h=>sH (d:=s) (a:=a) (r:=(ki (ri (s.U.getD a.toNat []) 3) (rb (s.U.getD a.toNat []) 4) (rb (s.U.getD a.toNat []) 5) (ri (s.U.getD a.toNat []) 6))) h;generalize hF:Ku.aa=F,hG0:VoR.Fs.aa=G0,hG1:KsC.Kc.aa=G1 at hC hfs ⊢;refine bu fun Z zq A hA L hL=>?_
   repeat' (first|(apply al zq;try dsimp only)|apply aS zq (af hL)|apply aq zq|refine aT rfl ?_|apply ai|refine ah rfl ?_|refine aR rfl ?_|exact aA|apply aB|refine aP fun _=>?_|refine aQ fun _=>?_|(constructor;cbv))
   all_goals first|(show L _ _ _;skip)|(clear hL hfs zq Z;subst hA hF hG0 hG1;simp only [Ku.aa,VoR.Fs.aa,Ar.aa] at * <;> (try simp only [pE,tie,jN,cB,xc,decide_eq_true_eq,hs2] at *) <;> grind [aj];done)
   subst hL;refine aJ (aN hfs) (Uh s.q (ri (s.U.getD a.toNat []) 0) (ki (ri (s.U.getD a.toNat []) 3) (rb (s.U.getD a.toNat []) 4) (rb (s.U.getD a.toNat []) 5) (ri (s.U.getD a.toNat []) 6)).w) (fun y=>br Tryz.f74.ntmps [(0,.ptr 1 0),(1,.ay a),(6,.ptr 4 0),(8,.ptr 5 0),(40,.sl none (.ints .i64 (G0.fm (A.ri (A.bh s.U a) 3) (A.rb (A.bh s.U a) 4) (A.rb (A.bh s.U a) 5) (A.ri (A.bh s.U a) 6)).w)),(41,.ay (A.fT (G0.fm (A.ri (A.bh s.U a) 3) (A.rb (A.bh s.U a) 4) (A.rb (A.bh s.U a) 5) (A.ri (A.bh s.U a) 6)).w)),(42,.ay y.i)] [(1,.cells 75 [.ay s.i,.ay s.ee,.ay s.er,.ay s.t,.ay s.p,.own 2,.sl none (.ints .i64 s.w),.sl none (.ints .i64 s.gn),.sl none (.ae .bg s.gl),.ay s.ph,.sl none (.ints .i64 s.tn),.sl none (.ae .bg s.tl),.ay s.l,.bK s.o,.sl (some (3,89)) (.ae .iY y.q)]),(2,.row 58 (.ae .eC (A.EJ s.U a [.int (A.ri (A.bh s.U a) 0),.int (A.ri (A.bh s.U a) 1),.int (A.ri (A.bh s.U a) 2),.int (G0.fm (A.ri (A.bh s.U a) 3) (A.rb (A.bh s.U a) 4) (A.rb (A.bh s.U a) 5) (A.ri (A.bh s.U a) 6)).m,.bool (G0.fm (A.ri (A.bh s.U a) 3) (A.rb (A.bh s.U a) 4) (A.rb (A.bh s.U a) 5) (A.ri (A.bh s.U a) 6)).t,.bool (G0.fm (A.ri (A.bh s.U a) 3) (A.rb (A.bh s.U a) 4) (A.rb (A.bh s.U a) 5) (A.ri (A.bh s.U a) 6)).b,.int (G0.fm (A.ri (A.bh s.U a) 3) (A.rb (A.bh s.U a) 4) (A.rb (A.bh s.U a) 5) (A.ri (A.bh s.U a) 6)).o]))),(3,.tok),(4,.cells 125 [.any,.any,.any,.any]),(5,.cells 125 [.sl none (.ints .i64 (G0.fm (A.ri (A.bh s.U a) 3) (A.rb (A.bh s.U a) 4) (A.rb (A.bh s.U a) 5) (A.ri (A.bh s.U a) 6)).w),.bK (G0.fm (A.ri (A.bh s.U a) 3) (A.rb (A.bh s.U a) 4) (A.rb (A.bh s.U a) 5) (A.ri (A.bh s.U a) 6)).tb,.bK (G0.fm (A.ri (A.bh s.U a) 3) (A.rb (A.bh s.U a) 4) (A.rb (A.bh s.U a) 5) (A.ri (A.bh s.U a) 6)).tp,.bK (G0.fm (A.ri (A.bh s.U a) 3) (A.rb (A.bh s.U a) 4) (A.rb (A.bh s.U a) 5) (A.ri (A.bh s.U a) 6)).tf])] [.one (.ptr 1 0),Any,Any,.one (.own 2)]) (IK (ki (ri (s.U.getD a.toNat []) 3) (rb (s.U.getD a.toNat []) 4) (rb (s.U.getD a.toNat []) 5) (ri (s.U.getD a.toNat []) 6)).w) (KO 42 1) ⟨0,s.q⟩ ?_ ?_ ?_
   ·exact oI _ _ _
   ·cbv
    repeat' (first|exact trivial|exact rfl|refine And.intro ?_ ?_)
   rintro⟨i,q⟩ hq O hO;have hst:=fun hw hq0 h=>oY hw hq0 hq h;have hen:=fun h=>tS hq h;have q0:=hq.1;have q1:=hq.2.1;dsimp only at q0 q1;subst hA;generalize hA:Ar.aa=A;generalize hL:Lp _ _ _=L;refine az zq ?_
   repeat' (first|(apply al zq;try dsimp only)|apply aS zq (af hL)|apply aq zq|refine aT rfl ?_|apply ai|refine ah rfl ?_|refine aR rfl ?_|exact aA|apply aB|refine aP fun _=>?_|refine aQ fun _=>?_|(constructor;cbv))
   all_goals first|(show L _ _ _;skip)|(clear hL hfs zq Z hq;subst hA hF hG0 hG1 hO;simp only [Ku.aa,VoR.Fs.aa,KsC.Kc.aa,Ar.aa] at * <;> (try simp only [pE,tie,jN,jz,qa,pZ,cB,xc,List.length_set,List.length_nil,decide_eq_true_eq,hs2] at *) <;> grind [aj];done)
  ·cases hp
 ·cases hp
noncomputable def oh (F:Ku):aO:=fun xs h=>match xs with
 |[.one (.ptr 0 0),.one (.val (.int .i64 a)),.one (.val (.func (.func 75) ⟨[]⟩ ⟨[]⟩))]=>(match wg h with
  |some s=>some ⟨F.OQ s a=true,.sa (.agg [.sl none (.ints .i64 ((F.IE s a)).w),.bK ((F.IE s a)).tb,.bK ((F.IE s a)).tp,.bK ((F.IE s a)).tf]),(vK (F.Mz s a (F.IE s a))),[.one (.ptr 0 0),Any,Any,.one (.own 1)]⟩
  |none=>none)
 |_=>none
theorem uF:au Tryz.prog 74 (oh Ku.aa):=by
 have hfs:=(ak.cons SI (ak.cons (bI [[none],[none],[none,none,none,some (.ints .i64 []),some (.ae .bg []),none,none,none,none]] hN) ak.nil rfl) rfl);refine aw hfs Tryz.func74 rfl rfl fun xs h p hp=>?_;unfold oh at hp;split at hp
 ·rename_i a;split at hp
  ·rename_i s e0;cases hp;have g0:=da e0;subst g0;refine⟨av rfl,fun hC _=>?_⟩;dsimp only at hC;intro b gv;have hk:0≤a∧a < s.U.length∧s.U.length≤1000∧s.q.length≤99000:=of_decide_eq_true hC;have hse:=fun x=>sK (l:=s.U) x hk.1 hk.2.1;have hs2:∀ (m:Int) (t b:Bool) (o:Int),ri ((s.U.set a.toNat [.int (ri (s.U.getD a.toNat []) 0),.int (ri (s.U.getD a.toNat []) 1),.int (ri (s.U.getD a.toNat []) 2),.int m,.bool t,.bool b,.int o]).getD a.toNat []) 0=ri (s.U.getD a.toNat []) 0:=fun m t b o=>by rw [hse];rfl
   have hlen:=(kQ (ri (s.U.getD a.toNat []) 3) (rb (s.U.getD a.toNat []) 4) (rb (s.U.getD a.toNat []) 5) (ri (s.U.getD a.toNat []) 6) 0);have hbad:=(HY (ri (s.U.getD a.toNat []) 3) (rb (s.U.getD a.toNat []) 4) (rb (s.U.getD a.toNat []) 5) (ri (s.U.getD a.toNat []) 6) 0);have hok:=fun h=>jQ (d:=s) (a:=a) (r:=(gm (ri (s.U.getD a.toNat []) 3) (rb (s.U.getD a.toNat []) 4) (rb (s.U.getD a.toNat []) 5) (ri (s.U.getD a.toNat []) 6))) h;have hno:=fun h=>sH (d:=s) (a:=a) (r:=(gm (ri (s.U.getD a.toNat []) 3) (rb (s.U.getD a.toNat []) 4) (rb (s.U.getD a.toNat []) 5) (ri (s.U.getD a.toNat []) 6))) h;generalize hF:Ku.aa=F,hG0:VoR.Fs.aa=G0,hG1:KsC.Kc.aa=G1 at hC hfs ⊢;refine bu fun Z zq A hA L hL=>?_
   repeat' (first|(apply al zq;try dsimp only)|apply aS zq (af hL)|apply aq zq|refine aT rfl ?_|apply ai|refine ah rfl ?_|refine aR rfl ?_|exact aA|apply aB|refine aP fun _=>?_|refine aQ fun _=>?_|(constructor;cbv))
   all_goals first|(show L _ _ _;skip)|(clear hL hfs zq Z;subst hA hF hG0 hG1;simp only [Ku.aa,VoR.Fs.aa,Ar.aa] at * <;> (try simp only [kq,tie,jN,cB,xc,decide_eq_true_eq,hs2] at *) <;> grind [aj];done)
   subst hL;refine aJ (aN hfs) (Uh s.q (ri (s.U.getD a.toNat []) 0) (gm (ri (s.U.getD a.toNat []) 3) (rb (s.U.getD a.toNat []) 4) (rb (s.U.getD a.toNat []) 5) (ri (s.U.getD a.toNat []) 6)).w) (fun y=>br Tryz.f74.ntmps [(0,.ptr 1 0),(1,.ay a),(6,.ptr 4 0),(8,.ptr 5 0),(40,.sl none (.ints .i64 (G0.fH (A.ri (A.bh s.U a) 3) (A.rb (A.bh s.U a) 4) (A.rb (A.bh s.U a) 5) (A.ri (A.bh s.U a) 6)).w)),(41,.ay (A.fT (G0.fH (A.ri (A.bh s.U a) 3) (A.rb (A.bh s.U a) 4) (A.rb (A.bh s.U a) 5) (A.ri (A.bh s.U a) 6)).w)),(42,.ay y.i)] [(1,.cells 75 [.ay s.i,.ay s.ee,.ay s.er,.ay s.t,.ay s.p,.own 2,.sl none (.ints .i64 s.w),.sl none (.ints .i64 s.gn),.sl none (.ae .bg s.gl),.ay s.ph,.sl none (.ints .i64 s.tn),.sl none (.ae .bg s.tl),.ay s.l,.bK s.o,.sl (some (3,89)) (.ae .iY y.q)]),(2,.row 58 (.ae .eC (A.EJ s.U a [.int (A.ri (A.bh s.U a) 0),.int (A.ri (A.bh s.U a) 1),.int (A.ri (A.bh s.U a) 2),.int (G0.fH (A.ri (A.bh s.U a) 3) (A.rb (A.bh s.U a) 4) (A.rb (A.bh s.U a) 5) (A.ri (A.bh s.U a) 6)).m,.bool (G0.fH (A.ri (A.bh s.U a) 3) (A.rb (A.bh s.U a) 4) (A.rb (A.bh s.U a) 5) (A.ri (A.bh s.U a) 6)).t,.bool (G0.fH (A.ri (A.bh s.U a) 3) (A.rb (A.bh s.U a) 4) (A.rb (A.bh s.U a) 5) (A.ri (A.bh s.U a) 6)).b,.int (G0.fH (A.ri (A.bh s.U a) 3) (A.rb (A.bh s.U a) 4) (A.rb (A.bh s.U a) 5) (A.ri (A.bh s.U a) 6)).o]))),(3,.tok),(4,.cells 125 [.any,.any,.any,.any]),(5,.cells 125 [.sl none (.ints .i64 (G0.fH (A.ri (A.bh s.U a) 3) (A.rb (A.bh s.U a) 4) (A.rb (A.bh s.U a) 5) (A.ri (A.bh s.U a) 6)).w),.bK (G0.fH (A.ri (A.bh s.U a) 3) (A.rb (A.bh s.U a) 4) (A.rb (A.bh s.U a) 5) (A.ri (A.bh s.U a) 6)).tb,.bK (G0.fH (A.ri (A.bh s.U a) 3) (A.rb (A.bh s.U a) 4) (A.rb (A.bh s.U a) 5) (A.ri (A.bh s.U a) 6)).tp,.bK (G0.fH (A.ri (A.bh s.U a) 3) (A.rb (A.bh s.U a) 4) (A.rb (A.bh s.U a) 5) (A.ri (A.bh s.U a) 6)).tf])] [.one (.ptr 1 0),Any,Any,.one (.own 2)]) (IK (gm (ri (s.U.getD a.toNat []) 3) (rb (s.U.getD a.toNat []) 4) (rb (s.U.getD a.toNat []) 5) (ri (s.U.getD a.toNat []) 6)).w) (KO 42 1) ⟨0,s.q⟩ ?_ ?_ ?_
   ·exact oI _ _ _
   ·cbv
    repeat' (first|exact trivial|exact rfl|refine And.intro ?_ ?_)
   rintro⟨i,q⟩ hq O hO;have hst:=fun hw hq0 h=>oY hw hq0 hq h;have hen:=fun h=>tS hq h;have q0:=hq.1;have q1:=hq.2.1;dsimp only at q0 q1;subst hA;generalize hA:Ar.aa=A;generalize hL:Lp _ _ _=L;refine az zq ?_
   repeat' (first|(apply al zq;try dsimp only)|apply aS zq (af hL)|apply aq zq|refine aT rfl ?_|apply ai|refine ah rfl ?_|refine aR rfl ?_|exact aA|apply aB|refine aP fun _=>?_|refine aQ fun _=>?_|(constructor;cbv))
   all_goals first|(show L _ _ _;skip)|(clear hL hfs zq Z hq;subst hA hF hG0 hG1 hO;simp only [Ku.aa,VoR.Fs.aa,KsC.Kc.aa,Ar.aa] at * <;> (try simp only [kq,tie,jN,jz,qa,pZ,cB,xc,List.length_set,List.length_nil,decide_eq_true_eq,hs2] at *) <;> grind [aj];done)
  ·cases hp
 ·cases hp
noncomputable def zi (F:Ku):aO:=fun xs h=>match xs with
 |[.one (.ptr 0 0),.one (.val (.int .i64 a)),.one (.fn 109 3)]=>(match hp3 h with
  |some (s,p)=>some ⟨F.OQ s a=true,.sa (.agg [.sl none (.ints .i64 ((F.Kh p s a)).w),.bK ((F.Kh p s a)).tb,.bK ((F.Kh p s a)).tp,.bK ((F.Kh p s a)).tf]),(Qw (F.Mz s a (F.Kh p s a)) p),[.one (.ptr 0 0),Any,.one (.fn 109 3),.one (.own 1)]⟩
  |none=>none)
 |_=>none
theorem Qj:au Tryz.prog 74 (zi Ku.aa):=by
 have hfs:=(ak.keeps Zq aah (ak.cons (bI [[none],[none],[none,none,none,some (.ints .i64 []),some (.ae .bg []),none,none,none,none]] hN) ak.nil rfl));refine aw hfs Tryz.func74 rfl rfl fun xs h p hp=>?_;unfold zi at hp;split at hp
 ·rename_i a;split at hp
  ·rename_i s p e0;cases hp;have g0:=ZI e0;subst g0;refine⟨av rfl,fun hC _=>?_⟩;dsimp only at hC;intro b gv;have hk:0≤a∧a < s.U.length∧s.U.length≤1000∧s.q.length≤99000:=of_decide_eq_true hC;have hse:=fun x=>sK (l:=s.U) x hk.1 hk.2.1;have hs2:∀ (m:Int) (t b:Bool) (o:Int),ri ((s.U.set a.toNat [.int (ri (s.U.getD a.toNat []) 0),.int (ri (s.U.getD a.toNat []) 1),.int (ri (s.U.getD a.toNat []) 2),.int m,.bool t,.bool b,.int o]).getD a.toNat []) 0=ri (s.U.getD a.toNat []) 0:=fun m t b o=>by rw [hse];rfl
   have hlen:=(kQ (ri (s.U.getD a.toNat []) 3) (rb (s.U.getD a.toNat []) 4) (rb (s.U.getD a.toNat []) 5) (ri (s.U.getD a.toNat []) 6) p);have hbad:=(HY (ri (s.U.getD a.toNat []) 3) (rb (s.U.getD a.toNat []) 4) (rb (s.U.getD a.toNat []) 5) (ri (s.U.getD a.toNat []) 6) p);have hok:=fun h=>jQ (d:=s) (a:=a) (r:=(mH (ri (s.U.getD a.toNat []) 3) (rb (s.U.getD a.toNat []) 4) (rb (s.U.getD a.toNat []) 5) (ri (s.U.getD a.toNat []) 6) p)) h;have hno:=fun h=>sH (d:=s) (a:=a) (r:=(mH (ri (s.U.getD a.toNat []) 3) (rb (s.U.getD a.toNat []) 4) (rb (s.U.getD a.toNat []) 5) (ri (s.U.getD a.toNat []) 6) p)) h;generalize hF:Ku.aa=F,hG0:VoR.Fs.aa=G0,hG1:KsC.Kc.aa=G1 at hC hfs ⊢;refine bu fun Z zq A hA L hL=>?_
   repeat' (first|(apply al zq;try dsimp only)|apply aS zq (af hL)|apply aq zq|refine aT rfl ?_|apply ai|refine ah rfl ?_|refine aR rfl ?_|exact aA|apply aB|refine aP fun _=>?_|refine aQ fun _=>?_|(constructor;cbv))
   all_goals first|(show L _ _ _;skip)|(clear hL hfs zq Z;subst hA hF hG0 hG1;simp only [Ku.aa,VoR.Fs.aa,Ar.aa] at * <;> (try simp only [eT,tie,jN,cB,xc,decide_eq_true_eq,hs2] at *) <;> grind [aj];done)
   subst hL;refine aJ (aN hfs) (Uh s.q (ri (s.U.getD a.toNat []) 0) (mH (ri (s.U.getD a.toNat []) 3) (rb (s.U.getD a.toNat []) 4) (rb (s.U.getD a.toNat []) 5) (ri (s.U.getD a.toNat []) 6) p).w) (fun y=>br Tryz.f74.ntmps [(0,.ptr 1 0),(1,.ay a),(6,.ptr 4 0),(8,.ptr 5 0),(40,.sl none (.ints .i64 (F.v.dI (A.ri (A.bh s.U a) 3) (A.rb (A.bh s.U a) 4) (A.rb (A.bh s.U a) 5) (A.ri (A.bh s.U a) 6) p).w)),(41,.ay (A.fT (F.v.dI (A.ri (A.bh s.U a) 3) (A.rb (A.bh s.U a) 4) (A.rb (A.bh s.U a) 5) (A.ri (A.bh s.U a) 6) p).w)),(42,.ay y.i)] [(1,.cells 75 [.ay s.i,.ay s.ee,.ay s.er,.ay s.t,.ay s.p,.own 2,.sl none (.ints .i64 s.w),.sl none (.ints .i64 s.gn),.sl none (.ae .bg s.gl),.ay s.ph,.sl none (.ints .i64 s.tn),.sl none (.ae .bg s.tl),.ay s.l,.bK s.o,.sl (some (3,89)) (.ae .iY y.q)]),(2,.row 58 (.ae .eC (A.EJ s.U a [.int (A.ri (A.bh s.U a) 0),.int (A.ri (A.bh s.U a) 1),.int (A.ri (A.bh s.U a) 2),.int (F.v.dI (A.ri (A.bh s.U a) 3) (A.rb (A.bh s.U a) 4) (A.rb (A.bh s.U a) 5) (A.ri (A.bh s.U a) 6) p).m,.bool (F.v.dI (A.ri (A.bh s.U a) 3) (A.rb (A.bh s.U a) 4) (A.rb (A.bh s.U a) 5) (A.ri (A.bh s.U a) 6) p).t,.bool (F.v.dI (A.ri (A.bh s.U a) 3) (A.rb (A.bh s.U a) 4) (A.rb (A.bh s.U a) 5) (A.ri (A.bh s.U a) 6) p).b,.int (F.v.dI (A.ri (A.bh s.U a) 3) (A.rb (A.bh s.U a) 4) (A.rb (A.bh s.U a) 5) (A.ri (A.bh s.U a) 6) p).o]))),(3,.tok),(4,.cells 125 [.any,.any,.any,.any]),(5,.cells 125 [.sl none (.ints .i64 (F.v.dI (A.ri (A.bh s.U a) 3) (A.rb (A.bh s.U a) 4) (A.rb (A.bh s.U a) 5) (A.ri (A.bh s.U a) 6) p).w),.bK (F.v.dI (A.ri (A.bh s.U a) 3) (A.rb (A.bh s.U a) 4) (A.rb (A.bh s.U a) 5) (A.ri (A.bh s.U a) 6) p).tb,.bK (F.v.dI (A.ri (A.bh s.U a) 3) (A.rb (A.bh s.U a) 4) (A.rb (A.bh s.U a) 5) (A.ri (A.bh s.U a) 6) p).tp,.bK (F.v.dI (A.ri (A.bh s.U a) 3) (A.rb (A.bh s.U a) 4) (A.rb (A.bh s.U a) 5) (A.ri (A.bh s.U a) 6) p).tf]),(7,.cells 3 [.ay p])] [.one (.ptr 1 0),Any,.one (.fn 109 7),.one (.own 2)]) (IK (mH (ri (s.U.getD a.toNat []) 3) (rb (s.U.getD a.toNat []) 4) (rb (s.U.getD a.toNat []) 5) (ri (s.U.getD a.toNat []) 6) p).w) (KO 42 1) ⟨0,s.q⟩ ?_ ?_ ?_
   ·exact oI _ _ _
   ·cbv
    repeat' (first|exact trivial|exact rfl|refine And.intro ?_ ?_)
   rintro⟨i,q⟩ hq O hO;have hst:=fun hw hq0 h=>oY hw hq0 hq h;have hen:=fun h=>tS hq h;have q0:=hq.1;have q1:=hq.2.1;dsimp only at q0 q1;subst hA;generalize hA:Ar.aa=A;generalize hL:Lp _ _ _=L;refine az zq ?_
   repeat' (first|(apply al zq;try dsimp only)|apply aS zq (af hL)|apply aq zq|refine aT rfl ?_|apply ai|refine ah rfl ?_|refine aR rfl ?_|exact aA|apply aB|refine aP fun _=>?_|refine aQ fun _=>?_|(constructor;cbv))
   all_goals first|(show L _ _ _;skip)|(clear hL hfs zq Z hq;subst hA hF hG0 hG1 hO;simp only [Ku.aa,VoR.Fs.aa,KsC.Kc.aa,Ar.aa] at * <;> (try simp only [eT,tie,jN,jz,qa,pZ,cB,xc,List.length_set,List.length_nil,decide_eq_true_eq,hs2] at *) <;> grind [aj];done)
  ·cases hp
 ·cases hp
end Go.Proofs.YtelhldgdnlppfaaGreat.KsU
