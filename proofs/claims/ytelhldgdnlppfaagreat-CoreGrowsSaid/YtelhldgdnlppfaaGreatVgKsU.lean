/-
  how a tie's vow turns. No condition but size.
-/
import Derived.Test.YtelhldgdnlppfaaGreatVgKsC
set_option maxHeartbeats 4000000
set_option cbv.maxSteps 4000000
set_option maxRecDepth 100000
namespace Go.Proofs.YtelhldgdnlppfaaGreat.KsU
open Go Ry ViR VoR KsS KsC
theorem ub (d:CS) (a:Int) (r:VT):(aL d a r).i=d.i:=by unfold aL;split <;> rfl
theorem ll (d:CS) (a:Int) (r:VT):(aL d a r).ee=d.ee:=by unfold aL;split <;> rfl
theorem lD (d:CS) (a:Int) (r:VT):(aL d a r).er=d.er:=by unfold aL;split <;> rfl
theorem uu (d:CS) (a:Int) (r:VT):(aL d a r).t=d.t:=by unfold aL;split <;> rfl
theorem uE (d:CS) (a:Int) (r:VT):(aL d a r).p=d.p:=by unfold aL;split <;> rfl
theorem uH (d:CS) (a:Int) (r:VT):(aL d a r).w=d.w:=by unfold aL;split <;> rfl
theorem lu (d:CS) (a:Int) (r:VT):(aL d a r).gn=d.gn:=by unfold aL;split <;> rfl
theorem lE (d:CS) (a:Int) (r:VT):(aL d a r).gl=d.gl:=by unfold aL;split <;> rfl
theorem lj (d:CS) (a:Int) (r:VT):(aL d a r).ph=d.ph:=by unfold aL;split <;> rfl
theorem lz (d:CS) (a:Int) (r:VT):(aL d a r).tn=d.tn:=by unfold aL;split <;> rfl
theorem lg (d:CS) (a:Int) (r:VT):(aL d a r).tl=d.tl:=by unfold aL;split <;> rfl
theorem uD (d:CS) (a:Int) (r:VT):(aL d a r).l=d.l:=by unfold aL;split <;> rfl
theorem uf (d:CS) (a:Int) (r:VT):(aL d a r).o=d.o:=by unfold aL;split <;> rfl
theorem iL {d:CS} {a:Int} {r:VT} (h:r.e=0):aL d a r=⟨d.i,d.ee,d.er,d.t,d.p,d.aa.set a.toNat (jf (tie d a) r),d.w,d.gn,d.gl,d.ph,d.tn,d.tl,d.l,d.o,d.q ++ r.w.map fun k=>eF (ri (tie d a) 0) (ED k)⟩:=if_pos h
theorem rm {d:CS} {a:Int} {r:VT} (h:¬r.e=0):aL d a r=d:=if_neg h
theorem qS {l:List E} {a:Int} (x:E) (h0:0≤a) (h:a < l.length):(l.set a.toNat x).getD a.toNat []=x:=by
 rw [List.getD_eq_getElem?_getD,List.getElem?_set_self (by omega)]
 rfl
structure Ku where
 yf:CS→Int→VT→CS
 rq:CS→Int→VT
 se:CS→Int→VT
 sZ:CS→Int→VT
 rC:Int→CS→Int→VT
 oR:CS→Int→Bool
 v:Fs
def Ku.U:Ku:=⟨aL,fun d a=>qN (tie d a),fun d a=>zY (tie d a),fun d a=>kY (tie d a),fun k d a=>dx k (tie d a),fun d a=>decide (0≤a∧a < d.aa.length∧d.aa.length≤1000∧d.q.length≤99000),Fs.U⟩
noncomputable def zb (F:Ku):aY:=fun xs h=>match xs,h with
 |[.agg [.val (.int .i64 v_m),.val (.bool v_t),.val (.bool bw),.val (.int .i64 v_o)],.one (.ptr 0 0)],[(0,.cells 3 [.val (.int .i64 p)])]=>some ⟨True,.bK [.agg [.val (.int .i64 (F.v.cB v_m v_t bw v_o p).m),.val (.bool (F.v.cB v_m v_t bw v_o p).t),.val (.bool (F.v.cB v_m v_t bw v_o p).b),.val (.int .i64 (F.v.cB v_m v_t bw v_o p).o)],.agg [.sl none (.ints .i64 (F.v.cB v_m v_t bw v_o p).w),.val (.bool (F.v.cB v_m v_t bw v_o p).tb),.val (.bool (F.v.cB v_m v_t bw v_o p).tp),.val (.bool (F.v.cB v_m v_t bw v_o p).tf)],I (F.v.cB v_m v_t bw v_o p).e],[(0,.cells 3 [.val (.int .i64 p)])],[Any,.one (.ptr 0 0)]⟩
 |_,_=>none
theorem VC (v_m:Int) (v_t:Bool) (bw:Bool) (v_o:Int) (p:Int):aV [(110,lS VoR.Fs.U)] Tryz.f109 [.agg [.val (.int .i64 v_m),.val (.bool v_t),.val (.bool bw),.val (.int .i64 v_o)],.one (.ptr 0 0)] [(0,.cells 3 [.val (.int .i64 p)])] ⟨True,.bK [.agg [.val (.int .i64 (Ku.U.v.cB v_m v_t bw v_o p).m),.val (.bool (Ku.U.v.cB v_m v_t bw v_o p).t),.val (.bool (Ku.U.v.cB v_m v_t bw v_o p).b),.val (.int .i64 (Ku.U.v.cB v_m v_t bw v_o p).o)],.agg [.sl none (.ints .i64 (Ku.U.v.cB v_m v_t bw v_o p).w),.val (.bool (Ku.U.v.cB v_m v_t bw v_o p).tb),.val (.bool (Ku.U.v.cB v_m v_t bw v_o p).tp),.val (.bool (Ku.U.v.cB v_m v_t bw v_o p).tf)],I (Ku.U.v.cB v_m v_t bw v_o p).e],[(0,.cells 3 [.val (.int .i64 p)])],[Any,.one (.ptr 0 0)]⟩:=by
 intro b gv
 have hfs:=(af.cons qC af.nil rfl)
 generalize hF:Ku.U=F at hfs ⊢
 generalize hG0:VoR.Fs.U=G0 at hfs ⊢
 generalize hG1:KsC.Kc.U=G1 at hfs ⊢
 generalize hA:Ar.U=A
 generalize hL:Lp _ _ _=L
 obtain⟨Z,zq⟩:=aQ
 refine @aD _ _ _ _ _ _ _ (ae hL) _ _ zq rfl ?_
 repeat' (first|(refine aw zq ?_;try dsimp only)|refine ax zq ?_ (ae hL)|refine az zq ?_|refine ay ?_|refine aq ?_|refine ar ?_|refine av ?_|refine au rfl ?_|refine ai rfl ?_|refine aj rfl ?_|(refine Cd.mk ?_;cbv)|(refine aE.mk ?_;cbv)|(refine aM.mk ?_;cbv)|exact trivial|refine And.intro ?_ ?_|refine bu fun _=>?_|refine br fun _=>?_)
 all_goals
  clear hL zq Z
  try clear hfs
  subst hA hF hG0 hG1
  simp only [Ku.U,VoR.Fs.U] at *
  try (grind [al])
theorem GK:aA Tryz.prog 109 (zb Ku.U):=by
 refine aG (af.cons qC af.nil rfl) Tryz.func109 rfl rfl fun xs h p hp=>?_
 unfold zb at hp
 split at hp
 ·cases hp
  exact⟨aB rfl,fun _ _=>@VC _ _ _ _ _⟩
 ·cases hp
theorem Hq:iB (zb Ku.U):=by
 intro xs h p hp
 unfold zb at hp
 split at hp
 ·cases hp
  rfl
 ·cases hp
noncomputable def qH (F:Ku):aY:=fun xs h=>match xs with
 |[.one (.ptr 0 0),.one (.val (.int .i64 a)),.one (.val (.func (.func 76) ⟨[]⟩ ⟨[]⟩))]=>(match vL h with
  |some s=>some ⟨F.oR s a=true,.sa (.agg [.sl none (.ints .i64 ((F.se s a)).w),.val (.bool ((F.se s a)).tb),.val (.bool ((F.se s a)).tp),.val (.bool ((F.se s a)).tf)]),(eO (F.yf s a (F.se s a))),[.one (.ptr 0 0),Any,Any,.one (.own 1)]⟩
  |none=>none)
 |_=>none
theorem Ml (a:Int) (s:CS) (hC:Ku.U.oR s a=true):aV [(76,rI VoR.Fs.U),(96,Ak [[none],[none],[none,none,none,some (.ints .i64 []),some (.ah (.int .i64 (.int .i64 (.int .i64 (.int .i64 (.bool .nil))))) []),none,none,none,none]] (iC KsC.Kc.U))] Tryz.f74 [.one (.ptr 0 0),.one (.val (.int .i64 a)),.one (.val (.func (.func 76) ⟨[]⟩ ⟨[]⟩))] (eO s) ⟨Ku.U.oR s a=true,.sa (.agg [.sl none (.ints .i64 ((Ku.U.se s a)).w),.val (.bool ((Ku.U.se s a)).tb),.val (.bool ((Ku.U.se s a)).tp),.val (.bool ((Ku.U.se s a)).tf)]),(eO (Ku.U.yf s a (Ku.U.se s a))),[.one (.ptr 0 0),Any,Any,.one (.own 1)]⟩:=by
 intro b gv
 have hk:0≤a∧a < s.aa.length∧s.aa.length≤1000∧s.q.length≤99000:=of_decide_eq_true (show decide _=true from hC)
 have hse:=fun x=>qS (l:=s.aa) x hk.1 hk.2.1
 have hs2:∀ (m:Int) (t b:Bool) (o:Int),ri ((s.aa.set a.toNat [.int (ri (s.aa.getD a.toNat []) 0),.int (ri (s.aa.getD a.toNat []) 1),.int (ri (s.aa.getD a.toNat []) 2),.int m,.bool t,.bool b,.int o]).getD a.toNat []) 0=ri (s.aa.getD a.toNat []) 0:=fun m t b o=>by rw [hse];rfl
 have hlen:=(pE (ri (s.aa.getD a.toNat []) 3) (rb (s.aa.getD a.toNat []) 4) (rb (s.aa.getD a.toNat []) 5) (ri (s.aa.getD a.toNat []) 6) 0)
 have hbad:=(CC (ri (s.aa.getD a.toNat []) 3) (rb (s.aa.getD a.toNat []) 4) (rb (s.aa.getD a.toNat []) 5) (ri (s.aa.getD a.toNat []) 6) 0)
 have hok:=fun h=>iL (d:=s) (a:=a) (r:=(pN (ri (s.aa.getD a.toNat []) 3) (rb (s.aa.getD a.toNat []) 4) (rb (s.aa.getD a.toNat []) 5) (ri (s.aa.getD a.toNat []) 6))) h
 have hno:=fun h=>rm (d:=s) (a:=a) (r:=(pN (ri (s.aa.getD a.toNat []) 3) (rb (s.aa.getD a.toNat []) 4) (rb (s.aa.getD a.toNat []) 5) (ri (s.aa.getD a.toNat []) 6))) h
 have hfs:=(af.cons uQ (af.cons (dq [[none],[none],[none,none,none,some (.ints .i64 []),some (.ah (.int .i64 (.int .i64 (.int .i64 (.int .i64 (.bool .nil))))) []),none,none,none,none]] fF) af.nil rfl) rfl)
 generalize hF:Ku.U=F at hC hfs ⊢
 generalize hG0:VoR.Fs.U=G0 at hC hfs ⊢
 generalize hG1:KsC.Kc.U=G1 at hC hfs ⊢
 generalize hA:Ar.U=A
 generalize hL:Lp _ _ _=L
 obtain⟨Z,zq⟩:=aQ
 refine @aD _ _ _ _ _ _ _ (ae hL) _ _ zq rfl ?_
 repeat' (first|(refine aw zq ?_;try dsimp only)|refine ax zq ?_ (ae hL)|refine az zq ?_|refine ay ?_|refine aq ?_|refine ar ?_|refine av ?_|refine au rfl ?_|refine ai rfl ?_|refine aj rfl ?_|(refine Cd.mk ?_;cbv)|(refine aE.mk ?_;cbv)|(refine aM.mk ?_;cbv)|exact trivial|refine And.intro ?_ ?_|refine bu fun _=>?_|refine br fun _=>?_)
 all_goals first|(show L _ _ _;skip)|(clear hL hfs zq Z;subst hA hF hG0 hG1;simp only [Ku.U,VoR.Fs.U,Ar.U] at * <;> (try simp only [zY,tie,jf,eF,ED,decide_eq_true_eq,hs2] at *) <;> grind [al];done)
 subst hL
 refine ba (bx hfs) (PL s.q (ri (s.aa.getD a.toNat []) 0) (pN (ri (s.aa.getD a.toNat []) 3) (rb (s.aa.getD a.toNat []) 4) (rb (s.aa.getD a.toNat []) 5) (ri (s.aa.getD a.toNat []) 6)).w) (fun y=>cC Tryz.f74.ntmps [(0,.ptr 1 0),(1,.val (.int .i64 a)),(6,.ptr 4 0),(8,.ptr 5 0),(40,.sl none (.ints .i64 (G0.eK (A.ri (A.bh s.aa a) 3) (A.rb (A.bh s.aa a) 4) (A.rb (A.bh s.aa a) 5) (A.ri (A.bh s.aa a) 6)).w)),(41,.val (.int .i64 (A.fE (G0.eK (A.ri (A.bh s.aa a) 3) (A.rb (A.bh s.aa a) 4) (A.rb (A.bh s.aa a) 5) (A.ri (A.bh s.aa a) 6)).w))),(42,.val (.int .i64 y.i))] [(1,.cells 75 [.val (.int .i64 s.i),.val (.int .i64 s.ee),.val (.int .i64 s.er),.val (.int .i64 s.t),.val (.int .i64 s.p),.own 2,.sl none (.ints .i64 s.w),.sl none (.ints .i64 s.gn),.sl none (.ah (.int .i64 (.int .i64 (.int .i64 (.int .i64 (.bool .nil))))) s.gl),.val (.int .i64 s.ph),.sl none (.ints .i64 s.tn),.sl none (.ah (.int .i64 (.int .i64 (.int .i64 (.int .i64 (.bool .nil))))) s.tl),.val (.int .i64 s.l),.val (.bool s.o),.sl (some (3,89)) (.ah (.int .i64 (.int .i64 (.int .i64 (.int .i64 (.ints .i64 (.ah (.int .i64 (.int .i64 (.int .i64 (.int .i64 (.bool .nil))))) (.int .i64 (.int .i64 (.int .i64 (.int .i64 .nil)))))))))) y.q)]),(2,.row 58 (.ah (.int .i64 (.int .i64 (.int .i64 (.int .i64 (.bool (.bool (.int .i64 .nil))))))) (A.Ft s.aa a [.int (A.ri (A.bh s.aa a) 0),.int (A.ri (A.bh s.aa a) 1),.int (A.ri (A.bh s.aa a) 2),.int (G0.eK (A.ri (A.bh s.aa a) 3) (A.rb (A.bh s.aa a) 4) (A.rb (A.bh s.aa a) 5) (A.ri (A.bh s.aa a) 6)).m,.bool (G0.eK (A.ri (A.bh s.aa a) 3) (A.rb (A.bh s.aa a) 4) (A.rb (A.bh s.aa a) 5) (A.ri (A.bh s.aa a) 6)).t,.bool (G0.eK (A.ri (A.bh s.aa a) 3) (A.rb (A.bh s.aa a) 4) (A.rb (A.bh s.aa a) 5) (A.ri (A.bh s.aa a) 6)).b,.int (G0.eK (A.ri (A.bh s.aa a) 3) (A.rb (A.bh s.aa a) 4) (A.rb (A.bh s.aa a) 5) (A.ri (A.bh s.aa a) 6)).o]))),(3,.tok),(4,.cells 125 [.any,.any,.any,.any]),(5,.cells 125 [.sl none (.ints .i64 (G0.eK (A.ri (A.bh s.aa a) 3) (A.rb (A.bh s.aa a) 4) (A.rb (A.bh s.aa a) 5) (A.ri (A.bh s.aa a) 6)).w),.val (.bool (G0.eK (A.ri (A.bh s.aa a) 3) (A.rb (A.bh s.aa a) 4) (A.rb (A.bh s.aa a) 5) (A.ri (A.bh s.aa a) 6)).tb),.val (.bool (G0.eK (A.ri (A.bh s.aa a) 3) (A.rb (A.bh s.aa a) 4) (A.rb (A.bh s.aa a) 5) (A.ri (A.bh s.aa a) 6)).tp),.val (.bool (G0.eK (A.ri (A.bh s.aa a) 3) (A.rb (A.bh s.aa a) 4) (A.rb (A.bh s.aa a) 5) (A.ri (A.bh s.aa a) 6)).tf)])] [.one (.ptr 1 0),Any,Any,.one (.own 2)]) (GD (pN (ri (s.aa.getD a.toNat []) 3) (rb (s.aa.getD a.toNat []) 4) (rb (s.aa.getD a.toNat []) 5) (ri (s.aa.getD a.toNat []) 6)).w) (Vi 42 1) ⟨0,s.q⟩ ?_ ?_ ?_
 ·exact qy _ _ _
 ·cbv
  repeat' (first|exact trivial|exact rfl|refine And.intro ?_ ?_)
 rintro⟨i,q⟩ hq O hO
 have hst:=fun hw hq0 h=>qL hw hq0 hq h
 have hen:=fun h=>ya hq h
 have q0:=hq.1
 have q1:=hq.2.1
 dsimp only at q0 q1
 subst hA
 generalize hA:Ar.U=A
 generalize hL:Lp _ _ _=L
 refine aR zq ?_
 repeat' (first|(refine aw zq ?_;try dsimp only)|refine ax zq ?_ (ae hL)|refine az zq ?_|refine ay ?_|refine aq ?_|refine ar ?_|refine av ?_|refine au rfl ?_|refine ai rfl ?_|refine aj rfl ?_|(refine Cd.mk ?_;cbv)|(refine aE.mk ?_;cbv)|(refine aM.mk ?_;cbv)|exact trivial|refine And.intro ?_ ?_|refine bu fun _=>?_|refine br fun _=>?_)
 all_goals first|(show L _ _ _;skip)|(clear hL hfs zq Z hq;subst hA hF hG0 hG1 hO;simp only [Ku.U,VoR.Fs.U,KsC.Kc.U,Ar.U] at * <;> (try simp only [zY,tie,jf,oX,oY,py,eF,ED,List.length_set,List.length_nil,decide_eq_true_eq,hs2] at *) <;> grind [al];done)
theorem rV:aA Tryz.prog 74 (qH Ku.U):=by
 refine aG (af.cons uQ (af.cons (dq [[none],[none],[none,none,none,some (.ints .i64 []),some (.ah (.int .i64 (.int .i64 (.int .i64 (.int .i64 (.bool .nil))))) []),none,none,none,none]] fF) af.nil rfl) rfl) Tryz.func74 rfl rfl fun xs h p hp=>?_
 unfold qH at hp
 split at hp
 ·split at hp
  ·rename_i e0
   cases hp
   have g0:=cV e0
   subst g0
   exact⟨aB rfl,fun hC _=>@Ml _ _ hC⟩
  ·cases hp
 ·cases hp
noncomputable def wA (F:Ku):aY:=fun xs h=>match xs with
 |[.one (.ptr 0 0),.one (.val (.int .i64 a)),.one (.val (.func (.func 141) ⟨[]⟩ ⟨[]⟩))]=>(match vL h with
  |some s=>some ⟨F.oR s a=true,.sa (.agg [.sl none (.ints .i64 ((F.rq s a)).w),.val (.bool ((F.rq s a)).tb),.val (.bool ((F.rq s a)).tp),.val (.bool ((F.rq s a)).tf)]),(eO (F.yf s a (F.rq s a))),[.one (.ptr 0 0),Any,Any,.one (.own 1)]⟩
  |none=>none)
 |_=>none
theorem LZ (a:Int) (s:CS) (hC:Ku.U.oR s a=true):aV [(141,xW VoR.Fs.U),(96,Ak [[none],[none],[none,none,none,some (.ints .i64 []),some (.ah (.int .i64 (.int .i64 (.int .i64 (.int .i64 (.bool .nil))))) []),none,none,none,none]] (iC KsC.Kc.U))] Tryz.f74 [.one (.ptr 0 0),.one (.val (.int .i64 a)),.one (.val (.func (.func 141) ⟨[]⟩ ⟨[]⟩))] (eO s) ⟨Ku.U.oR s a=true,.sa (.agg [.sl none (.ints .i64 ((Ku.U.rq s a)).w),.val (.bool ((Ku.U.rq s a)).tb),.val (.bool ((Ku.U.rq s a)).tp),.val (.bool ((Ku.U.rq s a)).tf)]),(eO (Ku.U.yf s a (Ku.U.rq s a))),[.one (.ptr 0 0),Any,Any,.one (.own 1)]⟩:=by
 intro b gv
 have hk:0≤a∧a < s.aa.length∧s.aa.length≤1000∧s.q.length≤99000:=of_decide_eq_true (show decide _=true from hC)
 have hse:=fun x=>qS (l:=s.aa) x hk.1 hk.2.1
 have hs2:∀ (m:Int) (t b:Bool) (o:Int),ri ((s.aa.set a.toNat [.int (ri (s.aa.getD a.toNat []) 0),.int (ri (s.aa.getD a.toNat []) 1),.int (ri (s.aa.getD a.toNat []) 2),.int m,.bool t,.bool b,.int o]).getD a.toNat []) 0=ri (s.aa.getD a.toNat []) 0:=fun m t b o=>by rw [hse];rfl
 have hlen:=(pE (ri (s.aa.getD a.toNat []) 3) (rb (s.aa.getD a.toNat []) 4) (rb (s.aa.getD a.toNat []) 5) (ri (s.aa.getD a.toNat []) 6) 0)
 have hbad:=(CC (ri (s.aa.getD a.toNat []) 3) (rb (s.aa.getD a.toNat []) 4) (rb (s.aa.getD a.toNat []) 5) (ri (s.aa.getD a.toNat []) 6) 0)
 have hok:=fun h=>iL (d:=s) (a:=a) (r:=(oZ (ri (s.aa.getD a.toNat []) 3) (rb (s.aa.getD a.toNat []) 4) (rb (s.aa.getD a.toNat []) 5) (ri (s.aa.getD a.toNat []) 6))) h
 have hno:=fun h=>rm (d:=s) (a:=a) (r:=(oZ (ri (s.aa.getD a.toNat []) 3) (rb (s.aa.getD a.toNat []) 4) (rb (s.aa.getD a.toNat []) 5) (ri (s.aa.getD a.toNat []) 6))) h
 have hfs:=(af.cons zo (af.cons (dq [[none],[none],[none,none,none,some (.ints .i64 []),some (.ah (.int .i64 (.int .i64 (.int .i64 (.int .i64 (.bool .nil))))) []),none,none,none,none]] fF) af.nil rfl) rfl)
 generalize hF:Ku.U=F at hC hfs ⊢
 generalize hG0:VoR.Fs.U=G0 at hC hfs ⊢
 generalize hG1:KsC.Kc.U=G1 at hC hfs ⊢
 generalize hA:Ar.U=A
 generalize hL:Lp _ _ _=L
 obtain⟨Z,zq⟩:=aQ
 refine @aD _ _ _ _ _ _ _ (ae hL) _ _ zq rfl ?_
 repeat' (first|(refine aw zq ?_;try dsimp only)|refine ax zq ?_ (ae hL)|refine az zq ?_|refine ay ?_|refine aq ?_|refine ar ?_|refine av ?_|refine au rfl ?_|refine ai rfl ?_|refine aj rfl ?_|(refine Cd.mk ?_;cbv)|(refine aE.mk ?_;cbv)|(refine aM.mk ?_;cbv)|exact trivial|refine And.intro ?_ ?_|refine bu fun _=>?_|refine br fun _=>?_)
 all_goals first|(show L _ _ _;skip)|(clear hL hfs zq Z;subst hA hF hG0 hG1;simp only [Ku.U,VoR.Fs.U,Ar.U] at * <;> (try simp only [qN,tie,jf,eF,ED,decide_eq_true_eq,hs2] at *) <;> grind [al];done)
 subst hL
 refine ba (bx hfs) (PL s.q (ri (s.aa.getD a.toNat []) 0) (oZ (ri (s.aa.getD a.toNat []) 3) (rb (s.aa.getD a.toNat []) 4) (rb (s.aa.getD a.toNat []) 5) (ri (s.aa.getD a.toNat []) 6)).w) (fun y=>cC Tryz.f74.ntmps [(0,.ptr 1 0),(1,.val (.int .i64 a)),(6,.ptr 4 0),(8,.ptr 5 0),(40,.sl none (.ints .i64 (G0.eh (A.ri (A.bh s.aa a) 3) (A.rb (A.bh s.aa a) 4) (A.rb (A.bh s.aa a) 5) (A.ri (A.bh s.aa a) 6)).w)),(41,.val (.int .i64 (A.fE (G0.eh (A.ri (A.bh s.aa a) 3) (A.rb (A.bh s.aa a) 4) (A.rb (A.bh s.aa a) 5) (A.ri (A.bh s.aa a) 6)).w))),(42,.val (.int .i64 y.i))] [(1,.cells 75 [.val (.int .i64 s.i),.val (.int .i64 s.ee),.val (.int .i64 s.er),.val (.int .i64 s.t),.val (.int .i64 s.p),.own 2,.sl none (.ints .i64 s.w),.sl none (.ints .i64 s.gn),.sl none (.ah (.int .i64 (.int .i64 (.int .i64 (.int .i64 (.bool .nil))))) s.gl),.val (.int .i64 s.ph),.sl none (.ints .i64 s.tn),.sl none (.ah (.int .i64 (.int .i64 (.int .i64 (.int .i64 (.bool .nil))))) s.tl),.val (.int .i64 s.l),.val (.bool s.o),.sl (some (3,89)) (.ah (.int .i64 (.int .i64 (.int .i64 (.int .i64 (.ints .i64 (.ah (.int .i64 (.int .i64 (.int .i64 (.int .i64 (.bool .nil))))) (.int .i64 (.int .i64 (.int .i64 (.int .i64 .nil)))))))))) y.q)]),(2,.row 58 (.ah (.int .i64 (.int .i64 (.int .i64 (.int .i64 (.bool (.bool (.int .i64 .nil))))))) (A.Ft s.aa a [.int (A.ri (A.bh s.aa a) 0),.int (A.ri (A.bh s.aa a) 1),.int (A.ri (A.bh s.aa a) 2),.int (G0.eh (A.ri (A.bh s.aa a) 3) (A.rb (A.bh s.aa a) 4) (A.rb (A.bh s.aa a) 5) (A.ri (A.bh s.aa a) 6)).m,.bool (G0.eh (A.ri (A.bh s.aa a) 3) (A.rb (A.bh s.aa a) 4) (A.rb (A.bh s.aa a) 5) (A.ri (A.bh s.aa a) 6)).t,.bool (G0.eh (A.ri (A.bh s.aa a) 3) (A.rb (A.bh s.aa a) 4) (A.rb (A.bh s.aa a) 5) (A.ri (A.bh s.aa a) 6)).b,.int (G0.eh (A.ri (A.bh s.aa a) 3) (A.rb (A.bh s.aa a) 4) (A.rb (A.bh s.aa a) 5) (A.ri (A.bh s.aa a) 6)).o]))),(3,.tok),(4,.cells 125 [.any,.any,.any,.any]),(5,.cells 125 [.sl none (.ints .i64 (G0.eh (A.ri (A.bh s.aa a) 3) (A.rb (A.bh s.aa a) 4) (A.rb (A.bh s.aa a) 5) (A.ri (A.bh s.aa a) 6)).w),.val (.bool (G0.eh (A.ri (A.bh s.aa a) 3) (A.rb (A.bh s.aa a) 4) (A.rb (A.bh s.aa a) 5) (A.ri (A.bh s.aa a) 6)).tb),.val (.bool (G0.eh (A.ri (A.bh s.aa a) 3) (A.rb (A.bh s.aa a) 4) (A.rb (A.bh s.aa a) 5) (A.ri (A.bh s.aa a) 6)).tp),.val (.bool (G0.eh (A.ri (A.bh s.aa a) 3) (A.rb (A.bh s.aa a) 4) (A.rb (A.bh s.aa a) 5) (A.ri (A.bh s.aa a) 6)).tf)])] [.one (.ptr 1 0),Any,Any,.one (.own 2)]) (GD (oZ (ri (s.aa.getD a.toNat []) 3) (rb (s.aa.getD a.toNat []) 4) (rb (s.aa.getD a.toNat []) 5) (ri (s.aa.getD a.toNat []) 6)).w) (Vi 42 1) ⟨0,s.q⟩ ?_ ?_ ?_
 ·exact qy _ _ _
 ·cbv
  repeat' (first|exact trivial|exact rfl|refine And.intro ?_ ?_)
 rintro⟨i,q⟩ hq O hO
 have hst:=fun hw hq0 h=>qL hw hq0 hq h
 have hen:=fun h=>ya hq h
 have q0:=hq.1
 have q1:=hq.2.1
 dsimp only at q0 q1
 subst hA
 generalize hA:Ar.U=A
 generalize hL:Lp _ _ _=L
 refine aR zq ?_
 repeat' (first|(refine aw zq ?_;try dsimp only)|refine ax zq ?_ (ae hL)|refine az zq ?_|refine ay ?_|refine aq ?_|refine ar ?_|refine av ?_|refine au rfl ?_|refine ai rfl ?_|refine aj rfl ?_|(refine Cd.mk ?_;cbv)|(refine aE.mk ?_;cbv)|(refine aM.mk ?_;cbv)|exact trivial|refine And.intro ?_ ?_|refine bu fun _=>?_|refine br fun _=>?_)
 all_goals first|(show L _ _ _;skip)|(clear hL hfs zq Z hq;subst hA hF hG0 hG1 hO;simp only [Ku.U,VoR.Fs.U,KsC.Kc.U,Ar.U] at * <;> (try simp only [qN,tie,jf,oX,oY,py,eF,ED,List.length_set,List.length_nil,decide_eq_true_eq,hs2] at *) <;> grind [al];done)
theorem Kr:aA Tryz.prog 74 (wA Ku.U):=by
 refine aG (af.cons zo (af.cons (dq [[none],[none],[none,none,none,some (.ints .i64 []),some (.ah (.int .i64 (.int .i64 (.int .i64 (.int .i64 (.bool .nil))))) []),none,none,none,none]] fF) af.nil rfl) rfl) Tryz.func74 rfl rfl fun xs h p hp=>?_
 unfold wA at hp
 split at hp
 ·split at hp
  ·rename_i e0
   cases hp
   have g0:=cV e0
   subst g0
   exact⟨aB rfl,fun hC _=>@LZ _ _ hC⟩
  ·cases hp
 ·cases hp
noncomputable def nL (F:Ku):aY:=fun xs h=>match xs with
 |[.one (.ptr 0 0),.one (.val (.int .i64 a)),.one (.val (.func (.func 75) ⟨[]⟩ ⟨[]⟩))]=>(match vL h with
  |some s=>some ⟨F.oR s a=true,.sa (.agg [.sl none (.ints .i64 ((F.sZ s a)).w),.val (.bool ((F.sZ s a)).tb),.val (.bool ((F.sZ s a)).tp),.val (.bool ((F.sZ s a)).tf)]),(eO (F.yf s a (F.sZ s a))),[.one (.ptr 0 0),Any,Any,.one (.own 1)]⟩
  |none=>none)
 |_=>none
theorem PF (a:Int) (s:CS) (hC:Ku.U.oR s a=true):aV [(75,Br VoR.Fs.U),(96,Ak [[none],[none],[none,none,none,some (.ints .i64 []),some (.ah (.int .i64 (.int .i64 (.int .i64 (.int .i64 (.bool .nil))))) []),none,none,none,none]] (iC KsC.Kc.U))] Tryz.f74 [.one (.ptr 0 0),.one (.val (.int .i64 a)),.one (.val (.func (.func 75) ⟨[]⟩ ⟨[]⟩))] (eO s) ⟨Ku.U.oR s a=true,.sa (.agg [.sl none (.ints .i64 ((Ku.U.sZ s a)).w),.val (.bool ((Ku.U.sZ s a)).tb),.val (.bool ((Ku.U.sZ s a)).tp),.val (.bool ((Ku.U.sZ s a)).tf)]),(eO (Ku.U.yf s a (Ku.U.sZ s a))),[.one (.ptr 0 0),Any,Any,.one (.own 1)]⟩:=by
 intro b gv
 have hk:0≤a∧a < s.aa.length∧s.aa.length≤1000∧s.q.length≤99000:=of_decide_eq_true (show decide _=true from hC)
 have hse:=fun x=>qS (l:=s.aa) x hk.1 hk.2.1
 have hs2:∀ (m:Int) (t b:Bool) (o:Int),ri ((s.aa.set a.toNat [.int (ri (s.aa.getD a.toNat []) 0),.int (ri (s.aa.getD a.toNat []) 1),.int (ri (s.aa.getD a.toNat []) 2),.int m,.bool t,.bool b,.int o]).getD a.toNat []) 0=ri (s.aa.getD a.toNat []) 0:=fun m t b o=>by rw [hse];rfl
 have hlen:=(pE (ri (s.aa.getD a.toNat []) 3) (rb (s.aa.getD a.toNat []) 4) (rb (s.aa.getD a.toNat []) 5) (ri (s.aa.getD a.toNat []) 6) 0)
 have hbad:=(CC (ri (s.aa.getD a.toNat []) 3) (rb (s.aa.getD a.toNat []) 4) (rb (s.aa.getD a.toNat []) 5) (ri (s.aa.getD a.toNat []) 6) 0)
 have hok:=fun h=>iL (d:=s) (a:=a) (r:=(oD (ri (s.aa.getD a.toNat []) 3) (rb (s.aa.getD a.toNat []) 4) (rb (s.aa.getD a.toNat []) 5) (ri (s.aa.getD a.toNat []) 6))) h
 have hno:=fun h=>rm (d:=s) (a:=a) (r:=(oD (ri (s.aa.getD a.toNat []) 3) (rb (s.aa.getD a.toNat []) 4) (rb (s.aa.getD a.toNat []) 5) (ri (s.aa.getD a.toNat []) 6))) h
 have hfs:=(af.cons DM (af.cons (dq [[none],[none],[none,none,none,some (.ints .i64 []),some (.ah (.int .i64 (.int .i64 (.int .i64 (.int .i64 (.bool .nil))))) []),none,none,none,none]] fF) af.nil rfl) rfl)
 generalize hF:Ku.U=F at hC hfs ⊢
 generalize hG0:VoR.Fs.U=G0 at hC hfs ⊢
 generalize hG1:KsC.Kc.U=G1 at hC hfs ⊢
 generalize hA:Ar.U=A
 generalize hL:Lp _ _ _=L
 obtain⟨Z,zq⟩:=aQ
 refine @aD _ _ _ _ _ _ _ (ae hL) _ _ zq rfl ?_
 repeat' (first|(refine aw zq ?_;try dsimp only)|refine ax zq ?_ (ae hL)|refine az zq ?_|refine ay ?_|refine aq ?_|refine ar ?_|refine av ?_|refine au rfl ?_|refine ai rfl ?_|refine aj rfl ?_|(refine Cd.mk ?_;cbv)|(refine aE.mk ?_;cbv)|(refine aM.mk ?_;cbv)|exact trivial|refine And.intro ?_ ?_|refine bu fun _=>?_|refine br fun _=>?_)
 all_goals first|(show L _ _ _;skip)|(clear hL hfs zq Z;subst hA hF hG0 hG1;simp only [Ku.U,VoR.Fs.U,Ar.U] at * <;> (try simp only [kY,tie,jf,eF,ED,decide_eq_true_eq,hs2] at *) <;> grind [al];done)
 subst hL
 refine ba (bx hfs) (PL s.q (ri (s.aa.getD a.toNat []) 0) (oD (ri (s.aa.getD a.toNat []) 3) (rb (s.aa.getD a.toNat []) 4) (rb (s.aa.getD a.toNat []) 5) (ri (s.aa.getD a.toNat []) 6)).w) (fun y=>cC Tryz.f74.ntmps [(0,.ptr 1 0),(1,.val (.int .i64 a)),(6,.ptr 4 0),(8,.ptr 5 0),(40,.sl none (.ints .i64 (G0.eI (A.ri (A.bh s.aa a) 3) (A.rb (A.bh s.aa a) 4) (A.rb (A.bh s.aa a) 5) (A.ri (A.bh s.aa a) 6)).w)),(41,.val (.int .i64 (A.fE (G0.eI (A.ri (A.bh s.aa a) 3) (A.rb (A.bh s.aa a) 4) (A.rb (A.bh s.aa a) 5) (A.ri (A.bh s.aa a) 6)).w))),(42,.val (.int .i64 y.i))] [(1,.cells 75 [.val (.int .i64 s.i),.val (.int .i64 s.ee),.val (.int .i64 s.er),.val (.int .i64 s.t),.val (.int .i64 s.p),.own 2,.sl none (.ints .i64 s.w),.sl none (.ints .i64 s.gn),.sl none (.ah (.int .i64 (.int .i64 (.int .i64 (.int .i64 (.bool .nil))))) s.gl),.val (.int .i64 s.ph),.sl none (.ints .i64 s.tn),.sl none (.ah (.int .i64 (.int .i64 (.int .i64 (.int .i64 (.bool .nil))))) s.tl),.val (.int .i64 s.l),.val (.bool s.o),.sl (some (3,89)) (.ah (.int .i64 (.int .i64 (.int .i64 (.int .i64 (.ints .i64 (.ah (.int .i64 (.int .i64 (.int .i64 (.int .i64 (.bool .nil))))) (.int .i64 (.int .i64 (.int .i64 (.int .i64 .nil)))))))))) y.q)]),(2,.row 58 (.ah (.int .i64 (.int .i64 (.int .i64 (.int .i64 (.bool (.bool (.int .i64 .nil))))))) (A.Ft s.aa a [.int (A.ri (A.bh s.aa a) 0),.int (A.ri (A.bh s.aa a) 1),.int (A.ri (A.bh s.aa a) 2),.int (G0.eI (A.ri (A.bh s.aa a) 3) (A.rb (A.bh s.aa a) 4) (A.rb (A.bh s.aa a) 5) (A.ri (A.bh s.aa a) 6)).m,.bool (G0.eI (A.ri (A.bh s.aa a) 3) (A.rb (A.bh s.aa a) 4) (A.rb (A.bh s.aa a) 5) (A.ri (A.bh s.aa a) 6)).t,.bool (G0.eI (A.ri (A.bh s.aa a) 3) (A.rb (A.bh s.aa a) 4) (A.rb (A.bh s.aa a) 5) (A.ri (A.bh s.aa a) 6)).b,.int (G0.eI (A.ri (A.bh s.aa a) 3) (A.rb (A.bh s.aa a) 4) (A.rb (A.bh s.aa a) 5) (A.ri (A.bh s.aa a) 6)).o]))),(3,.tok),(4,.cells 125 [.any,.any,.any,.any]),(5,.cells 125 [.sl none (.ints .i64 (G0.eI (A.ri (A.bh s.aa a) 3) (A.rb (A.bh s.aa a) 4) (A.rb (A.bh s.aa a) 5) (A.ri (A.bh s.aa a) 6)).w),.val (.bool (G0.eI (A.ri (A.bh s.aa a) 3) (A.rb (A.bh s.aa a) 4) (A.rb (A.bh s.aa a) 5) (A.ri (A.bh s.aa a) 6)).tb),.val (.bool (G0.eI (A.ri (A.bh s.aa a) 3) (A.rb (A.bh s.aa a) 4) (A.rb (A.bh s.aa a) 5) (A.ri (A.bh s.aa a) 6)).tp),.val (.bool (G0.eI (A.ri (A.bh s.aa a) 3) (A.rb (A.bh s.aa a) 4) (A.rb (A.bh s.aa a) 5) (A.ri (A.bh s.aa a) 6)).tf)])] [.one (.ptr 1 0),Any,Any,.one (.own 2)]) (GD (oD (ri (s.aa.getD a.toNat []) 3) (rb (s.aa.getD a.toNat []) 4) (rb (s.aa.getD a.toNat []) 5) (ri (s.aa.getD a.toNat []) 6)).w) (Vi 42 1) ⟨0,s.q⟩ ?_ ?_ ?_
 ·exact qy _ _ _
 ·cbv
  repeat' (first|exact trivial|exact rfl|refine And.intro ?_ ?_)
 rintro⟨i,q⟩ hq O hO
 have hst:=fun hw hq0 h=>qL hw hq0 hq h
 have hen:=fun h=>ya hq h
 have q0:=hq.1
 have q1:=hq.2.1
 dsimp only at q0 q1
 subst hA
 generalize hA:Ar.U=A
 generalize hL:Lp _ _ _=L
 refine aR zq ?_
 repeat' (first|(refine aw zq ?_;try dsimp only)|refine ax zq ?_ (ae hL)|refine az zq ?_|refine ay ?_|refine aq ?_|refine ar ?_|refine av ?_|refine au rfl ?_|refine ai rfl ?_|refine aj rfl ?_|(refine Cd.mk ?_;cbv)|(refine aE.mk ?_;cbv)|(refine aM.mk ?_;cbv)|exact trivial|refine And.intro ?_ ?_|refine bu fun _=>?_|refine br fun _=>?_)
 all_goals first|(show L _ _ _;skip)|(clear hL hfs zq Z hq;subst hA hF hG0 hG1 hO;simp only [Ku.U,VoR.Fs.U,KsC.Kc.U,Ar.U] at * <;> (try simp only [kY,tie,jf,oX,oY,py,eF,ED,List.length_set,List.length_nil,decide_eq_true_eq,hs2] at *) <;> grind [al];done)
theorem tv:aA Tryz.prog 74 (nL Ku.U):=by
 refine aG (af.cons DM (af.cons (dq [[none],[none],[none,none,none,some (.ints .i64 []),some (.ah (.int .i64 (.int .i64 (.int .i64 (.int .i64 (.bool .nil))))) []),none,none,none,none]] fF) af.nil rfl) rfl) Tryz.func74 rfl rfl fun xs h p hp=>?_
 unfold nL at hp
 split at hp
 ·split at hp
  ·rename_i e0
   cases hp
   have g0:=cV e0
   subst g0
   exact⟨aB rfl,fun hC _=>@PF _ _ hC⟩
  ·cases hp
 ·cases hp
noncomputable def xi (F:Ku):aY:=fun xs h=>match xs with
 |[.one (.ptr 0 0),.one (.val (.int .i64 a)),.one (.fn 109 3)]=>(match hp3 h with
  |some (s,p)=>some ⟨F.oR s a=true,.sa (.agg [.sl none (.ints .i64 ((F.rC p s a)).w),.val (.bool ((F.rC p s a)).tb),.val (.bool ((F.rC p s a)).tp),.val (.bool ((F.rC p s a)).tf)]),(GG (F.yf s a (F.rC p s a)) p),[.one (.ptr 0 0),Any,.one (.fn 109 3),.one (.own 1)]⟩
  |none=>none)
 |_=>none
theorem Pw (a:Int) (s:CS) (p:Int) (hC:Ku.U.oR s a=true):aV [(109,zb Ku.U),(bG 109,fy),(96,Ak [[none],[none],[none,none,none,some (.ints .i64 []),some (.ah (.int .i64 (.int .i64 (.int .i64 (.int .i64 (.bool .nil))))) []),none,none,none,none]] (iC KsC.Kc.U))] Tryz.f74 [.one (.ptr 0 0),.one (.val (.int .i64 a)),.one (.fn 109 3)] (GG s p) ⟨Ku.U.oR s a=true,.sa (.agg [.sl none (.ints .i64 ((Ku.U.rC p s a)).w),.val (.bool ((Ku.U.rC p s a)).tb),.val (.bool ((Ku.U.rC p s a)).tp),.val (.bool ((Ku.U.rC p s a)).tf)]),(GG (Ku.U.yf s a (Ku.U.rC p s a)) p),[.one (.ptr 0 0),Any,.one (.fn 109 3),.one (.own 1)]⟩:=by
 intro b gv
 have hk:0≤a∧a < s.aa.length∧s.aa.length≤1000∧s.q.length≤99000:=of_decide_eq_true (show decide _=true from hC)
 have hse:=fun x=>qS (l:=s.aa) x hk.1 hk.2.1
 have hs2:∀ (m:Int) (t b:Bool) (o:Int),ri ((s.aa.set a.toNat [.int (ri (s.aa.getD a.toNat []) 0),.int (ri (s.aa.getD a.toNat []) 1),.int (ri (s.aa.getD a.toNat []) 2),.int m,.bool t,.bool b,.int o]).getD a.toNat []) 0=ri (s.aa.getD a.toNat []) 0:=fun m t b o=>by rw [hse];rfl
 have hlen:=(pE (ri (s.aa.getD a.toNat []) 3) (rb (s.aa.getD a.toNat []) 4) (rb (s.aa.getD a.toNat []) 5) (ri (s.aa.getD a.toNat []) 6) p)
 have hbad:=(CC (ri (s.aa.getD a.toNat []) 3) (rb (s.aa.getD a.toNat []) 4) (rb (s.aa.getD a.toNat []) 5) (ri (s.aa.getD a.toNat []) 6) p)
 have hok:=fun h=>iL (d:=s) (a:=a) (r:=(oE (ri (s.aa.getD a.toNat []) 3) (rb (s.aa.getD a.toNat []) 4) (rb (s.aa.getD a.toNat []) 5) (ri (s.aa.getD a.toNat []) 6) p)) h
 have hno:=fun h=>rm (d:=s) (a:=a) (r:=(oE (ri (s.aa.getD a.toNat []) 3) (rb (s.aa.getD a.toNat []) 4) (rb (s.aa.getD a.toNat []) 5) (ri (s.aa.getD a.toNat []) 6) p)) h
 have hfs:=(af.keeps GK Hq (af.cons (dq [[none],[none],[none,none,none,some (.ints .i64 []),some (.ah (.int .i64 (.int .i64 (.int .i64 (.int .i64 (.bool .nil))))) []),none,none,none,none]] fF) af.nil rfl))
 generalize hF:Ku.U=F at hC hfs ⊢
 generalize hG0:VoR.Fs.U=G0 at hC hfs ⊢
 generalize hG1:KsC.Kc.U=G1 at hC hfs ⊢
 generalize hA:Ar.U=A
 generalize hL:Lp _ _ _=L
 obtain⟨Z,zq⟩:=aQ
 refine @aD _ _ _ _ _ _ _ (ae hL) _ _ zq rfl ?_
 repeat' (first|(refine aw zq ?_;try dsimp only)|refine ax zq ?_ (ae hL)|refine az zq ?_|refine ay ?_|refine aq ?_|refine ar ?_|refine av ?_|refine au rfl ?_|refine ai rfl ?_|refine aj rfl ?_|(refine Cd.mk ?_;cbv)|(refine aE.mk ?_;cbv)|(refine aM.mk ?_;cbv)|exact trivial|refine And.intro ?_ ?_|refine bu fun _=>?_|refine br fun _=>?_)
 all_goals first|(show L _ _ _;skip)|(clear hL hfs zq Z;subst hA hF hG0 hG1;simp only [Ku.U,VoR.Fs.U,Ar.U] at * <;> (try simp only [dx,tie,jf,eF,ED,decide_eq_true_eq,hs2] at *) <;> grind [al];done)
 subst hL
 refine ba (bx hfs) (PL s.q (ri (s.aa.getD a.toNat []) 0) (oE (ri (s.aa.getD a.toNat []) 3) (rb (s.aa.getD a.toNat []) 4) (rb (s.aa.getD a.toNat []) 5) (ri (s.aa.getD a.toNat []) 6) p).w) (fun y=>cC Tryz.f74.ntmps [(0,.ptr 1 0),(1,.val (.int .i64 a)),(6,.ptr 4 0),(8,.ptr 5 0),(40,.sl none (.ints .i64 (F.v.cB (A.ri (A.bh s.aa a) 3) (A.rb (A.bh s.aa a) 4) (A.rb (A.bh s.aa a) 5) (A.ri (A.bh s.aa a) 6) p).w)),(41,.val (.int .i64 (A.fE (F.v.cB (A.ri (A.bh s.aa a) 3) (A.rb (A.bh s.aa a) 4) (A.rb (A.bh s.aa a) 5) (A.ri (A.bh s.aa a) 6) p).w))),(42,.val (.int .i64 y.i))] [(1,.cells 75 [.val (.int .i64 s.i),.val (.int .i64 s.ee),.val (.int .i64 s.er),.val (.int .i64 s.t),.val (.int .i64 s.p),.own 2,.sl none (.ints .i64 s.w),.sl none (.ints .i64 s.gn),.sl none (.ah (.int .i64 (.int .i64 (.int .i64 (.int .i64 (.bool .nil))))) s.gl),.val (.int .i64 s.ph),.sl none (.ints .i64 s.tn),.sl none (.ah (.int .i64 (.int .i64 (.int .i64 (.int .i64 (.bool .nil))))) s.tl),.val (.int .i64 s.l),.val (.bool s.o),.sl (some (3,89)) (.ah (.int .i64 (.int .i64 (.int .i64 (.int .i64 (.ints .i64 (.ah (.int .i64 (.int .i64 (.int .i64 (.int .i64 (.bool .nil))))) (.int .i64 (.int .i64 (.int .i64 (.int .i64 .nil)))))))))) y.q)]),(2,.row 58 (.ah (.int .i64 (.int .i64 (.int .i64 (.int .i64 (.bool (.bool (.int .i64 .nil))))))) (A.Ft s.aa a [.int (A.ri (A.bh s.aa a) 0),.int (A.ri (A.bh s.aa a) 1),.int (A.ri (A.bh s.aa a) 2),.int (F.v.cB (A.ri (A.bh s.aa a) 3) (A.rb (A.bh s.aa a) 4) (A.rb (A.bh s.aa a) 5) (A.ri (A.bh s.aa a) 6) p).m,.bool (F.v.cB (A.ri (A.bh s.aa a) 3) (A.rb (A.bh s.aa a) 4) (A.rb (A.bh s.aa a) 5) (A.ri (A.bh s.aa a) 6) p).t,.bool (F.v.cB (A.ri (A.bh s.aa a) 3) (A.rb (A.bh s.aa a) 4) (A.rb (A.bh s.aa a) 5) (A.ri (A.bh s.aa a) 6) p).b,.int (F.v.cB (A.ri (A.bh s.aa a) 3) (A.rb (A.bh s.aa a) 4) (A.rb (A.bh s.aa a) 5) (A.ri (A.bh s.aa a) 6) p).o]))),(3,.tok),(4,.cells 125 [.any,.any,.any,.any]),(5,.cells 125 [.sl none (.ints .i64 (F.v.cB (A.ri (A.bh s.aa a) 3) (A.rb (A.bh s.aa a) 4) (A.rb (A.bh s.aa a) 5) (A.ri (A.bh s.aa a) 6) p).w),.val (.bool (F.v.cB (A.ri (A.bh s.aa a) 3) (A.rb (A.bh s.aa a) 4) (A.rb (A.bh s.aa a) 5) (A.ri (A.bh s.aa a) 6) p).tb),.val (.bool (F.v.cB (A.ri (A.bh s.aa a) 3) (A.rb (A.bh s.aa a) 4) (A.rb (A.bh s.aa a) 5) (A.ri (A.bh s.aa a) 6) p).tp),.val (.bool (F.v.cB (A.ri (A.bh s.aa a) 3) (A.rb (A.bh s.aa a) 4) (A.rb (A.bh s.aa a) 5) (A.ri (A.bh s.aa a) 6) p).tf)]),(7,.cells 3 [.val (.int .i64 p)])] [.one (.ptr 1 0),Any,.one (.fn 109 7),.one (.own 2)]) (GD (oE (ri (s.aa.getD a.toNat []) 3) (rb (s.aa.getD a.toNat []) 4) (rb (s.aa.getD a.toNat []) 5) (ri (s.aa.getD a.toNat []) 6) p).w) (Vi 42 1) ⟨0,s.q⟩ ?_ ?_ ?_
 ·exact qy _ _ _
 ·cbv
  repeat' (first|exact trivial|exact rfl|refine And.intro ?_ ?_)
 rintro⟨i,q⟩ hq O hO
 have hst:=fun hw hq0 h=>qL hw hq0 hq h
 have hen:=fun h=>ya hq h
 have q0:=hq.1
 have q1:=hq.2.1
 dsimp only at q0 q1
 subst hA
 generalize hA:Ar.U=A
 generalize hL:Lp _ _ _=L
 refine aR zq ?_
 repeat' (first|(refine aw zq ?_;try dsimp only)|refine ax zq ?_ (ae hL)|refine az zq ?_|refine ay ?_|refine aq ?_|refine ar ?_|refine av ?_|refine au rfl ?_|refine ai rfl ?_|refine aj rfl ?_|(refine Cd.mk ?_;cbv)|(refine aE.mk ?_;cbv)|(refine aM.mk ?_;cbv)|exact trivial|refine And.intro ?_ ?_|refine bu fun _=>?_|refine br fun _=>?_)
 all_goals first|(show L _ _ _;skip)|(clear hL hfs zq Z hq;subst hA hF hG0 hG1 hO;simp only [Ku.U,VoR.Fs.U,KsC.Kc.U,Ar.U] at * <;> (try simp only [dx,tie,jf,oX,oY,py,eF,ED,List.length_set,List.length_nil,decide_eq_true_eq,hs2] at *) <;> grind [al];done)
theorem Jh:aA Tryz.prog 74 (xi Ku.U):=by
 refine aG (af.keeps GK Hq (af.cons (dq [[none],[none],[none,none,none,some (.ints .i64 []),some (.ah (.int .i64 (.int .i64 (.int .i64 (.int .i64 (.bool .nil))))) []),none,none,none,none]] fF) af.nil rfl)) Tryz.func74 rfl rfl fun xs h p hp=>?_
 unfold xi at hp
 split at hp
 ·split at hp
  ·rename_i e0
   cases hp
   have g0:=SH e0
   subst g0
   exact⟨aB rfl,fun hC _=>@Pw _ _ _ hC⟩
  ·cases hp
 ·cases hp
end Go.Proofs.YtelhldgdnlppfaaGreat.KsU
