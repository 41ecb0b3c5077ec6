/-
  how a tie's vow turns. No condition but size.
-/
import Derived.Test.YtelhldgdnlppfaaGreatVdKsC
set_option maxHeartbeats 4000000
set_option cbv.maxSteps 4000000
set_option maxRecDepth 100000
namespace Go.Proofs.YtelhldgdnlppfaaGreat.KsU
open Go Ry ViR VoR KsS KsC
theorem uI (d:CS) (a:Int) (r:VT):(aR d a r).i=d.i:=by unfold aR;split <;> rfl
theorem lr (d:CS) (a:Int) (r:VT):(aR d a r).ee=d.ee:=by unfold aR;split <;> rfl
theorem lj (d:CS) (a:Int) (r:VT):(aR d a r).er=d.er:=by unfold aR;split <;> rfl
theorem uy (d:CS) (a:Int) (r:VT):(aR d a r).t=d.t:=by unfold aR;split <;> rfl
theorem uD (d:CS) (a:Int) (r:VT):(aR d a r).p=d.p:=by unfold aR;split <;> rfl
theorem uK (d:CS) (a:Int) (r:VT):(aR d a r).w=d.w:=by unfold aR;split <;> rfl
theorem lF (d:CS) (a:Int) (r:VT):(aR d a r).gn=d.gn:=by unfold aR;split <;> rfl
theorem lh (d:CS) (a:Int) (r:VT):(aR d a r).gl=d.gl:=by unfold aR;split <;> rfl
theorem lk (d:CS) (a:Int) (r:VT):(aR d a r).ph=d.ph:=by unfold aR;split <;> rfl
theorem lE (d:CS) (a:Int) (r:VT):(aR d a r).tn=d.tn:=by unfold aR;split <;> rfl
theorem ll (d:CS) (a:Int) (r:VT):(aR d a r).tl=d.tl:=by unfold aR;split <;> rfl
theorem ux (d:CS) (a:Int) (r:VT):(aR d a r).l=d.l:=by unfold aR;split <;> rfl
theorem uF (d:CS) (a:Int) (r:VT):(aR d a r).o=d.o:=by unfold aR;split <;> rfl
theorem iL {d:CS} {a:Int} {r:VT} (h:r.e=0):aR d a r=⟨d.i,d.ee,d.er,d.t,d.p,d.ae.set a.toNat (jb (tie d a) r),d.w,d.gn,d.gl,d.ph,d.tn,d.tl,d.l,d.o,d.q ++ r.w.map fun k=>dI (ri (tie d a) 0) (AR k)⟩:=if_pos h
theorem re {d:CS} {a:Int} {r:VT} (h:¬r.e=0):aR d a r=d:=if_neg h
theorem qU {l:List E} {a:Int} (x:E) (h0:0≤a) (h:a < l.length):(l.set a.toNat x).getD a.toNat []=x:=by
 rw [List.getD_eq_getElem?_getD,List.getElem?_set_self (by omega)]
 rfl
structure Ku where
 wT:CS→Int→VT→CS
 tc:CS→Int→VT
 sK:CS→Int→VT
 sf:CS→Int→VT
 tQ:Int→CS→Int→VT
 pg:CS→Int→Bool
 v:Fs
def Ku.U:Ku:=⟨aR,fun d a=>ue (tie d a),fun d a=>Cl (tie d a),fun d a=>oL (tie d a),fun k d a=>fv k (tie d a),fun d a=>decide (0≤a∧a < d.ae.length∧d.ae.length≤1000∧d.q.length≤99000),Fs.U⟩
noncomputable def zO (F:Ku):aZ:=fun xs h=>match xs,h with
 |[.agg [.val (.int .i64 v_m),.val (.bool v_t),.val (.bool bx),.val (.int .i64 v_o)],.one (.ptr 0 0)],[(0,.cells 3 [.val (.int .i64 p)])]=>some ⟨True,.bJ [.agg [.val (.int .i64 (F.v.cy v_m v_t bx v_o p).m),.val (.bool (F.v.cy v_m v_t bx v_o p).t),.val (.bool (F.v.cy v_m v_t bx v_o p).b),.val (.int .i64 (F.v.cy v_m v_t bx v_o p).o)],.agg [.sl none (.ints .i64 (F.v.cy v_m v_t bx v_o p).w),.val (.bool (F.v.cy v_m v_t bx v_o p).tb),.val (.bool (F.v.cy v_m v_t bx v_o p).tp),.val (.bool (F.v.cy v_m v_t bx v_o p).tf)],I (F.v.cy v_m v_t bx v_o p).e],[(0,.cells 3 [.val (.int .i64 p)])],[Any,.one (.ptr 0 0)]⟩
 |_,_=>none
theorem Wu (v_m:Int) (v_t:Bool) (bx:Bool) (v_o:Int) (p:Int):aU [(110,mc VoR.Fs.U)] Tryz.f109 [.agg [.val (.int .i64 v_m),.val (.bool v_t),.val (.bool bx),.val (.int .i64 v_o)],.one (.ptr 0 0)] [(0,.cells 3 [.val (.int .i64 p)])] ⟨True,.bJ [.agg [.val (.int .i64 (Ku.U.v.cy v_m v_t bx v_o p).m),.val (.bool (Ku.U.v.cy v_m v_t bx v_o p).t),.val (.bool (Ku.U.v.cy v_m v_t bx v_o p).b),.val (.int .i64 (Ku.U.v.cy v_m v_t bx v_o p).o)],.agg [.sl none (.ints .i64 (Ku.U.v.cy v_m v_t bx v_o p).w),.val (.bool (Ku.U.v.cy v_m v_t bx v_o p).tb),.val (.bool (Ku.U.v.cy v_m v_t bx v_o p).tp),.val (.bool (Ku.U.v.cy v_m v_t bx v_o p).tf)],I (Ku.U.v.cy v_m v_t bx v_o p).e],[(0,.cells 3 [.val (.int .i64 p)])],[Any,.one (.ptr 0 0)]⟩:=by
 intro b gv
 have hfs:=(af.cons qD af.nil rfl)
 generalize hF:Ku.U=F at hfs ⊢
 generalize hG0:VoR.Fs.U=G0 at hfs ⊢
 generalize hG1:KsC.Kc.U=G1 at hfs ⊢
 generalize hA:Ar.U=A
 generalize hL:Lp _ _ _=L
 obtain⟨Z,zq⟩:=aP
 refine @aD _ _ _ _ _ _ _ (aa hL) _ _ zq rfl ?_
 repeat' (first|(refine ay zq ?_;try dsimp only)|refine ax zq ?_ (aa hL)|refine aw zq ?_|refine az ?_|refine av ?_|refine au ?_|refine aq ?_|refine ar rfl ?_|refine ai rfl ?_|refine aj rfl ?_|(refine Cd.mk ?_;cbv)|(refine aE.mk ?_;cbv)|(refine aJ.mk ?_;cbv)|exact trivial|refine And.intro ?_ ?_|refine bn fun _=>?_|refine bo fun _=>?_)
 all_goals
  clear hL zq Z
  try clear hfs
  subst hA hF hG0 hG1
  simp only [Ku.U,VoR.Fs.U] at *
  try (grind [al])
theorem ID:aA Tryz.prog 109 (zO Ku.U):=by
 refine aG (af.cons qD af.nil rfl) Tryz.func109 rfl rfl fun xs h p hp=>?_
 unfold zO at hp
 split at hp
 ·cases hp
  exact⟨aB rfl,fun _ _=>@Wu _ _ _ _ _⟩
 ·cases hp
theorem HL:iv (zO Ku.U):=by
 intro xs h p hp
 unfold zO at hp
 split at hp
 ·cases hp
  rfl
 ·cases hp
noncomputable def ra (F:Ku):aZ:=fun xs h=>match xs with
 |[.one (.ptr 0 0),.one (.val (.int .i64 a)),.one (.val (.func (.func 76) ⟨[]⟩ ⟨[]⟩))]=>(match vV h with
  |some s=>some ⟨F.pg s a=true,.sa (.agg [.sl none (.ints .i64 ((F.sK s a)).w),.val (.bool ((F.sK s a)).tb),.val (.bool ((F.sK s a)).tp),.val (.bool ((F.sK s a)).tf)]),(eN (F.wT s a (F.sK s a))),[.one (.ptr 0 0),Any,Any,.one (.own 1)]⟩
  |none=>none)
 |_=>none
theorem Pm (a:Int) (s:CS) (hC:Ku.U.pg s a=true):aU [(76,sd VoR.Fs.U),(96,sC [[none],[none],[none,none,none,some (.ints .i64 []),some (.ah (.int .i64 (.int .i64 (.int .i64 (.int .i64 (.bool .nil))))) []),none,none,none,none]] (gN KsC.Kc.U))] Tryz.f74 [.one (.ptr 0 0),.one (.val (.int .i64 a)),.one (.val (.func (.func 76) ⟨[]⟩ ⟨[]⟩))] (eN s) ⟨Ku.U.pg s a=true,.sa (.agg [.sl none (.ints .i64 ((Ku.U.sK s a)).w),.val (.bool ((Ku.U.sK s a)).tb),.val (.bool ((Ku.U.sK s a)).tp),.val (.bool ((Ku.U.sK s a)).tf)]),(eN (Ku.U.wT s a (Ku.U.sK s a))),[.one (.ptr 0 0),Any,Any,.one (.own 1)]⟩:=by
 intro b gv
 have hk:0≤a∧a < s.ae.length∧s.ae.length≤1000∧s.q.length≤99000:=of_decide_eq_true (show decide _=true from hC)
 have hse:=fun x=>qU (l:=s.ae) x hk.1 hk.2.1
 have hs2:∀ (m:Int) (t b:Bool) (o:Int),ri ((s.ae.set a.toNat [.int (ri (s.ae.getD a.toNat []) 0),.int (ri (s.ae.getD a.toNat []) 1),.int (ri (s.ae.getD a.toNat []) 2),.int m,.bool t,.bool b,.int o]).getD a.toNat []) 0=ri (s.ae.getD a.toNat []) 0:=fun m t b o=>by rw [hse];rfl
 have hlen:=(pU (ri (s.ae.getD a.toNat []) 3) (rb (s.ae.getD a.toNat []) 4) (rb (s.ae.getD a.toNat []) 5) (ri (s.ae.getD a.toNat []) 6) 0)
 have hbad:=(Db (ri (s.ae.getD a.toNat []) 3) (rb (s.ae.getD a.toNat []) 4) (rb (s.ae.getD a.toNat []) 5) (ri (s.ae.getD a.toNat []) 6) 0)
 have hok:=fun h=>iL (d:=s) (a:=a) (r:=(pP (ri (s.ae.getD a.toNat []) 3) (rb (s.ae.getD a.toNat []) 4) (rb (s.ae.getD a.toNat []) 5) (ri (s.ae.getD a.toNat []) 6))) h
 have hno:=fun h=>re (d:=s) (a:=a) (r:=(pP (ri (s.ae.getD a.toNat []) 3) (rb (s.ae.getD a.toNat []) 4) (rb (s.ae.getD a.toNat []) 5) (ri (s.ae.getD a.toNat []) 6))) h
 have hfs:=(af.cons vp (af.cons (cu [[none],[none],[none,none,none,some (.ints .i64 []),some (.ah (.int .i64 (.int .i64 (.int .i64 (.int .i64 (.bool .nil))))) []),none,none,none,none]] fK) af.nil rfl) rfl)
 generalize hF:Ku.U=F at hC hfs ⊢
 generalize hG0:VoR.Fs.U=G0 at hC hfs ⊢
 generalize hG1:KsC.Kc.U=G1 at hC hfs ⊢
 generalize hA:Ar.U=A
 generalize hL:Lp _ _ _=L
 obtain⟨Z,zq⟩:=aP
 refine @aD _ _ _ _ _ _ _ (aa hL) _ _ zq rfl ?_
 repeat' (first|(refine ay zq ?_;try dsimp only)|refine ax zq ?_ (aa hL)|refine aw zq ?_|refine az ?_|refine av ?_|refine au ?_|refine aq ?_|refine ar rfl ?_|refine ai rfl ?_|refine aj rfl ?_|(refine Cd.mk ?_;cbv)|(refine aE.mk ?_;cbv)|(refine aJ.mk ?_;cbv)|exact trivial|refine And.intro ?_ ?_|refine bn fun _=>?_|refine bo fun _=>?_)
 all_goals first|(show L _ _ _;skip)|(clear hL hfs zq Z;subst hA hF hG0 hG1;simp only [Ku.U,VoR.Fs.U,Ar.U] at * <;> (try simp only [Cl,tie,jb,dI,AR,decide_eq_true_eq,hs2] at *) <;> grind [al];done)
 subst hL
 refine aX (br hfs) (PT s.q (ri (s.ae.getD a.toNat []) 0) (pP (ri (s.ae.getD a.toNat []) 3) (rb (s.ae.getD a.toNat []) 4) (rb (s.ae.getD a.toNat []) 5) (ri (s.ae.getD a.toNat []) 6)).w) (fun y=>cg Tryz.f74.ntmps [(0,.ptr 1 0),(1,.val (.int .i64 a)),(6,.ptr 4 0),(8,.ptr 5 0),(40,.sl none (.ints .i64 (G0.eM (A.ri (A.bh s.ae a) 3) (A.rb (A.bh s.ae a) 4) (A.rb (A.bh s.ae a) 5) (A.ri (A.bh s.ae a) 6)).w)),(41,.val (.int .i64 (A.fN (G0.eM (A.ri (A.bh s.ae a) 3) (A.rb (A.bh s.ae a) 4) (A.rb (A.bh s.ae a) 5) (A.ri (A.bh s.ae a) 6)).w))),(42,.val (.int .i64 y.i))] [(1,.cells 75 [.val (.int .i64 s.i),.val (.int .i64 s.ee),.val (.int .i64 s.er),.val (.int .i64 s.t),.val (.int .i64 s.p),.own 2,.sl none (.ints .i64 s.w),.sl none (.ints .i64 s.gn),.sl none (.ah (.int .i64 (.int .i64 (.int .i64 (.int .i64 (.bool .nil))))) s.gl),.val (.int .i64 s.ph),.sl none (.ints .i64 s.tn),.sl none (.ah (.int .i64 (.int .i64 (.int .i64 (.int .i64 (.bool .nil))))) s.tl),.val (.int .i64 s.l),.val (.bool s.o),.sl (some (3,89)) (.ah (.int .i64 (.int .i64 (.int .i64 (.int .i64 (.ints .i64 (.ah (.int .i64 (.int .i64 (.int .i64 (.int .i64 (.bool .nil))))) (.int .i64 (.int .i64 (.int .i64 (.int .i64 .nil)))))))))) y.q)]),(2,.row 58 (.ah (.int .i64 (.int .i64 (.int .i64 (.int .i64 (.bool (.bool (.int .i64 .nil))))))) (A.Gv s.ae a [.int (A.ri (A.bh s.ae a) 0),.int (A.ri (A.bh s.ae a) 1),.int (A.ri (A.bh s.ae a) 2),.int (G0.eM (A.ri (A.bh s.ae a) 3) (A.rb (A.bh s.ae a) 4) (A.rb (A.bh s.ae a) 5) (A.ri (A.bh s.ae a) 6)).m,.bool (G0.eM (A.ri (A.bh s.ae a) 3) (A.rb (A.bh s.ae a) 4) (A.rb (A.bh s.ae a) 5) (A.ri (A.bh s.ae a) 6)).t,.bool (G0.eM (A.ri (A.bh s.ae a) 3) (A.rb (A.bh s.ae a) 4) (A.rb (A.bh s.ae a) 5) (A.ri (A.bh s.ae a) 6)).b,.int (G0.eM (A.ri (A.bh s.ae a) 3) (A.rb (A.bh s.ae a) 4) (A.rb (A.bh s.ae a) 5) (A.ri (A.bh s.ae a) 6)).o]))),(3,.tok),(4,.cells 125 [.any,.any,.any,.any]),(5,.cells 125 [.sl none (.ints .i64 (G0.eM (A.ri (A.bh s.ae a) 3) (A.rb (A.bh s.ae a) 4) (A.rb (A.bh s.ae a) 5) (A.ri (A.bh s.ae a) 6)).w),.val (.bool (G0.eM (A.ri (A.bh s.ae a) 3) (A.rb (A.bh s.ae a) 4) (A.rb (A.bh s.ae a) 5) (A.ri (A.bh s.ae a) 6)).tb),.val (.bool (G0.eM (A.ri (A.bh s.ae a) 3) (A.rb (A.bh s.ae a) 4) (A.rb (A.bh s.ae a) 5) (A.ri (A.bh s.ae a) 6)).tp),.val (.bool (G0.eM (A.ri (A.bh s.ae a) 3) (A.rb (A.bh s.ae a) 4) (A.rb (A.bh s.ae a) 5) (A.ri (A.bh s.ae a) 6)).tf)])] [.one (.ptr 1 0),Any,Any,.one (.own 2)]) (GF (pP (ri (s.ae.getD a.toNat []) 3) (rb (s.ae.getD a.toNat []) 4) (rb (s.ae.getD a.toNat []) 5) (ri (s.ae.getD a.toNat []) 6)).w) (Qk 42 1) ⟨0,s.q⟩ ?_ ?_ ?_
 ·exact nR _ _ _
 ·cbv
  repeat' (first|exact trivial|exact rfl|refine And.intro ?_ ?_)
 rintro⟨i,q⟩ hq O hO
 have hst:=fun hw hq0 h=>ou hw hq0 hq h
 have hen:=fun h=>sJ hq h
 have q0:=hq.1
 have q1:=hq.2.1
 dsimp only at q0 q1
 subst hA
 generalize hA:Ar.U=A
 generalize hL:Lp _ _ _=L
 refine aO zq ?_
 repeat' (first|(refine ay zq ?_;try dsimp only)|refine ax zq ?_ (aa hL)|refine aw zq ?_|refine az ?_|refine av ?_|refine au ?_|refine aq ?_|refine ar rfl ?_|refine ai rfl ?_|refine aj rfl ?_|(refine Cd.mk ?_;cbv)|(refine aE.mk ?_;cbv)|(refine aJ.mk ?_;cbv)|exact trivial|refine And.intro ?_ ?_|refine bn fun _=>?_|refine bo fun _=>?_)
 all_goals first|(show L _ _ _;skip)|(clear hL hfs zq Z hq;subst hA hF hG0 hG1 hO;simp only [Ku.U,VoR.Fs.U,KsC.Kc.U,Ar.U] at * <;> (try simp only [Cl,tie,jb,kY,pG,px,dI,AR,List.length_set,List.length_nil,decide_eq_true_eq,hs2] at *) <;> grind [al];done)
theorem sA:aA Tryz.prog 74 (ra Ku.U):=by
 refine aG (af.cons vp (af.cons (cu [[none],[none],[none,none,none,some (.ints .i64 []),some (.ah (.int .i64 (.int .i64 (.int .i64 (.int .i64 (.bool .nil))))) []),none,none,none,none]] fK) af.nil rfl) rfl) Tryz.func74 rfl rfl fun xs h p hp=>?_
 unfold ra at hp
 split at hp
 ·split at hp
  ·rename_i e0
   cases hp
   have g0:=cT e0
   subst g0
   exact⟨aB rfl,fun hC _=>@Pm _ _ hC⟩
  ·cases hp
 ·cases hp
noncomputable def wE (F:Ku):aZ:=fun xs h=>match xs with
 |[.one (.ptr 0 0),.one (.val (.int .i64 a)),.one (.val (.func (.func 141) ⟨[]⟩ ⟨[]⟩))]=>(match vV h with
  |some s=>some ⟨F.pg s a=true,.sa (.agg [.sl none (.ints .i64 ((F.tc s a)).w),.val (.bool ((F.tc s a)).tb),.val (.bool ((F.tc s a)).tp),.val (.bool ((F.tc s a)).tf)]),(eN (F.wT s a (F.tc s a))),[.one (.ptr 0 0),Any,Any,.one (.own 1)]⟩
  |none=>none)
 |_=>none
theorem ND (a:Int) (s:CS) (hC:Ku.U.pg s a=true):aU [(141,wx VoR.Fs.U),(96,sC [[none],[none],[none,none,none,some (.ints .i64 []),some (.ah (.int .i64 (.int .i64 (.int .i64 (.int .i64 (.bool .nil))))) []),none,none,none,none]] (gN KsC.Kc.U))] Tryz.f74 [.one (.ptr 0 0),.one (.val (.int .i64 a)),.one (.val (.func (.func 141) ⟨[]⟩ ⟨[]⟩))] (eN s) ⟨Ku.U.pg s a=true,.sa (.agg [.sl none (.ints .i64 ((Ku.U.tc s a)).w),.val (.bool ((Ku.U.tc s a)).tb),.val (.bool ((Ku.U.tc s a)).tp),.val (.bool ((Ku.U.tc s a)).tf)]),(eN (Ku.U.wT s a (Ku.U.tc s a))),[.one (.ptr 0 0),Any,Any,.one (.own 1)]⟩:=by
 intro b gv
 have hk:0≤a∧a < s.ae.length∧s.ae.length≤1000∧s.q.length≤99000:=of_decide_eq_true (show decide _=true from hC)
 have hse:=fun x=>qU (l:=s.ae) x hk.1 hk.2.1
 have hs2:∀ (m:Int) (t b:Bool) (o:Int),ri ((s.ae.set a.toNat [.int (ri (s.ae.getD a.toNat []) 0),.int (ri (s.ae.getD a.toNat []) 1),.int (ri (s.ae.getD a.toNat []) 2),.int m,.bool t,.bool b,.int o]).getD a.toNat []) 0=ri (s.ae.getD a.toNat []) 0:=fun m t b o=>by rw [hse];rfl
 have hlen:=(pU (ri (s.ae.getD a.toNat []) 3) (rb (s.ae.getD a.toNat []) 4) (rb (s.ae.getD a.toNat []) 5) (ri (s.ae.getD a.toNat []) 6) 0)
 have hbad:=(Db (ri (s.ae.getD a.toNat []) 3) (rb (s.ae.getD a.toNat []) 4) (rb (s.ae.getD a.toNat []) 5) (ri (s.ae.getD a.toNat []) 6) 0)
 have hok:=fun h=>iL (d:=s) (a:=a) (r:=(oS (ri (s.ae.getD a.toNat []) 3) (rb (s.ae.getD a.toNat []) 4) (rb (s.ae.getD a.toNat []) 5) (ri (s.ae.getD a.toNat []) 6))) h
 have hno:=fun h=>re (d:=s) (a:=a) (r:=(oS (ri (s.ae.getD a.toNat []) 3) (rb (s.ae.getD a.toNat []) 4) (rb (s.ae.getD a.toNat []) 5) (ri (s.ae.getD a.toNat []) 6))) h
 have hfs:=(af.cons yU (af.cons (cu [[none],[none],[none,none,none,some (.ints .i64 []),some (.ah (.int .i64 (.int .i64 (.int .i64 (.int .i64 (.bool .nil))))) []),none,none,none,none]] fK) af.nil rfl) rfl)
 generalize hF:Ku.U=F at hC hfs ⊢
 generalize hG0:VoR.Fs.U=G0 at hC hfs ⊢
 generalize hG1:KsC.Kc.U=G1 at hC hfs ⊢
 generalize hA:Ar.U=A
 generalize hL:Lp _ _ _=L
 obtain⟨Z,zq⟩:=aP
 refine @aD _ _ _ _ _ _ _ (aa hL) _ _ zq rfl ?_
 repeat' (first|(refine ay zq ?_;try dsimp only)|refine ax zq ?_ (aa hL)|refine aw zq ?_|refine az ?_|refine av ?_|refine au ?_|refine aq ?_|refine ar rfl ?_|refine ai rfl ?_|refine aj rfl ?_|(refine Cd.mk ?_;cbv)|(refine aE.mk ?_;cbv)|(refine aJ.mk ?_;cbv)|exact trivial|refine And.intro ?_ ?_|refine bn fun _=>?_|refine bo fun _=>?_)
 all_goals first|(show L _ _ _;skip)|(clear hL hfs zq Z;subst hA hF hG0 hG1;simp only [Ku.U,VoR.Fs.U,Ar.U] at * <;> (try simp only [ue,tie,jb,dI,AR,decide_eq_true_eq,hs2] at *) <;> grind [al];done)
 subst hL
 refine aX (br hfs) (PT s.q (ri (s.ae.getD a.toNat []) 0) (oS (ri (s.ae.getD a.toNat []) 3) (rb (s.ae.getD a.toNat []) 4) (rb (s.ae.getD a.toNat []) 5) (ri (s.ae.getD a.toNat []) 6)).w) (fun y=>cg Tryz.f74.ntmps [(0,.ptr 1 0),(1,.val (.int .i64 a)),(6,.ptr 4 0),(8,.ptr 5 0),(40,.sl none (.ints .i64 (G0.eh (A.ri (A.bh s.ae a) 3) (A.rb (A.bh s.ae a) 4) (A.rb (A.bh s.ae a) 5) (A.ri (A.bh s.ae a) 6)).w)),(41,.val (.int .i64 (A.fN (G0.eh (A.ri (A.bh s.ae a) 3) (A.rb (A.bh s.ae a) 4) (A.rb (A.bh s.ae a) 5) (A.ri (A.bh s.ae a) 6)).w))),(42,.val (.int .i64 y.i))] [(1,.cells 75 [.val (.int .i64 s.i),.val (.int .i64 s.ee),.val (.int .i64 s.er),.val (.int .i64 s.t),.val (.int .i64 s.p),.own 2,.sl none (.ints .i64 s.w),.sl none (.ints .i64 s.gn),.sl none (.ah (.int .i64 (.int .i64 (.int .i64 (.int .i64 (.bool .nil))))) s.gl),.val (.int .i64 s.ph),.sl none (.ints .i64 s.tn),.sl none (.ah (.int .i64 (.int .i64 (.int .i64 (.int .i64 (.bool .nil))))) s.tl),.val (.int .i64 s.l),.val (.bool s.o),.sl (some (3,89)) (.ah (.int .i64 (.int .i64 (.int .i64 (.int .i64 (.ints .i64 (.ah (.int .i64 (.int .i64 (.int .i64 (.int .i64 (.bool .nil))))) (.int .i64 (.int .i64 (.int .i64 (.int .i64 .nil)))))))))) y.q)]),(2,.row 58 (.ah (.int .i64 (.int .i64 (.int .i64 (.int .i64 (.bool (.bool (.int .i64 .nil))))))) (A.Gv s.ae a [.int (A.ri (A.bh s.ae a) 0),.int (A.ri (A.bh s.ae a) 1),.int (A.ri (A.bh s.ae a) 2),.int (G0.eh (A.ri (A.bh s.ae a) 3) (A.rb (A.bh s.ae a) 4) (A.rb (A.bh s.ae a) 5) (A.ri (A.bh s.ae a) 6)).m,.bool (G0.eh (A.ri (A.bh s.ae a) 3) (A.rb (A.bh s.ae a) 4) (A.rb (A.bh s.ae a) 5) (A.ri (A.bh s.ae a) 6)).t,.bool (G0.eh (A.ri (A.bh s.ae a) 3) (A.rb (A.bh s.ae a) 4) (A.rb (A.bh s.ae a) 5) (A.ri (A.bh s.ae a) 6)).b,.int (G0.eh (A.ri (A.bh s.ae a) 3) (A.rb (A.bh s.ae a) 4) (A.rb (A.bh s.ae a) 5) (A.ri (A.bh s.ae a) 6)).o]))),(3,.tok),(4,.cells 125 [.any,.any,.any,.any]),(5,.cells 125 [.sl none (.ints .i64 (G0.eh (A.ri (A.bh s.ae a) 3) (A.rb (A.bh s.ae a) 4) (A.rb (A.bh s.ae a) 5) (A.ri (A.bh s.ae a) 6)).w),.val (.bool (G0.eh (A.ri (A.bh s.ae a) 3) (A.rb (A.bh s.ae a) 4) (A.rb (A.bh s.ae a) 5) (A.ri (A.bh s.ae a) 6)).tb),.val (.bool (G0.eh (A.ri (A.bh s.ae a) 3) (A.rb (A.bh s.ae a) 4) (A.rb (A.bh s.ae a) 5) (A.ri (A.bh s.ae a) 6)).tp),.val (.bool (G0.eh (A.ri (A.bh s.ae a) 3) (A.rb (A.bh s.ae a) 4) (A.rb (A.bh s.ae a) 5) (A.ri (A.bh s.ae a) 6)).tf)])] [.one (.ptr 1 0),Any,Any,.one (.own 2)]) (GF (oS (ri (s.ae.getD a.toNat []) 3) (rb (s.ae.getD a.toNat []) 4) (rb (s.ae.getD a.toNat []) 5) (ri (s.ae.getD a.toNat []) 6)).w) (Qk 42 1) ⟨0,s.q⟩ ?_ ?_ ?_
 ·exact nR _ _ _
 ·cbv
  repeat' (first|exact trivial|exact rfl|refine And.intro ?_ ?_)
 rintro⟨i,q⟩ hq O hO
 have hst:=fun hw hq0 h=>ou hw hq0 hq h
 have hen:=fun h=>sJ hq h
 have q0:=hq.1
 have q1:=hq.2.1
 dsimp only at q0 q1
 subst hA
 generalize hA:Ar.U=A
 generalize hL:Lp _ _ _=L
 refine aO zq ?_
 repeat' (first|(refine ay zq ?_;try dsimp only)|refine ax zq ?_ (aa hL)|refine aw zq ?_|refine az ?_|refine av ?_|refine au ?_|refine aq ?_|refine ar rfl ?_|refine ai rfl ?_|refine aj rfl ?_|(refine Cd.mk ?_;cbv)|(refine aE.mk ?_;cbv)|(refine aJ.mk ?_;cbv)|exact trivial|refine And.intro ?_ ?_|refine bn fun _=>?_|refine bo fun _=>?_)
 all_goals first|(show L _ _ _;skip)|(clear hL hfs zq Z hq;subst hA hF hG0 hG1 hO;simp only [Ku.U,VoR.Fs.U,KsC.Kc.U,Ar.U] at * <;> (try simp only [ue,tie,jb,kY,pG,px,dI,AR,List.length_set,List.length_nil,decide_eq_true_eq,hs2] at *) <;> grind [al];done)
theorem GY:aA Tryz.prog 74 (wE Ku.U):=by
 refine aG (af.cons yU (af.cons (cu [[none],[none],[none,none,none,some (.ints .i64 []),some (.ah (.int .i64 (.int .i64 (.int .i64 (.int .i64 (.bool .nil))))) []),none,none,none,none]] fK) af.nil rfl) rfl) Tryz.func74 rfl rfl fun xs h p hp=>?_
 unfold wE at hp
 split at hp
 ·split at hp
  ·rename_i e0
   cases hp
   have g0:=cT e0
   subst g0
   exact⟨aB rfl,fun hC _=>@ND _ _ hC⟩
  ·cases hp
 ·cases hp
noncomputable def nr (F:Ku):aZ:=fun xs h=>match xs with
 |[.one (.ptr 0 0),.one (.val (.int .i64 a)),.one (.val (.func (.func 75) ⟨[]⟩ ⟨[]⟩))]=>(match vV h with
  |some s=>some ⟨F.pg s a=true,.sa (.agg [.sl none (.ints .i64 ((F.sf s a)).w),.val (.bool ((F.sf s a)).tb),.val (.bool ((F.sf s a)).tp),.val (.bool ((F.sf s a)).tf)]),(eN (F.wT s a (F.sf s a))),[.one (.ptr 0 0),Any,Any,.one (.own 1)]⟩
  |none=>none)
 |_=>none
theorem PY (a:Int) (s:CS) (hC:Ku.U.pg s a=true):aU [(75,Bb VoR.Fs.U),(96,sC [[none],[none],[none,none,none,some (.ints .i64 []),some (.ah (.int .i64 (.int .i64 (.int .i64 (.int .i64 (.bool .nil))))) []),none,none,none,none]] (gN KsC.Kc.U))] Tryz.f74 [.one (.ptr 0 0),.one (.val (.int .i64 a)),.one (.val (.func (.func 75) ⟨[]⟩ ⟨[]⟩))] (eN s) ⟨Ku.U.pg s a=true,.sa (.agg [.sl none (.ints .i64 ((Ku.U.sf s a)).w),.val (.bool ((Ku.U.sf s a)).tb),.val (.bool ((Ku.U.sf s a)).tp),.val (.bool ((Ku.U.sf s a)).tf)]),(eN (Ku.U.wT s a (Ku.U.sf s a))),[.one (.ptr 0 0),Any,Any,.one (.own 1)]⟩:=by
 intro b gv
 have hk:0≤a∧a < s.ae.length∧s.ae.length≤1000∧s.q.length≤99000:=of_decide_eq_true (show decide _=true from hC)
 have hse:=fun x=>qU (l:=s.ae) x hk.1 hk.2.1
 have hs2:∀ (m:Int) (t b:Bool) (o:Int),ri ((s.ae.set a.toNat [.int (ri (s.ae.getD a.toNat []) 0),.int (ri (s.ae.getD a.toNat []) 1),.int (ri (s.ae.getD a.toNat []) 2),.int m,.bool t,.bool b,.int o]).getD a.toNat []) 0=ri (s.ae.getD a.toNat []) 0:=fun m t b o=>by rw [hse];rfl
 have hlen:=(pU (ri (s.ae.getD a.toNat []) 3) (rb (s.ae.getD a.toNat []) 4) (rb (s.ae.getD a.toNat []) 5) (ri (s.ae.getD a.toNat []) 6) 0)
 have hbad:=(Db (ri (s.ae.getD a.toNat []) 3) (rb (s.ae.getD a.toNat []) 4) (rb (s.ae.getD a.toNat []) 5) (ri (s.ae.getD a.toNat []) 6) 0)
 have hok:=fun h=>iL (d:=s) (a:=a) (r:=(pW (ri (s.ae.getD a.toNat []) 3) (rb (s.ae.getD a.toNat []) 4) (rb (s.ae.getD a.toNat []) 5) (ri (s.ae.getD a.toNat []) 6))) h
 have hno:=fun h=>re (d:=s) (a:=a) (r:=(pW (ri (s.ae.getD a.toNat []) 3) (rb (s.ae.getD a.toNat []) 4) (rb (s.ae.getD a.toNat []) 5) (ri (s.ae.getD a.toNat []) 6))) h
 have hfs:=(af.cons CX (af.cons (cu [[none],[none],[none,none,none,some (.ints .i64 []),some (.ah (.int .i64 (.int .i64 (.int .i64 (.int .i64 (.bool .nil))))) []),none,none,none,none]] fK) af.nil rfl) rfl)
 generalize hF:Ku.U=F at hC hfs ⊢
 generalize hG0:VoR.Fs.U=G0 at hC hfs ⊢
 generalize hG1:KsC.Kc.U=G1 at hC hfs ⊢
 generalize hA:Ar.U=A
 generalize hL:Lp _ _ _=L
 obtain⟨Z,zq⟩:=aP
 refine @aD _ _ _ _ _ _ _ (aa hL) _ _ zq rfl ?_
 repeat' (first|(refine ay zq ?_;try dsimp only)|refine ax zq ?_ (aa hL)|refine aw zq ?_|refine az ?_|refine av ?_|refine au ?_|refine aq ?_|refine ar rfl ?_|refine ai rfl ?_|refine aj rfl ?_|(refine Cd.mk ?_;cbv)|(refine aE.mk ?_;cbv)|(refine aJ.mk ?_;cbv)|exact trivial|refine And.intro ?_ ?_|refine bn fun _=>?_|refine bo fun _=>?_)
 all_goals first|(show L _ _ _;skip)|(clear hL hfs zq Z;subst hA hF hG0 hG1;simp only [Ku.U,VoR.Fs.U,Ar.U] at * <;> (try simp only [oL,tie,jb,dI,AR,decide_eq_true_eq,hs2] at *) <;> grind [al];done)
 subst hL
 refine aX (br hfs) (PT s.q (ri (s.ae.getD a.toNat []) 0) (pW (ri (s.ae.getD a.toNat []) 3) (rb (s.ae.getD a.toNat []) 4) (rb (s.ae.getD a.toNat []) 5) (ri (s.ae.getD a.toNat []) 6)).w) (fun y=>cg Tryz.f74.ntmps [(0,.ptr 1 0),(1,.val (.int .i64 a)),(6,.ptr 4 0),(8,.ptr 5 0),(40,.sl none (.ints .i64 (G0.eH (A.ri (A.bh s.ae a) 3) (A.rb (A.bh s.ae a) 4) (A.rb (A.bh s.ae a) 5) (A.ri (A.bh s.ae a) 6)).w)),(41,.val (.int .i64 (A.fN (G0.eH (A.ri (A.bh s.ae a) 3) (A.rb (A.bh s.ae a) 4) (A.rb (A.bh s.ae a) 5) (A.ri (A.bh s.ae a) 6)).w))),(42,.val (.int .i64 y.i))] [(1,.cells 75 [.val (.int .i64 s.i),.val (.int .i64 s.ee),.val (.int .i64 s.er),.val (.int .i64 s.t),.val (.int .i64 s.p),.own 2,.sl none (.ints .i64 s.w),.sl none (.ints .i64 s.gn),.sl none (.ah (.int .i64 (.int .i64 (.int .i64 (.int .i64 (.bool .nil))))) s.gl),.val (.int .i64 s.ph),.sl none (.ints .i64 s.tn),.sl none (.ah (.int .i64 (.int .i64 (.int .i64 (.int .i64 (.bool .nil))))) s.tl),.val (.int .i64 s.l),.val (.bool s.o),.sl (some (3,89)) (.ah (.int .i64 (.int .i64 (.int .i64 (.int .i64 (.ints .i64 (.ah (.int .i64 (.int .i64 (.int .i64 (.int .i64 (.bool .nil))))) (.int .i64 (.int .i64 (.int .i64 (.int .i64 .nil)))))))))) y.q)]),(2,.row 58 (.ah (.int .i64 (.int .i64 (.int .i64 (.int .i64 (.bool (.bool (.int .i64 .nil))))))) (A.Gv s.ae a [.int (A.ri (A.bh s.ae a) 0),.int (A.ri (A.bh s.ae a) 1),.int (A.ri (A.bh s.ae a) 2),.int (G0.eH (A.ri (A.bh s.ae a) 3) (A.rb (A.bh s.ae a) 4) (A.rb (A.bh s.ae a) 5) (A.ri (A.bh s.ae a) 6)).m,.bool (G0.eH (A.ri (A.bh s.ae a) 3) (A.rb (A.bh s.ae a) 4) (A.rb (A.bh s.ae a) 5) (A.ri (A.bh s.ae a) 6)).t,.bool (G0.eH (A.ri (A.bh s.ae a) 3) (A.rb (A.bh s.ae a) 4) (A.rb (A.bh s.ae a) 5) (A.ri (A.bh s.ae a) 6)).b,.int (G0.eH (A.ri (A.bh s.ae a) 3) (A.rb (A.bh s.ae a) 4) (A.rb (A.bh s.ae a) 5) (A.ri (A.bh s.ae a) 6)).o]))),(3,.tok),(4,.cells 125 [.any,.any,.any,.any]),(5,.cells 125 [.sl none (.ints .i64 (G0.eH (A.ri (A.bh s.ae a) 3) (A.rb (A.bh s.ae a) 4) (A.rb (A.bh s.ae a) 5) (A.ri (A.bh s.ae a) 6)).w),.val (.bool (G0.eH (A.ri (A.bh s.ae a) 3) (A.rb (A.bh s.ae a) 4) (A.rb (A.bh s.ae a) 5) (A.ri (A.bh s.ae a) 6)).tb),.val (.bool (G0.eH (A.ri (A.bh s.ae a) 3) (A.rb (A.bh s.ae a) 4) (A.rb (A.bh s.ae a) 5) (A.ri (A.bh s.ae a) 6)).tp),.val (.bool (G0.eH (A.ri (A.bh s.ae a) 3) (A.rb (A.bh s.ae a) 4) (A.rb (A.bh s.ae a) 5) (A.ri (A.bh s.ae a) 6)).tf)])] [.one (.ptr 1 0),Any,Any,.one (.own 2)]) (GF (pW (ri (s.ae.getD a.toNat []) 3) (rb (s.ae.getD a.toNat []) 4) (rb (s.ae.getD a.toNat []) 5) (ri (s.ae.getD a.toNat []) 6)).w) (Qk 42 1) ⟨0,s.q⟩ ?_ ?_ ?_
 ·exact nR _ _ _
 ·cbv
  repeat' (first|exact trivial|exact rfl|refine And.intro ?_ ?_)
 rintro⟨i,q⟩ hq O hO
 have hst:=fun hw hq0 h=>ou hw hq0 hq h
 have hen:=fun h=>sJ hq h
 have q0:=hq.1
 have q1:=hq.2.1
 dsimp only at q0 q1
 subst hA
 generalize hA:Ar.U=A
 generalize hL:Lp _ _ _=L
 refine aO zq ?_
 repeat' (first|(refine ay zq ?_;try dsimp only)|refine ax zq ?_ (aa hL)|refine aw zq ?_|refine az ?_|refine av ?_|refine au ?_|refine aq ?_|refine ar rfl ?_|refine ai rfl ?_|refine aj rfl ?_|(refine Cd.mk ?_;cbv)|(refine aE.mk ?_;cbv)|(refine aJ.mk ?_;cbv)|exact trivial|refine And.intro ?_ ?_|refine bn fun _=>?_|refine bo fun _=>?_)
 all_goals first|(show L _ _ _;skip)|(clear hL hfs zq Z hq;subst hA hF hG0 hG1 hO;simp only [Ku.U,VoR.Fs.U,KsC.Kc.U,Ar.U] at * <;> (try simp only [oL,tie,jb,kY,pG,px,dI,AR,List.length_set,List.length_nil,decide_eq_true_eq,hs2] at *) <;> grind [al];done)
theorem tM:aA Tryz.prog 74 (nr Ku.U):=by
 refine aG (af.cons CX (af.cons (cu [[none],[none],[none,none,none,some (.ints .i64 []),some (.ah (.int .i64 (.int .i64 (.int .i64 (.int .i64 (.bool .nil))))) []),none,none,none,none]] fK) af.nil rfl) rfl) Tryz.func74 rfl rfl fun xs h p hp=>?_
 unfold nr at hp
 split at hp
 ·split at hp
  ·rename_i e0
   cases hp
   have g0:=cT e0
   subst g0
   exact⟨aB rfl,fun hC _=>@PY _ _ hC⟩
  ·cases hp
 ·cases hp
noncomputable def wN (F:Ku):aZ:=fun xs h=>match xs with
 |[.one (.ptr 0 0),.one (.val (.int .i64 a)),.one (.fn 109 3)]=>(match hp3 h with
  |some (s,p)=>some ⟨F.pg s a=true,.sa (.agg [.sl none (.ints .i64 ((F.tQ p s a)).w),.val (.bool ((F.tQ p s a)).tb),.val (.bool ((F.tQ p s a)).tp),.val (.bool ((F.tQ p s a)).tf)]),(GL (F.wT s a (F.tQ p s a)) p),[.one (.ptr 0 0),Any,.one (.fn 109 3),.one (.own 1)]⟩
  |none=>none)
 |_=>none
theorem Oz (a:Int) (s:CS) (p:Int) (hC:Ku.U.pg s a=true):aU [(109,zO Ku.U),(bG 109,fy),(96,sC [[none],[none],[none,none,none,some (.ints .i64 []),some (.ah (.int .i64 (.int .i64 (.int .i64 (.int .i64 (.bool .nil))))) []),none,none,none,none]] (gN KsC.Kc.U))] Tryz.f74 [.one (.ptr 0 0),.one (.val (.int .i64 a)),.one (.fn 109 3)] (GL s p) ⟨Ku.U.pg s a=true,.sa (.agg [.sl none (.ints .i64 ((Ku.U.tQ p s a)).w),.val (.bool ((Ku.U.tQ p s a)).tb),.val (.bool ((Ku.U.tQ p s a)).tp),.val (.bool ((Ku.U.tQ p s a)).tf)]),(GL (Ku.U.wT s a (Ku.U.tQ p s a)) p),[.one (.ptr 0 0),Any,.one (.fn 109 3),.one (.own 1)]⟩:=by
 intro b gv
 have hk:0≤a∧a < s.ae.length∧s.ae.length≤1000∧s.q.length≤99000:=of_decide_eq_true (show decide _=true from hC)
 have hse:=fun x=>qU (l:=s.ae) x hk.1 hk.2.1
 have hs2:∀ (m:Int) (t b:Bool) (o:Int),ri ((s.ae.set a.toNat [.int (ri (s.ae.getD a.toNat []) 0),.int (ri (s.ae.getD a.toNat []) 1),.int (ri (s.ae.getD a.toNat []) 2),.int m,.bool t,.bool b,.int o]).getD a.toNat []) 0=ri (s.ae.getD a.toNat []) 0:=fun m t b o=>by rw [hse];rfl
 have hlen:=(pU (ri (s.ae.getD a.toNat []) 3) (rb (s.ae.getD a.toNat []) 4) (rb (s.ae.getD a.toNat []) 5) (ri (s.ae.getD a.toNat []) 6) p)
 have hbad:=(Db (ri (s.ae.getD a.toNat []) 3) (rb (s.ae.getD a.toNat []) 4) (rb (s.ae.getD a.toNat []) 5) (ri (s.ae.getD a.toNat []) 6) p)
 have hok:=fun h=>iL (d:=s) (a:=a) (r:=(qW (ri (s.ae.getD a.toNat []) 3) (rb (s.ae.getD a.toNat []) 4) (rb (s.ae.getD a.toNat []) 5) (ri (s.ae.getD a.toNat []) 6) p)) h
 have hno:=fun h=>re (d:=s) (a:=a) (r:=(qW (ri (s.ae.getD a.toNat []) 3) (rb (s.ae.getD a.toNat []) 4) (rb (s.ae.getD a.toNat []) 5) (ri (s.ae.getD a.toNat []) 6) p)) h
 have hfs:=(af.keeps ID HL (af.cons (cu [[none],[none],[none,none,none,some (.ints .i64 []),some (.ah (.int .i64 (.int .i64 (.int .i64 (.int .i64 (.bool .nil))))) []),none,none,none,none]] fK) af.nil rfl))
 generalize hF:Ku.U=F at hC hfs ⊢
 generalize hG0:VoR.Fs.U=G0 at hC hfs ⊢
 generalize hG1:KsC.Kc.U=G1 at hC hfs ⊢
 generalize hA:Ar.U=A
 generalize hL:Lp _ _ _=L
 obtain⟨Z,zq⟩:=aP
 refine @aD _ _ _ _ _ _ _ (aa hL) _ _ zq rfl ?_
 repeat' (first|(refine ay zq ?_;try dsimp only)|refine ax zq ?_ (aa hL)|refine aw zq ?_|refine az ?_|refine av ?_|refine au ?_|refine aq ?_|refine ar rfl ?_|refine ai rfl ?_|refine aj rfl ?_|(refine Cd.mk ?_;cbv)|(refine aE.mk ?_;cbv)|(refine aJ.mk ?_;cbv)|exact trivial|refine And.intro ?_ ?_|refine bn fun _=>?_|refine bo fun _=>?_)
 all_goals first|(show L _ _ _;skip)|(clear hL hfs zq Z;subst hA hF hG0 hG1;simp only [Ku.U,VoR.Fs.U,Ar.U] at * <;> (try simp only [fv,tie,jb,dI,AR,decide_eq_true_eq,hs2] at *) <;> grind [al];done)
 subst hL
 refine aX (br hfs) (PT s.q (ri (s.ae.getD a.toNat []) 0) (qW (ri (s.ae.getD a.toNat []) 3) (rb (s.ae.getD a.toNat []) 4) (rb (s.ae.getD a.toNat []) 5) (ri (s.ae.getD a.toNat []) 6) p).w) (fun y=>cg Tryz.f74.ntmps [(0,.ptr 1 0),(1,.val (.int .i64 a)),(6,.ptr 4 0),(8,.ptr 5 0),(40,.sl none (.ints .i64 (F.v.cy (A.ri (A.bh s.ae a) 3) (A.rb (A.bh s.ae a) 4) (A.rb (A.bh s.ae a) 5) (A.ri (A.bh s.ae a) 6) p).w)),(41,.val (.int .i64 (A.fN (F.v.cy (A.ri (A.bh s.ae a) 3) (A.rb (A.bh s.ae a) 4) (A.rb (A.bh s.ae a) 5) (A.ri (A.bh s.ae a) 6) p).w))),(42,.val (.int .i64 y.i))] [(1,.cells 75 [.val (.int .i64 s.i),.val (.int .i64 s.ee),.val (.int .i64 s.er),.val (.int .i64 s.t),.val (.int .i64 s.p),.own 2,.sl none (.ints .i64 s.w),.sl none (.ints .i64 s.gn),.sl none (.ah (.int .i64 (.int .i64 (.int .i64 (.int .i64 (.bool .nil))))) s.gl),.val (.int .i64 s.ph),.sl none (.ints .i64 s.tn),.sl none (.ah (.int .i64 (.int .i64 (.int .i64 (.int .i64 (.bool .nil))))) s.tl),.val (.int .i64 s.l),.val (.bool s.o),.sl (some (3,89)) (.ah (.int .i64 (.int .i64 (.int .i64 (.int .i64 (.ints .i64 (.ah (.int .i64 (.int .i64 (.int .i64 (.int .i64 (.bool .nil))))) (.int .i64 (.int .i64 (.int .i64 (.int .i64 .nil)))))))))) y.q)]),(2,.row 58 (.ah (.int .i64 (.int .i64 (.int .i64 (.int .i64 (.bool (.bool (.int .i64 .nil))))))) (A.Gv s.ae a [.int (A.ri (A.bh s.ae a) 0),.int (A.ri (A.bh s.ae a) 1),.int (A.ri (A.bh s.ae a) 2),.int (F.v.cy (A.ri (A.bh s.ae a) 3) (A.rb (A.bh s.ae a) 4) (A.rb (A.bh s.ae a) 5) (A.ri (A.bh s.ae a) 6) p).m,.bool (F.v.cy (A.ri (A.bh s.ae a) 3) (A.rb (A.bh s.ae a) 4) (A.rb (A.bh s.ae a) 5) (A.ri (A.bh s.ae a) 6) p).t,.bool (F.v.cy (A.ri (A.bh s.ae a) 3) (A.rb (A.bh s.ae a) 4) (A.rb (A.bh s.ae a) 5) (A.ri (A.bh s.ae a) 6) p).b,.int (F.v.cy (A.ri (A.bh s.ae a) 3) (A.rb (A.bh s.ae a) 4) (A.rb (A.bh s.ae a) 5) (A.ri (A.bh s.ae a) 6) p).o]))),(3,.tok),(4,.cells 125 [.any,.any,.any,.any]),(5,.cells 125 [.sl none (.ints .i64 (F.v.cy (A.ri (A.bh s.ae a) 3) (A.rb (A.bh s.ae a) 4) (A.rb (A.bh s.ae a) 5) (A.ri (A.bh s.ae a) 6) p).w),.val (.bool (F.v.cy (A.ri (A.bh s.ae a) 3) (A.rb (A.bh s.ae a) 4) (A.rb (A.bh s.ae a) 5) (A.ri (A.bh s.ae a) 6) p).tb),.val (.bool (F.v.cy (A.ri (A.bh s.ae a) 3) (A.rb (A.bh s.ae a) 4) (A.rb (A.bh s.ae a) 5) (A.ri (A.bh s.ae a) 6) p).tp),.val (.bool (F.v.cy (A.ri (A.bh s.ae a) 3) (A.rb (A.bh s.ae a) 4) (A.rb (A.bh s.ae a) 5) (A.ri (A.bh s.ae a) 6) p).tf)]),(7,.cells 3 [.val (.int .i64 p)])] [.one (.ptr 1 0),Any,.one (.fn 109 7),.one (.own 2)]) (GF (qW (ri (s.ae.getD a.toNat []) 3) (rb (s.ae.getD a.toNat []) 4) (rb (s.ae.getD a.toNat []) 5) (ri (s.ae.getD a.toNat []) 6) p).w) (Qk 42 1) ⟨0,s.q⟩ ?_ ?_ ?_
 ·exact nR _ _ _
 ·cbv
  repeat' (first|exact trivial|exact rfl|refine And.intro ?_ ?_)
 rintro⟨i,q⟩ hq O hO
 have hst:=fun hw hq0 h=>ou hw hq0 hq h
 have hen:=fun h=>sJ hq h
 have q0:=hq.1
 have q1:=hq.2.1
 dsimp only at q0 q1
 subst hA
 generalize hA:Ar.U=A
 generalize hL:Lp _ _ _=L
 refine aO zq ?_
 repeat' (first|(refine ay zq ?_;try dsimp only)|refine ax zq ?_ (aa hL)|refine aw zq ?_|refine az ?_|refine av ?_|refine au ?_|refine aq ?_|refine ar rfl ?_|refine ai rfl ?_|refine aj rfl ?_|(refine Cd.mk ?_;cbv)|(refine aE.mk ?_;cbv)|(refine aJ.mk ?_;cbv)|exact trivial|refine And.intro ?_ ?_|refine bn fun _=>?_|refine bo fun _=>?_)
 all_goals first|(show L _ _ _;skip)|(clear hL hfs zq Z hq;subst hA hF hG0 hG1 hO;simp only [Ku.U,VoR.Fs.U,KsC.Kc.U,Ar.U] at * <;> (try simp only [fv,tie,jb,kY,pG,px,dI,AR,List.length_set,List.length_nil,decide_eq_true_eq,hs2] at *) <;> grind [al];done)
theorem GN:aA Tryz.prog 74 (wN Ku.U):=by
 refine aG (af.keeps ID HL (af.cons (cu [[none],[none],[none,none,none,some (.ints .i64 []),some (.ah (.int .i64 (.int .i64 (.int .i64 (.int .i64 (.bool .nil))))) []),none,none,none,none]] fK) af.nil rfl)) Tryz.func74 rfl rfl fun xs h p hp=>?_
 unfold wN at hp
 split at hp
 ·split at hp
  ·rename_i e0
   cases hp
   have g0:=Sn e0
   subst g0
   exact⟨aB rfl,fun hC _=>@Oz _ _ _ hC⟩
  ·cases hp
 ·cases hp
end Go.Proofs.YtelhldgdnlppfaaGreat.KsU
