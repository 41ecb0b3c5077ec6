/-
  what a core does by an event. No condition but size.
-/
import Derived.Test.YtelhldgdnlppfaaGreatVgKsD
import Derived.Test.YtelhldgdnlppfaaGreatVgInT
import Derived.Test.YtelhldgdnlppfaaGreatVgDlT
import Derived.Test.YtelhldgdnlppfaaGreatVgEgR
set_option maxHeartbeats 4000000
set_option cbv.maxSteps 4000000
set_option maxRecDepth 100000
namespace Go.Proofs.YtelhldgdnlppfaaGreat.KsE
open Go Ry ViR VoR KsS KsC KsU KsT KsD
open InT (DS Ci)
open DlT (tc tJ)
open ChQ (CH)
theorem Bf (f:Int→Bool):∀ (k:Nat) (i j:Int),i≤j→i≤mz f k i j∧mz f k i j≤j
 |0,i,j,h=>⟨Int.le_refl i,h⟩
 |k+1,i,j,h=>by
  unfold mz
  split
  ·rename_i h1
   have h2:i≤hf i j∧hf i j < j:=by unfold hf;omega
   split
   ·have:=Bf f k (hf i j+1) j (by omega)
    omega
   ·have:=Bf f k i (hf i j) (by omega)
    omega
  ·omega
theorem RH {f:Int→Bool} {n:Nat} {i j:Int} (hq:Mf f n ⟨i,j⟩) (h:¬i < j):i=Qs f n:=by
 obtain⟨h0,h1,h2,h3⟩:=hq
 simp only at h0 h1 h2 h3
 rw [← h3]
 cases n with
 |zero=>rfl
 |succ n =>
  unfold mz
  rw [if_neg h]
def IK (l:List E) (p:Int) (x:Int):Bool:=decide (Cmp.ic (ri (l.getD x.toNat []) 0) p < 0)
def mj (l:List E) (p:Int):Int:=Qs (IK l p) l.length
def MO (l:List E) (p:Int):Bool:=decide (mj l p < l.length) && decide (Cmp.ic (ri (l.getD (mj l p).toNat []) 0) p=0)
theorem CQ (l:List E) (p:Int):0≤mj l p∧mj l p≤l.length:=by
 unfold mj Qs
 exact Bf _ _ _ _ (Int.natCast_nonneg _)
theorem VG (l:List E) (p x:Int):IK l p x=decide (Cmp.ic (ri (l.getD x.toNat []) 0) p < 0):=rfl
def bfR (st:St):XJ:=⟨bR st 9,bR st 10⟩
def Rb (l:List E) (p w s:Int):List E:=if MO l p=true then l.set (mj l p).toNat (Pb p w s) else l.take (mj l p).toNat ++ (Pb p w s :: l.drop (mj l p).toNat)
def MD (d:CS) (p w s:Int):CS:={ d with aa:=Rb d.aa p w s }
def Gz (l:List E) (a:Int):List E:=l.take a.toNat ++ l.drop (a+1).toNat
def YF (d:CS) (p:Int):CS:={ d with aa:=Gz d.aa (dw d.aa p) }
def zB (d:CS):Bool:=decide (d.aa.length≤300∧d.q.length≤70000)
def Aj (L:Lv) (d:CS) (p w s:Int):Bool:=zB d && L.ok (MD d p w s)
def MW (L:Lv) (d:CS) (p:Int):CS:=if dw d.aa p < 0 then d else L.B (YF d p)
def zy (L:Lv) (d:CS) (p:Int):Bool:=zB d && (decide (dw d.aa p < 0) || L.ok (YF d p))
def yq (L:Lv) (d:CS) (a k:Int):CS :=
 if (dx k (tie d a)).tb=true∧d.o=true then aL (aL d a (dx k (tie d a))) a (kY (tie (aL d a (dx k (tie d a))) a))
 else if (dx k (tie d a)).tb=true∨(dx k (tie d a)).tp=true then L.B (aL d a (dx k (tie d a)))
 else if (dx k (tie d a)).tf=true then fH L (aL d a (dx k (tie d a)))
 else aL d a (dx k (tie d a))
def Ap (L:Lv) (d:CS) (a k:Int):Bool:=decide (0≤a∧a < d.aa.length∧d.aa.length≤300∧d.q.length≤70000) &&
 (((!((dx k (tie d a)).tb || (dx k (tie d a)).tp)) || (((dx k (tie d a)).tb && d.o) || L.ok (aL d a (dx k (tie d a))))) && (!(dx k (tie d a)).tf || gO L (aL d a (dx k (tie d a)))))
theorem WY {L:Lv} {d:CS} {a k:Int} (h:Ap L d a k=true):(0≤a∧a < d.aa.length∧d.aa.length≤300∧d.q.length≤70000) ∧
  ((dx k (tie d a)).tb=true→d.o=true→yq L d a k=aL (aL d a (dx k (tie d a))) a (kY (tie (aL d a (dx k (tie d a))) a))) ∧
  ((dx k (tie d a)).tb=true→d.o=false→L.ok (aL d a (dx k (tie d a)))=true∧yq L d a k=L.B (aL d a (dx k (tie d a)))) ∧
  ((dx k (tie d a)).tb=false→(dx k (tie d a)).tp=true→L.ok (aL d a (dx k (tie d a)))=true∧yq L d a k=L.B (aL d a (dx k (tie d a)))) ∧
  ((dx k (tie d a)).tb=false→(dx k (tie d a)).tp=false→(dx k (tie d a)).tf=true→gO L (aL d a (dx k (tie d a)))=true∧yq L d a k=fH L (aL d a (dx k (tie d a)))) ∧
  ((dx k (tie d a)).tb=false→(dx k (tie d a)).tp=false→(dx k (tie d a)).tf=false→yq L d a k=aL d a (dx k (tie d a))):=by
 unfold Ap at h
 unfold yq
 generalize (dx k (tie d a)).tb=x at *
 generalize (dx k (tie d a)).tp=y at *
 generalize (dx k (tie d a)).tf=z at *
 generalize d.o=o at *
 cases x <;> cases y <;> cases z <;> cases o <;> simp_all
def Vt (w:WK):CH:=⟨w.ck,w.ca,w.cb,w.cs⟩
def fS (L:Lv) (d:CS) (p:Int) (w:WK):CS :=
 if dw d.aa p < 0 then d
 else if w.k=4∨w.k=5∨w.k=6∨w.k=7 then yq L d (dw d.aa p) w.k
 else if d.o=true then d
 else if w.k=1 then (if rb (tie d (dw d.aa p)) 5=true∧0 < QQ w.e w.r d.ee d.er then fH L (fP d w.e w.r p) else d)
 else if w.k=3 then (if w.e=d.ee∧w.r=d.er∧d.ph=2∧d.p=p then wQ L d (Vt w) w.n w.l else d)
 else d
def jS (L:Lv) (d:CS) (p:Int) (w:WK):Bool:=(zB d && decide (w.n.length≤1000∧w.l.length≤1000)) && (decide (dw d.aa p < 0) || ((!decide (w.k=4∨w.k=5∨w.k=6∨w.k=7) || Ap L d (dw d.aa p) w.k) && ((!decide (w.k=1∧rb (tie d (dw d.aa p)) 5=true∧0 < QQ w.e w.r d.ee d.er∧d.o=false) || gG L d w.e w.r p) && (!decide (w.k=3∧w.e=d.ee∧w.r=d.er∧d.ph=2∧d.p=p∧d.o=false) || sH L d (Vt w) w.n w.l))))
theorem NN {L:Lv} {d:CS} {p:Int} {w:WK} (h:jS L d p w=true):(d.aa.length≤300∧d.q.length≤70000)∧(w.n.length≤1000∧w.l.length≤1000)∧(dw d.aa p < 0→fS L d p w=d) ∧
  (¬dw d.aa p < 0→(w.k=4∨w.k=5∨w.k=6∨w.k=7)→Ap L d (dw d.aa p) w.k=true∧fS L d p w=yq L d (dw d.aa p) w.k) ∧
  (¬dw d.aa p < 0→¬(w.k=4∨w.k=5∨w.k=6∨w.k=7)→d.o=true→fS L d p w=d) ∧
  (¬dw d.aa p < 0→w.k=1→d.o=false→rb (d.aa.getD (dw d.aa p).toNat []) 5=true→0 < QQ w.e w.r d.ee d.er→gG L d w.e w.r p=true∧fS L d p w=fH L (fP d w.e w.r p)) ∧
  (w.k=1→rb (d.aa.getD (dw d.aa p).toNat []) 5=false→fS L d p w=d)∧(w.k=1→¬0 < QQ w.e w.r d.ee d.er→fS L d p w=d) ∧
  (¬dw d.aa p < 0→w.k=3→d.o=false→w.e=d.ee→w.r=d.er→d.ph=2→d.p=p→sH L d (Vt w) w.n w.l=true∧fS L d p w=wQ L d (Vt w) w.n w.l) ∧
  (w.k=3→¬(w.e=d.ee∧w.r=d.er∧d.ph=2∧d.p=p)→fS L d p w=d)∧(¬w.k=1→¬w.k=3→¬(w.k=4∨w.k=5∨w.k=6∨w.k=7)→fS L d p w=d):=by
 unfold jS zB at h
 simp only [Bool.and_eq_true,Bool.or_eq_true,Bool.not_eq_true',decide_eq_true_eq,decide_eq_false_iff_not] at h
 obtain⟨⟨h1,h2⟩,h3⟩:=h
 unfold fS
 refine⟨h1,h2,fun e=>if_pos e,fun e1 e2=>?_,fun e1 e2 e3=>?_,fun e1 e2 e3 e4 e5=>?_,fun e1 e2=>?_,fun e1 e2=>?_,fun e1 e2 e3 e4 e5 e6 e7=>?_,fun e1 e2=>?_,fun e1 e2 e3=>?_⟩
 ·rw [if_neg e1,if_pos e2]
  rcases h3 with h3|h3
  ·exact absurd h3 e1
  ·exact⟨h3.1.resolve_left fun q=>q e2,rfl⟩
 ·rw [if_neg e1,if_neg e2,if_pos e3]
 ·rw [if_neg e1,if_neg (by omega),if_neg (by rw [e3];decide),if_pos e2,if_pos ⟨e4,e5⟩]
  rcases h3 with h3|h3
  ·exact absurd h3 e1
  ·exact⟨h3.2.1.resolve_left fun q=>q ⟨e2,e4,e5,e3⟩,rfl⟩
 ·by_cases g:dw d.aa p < 0
  ·rw [if_pos g]
  ·rw [if_neg g,if_neg (by omega)]
   by_cases ho:d.o=true
   ·rw [if_pos ho]
   ·rw [if_neg ho,if_pos e1,if_neg (fun q=>by have:rb (tie d (dw d.aa p)) 5=false:=e2;rw [this] at q;cases q.1)]
 ·by_cases g:dw d.aa p < 0
  ·rw [if_pos g]
  ·rw [if_neg g,if_neg (by omega)]
   by_cases ho:d.o=true
   ·rw [if_pos ho]
   ·rw [if_neg ho,if_pos e1,if_neg (fun q=>e2 q.2)]
 ·rw [if_neg e1,if_neg (by omega),if_neg (by rw [e3];decide),if_neg (by omega),if_pos e2,if_pos ⟨e4,e5,e6,e7⟩]
  rcases h3 with h3|h3
  ·exact absurd h3 e1
  ·exact⟨h3.2.2.resolve_left fun q=>q ⟨e2,e4,e5,e6,e7,e3⟩,rfl⟩
 ·by_cases g:dw d.aa p < 0
  ·rw [if_pos g]
  ·rw [if_neg g,if_neg (by omega)]
   by_cases ho:d.o=true
   ·rw [if_pos ho]
   ·rw [if_neg ho,if_neg (by omega),if_pos e1,if_neg e2]
 ·by_cases g:dw d.aa p < 0
  ·rw [if_pos g]
  ·rw [if_neg g,if_neg e3]
   by_cases ho:d.o=true
   ·rw [if_pos ho]
   ·rw [if_neg ho,if_neg e1,if_neg e2]
theorem Ru (l:List E) (p _ _:Int):MO l p=true→mj l p < l.length:=fun h=>by
 unfold MO at h
 rw [Bool.and_eq_true] at h
 exact of_decide_eq_true h.1
theorem aah {l:List E} {p w s:Int} (h:MO l p=true):Rb l p w s=l.set (mj l p).toNat [.int p,.int w,.int s,.int 0,.bool false,.bool false,.int 0]:=if_pos h
theorem aaE {l:List E} {p w s:Int} (h:MO l p=false):Rb l p w s=l.take (mj l p).toNat ++ ([.int p,.int w,.int s,.int 0,.bool false,.bool false,.int 0] :: l.drop (mj l p).toNat):=if_neg (by rw [h];decide)
theorem Xb {L:Lv} {d:CS} {p w s:Int} (h:Aj L d p w s=true):(d.aa.length≤300∧d.q.length≤70000)∧L.ok ⟨d.i,d.ee,d.er,d.t,d.p,Rb d.aa p w s,d.w,d.gn,d.gl,d.ph,d.tn,d.tl,d.l,d.o,d.q⟩=true:=by
 unfold Aj zB at h
 rw [Bool.and_eq_true,decide_eq_true_eq] at h
 exact h
theorem Wh {L:Lv} {d:CS} {p:Int} (h:zy L d p=true):(d.aa.length≤300∧d.q.length≤70000)∧(dw d.aa p < 0→MW L d p=d)∧(¬dw d.aa p < 0→L.ok ⟨d.i,d.ee,d.er,d.t,d.p,Gz d.aa (dw d.aa p),d.w,d.gn,d.gl,d.ph,d.tn,d.tl,d.l,d.o,d.q⟩=true∧MW L d p=L.B ⟨d.i,d.ee,d.er,d.t,d.p,Gz d.aa (dw d.aa p),d.w,d.gn,d.gl,d.ph,d.tn,d.tl,d.l,d.o,d.q⟩):=by
 unfold zy zB at h
 rw [Bool.and_eq_true,decide_eq_true_eq,Bool.or_eq_true,decide_eq_true_eq] at h
 unfold MW
 exact⟨h.1,fun e=>if_pos e,fun e=>⟨h.2.resolve_left e,if_neg e⟩⟩
structure Ke where
 Yb:Int→Int→Int→Int→Int
 yu:Int→Int→Int
 Yv:List E→Int→Int
 VE:List E→Int→Bool
 Ut:List E→Bool
 HW:CS→Int→Int→Int→Bool
 YN:CS→Int→Int→Int→CS
 HY:CS→Int→Bool
 Vy:CS→Int→CS
 Ii:CS→Int→Int→Bool
 YW:CS→Int→Int→CS
 HJ:CS→Int→WK→Bool
 WV:CS→Int→WK→CS
def eG (L:Lv):Ke:=⟨QQ,Cmp.ic,mj,MO,fun l=>decide (l.length≤1000),Aj L,fun d p w s=>L.B (MD d p w s),zy L,MW L,Ap L,yq L,jS L,fS L⟩
variable {V:Lv}
theorem bX {l:List (Nat × aY)} {fn:Func} {args:List SA} {h:H} {p:qi} (hd:∀ (b:Bs) (gv:List Value) (Z:(Ex→St→Prop)→Ex→St→Prop) (_:∀ K,Z K=K) (A:Ar) (_:Ar.U=A) (L:Code→St→(Ex→St→Prop)→Prop) (_:Lp Tryz.prog b gv=L),Cd A (xj l) L (pw fn) (Ry.start fn.ntmps args h) (Z fun e s'=>aM A (xj l) fn.results.toList p e s')):aV l fn args h p:=fun b gv=>@aD _ _ _ _ _ _ _ (ae rfl) _ _ (fun _=>rfl) rfl (hd b gv id (fun _=>rfl) _ rfl _ rfl)
noncomputable def IP (F:Ke):aY:=fun xs h=>match xs,h with
 |[.agg [.val (.int .i64 a_e),.val (.int .i64 a_r)],.agg [.val (.int .i64 d_e),.val (.int .i64 d_r)]],[]=>some ⟨True,.sa (I (F.Yb a_e a_r d_e d_r)),[],[Any,Any]⟩
 |_,_=>none
theorem Xy (a_e:Int) (a_r:Int) (d_e:Int) (d_r:Int):aV [(104,iM ViR.Vs.U),(111,pY ViR.Vs.U)] Tryz.f71 [.agg [.val (.int .i64 a_e),.val (.int .i64 a_r)],.agg [.val (.int .i64 d_e),.val (.int .i64 d_r)]] [] ⟨True,.sa (I ((eG V).Yb a_e a_r d_e d_r)),[],[Any,Any]⟩:=by
 refine @bX _ _ _ _ _ ?_
 intro b gv Z zq A hA L hL
 have hfs:=(af.cons gM (af.cons oH af.nil rfl) rfl)
 generalize hF:(eG V)=F at hfs ⊢
 generalize hG0:VoR.Fs.U=G0 at hfs ⊢
 generalize hG1:KsC.Kc.U=G1 at hfs ⊢
 generalize hG2:KsU.Ku.U=G2 at hfs ⊢
 generalize hG3:ViR.Vs.U=G3 at hfs ⊢
 generalize hG4:InT.Nf.U=G4 at hfs ⊢
 generalize hG5:DlT.Df.U=G5 at hfs ⊢
 generalize hG6:(bJ V)=G6 at hfs ⊢
 repeat' (first|(refine aw zq ?_;try dsimp only)|refine ax zq ?_ (ae hL)|refine az zq ?_|refine ay ?_|refine aq ?_|refine ar ?_|refine av ?_|refine au rfl ?_|refine ai rfl ?_|refine aj rfl ?_|(refine Cd.mk ?_;cbv)|(refine aE.mk ?_;cbv)|(refine aM.mk ?_;cbv)|exact trivial|refine And.intro ?_ ?_|refine bu fun _=>?_|refine br fun _=>?_)
 all_goals
  clear hL zq Z
  try clear hfs
  subst hA hF hG0 hG1 hG2 hG3 hG4 hG5 hG6
  simp only [eG,ViR.Vs.U] at *
  try (grind [al,QQ,Cmp.ic,Cmp.jj])
theorem Is:aA Tryz.prog 71 (IP (eG V)):=by
 refine aG (af.cons gM (af.cons oH af.nil rfl) rfl) Tryz.func71 rfl rfl fun xs h p hp=>?_
 unfold IP at hp
 split at hp
 ·cases hp
  exact⟨aB rfl,fun _ _=>@Xy V _ _ _ _⟩
 ·cases hp
noncomputable def Lx (F:Ke):aY:=fun xs h=>match xs,h with
 |[.agg [.val (.int .i64 a_p),.val (.int .i64 _),.val (.int .i64 _),.val (.int .i64 _),.val (.bool _),.val (.bool _),.val (.int .i64 _)],.agg [.val (.int .i64 d_p),.val (.int .i64 _),.val (.int .i64 _),.val (.int .i64 _),.val (.bool _),.val (.bool _),.val (.int .i64 _)]],[]=>some ⟨True,.sa (I (F.yu a_p d_p)),[],[Any,Any]⟩
 |_,_=>none
theorem Zi (a_p:Int) (a_w:Int) (a_s:Int) (a_m:Int) (a_t:Bool) (a_b:Bool) (a_o:Int) (d_p:Int) (d_w:Int) (d_s:Int) (d_m:Int) (d_t:Bool) (d_b:Bool) (d_o:Int):aV [(104,iM ViR.Vs.U)] Tryz.f66 [.agg [.val (.int .i64 a_p),.val (.int .i64 a_w),.val (.int .i64 a_s),.val (.int .i64 a_m),.val (.bool a_t),.val (.bool a_b),.val (.int .i64 a_o)],.agg [.val (.int .i64 d_p),.val (.int .i64 d_w),.val (.int .i64 d_s),.val (.int .i64 d_m),.val (.bool d_t),.val (.bool d_b),.val (.int .i64 d_o)]] [] ⟨True,.sa (I ((eG V).yu a_p d_p)),[],[Any,Any]⟩:=by
 refine @bX _ _ _ _ _ ?_
 intro b gv Z zq A hA L hL
 have hfs:=(af.cons gM af.nil rfl)
 generalize hF:(eG V)=F at hfs ⊢
 generalize hG0:VoR.Fs.U=G0 at hfs ⊢
 generalize hG1:KsC.Kc.U=G1 at hfs ⊢
 generalize hG2:KsU.Ku.U=G2 at hfs ⊢
 generalize hG3:ViR.Vs.U=G3 at hfs ⊢
 generalize hG4:InT.Nf.U=G4 at hfs ⊢
 generalize hG5:DlT.Df.U=G5 at hfs ⊢
 generalize hG6:(bJ V)=G6 at hfs ⊢
 repeat' (first|(refine aw zq ?_;try dsimp only)|refine ax zq ?_ (ae hL)|refine az zq ?_|refine ay ?_|refine aq ?_|refine ar ?_|refine av ?_|refine au rfl ?_|refine ai rfl ?_|refine aj rfl ?_|(refine Cd.mk ?_;cbv)|(refine aE.mk ?_;cbv)|(refine aM.mk ?_;cbv)|exact trivial|refine And.intro ?_ ?_|refine bu fun _=>?_|refine br fun _=>?_)
 all_goals
  clear hL zq Z
  try clear hfs
  subst hA hF hG0 hG1 hG2 hG3 hG4 hG5 hG6
  simp only [eG,ViR.Vs.U] at *
  try (grind [al])
theorem Jp:aA Tryz.prog 66 (Lx (eG V)):=by
 refine aG (af.cons gM af.nil rfl) Tryz.func66 rfl rfl fun xs h p hp=>?_
 unfold Lx at hp
 split at hp
 ·cases hp
  exact⟨aB rfl,fun _ _=>@Zi V _ _ _ _ _ _ _ _ _ _ _ _ _ _⟩
 ·cases hp
noncomputable def sD (F:Ke):aY:=fun xs h=>match xs,h with
 |[.one (.sl none (.ah (.int .i64 (.int .i64 (.int .i64 (.int .i64 (.bool (.bool (.int .i64 .nil))))))) l)),.agg [.val (.int .i64 t_p),.val (.int .i64 _),.val (.int .i64 _),.val (.int .i64 _),.val (.bool _),.val (.bool _),.val (.int .i64 _)],.one (.val (.func (.func 66) ⟨[]⟩ ⟨[]⟩))],[]=>some ⟨F.Ut l=true,.bK [I (F.Yv l t_p),B (F.VE l t_p)],[],[Any,Any,Any]⟩
 |_,_=>none
theorem GU (l:List E) (t_p:Int) (LQ:Int) (t_s:Int) (t_m:Int) (t_t:Bool) (t_b:Bool) (t_o:Int) (hC:(eG V).Ut l=true):aV [(66,Lx (eG V))] Tryz.f65 [.one (.sl none (.ah (.int .i64 (.int .i64 (.int .i64 (.int .i64 (.bool (.bool (.int .i64 .nil))))))) l)),.agg [.val (.int .i64 t_p),.val (.int .i64 LQ),.val (.int .i64 t_s),.val (.int .i64 t_m),.val (.bool t_t),.val (.bool t_b),.val (.int .i64 t_o)],.one (.val (.func (.func 66) ⟨[]⟩ ⟨[]⟩))] [] ⟨(eG V).Ut l=true,.bK [I ((eG V).Yv l t_p),B ((eG V).VE l t_p)],[],[Any,Any,Any]⟩:=by
 refine @bX _ _ _ _ _ ?_
 intro b gv Z zq A hA L hL
 have hk0:l.length≤1000:=of_decide_eq_true (show decide (l.length≤1000)=true from hC)
 have hk:l.length≤1000000:=by omega
 have hpi:=CQ l t_p
 have hfs:=(af.cons (Jp (V:=V)) af.nil rfl)
 generalize hF:(eG V)=F at hC hfs ⊢
 generalize hG0:VoR.Fs.U=G0 at hC hfs ⊢
 generalize hG1:KsC.Kc.U=G1 at hC hfs ⊢
 generalize hG2:KsU.Ku.U=G2 at hC hfs ⊢
 generalize hG3:ViR.Vs.U=G3 at hC hfs ⊢
 generalize hG4:InT.Nf.U=G4 at hC hfs ⊢
 generalize hG5:DlT.Df.U=G5 at hC hfs ⊢
 generalize hG6:(bJ V)=G6 at hC hfs ⊢
 repeat' (first|(refine aw zq ?_;try dsimp only)|refine ax zq ?_ (ae hL)|refine az zq ?_|refine ay ?_|refine aq ?_|refine ar ?_|refine av ?_|refine au rfl ?_|refine ai rfl ?_|refine aj rfl ?_|(refine Cd.mk ?_;cbv)|(refine aE.mk ?_;cbv)|(refine aM.mk ?_;cbv)|exact trivial|refine And.intro ?_ ?_|refine bu fun _=>?_|refine br fun _=>?_)
 subst hL
 refine ba (bx hfs) (Mf (IK l t_p) l.length) (fun y=>cC Tryz.f65.ntmps [(0,.sl none (.ah (.int .i64 (.int .i64 (.int .i64 (.int .i64 (.bool (.bool (.int .i64 .nil))))))) l)),(2,.val (.func (.func 66) ⟨[]⟩ ⟨[]⟩)),(4,.ptr 1 0),(8,.val (.int .i64 (A.dN l))),(9,.val (.int .i64 y.i)),(10,.val (.int .i64 y.j))] [(1,.cells 58 [.val (.int .i64 t_p),.val (.int .i64 LQ),.val (.int .i64 t_s),.val (.int .i64 t_m),.val (.bool t_t),.val (.bool t_b),.val (.int .i64 t_o)])] [Any,Any,Any]) (JY) bfR ⟨0,A.dN l⟩ ?_ ?_ ?_
 ·(subst hA;exact wP _ _)
 ·cbv
  repeat' (first|exact trivial|exact rfl|refine And.intro ?_ ?_)
 rintro⟨i,j⟩ hq O hO
 have hst:=fun h=>xh hk hq h
 have hen:=fun h=>RH hq h
 have hlt:=VG l t_p (hf i j)
 have q0:=hq.1
 have q1:=hq.2.1
 have q2:=hq.2.2.1
 have hpo:mj l t_p=Qs (IK l t_p) l.length:=rfl
 have hfd:MO l t_p=(decide (mj l t_p < l.length) && decide (Cmp.ic (ri (l.getD (mj l t_p).toNat []) 0) t_p=0)):=rfl
 dsimp only at q0 q1 q2
 subst hA
 generalize hA:Ar.U=A
 generalize hL:Lp _ _ _=L
 refine aR zq ?_
 repeat' (first|(refine aw zq ?_;try dsimp only)|refine ax zq ?_ (ae hL)|refine az zq ?_|refine ay ?_|refine aq ?_|refine ar ?_|refine av ?_|refine au rfl ?_|refine ai rfl ?_|refine aj rfl ?_|(refine Cd.mk ?_;cbv)|(refine aE.mk ?_;cbv)|(refine aM.mk ?_;cbv)|exact trivial|refine And.intro ?_ ?_|refine bu fun _=>?_|refine br fun _=>?_)
 all_goals first|(show L _ _ _;skip)|(clear hL hfs zq Z hq;subst hA hF hG0 hG1 hG2 hG3 hG4 hG5 hG6 hO;simp only [eG,Ar.U] at * <;> grind [al,oY,mS,py,zB];done)
theorem rO:aA Tryz.prog 65 (sD (eG V)):=by
 refine aG (af.cons (Jp (V:=V)) af.nil rfl) Tryz.func65 rfl rfl fun xs h p hp=>?_
 unfold sD at hp
 split at hp
 ·cases hp
  exact⟨aB rfl,fun hC _=>@GU V _ _ _ _ _ _ _ _ hC⟩
 ·cases hp
noncomputable def Si (F:Ke):aY:=fun xs h=>match xs with
 |[.one (.ptr 0 0),.agg [.val (.int .i64 _),.val (.int .i64 v_p),.val (.int .i64 v_w),.val (.int .i64 ur),.val (.int .i64 _),.val (.int .i64 _),.val (.int .i64 _),.sl none (.ints .i64 _),.sl none (.ah (.int .i64 (.int .i64 (.int .i64 (.int .i64 (.bool .nil))))) _),.val (.int .i64 _),.val (.int .i64 _),.val (.int .i64 _),.val (.int .i64 _)]]=>(match vL h with
  |some s=>some ⟨F.HW s v_p v_w ur=true,.bK [],(eO (F.YN s v_p v_w ur)),[.one (.ptr 0 0),Any]⟩
  |none=>none)
 |_=>none
theorem aan (hb:aA Tryz.prog 33 (bH (bJ V))) (Nt:Int) (v_p:Int) (v_w:Int) (ur:Int) (v_xk:Int) (v_xe:Int) (v_xr:Int) (v_xn:List Int) (v_xl:List E) (v_xck:Int) (v_xca:Int) (v_xcb:Int) (v_xcs:Int) (s:CS) (hC:(eG V).HW s v_p v_w ur=true):aV [(65,sD (eG V)),(67,DS InT.Nf.U),(33,bH (bJ V))] Tryz.f37 [.one (.ptr 0 0),.agg [.val (.int .i64 Nt),.val (.int .i64 v_p),.val (.int .i64 v_w),.val (.int .i64 ur),.val (.int .i64 v_xk),.val (.int .i64 v_xe),.val (.int .i64 v_xr),.sl none (.ints .i64 v_xn),.sl none (.ah (.int .i64 (.int .i64 (.int .i64 (.int .i64 (.bool .nil))))) v_xl),.val (.int .i64 v_xck),.val (.int .i64 v_xca),.val (.int .i64 v_xcb),.val (.int .i64 v_xcs)]] (eO s) ⟨(eG V).HW s v_p v_w ur=true,.bK [],(eO ((eG V).YN s v_p v_w ur)),[.one (.ptr 0 0),Any]⟩:=by
 refine @bX _ _ _ _ _ ?_
 intro b gv Z zq A hA L hL
 have hgo:=Xb (show Aj V s v_p v_w ur=true from hC)
 have hpi:=CQ s.aa v_p
 have hul:=Ru s.aa v_p v_w ur
 have hu1:=fun h=>aah (l:=s.aa) (p:=v_p) (w:=v_w) (s:=ur) h
 have hu2:=fun h=>aaE (l:=s.aa) (p:=v_p) (w:=v_w) (s:=ur) h
 have hus:MD s v_p v_w ur=⟨s.i,s.ee,s.er,s.t,s.p,Rb s.aa v_p v_w ur,s.w,s.gn,s.gl,s.ph,s.tn,s.tl,s.l,s.o,s.q⟩:=rfl
 have hfs:=(af.cons (rO (V:=V)) (af.cons Ci (af.cons hb af.nil rfl) rfl) rfl)
 generalize hF:(eG V)=F at hC hfs ⊢
 generalize hG0:VoR.Fs.U=G0 at hC hfs ⊢
 generalize hG1:KsC.Kc.U=G1 at hC hfs ⊢
 generalize hG2:KsU.Ku.U=G2 at hC hfs ⊢
 generalize hG3:ViR.Vs.U=G3 at hC hfs ⊢
 generalize hG4:InT.Nf.U=G4 at hC hfs ⊢
 generalize hG5:DlT.Df.U=G5 at hC hfs ⊢
 generalize hG6:(bJ V)=G6 at hC hfs ⊢
 repeat' (first|(refine aw zq ?_;try dsimp only)|refine ax zq ?_ (ae hL)|refine az zq ?_|refine ay ?_|refine aq ?_|refine ar ?_|refine av ?_|refine au rfl ?_|refine ai rfl ?_|refine aj rfl ?_|(refine Cd.mk ?_;cbv)|(refine aE.mk ?_;cbv)|(refine aM.mk ?_;cbv)|exact trivial|refine And.intro ?_ ?_|refine bu fun _=>?_|refine br fun _=>?_)
 all_goals first|(show L _ _ _;skip)|(clear hL hfs zq Z;subst hA hF hG0 hG1 hG2 hG3 hG4 hG5 hG6;simp only [eG,bJ,InT.Nf.U,Ar.U] at * <;> grind [al,oY,mS,py,zB];done)
theorem Zm (hb:aA Tryz.prog 33 (bH (bJ V))):aA Tryz.prog 37 (Si (eG V)):=by
 refine aG (af.cons (rO (V:=V)) (af.cons Ci (af.cons hb af.nil rfl) rfl) rfl) Tryz.func37 rfl rfl fun xs h p hp=>?_
 unfold Si at hp
 split at hp
 ·split at hp
  ·rename_i e0
   cases hp
   have g0:=cV e0
   subst g0
   exact⟨aB rfl,fun hC _=>@aan V hb _ _ _ _ _ _ _ _ _ _ _ _ _ _ hC⟩
  ·cases hp
 ·cases hp
noncomputable def Cb (F:Ke):aY:=fun xs h=>match xs with
 |[.one (.ptr 0 0),.one (.val (.int .i64 p))]=>(match vL h with
  |some s=>some ⟨F.HY s p=true,.bK [],(eO (F.Vy s p)),[.one (.ptr 0 0),Any]⟩
  |none=>none)
 |_=>none
theorem SB (hb:aA Tryz.prog 33 (bH (bJ V))) (p:Int) (s:CS) (hC:(eG V).HY s p=true):aV [(68,sq KsC.Kc.U),(bG 68,fy),(69,tc DlT.Df.U),(33,bH (bJ V))] Tryz.f38 [.one (.ptr 0 0),.one (.val (.int .i64 p))] (eO s) ⟨(eG V).HY s p=true,.bK [],(eO ((eG V).Vy s p)),[.one (.ptr 0 0),Any]⟩:=by
 refine @bX _ _ _ _ _ ?_
 intro b gv Z zq A hA L hL
 have hgo:=Wh (show zy V s p=true from hC)
 have hat:=lf s.aa p
 have hdl:Gz s.aa (dw s.aa p)=s.aa.take (dw s.aa p).toNat ++ s.aa.drop (dw s.aa p+1).toNat:=rfl
 have hin:0≤dw s.aa p→s.aa.length≤300→aO .add .i64 (dw s.aa p) 1=dw s.aa p+1:=fun h1 h2=>by rw [bo,wr _ (by omega) (by omega)]
 have hfs:=(af.keeps oS oO (af.cons tJ (af.cons hb af.nil rfl) rfl))
 generalize hF:(eG V)=F at hC hfs ⊢
 generalize hG0:VoR.Fs.U=G0 at hC hfs ⊢
 generalize hG1:KsC.Kc.U=G1 at hC hfs ⊢
 generalize hG2:KsU.Ku.U=G2 at hC hfs ⊢
 generalize hG3:ViR.Vs.U=G3 at hC hfs ⊢
 generalize hG4:InT.Nf.U=G4 at hC hfs ⊢
 generalize hG5:DlT.Df.U=G5 at hC hfs ⊢
 generalize hG6:(bJ V)=G6 at hC hfs ⊢
 repeat' (first|(refine aw zq ?_;try dsimp only)|refine ax zq ?_ (ae hL)|refine az zq ?_|refine ay ?_|refine aq ?_|refine ar ?_|refine av ?_|refine au rfl ?_|refine ai rfl ?_|refine aj rfl ?_|(refine Cd.mk ?_;cbv)|(refine aE.mk ?_;cbv)|(refine aM.mk ?_;cbv)|exact trivial|refine And.intro ?_ ?_|refine bu fun _=>?_|refine br fun _=>?_)
 all_goals first|(show L _ _ _;skip)|(clear hL hfs zq Z;subst hA hF hG0 hG1 hG2 hG3 hG4 hG5 hG6;simp only [eG,bJ,VoR.Fs.U,KsC.Kc.U,DlT.Df.U,Ar.U,kj] at * <;> grind [al,oY,mS,py,zB];done)
theorem Oo (hb:aA Tryz.prog 33 (bH (bJ V))):aA Tryz.prog 38 (Cb (eG V)):=by
 refine aG (af.keeps oS oO (af.cons tJ (af.cons hb af.nil rfl) rfl)) Tryz.func38 rfl rfl fun xs h p hp=>?_
 unfold Cb at hp
 split at hp
 ·split at hp
  ·rename_i e0
   cases hp
   have g0:=cV e0
   subst g0
   exact⟨aB rfl,fun hC _=>@SB V hb _ _ hC⟩
  ·cases hp
 ·cases hp
noncomputable def yO (F:Ku):aY:=tC (xi F) (nL F)
theorem vO:aA Tryz.prog 74 (yO KsU.Ku.U):=AB Jh tv
noncomputable def we (F:Ke):aY:=fun xs h=>match xs with
 |[.one (.ptr 0 0),.one (.val (.int .i64 a)),.one (.val (.int .i64 k))]=>(match vL h with
  |some s=>some ⟨F.Ii s a k=true,.bK [],(eO (F.YW s a k)),[.one (.ptr 0 0),Any,Any]⟩
  |none=>none)
 |_=>none
theorem ON (hb:aA Tryz.prog 33 (bH (bJ V))) (a:Int) (k:Int) (s:CS) (hC:(eG V).Ii s a k=true):aV [(74,yO KsU.Ku.U),(33,bH (bJ V)),(97,sy (bJ V))] Tryz.f70 [.one (.ptr 0 0),.one (.val (.int .i64 a)),.one (.val (.int .i64 k))] (eO s) ⟨(eG V).Ii s a k=true,.bK [],(eO ((eG V).YW s a k)),[.one (.ptr 0 0),Any,Any]⟩:=by
 refine @bX _ _ _ _ _ ?_
 intro b gv Z zq A hA L hL
 have hgo:=WY (show Ap V s a k=true from hC)
 have htl:=fun r h=>(Di s a r h)
 have hwl:(dx k (tie s a)).w.length≤1:=(pE _ _ _ _ k).2.2.2
 have hfs:=(af.cons vO (af.cons hb (af.cons (kD hb) af.nil rfl) rfl) rfl)
 generalize hF:(eG V)=F at hC hfs ⊢
 generalize hG0:VoR.Fs.U=G0 at hC hfs ⊢
 generalize hG1:KsC.Kc.U=G1 at hC hfs ⊢
 generalize hG2:KsU.Ku.U=G2 at hC hfs ⊢
 generalize hG3:ViR.Vs.U=G3 at hC hfs ⊢
 generalize hG4:InT.Nf.U=G4 at hC hfs ⊢
 generalize hG5:DlT.Df.U=G5 at hC hfs ⊢
 generalize hG6:(bJ V)=G6 at hC hfs ⊢
 repeat' (first|(refine aw zq ?_;try dsimp only)|refine ax zq ?_ (ae hL)|refine az zq ?_|refine ay ?_|refine aq ?_|refine ar ?_|refine av ?_|refine au rfl ?_|refine ai rfl ?_|refine aj rfl ?_|(refine Cd.mk ?_;cbv)|(refine aE.mk ?_;cbv)|(refine aM.mk ?_;cbv)|exact trivial|refine And.intro ?_ ?_|refine bu fun _=>?_|refine br fun _=>?_)
 all_goals first|(show L _ _ _;skip)|(clear hL hfs zq Z;subst hA hF hG0 hG1 hG2 hG3 hG4 hG5 hG6;simp only [eG,bJ,VoR.Fs.U,KsU.Ku.U,Ar.U,kj] at * <;> (try simp only [ub,ll,lD,uu,uE,uH,lu,lE,lj,lz,lg,uD,uf] at *) <;> first|(have hsl:=ma s a (dx k (tie s a));generalize aL s a (dx k (tie s a))=Y at hsl ⊢;rcases Y with ⟨_,_,_,_,_,y6,_,_,_,_,_,_,_,_,_⟩;rcases s with ⟨_,_,_,_,_,s6,_,_,_,_,_,_,_,_,_⟩;cases y6 <;> cases s6 <;> first|exact congrArg Int.ofNat hsl|(exfalso;simp at hsl;done))|(have hsl:=ma (aL s a (dx k (tie s a))) a (kY (tie (aL s a (dx k (tie s a))) a));generalize aL (aL s a (dx k (tie s a))) a (kY (tie (aL s a (dx k (tie s a))) a))=Y at hsl ⊢;generalize aL s a (dx k (tie s a))=X at hsl ⊢;rcases Y with ⟨_,_,_,_,_,y6,_,_,_,_,_,_,_,_,_⟩;rcases X with ⟨_,_,_,_,_,x6,_,_,_,_,_,_,_,_,_⟩;cases y6 <;> cases x6 <;> first|exact congrArg Int.ofNat hsl|(exfalso;simp at hsl;done))|grind [al,oY,mS,py,zB,ub,ll,lD,uu,uE,uH,lu,lE,lj,lz,lg,uD,uf];done)
theorem zU (hb:aA Tryz.prog 33 (bH (bJ V))):aA Tryz.prog 70 (we (eG V)):=by
 refine aG (af.cons vO (af.cons hb (af.cons (kD hb) af.nil rfl) rfl) rfl) Tryz.func70 rfl rfl fun xs h p hp=>?_
 unfold we at hp
 split at hp
 ·split at hp
  ·rename_i e0
   cases hp
   have g0:=cV e0
   subst g0
   exact⟨aB rfl,fun hC _=>@ON V hb _ _ _ hC⟩
  ·cases hp
 ·cases hp
noncomputable def lS (F:Ke):aY:=fun xs h=>match xs with
 |[.one (.ptr 0 0),.one (.val (.int .i64 p)),.agg [.val (.int .i64 w_k),.val (.int .i64 dv),.val (.int .i64 w_r),.sl none (.ints .i64 w_n),.sl none (.ah (.int .i64 (.int .i64 (.int .i64 (.int .i64 (.bool .nil))))) w_l),.val (.int .i64 w_ck),.val (.int .i64 w_ca),.val (.int .i64 w_cb),.val (.int .i64 w_cs)]]=>(match vL h with
  |some s=>some ⟨F.HJ s p ⟨w_k,dv,w_r,w_n,w_l,w_ck,w_ca,w_cb,w_cs⟩=true∧¬w_k=2,.bK [],(eO (F.WV s p ⟨w_k,dv,w_r,w_n,w_l,w_ck,w_ca,w_cb,w_cs⟩)),[.one (.ptr 0 0),Any,Any]⟩
  |none=>none)
 |_=>none
theorem Bp (hb:aA Tryz.prog 33 (bH (bJ V))) (p:Int) (w_k:Int) (dv:Int) (w_r:Int) (w_n:List Int) (w_l:List E) (w_ck:Int) (w_ca:Int) (w_cb:Int) (w_cs:Int) (s:CS) (hC:(eG V).HJ s p ⟨w_k,dv,w_r,w_n,w_l,w_ck,w_ca,w_cb,w_cs⟩=true∧¬w_k=2):aV [(68,sq KsC.Kc.U),(bG 68,fy),(70,we (eG V)),(71,IP (eG V)),(58,qT (bJ V)),(73,NV (bJ V))] Tryz.f39 [.one (.ptr 0 0),.one (.val (.int .i64 p)),.agg [.val (.int .i64 w_k),.val (.int .i64 dv),.val (.int .i64 w_r),.sl none (.ints .i64 w_n),.sl none (.ah (.int .i64 (.int .i64 (.int .i64 (.int .i64 (.bool .nil))))) w_l),.val (.int .i64 w_ck),.val (.int .i64 w_ca),.val (.int .i64 w_cb),.val (.int .i64 w_cs)]] (eO s) ⟨(eG V).HJ s p ⟨w_k,dv,w_r,w_n,w_l,w_ck,w_ca,w_cb,w_cs⟩=true∧¬w_k=2,.bK [],(eO ((eG V).WV s p ⟨w_k,dv,w_r,w_n,w_l,w_ck,w_ca,w_cb,w_cs⟩)),[.one (.ptr 0 0),Any,Any]⟩:=by
 refine @bX _ _ _ _ _ ?_
 intro b gv Z zq A hA L hL
 have hgo:=NN (show jS V s p ⟨w_k,dv,w_r,w_n,w_l,w_ck,w_ca,w_cb,w_cs⟩=true from hC.1)
 have hk2:=hC.2
 have hat:=lf s.aa p
 have hcx:Vt ⟨w_k,dv,w_r,w_n,w_l,w_ck,w_ca,w_cb,w_cs⟩=⟨w_ck,w_ca,w_cb,w_cs⟩:=rfl
 have hfs:=(af.keeps oS oO (af.cons (zU hb) (af.cons (Is (V:=V)) (af.cons (oa hb) (af.cons (Cv hb) af.nil rfl) rfl) rfl) rfl))
 generalize hF:(eG V)=F at hC hfs ⊢
 generalize hG0:VoR.Fs.U=G0 at hC hfs ⊢
 generalize hG1:KsC.Kc.U=G1 at hC hfs ⊢
 generalize hG2:KsU.Ku.U=G2 at hC hfs ⊢
 generalize hG3:ViR.Vs.U=G3 at hC hfs ⊢
 generalize hG4:InT.Nf.U=G4 at hC hfs ⊢
 generalize hG5:DlT.Df.U=G5 at hC hfs ⊢
 generalize hG6:(bJ V)=G6 at hC hfs ⊢
 repeat' (first|(refine aw zq ?_;try dsimp only)|refine ax zq ?_ (ae hL)|refine az zq ?_|refine ay ?_|refine aq ?_|refine ar ?_|refine av ?_|refine au rfl ?_|refine ai rfl ?_|refine aj rfl ?_|(refine Cd.mk ?_;cbv)|(refine aE.mk ?_;cbv)|(refine aM.mk ?_;cbv)|exact trivial|refine And.intro ?_ ?_|refine bu fun _=>?_|refine br fun _=>?_)
 all_goals first|(show L _ _ _;skip)|(clear hL hfs zq Z;subst hA hF hG0 hG1 hG2 hG3 hG4 hG5 hG6;simp only [eG,bJ,VoR.Fs.U,KsC.Kc.U,Ar.U,kj] at * <;> grind [al,oY,mS,py,zB];done)
theorem qC (hb:aA Tryz.prog 33 (bH (bJ V))):aA Tryz.prog 39 (lS (eG V)):=by
 refine aG (af.keeps oS oO (af.cons (zU hb) (af.cons (Is (V:=V)) (af.cons (oa hb) (af.cons (Cv hb) af.nil rfl) rfl) rfl) rfl)) Tryz.func39 rfl rfl fun xs h p hp=>?_
 unfold lS at hp
 split at hp
 ·split at hp
  ·rename_i e0
   cases hp
   have g0:=cV e0
   subst g0
   exact⟨aB rfl,fun hC _=>@Bp V hb _ _ _ _ _ _ _ _ _ _ _ hC⟩
  ·cases hp
 ·cases hp
end Go.Proofs.YtelhldgdnlppfaaGreat.KsE
