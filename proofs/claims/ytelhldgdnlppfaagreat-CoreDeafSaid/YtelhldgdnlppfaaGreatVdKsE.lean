/-
  what a core does by an event. No condition but size.
-/
import Derived.Test.YtelhldgdnlppfaaGreatVdKsD
import Derived.Test.YtelhldgdnlppfaaGreatVdInT
import Derived.Test.YtelhldgdnlppfaaGreatVdDlT
import Derived.Test.YtelhldgdnlppfaaGreatVdW24
set_option maxHeartbeats 4000000
set_option cbv.maxSteps 4000000
set_option maxRecDepth 100000
namespace Go.Proofs.YtelhldgdnlppfaaGreat.KsE
open Go Ry ViR VoR KsS KsC KsU KsT KsD
open InT (DQ Bu)
open DlT (tu sG)
open ChQ (CH)
theorem Cm (f:Int→Bool):∀ (k:Nat) (i j:Int),i≤j→i≤mv f k i j∧mv f k i j≤j
 |0,i,j,h=>⟨Int.le_refl i,h⟩
 |k+1,i,j,h=>by
  unfold mv
  split
  ·rename_i h1
   have h2:i≤hf i j∧hf i j < j:=by unfold hf;omega
   split
   ·have:=Cm f k (hf i j+1) j (by omega)
    omega
   ·have:=Cm f k i (hf i j) (by omega)
    omega
  ·omega
theorem RR {f:Int→Bool} {n:Nat} {i j:Int} (hq:Nj f n ⟨i,j⟩) (h:¬i < j):i=RG f n:=by
 obtain⟨h0,h1,h2,h3⟩:=hq
 simp only at h0 h1 h2 h3
 rw [← h3]
 cases n with
 |zero=>rfl
 |succ n =>
  unfold mv
  rw [if_neg h]
def JE (l:List E) (p:Int) (x:Int):Bool:=decide (Cmp.iA (ri (l.getD x.toNat []) 0) p < 0)
def lW (l:List E) (p:Int):Int:=RG (JE l p) l.length
def MT (l:List E) (p:Int):Bool:=decide (lW l p < l.length) && decide (Cmp.iA (ri (l.getD (lW l p).toNat []) 0) p=0)
theorem Dg (l:List E) (p:Int):0≤lW l p∧lW l p≤l.length:=by
 unfold lW RG
 exact Cm _ _ _ _ (Int.natCast_nonneg _)
theorem Wo (l:List E) (p x:Int):JE l p x=decide (Cmp.iA (ri (l.getD x.toNat []) 0) p < 0):=rfl
def bfR (st:St):XJ:=⟨bQ st 9,bQ st 10⟩
def TL (l:List E) (p w s:Int):List E:=if MT l p=true then l.set (lW l p).toNat (Mx p w s) else l.take (lW l p).toNat ++ (Mx p w s :: l.drop (lW l p).toNat)
def Qe (d:CS) (p w s:Int):CS:={ d with ae:=TL d.ae p w s }
def PH (l:List E) (a:Int):List E:=l.take a.toNat ++ l.drop (a+1).toNat
def VP (d:CS) (p:Int):CS:={ d with ae:=PH d.ae (dn d.ae p) }
def yE (d:CS):Bool:=decide (d.ae.length≤300∧d.q.length≤70000)
def yO (L:Lv) (d:CS) (p w s:Int):Bool:=yE d && L.ok (Qe d p w s)
def QL (L:Lv) (d:CS) (p:Int):CS:=if dn d.ae p < 0 then d else L.B (VP d p)
def yg (L:Lv) (d:CS) (p:Int):Bool:=yE d && (decide (dn d.ae p < 0) || L.ok (VP d p))
def Bd (L:Lv) (d:CS) (a k:Int):CS :=
 if (fv k (tie d a)).tb=true∧d.o=true then aR (aR d a (fv k (tie d a))) a (oL (tie (aR d a (fv k (tie d a))) a))
 else if (fv k (tie d a)).tb=true∨(fv k (tie d a)).tp=true then L.B (aR d a (fv k (tie d a)))
 else if (fv k (tie d a)).tf=true then gu L (aR d a (fv k (tie d a)))
 else aR d a (fv k (tie d a))
def AH (L:Lv) (d:CS) (a k:Int):Bool:=decide (0≤a∧a < d.ae.length∧d.ae.length≤300∧d.q.length≤70000) &&
 (((!((fv k (tie d a)).tb || (fv k (tie d a)).tp)) || (((fv k (tie d a)).tb && d.o) || L.ok (aR d a (fv k (tie d a))))) && (!(fv k (tie d a)).tf || gL L (aR d a (fv k (tie d a)))))
theorem WT {L:Lv} {d:CS} {a k:Int} (h:AH L d a k=true):(0≤a∧a < d.ae.length∧d.ae.length≤300∧d.q.length≤70000) ∧
  ((fv k (tie d a)).tb=true→d.o=true→Bd L d a k=aR (aR d a (fv k (tie d a))) a (oL (tie (aR d a (fv k (tie d a))) a))) ∧
  ((fv k (tie d a)).tb=true→d.o=false→L.ok (aR d a (fv k (tie d a)))=true∧Bd L d a k=L.B (aR d a (fv k (tie d a)))) ∧
  ((fv k (tie d a)).tb=false→(fv k (tie d a)).tp=true→L.ok (aR d a (fv k (tie d a)))=true∧Bd L d a k=L.B (aR d a (fv k (tie d a)))) ∧
  ((fv k (tie d a)).tb=false→(fv k (tie d a)).tp=false→(fv k (tie d a)).tf=true→gL L (aR d a (fv k (tie d a)))=true∧Bd L d a k=gu L (aR d a (fv k (tie d a)))) ∧
  ((fv k (tie d a)).tb=false→(fv k (tie d a)).tp=false→(fv k (tie d a)).tf=false→Bd L d a k=aR d a (fv k (tie d a))):=by
 unfold AH at h
 unfold Bd
 generalize (fv k (tie d a)).tb=x at *
 generalize (fv k (tie d a)).tp=y at *
 generalize (fv k (tie d a)).tf=z at *
 generalize d.o=o at *
 cases x <;> cases y <;> cases z <;> cases o <;> simp_all
def VC (w:WK):CH:=⟨w.ck,w.ca,w.cb,w.cs⟩
def fQ (L:Lv) (d:CS) (p:Int) (w:WK):CS :=
 if dn d.ae p < 0 then d
 else if w.k=4∨w.k=5∨w.k=6∨w.k=7 then Bd L d (dn d.ae p) w.k
 else if d.o=true then d
 else if w.k=1 then (if rb (tie d (dn d.ae p)) 5=true∧0 < VG w.e w.r d.ee d.er then gu L (fY d w.e w.r p) else d)
 else if w.k=3 then (if w.e=d.ee∧w.r=d.er∧d.ph=2∧d.p=p then AO L d (VC w) w.n w.l else d)
 else d
def jg (L:Lv) (d:CS) (p:Int) (w:WK):Bool:=(yE d && decide (w.n.length≤1000∧w.l.length≤1000)) && (decide (dn d.ae p < 0) || ((!decide (w.k=4∨w.k=5∨w.k=6∨w.k=7) || AH L d (dn d.ae p) w.k) && ((!decide (w.k=1∧rb (tie d (dn d.ae p)) 5=true∧0 < VG w.e w.r d.ee d.er∧d.o=false) || gC L d w.e w.r p) && (!decide (w.k=3∧w.e=d.ee∧w.r=d.er∧d.ph=2∧d.p=p∧d.o=false) || sM L d (VC w) w.n w.l))))
theorem MF {L:Lv} {d:CS} {p:Int} {w:WK} (h:jg L d p w=true):(d.ae.length≤300∧d.q.length≤70000)∧(w.n.length≤1000∧w.l.length≤1000)∧(dn d.ae p < 0→fQ L d p w=d) ∧
  (¬dn d.ae p < 0→(w.k=4∨w.k=5∨w.k=6∨w.k=7)→AH L d (dn d.ae p) w.k=true∧fQ L d p w=Bd L d (dn d.ae p) w.k) ∧
  (¬dn d.ae p < 0→¬(w.k=4∨w.k=5∨w.k=6∨w.k=7)→d.o=true→fQ L d p w=d) ∧
  (¬dn d.ae p < 0→w.k=1→d.o=false→rb (d.ae.getD (dn d.ae p).toNat []) 5=true→0 < VG w.e w.r d.ee d.er→gC L d w.e w.r p=true∧fQ L d p w=gu L (fY d w.e w.r p)) ∧
  (w.k=1→rb (d.ae.getD (dn d.ae p).toNat []) 5=false→fQ L d p w=d)∧(w.k=1→¬0 < VG w.e w.r d.ee d.er→fQ L d p w=d) ∧
  (¬dn d.ae p < 0→w.k=3→d.o=false→w.e=d.ee→w.r=d.er→d.ph=2→d.p=p→sM L d (VC w) w.n w.l=true∧fQ L d p w=AO L d (VC w) w.n w.l) ∧
  (w.k=3→¬(w.e=d.ee∧w.r=d.er∧d.ph=2∧d.p=p)→fQ L d p w=d)∧(¬w.k=1→¬w.k=3→¬(w.k=4∨w.k=5∨w.k=6∨w.k=7)→fQ L d p w=d):=by
 unfold jg yE at h
 simp only [Bool.and_eq_true,Bool.or_eq_true,Bool.not_eq_true',decide_eq_true_eq,decide_eq_false_iff_not] at h
 obtain⟨⟨h1,h2⟩,h3⟩:=h
 unfold fQ
 refine⟨h1,h2,fun e=>if_pos e,fun e1 e2=>?_,fun e1 e2 e3=>?_,fun e1 e2 e3 e4 e5=>?_,fun e1 e2=>?_,fun e1 e2=>?_,fun e1 e2 e3 e4 e5 e6 e7=>?_,fun e1 e2=>?_,fun e1 e2 e3=>?_⟩
 ·rw [if_neg e1,if_pos e2]
  rcases h3 with h3|h3
  ·exact absurd h3 e1
  ·exact⟨h3.1.resolve_left fun q=>q e2,rfl⟩
 ·rw [if_neg e1,if_neg e2,if_pos e3]
 ·rw [if_neg e1,if_neg (by omega),if_neg (by rw [e3];decide),if_pos e2,if_pos ⟨e4,e5⟩]
  rcases h3 with h3|h3
  ·exact absurd h3 e1
  ·exact⟨h3.2.1.resolve_left fun q=>q ⟨e2,e4,e5,e3⟩,rfl⟩
 ·by_cases g:dn d.ae p < 0
  ·rw [if_pos g]
  ·rw [if_neg g,if_neg (by omega)]
   by_cases ho:d.o=true
   ·rw [if_pos ho]
   ·rw [if_neg ho,if_pos e1,if_neg (fun q=>by have:rb (tie d (dn d.ae p)) 5=false:=e2;rw [this] at q;cases q.1)]
 ·by_cases g:dn d.ae p < 0
  ·rw [if_pos g]
  ·rw [if_neg g,if_neg (by omega)]
   by_cases ho:d.o=true
   ·rw [if_pos ho]
   ·rw [if_neg ho,if_pos e1,if_neg (fun q=>e2 q.2)]
 ·rw [if_neg e1,if_neg (by omega),if_neg (by rw [e3];decide),if_neg (by omega),if_pos e2,if_pos ⟨e4,e5,e6,e7⟩]
  rcases h3 with h3|h3
  ·exact absurd h3 e1
  ·exact⟨h3.2.2.resolve_left fun q=>q ⟨e2,e4,e5,e6,e7,e3⟩,rfl⟩
 ·by_cases g:dn d.ae p < 0
  ·rw [if_pos g]
  ·rw [if_neg g,if_neg (by omega)]
   by_cases ho:d.o=true
   ·rw [if_pos ho]
   ·rw [if_neg ho,if_neg (by omega),if_pos e1,if_neg e2]
 ·by_cases g:dn d.ae p < 0
  ·rw [if_pos g]
  ·rw [if_neg g,if_neg e3]
   by_cases ho:d.o=true
   ·rw [if_pos ho]
   ·rw [if_neg ho,if_neg e1,if_neg e2]
theorem RZ (l:List E) (p _ _:Int):MT l p=true→lW l p < l.length:=fun h=>by
 unfold MT at h
 rw [Bool.and_eq_true] at h
 exact of_decide_eq_true h.1
theorem aap {l:List E} {p w s:Int} (h:MT l p=true):TL l p w s=l.set (lW l p).toNat [.int p,.int w,.int s,.int 0,.bool false,.bool false,.int 0]:=if_pos h
theorem aaL {l:List E} {p w s:Int} (h:MT l p=false):TL l p w s=l.take (lW l p).toNat ++ ([.int p,.int w,.int s,.int 0,.bool false,.bool false,.int 0] :: l.drop (lW l p).toNat):=if_neg (by rw [h];decide)
theorem YE {L:Lv} {d:CS} {p w s:Int} (h:yO L d p w s=true):(d.ae.length≤300∧d.q.length≤70000)∧L.ok ⟨d.i,d.ee,d.er,d.t,d.p,TL d.ae p w s,d.w,d.gn,d.gl,d.ph,d.tn,d.tl,d.l,d.o,d.q⟩=true:=by
 unfold yO yE at h
 rw [Bool.and_eq_true,decide_eq_true_eq] at h
 exact h
theorem YO {L:Lv} {d:CS} {p:Int} (h:yg L d p=true):(d.ae.length≤300∧d.q.length≤70000)∧(dn d.ae p < 0→QL L d p=d)∧(¬dn d.ae p < 0→L.ok ⟨d.i,d.ee,d.er,d.t,d.p,PH d.ae (dn d.ae p),d.w,d.gn,d.gl,d.ph,d.tn,d.tl,d.l,d.o,d.q⟩=true∧QL L d p=L.B ⟨d.i,d.ee,d.er,d.t,d.p,PH d.ae (dn d.ae p),d.w,d.gn,d.gl,d.ph,d.tn,d.tl,d.l,d.o,d.q⟩):=by
 unfold yg yE at h
 rw [Bool.and_eq_true,decide_eq_true_eq,Bool.or_eq_true,decide_eq_true_eq] at h
 unfold QL
 exact⟨h.1,fun e=>if_pos e,fun e=>⟨h.2.resolve_left e,if_neg e⟩⟩
structure Ke where
 Xc:Int→Int→Int→Int→Int
 Aw:Int→Int→Int
 Zg:List E→Int→Int
 Wj:List E→Int→Bool
 TP:List E→Bool
 JY:CS→Int→Int→Int→Bool
 ZE:CS→Int→Int→Int→CS
 Ly:CS→Int→Bool
 Ys:CS→Int→CS
 HF:CS→Int→Int→Bool
 Xf:CS→Int→Int→CS
 Hp:CS→Int→WK→Bool
 Wp:CS→Int→WK→CS
def eE (L:Lv):Ke:=⟨VG,Cmp.iA,lW,MT,fun l=>decide (l.length≤1000),yO L,fun d p w s=>L.B (Qe d p w s),yg L,QL L,AH L,Bd L,jg L,fQ L⟩
variable {V:Lv}
theorem bY {l:List (Nat × aZ)} {fn:Func} {args:List SA} {h:H} {p:qm} (hd:∀ (b:Bs) (gv:List Value) (Z:(Ex→St→Prop)→Ex→St→Prop) (_:∀ K,Z K=K) (A:Ar) (_:Ar.U=A) (L:Code→St→(Ex→St→Prop)→Prop) (_:Lp Tryz.prog b gv=L),Cd A (wz l) L (pn fn) (Ry.start fn.ntmps args h) (Z fun e s'=>aJ A (wz l) fn.results.toList p e s')):aU l fn args h p:=fun b gv=>@aD _ _ _ _ _ _ _ (aa rfl) _ _ (fun _=>rfl) rfl (hd b gv id (fun _=>rfl) _ rfl _ rfl)
noncomputable def Lj (F:Ke):aZ:=fun xs h=>match xs,h with
 |[.agg [.val (.int .i64 a_e),.val (.int .i64 a_r)],.agg [.val (.int .i64 d_e),.val (.int .i64 d_r)]],[]=>some ⟨True,.sa (I (F.Xc a_e a_r d_e d_r)),[],[Any,Any]⟩
 |_,_=>none
theorem Xi (a_e:Int) (a_r:Int) (d_e:Int) (d_r:Int):aU [(104,iJ ViR.Vs.U),(111,qd ViR.Vs.U)] Tryz.f71 [.agg [.val (.int .i64 a_e),.val (.int .i64 a_r)],.agg [.val (.int .i64 d_e),.val (.int .i64 d_r)]] [] ⟨True,.sa (I ((eE V).Xc a_e a_r d_e d_r)),[],[Any,Any]⟩:=by
 refine @bY _ _ _ _ _ ?_
 intro b gv Z zq A hA L hL
 have hfs:=(af.cons gE (af.cons po af.nil rfl) rfl)
 generalize hF:(eE V)=F at hfs ⊢
 generalize hG0:VoR.Fs.U=G0 at hfs ⊢
 generalize hG1:KsC.Kc.U=G1 at hfs ⊢
 generalize hG2:KsU.Ku.U=G2 at hfs ⊢
 generalize hG3:ViR.Vs.U=G3 at hfs ⊢
 generalize hG4:InT.Nf.U=G4 at hfs ⊢
 generalize hG5:DlT.Df.U=G5 at hfs ⊢
 generalize hG6:(bK V)=G6 at hfs ⊢
 repeat' (first|(refine ay zq ?_;try dsimp only)|refine ax zq ?_ (aa hL)|refine aw zq ?_|refine az ?_|refine av ?_|refine au ?_|refine aq ?_|refine ar rfl ?_|refine ai rfl ?_|refine aj rfl ?_|(refine Cd.mk ?_;cbv)|(refine aE.mk ?_;cbv)|(refine aJ.mk ?_;cbv)|exact trivial|refine And.intro ?_ ?_|refine bn fun _=>?_|refine bo fun _=>?_)
 all_goals
  clear hL zq Z
  try clear hfs
  subst hA hF hG0 hG1 hG2 hG3 hG4 hG5 hG6
  simp only [eE,ViR.Vs.U] at *
  try (grind [al,VG,Cmp.iA,Cmp.jt])
theorem Hz:aA Tryz.prog 71 (Lj (eE V)):=by
 refine aG (af.cons gE (af.cons po af.nil rfl) rfl) Tryz.func71 rfl rfl fun xs h p hp=>?_
 unfold Lj at hp
 split at hp
 ·cases hp
  exact⟨aB rfl,fun _ _=>@Xi V _ _ _ _⟩
 ·cases hp
noncomputable def JH (F:Ke):aZ:=fun xs h=>match xs,h with
 |[.agg [.val (.int .i64 a_p),.val (.int .i64 _),.val (.int .i64 _),.val (.int .i64 _),.val (.bool _),.val (.bool _),.val (.int .i64 _)],.agg [.val (.int .i64 d_p),.val (.int .i64 _),.val (.int .i64 _),.val (.int .i64 _),.val (.bool _),.val (.bool _),.val (.int .i64 _)]],[]=>some ⟨True,.sa (I (F.Aw a_p d_p)),[],[Any,Any]⟩
 |_,_=>none
theorem Zb (a_p:Int) (a_w:Int) (a_s:Int) (a_m:Int) (a_t:Bool) (a_b:Bool) (a_o:Int) (d_p:Int) (d_w:Int) (d_s:Int) (d_m:Int) (d_t:Bool) (d_b:Bool) (d_o:Int):aU [(104,iJ ViR.Vs.U)] Tryz.f66 [.agg [.val (.int .i64 a_p),.val (.int .i64 a_w),.val (.int .i64 a_s),.val (.int .i64 a_m),.val (.bool a_t),.val (.bool a_b),.val (.int .i64 a_o)],.agg [.val (.int .i64 d_p),.val (.int .i64 d_w),.val (.int .i64 d_s),.val (.int .i64 d_m),.val (.bool d_t),.val (.bool d_b),.val (.int .i64 d_o)]] [] ⟨True,.sa (I ((eE V).Aw a_p d_p)),[],[Any,Any]⟩:=by
 refine @bY _ _ _ _ _ ?_
 intro b gv Z zq A hA L hL
 have hfs:=(af.cons gE af.nil rfl)
 generalize hF:(eE V)=F at hfs ⊢
 generalize hG0:VoR.Fs.U=G0 at hfs ⊢
 generalize hG1:KsC.Kc.U=G1 at hfs ⊢
 generalize hG2:KsU.Ku.U=G2 at hfs ⊢
 generalize hG3:ViR.Vs.U=G3 at hfs ⊢
 generalize hG4:InT.Nf.U=G4 at hfs ⊢
 generalize hG5:DlT.Df.U=G5 at hfs ⊢
 generalize hG6:(bK V)=G6 at hfs ⊢
 repeat' (first|(refine ay zq ?_;try dsimp only)|refine ax zq ?_ (aa hL)|refine aw zq ?_|refine az ?_|refine av ?_|refine au ?_|refine aq ?_|refine ar rfl ?_|refine ai rfl ?_|refine aj rfl ?_|(refine Cd.mk ?_;cbv)|(refine aE.mk ?_;cbv)|(refine aJ.mk ?_;cbv)|exact trivial|refine And.intro ?_ ?_|refine bn fun _=>?_|refine bo fun _=>?_)
 all_goals
  clear hL zq Z
  try clear hfs
  subst hA hF hG0 hG1 hG2 hG3 hG4 hG5 hG6
  simp only [eE,ViR.Vs.U] at *
  try (grind [al])
theorem Ik:aA Tryz.prog 66 (JH (eE V)):=by
 refine aG (af.cons gE af.nil rfl) Tryz.func66 rfl rfl fun xs h p hp=>?_
 unfold JH at hp
 split at hp
 ·cases hp
  exact⟨aB rfl,fun _ _=>@Zb V _ _ _ _ _ _ _ _ _ _ _ _ _ _⟩
 ·cases hp
noncomputable def sv (F:Ke):aZ:=fun xs h=>match xs,h with
 |[.one (.sl none (.ah (.int .i64 (.int .i64 (.int .i64 (.int .i64 (.bool (.bool (.int .i64 .nil))))))) l)),.agg [.val (.int .i64 t_p),.val (.int .i64 _),.val (.int .i64 _),.val (.int .i64 _),.val (.bool _),.val (.bool _),.val (.int .i64 _)],.one (.val (.func (.func 66) ⟨[]⟩ ⟨[]⟩))],[]=>some ⟨F.TP l=true,.bJ [I (F.Zg l t_p),B (F.Wj l t_p)],[],[Any,Any,Any]⟩
 |_,_=>none
theorem LR (l:List E) (t_p:Int) (uj:Int) (t_s:Int) (t_m:Int) (t_t:Bool) (t_b:Bool) (t_o:Int) (hC:(eE V).TP l=true):aU [(66,JH (eE V))] Tryz.f65 [.one (.sl none (.ah (.int .i64 (.int .i64 (.int .i64 (.int .i64 (.bool (.bool (.int .i64 .nil))))))) l)),.agg [.val (.int .i64 t_p),.val (.int .i64 uj),.val (.int .i64 t_s),.val (.int .i64 t_m),.val (.bool t_t),.val (.bool t_b),.val (.int .i64 t_o)],.one (.val (.func (.func 66) ⟨[]⟩ ⟨[]⟩))] [] ⟨(eE V).TP l=true,.bJ [I ((eE V).Zg l t_p),B ((eE V).Wj l t_p)],[],[Any,Any,Any]⟩:=by
 refine @bY _ _ _ _ _ ?_
 intro b gv Z zq A hA L hL
 have hk0:l.length≤1000:=of_decide_eq_true (show decide (l.length≤1000)=true from hC)
 have hk:l.length≤1000000:=by omega
 have hpi:=Dg l t_p
 have hfs:=(af.cons (Ik (V:=V)) af.nil rfl)
 generalize hF:(eE V)=F at hC hfs ⊢
 generalize hG0:VoR.Fs.U=G0 at hC hfs ⊢
 generalize hG1:KsC.Kc.U=G1 at hC hfs ⊢
 generalize hG2:KsU.Ku.U=G2 at hC hfs ⊢
 generalize hG3:ViR.Vs.U=G3 at hC hfs ⊢
 generalize hG4:InT.Nf.U=G4 at hC hfs ⊢
 generalize hG5:DlT.Df.U=G5 at hC hfs ⊢
 generalize hG6:(bK V)=G6 at hC hfs ⊢
 repeat' (first|(refine ay zq ?_;try dsimp only)|refine ax zq ?_ (aa hL)|refine aw zq ?_|refine az ?_|refine av ?_|refine au ?_|refine aq ?_|refine ar rfl ?_|refine ai rfl ?_|refine aj rfl ?_|(refine Cd.mk ?_;cbv)|(refine aE.mk ?_;cbv)|(refine aJ.mk ?_;cbv)|exact trivial|refine And.intro ?_ ?_|refine bn fun _=>?_|refine bo fun _=>?_)
 subst hL
 refine aX (br hfs) (Nj (JE l t_p) l.length) (fun y=>cg Tryz.f65.ntmps [(0,.sl none (.ah (.int .i64 (.int .i64 (.int .i64 (.int .i64 (.bool (.bool (.int .i64 .nil))))))) l)),(2,.val (.func (.func 66) ⟨[]⟩ ⟨[]⟩)),(4,.ptr 1 0),(8,.val (.int .i64 (A.dK l))),(9,.val (.int .i64 y.i)),(10,.val (.int .i64 y.j))] [(1,.cells 58 [.val (.int .i64 t_p),.val (.int .i64 uj),.val (.int .i64 t_s),.val (.int .i64 t_m),.val (.bool t_t),.val (.bool t_b),.val (.int .i64 t_o)])] [Any,Any,Any]) (LL) bfR ⟨0,A.dK l⟩ ?_ ?_ ?_
 ·(subst hA;exact xA _ _)
 ·cbv
  repeat' (first|exact trivial|exact rfl|refine And.intro ?_ ?_)
 rintro⟨i,j⟩ hq O hO
 have hst:=fun h=>wJ hk hq h
 have hen:=fun h=>RR hq h
 have hlt:=Wo l t_p (hf i j)
 have q0:=hq.1
 have q1:=hq.2.1
 have q2:=hq.2.2.1
 have hpo:lW l t_p=RG (JE l t_p) l.length:=rfl
 have hfd:MT l t_p=(decide (lW l t_p < l.length) && decide (Cmp.iA (ri (l.getD (lW l t_p).toNat []) 0) t_p=0)):=rfl
 dsimp only at q0 q1 q2
 subst hA
 generalize hA:Ar.U=A
 generalize hL:Lp _ _ _=L
 refine aO zq ?_
 repeat' (first|(refine ay zq ?_;try dsimp only)|refine ax zq ?_ (aa hL)|refine aw zq ?_|refine az ?_|refine av ?_|refine au ?_|refine aq ?_|refine ar rfl ?_|refine ai rfl ?_|refine aj rfl ?_|(refine Cd.mk ?_;cbv)|(refine aE.mk ?_;cbv)|(refine aJ.mk ?_;cbv)|exact trivial|refine And.intro ?_ ?_|refine bn fun _=>?_|refine bo fun _=>?_)
 all_goals first|(show L _ _ _;skip)|(clear hL hfs zq Z hq;subst hA hF hG0 hG1 hG2 hG3 hG4 hG5 hG6 hO;simp only [eE,Ar.U] at * <;> grind [al,pG,nF,px,yE];done)
theorem sS:aA Tryz.prog 65 (sv (eE V)):=by
 refine aG (af.cons (Ik (V:=V)) af.nil rfl) Tryz.func65 rfl rfl fun xs h p hp=>?_
 unfold sv at hp
 split at hp
 ·cases hp
  exact⟨aB rfl,fun hC _=>@LR V _ _ _ _ _ _ _ _ hC⟩
 ·cases hp
noncomputable def UY (F:Ke):aZ:=fun xs h=>match xs with
 |[.one (.ptr 0 0),.agg [.val (.int .i64 _),.val (.int .i64 v_p),.val (.int .i64 v_w),.val (.int .i64 uS),.val (.int .i64 _),.val (.int .i64 _),.val (.int .i64 _),.sl none (.ints .i64 _),.sl none (.ah (.int .i64 (.int .i64 (.int .i64 (.int .i64 (.bool .nil))))) _),.val (.int .i64 _),.val (.int .i64 _),.val (.int .i64 _),.val (.int .i64 _)]]=>(match vV h with
  |some s=>some ⟨F.JY s v_p v_w uS=true,.bJ [],(eN (F.ZE s v_p v_w uS)),[.one (.ptr 0 0),Any]⟩
  |none=>none)
 |_=>none
theorem aaC (hb:aA Tryz.prog 33 (bH (bK V))) (Po:Int) (v_p:Int) (v_w:Int) (uS:Int) (v_xk:Int) (v_xe:Int) (v_xr:Int) (v_xn:List Int) (v_xl:List E) (v_xck:Int) (v_xca:Int) (v_xcb:Int) (v_xcs:Int) (s:CS) (hC:(eE V).JY s v_p v_w uS=true):aU [(65,sv (eE V)),(67,DQ InT.Nf.U),(33,bH (bK V))] Tryz.f37 [.one (.ptr 0 0),.agg [.val (.int .i64 Po),.val (.int .i64 v_p),.val (.int .i64 v_w),.val (.int .i64 uS),.val (.int .i64 v_xk),.val (.int .i64 v_xe),.val (.int .i64 v_xr),.sl none (.ints .i64 v_xn),.sl none (.ah (.int .i64 (.int .i64 (.int .i64 (.int .i64 (.bool .nil))))) v_xl),.val (.int .i64 v_xck),.val (.int .i64 v_xca),.val (.int .i64 v_xcb),.val (.int .i64 v_xcs)]] (eN s) ⟨(eE V).JY s v_p v_w uS=true,.bJ [],(eN ((eE V).ZE s v_p v_w uS)),[.one (.ptr 0 0),Any]⟩:=by
 refine @bY _ _ _ _ _ ?_
 intro b gv Z zq A hA L hL
 have hgo:=YE (show yO V s v_p v_w uS=true from hC)
 have hpi:=Dg s.ae v_p
 have hul:=RZ s.ae v_p v_w uS
 have hu1:=fun h=>aap (l:=s.ae) (p:=v_p) (w:=v_w) (s:=uS) h
 have hu2:=fun h=>aaL (l:=s.ae) (p:=v_p) (w:=v_w) (s:=uS) h
 have hus:Qe s v_p v_w uS=⟨s.i,s.ee,s.er,s.t,s.p,TL s.ae v_p v_w uS,s.w,s.gn,s.gl,s.ph,s.tn,s.tl,s.l,s.o,s.q⟩:=rfl
 have hfs:=(af.cons (sS (V:=V)) (af.cons Bu (af.cons hb af.nil rfl) rfl) rfl)
 generalize hF:(eE V)=F at hC hfs ⊢
 generalize hG0:VoR.Fs.U=G0 at hC hfs ⊢
 generalize hG1:KsC.Kc.U=G1 at hC hfs ⊢
 generalize hG2:KsU.Ku.U=G2 at hC hfs ⊢
 generalize hG3:ViR.Vs.U=G3 at hC hfs ⊢
 generalize hG4:InT.Nf.U=G4 at hC hfs ⊢
 generalize hG5:DlT.Df.U=G5 at hC hfs ⊢
 generalize hG6:(bK V)=G6 at hC hfs ⊢
 repeat' (first|(refine ay zq ?_;try dsimp only)|refine ax zq ?_ (aa hL)|refine aw zq ?_|refine az ?_|refine av ?_|refine au ?_|refine aq ?_|refine ar rfl ?_|refine ai rfl ?_|refine aj rfl ?_|(refine Cd.mk ?_;cbv)|(refine aE.mk ?_;cbv)|(refine aJ.mk ?_;cbv)|exact trivial|refine And.intro ?_ ?_|refine bn fun _=>?_|refine bo fun _=>?_)
 all_goals first|(show L _ _ _;skip)|(clear hL hfs zq Z;subst hA hF hG0 hG1 hG2 hG3 hG4 hG5 hG6;simp only [eE,bK,InT.Nf.U,Ar.U] at * <;> grind [al,pG,nF,px,yE];done)
theorem YV (hb:aA Tryz.prog 33 (bH (bK V))):aA Tryz.prog 37 (UY (eE V)):=by
 refine aG (af.cons (sS (V:=V)) (af.cons Bu (af.cons hb af.nil rfl) rfl) rfl) Tryz.func37 rfl rfl fun xs h p hp=>?_
 unfold UY at hp
 split at hp
 ·split at hp
  ·rename_i e0
   cases hp
   have g0:=cT e0
   subst g0
   exact⟨aB rfl,fun hC _=>@aaC V hb _ _ _ _ _ _ _ _ _ _ _ _ _ _ hC⟩
  ·cases hp
 ·cases hp
noncomputable def BA (F:Ke):aZ:=fun xs h=>match xs with
 |[.one (.ptr 0 0),.one (.val (.int .i64 p))]=>(match vV h with
  |some s=>some ⟨F.Ly s p=true,.bJ [],(eN (F.Ys s p)),[.one (.ptr 0 0),Any]⟩
  |none=>none)
 |_=>none
theorem SO (hb:aA Tryz.prog 33 (bH (bK V))) (p:Int) (s:CS) (hC:(eE V).Ly s p=true):aU [(68,sO KsC.Kc.U),(bG 68,fy),(69,tu DlT.Df.U),(33,bH (bK V))] Tryz.f38 [.one (.ptr 0 0),.one (.val (.int .i64 p))] (eN s) ⟨(eE V).Ly s p=true,.bJ [],(eN ((eE V).Ys s p)),[.one (.ptr 0 0),Any]⟩:=by
 refine @bY _ _ _ _ _ ?_
 intro b gv Z zq A hA L hL
 have hgo:=YO (show yg V s p=true from hC)
 have hat:=lI s.ae p
 have hdl:PH s.ae (dn s.ae p)=s.ae.take (dn s.ae p).toNat ++ s.ae.drop (dn s.ae p+1).toNat:=rfl
 have hin:0≤dn s.ae p→s.ae.length≤300→aN .add .i64 (dn s.ae p) 1=dn s.ae p+1:=fun h1 h2=>by rw [bp,wr _ (by omega) (by omega)]
 have hfs:=(af.keeps pb oW (af.cons sG (af.cons hb af.nil rfl) rfl))
 generalize hF:(eE V)=F at hC hfs ⊢
 generalize hG0:VoR.Fs.U=G0 at hC hfs ⊢
 generalize hG1:KsC.Kc.U=G1 at hC hfs ⊢
 generalize hG2:KsU.Ku.U=G2 at hC hfs ⊢
 generalize hG3:ViR.Vs.U=G3 at hC hfs ⊢
 generalize hG4:InT.Nf.U=G4 at hC hfs ⊢
 generalize hG5:DlT.Df.U=G5 at hC hfs ⊢
 generalize hG6:(bK V)=G6 at hC hfs ⊢
 repeat' (first|(refine ay zq ?_;try dsimp only)|refine ax zq ?_ (aa hL)|refine aw zq ?_|refine az ?_|refine av ?_|refine au ?_|refine aq ?_|refine ar rfl ?_|refine ai rfl ?_|refine aj rfl ?_|(refine Cd.mk ?_;cbv)|(refine aE.mk ?_;cbv)|(refine aJ.mk ?_;cbv)|exact trivial|refine And.intro ?_ ?_|refine bn fun _=>?_|refine bo fun _=>?_)
 all_goals first|(show L _ _ _;skip)|(clear hL hfs zq Z;subst hA hF hG0 hG1 hG2 hG3 hG4 hG5 hG6;simp only [eE,bK,VoR.Fs.U,KsC.Kc.U,DlT.Df.U,Ar.U,hN] at * <;> grind [al,pG,nF,px,yE];done)
theorem NX (hb:aA Tryz.prog 33 (bH (bK V))):aA Tryz.prog 38 (BA (eE V)):=by
 refine aG (af.keeps pb oW (af.cons sG (af.cons hb af.nil rfl) rfl)) Tryz.func38 rfl rfl fun xs h p hp=>?_
 unfold BA at hp
 split at hp
 ·split at hp
  ·rename_i e0
   cases hp
   have g0:=cT e0
   subst g0
   exact⟨aB rfl,fun hC _=>@SO V hb _ _ hC⟩
  ·cases hp
 ·cases hp
noncomputable def Aj (F:Ku):aZ:=rL (wN F) (nr F)
theorem wa:aA Tryz.prog 74 (Aj KsU.Ku.U):=Ao GN tM
noncomputable def yp (F:Ke):aZ:=fun xs h=>match xs with
 |[.one (.ptr 0 0),.one (.val (.int .i64 a)),.one (.val (.int .i64 k))]=>(match vV h with
  |some s=>some ⟨F.HF s a k=true,.bJ [],(eN (F.Xf s a k)),[.one (.ptr 0 0),Any,Any]⟩
  |none=>none)
 |_=>none
theorem Mm (hb:aA Tryz.prog 33 (bH (bK V))) (a:Int) (k:Int) (s:CS) (hC:(eE V).HF s a k=true):aU [(74,Aj KsU.Ku.U),(33,bH (bK V)),(97,rP (bK V))] Tryz.f70 [.one (.ptr 0 0),.one (.val (.int .i64 a)),.one (.val (.int .i64 k))] (eN s) ⟨(eE V).HF s a k=true,.bJ [],(eN ((eE V).Xf s a k)),[.one (.ptr 0 0),Any,Any]⟩:=by
 refine @bY _ _ _ _ _ ?_
 intro b gv Z zq A hA L hL
 have hgo:=WT (show AH V s a k=true from hC)
 have htl:=fun r h=>(Da s a r h)
 have hwl:(fv k (tie s a)).w.length≤1:=(pU _ _ _ _ k).2.2.2
 have hfs:=(af.cons wa (af.cons hb (af.cons (kL hb) af.nil rfl) rfl) rfl)
 generalize hF:(eE V)=F at hC hfs ⊢
 generalize hG0:VoR.Fs.U=G0 at hC hfs ⊢
 generalize hG1:KsC.Kc.U=G1 at hC hfs ⊢
 generalize hG2:KsU.Ku.U=G2 at hC hfs ⊢
 generalize hG3:ViR.Vs.U=G3 at hC hfs ⊢
 generalize hG4:InT.Nf.U=G4 at hC hfs ⊢
 generalize hG5:DlT.Df.U=G5 at hC hfs ⊢
 generalize hG6:(bK V)=G6 at hC hfs ⊢
 repeat' (first|(refine ay zq ?_;try dsimp only)|refine ax zq ?_ (aa hL)|refine aw zq ?_|refine az ?_|refine av ?_|refine au ?_|refine aq ?_|refine ar rfl ?_|refine ai rfl ?_|refine aj rfl ?_|(refine Cd.mk ?_;cbv)|(refine aE.mk ?_;cbv)|(refine aJ.mk ?_;cbv)|exact trivial|refine And.intro ?_ ?_|refine bn fun _=>?_|refine bo fun _=>?_)
 all_goals first|(show L _ _ _;skip)|(clear hL hfs zq Z;subst hA hF hG0 hG1 hG2 hG3 hG4 hG5 hG6;simp only [eE,bK,VoR.Fs.U,KsU.Ku.U,Ar.U,hN] at * <;> (try simp only [uI,lr,lj,uy,uD,uK,lF,lh,lk,lE,ll,ux,uF] at *) <;> first|(have hsl:=ma s a (fv k (tie s a));generalize aR s a (fv k (tie s a))=Y at hsl ⊢;rcases Y with ⟨_,_,_,_,_,y6,_,_,_,_,_,_,_,_,_⟩;rcases s with ⟨_,_,_,_,_,s6,_,_,_,_,_,_,_,_,_⟩;cases y6 <;> cases s6 <;> first|exact congrArg Int.ofNat hsl|(exfalso;simp at hsl;done))|(have hsl:=ma (aR s a (fv k (tie s a))) a (oL (tie (aR s a (fv k (tie s a))) a));generalize aR (aR s a (fv k (tie s a))) a (oL (tie (aR s a (fv k (tie s a))) a))=Y at hsl ⊢;generalize aR s a (fv k (tie s a))=X at hsl ⊢;rcases Y with ⟨_,_,_,_,_,y6,_,_,_,_,_,_,_,_,_⟩;rcases X with ⟨_,_,_,_,_,x6,_,_,_,_,_,_,_,_,_⟩;cases y6 <;> cases x6 <;> first|exact congrArg Int.ofNat hsl|(exfalso;simp at hsl;done))|grind [al,pG,nF,px,yE,uI,lr,lj,uy,uD,uK,lF,lh,lk,lE,ll,ux,uF];done)
theorem AA (hb:aA Tryz.prog 33 (bH (bK V))):aA Tryz.prog 70 (yp (eE V)):=by
 refine aG (af.cons wa (af.cons hb (af.cons (kL hb) af.nil rfl) rfl) rfl) Tryz.func70 rfl rfl fun xs h p hp=>?_
 unfold yp at hp
 split at hp
 ·split at hp
  ·rename_i e0
   cases hp
   have g0:=cT e0
   subst g0
   exact⟨aB rfl,fun hC _=>@Mm V hb _ _ _ hC⟩
  ·cases hp
 ·cases hp
noncomputable def mc (F:Ke):aZ:=fun xs h=>match xs with
 |[.one (.ptr 0 0),.one (.val (.int .i64 p)),.agg [.val (.int .i64 w_k),.val (.int .i64 du),.val (.int .i64 w_r),.sl none (.ints .i64 w_n),.sl none (.ah (.int .i64 (.int .i64 (.int .i64 (.int .i64 (.bool .nil))))) w_l),.val (.int .i64 w_ck),.val (.int .i64 w_ca),.val (.int .i64 w_cb),.val (.int .i64 w_cs)]]=>(match vV h with
  |some s=>some ⟨F.Hp s p ⟨w_k,du,w_r,w_n,w_l,w_ck,w_ca,w_cb,w_cs⟩=true∧¬w_k=2,.bJ [],(eN (F.Wp s p ⟨w_k,du,w_r,w_n,w_l,w_ck,w_ca,w_cb,w_cs⟩)),[.one (.ptr 0 0),Any,Any]⟩
  |none=>none)
 |_=>none
theorem BY (hb:aA Tryz.prog 33 (bH (bK V))) (p:Int) (w_k:Int) (du:Int) (w_r:Int) (w_n:List Int) (w_l:List E) (w_ck:Int) (w_ca:Int) (w_cb:Int) (w_cs:Int) (s:CS) (hC:(eE V).Hp s p ⟨w_k,du,w_r,w_n,w_l,w_ck,w_ca,w_cb,w_cs⟩=true∧¬w_k=2):aU [(68,sO KsC.Kc.U),(bG 68,fy),(70,yp (eE V)),(71,Lj (eE V)),(58,rn (bK V)),(73,PV (bK V))] Tryz.f39 [.one (.ptr 0 0),.one (.val (.int .i64 p)),.agg [.val (.int .i64 w_k),.val (.int .i64 du),.val (.int .i64 w_r),.sl none (.ints .i64 w_n),.sl none (.ah (.int .i64 (.int .i64 (.int .i64 (.int .i64 (.bool .nil))))) w_l),.val (.int .i64 w_ck),.val (.int .i64 w_ca),.val (.int .i64 w_cb),.val (.int .i64 w_cs)]] (eN s) ⟨(eE V).Hp s p ⟨w_k,du,w_r,w_n,w_l,w_ck,w_ca,w_cb,w_cs⟩=true∧¬w_k=2,.bJ [],(eN ((eE V).Wp s p ⟨w_k,du,w_r,w_n,w_l,w_ck,w_ca,w_cb,w_cs⟩)),[.one (.ptr 0 0),Any,Any]⟩:=by
 refine @bY _ _ _ _ _ ?_
 intro b gv Z zq A hA L hL
 have hgo:=MF (show jg V s p ⟨w_k,du,w_r,w_n,w_l,w_ck,w_ca,w_cb,w_cs⟩=true from hC.1)
 have hk2:=hC.2
 have hat:=lI s.ae p
 have hcx:VC ⟨w_k,du,w_r,w_n,w_l,w_ck,w_ca,w_cb,w_cs⟩=⟨w_ck,w_ca,w_cb,w_cs⟩:=rfl
 have hfs:=(af.keeps pb oW (af.cons (AA hb) (af.cons (Hz (V:=V)) (af.cons (mU hb) (af.cons (CZ hb) af.nil rfl) rfl) rfl) rfl))
 generalize hF:(eE V)=F at hC hfs ⊢
 generalize hG0:VoR.Fs.U=G0 at hC hfs ⊢
 generalize hG1:KsC.Kc.U=G1 at hC hfs ⊢
 generalize hG2:KsU.Ku.U=G2 at hC hfs ⊢
 generalize hG3:ViR.Vs.U=G3 at hC hfs ⊢
 generalize hG4:InT.Nf.U=G4 at hC hfs ⊢
 generalize hG5:DlT.Df.U=G5 at hC hfs ⊢
 generalize hG6:(bK V)=G6 at hC hfs ⊢
 repeat' (first|(refine ay zq ?_;try dsimp only)|refine ax zq ?_ (aa hL)|refine aw zq ?_|refine az ?_|refine av ?_|refine au ?_|refine aq ?_|refine ar rfl ?_|refine ai rfl ?_|refine aj rfl ?_|(refine Cd.mk ?_;cbv)|(refine aE.mk ?_;cbv)|(refine aJ.mk ?_;cbv)|exact trivial|refine And.intro ?_ ?_|refine bn fun _=>?_|refine bo fun _=>?_)
 all_goals first|(show L _ _ _;skip)|(clear hL hfs zq Z;subst hA hF hG0 hG1 hG2 hG3 hG4 hG5 hG6;simp only [eE,bK,VoR.Fs.U,KsC.Kc.U,Ar.U,hN] at * <;> grind [al,pG,nF,px,yE];done)
theorem qD (hb:aA Tryz.prog 33 (bH (bK V))):aA Tryz.prog 39 (mc (eE V)):=by
 refine aG (af.keeps pb oW (af.cons (AA hb) (af.cons (Hz (V:=V)) (af.cons (mU hb) (af.cons (CZ hb) af.nil rfl) rfl) rfl) rfl)) Tryz.func39 rfl rfl fun xs h p hp=>?_
 unfold mc at hp
 split at hp
 ·split at hp
  ·rename_i e0
   cases hp
   have g0:=cT e0
   subst g0
   exact⟨aB rfl,fun hC _=>@BY V hb _ _ _ _ _ _ _ _ _ _ _ hC⟩
  ·cases hp
 ·cases hp
end Go.Proofs.YtelhldgdnlppfaaGreat.KsE
