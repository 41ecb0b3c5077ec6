/-
  what a core does by an event. No condition but size.
-/
import Derived.Test.YtelhldgdnlppfaaGreatVsKsD
import Derived.Test.YtelhldgdnlppfaaGreatVsInT
import Derived.Test.YtelhldgdnlppfaaGreatVsDlT
import Derived.Test.YtelhldgdnlppfaaGreatVsEgR
set_option maxHeartbeats 4000000
set_option cbv.maxSteps 4000000
set_option maxRecDepth 100000
namespace Go.Proofs.YtelhldgdnlppfaaGreat.KsE
open Go Ry ViR VoR KsS KsC KsU KsT KsD
open InT (LR Oh)
open DlT (wD yt)
open ChQ (CH)
theorem Fa (f:Int→Bool):∀ (k:Nat) (i j:Int),i≤j→i≤nL f k i j∧nL f k i j≤j
 |0,i,j,h=>⟨Int.le_refl i,h⟩
 |k+1,i,j,h=>by
  unfold nL;split
  ·rename_i h1;have h2:i≤hf i j∧hf i j < j:=by unfold hf;omega
   split
   ·have:=Fa f k (hf i j+1) j (by omega);omega
   ·have:=Fa f k i (hf i j) (by omega);omega
  ·omega
theorem aad {f:Int→Bool} {n:Nat} {i j:Int} (hq:QQ f n ⟨i,j⟩) (h:¬i < j):i=VK f n:=by
 obtain⟨h0,h1,h2,h3⟩:=hq;simp only at h0 h1 h2 h3;rw [← h3];cases n with
 |zero=>rfl
 |succ n =>
  unfold nL;rw [if_neg h]
def Ld (l:List E) (p:Int) (x:Int):Bool:=decide (Cmp.iK (ri (l.getD x.toNat []) 0) p < 0)
def nR (l:List E) (p:Int):Int:=VK (Ld l p) l.length
def Rf (l:List E) (p:Int):Bool:=decide (nR l p < l.length) && decide (Cmp.iK (ri (l.getD (nR l p).toNat []) 0) p=0)
theorem Hh (l:List E) (p:Int):0≤nR l p∧nR l p≤l.length:=by
 unfold nR VK;exact Fa _ _ _ _ (Int.natCast_nonneg _)
theorem abD (l:List E) (p x:Int):Ld l p x=decide (Cmp.iK (ri (l.getD x.toNat []) 0) p < 0):=rfl
def bfR (st:St):XJ:=⟨bw st 9,bw st 10⟩
def QB (l:List E) (p w s:Int):List E:=if Rf l p=true then l.set (nR l p).toNat (BR p w s) else l.take (nR l p).toNat ++ (BR p w s :: l.drop (nR l p).toNat)
def Jl (d:CS) (p w s:Int):CS:={ d with U:=QB d.U p w s }
def PG (l:List E) (a:Int):List E:=l.take a.toNat ++ l.drop (a+1).toNat
def dnS (d:CS) (p:Int):CS:={ d with U:=PG d.U (bA d.U p) }
def Bu (d:CS):Bool:=decide (d.U.length≤300∧d.q.length≤70000)
def CG (L:Lv) (d:CS) (p w s:Int):Bool:=Bu d && L.ok (Jl d p w s)
def QC (L:Lv) (d:CS) (p:Int):CS:=if bA d.U p < 0 then d else L.B (dnS d p)
def Cy (L:Lv) (d:CS) (p:Int):Bool:=Bu d && (decide (bA d.U p < 0) || L.ok (dnS d p))
def AP (L:Lv) (d:CS) (a k:Int):CS :=
 if (eT k (tie d a)).tb=true∧d.o=true then aE (aE d a (eT k (tie d a))) a (kq (tie (aE d a (eT k (tie d a))) a))
 else if (eT k (tie d a)).tb=true∨(eT k (tie d a)).tp=true then L.B (aE d a (eT k (tie d a)))
 else if (eT k (tie d a)).tf=true then cy L (aE d a (eT k (tie d a)))
 else aE d a (eT k (tie d a))
def AU (L:Lv) (d:CS) (a k:Int):Bool:=decide (0≤a∧a < d.U.length∧d.U.length≤300∧d.q.length≤70000) &&
 (((!((eT k (tie d a)).tb || (eT k (tie d a)).tp)) || (((eT k (tie d a)).tb && d.o) || L.ok (aE d a (eT k (tie d a))))) && (!(eT k (tie d a)).tf || eN L (aE d a (eT k (tie d a)))))
theorem abe {L:Lv} {d:CS} {a k:Int} (h:AU L d a k=true):(0≤a∧a < d.U.length∧d.U.length≤300∧d.q.length≤70000) ∧
  ((eT k (tie d a)).tb=true→d.o=true→AP L d a k=aE (aE d a (eT k (tie d a))) a (kq (tie (aE d a (eT k (tie d a))) a))) ∧
  ((eT k (tie d a)).tb=true→d.o=false→L.ok (aE d a (eT k (tie d a)))=true∧AP L d a k=L.B (aE d a (eT k (tie d a)))) ∧
  ((eT k (tie d a)).tb=false→(eT k (tie d a)).tp=true→L.ok (aE d a (eT k (tie d a)))=true∧AP L d a k=L.B (aE d a (eT k (tie d a)))) ∧
  ((eT k (tie d a)).tb=false→(eT k (tie d a)).tp=false→(eT k (tie d a)).tf=true→eN L (aE d a (eT k (tie d a)))=true∧AP L d a k=cy L (aE d a (eT k (tie d a)))) ∧
  ((eT k (tie d a)).tb=false→(eT k (tie d a)).tp=false→(eT k (tie d a)).tf=false→AP L d a k=aE d a (eT k (tie d a))):=by
 unfold AU at h;unfold AP;generalize (eT k (tie d a)).tb=x at *;generalize (eT k (tie d a)).tp=y at *;generalize (eT k (tie d a)).tf=z at *;generalize d.o=o at *;cases x <;> cases y <;> cases z <;> cases o <;> simp_all
def chx (w:WK):CH:=⟨w.ck,w.ca,w.cb,w.cs⟩
def dG (L:Lv) (d:CS) (p:Int) (w:WK):CS :=
 if bA d.U p < 0 then d
 else if w.k=4∨w.k=5∨w.k=6∨w.k=7 then AP L d (bA d.U p) w.k
 else if d.o=true then d
 else if w.k=1 then (if rb (tie d (bA d.U p)) 5=true∧0 < UO w.e w.r d.ee d.er then cy L (eR d w.e w.r p) else d)
 else if w.k=3 then (if w.e=d.ee∧w.r=d.er∧d.ph=2∧d.p=p then mh L d (chx w) w.n w.l else d)
 else d
def lq (L:Lv) (d:CS) (p:Int) (w:WK):Bool:=(Bu d && decide (w.n.length≤1000∧w.l.length≤1000)) && (decide (bA d.U p < 0) || ((!decide (w.k=4∨w.k=5∨w.k=6∨w.k=7) || AU L d (bA d.U p) w.k) && ((!decide (w.k=1∧rb (tie d (bA d.U p)) 5=true∧0 < UO w.e w.r d.ee d.er∧d.o=false) || gG L d w.e w.r p) && (!decide (w.k=3∧w.e=d.ee∧w.r=d.er∧d.ph=2∧d.p=p∧d.o=false) || qP L d (chx w) w.n w.l))))
theorem Sy {L:Lv} {d:CS} {p:Int} {w:WK} (h:lq L d p w=true):(d.U.length≤300∧d.q.length≤70000)∧(w.n.length≤1000∧w.l.length≤1000)∧(bA d.U p < 0→dG L d p w=d) ∧
  (¬bA d.U p < 0→(w.k=4∨w.k=5∨w.k=6∨w.k=7)→AU L d (bA d.U p) w.k=true∧dG L d p w=AP L d (bA d.U p) w.k) ∧
  (¬bA d.U p < 0→¬(w.k=4∨w.k=5∨w.k=6∨w.k=7)→d.o=true→dG L d p w=d) ∧
  (¬bA d.U p < 0→w.k=1→d.o=false→rb (d.U.getD (bA d.U p).toNat []) 5=true→0 < UO w.e w.r d.ee d.er→gG L d w.e w.r p=true∧dG L d p w=cy L (eR d w.e w.r p)) ∧
  (w.k=1→rb (d.U.getD (bA d.U p).toNat []) 5=false→dG L d p w=d)∧(w.k=1→¬0 < UO w.e w.r d.ee d.er→dG L d p w=d) ∧
  (¬bA d.U p < 0→w.k=3→d.o=false→w.e=d.ee→w.r=d.er→d.ph=2→d.p=p→qP L d (chx w) w.n w.l=true∧dG L d p w=mh L d (chx w) w.n w.l) ∧
  (w.k=3→¬(w.e=d.ee∧w.r=d.er∧d.ph=2∧d.p=p)→dG L d p w=d)∧(¬w.k=1→¬w.k=3→¬(w.k=4∨w.k=5∨w.k=6∨w.k=7)→dG L d p w=d):=by
 unfold lq Bu at h;simp only [Bool.and_eq_true,Bool.or_eq_true,Bool.not_eq_true',decide_eq_true_eq,decide_eq_false_iff_not] at h;obtain⟨⟨h1,h2⟩,h3⟩:=h;unfold dG;refine⟨h1,h2,fun e=>if_pos e,fun e1 e2=>?_,fun e1 e2 e3=>?_,fun e1 e2 e3 e4 e5=>?_,fun e1 e2=>?_,fun e1 e2=>?_,fun e1 e2 e3 e4 e5 e6 e7=>?_,fun e1 e2=>?_,fun e1 e2 e3=>?_⟩
 ·rw [if_neg e1,if_pos e2];rcases h3 with h3|h3
  ·exact absurd h3 e1
  ·exact⟨h3.1.resolve_left fun q=>q e2,rfl⟩
 ·rw [if_neg e1,if_neg e2,if_pos e3]
 ·rw [if_neg e1,if_neg (by omega),if_neg (by rw [e3];decide),if_pos e2,if_pos ⟨e4,e5⟩];rcases h3 with h3|h3
  ·exact absurd h3 e1
  ·exact⟨h3.2.1.resolve_left fun q=>q ⟨e2,e4,e5,e3⟩,rfl⟩
 ·by_cases g:bA d.U p < 0
  ·rw [if_pos g]
  ·rw [if_neg g,if_neg (by omega)]
   by_cases ho:d.o=true
   ·rw [if_pos ho]
   ·rw [if_neg ho,if_pos e1,if_neg (fun q=>by have:rb (tie d (bA d.U p)) 5=false:=e2;rw [this] at q;cases q.1)]
 ·by_cases g:bA d.U p < 0
  ·rw [if_pos g]
  ·rw [if_neg g,if_neg (by omega)]
   by_cases ho:d.o=true
   ·rw [if_pos ho]
   ·rw [if_neg ho,if_pos e1,if_neg (fun q=>e2 q.2)]
 ·rw [if_neg e1,if_neg (by omega),if_neg (by rw [e3];decide),if_neg (by omega),if_pos e2,if_pos ⟨e4,e5,e6,e7⟩];rcases h3 with h3|h3
  ·exact absurd h3 e1
  ·exact⟨h3.2.2.resolve_left fun q=>q ⟨e2,e4,e5,e6,e7,e3⟩,rfl⟩
 ·by_cases g:bA d.U p < 0
  ·rw [if_pos g]
  ·rw [if_neg g,if_neg (by omega)]
   by_cases ho:d.o=true
   ·rw [if_pos ho]
   ·rw [if_neg ho,if_neg (by omega),if_pos e1,if_neg e2]
 ·by_cases g:bA d.U p < 0
  ·rw [if_pos g]
  ·rw [if_neg g,if_neg e3]
   by_cases ho:d.o=true
   ·rw [if_pos ho]
   ·rw [if_neg ho,if_neg e1,if_neg e2]
theorem Ym (l:List E) (p _ _:Int):Rf l p=true→nR l p < l.length:=fun h=>by
 unfold Rf at h;rw [Bool.and_eq_true] at h;exact of_decide_eq_true h.1
theorem agx {l:List E} {p w s:Int} (h:Rf l p=true):QB l p w s=l.set (nR l p).toNat [.int p,.int w,.int s,.int 0,.bool false,.bool false,.int 0]:=if_pos h
theorem agf {l:List E} {p w s:Int} (h:Rf l p=false):QB l p w s=l.take (nR l p).toNat ++ ([.int p,.int w,.int s,.int 0,.bool false,.bool false,.int 0] :: l.drop (nR l p).toNat):=if_neg (by rw [h];decide)
theorem adt {L:Lv} {d:CS} {p w s:Int} (h:CG L d p w s=true):(d.U.length≤300∧d.q.length≤70000)∧L.ok ⟨d.i,d.ee,d.er,d.t,d.p,QB d.U p w s,d.w,d.gn,d.gl,d.ph,d.tn,d.tl,d.l,d.o,d.q⟩=true:=by
 unfold CG Bu at h;rw [Bool.and_eq_true,decide_eq_true_eq] at h;exact h
theorem acX {L:Lv} {d:CS} {p:Int} (h:Cy L d p=true):(d.U.length≤300∧d.q.length≤70000)∧(bA d.U p < 0→QC L d p=d)∧(¬bA d.U p < 0→L.ok ⟨d.i,d.ee,d.er,d.t,d.p,PG d.U (bA d.U p),d.w,d.gn,d.gl,d.ph,d.tn,d.tl,d.l,d.o,d.q⟩=true∧QC L d p=L.B ⟨d.i,d.ee,d.er,d.t,d.p,PG d.U (bA d.U p),d.w,d.gn,d.gl,d.ph,d.tn,d.tl,d.l,d.o,d.q⟩):=by
 unfold Cy Bu at h;rw [Bool.and_eq_true,decide_eq_true_eq,Bool.or_eq_true,decide_eq_true_eq] at h;unfold QC;exact⟨h.1,fun e=>if_pos e,fun e=>⟨h.2.resolve_left e,if_neg e⟩⟩
structure Ke where
 afq:Int→Int→Int→Int→Int
 LX:Int→Int→Int
 aeK:List E→Int→Int
 afI:List E→Int→Bool
 afu:List E→Bool
 adp:CS→Int→Int→Int→Bool
 afm:CS→Int→Int→Int→CS
 acr:CS→Int→Bool
 aeO:CS→Int→CS
 acG:CS→Int→Int→Bool
 afK:CS→Int→Int→CS
 aaL:CS→Int→WK→Bool
 afZ:CS→Int→WK→CS
def ml (L:Lv):Ke:=⟨UO,Cmp.iK,nR,Rf,fun l=>decide (l.length≤1000),CG L,fun d p w s=>L.B (Jl d p w s),Cy L,QC L,AU L,AP L,lq L,dG L⟩
variable {V:Lv}
theorem bV {l:List (Nat × aO)} {fn:Func} {args:List SA} {h:H} {p:qK} (hd:∀ (b:Bs) (gv:List Value) (Z:(Ex→St→Prop)→Ex→St→Prop) (_:∀ K,Z K=K) (A:Ar) (_:Ar.aa=A) (L:Code→St→(Ex→St→Prop)→Prop) (_:Lp Tryz.prog b gv=L),Cd A (zY l) L (qC fn) (Ry.start fn.ntmps args h) (Z fun e s'=>Mj A (zY l) fn.results.toList p e s')):ID l fn args h p:=fun b gv=>@sj _ _ _ _ _ _ _ (af rfl) _ _ (fun _=>rfl) rfl (hd b gv id (fun _=>rfl) _ rfl _ rfl)
noncomputable def VX (F:Ke):aO:=fun xs h=>match xs,h with
 |[.agg [.val (.int .i64 a_e),.val (.int .i64 a_r)],.agg [.val (.int .i64 d_e),.val (.int .i64 d_r)]],[]=>some ⟨True,.sa (I (F.afq a_e a_r d_e d_r)),[],[Any,Any]⟩
 |_,_=>none
theorem Xg:au Tryz.prog 71 (VX (ml V)):=by
 have hfs:=(ak.cons pH (ak.cons yw ak.nil rfl) rfl);refine aw hfs Tryz.func71 rfl rfl fun xs h p hp=>?_;unfold VX at hp;split at hp
 ·rename_i a_e a_r d_e d_r;cases hp;refine⟨av rfl,fun _ _=>?_⟩;refine @bV _ _ _ _ _ ?_;intro b gv Z zq A hA L hL;generalize hF:(ml V)=F,hG0:VoR.Fs.aa=G0,hG1:KsC.Kc.aa=G1,hG2:KsU.Ku.aa=G2,hG3:ViR.Vs.aa=G3,hG4:InT.Nf.aa=G4,hG5:DlT.Df.aa=G5,hG6:(db V)=G6 at hfs ⊢
  repeat' (first|(apply al zq;try dsimp only)|apply aS zq (af hL)|apply aq zq|refine aT rfl ?_|apply ai|refine ah rfl ?_|refine aR rfl ?_|exact aA|apply aB|refine aP fun _=>?_|refine aQ fun _=>?_|(constructor;cbv))
  all_goals
   clear hL zq Z
   try clear hfs
   subst hA hF hG0 hG1 hG2 hG3 hG4 hG5 hG6;simp only [ml,ViR.Vs.aa] at *
   try (grind [aj,UO,Cmp.iK,Cmp.iZ])
 ·cases hp
noncomputable def Wk (F:Ke):aO:=fun xs h=>match xs,h with
 |[.agg [.val (.int .i64 a_p),.val (.int .i64 _),.val (.int .i64 _),.val (.int .i64 _),.val (.bool _),.val (.bool _),.val (.int .i64 _)],.agg [.val (.int .i64 d_p),.val (.int .i64 _),.val (.int .i64 _),.val (.int .i64 _),.val (.bool _),.val (.bool _),.val (.int .i64 _)]],[]=>some ⟨True,.sa (I (F.LX a_p d_p)),[],[Any,Any]⟩
 |_,_=>none
theorem Yy:au Tryz.prog 66 (Wk (ml V)):=by
 have hfs:=(ak.cons pH ak.nil rfl);refine aw hfs Tryz.func66 rfl rfl fun xs h p hp=>?_;unfold Wk at hp;split at hp
 ·rename_i a_p a_w a_s a_m a_t a_b a_o d_p d_w d_s d_m d_t d_b d_o;cases hp;refine⟨av rfl,fun _ _=>?_⟩;refine @bV _ _ _ _ _ ?_;intro b gv Z zq A hA L hL;generalize hF:(ml V)=F,hG0:VoR.Fs.aa=G0,hG1:KsC.Kc.aa=G1,hG2:KsU.Ku.aa=G2,hG3:ViR.Vs.aa=G3,hG4:InT.Nf.aa=G4,hG5:DlT.Df.aa=G5,hG6:(db V)=G6 at hfs ⊢
  repeat' (first|(apply al zq;try dsimp only)|apply aS zq (af hL)|apply aq zq|refine aT rfl ?_|apply ai|refine ah rfl ?_|refine aR rfl ?_|exact aA|apply aB|refine aP fun _=>?_|refine aQ fun _=>?_|(constructor;cbv))
  all_goals
   clear hL zq Z
   try clear hfs
   subst hA hF hG0 hG1 hG2 hG3 hG4 hG5 hG6;simp only [ml,ViR.Vs.aa] at *
   try (grind [aj])
 ·cases hp
noncomputable def Bt (F:Ke):aO:=fun xs h=>match xs,h with
 |[.one (.sl none (.ae (.int .i64 (.int .i64 (.int .i64 (.int .i64 (.bool (.bool (.int .i64 .nil))))))) l)),.agg [.val (.int .i64 t_p),.val (.int .i64 _),.val (.int .i64 _),.val (.int .i64 _),.val (.bool _),.val (.bool _),.val (.int .i64 _)],.one (.val (.func (.func 66) ⟨[]⟩ ⟨[]⟩))],[]=>some ⟨F.afu l=true,.cN [I (F.aeK l t_p),B (F.afI l t_p)],[],[Any,Any,Any]⟩
 |_,_=>none
theorem Ec:au Tryz.prog 65 (Bt (ml V)):=by
 have hfs:=(ak.cons (Yy (V:=V)) ak.nil rfl);refine aw hfs Tryz.func65 rfl rfl fun xs h p hp=>?_;unfold Bt at hp;split at hp
 ·rename_i l t_p sw t_s t_m t_t t_b t_o;cases hp;refine⟨av rfl,fun hC _=>?_⟩;dsimp only at hC;refine @bV _ _ _ _ _ ?_;intro b gv Z zq A hA L hL;have hk0:l.length≤1000:=of_decide_eq_true hC;have hk:l.length≤1000000:=by omega
  have hpi:=Hh l t_p;generalize hF:(ml V)=F,hG0:VoR.Fs.aa=G0,hG1:KsC.Kc.aa=G1,hG2:KsU.Ku.aa=G2,hG3:ViR.Vs.aa=G3,hG4:InT.Nf.aa=G4,hG5:DlT.Df.aa=G5,hG6:(db V)=G6 at hC hfs ⊢
  repeat' (first|(apply al zq;try dsimp only)|apply aS zq (af hL)|apply aq zq|refine aT rfl ?_|apply ai|refine ah rfl ?_|refine aR rfl ?_|exact aA|apply aB|refine aP fun _=>?_|refine aQ fun _=>?_|(constructor;cbv))
  subst hL;refine aJ (aN hfs) (QQ (Ld l t_p) l.length) (fun y=>br Tryz.f65.ntmps [(0,.sl none (.ae .eC l)),(2,.val (.func (.func 66) ⟨[]⟩ ⟨[]⟩)),(4,.ptr 1 0),(8,.ay (A.dN l)),(9,.ay y.i),(10,.ay y.j)] [(1,.cells 58 [.ay t_p,.ay sw,.ay t_s,.ay t_m,.bK t_t,.bK t_b,.ay t_o])] [Any,Any,Any]) (Pw) bfR ⟨0,A.dN l⟩ ?_ ?_ ?_
  ·(subst hA;exact yK _ _)
  ·cbv
   repeat' (first|exact trivial|exact rfl|refine And.intro ?_ ?_)
  rintro⟨i,j⟩ hq O hO;have hst:=fun h=>xT hk hq h;have hen:=fun h=>aad hq h;have hlt:=abD l t_p (hf i j);have q0:=hq.1;have q1:=hq.2.1;have q2:=hq.2.2.1;have hpo:nR l t_p=VK (Ld l t_p) l.length:=rfl;have hfd:Rf l t_p=(decide (nR l t_p < l.length) && decide (Cmp.iK (ri (l.getD (nR l t_p).toNat []) 0) t_p=0)):=rfl;dsimp only at q0 q1 q2;subst hA;generalize hA:Ar.aa=A;generalize hL:Lp _ _ _=L;refine az zq ?_
  repeat' (first|(apply al zq;try dsimp only)|apply aS zq (af hL)|apply aq zq|refine aT rfl ?_|apply ai|refine ah rfl ?_|refine aR rfl ?_|exact aA|apply aB|refine aP fun _=>?_|refine aQ fun _=>?_|(constructor;cbv))
  all_goals first|(show L _ _ _;skip)|(clear hL hfs zq Z hq;subst hA hF hG0 hG1 hG2 hG3 hG4 hG5 hG6 hO;simp only [ml,Ar.aa] at * <;> grind [aj,qa,nZ,pZ,Bu];done)
 ·cases hp
noncomputable def Kq (F:Ke):aO:=fun xs h=>match xs with
 |[.one (.ptr 0 0),.agg [.val (.int .i64 _),.val (.int .i64 v_p),.val (.int .i64 v_w),.val (.int .i64 Hr),.val (.int .i64 _),.val (.int .i64 _),.val (.int .i64 _),.sl none (.ints .i64 _),.sl none (.ae (.int .i64 (.int .i64 (.int .i64 (.int .i64 (.bool .nil))))) _),.val (.int .i64 _),.val (.int .i64 _),.val (.int .i64 _),.val (.int .i64 _)]]=>(match wg h with
  |some s=>some ⟨F.adp s v_p v_w Hr=true,.cN [],(vK (F.afm s v_p v_w Hr)),[.one (.ptr 0 0),Any]⟩
  |none=>none)
 |_=>none
theorem Pd (hb:au Tryz.prog 33 (bX (db V))):au Tryz.prog 37 (Kq (ml V)):=by
 have hfs:=(ak.cons (Ec (V:=V)) (ak.cons Oh (ak.cons hb ak.nil rfl) rfl) rfl);refine aw hfs Tryz.func37 rfl rfl fun xs h p hp=>?_;unfold Kq at hp;split at hp
 ·rename_i v_k v_p v_w Hr v_xk v_xe v_xr v_xn v_xl v_xck v_xca v_xcb v_xcs;split at hp
  ·rename_i s e0;cases hp;have g0:=da e0;subst g0;refine⟨av rfl,fun hC _=>?_⟩;dsimp only at hC;refine @bV _ _ _ _ _ ?_;intro b gv Z zq A hA L hL;have hgo:=adt (show CG V s v_p v_w Hr=true from hC);have hpi:=Hh s.U v_p;have hul:=Ym s.U v_p v_w Hr;have hu1:=fun h=>agx (l:=s.U) (p:=v_p) (w:=v_w) (s:=Hr) h;have hu2:=fun h=>agf (l:=s.U) (p:=v_p) (w:=v_w) (s:=Hr) h;have hus:Jl s v_p v_w Hr=⟨s.i,s.ee,s.er,s.t,s.p,QB s.U v_p v_w Hr,s.w,s.gn,s.gl,s.ph,s.tn,s.tl,s.l,s.o,s.q⟩:=rfl;generalize hF:(ml V)=F,hG0:VoR.Fs.aa=G0,hG1:KsC.Kc.aa=G1,hG2:KsU.Ku.aa=G2,hG3:ViR.Vs.aa=G3,hG4:InT.Nf.aa=G4,hG5:DlT.Df.aa=G5,hG6:(db V)=G6 at hC hfs ⊢
   repeat' (first|(apply al zq;try dsimp only)|apply aS zq (af hL)|apply aq zq|refine aT rfl ?_|apply ai|refine ah rfl ?_|refine aR rfl ?_|exact aA|apply aB|refine aP fun _=>?_|refine aQ fun _=>?_|(constructor;cbv))
   all_goals first|(show L _ _ _;skip)|(clear hL hfs zq Z;subst hA hF hG0 hG1 hG2 hG3 hG4 hG5 hG6;simp only [ml,db,InT.Nf.aa,Ar.aa] at * <;> grind [aj,qa,nZ,pZ,Bu];done)
  ·cases hp
 ·cases hp
noncomputable def DF (F:Ke):aO:=fun xs h=>match xs with
 |[.one (.ptr 0 0),.one (.val (.int .i64 p))]=>(match wg h with
  |some s=>some ⟨F.acr s p=true,.cN [],(vK (F.aeO s p)),[.one (.ptr 0 0),Any]⟩
  |none=>none)
 |_=>none
theorem Tf (hb:au Tryz.prog 33 (bX (db V))):au Tryz.prog 38 (DF (ml V)):=by
 have hfs:=(ak.keeps Dp DD (ak.cons yt (ak.cons hb ak.nil rfl) rfl));refine aw hfs Tryz.func38 rfl rfl fun xs h p hp=>?_;unfold DF at hp;split at hp
 ·rename_i p;split at hp
  ·rename_i s e0;cases hp;have g0:=da e0;subst g0;refine⟨av rfl,fun hC _=>?_⟩;dsimp only at hC;refine @bV _ _ _ _ _ ?_;intro b gv Z zq A hA L hL;have hgo:=acX (show Cy V s p=true from hC);have hat:=jd s.U p;have hdl:PG s.U (bA s.U p)=s.U.take (bA s.U p).toNat ++ s.U.drop (bA s.U p+1).toNat:=rfl;have hin:0≤bA s.U p→s.U.length≤300→aD .add .i64 (bA s.U p) 1=bA s.U p+1:=fun h1 h2=>by rw [aW,wr _ (by omega) (by omega)]
   generalize hF:(ml V)=F,hG0:VoR.Fs.aa=G0,hG1:KsC.Kc.aa=G1,hG2:KsU.Ku.aa=G2,hG3:ViR.Vs.aa=G3,hG4:InT.Nf.aa=G4,hG5:DlT.Df.aa=G5,hG6:(db V)=G6 at hC hfs ⊢
   repeat' (first|(apply al zq;try dsimp only)|apply aS zq (af hL)|apply aq zq|refine aT rfl ?_|apply ai|refine ah rfl ?_|refine aR rfl ?_|exact aA|apply aB|refine aP fun _=>?_|refine aQ fun _=>?_|(constructor;cbv))
   all_goals first|(show L _ _ _;skip)|(clear hL hfs zq Z;subst hA hF hG0 hG1 hG2 hG3 hG4 hG5 hG6;simp only [ml,db,VoR.Fs.aa,KsC.Kc.aa,DlT.Df.aa,Ar.aa,dY] at * <;> grind [aj,qa,nZ,pZ,Bu];done)
  ·cases hp
 ·cases hp
noncomputable def NP (F:Ku):aO:=uJ (zi F) (oh F)
theorem JB:au Tryz.prog 74 (NP KsU.Ku.aa):=AA Qj uF
noncomputable def Iq (F:Ke):aO:=fun xs h=>match xs with
 |[.one (.ptr 0 0),.one (.val (.int .i64 a)),.one (.val (.int .i64 k))]=>(match wg h with
  |some s=>some ⟨F.acG s a k=true,.cN [],(vK (F.afK s a k)),[.one (.ptr 0 0),Any,Any]⟩
  |none=>none)
 |_=>none
theorem NR (hb:au Tryz.prog 33 (bX (db V))):au Tryz.prog 70 (Iq (ml V)):=by
 have hfs:=(ak.cons JB (ak.cons hb (ak.cons (jv hb) ak.nil rfl) rfl) rfl);refine aw hfs Tryz.func70 rfl rfl fun xs h p hp=>?_;unfold Iq at hp;split at hp
 ·rename_i a k;split at hp
  ·rename_i s e0;cases hp;have g0:=da e0;subst g0;refine⟨av rfl,fun hC _=>?_⟩;dsimp only at hC;refine @bV _ _ _ _ _ ?_;intro b gv Z zq A hA L hL;have hgo:=abe (show AU V s a k=true from hC);have htl:=fun r h=>(GU s a r h);have hwl:(eT k (tie s a)).w.length≤1:=(kQ _ _ _ _ k).2.2.2;generalize hF:(ml V)=F,hG0:VoR.Fs.aa=G0,hG1:KsC.Kc.aa=G1,hG2:KsU.Ku.aa=G2,hG3:ViR.Vs.aa=G3,hG4:InT.Nf.aa=G4,hG5:DlT.Df.aa=G5,hG6:(db V)=G6 at hC hfs ⊢
   repeat' (first|(apply al zq;try dsimp only)|apply aS zq (af hL)|apply aq zq|refine aT rfl ?_|apply ai|refine ah rfl ?_|refine aR rfl ?_|exact aA|apply aB|refine aP fun _=>?_|refine aQ fun _=>?_|(constructor;cbv))
   all_goals first|(show L _ _ _;skip)|(clear hL hfs zq Z;subst hA hF hG0 hG1 hG2 hG3 hG4 hG5 hG6;simp only [ml,db,VoR.Fs.aa,KsU.Ku.aa,Ar.aa,dY] at * <;> (try simp only [vX,mL,mT,vM,vJ,vB,mD,mI,mR,mG,mN,vD,vA] at *) <;> first|(have hsl:=nt s a (eT k (tie s a));generalize aE s a (eT k (tie s a))=Y at hsl ⊢;rcases Y with ⟨_,_,_,_,_,y6,_,_,_,_,_,_,_,_,_⟩;rcases s with ⟨_,_,_,_,_,s6,_,_,_,_,_,_,_,_,_⟩;cases y6 <;> cases s6 <;> first|exact congrArg Int.ofNat hsl|(exfalso;simp at hsl;done))|(have hsl:=nt (aE s a (eT k (tie s a))) a (kq (tie (aE s a (eT k (tie s a))) a));generalize aE (aE s a (eT k (tie s a))) a (kq (tie (aE s a (eT k (tie s a))) a))=Y at hsl ⊢;generalize aE s a (eT k (tie s a))=X at hsl ⊢;rcases Y with ⟨_,_,_,_,_,y6,_,_,_,_,_,_,_,_,_⟩;rcases X with ⟨_,_,_,_,_,x6,_,_,_,_,_,_,_,_,_⟩;cases y6 <;> cases x6 <;> first|exact congrArg Int.ofNat hsl|(exfalso;simp at hsl;done))|grind [aj,qa,nZ,pZ,Bu,vX,mL,mT,vM,vJ,vB,mD,mI,mR,mG,mN,vD,vA];done)
  ·cases hp
 ·cases hp
noncomputable def jY (F:Ke):aO:=fun xs h=>match xs with
 |[.one (.ptr 0 0),.one (.val (.int .i64 p)),.agg [.val (.int .i64 w_k),.val (.int .i64 gY),.val (.int .i64 w_r),.sl none (.ints .i64 w_n),.sl none (.ae (.int .i64 (.int .i64 (.int .i64 (.int .i64 (.bool .nil))))) w_l),.val (.int .i64 w_ck),.val (.int .i64 w_ca),.val (.int .i64 w_cb),.val (.int .i64 w_cs)]]=>(match wg h with
  |some s=>some ⟨F.aaL s p ⟨w_k,gY,w_r,w_n,w_l,w_ck,w_ca,w_cb,w_cs⟩=true∧¬w_k=2,.cN [],(vK (F.afZ s p ⟨w_k,gY,w_r,w_n,w_l,w_ck,w_ca,w_cb,w_cs⟩)),[.one (.ptr 0 0),Any,Any]⟩
  |none=>none)
 |_=>none
theorem pU (hb:au Tryz.prog 33 (bX (db V))):au Tryz.prog 39 (jY (ml V)):=by
 have hfs:=(ak.keeps Dp DD (ak.cons (NR hb) (ak.cons (Xg (V:=V)) (ak.cons (AO hb) (ak.cons (UR hb) ak.nil rfl) rfl) rfl) rfl));refine aw hfs Tryz.func39 rfl rfl fun xs h p hp=>?_;unfold jY at hp;split at hp
 ·rename_i p w_k gY w_r w_n w_l w_ck w_ca w_cb w_cs;split at hp
  ·rename_i s e0;cases hp;have g0:=da e0;subst g0;refine⟨av rfl,fun hC _=>?_⟩;dsimp only at hC;refine @bV _ _ _ _ _ ?_;intro b gv Z zq A hA L hL;have hgo:=Sy (show lq V s p ⟨w_k,gY,w_r,w_n,w_l,w_ck,w_ca,w_cb,w_cs⟩=true from hC.1);have hk2:=hC.2;have hat:=jd s.U p;have hcx:chx ⟨w_k,gY,w_r,w_n,w_l,w_ck,w_ca,w_cb,w_cs⟩=⟨w_ck,w_ca,w_cb,w_cs⟩:=rfl;generalize hF:(ml V)=F,hG0:VoR.Fs.aa=G0,hG1:KsC.Kc.aa=G1,hG2:KsU.Ku.aa=G2,hG3:ViR.Vs.aa=G3,hG4:InT.Nf.aa=G4,hG5:DlT.Df.aa=G5,hG6:(db V)=G6 at hC hfs ⊢
   repeat' (first|(apply al zq;try dsimp only)|apply aS zq (af hL)|apply aq zq|refine aT rfl ?_|apply ai|refine ah rfl ?_|refine aR rfl ?_|exact aA|apply aB|refine aP fun _=>?_|refine aQ fun _=>?_|(constructor;cbv))
   all_goals first|(show L _ _ _;skip)|(clear hL hfs zq Z;subst hA hF hG0 hG1 hG2 hG3 hG4 hG5 hG6;simp only [ml,db,VoR.Fs.aa,KsC.Kc.aa,Ar.aa,dY] at * <;> grind [aj,qa,nZ,pZ,Bu];done)
  ·cases hp
 ·cases hp
end Go.Proofs.YtelhldgdnlppfaaGreat.KsE
