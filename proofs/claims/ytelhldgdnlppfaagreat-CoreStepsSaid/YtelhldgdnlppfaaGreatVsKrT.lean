/-
  a core lets go,takes El,chooses and begins,by the document. No condition but that the core may be.
-/
import Derived.Test.YtelhldgdnlppfaaGreatVsKrX
import Derived.Test.YtelhldgdnlppfaaGreatVsW27
import Derived.Test.YtelhldgdnlppfaaGreatVsW47
import Derived.Test.YtelhldgdnlppfaaGreatVsW22
import Derived.Test.YtelhldgdnlppfaaGreatVsW46
import Derived.Test.YtelhldgdnlppfaaGreatVsW27
set_option maxHeartbeats 4000000
set_option cbv.maxSteps 4000000
set_option maxRecDepth 100000
namespace Go.Proofs.YtelhldgdnlppfaaGreat.KrT
open Go Ry ViR VoR KsS KsT KrV KrX KrS
open KsC (XI XQ XL KO Qt xlR mF WV xD zB EM Ol mJ slL)
open ChQ (jt ef CH)
open ViC (Dm xI)
open ViQ (oF lN)
open ViM (oJ lU Dv Al oL)
open SpQ (qJ tv JJ rQ)
open ChA (Dn GG)
open ViL (fz)
open ViT (ba)
structure Kv where
 Lw:CS→Bool
 agd:CS→CS
 aeq:Int→Int→Int→Int
 aea:Int→Int→Int→Int
 ael:Int→Int→Int→Int
 Wx:CS→Int→VT→Bool
 WO:CS→Int→VT→CS
 abb:CS→CH→List Int→List E→Bool
 afB:CS→CH→List Int→List E→CS
 adS:CS→Bool
 acC:CS→CS
 acw:CS→Int→Int→Int→Bool
 abC:CS→Int→Int→Int→CS
 adI:CS→Bool
 aaQ:CS→CS
 adY:CS→Bool
 Xl:CS→CS
 abA:Int→Int→Int
 afQ:Int→List Int→List Int
 aeM:Int→List E→List E
noncomputable def dS (L:Lv):Kv:=⟨fun d=>vR d && decide (d.q.length≤90000),fun d=>Qr (cD d d.U.length),zy,fun t l i=>if zy t l i=0 then t+1 else 0,fun t l i=>if zy t l i=0 then i else 0,iB L,gW L,rm L,mh L,FL L,cy L,VU L,fun d e r p=>cy L (eR d e r p),L.ok,L.B,okB L,gu L,dz,fun k n=>if k=1 then n else [],fun k n=>if k=1 then n else []⟩
variable {V:Lv}
noncomputable def bX (F:Kv):aO:=fun xs h=>match xs,h with
 |[.agg s_],[]=>(match mu s_ with
  |some s=>some ⟨F.adI s=true,.sa (.agg (mr (F.aaQ s))),[],[Any]⟩
  |_=>none)
 |_,_=>none
noncomputable def CN (F:Kv):aO:=fun xs h=>match xs,h with
 |[.one (.val (.int .i64 t)),.one (.val (.int .i64 l)),.one (.val (.int .i64 i))],[]=>some ⟨True,.cN [.agg [.ay (F.aea t l i),.ay (F.ael t l i)],I (F.aeq t l i)],[],[Any,Any,Any]⟩
 |_,_=>none
theorem Jc:au Tryz.prog 59 (CN (dS V)):=by
 have hfs:=(ak.cons fY ak.nil rfl);refine aw hfs Tryz.func59 rfl rfl fun xs h p hp=>?_;unfold CN at hp;split at hp
 ·rename_i t l i;cases hp;refine⟨av rfl,fun _ _=>?_⟩;intro b gv;have h0:zy t l i=0→aD .add .i64 t 1=t+1:=fun h=>by
   unfold zy at h;split at h
   ·split at h
    ·cases h
    ·rw [aW,wr _ (by omega) (by omega)]
   ·cases h
  generalize hF:(dS V)=F,hG0:VoR.Fs.aa=G0,hG1:KrS.Kr.aa=G1,hG2:ViR.Vs.aa=G2,hG3:ViC.Vc.aa=G3,hG4:ViQ.Vm.aa=G4,hG5:SpQ.Sq.aa=G5,hG6:ViM.Vg.aa=G6,hG7:ChA.Ca.aa=G7 at hfs ⊢;refine bu fun Z zq A hA L hL=>?_
  repeat' (first|(apply al zq;try dsimp only)|apply aS zq (af hL)|apply aq zq|refine aT rfl ?_|apply ai|refine ah rfl ?_|refine aR rfl ?_|exact aA|apply aB|refine aP fun _=>?_|refine aQ fun _=>?_|(constructor;cbv))
  all_goals
   clear hL zq Z
   try clear hfs
   subst hA hF hG0 hG1 hG2 hG3 hG4 hG5 hG6 hG7;simp only [dS,ViR.Vs.aa,Ar.aa] at *
   try (grind [aj,zy])
 ·cases hp
noncomputable def DQ (F:Kv):aO:=fun xs h=>match xs,h with
 |[.agg s_],[]=>(match mu s_ with
  |some s=>some ⟨F.Lw s=true,.sa (.agg (mr (F.agd s))),[],[Any]⟩
  |_=>none)
 |_,_=>none
theorem HU:au Tryz.prog 44 (DQ (dS V)):=by
 have hfs:=(ak.cons uD (ak.cons pW (ak.cons yh (ak.cons (bI [[none,none,none,none,none,some (.ae .eC []),some (.ints .i64 []),some (.ints .i64 []),some (.ae .bg []),none,some (.ints .i64 []),some (.ae .bg []),none,none,some (.ae .iY [])],[none],[some (.ints .i64 []),none,none,none]] hN) ak.nil rfl) rfl) rfl) rfl);refine aw hfs Tryz.func44 rfl rfl fun xs h p hp=>?_;unfold DQ at hp;split at hp
 ·split at hp
  ·rename_i s e0;cases hp;have g0:=dQ e0;subst g0;refine⟨av rfl,fun hC _=>?_⟩;dsimp only at hC;intro b gv;have hc2:vR s=true∧s.q.length≤90000:=by
    have h:(vR s && decide (s.q.length≤90000))=true:=hC;rw [Bool.and_eq_true,decide_eq_true_eq] at h;exact h
   have hvd:=dA.1 hc2.1;generalize hF:(dS V)=F,hG0:VoR.Fs.aa=G0,hG1:KrS.Kr.aa=G1,hG2:ViR.Vs.aa=G2,hG3:ViC.Vc.aa=G3,hG4:ViQ.Vm.aa=G4,hG5:SpQ.Sq.aa=G5,hG6:ViM.Vg.aa=G6,hG7:ChA.Ca.aa=G7 at hC hfs ⊢;refine bu fun Z zq A hA L hL=>?_
   repeat' (first|(apply al zq;try dsimp only)|apply aS zq (af hL)|apply aq zq|refine aT rfl ?_|apply ai|refine ah rfl ?_|refine aR rfl ?_|exact aA|apply aB|refine aP fun _=>?_|refine aQ fun _=>?_|(constructor;cbv))
   subst hL;refine aJ (aN hfs) (ovQ s) (fun y=>br Tryz.f44.ntmps [(1,.ptr 1 0),(2,.ptr 2 0),(3,.ay y.i)] [(1,.cells 77 [.ay s.i,.ay 0,.ay 0,.ay s.t,.ay 0,.sl none (.ae .eC y.t),.sl none (.ints .i64 []),.sl none (.ints .i64 []),.sl none (.ae .bg []),.ay 0,.sl none (.ints .i64 []),.sl none (.ae .bg []),.ay s.l,.bK true,.sl none (.ae .iY y.q)]),(2,.cells 77 [.any,.any,.any,.any,.any,.any,.any,.any,.any,.any,.any,.any,.any,.any,.any])] [Any]) (VY s) (xvR 3) ⟨0,s.U,s.q⟩ ?_ ?_ ?_
   ·exact Uv _
   ·cbv
    repeat' (first|exact trivial|exact rfl|refine And.intro ?_ ?_)
   rintro⟨i,t,q⟩ hq O hO;have hst:=fun h=>Uy hvd hc2.2 hq h;have hen:=fun h=>Xq hvd hq h;have q0:=hq.1;have hpe:=fun h1 a b c m x y o=>AY (t:=t) (i:=i) hq.1 h1 a b c m x y o;have hov:Yc s t q=⟨s.i,0,0,s.t,0,t,[],[],[],0,[],[],s.l,true,q⟩:=rfl;dsimp only at q0;subst hA;generalize hA:Ar.aa=A;generalize hL:Lp _ _ _=L;refine az zq ?_
   repeat' (first|(apply al zq;try dsimp only)|apply aS zq (af hL)|apply aq zq|refine aT rfl ?_|apply ai|refine ah rfl ?_|refine aR rfl ?_|exact aA|apply aB|refine aP fun _=>?_|refine aQ fun _=>?_|(constructor;cbv))
   all_goals first|(show L _ _ _;skip)|(clear hL hfs zq Z hq hvd;subst hA hF hG0 hG1 hG2 hG3 hG4 hG5 hG6 hG7 hO;simp only [dS,VoR.Fs.aa,KrS.Kr.aa,Ar.aa,dY] at * <;> (try simp only [gF,kr,tie,Yc,decide_eq_true_eq,List.length_set] at *) <;> grind [aj];done)
  ·cases hp
 ·cases hp
noncomputable def MR (F:Kv):aO:=fun xs h=>match xs,h with
 |[.agg s_,.one (.val (.int .i64 a)),.agg [.val (.int .i64 v_m),.val (.bool v_t),.val (.bool bB),.val (.int .i64 v_o)],.agg [.sl none (.ints .i64 sw),.val (.bool t_b),.val (.bool t_p),.val (.bool t_f)]],[]=>(match mu s_ with
  |some s=>some ⟨F.Wx s a ⟨v_m,v_t,bB,v_o,sw,t_b,t_p,t_f,0⟩=true∧t_f=false,.sa (.agg (mr (F.WO s a ⟨v_m,v_t,bB,v_o,sw,t_b,t_p,t_f,0⟩))),[],[Any,Any,Any,Any]⟩
  |_=>none)
 |_,_=>none
theorem TP (hb:au Tryz.prog 34 (bX (dS V))):au Tryz.prog 84 (MR (dS V)):=by
 have hfs:=(ak.cons yh (ak.cons (bI [[none,none,none,none,none,some (.ae .eC []),some (.ints .i64 []),some (.ints .i64 []),some (.ae .bg []),none,some (.ints .i64 []),some (.ae .bg []),none,none,some (.ae .iY [])],[none],[some (.ints .i64 []),none,none,none]] hN) (ak.cons pW (ak.cons hb ak.nil rfl) rfl) rfl) rfl);refine aw hfs Tryz.func84 rfl rfl fun xs h p hp=>?_;unfold MR at hp;split at hp
 ·rename_i a v_m v_t bB v_o sw t_b t_p t_f;split at hp
  ·rename_i s e0;cases hp;have g0:=dQ e0;subst g0;refine⟨av rfl,fun hC _=>?_⟩;dsimp only at hC;intro b gv;have hgo:=Pb (show iB V s a ⟨v_m,v_t,bB,v_o,sw,t_b,t_p,t_f,0⟩=true from hC.1);dsimp only at hgo;have hq1:∀ (d:CS) (m:Int) (t b:Bool) (o:Int),(kr d a m t b o).q=d.q:=fun _ _ _ _ _=>rfl;have ho1:∀ (d:CS) (m:Int) (t b:Bool) (o p:Int) (w:List Int),(gF (kr d a m t b o) p w).o=d.o:=fun _ _ _ _ _ _ _=>rfl;have hl1:∀ (d:CS) (m:Int) (t b:Bool) (o p:Int) (w:List Int),(gF (kr d a m t b o) p w).U.length=d.U.length:=fun _ _ _ _ _ _ _=>List.length_set;have hl2:∀ (d:CS) (m:Int) (t b:Bool) (o p:Int) (w:List Int),(gF (kr d a m t b o) p w).q.length=d.q.length+w.length:=fun _ _ _ _ _ _ _=>by unfold gF kr;rw [List.length_append,List.length_map]
   have htf:=hC.2;generalize hF:(dS V)=F,hG0:VoR.Fs.aa=G0,hG1:KrS.Kr.aa=G1,hG2:ViR.Vs.aa=G2,hG3:ViC.Vc.aa=G3,hG4:ViQ.Vm.aa=G4,hG5:SpQ.Sq.aa=G5,hG6:ViM.Vg.aa=G6,hG7:ChA.Ca.aa=G7 at hC hfs ⊢;refine bu fun Z zq A hA L hL=>?_
   repeat' (first|(apply al zq;try dsimp only)|apply aS zq (af hL)|apply aq zq|refine aT rfl ?_|apply ai|refine ah rfl ?_|refine aR rfl ?_|exact aA|apply aB|refine aP fun _=>?_|refine aQ fun _=>?_|(constructor;cbv))
   all_goals first|(show L _ _ _;skip)|(clear hL hfs zq Z;subst hA hF hG0 hG1 hG2 hG3 hG4 hG5 hG6 hG7;simp only [dS,VoR.Fs.aa,KrS.Kr.aa,Ar.aa,dY] at * <;> grind [aj];done)
  ·cases hp
 ·cases hp
noncomputable def Ng (F:Kv):aO:=fun xs h=>match xs,h with
 |[.agg s_,.agg [.val (.int .i64 c_k),.val (.int .i64 c_a),.val (.int .i64 c_b),.val (.int .i64 c_s)],.agg [.sl none (.ints .i64 v_n),.sl none (.ae (.int .i64 (.int .i64 (.int .i64 (.int .i64 (.bool .nil))))) v_l)]],[]=>(match mu s_ with
  |some s=>some ⟨F.abb s ⟨c_k,c_a,c_b,c_s⟩ v_n v_l=true,.sa (.agg (mr (F.afB s ⟨c_k,c_a,c_b,c_s⟩ v_n v_l))),[],[Any,Any,Any]⟩
  |_=>none)
 |_,_=>none
theorem Lh (hb:au Tryz.prog 34 (bX (dS V))):au Tryz.prog 82 (Ng (dS V)):=by
 have hfs:=(ak.cons (bI [[none,none,none,none,none,some (.ae .eC []),some (.ints .i64 []),some (.ints .i64 []),some (.ae .bg []),none,some (.ints .i64 []),some (.ae .bg []),none,none],[none]] UY) (ak.cons (bI [[none,none,none,none,none,some (.ae .eC []),some (.ints .i64 []),some (.ints .i64 []),some (.ae .bg []),none,some (.ints .i64 []),some (.ae .bg []),none,none,some (.ae .iY [])],[none],[none,none,none,some (.ints .i64 []),some (.ae .bg []),none,none,none,none]] rY) (ak.cons (bI [[none,none,none,none,none,some (.ae .eC []),some (.ints .i64 []),some (.ints .i64 []),some (.ae .bg []),none,some (.ints .i64 []),some (.ae .bg []),none,none],[none]] Na) (ak.cons Ka (ak.cons pW (ak.cons (bI [[none,none,none,none,none,some (.ae .eC []),some (.ints .i64 []),some (.ints .i64 []),some (.ae .bg []),none,some (.ints .i64 []),some (.ae .bg []),none,none,some (.ae .iY [])],[none],[none,none,none,none],[some (.ints .i64 []),none,none,none]] (TP hb)) ak.nil rfl) rfl) rfl) rfl) rfl) rfl);refine aw hfs Tryz.func82 rfl rfl fun xs h p hp=>?_;unfold Ng at hp;split at hp
 ·rename_i c_k c_a c_b c_s v_n v_l;split at hp
  ·rename_i s e0;cases hp;have g0:=dQ e0;subst g0;refine⟨av rfl,fun hC _=>?_⟩;dsimp only at hC;intro b gv;obtain⟨hvd,hg1,hg2,hg3,hg4,hg5,hgo⟩:=ZT (show rm V s ⟨c_k,c_a,c_b,c_s⟩ v_n v_l=true from hC);dsimp only at hgo hg4 hg5;have hk6:(bJ s.U s.p).length≤1000:=by omega
   have ntg:=fun (m o:Int) (t b:Bool)=>ach m t b o;have ntp:=fun (m o:Int) (t b:Bool)=>aek m t b o;have heg:=fun (m o:Int) (t b:Bool) (h:df m t b o=true)=>(Fm h).1;have hep:=fun (m o:Int) (t b:Bool) (h:df m t b o=true)=>(yD h).1;generalize hF:(dS V)=F,hG0:VoR.Fs.aa=G0,hG1:KrS.Kr.aa=G1,hG2:ViR.Vs.aa=G2,hG3:ViC.Vc.aa=G3,hG4:ViQ.Vm.aa=G4,hG5:SpQ.Sq.aa=G5,hG6:ViM.Vg.aa=G6,hG7:ChA.Ca.aa=G7 at hC hfs ⊢;refine bu fun Z zq A hA L hL=>?_
   repeat' (first|(apply al zq;try dsimp only)|apply aS zq (af hL)|apply aq zq|refine aT rfl ?_|apply ai|refine ah rfl ?_|refine aR rfl ?_|exact aA|apply aB|refine aP fun _=>?_|refine aQ fun _=>?_|(constructor;cbv))
   all_goals first|(show L _ _ _;skip)|(clear hL hfs zq Z;subst hA hF hG0 hG1 hG2 hG3 hG4 hG5 hG6 hG7;simp only [dS,KrS.Kr.aa,Ar.aa] at * <;> (try simp only [decide_eq_true_eq] at *) <;> grind [aj];done)
   all_goals
    subst hL;refine aJ (aN hfs) (awQ s.q (bJ s.U s.p) ⟨3,s.ee,s.er,if c_k=1 then v_n else [],if c_k=1 then v_l else [],c_k,c_a,c_b,c_s⟩) (fun y=>br Tryz.f82.ntmps [(3,.ptr 1 0),(4,.ptr 2 0),(5,.ptr 3 0),(6,.ptr 4 0),(7,.ptr 5 0),(8,.sl none (.ints .i64 (G1.Is s.U s.p))),(9,.ay y.i)] [(1,.cells 77 [.ay s.i,.ay s.ee,.ay s.er,.ay s.t,.ay s.p,.sl none (.ae .eC s.U),.sl none (.ints .i64 s.w),.sl none (.ints .i64 s.gn),.sl none (.ae .bg s.gl),.ay s.ph,.sl none (.ints .i64 s.tn),.sl none (.ae .bg s.tl),.ay s.l,.bK s.o,.sl none (.ae .iY y.q)]),(2,.cells 38 [.ay c_k,.ay c_a,.ay c_b,.ay c_s]),(3,.cells 29 [.sl none (.ints .i64 v_n),.sl none (.ae .bg v_l)]),(4,.cells 77 [.any,.any,.any,.any,.any,.any,.any,.any,.any,.any,.any,.any,.any,.any,.any]),(5,.cells 40 [.ay 3,.ay s.ee,.ay s.er,.sl none (.ints .i64 (F.afQ c_k v_n)),.sl none (.ae .bg (F.aeM c_k v_l)),.ay c_k,.ay c_a,.ay c_b,.ay c_s])] [Any,Any,Any]) (awM (bJ s.U s.p)) (KO 9 1) ⟨0,s.q⟩ ?_ ?_ ?_
    ·exact HW _ _ _
    ·cbv
     repeat' (first|exact trivial|exact rfl|refine And.intro ?_ ?_)
     all_goals (clear zq Z hfs;subst hA hF hG0 hG1 hG2 hG3 hG4 hG5 hG6 hG7;simp only [dS,Ar.aa] at * <;> grind [aj])
    rintro⟨i,q⟩ hq O hO;have hst:=fun h=>Ic (l:=bJ s.U s.p) (w:=⟨3,s.ee,s.er,if c_k=1 then v_n else [],if c_k=1 then v_l else [],c_k,c_a,c_b,c_s⟩) hk6 (show s.q.length≤95000 by omega) hq h;have hen:=fun h=>Pk hq h;have hql:=LV hq;have q0:=hq.1;have q1:=hq.2.1;dsimp only at q0 q1;subst hA;generalize hA:Ar.aa=A;generalize hL:Lp _ _ _=L;refine az zq ?_
    repeat' (first|(apply al zq;try dsimp only)|apply aS zq (af hL)|apply aq zq|refine aT rfl ?_|apply ai|refine ah rfl ?_|refine aR rfl ?_|exact aA|apply aB|refine aP fun _=>?_|refine aQ fun _=>?_|(constructor;cbv))
    all_goals first|(show L _ _ _;skip)|(clear hL hfs zq Z hq hvd;subst hA hF hG0 hG1 hG2 hG3 hG4 hG5 hG6 hG7 hO;simp only [dS,VoR.Fs.aa,KrS.Kr.aa,Ar.aa] at * <;> (try simp only [jz,cB,vx,decide_eq_true_eq] at *) <;> grind [aj];done)
  ·cases hp
 ·cases hp
noncomputable def qk (F:Kv):aO:=fun xs h=>match xs,h with
 |[.agg s_],[]=>(match mu s_ with
  |some s=>some ⟨F.adS s=true,.sa (.agg (mr (F.acC s))),[],[Any]⟩
  |_=>none)
 |_,_=>none
theorem jv (hb:au Tryz.prog 34 (bX (dS V))):au Tryz.prog 81 (qk (dS V)):=by
 have hfs:=(ak.cons xv (ak.cons lU (ak.cons xI (ak.cons rY (ak.cons lN (ak.cons tv (ak.cons GG (ak.cons (Lh hb) ak.nil rfl) rfl) rfl) rfl) rfl) rfl) rfl) rfl);refine aw hfs Tryz.func81 rfl rfl fun xs h p hp=>?_;unfold qk at hp;split at hp
 ·split at hp
  ·rename_i s e0;cases hp;have g0:=dQ e0;subst g0;refine⟨av rfl,fun hC _=>?_⟩;dsimp only at hC;intro b gv;have hc2:eN V s=true∧vR s=true∧s.q.length≤79000:=by
    have h:(eN V s && (vR s && decide (s.q.length≤79000)))=true:=hC;rw [Bool.and_eq_true,Bool.and_eq_true,decide_eq_true_eq] at h;exact h
   obtain⟨hvd,hg1,hg2,hg3,hg4,hgm,hgo1,hgo2,hgo3,hgo4⟩:=ES hc2.1 hc2.2.1 hc2.2.2;have hA:=fun (c:oL [s.i] s.gn=true) e1 e2 e3=>hgo4 e1 e2 e3 [s.i] (dx s.i s.U) (fun _=>⟨rfl,rfl⟩) (fun q=>by rw [c] at q;cases q);have hB:=fun (c:oL [s.i] s.gn=false) e1 e2 e3=>hgo4 e1 e2 e3 (Dv [s.i] s.gn) (Al [s.i] s.gn (dx s.i s.U) s.gl) (fun q=>by rw [c] at q;cases q) (fun _=>⟨rfl,rfl⟩);clear hgo4;have hvi:=Ol s.U;have hk6:s.U.length≤1000000:=by omega
   have hq9:=hc2.2.2;generalize hF:(dS V)=F,hG0:VoR.Fs.aa=G0,hG1:KrS.Kr.aa=G1,hG2:ViR.Vs.aa=G2,hG3:ViC.Vc.aa=G3,hG4:ViQ.Vm.aa=G4,hG5:SpQ.Sq.aa=G5,hG6:ViM.Vg.aa=G6,hG7:ChA.Ca.aa=G7 at hC hfs ⊢;refine bu fun Z zq A hA L hL=>?_
   repeat' (first|(apply al zq;try dsimp only)|apply aS zq (af hL)|apply aq zq|refine aT rfl ?_|apply ai|refine ah rfl ?_|refine aR rfl ?_|exact aA|apply aB|refine aP fun _=>?_|refine aQ fun _=>?_|(constructor;cbv))
   all_goals first|(show L _ _ _;skip)|(clear hL hfs zq Z;subst hA hF hG0 hG1 hG2 hG3 hG4 hG5 hG6 hG7;simp only [dS,Ar.aa] at * <;> grind [aj];done)
   subst hL;refine aJ (aN hfs) (WV s.U) (fun y=>br Tryz.f81.ntmps [(1,.ptr 1 0),(2,.ptr 2 0),(3,.ay y.i)] [(1,.cells 77 [.ay s.i,.ay s.ee,.ay s.er,.ay s.t,.ay s.p,.sl none (.ae .eC s.U),.sl none (.ints .i64 s.w),.sl none (.ints .i64 s.gn),.sl none (.ae .bg s.gl),.ay s.ph,.sl none (.ints .i64 s.tn),.sl none (.ae .bg s.tl),.ay s.l,.bK s.o,.sl none (.ae .iY s.q)]),(2,.cells 77 [.any,.any,.any,.any,.any,.any,.any,.any,.any,.any,.any,.any,.any,.any,.any])] [Any]) (mF s.U.length) (Qt 3) ⟨0⟩ ?_ ?_ ?_
   ·exact xD _
   ·cbv
    repeat' (first|exact trivial|exact rfl|refine And.intro ?_ ?_)
   rintro⟨i⟩ hq O hO;have hst:=fun h=>zB hk6 hq h;have hen:=fun h=>EM hq h;have q0:=hq.1;have q1:=hq.2.1;dsimp only at q0 q1;subst hA;generalize hA:Ar.aa=A;generalize hL:Lp _ _ _=L;refine az zq ?_
   repeat' (first|(apply al zq;try dsimp only)|apply aS zq (af hL)|apply aq zq|refine aT rfl ?_|apply ai|refine ah rfl ?_|refine aR rfl ?_|exact aA|apply aB|refine aP fun _=>?_|refine aQ fun _=>?_|(constructor;cbv))
   all_goals first|(show L _ _ _;skip)|(clear hL hfs zq Z hq hvd hc2;subst hA hF hG0 hG1 hG2 hG3 hG4 hG5 hG6 hG7 hO;simp only [dS,KrS.Kr.aa,ViC.Vc.aa,ViQ.Vm.aa,SpQ.Sq.aa,ViM.Vg.aa,ChA.Ca.aa,Ar.aa,dY] at * <;> (try simp only [jz,cB,decide_eq_true_eq] at *) <;> (try (have e1:s.ph=1:=(by clear hA hB;grind [aj]))) <;> (try (have e2:¬0 < s.w.length:=(by clear hA hB;grind [aj]))) <;> (try (have e3:qo s.U=false:=(by clear hA hB;grind [aj]))) <;> (try (replace hA:=fun c=>hA c e1 e2 e3)) <;> (try (replace hB:=fun c=>hB c e1 e2 e3)) <;> (try (rcases Bool.eq_false_or_eq_true (oL [s.i] s.gn) with hcm|hcm)) <;> (try (replace hA:=hA hcm)) <;> (try (replace hB:=hB hcm)) <;> grind [aj];done)
  ·cases hp
 ·cases hp
noncomputable def DT (F:Kv):aO:=fun xs h=>match xs,h with
 |[.agg s_,.one (.val (.int .i64 a)),.agg [.val (.int .i64 v_m),.val (.bool v_t),.val (.bool bB),.val (.int .i64 v_o)],.agg [.sl none (.ints .i64 sw),.val (.bool t_b),.val (.bool t_p),.val (.bool t_f)]],[]=>(match mu s_ with
  |some s=>some ⟨F.Wx s a ⟨v_m,v_t,bB,v_o,sw,t_b,t_p,t_f,0⟩=true,.sa (.agg (mr (F.WO s a ⟨v_m,v_t,bB,v_o,sw,t_b,t_p,t_f,0⟩))),[],[Any,Any,Any,Any]⟩
  |_=>none)
 |_,_=>none
theorem Tb (hb:au Tryz.prog 34 (bX (dS V))):au Tryz.prog 84 (DT (dS V)):=by
 have hfs:=(ak.cons yh (ak.cons (bI [[none,none,none,none,none,some (.ae .eC []),some (.ints .i64 []),some (.ints .i64 []),some (.ae .bg []),none,some (.ints .i64 []),some (.ae .bg []),none,none,some (.ae .iY [])],[none],[some (.ints .i64 []),none,none,none]] hN) (ak.cons pW (ak.cons hb (ak.cons (jv hb) ak.nil rfl) rfl) rfl) rfl) rfl);refine aw hfs Tryz.func84 rfl rfl fun xs h p hp=>?_;unfold DT at hp;split at hp
 ·rename_i a v_m v_t bB v_o sw t_b t_p t_f;split at hp
  ·rename_i s e0;cases hp;have g0:=dQ e0;subst g0;refine⟨av rfl,fun hC _=>?_⟩;dsimp only at hC;intro b gv;have hgo:=Pb (show iB V s a ⟨v_m,v_t,bB,v_o,sw,t_b,t_p,t_f,0⟩=true from hC);dsimp only at hgo;have hq1:∀ (d:CS) (m:Int) (t b:Bool) (o:Int),(kr d a m t b o).q=d.q:=fun _ _ _ _ _=>rfl;have ho1:∀ (d:CS) (m:Int) (t b:Bool) (o p:Int) (w:List Int),(gF (kr d a m t b o) p w).o=d.o:=fun _ _ _ _ _ _ _=>rfl;have hl1:∀ (d:CS) (m:Int) (t b:Bool) (o p:Int) (w:List Int),(gF (kr d a m t b o) p w).U.length=d.U.length:=fun _ _ _ _ _ _ _=>List.length_set;have hl2:∀ (d:CS) (m:Int) (t b:Bool) (o p:Int) (w:List Int),(gF (kr d a m t b o) p w).q.length=d.q.length+w.length:=fun _ _ _ _ _ _ _=>by unfold gF kr;rw [List.length_append,List.length_map]
   generalize hF:(dS V)=F,hG0:VoR.Fs.aa=G0,hG1:KrS.Kr.aa=G1,hG2:ViR.Vs.aa=G2,hG3:ViC.Vc.aa=G3,hG4:ViQ.Vm.aa=G4,hG5:SpQ.Sq.aa=G5,hG6:ViM.Vg.aa=G6,hG7:ChA.Ca.aa=G7 at hC hfs ⊢;refine bu fun Z zq A hA L hL=>?_
   repeat' (first|(apply al zq;try dsimp only)|apply aS zq (af hL)|apply aq zq|refine aT rfl ?_|apply ai|refine ah rfl ?_|refine aR rfl ?_|exact aA|apply aB|refine aP fun _=>?_|refine aQ fun _=>?_|(constructor;cbv))
   all_goals first|(show L _ _ _;skip)|(clear hL hfs zq Z;subst hA hF hG0 hG1 hG2 hG3 hG4 hG5 hG6 hG7;simp only [dS,VoR.Fs.aa,KrS.Kr.aa,Ar.aa,dY] at * <;> grind [aj];done)
  ·cases hp
 ·cases hp
noncomputable def Ln (F:Kv):aO:=fun xs h=>match xs,h with
 |[.agg s_,.agg [.val (.int .i64 e_e),.val (.int .i64 e_r)],.one (.val (.int .i64 p))],[]=>(match mu s_ with
  |some s=>some ⟨F.acw s e_e e_r p=true,.sa (.agg (mr (F.abC s e_e e_r p))),[],[Any,Any,Any]⟩
  |_=>none)
 |_,_=>none
theorem Lf (hb:au Tryz.prog 34 (bX (dS V))):au Tryz.prog 60 (Ln (dS V)):=by
 have hfs:=(ak.cons (bI [[none,none,none,none,none,some (.ae .eC []),some (.ints .i64 []),some (.ints .i64 []),some (.ae .bg []),none,some (.ints .i64 []),some (.ae .bg []),none,none],[none]] UY) (ak.cons (bI [[none,none,none,none,none,some (.ae .eC []),some (.ints .i64 []),some (.ints .i64 []),some (.ae .bg []),none,some (.ints .i64 []),some (.ae .bg []),none,none,some (.ae .iY [])],[none],[none,none,none,some (.ints .i64 []),some (.ae .bg []),none,none,none,none]] rY) (ak.cons uD (ak.cons (bI [[none,none,none,none,none,some (.ae .eC []),some (.ints .i64 []),some (.ints .i64 []),some (.ae .bg []),none,some (.ints .i64 []),some (.ae .bg []),none,none,some (.ae .iY [])],[none],[none,none,none,none]] yh) (ak.cons (bI [[none,none,none,none,none,some (.ae .eC []),some (.ints .i64 []),some (.ints .i64 []),some (.ae .bg []),none,some (.ints .i64 []),some (.ae .bg []),none,none,some (.ae .iY [])],[none],[some (.ints .i64 []),none,none,none]] hN) (ak.cons (jv hb) ak.nil rfl) rfl) rfl) rfl) rfl) rfl);refine aw hfs Tryz.func60 rfl rfl fun xs h p hp=>?_;unfold Ln at hp;split at hp
 ·rename_i e_e e_r p;split at hp
  ·rename_i s e0;cases hp;have g0:=dQ e0;subst g0;refine⟨av rfl,fun hC _=>?_⟩;dsimp only at hC;intro b gv;obtain⟨hvd,hso,hg1,hg2,hg3,hg4,hg5⟩:=DV (show VU V s e_e e_r p=true from hC);have hm1:=fun h=>UC (a:=s.t) (b:=e_e) h;have hm2:=fun h=>UE (a:=s.t) (b:=e_e) h;have hk6:(bJ s.U p).length≤1000:=by omega
   generalize hF:(dS V)=F,hG0:VoR.Fs.aa=G0,hG1:KrS.Kr.aa=G1,hG2:ViR.Vs.aa=G2,hG3:ViC.Vc.aa=G3,hG4:ViQ.Vm.aa=G4,hG5:SpQ.Sq.aa=G5,hG6:ViM.Vg.aa=G6,hG7:ChA.Ca.aa=G7 at hC hfs ⊢;refine bu fun Z zq A hA L hL=>?_
   repeat' (first|(apply al zq;try dsimp only)|apply aS zq (af hL)|apply aq zq|refine aT rfl ?_|apply ai|refine ah rfl ?_|refine aR rfl ?_|exact aA|apply aB|refine aP fun _=>?_|refine aQ fun _=>?_|(constructor;cbv))
   all_goals first|(show L _ _ _;skip)|(clear hL hfs zq Z;subst hA hF hG0 hG1 hG2 hG3 hG4 hG5 hG6 hG7;simp only [dS,KrS.Kr.aa,Ar.aa] at * <;> (try simp only [decide_eq_true_eq] at *) <;> grind [aj];done)
   all_goals
    subst hL;refine aJ (aN hfs) (awQ s.q (bJ s.U p) ⟨1,e_e,e_r,[],[],0,0,0,0⟩) (fun y=>br Tryz.f60.ntmps [(3,.ptr 1 0),(4,.ptr 2 0),(6,.ptr 3 0),(7,.ay y.i)] [(1,.cells 77 [.ay s.i,.ay e_e,.ay e_r,.ay (F.abA s.t e_e),.ay p,.sl none (.ae .eC s.U),.sl none (.ints .i64 (G1.Is s.U p)),.sl none (.ints .i64 []),.sl none (.ae .bg []),.ay 1,.sl none (.ints .i64 []),.sl none (.ae .bg []),.ay s.l,.bK s.o,.sl none (.ae .iY y.q)]),(2,.cells 24 [.ay e_e,.ay e_r]),(3,.cells 77 [.any,.any,.any,.any,.any,.any,.any,.any,.any,.any,.any,.any,.any,.any,.any])] [Any,Any,Any]) (awM (bJ s.U p)) (KO 7 1) ⟨0,s.q⟩ ?_ ?_ ?_
    ·exact HW _ _ _
    ·cbv
     repeat' (first|exact trivial|exact rfl|refine And.intro ?_ ?_)
     all_goals (clear zq Z hfs;subst hA hF hG0 hG1 hG2 hG3 hG4 hG5 hG6 hG7;simp only [dS,Ar.aa] at * <;> grind [aj])
    rintro⟨i,q⟩ hq O hO;have hst:=fun h=>Ic (l:=bJ s.U p) (w:=⟨1,e_e,e_r,[],[],0,0,0,0⟩) hk6 (show s.q.length≤95000 by omega) hq h;have hen:=fun h=>Pk hq h;have hql:=LV hq;have q0:=hq.1;have q1:=hq.2.1;dsimp only at q0 q1;subst hA;generalize hA:Ar.aa=A;generalize hL:Lp _ _ _=L;refine az zq ?_
    repeat' (first|(apply al zq;try dsimp only)|apply aS zq (af hL)|apply aq zq|refine aT rfl ?_|apply ai|refine ah rfl ?_|refine aR rfl ?_|exact aA|apply aB|refine aP fun _=>?_|refine aQ fun _=>?_|(constructor;cbv))
    all_goals first|(show L _ _ _;skip)|(clear hL hfs zq Z hq;subst hA hF hG0 hG1 hG2 hG3 hG4 hG5 hG6 hG7 hO;simp only [dS,KrS.Kr.aa,Ar.aa] at * <;> (try simp only [jz,cB] at *) <;> grind [aj];done)
    all_goals
     subst hL;refine aJ (aN hfs) (reQ (Vx s e_e e_r p q)) (fun y=>br Tryz.f60.ntmps [(3,.ptr 1 0),(6,.ptr 3 0),(8,.ay y.i)] [(1,.cells 77 [.ay s.i,.ay e_e,.ay e_r,.ay (F.abA s.t e_e),.ay p,.sl none (.ae .eC y.t),.sl none (.ints .i64 (G1.Is s.U p)),.sl none (.ints .i64 []),.sl none (.ae .bg []),.ay 1,.sl none (.ints .i64 []),.sl none (.ae .bg []),.ay s.l,.bK s.o,.sl none (.ae .iY y.q)]),(3,.cells 77 [.any,.any,.any,.any,.any,.any,.any,.any,.any,.any,.any,.any,.any,.any,.any])] [Any,Any,Any]) (VY (Vx s e_e e_r p q)) (xvR 8) ⟨0,s.U,q⟩ ?_ ?_ ?_
     ·exact RE (Vx s e_e e_r p q)
     ·cbv
      repeat' (first|exact trivial|exact rfl|refine And.intro ?_ ?_)
      all_goals (clear zq Z hfs hq;subst hA hF hG0 hG1 hG2 hG3 hG4 hG5 hG6 hG7 hO;simp only [dS,VoR.Fs.aa,KrS.Kr.aa,ViR.Vs.aa,ViC.Vc.aa,ViQ.Vm.aa,SpQ.Sq.aa,ViM.Vg.aa,ChA.Ca.aa,Ar.aa,List.nil_append,dY,qw] at * <;> grind [aj])
     rintro⟨j,t,q2⟩ hq2 O2 hO2;have hvn:=acB hvd hso e_e e_r p q;have hst2:=fun h=>Ua (s:=Vx s e_e e_r p q) hvn (show q.length≤90000 by omega) hq2 h;have hen2:=fun h=>aap hvn hq2 h;have r0:=hq2.1;have hpe:=fun h1 a b c m x y o=>AY (t:=t) (i:=j) hq2.1 h1 a b c m x y o;have htq:tqO (Vx s e_e e_r p q) t q2=⟨s.i,e_e,e_r,dz s.t e_e,p,t,bJ s.U p,[],[],1,[],[],s.l,s.o,q2⟩:=rfl;dsimp only at r0;subst hA;generalize hA:Ar.aa=A;generalize hL:Lp _ _ _=L;refine az zq ?_
     repeat' (first|(apply al zq;try dsimp only)|apply aS zq (af hL)|apply aq zq|refine aT rfl ?_|apply ai|refine ah rfl ?_|refine aR rfl ?_|exact aA|apply aB|refine aP fun _=>?_|refine aQ fun _=>?_|(constructor;cbv))
     all_goals first|(show L _ _ _;skip)|(clear hL hfs zq Z hq hq2 hvn;subst hA hF hG0 hG1 hG2 hG3 hG4 hG5 hG6 hG7 hO hO2;simp only [dS,VoR.Fs.aa,KrS.Kr.aa,Ar.aa,dY] at * <;> (try simp only [gF,kr,tie,tqO,decide_eq_true_eq,List.length_set] at *) <;> grind [aj];done)
  ·cases hp
 ·cases hp
noncomputable def ub (F:Kv):aO:=fun xs h=>match xs,h with
 |[.agg s_],[]=>(match mu s_ with
  |some s=>some ⟨F.adY s=true,.sa (.agg (mr (F.Xl s))),[],[Any]⟩
  |_=>none)
 |_,_=>none
theorem sO (hb:au Tryz.prog 34 (bX (dS V))):au Tryz.prog 34 (ub (dS V)):=by
 have hfs:=(ak.cons (Jc (V:=V)) (ak.cons (Lf hb) (ak.cons (HU (V:=V)) ak.nil rfl) rfl) rfl);refine aw hfs Tryz.func34 rfl rfl fun xs h p hp=>?_;unfold ub at hp;split at hp
 ·split at hp
  ·rename_i s e0;cases hp;have g0:=dQ e0;subst g0;refine⟨av rfl,fun hC _=>?_⟩;dsimp only at hC;intro b gv;have hgo:=Et (show okB V s=true from hC);have hm1:=fun h=>UC (a:=s.t) (b:=s.ee) h;have hm2:=fun h=>UE (a:=s.t) (b:=s.ee) h;generalize hF:(dS V)=F,hG0:VoR.Fs.aa=G0,hG1:KrS.Kr.aa=G1,hG2:ViR.Vs.aa=G2,hG3:ViC.Vc.aa=G3,hG4:ViQ.Vm.aa=G4,hG5:SpQ.Sq.aa=G5,hG6:ViM.Vg.aa=G6,hG7:ChA.Ca.aa=G7 at hC hfs ⊢;refine bu fun Z zq A hA L hL=>?_
   repeat' (first|(apply al zq;try dsimp only)|apply aS zq (af hL)|apply aq zq|refine aT rfl ?_|apply ai|refine ah rfl ?_|refine aR rfl ?_|exact aA|apply aB|refine aP fun _=>?_|refine aQ fun _=>?_|(constructor;cbv))
   all_goals first|(show L _ _ _;skip)|(clear hL hfs zq Z;subst hA hF hG0 hG1 hG2 hG3 hG4 hG5 hG6 hG7;simp only [dS,Ar.aa,dY] at * <;> grind [aj];done)
  ·cases hp
 ·cases hp
theorem OZ (hb:au Tryz.prog 34 (bX (dS V))):au Tryz.prog 34 (bX (dS (rup V))):=sO hb
theorem abZ:au Tryz.prog 34 (bX (dS vF)):=by
 refine aw ak.nil Tryz.func34 rfl rfl fun xs h p hp=>?_;unfold bX at hp;split at hp
 ·split at hp
  ·cases hp;exact⟨av rfl,fun hC _=>absurd (show false=true from hC) Bool.false_ne_true⟩
  ·cases hp
 ·cases hp
end Go.Proofs.YtelhldgdnlppfaaGreat.KrT
