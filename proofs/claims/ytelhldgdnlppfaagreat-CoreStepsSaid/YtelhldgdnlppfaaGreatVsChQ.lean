/-
  what a root does,as the code does it. No condition.
-/
import Derived.Test.YtelhldgdnlppfaaGreatVsChR
import Derived.Test.YtelhldgdnlppfaaGreatVsTrQ
set_option cbv.maxSteps 4000000
set_option maxHeartbeats 4000000
set_option maxRecDepth 100000
namespace Go.Proofs.YtelhldgdnlppfaaGreat.ChQ
open Go Ry Cmp ViR ViL ChR
open EgR (xH ma)
open EcX (fX)
open SpR (sV lY gw)
open TrQ (uj qE Ai lW)
open SoC (Fv uU dC)
structure CH where
 k:Int
 a:Int
 b:Int
 s:Int
def Xd (d:List E) (y:E):Bool:=!rb y 4 && (decide (Ai d (ri y 0) (ri y 1)=0) && decide (fX (eW (ri y 0) (ri y 1)) (eX (ri y 0) (ri y 1)) (ri y 2) (lW d (ri y 0) (ri y 1)).1 (lW d (ri y 0) (ri y 1)).2.1 (lW d (ri y 0) (ri y 1)).2.2 < 0))
def ju (l d:List E):Option E:=(dC l).find? (Xd d)
def vH (l d:List E):CH:=match ju l d with
 |some y=>⟨3,(lW d (ri y 0) (ri y 1)).1,(lW d (ri y 0) (ri y 1)).2.1,ET l (lW d (ri y 0) (ri y 1)).1 (lW d (ri y 0) (ri y 1)).2.1 (lW d (ri y 0) (ri y 1)).2.2⟩
 |none=>⟨0,0,0,0⟩
def xh (l d:List E):Bool:=(ju l d).isSome
def evQ (l d:List E) (y:ChR.XI):Prop:=0≤y.i∧y.i≤(dC l).length∧ju l d=((dC l).drop y.i.toNat).find? (Xd d)
noncomputable def evI (A:Ar) (l d s:List E) (y:ChR.XI):St:=br Tryz.f154.ntmps [(0,.sl none (.ae .bg l)),(1,.sl none (.ae .pY d)),(4,.ptr 1 0),(15,.own 2),(16,.ay (A.dN s)),(17,.ay y.i)] [(1,.cells 38 [.num .i64 0,.num .i64 0,.num .i64 0,.num .i64 0]),(2,.row 94 (.ae .bg s))] [Any,Any]
theorem Uw {l d:List E} (hl:l.length≤1000000) {i:Int} (hq:evQ l d ⟨i⟩):0≤i∧i≤(dC l).length∧(dC l).length=l.length∧(i < (dC l).length→aD .add .i64 i 1=i+1∧mF (dC l) ⟨i+1⟩ < mF (dC l) ⟨i⟩ ∧
  (Xd d ((dC l).getD i.toNat [])=true→ju l d=some ((dC l).getD i.toNat []))∧(Xd d ((dC l).getD i.toNat [])=false→evQ l d ⟨i+1⟩))∧(¬i < (dC l).length→ju l d=none):=by
 obtain⟨h0,h1,h2⟩:=hq;simp only at h0 h1 h2;have e:=(SoC.jr l).1;refine⟨h0,h1,e,fun h=>⟨by rw [aW,wr _ (by omega) (by omega)],by simp only [mF];omega,fun g=>?_,fun g=>⟨by simp only;omega,by simp only;omega,?_⟩⟩,fun h=>?_⟩
 ·rw [h2,om _ i h0 h,List.find?_cons_of_pos g]
 ·simp only;rw [h2,om _ i h0 h,List.find?_cons_of_neg (by rw [g];decide)]
 ·rw [h2,List.drop_of_length_le (by omega)];rfl
structure XZ where
 i:Int
def zQ (y:XZ):Prop:=y.i=0
def zM (_:XZ):Nat:=0
def zR (k:Nat) (st:St):XZ:=⟨bw st k⟩
noncomputable def ezI (y:XZ):St:=br Tryz.f154.ntmps [(4,.ptr 1 0),(15,.val (.slice none 0 0)),(16,.num .i64 0),(17,.ay y.i)] [(1,.cells 38 [.num .i64 0,.num .i64 0,.num .i64 0,.num .i64 0])] [Any,Any]
def jt (n:List Int) (l:List E):Int:=if aX n l=true then (if gw (gC n l)=true then 0 else 11) else 1
def ef (n:List Int) (l:List E):CH:=if ¬jt n l=0 then ⟨0,0,0,0⟩ else if xh (mM n l) (gC n l)=true then vH (mM n l) (gC n l) else if 0 < (rR n l).length then ⟨2,(qY (rR n l)).1,(qY (rR n l)).2.1,(qY (rR n l)).2.2.2.1⟩ else ⟨1,0,0,0⟩
theorem VM (n:List Int) (l:List E):(mM n l).length≤l.length:=by
 unfold mM;split
 ·exact nN l
 ·exact Nat.zero_le _
theorem PA (n:List Int) (l:List E):(gC n l).length≤l.length:=by
 unfold gC;split
 ·exact Nat.le_trans (ij sA _) (nN l)
 ·exact Nat.zero_le _
theorem Vp (n:List Int) (l:List E):(rR n l).length≤l.length:=by
 unfold rR;split
 ·exact ij (sG n) l
 ·exact Nat.zero_le _
theorem ZV (d:List E):vH [] d=⟨0,0,0,0⟩∧xh [] d=false:=by
 have h:=(SoC.jr []).1;have e:dC []=[]:=List.eq_nil_of_length_eq_zero h;unfold vH xh ju;rw [e];exact⟨rfl,rfl⟩
structure Cq where
 v_k:List E→List E→Int
 v_a:List E→List E→Int
 bB:List E→List E→Int
 Hr:List E→List E→Int
 afM:List E→List E→Bool
 Lw:List E→List E→Bool
 afT:List Int→List E→Bool
 afg:List Int→List E→Bool
 agi:List Int→List E→Bool
 YP:List Int→List E→Int
 Xv:List Int→List E→Int
 aaD:List Int→List E→Int
 Xa:List Int→List E→Int
 ZR:List Int→List E→Int
def Cq.aa:Cq:=⟨fun l d=>(vH l d).k,fun l d=>(vH l d).a,fun l d=>(vH l d).b,fun l d=>(vH l d).s,xh,fun l d=>decide (0 < l.length∧l.length≤1000000∧d.length≤1000000),fun n l=>decide (n.length≤1000000∧l.length≤1000000),fun n l=>decide (n.length≤1000000∧l.length≤1000000∧(mM n l).length=0),fun n l=>decide (n.length≤1000000∧l.length≤1000000∧0 < (mM n l).length),fun n l=>(ef n l).k,fun n l=>(ef n l).a,fun n l=>(ef n l).b,fun n l=>(ef n l).s,jt⟩
def FA (F:Cq):aO:=fun xs h=>match xs,h with
 |[.one (.sl none (.ae (.int .i64 (.int .i64 (.int .i64 (.int .i64 (.bool .nil))))) l)),.one (.sl none (.ae (.int .i64 (.int .i64 (.int .i64 .nil))) d))],[]=>some ⟨F.Lw l d=true,.cN [.agg [.ay (F.v_k l d),.ay (F.v_a l d),.ay (F.bB l d),.ay (F.Hr l d)],B (F.afM l d)],[],[Any,Any]⟩
 |_,_=>none
theorem Qq:au Tryz.prog 154 (FA Cq.aa):=by
 have hfs:=(ak.cons Nr (ak.cons uU (ak.cons qE (ak.cons kU (ak.cons ma (ak.cons TF ak.nil rfl) rfl) rfl) rfl) rfl) rfl);refine aw hfs Tryz.func154 rfl rfl fun xs h p hp=>?_;unfold FA at hp;split at hp
 ·rename_i l d;cases hp;refine⟨av rfl,fun hC _=>?_⟩;dsimp only at hC;intro b gv;have hk:0 < l.length∧l.length≤1000000∧d.length≤1000000:=of_decide_eq_true hC;have he1:∀ y,ju l d=some y→xh l d=true∧(vH l d).k=3∧(vH l d).a=(lW d (ri y 0) (ri y 1)).1∧(vH l d).b=(lW d (ri y 0) (ri y 1)).2.1∧(vH l d).s=ET l (lW d (ri y 0) (ri y 1)).1 (lW d (ri y 0) (ri y 1)).2.1 (lW d (ri y 0) (ri y 1)).2.2:=fun y h=>by unfold xh vH;rw [h];exact⟨rfl,rfl,rfl,rfl,rfl⟩
  have he0:ju l d=none→xh l d=false∧(vH l d).k=0∧(vH l d).a=0∧(vH l d).b=0∧(vH l d).s=0:=fun h=>by unfold xh vH;rw [h];exact⟨rfl,rfl,rfl,rfl,rfl⟩
  have hsl:=(SoC.jr l).1;generalize hF:Cq.aa=F,hG0:ViL.Vl.aa=G0,hG1:EgR.Fs.aa=G1,hG2:SpR.Sp.aa=G2,hG3:TrQ.Tq.aa=G3,hG4:ChR.Ch.aa=G4,hG5:SoC.Oc.aa=G5 at hC hfs ⊢;refine bu fun Z zq A hA L hL=>?_
  repeat' (first|(apply al zq;try dsimp only)|apply aS zq (af hL)|apply aq zq|refine aT rfl ?_|apply ai|refine ah rfl ?_|refine aR rfl ?_|exact aA|apply aB|refine aP fun _=>?_|refine aQ fun _=>?_|(constructor;cbv))
  all_goals first|(show L _ _ _;skip)|(clear hL hfs zq Z;subst hA hF hG0 hG1 hG2 hG3 hG4 hG5;simp only [Cq.aa,ChR.Ch.aa,SoC.Oc.aa] at * <;> grind [aj];done)
  subst hL;refine aJ (aN hfs) (evQ l d) (evI A l d (G5.ob l)) (mF (dC l)) (ChR.iR 17) ⟨0⟩ ?_ ?_ ?_
  ·exact⟨Int.le_refl 0,Int.natCast_nonneg _,rfl⟩
  ·cbv
   repeat' (first|exact trivial|exact rfl|refine And.intro ?_ ?_)
  rintro⟨i⟩ hq O hO;have hst:=Uw hk.2.1 hq;have hp:Xd d ((dC l).getD i.toNat [])=(!rb ((dC l).getD i.toNat []) 4 && (decide (Ai d (ri ((dC l).getD i.toNat []) 0) (ri ((dC l).getD i.toNat []) 1)=0) && decide (fX (eW (ri ((dC l).getD i.toNat []) 0) (ri ((dC l).getD i.toNat []) 1)) (eX (ri ((dC l).getD i.toNat []) 0) (ri ((dC l).getD i.toNat []) 1)) (ri ((dC l).getD i.toNat []) 2) (lW d (ri ((dC l).getD i.toNat []) 0) (ri ((dC l).getD i.toNat []) 1)).1 (lW d (ri ((dC l).getD i.toNat []) 0) (ri ((dC l).getD i.toNat []) 1)).2.1 (lW d (ri ((dC l).getD i.toNat []) 0) (ri ((dC l).getD i.toNat []) 1)).2.2 < 0))):=rfl;subst hA;generalize hA:Ar.aa=A;generalize hL:Lp _ _ _=L;refine az zq ?_
  repeat' (first|(apply al zq;try dsimp only)|apply aS zq (af hL)|apply aq zq|refine aT rfl ?_|apply ai|refine ah rfl ?_|refine aR rfl ?_|exact aA|apply aB|refine aP fun _=>?_|refine aQ fun _=>?_|(constructor;cbv))
  all_goals (clear hL hfs zq Z hq;subst hA hF hG0 hG1 hG2 hG3 hG4 hG5 hO;simp only [Cq.aa,ViL.Vl.aa,EgR.Fs.aa,TrQ.Tq.aa,ChR.Ch.aa,SoC.Oc.aa,Ar.aa] at * <;> grind [aj];done)
 ·cases hp
def Cm (_:Cq):aO:=fun xs h=>match xs,h with
 |[.one (.val (.slice none 0 0)),.one (.sl none (.ae (.int .i64 (.int .i64 (.int .i64 .nil))) _))],[]=>some ⟨True,.cN [.agg [.ay 0,.ay 0,.ay 0,.ay 0],B false],[],[Any,Any]⟩
 |_,_=>none
theorem JK:au Tryz.prog 154 (Cm Cq.aa):=by
 have hfs:=(ak.cons Jo (ak.cons uU (ak.cons qE (ak.cons kU (ak.cons ma ak.nil rfl) rfl) rfl) rfl) rfl);refine aw hfs Tryz.func154 rfl rfl fun xs h p hp=>?_;unfold Cm at hp;split at hp
 ·rename_i d;cases hp;refine⟨av rfl,fun _ _=>?_⟩;intro b gv;generalize hF:Cq.aa=F,hG0:ViL.Vl.aa=G0,hG1:EgR.Fs.aa=G1,hG2:SpR.Sp.aa=G2,hG3:TrQ.Tq.aa=G3,hG4:ChR.Ch.aa=G4,hG5:SoC.Oc.aa=G5 at hfs ⊢;refine bu fun Z zq A hA L hL=>?_
  repeat' (first|(apply al zq;try dsimp only)|apply aS zq (af hL)|apply aq zq|refine aT rfl ?_|apply ai|refine ah rfl ?_|refine aR rfl ?_|exact aA|apply aB|refine aP fun _=>?_|refine aQ fun _=>?_|(constructor;cbv))
  subst hL;refine aJ (aN hfs) (zQ) (ezI) (zM) (zR 17) ⟨0⟩ ?_ ?_ ?_
  ·exact rfl
  ·cbv
   repeat' (first|exact trivial|exact rfl|refine And.intro ?_ ?_)
  rintro⟨i⟩ hq O hO;have hi:i=0:=hq;subst hA;generalize hA:Ar.aa=A;generalize hL:Lp _ _ _=L;refine az zq ?_
  repeat' (first|(apply al zq;try dsimp only)|apply aS zq (af hL)|apply aq zq|refine aT rfl ?_|apply ai|refine ah rfl ?_|refine aR rfl ?_|exact aA|apply aB|refine aP fun _=>?_|refine aQ fun _=>?_|(constructor;cbv))
  all_goals (clear hL zq Z hq;first|(exfalso;subst hA hF hG0 hG1 hG2 hG3 hG4 hG5 hO;simp only [ViL.Vl.aa,EgR.Fs.aa,TrQ.Tq.aa,ChR.Ch.aa,SoC.Oc.aa,Ar.aa] at * <;> grind [aj];done)|(subst hA hF hG0 hG1 hG2 hG3 hG4 hG5 hO;simp only [Cq.aa,ViL.Vl.aa,EgR.Fs.aa,SpR.Sp.aa,TrQ.Tq.aa,ChR.Ch.aa,SoC.Oc.aa,Ar.aa,List.nil_append] at * <;> grind [aj];done))
 ·cases hp
def Lo (F:Cq):aO:=fun xs h=>match xs,h with
 |[.agg [.sl none (.ints .i64 v_n),.sl none (.ae (.int .i64 (.int .i64 (.int .i64 (.int .i64 (.bool .nil))))) v_l)]],[]=>some ⟨F.afg v_n v_l=true,.cN [.agg [.ay (F.YP v_n v_l),.ay (F.Xv v_n v_l),.ay (F.aaD v_n v_l),.ay (F.Xa v_n v_l)],I (F.ZR v_n v_l)],[],[Any]⟩
 |_,_=>none
theorem TC:au Tryz.prog 127 (Lo Cq.aa):=by
 have hfs:=(ak.cons Ja (ak.cons BM (ak.cons lY (ak.cons JK (ak.cons AR (ak.cons Ix ak.nil rfl) rfl) rfl) rfl) rfl) rfl);refine aw hfs Tryz.func127 rfl rfl fun xs h p hp=>?_;unfold Lo at hp;split at hp
 ·rename_i v_n v_l;cases hp;refine⟨av rfl,fun hC _=>?_⟩;dsimp only at hC;intro b gv;have hk:v_n.length≤1000000∧v_l.length≤1000000∧(mM v_n v_l).length=0:=of_decide_eq_true hC;have h1:=VM v_n v_l;have h2:=PA v_n v_l;have h3:=Vp v_n v_l;have h4:jt v_n v_l=if aX v_n v_l=true then (if gw (gC v_n v_l)=true then 0 else 11) else 1:=rfl
  have h5:oU v_n v_l=if aX v_n v_l=true then 0 else 1:=rfl
  have h6:¬jt v_n v_l=0→ef v_n v_l=⟨0,0,0,0⟩:=fun h=>if_pos h;have h7:jt v_n v_l=0→xh (mM v_n v_l) (gC v_n v_l)=true→ef v_n v_l=vH (mM v_n v_l) (gC v_n v_l):=fun h g=>by unfold ef;rw [if_neg (fun k=>k h),if_pos g]
  have h8:jt v_n v_l=0→xh (mM v_n v_l) (gC v_n v_l)=false→0 < (rR v_n v_l).length→ef v_n v_l=⟨2,(qY (rR v_n v_l)).1,(qY (rR v_n v_l)).2.1,(qY (rR v_n v_l)).2.2.2.1⟩:=fun h g z=>by unfold ef;rw [if_neg (fun k=>k h),if_neg (by rw [g];decide),if_pos z]
  have h9:jt v_n v_l=0→xh (mM v_n v_l) (gC v_n v_l)=false→¬0 < (rR v_n v_l).length→ef v_n v_l=⟨1,0,0,0⟩:=fun h g z=>by unfold ef;rw [if_neg (fun k=>k h),if_neg (by rw [g];decide),if_neg z]
  have hn:xh (mM v_n v_l) (gC v_n v_l)=false:=by rw [List.eq_nil_of_length_eq_zero hk.2.2];exact (ZV _).2
  generalize hF:Cq.aa=F,hG0:ViL.Vl.aa=G0,hG1:EgR.Fs.aa=G1,hG2:SpR.Sp.aa=G2,hG3:TrQ.Tq.aa=G3,hG4:ChR.Ch.aa=G4,hG5:SoC.Oc.aa=G5 at hC hfs ⊢;refine bu fun Z zq A hA L hL=>?_
  repeat' (first|(apply al zq;try dsimp only)|apply aS zq (af hL)|apply aq zq|refine aT rfl ?_|apply ai|refine ah rfl ?_|refine aR rfl ?_|exact aA|apply aB|refine aP fun _=>?_|refine aQ fun _=>?_|(constructor;cbv))
  all_goals
   clear hL zq Z
   try clear hfs
   subst hA hF hG0 hG1 hG2 hG3 hG4 hG5;simp only [Cq.aa,ViL.Vl.aa,SpR.Sp.aa,ChR.Ch.aa,Ar.aa] at *
   try (grind [aj])
 ·cases hp
def LI (F:Cq):aO:=fun xs h=>match xs,h with
 |[.agg [.sl none (.ints .i64 v_n),.sl none (.ae (.int .i64 (.int .i64 (.int .i64 (.int .i64 (.bool .nil))))) v_l)]],[]=>some ⟨F.agi v_n v_l=true,.cN [.agg [.ay (F.YP v_n v_l),.ay (F.Xv v_n v_l),.ay (F.aaD v_n v_l),.ay (F.Xa v_n v_l)],I (F.ZR v_n v_l)],[],[Any]⟩
 |_,_=>none
theorem Tc:au Tryz.prog 127 (LI Cq.aa):=by
 have hfs:=(ak.cons Au (ak.cons BM (ak.cons lY (ak.cons Qq (ak.cons AR (ak.cons Ix ak.nil rfl) rfl) rfl) rfl) rfl) rfl);refine aw hfs Tryz.func127 rfl rfl fun xs h p hp=>?_;unfold LI at hp;split at hp
 ·rename_i v_n v_l;cases hp;refine⟨av rfl,fun hC _=>?_⟩;dsimp only at hC;intro b gv;have hk:v_n.length≤1000000∧v_l.length≤1000000∧0 < (mM v_n v_l).length:=of_decide_eq_true hC;have h1:=VM v_n v_l;have h2:=PA v_n v_l;have h3:=Vp v_n v_l;have h4:jt v_n v_l=if aX v_n v_l=true then (if gw (gC v_n v_l)=true then 0 else 11) else 1:=rfl
  have h5:oU v_n v_l=if aX v_n v_l=true then 0 else 1:=rfl
  have h6:¬jt v_n v_l=0→ef v_n v_l=⟨0,0,0,0⟩:=fun h=>if_pos h;have h7:jt v_n v_l=0→xh (mM v_n v_l) (gC v_n v_l)=true→ef v_n v_l=vH (mM v_n v_l) (gC v_n v_l):=fun h g=>by unfold ef;rw [if_neg (fun k=>k h),if_pos g]
  have h8:jt v_n v_l=0→xh (mM v_n v_l) (gC v_n v_l)=false→0 < (rR v_n v_l).length→ef v_n v_l=⟨2,(qY (rR v_n v_l)).1,(qY (rR v_n v_l)).2.1,(qY (rR v_n v_l)).2.2.2.1⟩:=fun h g z=>by unfold ef;rw [if_neg (fun k=>k h),if_neg (by rw [g];decide),if_pos z]
  have h9:jt v_n v_l=0→xh (mM v_n v_l) (gC v_n v_l)=false→¬0 < (rR v_n v_l).length→ef v_n v_l=⟨1,0,0,0⟩:=fun h g z=>by unfold ef;rw [if_neg (fun k=>k h),if_neg (by rw [g];decide),if_neg z]
  generalize hF:Cq.aa=F,hG0:ViL.Vl.aa=G0,hG1:EgR.Fs.aa=G1,hG2:SpR.Sp.aa=G2,hG3:TrQ.Tq.aa=G3,hG4:ChR.Ch.aa=G4,hG5:SoC.Oc.aa=G5 at hC hfs ⊢;refine bu fun Z zq A hA L hL=>?_
  repeat' (first|(apply al zq;try dsimp only)|apply aS zq (af hL)|apply aq zq|refine aT rfl ?_|apply ai|refine ah rfl ?_|refine aR rfl ?_|exact aA|apply aB|refine aP fun _=>?_|refine aQ fun _=>?_|(constructor;cbv))
  all_goals
   clear hL zq Z
   try clear hfs
   subst hA hF hG0 hG1 hG2 hG3 hG4 hG5;simp only [Cq.aa,ViL.Vl.aa,SpR.Sp.aa,ChR.Ch.aa,Ar.aa] at *
   try (grind [aj])
 ·cases hp
theorem Pa {P:Program} {f:FuncId} {c c1 c2:aO} (ok1:au P f c1) (ok2:au P f c2)
  (h:∀ xs h p,c xs h=some p→p.C→(∃ C,c1 xs h=some ⟨C,p.r,p.h,p.as⟩∧C)∨∃ C,c2 xs h=some ⟨C,p.r,p.h,p.as⟩∧C):au P f c:=by
 refine⟨ok1.1,fun args h' p hp hC G vs hh hbs hm hv=>?_⟩;rcases h _ _ _ hp hC with ⟨C,h1,h2⟩ | ⟨C,h1,h2⟩
 ·exact ok1.2 args h' _ h1 h2 G vs hh hbs hm hv
 ·exact ok2.2 args h' _ h1 h2 G vs hh hbs hm hv
def uO (F:Cq):aO:=fun xs h=>match xs,h with
 |[.agg [.sl none (.ints .i64 v_n),.sl none (.ae (.int .i64 (.int .i64 (.int .i64 (.int .i64 (.bool .nil))))) v_l)]],[]=>some ⟨F.afT v_n v_l=true,.cN [.agg [.ay (F.YP v_n v_l),.ay (F.Xv v_n v_l),.ay (F.aaD v_n v_l),.ay (F.Xa v_n v_l)],I (F.ZR v_n v_l)],[],[Any]⟩
 |_,_=>none
theorem wa:au Tryz.prog 127 (uO Cq.aa):=by
 refine Pa TC Tc fun xs h p hp hC=>?_;unfold uO at hp;split at hp
 ·rename_i n l;cases hp;have hk:n.length≤1000000∧l.length≤1000000:=of_decide_eq_true hC
  by_cases h1:(mM n l).length=0
  ·exact .inl ⟨_,rfl,decide_eq_true ⟨hk.1,hk.2,h1⟩⟩
  ·exact .inr ⟨_,rfl,decide_eq_true ⟨hk.1,hk.2,Nat.pos_of_ne_zero h1⟩⟩
 ·cases hp
end Go.Proofs.YtelhldgdnlppfaaGreat.ChQ
