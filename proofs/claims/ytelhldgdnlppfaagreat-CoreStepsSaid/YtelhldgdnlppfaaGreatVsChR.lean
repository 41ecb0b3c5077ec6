/-
  the order of links;the first of them;copies;which choices may be. No condition.
-/
import Derived.Test.YtelhldgdnlppfaaGreatVsW22
import Derived.Test.YtelhldgdnlppfaaGreatVsW23
import Derived.Test.YtelhldgdnlppfaaGreatVsEgR
set_option cbv.maxSteps 4000000
set_option maxHeartbeats 4000000
set_option maxRecDepth 100000
namespace Go.Proofs.YtelhldgdnlppfaaGreat.ChR
open Go Ry Cmp ViR ViL
open ViC (sS dO)
open EgR (xH ma)
open EcX (fX)
abbrev K5:=Int × Int × Int × Int × Bool
def k5 (y:E):K5:=(ri y 0,ri y 1,ri y 2,ri y 3,rb y 4)
def cK (n p w n' p' w' : Int):Int:=fX (eW n p) (eX n p) w (eW n' p') (eX n' p') w'
def TZ (c:K5) (y:E):K5:=if cK (ri y 0) (ri y 1) (ri y 2) c.1 c.2.1 c.2.2.1 < 0 then k5 y else c
def qY (l:List E):K5:=l.foldl TZ (k5 (l.getD 0 []))
theorem GK (y:E):TZ (k5 y) y=k5 y:=by unfold TZ;split <;> rfl
structure XN where
 i:Int
 n:Int
 p:Int
 w:Int
 s:Int
 b:Bool
def mnQ (l:List E) (y:XN):Prop:=1≤y.i∧y.i≤l.length∧((y.n,y.p,y.w,y.s,y.b):K5)=qY (l.take y.i.toNat)
def mnM (l:List E) (y:XN):Nat:=l.length - y.i.toNat
noncomputable def mnI (l:List E) (y:XN):St:=br Tryz.f156.ntmps [(0,.sl none (.ae .bg l)),(1,.val (.func (.func 157) ⟨[]⟩ ⟨[]⟩)),(4,.ptr 1 0),(5,.ptr 2 0),(6,.ay y.i)] [(1,.cells 94 [.num .i64 0,.num .i64 0,.num .i64 0,.num .i64 0,.tf false]),(2,.cells 94 [.ay y.n,.ay y.p,.ay y.w,.ay y.s,.bK y.b])] [Any,Any]
def mnR (st:St):XN:=⟨bw st 6,qm (fb st 5 0),qm (fb st 5 1),qm (fb st 5 2),qm (fb st 5 3),abV (fb st 5 4)⟩
theorem lO (l:List E) (i:Int) (h0:0≤i) (h:i < l.length):l.take (i+1).toNat=l.take i.toNat ++ [l.getD i.toNat []]:=by
 have e:(i+1).toNat=i.toNat+1:=by omega
 have hi:i.toNat < l.length:=by omega
 rw [e,List.take_add_one,List.getD_eq_getElem?_getD,List.getElem?_eq_getElem hi];rfl
theorem yf {l:List E} {i:Int} (h0:1≤i) (h:i < l.length):qY (l.take (i+1).toNat)=TZ (qY (l.take i.toNat)) (l.getD i.toNat []):=by
 unfold qY;have hd:∀ k:Nat,1≤k→(l.take k).getD 0 []=l.getD 0 []:=fun k hk=>by rw [List.getD_eq_getElem?_getD,List.getD_eq_getElem?_getD,List.getElem?_take_of_lt (by omega)]
 rw [hd _ (by omega),hd _ (by omega),lO l i (by omega) h,List.foldl_append];rfl
theorem QW {l:List E} (h:0 < l.length):mnQ l ⟨1,ri (l.getD 0 []) 0,ri (l.getD 0 []) 1,ri (l.getD 0 []) 2,ri (l.getD 0 []) 3,rb (l.getD 0 []) 4⟩:=by
 refine⟨Int.le_refl 1,by simp only;omega,?_⟩;cases l with
 |nil=>exact absurd h (Nat.lt_irrefl 0)
 |cons y l=>exact (GK y).symm
theorem RT {l:List E} (hl:l.length≤1000000) {i n p w s:Int} {b:Bool} (hq:mnQ l ⟨i,n,p,w,s,b⟩):1≤i∧i≤l.length∧(i < l.length→aD .add .i64 i 1=i+1∧(∀ n' p' w' s' b',mnM l ⟨i+1,n',p',w',s',b'⟩ < mnM l ⟨i,n,p,w,s,b⟩) ∧
  (cK (ri (l.getD i.toNat []) 0) (ri (l.getD i.toNat []) 1) (ri (l.getD i.toNat []) 2) n p w < 0→mnQ l ⟨i+1,ri (l.getD i.toNat []) 0,ri (l.getD i.toNat []) 1,ri (l.getD i.toNat []) 2,ri (l.getD i.toNat []) 3,rb (l.getD i.toNat []) 4⟩) ∧
  (¬cK (ri (l.getD i.toNat []) 0) (ri (l.getD i.toNat []) 1) (ri (l.getD i.toNat []) 2) n p w < 0→mnQ l ⟨i+1,n,p,w,s,b⟩))∧(¬i < l.length→n=(qY l).1∧p=(qY l).2.1∧w=(qY l).2.2.1∧s=(qY l).2.2.2.1∧b=(qY l).2.2.2.2):=by
 obtain⟨h0,h1,h2⟩:=hq;simp only at h0 h1 h2;refine⟨h0,h1,fun h=>⟨by rw [aW,wr _ (by omega) (by omega)],fun _ _ _ _ _=>by simp only [mnM];omega,fun g=>⟨by simp only;omega,by simp only;omega,?_⟩,fun g=>⟨by simp only;omega,by simp only;omega,?_⟩⟩,fun h=>?_⟩
 ·simp only;rw [yf h0 h,← h2];unfold TZ;rw [if_pos g];rfl
 ·simp only;rw [yf h0 h,← h2];unfold TZ;rw [if_neg g]
 ·have e:i=l.length:=by omega
  rw [e,Int.toNat_natCast,List.take_length] at h2;rw [← h2];exact⟨rfl,rfl,rfl,rfl,rfl⟩
def Bh (a b w:Int) (y:E):Bool:=decide (eW (ri y 0) (ri y 1)=a∧eX (ri y 0) (ri y 1)=b∧ri y 2=w)
def ET (l:List E) (a b w:Int):Int:=match l.find? (Bh a b w) with
 |some y=>ri y 3
 |none=>0
structure XI where
 i:Int
def seQ (l:List E) (a b w:Int) (y:XI):Prop:=0≤y.i∧y.i≤l.length∧ET l a b w=ET (l.drop y.i.toNat) a b w
def mF (l:List E) (y:XI):Nat:=l.length - y.i.toNat
noncomputable def seI (A:Ar) (l:List E) (a b w:Int) (y:XI):St:=br Tryz.f176.ntmps [(3,.ptr 1 0),(7,.sl none (.ae .bg l)),(8,.ay (A.dN l)),(9,.ay y.i)] [(1,.cells 183 [.ay a,.ay b,.ay w])] [Any,Any]
def iR (k:Nat) (st:St):XI:=⟨bw st k⟩
theorem om (l:List E) (i:Int) (h0:0≤i) (h:i < l.length):l.drop i.toNat=l.getD i.toNat [] :: l.drop (i+1).toNat:=by
 have e:(i+1).toNat=i.toNat+1:=by omega
 have hi:i.toNat < l.length:=by omega
 rw [e,List.drop_eq_getElem_cons hi,List.getD_eq_getElem?_getD,List.getElem?_eq_getElem hi];rfl
theorem FR {l:List E} (hl:l.length≤1000000) {a b w i:Int} (hq:seQ l a b w ⟨i⟩):0≤i∧i≤l.length∧(i < l.length→aD .add .i64 i 1=i+1∧mF l ⟨i+1⟩ < mF l ⟨i⟩ ∧
  ((eW (ri (l.getD i.toNat []) 0) (ri (l.getD i.toNat []) 1)=a∧eX (ri (l.getD i.toNat []) 0) (ri (l.getD i.toNat []) 1)=b∧ri (l.getD i.toNat []) 2=w)→ET l a b w=ri (l.getD i.toNat []) 3) ∧
  (¬(eW (ri (l.getD i.toNat []) 0) (ri (l.getD i.toNat []) 1)=a∧eX (ri (l.getD i.toNat []) 0) (ri (l.getD i.toNat []) 1)=b∧ri (l.getD i.toNat []) 2=w)→seQ l a b w ⟨i+1⟩))∧(¬i < l.length→ET l a b w=0):=by
 obtain⟨h0,h1,h2⟩:=hq;simp only at h0 h1 h2;refine⟨h0,h1,fun h=>⟨by rw [aW,wr _ (by omega) (by omega)],by simp only [mF];omega,fun g=>?_,fun g=>⟨by simp only;omega,by simp only;omega,?_⟩⟩,fun h=>?_⟩
 ·rw [h2,om l i h0 h];unfold ET;rw [List.find?_cons_of_pos (by unfold Bh;exact decide_eq_true g)]
 ·simp only;rw [h2,om l i h0 h];unfold ET;rw [List.find?_cons_of_neg (by unfold Bh;rw [decide_eq_true_eq];exact g)]
 ·rw [h2,List.drop_of_length_le (by omega)];rfl
noncomputable def i0I (A:Ar) (n:List Int) (l:List E) (y:XI):St:=br Tryz.f151.ntmps [(1,.ptr 1 0),(4,.val (.slice none 0 0)),(13,.sl none (.ae .bg l)),(14,.ay (A.dN l)),(15,.ay y.i)] [(1,.cells 29 [.sl none (.ints .i64 n),.sl none (.ae .bg l)])] [Any]
def lnQ (l:List E) (y:XI):Prop:=0≤y.i∧y.i≤l.length
theorem Tk {l:List E} (hl:l.length≤1000000) {i:Int} (hq:lnQ l ⟨i⟩):0≤i∧i≤l.length∧(i < l.length→aD .add .i64 i 1=i+1∧mF l ⟨i+1⟩ < mF l ⟨i⟩∧lnQ l ⟨i+1⟩):=by
 obtain⟨h0,h1⟩:=hq;simp only at h0 h1;exact⟨h0,h1,fun h=>⟨by rw [aW,wr _ (by omega) (by omega)],by simp only [mF];omega,by simp only;omega,by simp only;omega⟩⟩
theorem SE {l:List E} (h:eO l=[]) {i:Int} (h0:0≤i) (hi:i < l.length):Dd l (l.getD i.toNat [])=[]:=by
 unfold eO at h;have hk:i.toNat < l.length:=by omega
 rw [List.flatMap_eq_nil_iff] at h;refine h _ ?_;rw [List.getD_eq_getElem?_getD,List.getElem?_eq_getElem hk];exact List.getElem_mem hk
def ckC (k a b s:Int):Int:=if k=1∧a=0∧b=0∧s=0 then 0 else if ¬k=2∧¬k=3 then 1 else if ¬bG a=true∨¬bG b=true∨a=b∨s < 1∨s > 2147483647 then 1 else if k=3∧a > b then 1 else 0
def vq (k a b s:Int):Bool:=decide (k=1∧a=0∧b=0∧s=0∨(k=2∨k=3)∧bG a=true∧bG b=true∧a≠b∧1≤s∧s≤2147483647∧(k=2∨a < b))
structure Ch where
 ahl:Int→Int→Int→Int→Int
 agY:Int→Int→Int→Int→Bool
 aeN:Int→Int→Int→Int→Int→Int→Int
 NU:List E→K5
 aft:List E→Int→Int→Int→Int
 afw:List E→Bool
 Vj:List E→Bool
 abF:List Int→List E→Bool
 aeY:List Int→List E→Int
def Ch.aa:Ch:=⟨ckC,vq,cK,qY,ET,fun l=>decide (l.length≤1000000),fun l=>decide (0 < l.length∧l.length≤1000000),fun n l=>decide (n.length≤1000000∧l.length≤1000000∧(mM n l).length=0),oU⟩
def Nh (F:Ch):aO:=fun xs h=>match xs,h with
 |[.agg [.val (.int .i64 a_n),.val (.int .i64 a_p),.val (.int .i64 a_w),.val (.int .i64 _),.val (.bool _)],.agg [.val (.int .i64 d_n),.val (.int .i64 d_p),.val (.int .i64 d_w),.val (.int .i64 _),.val (.bool _)]],[]=>some ⟨True,.sa (I (F.aeN a_n a_p a_w d_n d_p d_w)),[],[Any,Any]⟩
 |_,_=>none
theorem SF:au Tryz.prog 157 (Nh Ch.aa):=by
 have hfs:=(ak.cons kU (ak.cons ma ak.nil rfl) rfl);refine aw hfs Tryz.func157 rfl rfl fun xs h p hp=>?_;unfold Nh at hp;split at hp
 ·rename_i a_n a_p a_w a_s a_m d_n d_p d_w d_s d_m;cases hp;refine⟨av rfl,fun _ _=>?_⟩;intro b gv;generalize hF:Ch.aa=F,hG0:ViL.Vl.aa=G0,hG1:ViC.Vc.aa=G1,hG2:EgR.Fs.aa=G2,hG3:ViR.Vs.aa=G3 at hfs ⊢;refine bu fun Z zq A hA L hL=>?_
  repeat' (first|(apply al zq;try dsimp only)|apply aS zq (af hL)|apply aq zq|refine aT rfl ?_|apply ai|refine ah rfl ?_|refine aR rfl ?_|exact aA|apply aB|refine aP fun _=>?_|refine aQ fun _=>?_|(constructor;cbv))
  all_goals
   clear hL zq Z
   try clear hfs
   subst hA hF hG0 hG1 hG2 hG3;simp only [Ch.aa,ViL.Vl.aa,EgR.Fs.aa] at *
   try (grind [aj,cK])
 ·cases hp
def GV (F:Ch):aO:=fun xs h=>match xs,h with
 |[.one (.sl none (.ae (.int .i64 (.int .i64 (.int .i64 (.int .i64 (.bool .nil))))) l))],[]=>some ⟨F.Vj l=true,.sa (.one (.own 0)),[(0,.row 94 (.ae .bg l))],[Any]⟩
 |_,_=>none
theorem Nr:au Tryz.prog 173 (GV Ch.aa):=by
 have hfs:=(ak.own (u:=3000) ak.nil);refine aw hfs Tryz.func173 rfl rfl fun xs h p hp=>?_;unfold GV at hp;split at hp
 ·rename_i l;cases hp;refine⟨av rfl,fun hC _=>?_⟩;dsimp only at hC;intro b gv;have hk:0 < l.length∧l.length≤1000000:=of_decide_eq_true hC;generalize hF:Ch.aa=F,hG0:ViL.Vl.aa=G0,hG1:ViC.Vc.aa=G1,hG2:EgR.Fs.aa=G2,hG3:ViR.Vs.aa=G3 at hC hfs ⊢;refine bu fun Z zq A hA L hL=>?_
  repeat' (first|(apply al zq;try dsimp only)|apply aS zq (af hL)|apply aq zq|refine aT rfl ?_|apply ai|refine ah rfl ?_|refine aR rfl ?_|exact aA|apply aB|refine aP fun _=>?_|refine aQ fun _=>?_|(constructor;cbv))
  all_goals
   clear hL zq Z
   try clear hfs
   subst hA hF hG0 hG1 hG2 hG3;simp only [Ch.aa,Ar.aa,List.nil_append] at *
   try (grind [aj])
 ·cases hp
def Bj (_:Ch):aO:=fun xs h=>match xs,h with
 |[.one (.val (.slice none 0 0))],[]=>some ⟨True,.sa (.one (.val (.slice none 0 0))),[],[Any]⟩
 |_,_=>none
theorem Jo:au Tryz.prog 173 (Bj Ch.aa):=by
 have hfs:=ak.nil;refine aw hfs Tryz.func173 rfl rfl fun xs h p hp=>?_;unfold Bj at hp;split at hp
 ·cases hp;refine⟨av rfl,fun _ _=>?_⟩;intro b gv;generalize hF:Ch.aa=F,hG0:ViL.Vl.aa=G0,hG1:ViC.Vc.aa=G1,hG2:EgR.Fs.aa=G2,hG3:ViR.Vs.aa=G3 at hfs ⊢;refine bu fun Z zq A hA L hL=>?_
  repeat' (first|(apply al zq;try dsimp only)|apply aS zq (af hL)|apply aq zq|refine aT rfl ?_|apply ai|refine ah rfl ?_|refine aR rfl ?_|exact aA|apply aB|refine aP fun _=>?_|refine aQ fun _=>?_|(constructor;cbv))
  all_goals
   clear hL zq Z
   try clear hfs
   subst hA hF hG0 hG1 hG2 hG3;simp only [Ch.aa,ViR.Vs.aa,ViL.Vl.aa,ViC.Vc.aa,EgR.Fs.aa,Ar.aa,List.nil_append] at *
   try (grind [aj])
 ·cases hp
def Lg (F:Ch):aO:=fun xs h=>match xs,h with
 |[.one (.sl none (.ae (.int .i64 (.int .i64 (.int .i64 (.int .i64 (.bool .nil))))) l)),.agg [.val (.int .i64 e_a),.val (.int .i64 e_b),.val (.int .i64 e_w)]],[]=>some ⟨F.afw l=true,.sa (I (F.aft l e_a e_b e_w)),[],[Any,Any]⟩
 |_,_=>none
theorem TF:au Tryz.prog 176 (Lg Ch.aa):=by
 have hfs:=(ak.cons kU ak.nil rfl);refine aw hfs Tryz.func176 rfl rfl fun xs h p hp=>?_;unfold Lg at hp;split at hp
 ·rename_i l e_a e_b e_w;cases hp;refine⟨av rfl,fun hC _=>?_⟩;dsimp only at hC;intro b gv;have hk:l.length≤1000000:=of_decide_eq_true hC;generalize hF:Ch.aa=F,hG0:ViL.Vl.aa=G0,hG1:ViC.Vc.aa=G1,hG2:EgR.Fs.aa=G2,hG3:ViR.Vs.aa=G3 at hC hfs ⊢;refine bu fun Z zq A hA L hL=>?_
  repeat' (first|(apply al zq;try dsimp only)|apply aS zq (af hL)|apply aq zq|refine aT rfl ?_|apply ai|refine ah rfl ?_|refine aR rfl ?_|exact aA|apply aB|refine aP fun _=>?_|refine aQ fun _=>?_|(constructor;cbv))
  subst hL;refine aJ (aN hfs) (seQ l e_a e_b e_w) (seI A l e_a e_b e_w) (mF l) (iR 9) ⟨0⟩ ?_ ?_ ?_
  ·exact⟨Int.le_refl 0,Int.natCast_nonneg _,rfl⟩
  ·cbv
   repeat' (first|exact trivial|exact rfl|refine And.intro ?_ ?_)
  rintro⟨i⟩ hq O hO;have hst:=FR hk hq;subst hA;generalize hA:Ar.aa=A;generalize hL:Lp _ _ _=L;refine az zq ?_
  repeat' (first|(apply al zq;try dsimp only)|apply aS zq (af hL)|apply aq zq|refine aT rfl ?_|apply ai|refine ah rfl ?_|refine aR rfl ?_|exact aA|apply aB|refine aP fun _=>?_|refine aQ fun _=>?_|(constructor;cbv))
  all_goals (clear hL hfs zq Z hq;subst hA hF hG0 hG1 hG2 hG3 hO;simp only [Ch.aa,ViL.Vl.aa,Ar.aa] at * <;> grind [aj];done)
 ·cases hp
def NK (F:Ch):aO:=fun xs h=>match xs,h with
 |[.one (.sl none (.ae (.int .i64 (.int .i64 (.int .i64 (.int .i64 (.bool .nil))))) l)),.one (.val (.func (.func 157) ⟨[]⟩ ⟨[]⟩))],[]=>some ⟨F.Vj l=true,.sa (.agg [.ay (F.NU l).1,.ay (F.NU l).2.1,.ay (F.NU l).2.2.1,.ay (F.NU l).2.2.2.1,.bK (F.NU l).2.2.2.2]),[],[Any,Any]⟩
 |_,_=>none
theorem Ix:au Tryz.prog 156 (NK Ch.aa):=by
 have hfs:=(ak.cons SF ak.nil rfl);refine aw hfs Tryz.func156 rfl rfl fun xs h p hp=>?_;unfold NK at hp;split at hp
 ·rename_i l;cases hp;refine⟨av rfl,fun hC _=>?_⟩;dsimp only at hC;intro b gv;have hk:0 < l.length∧l.length≤1000000:=of_decide_eq_true hC;generalize hF:Ch.aa=F,hG0:ViL.Vl.aa=G0,hG1:ViC.Vc.aa=G1,hG2:EgR.Fs.aa=G2,hG3:ViR.Vs.aa=G3 at hC hfs ⊢;refine bu fun Z zq A hA L hL=>?_
  repeat' (first|(apply al zq;try dsimp only)|apply aS zq (af hL)|apply aq zq|refine aT rfl ?_|apply ai|refine ah rfl ?_|refine aR rfl ?_|exact aA|apply aB|refine aP fun _=>?_|refine aQ fun _=>?_|(constructor;cbv))
  all_goals first|(show L _ _ _;skip)|(clear hL hfs zq Z;subst hA hF hG0 hG1 hG2 hG3;simp only [Ch.aa,Ar.aa] at * <;> grind [aj];done)
  subst hL;refine aJ (aN hfs) (mnQ l) (mnI l) (mnM l) mnR ⟨1,A.ri (A.bh l 0) 0,A.ri (A.bh l 0) 1,A.ri (A.bh l 0) 2,A.ri (A.bh l 0) 3,A.rb (A.bh l 0) 4⟩ ?_ ?_ ?_
  ·(subst hA;exact QW hk.1)
  ·cbv
   repeat' (first|exact trivial|exact rfl|refine And.intro ?_ ?_)
  rintro⟨i,n,p,w,s,b⟩ hq O hO;have hst:=RT hk.2 hq;subst hA;generalize hA:Ar.aa=A;generalize hL:Lp _ _ _=L;refine az zq ?_
  repeat' (first|(apply al zq;try dsimp only)|apply aS zq (af hL)|apply aq zq|refine aT rfl ?_|apply ai|refine ah rfl ?_|refine aR rfl ?_|exact aA|apply aB|refine aP fun _=>?_|refine aQ fun _=>?_|(constructor;cbv))
  all_goals (clear hL hfs zq Z hq;subst hA hF hG0 hG1 hG2 hG3 hO;simp only [Ch.aa,Ar.aa] at * <;> grind [aj];done)
 ·cases hp
def Db (F:Ch):aO:=fun xs h=>match xs,h with
 |[.agg [.sl none (.ints .i64 v_n),.sl none (.ae (.int .i64 (.int .i64 (.int .i64 (.int .i64 (.bool .nil))))) v_l)]],[]=>some ⟨F.abF v_n v_l=true,.cN [.one (.val (.slice none 0 0)),I (F.aeY v_n v_l)],[],[Any]⟩
 |_,_=>none
theorem Ja:au Tryz.prog 151 (Db Ch.aa):=by
 have hfs:=(ak.cons dO (ak.cons BS ak.nil rfl) rfl);refine aw hfs Tryz.func151 rfl rfl fun xs h p hp=>?_;unfold Db at hp;split at hp
 ·rename_i v_n v_l;cases hp;refine⟨av rfl,fun hC _=>?_⟩;dsimp only at hC;intro b gv;have hk:v_n.length≤1000000∧v_l.length≤1000000∧(mM v_n v_l).length=0:=of_decide_eq_true hC;have hz:aX v_n v_l=true→eO v_l=[]:=fun h=>by have e:mM v_n v_l=eO v_l:=if_pos h;rw [← e];exact List.eq_nil_of_length_eq_zero hk.2.2
  generalize hF:Ch.aa=F,hG0:ViL.Vl.aa=G0,hG1:ViC.Vc.aa=G1,hG2:EgR.Fs.aa=G2,hG3:ViR.Vs.aa=G3 at hC hfs ⊢;refine bu fun Z zq A hA L hL=>?_
  repeat' (first|(apply al zq;try dsimp only)|apply aS zq (af hL)|apply aq zq|refine aT rfl ?_|apply ai|refine ah rfl ?_|refine aR rfl ?_|exact aA|apply aB|refine aP fun _=>?_|refine aQ fun _=>?_|(constructor;cbv))
  all_goals first|(show L _ _ _;skip)|(clear hL hfs zq Z;subst hA hF hG0 hG1 hG2 hG3;simp only [Ch.aa,ViC.Vc.aa,Ar.aa] at * <;> grind [aj,oU];done)
  rename_i hx;have hv:aX v_n v_l=true:=by
   clear hL hfs zq Z;subst hA hF hG0 hG1 hG2 hG3;simp only [ViC.Vc.aa,Ar.aa] at hx
   grind [aj,oU]
  clear hx;have hz:=hz hv;subst hL;refine aJ (aN hfs) (lnQ v_l) (i0I A v_n v_l) (mF v_l) (iR 15) ⟨0⟩ ?_ ?_ ?_
  ·exact⟨Int.le_refl 0,Int.natCast_nonneg _⟩
  ·cbv
   repeat' (first|exact trivial|exact rfl|refine And.intro ?_ ?_)
  rintro⟨i⟩ hq O hO;have hst:=Tk hk.2.1 hq;have hn:=fun h=>SE hz hq.1 h;dsimp only at hn;have hin:Dd v_l (v_l.getD i.toNat [])=if ri (v_l.getD i.toNat []) 0 < ri (v_l.getD i.toNat []) 1∧Gy v_l (ri (v_l.getD i.toNat []) 1) (ri (v_l.getD i.toNat []) 0)=true∧(KJ v_l (ri (v_l.getD i.toNat []) 1) (ri (v_l.getD i.toNat []) 0)).w=ri (v_l.getD i.toNat []) 2∧(KJ v_l (ri (v_l.getD i.toNat []) 1) (ri (v_l.getD i.toNat []) 0)).s=ri (v_l.getD i.toNat []) 3 then [[D.int (ri (v_l.getD i.toNat []) 0),D.int (ri (v_l.getD i.toNat []) 1),D.int (ri (v_l.getD i.toNat []) 2),D.int (ri (v_l.getD i.toNat []) 3),D.bool (rb (v_l.getD i.toNat []) 4 && (KJ v_l (ri (v_l.getD i.toNat []) 1) (ri (v_l.getD i.toNat []) 0)).m)]] else []:=rfl
  subst hA;generalize hA:Ar.aa=A;generalize hL:Lp _ _ _=L;refine az zq ?_
  repeat' (first|(apply al zq;try dsimp only)|apply aS zq (af hL)|apply aq zq|refine aT rfl ?_|apply ai|refine ah rfl ?_|refine aR rfl ?_|exact aA|apply aB|refine aP fun _=>?_|refine aQ fun _=>?_|(constructor;cbv))
  all_goals (clear hL hfs zq Z hq;subst hA hF hG0 hG1 hG2 hG3 hO;simp only [Ch.aa,ViL.Vl.aa,Ar.aa,List.nil_append] at * <;> grind [aj,oU];done)
 ·cases hp
end Go.Proofs.YtelhldgdnlppfaaGreat.ChR
