
/-
  The library's sort of edges,as a contract of the reckoner's: the row holds a permutation of what it held,sorted. No condition.
-/
import Derived.Test.YtelhldgdnlppfaaGreatVsW22
import Derived.Test.YtelhldgdnlppfaaGreatVsW21
import Derived.Test.YtelhldgdnlppfaaGreatVsW14
set_option cbv.maxSteps 4000000
set_option maxHeartbeats 4000000
set_option maxRecDepth 100000
namespace Go.Proofs.YtelhldgdnlppfaaGreat.ViL
open Go Ry Cmp ViR ViC
theorem Di (f:Int→Bool):∀ (k:Nat) (i j:Int),i≤j→i≤nL f k i j∧nL f k i j≤j
 |0,i,j,h=>⟨Int.le_refl i,h⟩
 |k+1,i,j,h=>by
  unfold nL
  by_cases c:i < j
  ·rw [if_pos c];have hb:i≤hf i j∧hf i j < j:=by unfold hf;omega
   split
   ·have:=Di f k (hf i j+1) j (by omega);omega
   ·have:=Di f k i (hf i j) (by omega);omega
  ·rw [if_neg c];omega
theorem adz (l:List E) (n p:Int):0≤pG l n p∧pG l n p≤l.length:=Di _ _ 0 _ (Int.natCast_nonneg _)
noncomputable def bfS (A:Ar) (l:List E) (n p w s:Int) (mk:Bool) (y:XJ):St:=br Tryz.f197.ntmps [(0,.sl none (.ae .bg l)),(2,.val (.func (.func 140) ⟨[]⟩ ⟨[]⟩)),(4,.ptr 1 0),(8,.ay (A.dN l)),(9,.ay y.i),(10,.ay y.j)] [(1,.cells 94 [.ay n,.ay p,.ay w,.ay s,.bK mk])] [Any,Any,Any]
def bfR (st:St):XJ:=⟨bw st 9,bw st 10⟩
structure KK where
 n:Int
 p:Int
 w:Int
 s:Int
 m:Bool
def KJ (l:List E) (n p:Int):KK:=if Gy l n p=true then ⟨ri (l.getD (pG l n p).toNat []) 0,ri (l.getD (pG l n p).toNat []) 1,ri (l.getD (pG l n p).toNat []) 2,ri (l.getD (pG l n p).toNat []) 3,rb (l.getD (pG l n p).toNat []) 4⟩ else ⟨0,0,0,0,false⟩
def Dd (l:List E) (y:E):List E:=if ri y 0 < ri y 1∧Gy l (ri y 1) (ri y 0)=true∧(KJ l (ri y 1) (ri y 0)).w=ri y 2∧(KJ l (ri y 1) (ri y 0)).s=ri y 3 then [[D.int (ri y 0),D.int (ri y 1),D.int (ri y 2),D.int (ri y 3),D.bool (rb y 4 && (KJ l (ri y 1) (ri y 0)).m)]] else []
def VZ (n:List Int) (y:E):List E:=if n.contains (ri y 1)=true then [] else [[D.int (ri y 0),D.int (ri y 1),D.int (ri y 2),D.int (ri y 3),D.bool (rb y 4)]]
def eW (n p:Int):Int:=if p < n then p else n
def eX (n p:Int):Int:=if p < n then n else p
def Uu (y:E):List E:=if rb y 4=true then [[D.int (eW (ri y 0) (ri y 1)),D.int (eX (ri y 0) (ri y 1)),D.int (ri y 2)]] else []
def eO (l:List E):List E:=l.flatMap (Dd l)
def kz (n:List Int) (l:List E):List E:=l.flatMap (VZ n)
def fz (l:List E):List E:=l.flatMap Uu
def mM (n:List Int) (l:List E):List E:=if aX n l=true then eO l else []
def rR (n:List Int) (l:List E):List E:=if aX n l=true then kz n l else []
def gC (n:List Int) (l:List E):List E:=if aX n l=true then fz (eO l) else []
structure XC where
 i:Int
 o:List E
def Dh (l:List E) (f:E→List E) (y:XC):Prop:=0≤y.i∧y.i≤l.length∧y.o=(l.take y.i.toNat).flatMap f
def vn (l:List E) (y:XC):Nat:=l.length - y.i.toNat
theorem jA (l:List E) (f:E→List E):Dh l f ⟨0,[]⟩:=⟨Int.le_refl 0,Int.natCast_nonneg _,rfl⟩
theorem ij {f:E→List E} (hf:∀ y,(f y).length≤1):∀ l:List E,(l.flatMap f).length≤l.length
 |[]=>Nat.le_refl _
 |y :: l=>by
  have:=ij hf l;have:=hf y;rw [List.flatMap_cons,List.length_append,List.length_cons];omega
theorem qO {l:List E} {f:E→List E} (hf:∀ y,(f y).length≤1) {i:Int} {o:List E} (hq:Dh l f ⟨i,o⟩):o.length≤l.length:=by
 have h:=ij hf (l.take i.toNat);have h2:=hq.2.2;simp only at h2;rw [h2];rw [List.length_take] at h;omega
theorem lI {l:List E} {f:E→List E} (hl:l.length≤1000000) {i:Int} {o:List E} (hq:Dh l f ⟨i,o⟩) (h:i < l.length):aD .add .i64 i 1=i+1∧(∀ p,vn l ⟨i+1,p⟩ < vn l ⟨i,o⟩)∧(f (l.getD i.toNat [])=[]→Dh l f ⟨i+1,o⟩)∧(∀ e,f (l.getD i.toNat [])=[e]→Dh l f ⟨i+1,o ++ [e]⟩):=by
 obtain⟨h0,h1,h2⟩:=hq;simp only at h0 h1 h2;have ht:=cC l i h0 h;refine⟨by rw [aW,wr _ (by omega) (by omega)],fun p=>by simp only [vn];omega,fun g=>⟨by simp only;omega,by simp only;omega,?_⟩,fun e g=>⟨by simp only;omega,by simp only;omega,?_⟩⟩
 ·simp only;rw [ht,List.flatMap_append,← h2];simp [List.flatMap_cons,List.getD_eq_getElem?_getD] at g ⊢;exact g
 ·simp only;rw [ht,List.flatMap_append,← h2];simp [List.flatMap_cons,List.getD_eq_getElem?_getD] at g ⊢;exact g.symm
theorem nC {l:List E} {f:E→List E} {i:Int} {o:List E} (hq:Dh l f ⟨i,o⟩) (h:¬i < l.length):o=l.flatMap f:=by
 obtain⟨h0,h1,h2⟩:=hq;simp only at h0 h1 h2;have e:i=l.length:=by omega
 rw [e,Int.toNat_natCast,List.take_length] at h2;exact h2
theorem GL (l:List E) (y:E):(Dd l y).length≤1:=by unfold Dd;split <;> simp
theorem sG (n:List Int) (y:E):(VZ n y).length≤1:=by unfold VZ;split <;> simp
theorem sA (y:E):(Uu y).length≤1:=by unfold Uu;split <;> simp
theorem nN (l:List E):(eO l).length≤l.length:=ij (GL l) l
noncomputable def inS (A:Ar) (n:List Int) (l:List E) (y:XC):St:=br Tryz.f151.ntmps [(1,.ptr 1 0),(4,.sl (some (2,94)) (.ae .bg y.o)),(13,.sl none (.ae .bg l)),(14,.ay (A.dN l)),(15,.ay y.i)] [(1,.cells 29 [.sl none (.ints .i64 n),.sl none (.ae .bg l)]),(2,.tok)] [Any]
noncomputable def ouS (A:Ar) (n:List Int) (l:List E) (y:XC):St:=br Tryz.f155.ntmps [(1,.ptr 1 0),(4,.sl (some (2,94)) (.ae .bg y.o)),(11,.sl none (.ae .bg l)),(12,.ay (A.dN l)),(13,.ay y.i)] [(1,.cells 29 [.sl none (.ints .i64 n),.sl none (.ae .bg l)]),(2,.tok)] [Any]
noncomputable def boS (A:Ar) (l:List E) (y:XC):St:=br Tryz.f152.ntmps [(6,.sl (some (2,183)) (.ae .pY y.o)),(17,.sl none (.ae .bg l)),(18,.ay (A.dN l)),(19,.ay y.i)] [(2,.tok)] [Any]
def Zn (i o:Nat) (st:St):XC:=⟨bw st i,ZC (match fW st o with | .sl _ c=>c|_=>.ae .nil [])⟩
structure Vl where
 agH:List E→Int→Int→Int
 aeu:List E→Int→Int→Bool
 Nc:List E→Int→Int→KK
 aaY:List Int→List E→List E
 afY:List Int→List E→List E
 aga:List Int→List E→List E
 l_a:Int→Int→Int
 l_b:Int→Int→Int
 Xk:List Int→List E→Int
 acQ:List E→Bool
 Yr:List Int→List E→Bool
def Vl.aa:Vl:=⟨pG,Gy,KJ,mM,rR,gC,eW,eX,oU,fun l=>decide (l.length≤1000000),fun n l=>decide (n.length≤1000000∧l.length≤1000000)⟩
def Bt (F:Vl):aO:=fun xs h=>match xs,h with
 |[.one (.sl none (.ae (.int .i64 (.int .i64 (.int .i64 (.int .i64 (.bool .nil))))) l)),.agg [.val (.int .i64 k_n),.val (.int .i64 k_p),.val (.int .i64 _),.val (.int .i64 _),.val (.bool _)],.one (.val (.func (.func 140) ⟨[]⟩ ⟨[]⟩))],[]=>some ⟨F.acQ l=true,.cN [I (F.agH l k_n k_p),B (F.aeu l k_n k_p)],[],[Any,Any,Any]⟩
 |_,_=>none
theorem Ec:au Tryz.prog 197 (Bt Vl.aa):=by
 have hfs:=(ak.cons Hw ak.nil rfl);refine aw hfs Tryz.func197 rfl rfl fun xs h p hp=>?_;unfold Bt at hp;split at hp
 ·rename_i l k_n k_p k_w k_s k_m;cases hp;refine⟨av rfl,fun hC _=>?_⟩;dsimp only at hC;intro b gv;have hk:l.length≤1000000:=of_decide_eq_true hC;generalize hF:Vl.aa=F,hG0:ViR.Vs.aa=G0,hG1:ViC.Vc.aa=G1 at hC hfs ⊢;refine bu fun Z zq A hA L hL=>?_
  repeat' (first|(apply al zq;try dsimp only)|apply aS zq (af hL)|apply aq zq|refine aT rfl ?_|apply ai|refine ah rfl ?_|refine aR rfl ?_|exact aA|apply aB|refine aP fun _=>?_|refine aQ fun _=>?_|(constructor;cbv))
  subst hL;refine aJ (aN hfs) (QQ (VP l k_n k_p) l.length) (bfS A l k_n k_p k_w k_s k_m) (Pw) bfR ⟨0,A.dN l⟩ ?_ ?_ ?_
  ·(subst hA;exact yK _ _)
  ·cbv
   repeat' (first|exact trivial|exact rfl|refine And.intro ?_ ?_)
  rintro⟨i,j⟩ hq O hO;have hst:=fun h=>xT hk hq h;have hen:=fun h=>Lc hq h;have q0:=hq.1;have q1:=hq.2.1;have q2:=hq.2.2.1;dsimp only at q0 q1 q2;subst hA;generalize hA:Ar.aa=A;generalize hL:Lp _ _ _=L;refine az zq ?_
  repeat' (first|(apply al zq;try dsimp only)|apply aS zq (af hL)|apply aq zq|refine aT rfl ?_|apply ai|refine ah rfl ?_|refine aR rfl ?_|exact aA|apply aB|refine aP fun _=>?_|refine aQ fun _=>?_|(constructor;cbv))
  all_goals (clear hL hfs zq Z hq;subst hA hF hG0 hG1 hO;simp only [Vl.aa,ViR.Vs.aa,Ar.aa] at *)
  all_goals first|(have h1:=hst (of_decide_eq_true (show decide (i < j)=true from ‹aj .lss i j=true›));clear hst hen;grind [aj,Pw,VP,pG,Gy])|(have h1:i=pG l k_n k_p∧0≤i∧i≤l.length:=hen (of_decide_eq_false (show decide (i < j)=false from ‹aj .lss i j=false›));clear hst hen;first|assumption|(obtain⟨h1,h2,h3⟩:=h1;subst h1;unfold Gy;grind [aj])|(grind [aj,Gy]))
 ·cases hp
def Ih (F:Vl):aO:=fun xs h=>match xs,h with
 |[.agg [.sl none (.ints .i64 _),.sl none (.ae (.int .i64 (.int .i64 (.int .i64 (.int .i64 (.bool .nil))))) v_l)],.one (.val (.int .i64 t)),.one (.val (.int .i64 p))],[]=>some ⟨F.acQ v_l=true,.cN [.agg [.ay (F.Nc v_l t p).n,.ay (F.Nc v_l t p).p,.ay (F.Nc v_l t p).w,.ay (F.Nc v_l t p).s,.bK (F.Nc v_l t p).m],B (F.aeu v_l t p)],[],[Any,Any,Any]⟩
 |_,_=>none
theorem BS:au Tryz.prog 169 (Ih Vl.aa):=by
 have hfs:=(ak.cons Ec ak.nil rfl);refine aw hfs Tryz.func169 rfl rfl fun xs h p hp=>?_;unfold Ih at hp;split at hp
 ·rename_i v_n v_l t p;cases hp;refine⟨av rfl,fun hC _=>?_⟩;dsimp only at hC;intro b gv;have h1:=adz v_l t p;generalize hF:Vl.aa=F,hG0:ViR.Vs.aa=G0,hG1:ViC.Vc.aa=G1 at hC hfs ⊢;refine bu fun Z zq A hA L hL=>?_
  repeat' (first|(apply al zq;try dsimp only)|apply aS zq (af hL)|apply aq zq|refine aT rfl ?_|apply ai|refine ah rfl ?_|refine aR rfl ?_|exact aA|apply aB|refine aP fun _=>?_|refine aQ fun _=>?_|(constructor;cbv))
  all_goals
   clear hL zq Z
   try clear hfs
   subst hA hF hG0 hG1;simp only [Vl.aa,Ar.aa] at *
   try (grind [aj,KJ,Gy])
 ·cases hp
def FO (F:Vl):aO:=fun xs h=>match xs,h with
 |[.agg [.sl none (.ints .i64 v_n),.sl none (.ae (.int .i64 (.int .i64 (.int .i64 (.int .i64 (.bool .nil))))) v_l)]],[]=>some ⟨F.Yr v_n v_l=true,.cN [.one (.sl none (.ae .bg (F.aaY v_n v_l))),I (F.Xk v_n v_l)],[],[Any]⟩
 |_,_=>none
theorem Au:au Tryz.prog 151 (FO Vl.aa):=by
 have hfs:=(ak.cons dO (ak.cons BS ak.nil rfl) rfl);refine aw hfs Tryz.func151 rfl rfl fun xs h p hp=>?_;unfold FO at hp;split at hp
 ·rename_i v_n v_l;cases hp;refine⟨av rfl,fun hC _=>?_⟩;dsimp only at hC;intro b gv;have hk:v_n.length≤1000000∧v_l.length≤1000000:=of_decide_eq_true hC;generalize hF:Vl.aa=F,hG0:ViR.Vs.aa=G0,hG1:ViC.Vc.aa=G1 at hC hfs ⊢;refine bu fun Z zq A hA L hL=>?_
  repeat' (first|(apply al zq;try dsimp only)|apply aS zq (af hL)|apply aq zq|refine aT rfl ?_|apply ai|refine ah rfl ?_|refine aR rfl ?_|exact aA|apply aB|refine aP fun _=>?_|refine aQ fun _=>?_|(constructor;cbv))
  all_goals first|(show L _ _ _;skip)|(clear hL hfs zq Z;subst hA hF hG0 hG1;simp only [Vl.aa,ViC.Vc.aa,Ar.aa] at * <;> grind [aj,mM,rR,oU];done)
  rename_i hx;have hv:aX v_n v_l=true:=by
   clear hL hfs zq Z;subst hA hF hG0 hG1;simp only [ViC.Vc.aa,Ar.aa] at hx
   grind [aj,oU]
  clear hx;subst hL;refine aJ (aN hfs) (Dh v_l (Dd v_l)) (inS A v_n v_l) (vn v_l) (Zn 15 4) ⟨0,[]⟩ ?_ ?_ ?_
  ·exact jA _ _
  ·cbv
   repeat' (first|exact trivial|exact rfl|refine And.intro ?_ ?_)
  rintro⟨i,o⟩ hq O hO;have hst:=fun h=>lI hk.2 hq h;have hlen:=qO (GL v_l) hq;have hen:=fun h=>nC hq h;have q0:=hq.1;have q1:=hq.2.1;dsimp only at q0 q1 hst;have hin:Dd v_l (v_l.getD i.toNat [])=if ri (v_l.getD i.toNat []) 0 < ri (v_l.getD i.toNat []) 1∧Gy v_l (ri (v_l.getD i.toNat []) 1) (ri (v_l.getD i.toNat []) 0)=true∧(KJ v_l (ri (v_l.getD i.toNat []) 1) (ri (v_l.getD i.toNat []) 0)).w=ri (v_l.getD i.toNat []) 2∧(KJ v_l (ri (v_l.getD i.toNat []) 1) (ri (v_l.getD i.toNat []) 0)).s=ri (v_l.getD i.toNat []) 3 then [[D.int (ri (v_l.getD i.toNat []) 0),D.int (ri (v_l.getD i.toNat []) 1),D.int (ri (v_l.getD i.toNat []) 2),D.int (ri (v_l.getD i.toNat []) 3),D.bool (rb (v_l.getD i.toNat []) 4 && (KJ v_l (ri (v_l.getD i.toNat []) 1) (ri (v_l.getD i.toNat []) 0)).m)]] else []:=rfl
  subst hA;generalize hA:Ar.aa=A;generalize hL:Lp _ _ _=L;refine az zq ?_
  repeat' (first|(apply al zq;try dsimp only)|apply aS zq (af hL)|apply aq zq|refine aT rfl ?_|apply ai|refine ah rfl ?_|refine aR rfl ?_|exact aA|apply aB|refine aP fun _=>?_|refine aQ fun _=>?_|(constructor;cbv))
  all_goals (clear hL hfs zq Z hq;subst hA hF hG0 hG1 hO;simp only [Vl.aa,Ar.aa] at * <;> grind [aj,mM,rR,eO,kz,oU])
 ·cases hp
def Hi (F:Vl):aO:=fun xs h=>match xs,h with
 |[.agg [.sl none (.ints .i64 v_n),.sl none (.ae (.int .i64 (.int .i64 (.int .i64 (.int .i64 (.bool .nil))))) v_l)]],[]=>some ⟨F.Yr v_n v_l=true,.cN [.one (.sl none (.ae .bg (F.afY v_n v_l))),I (F.Xk v_n v_l)],[],[Any]⟩
 |_,_=>none
theorem AR:au Tryz.prog 155 (Hi Vl.aa):=by
 have hfs:=(ak.cons dO (ak.cons qz ak.nil rfl) rfl);refine aw hfs Tryz.func155 rfl rfl fun xs h p hp=>?_;unfold Hi at hp;split at hp
 ·rename_i v_n v_l;cases hp;refine⟨av rfl,fun hC _=>?_⟩;dsimp only at hC;intro b gv;have hk:v_n.length≤1000000∧v_l.length≤1000000:=of_decide_eq_true hC;generalize hF:Vl.aa=F,hG0:ViR.Vs.aa=G0,hG1:ViC.Vc.aa=G1 at hC hfs ⊢;refine bu fun Z zq A hA L hL=>?_
  repeat' (first|(apply al zq;try dsimp only)|apply aS zq (af hL)|apply aq zq|refine aT rfl ?_|apply ai|refine ah rfl ?_|refine aR rfl ?_|exact aA|apply aB|refine aP fun _=>?_|refine aQ fun _=>?_|(constructor;cbv))
  all_goals first|(show L _ _ _;skip)|(clear hL hfs zq Z;subst hA hF hG0 hG1;simp only [Vl.aa,ViC.Vc.aa,Ar.aa] at * <;> grind [aj,mM,rR,oU];done)
  rename_i hx;have hv:aX v_n v_l=true:=by
   clear hL hfs zq Z;subst hA hF hG0 hG1;simp only [ViC.Vc.aa,Ar.aa] at hx
   grind [aj,oU]
  clear hx;have hbs:∀ t,Tp v_n t=v_n.contains t:=fun t=>qH (by unfold aX at hv;rw [Bool.and_eq_true] at hv;exact hv.1) t;subst hL;refine aJ (aN hfs) (Dh v_l (VZ v_n)) (ouS A v_n v_l) (vn v_l) (Zn 13 4) ⟨0,[]⟩ ?_ ?_ ?_
  ·exact jA _ _
  ·cbv
   repeat' (first|exact trivial|exact rfl|refine And.intro ?_ ?_)
  rintro⟨i,o⟩ hq O hO;have hst:=fun h=>lI hk.2 hq h;have hlen:=qO (sG v_n) hq;have hen:=fun h=>nC hq h;have q0:=hq.1;have q1:=hq.2.1;dsimp only at q0 q1 hst;have hin:VZ v_n (v_l.getD i.toNat [])=if v_n.contains (ri (v_l.getD i.toNat []) 1)=true then [] else [[D.int (ri (v_l.getD i.toNat []) 0),D.int (ri (v_l.getD i.toNat []) 1),D.int (ri (v_l.getD i.toNat []) 2),D.int (ri (v_l.getD i.toNat []) 3),D.bool (rb (v_l.getD i.toNat []) 4)]]:=rfl
  subst hA;generalize hA:Ar.aa=A;generalize hL:Lp _ _ _=L;refine az zq ?_
  repeat' (first|(apply al zq;try dsimp only)|apply aS zq (af hL)|apply aq zq|refine aT rfl ?_|apply ai|refine ah rfl ?_|refine aR rfl ?_|exact aA|apply aB|refine aP fun _=>?_|refine aQ fun _=>?_|(constructor;cbv))
  all_goals (clear hL hfs zq Z hq;subst hA hF hG0 hG1 hO;simp only [Vl.aa,ViR.Vs.aa,Ar.aa] at * <;> grind [aj,mM,rR,eO,kz,oU])
 ·cases hp
def Im (F:Vl):aO:=fun xs h=>match xs,h with
 |[.agg [.val (.int .i64 k_n),.val (.int .i64 k_p),.val (.int .i64 k_w),.val (.int .i64 _),.val (.bool _)]],[]=>some ⟨True,.sa (.agg [.ay (F.l_a k_n k_p),.ay (F.l_b k_n k_p),.ay k_w]),[],[Any]⟩
 |_,_=>none
theorem kU:au Tryz.prog 170 (Im Vl.aa):=by
 have hfs:=ak.nil;refine aw hfs Tryz.func170 rfl rfl fun xs h p hp=>?_;unfold Im at hp;split at hp
 ·rename_i k_n k_p k_w k_s k_m;cases hp;refine⟨av rfl,fun _ _=>?_⟩;intro b gv;generalize hF:Vl.aa=F,hG0:ViR.Vs.aa=G0,hG1:ViC.Vc.aa=G1 at hfs ⊢;refine bu fun Z zq A hA L hL=>?_
  repeat' (first|(apply al zq;try dsimp only)|apply aS zq (af hL)|apply aq zq|refine aT rfl ?_|apply ai|refine ah rfl ?_|refine aR rfl ?_|exact aA|apply aB|refine aP fun _=>?_|refine aQ fun _=>?_|(constructor;cbv))
  all_goals
   clear hL zq Z
   try clear hfs
   subst hA hF hG0 hG1;simp only [Vl.aa,Ar.aa] at *
   try (grind [aj,eW,eX])
 ·cases hp
def FD (F:Vl):aO:=fun xs h=>match xs,h with
 |[.agg [.sl none (.ints .i64 v_n),.sl none (.ae (.int .i64 (.int .i64 (.int .i64 (.int .i64 (.bool .nil))))) v_l)]],[]=>some ⟨F.Yr v_n v_l=true,.cN [.one (.sl none (.ae .pY (F.aga v_n v_l))),I (F.Xk v_n v_l)],[],[Any]⟩
 |_,_=>none
theorem BM:au Tryz.prog 152 (FD Vl.aa):=by
 have hfs:=(ak.cons Au (ak.cons kU ak.nil rfl) rfl);refine aw hfs Tryz.func152 rfl rfl fun xs h p hp=>?_;unfold FD at hp;split at hp
 ·rename_i v_n v_l;cases hp;refine⟨av rfl,fun hC _=>?_⟩;dsimp only at hC;intro b gv;have hk:v_n.length≤1000000∧v_l.length≤1000000:=of_decide_eq_true hC;have hil:=nN v_l;generalize hF:Vl.aa=F,hG0:ViR.Vs.aa=G0,hG1:ViC.Vc.aa=G1 at hC hfs ⊢;refine bu fun Z zq A hA L hL=>?_
  repeat' (first|(apply al zq;try dsimp only)|apply aS zq (af hL)|apply aq zq|refine aT rfl ?_|apply ai|refine ah rfl ?_|refine aR rfl ?_|exact aA|apply aB|refine aP fun _=>?_|refine aQ fun _=>?_|(constructor;cbv))
  all_goals first|(show L _ _ _;skip)|(clear hL hfs zq Z;subst hA hF hG0 hG1;simp only [Vl.aa,Ar.aa] at * <;> grind [aj,mM,gC,oU];done)
  rename_i hx;have hv:aX v_n v_l=true:=by
   clear hL hfs zq Z;subst hA hF hG0 hG1;simp only [Vl.aa,Ar.aa] at hx
   grind [aj,oU]
  have hiv:mM v_n v_l=eO v_l:=if_pos hv;clear hx;subst hL;refine aJ (aN hfs) (Dh (eO v_l) Uu) (boS A (F.aaY v_n v_l)) (vn (eO v_l)) (Zn 19 6) ⟨0,[]⟩ ?_ ?_ ?_
  ·exact jA _ _
  ·cbv
   repeat' (first|exact trivial|exact rfl|refine And.intro ?_ ?_)
  rintro⟨i,o⟩ hq O hO;have hst:=fun h=>lI (by omega) hq h;have hlen:=qO sA hq;have hen:=fun h=>nC hq h;have q0:=hq.1;have q1:=hq.2.1;dsimp only at q0 q1 hst;have hin:Uu ((eO v_l).getD i.toNat [])=if rb ((eO v_l).getD i.toNat []) 4=true then [[D.int (eW (ri ((eO v_l).getD i.toNat []) 0) (ri ((eO v_l).getD i.toNat []) 1)),D.int (eX (ri ((eO v_l).getD i.toNat []) 0) (ri ((eO v_l).getD i.toNat []) 1)),D.int (ri ((eO v_l).getD i.toNat []) 2)]] else []:=rfl
  subst hA;generalize hA:Ar.aa=A;generalize hL:Lp _ _ _=L;refine az zq ?_
  repeat' (first|(apply al zq;try dsimp only)|apply aS zq (af hL)|apply aq zq|refine aT rfl ?_|apply ai|refine ah rfl ?_|refine aR rfl ?_|exact aA|apply aB|refine aP fun _=>?_|refine aQ fun _=>?_|(constructor;cbv))
  all_goals (clear hL hfs zq Z hq;subst hA hF hG0 hG1 hO;simp only [Vl.aa,Ar.aa] at * <;> grind [aj,gC,fz,oU])
 ·cases hp
end Go.Proofs.YtelhldgdnlppfaaGreat.ViL
namespace Go.Proofs.YtelhldgdnlppfaaGreat.So
open Go Go.Shelf Go.RowKit Go.Lib Go.Sort Ry EcX Cmp
def cfE (x y:E):Int:=fX (ri x 0) (ri x 1) (ri x 2) (ri y 0) (ri y 1) (ri y 2)
def aeb (l:List E):List E:=(pdq (ltOf cfE) l.toArray 0 l.toArray.size (Lib.bitLen l.toArray.size) true true).toList
structure Os where
 ob:List E→List E
 ok:List E→Bool
end Go.Proofs.YtelhldgdnlppfaaGreat.So
