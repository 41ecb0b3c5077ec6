
/-
  the answer of inner and outer links,awake. No condition.
-/
import Derived.Test.YtelhldgdnlppfaaGreatVsViR
import Derived.Test.YtelhldgdnlppfaaGreatVsW45
set_option maxHeartbeats 4000000
set_option maxRecDepth 100000
set_option cbv.maxSteps 4000000
namespace Go.Proofs.YtelhldgdnlppfaaGreat.ViS
open Go Ry Cmp ViR
def kT (y:E):Int × Int × Int × Int × Bool:=(ri y 0,ri y 1,ri y 2,ri y 3,rb y 4)
def kg (p q:List E):Bool:=decide (p.map kT=q.map kT)
def gE (p q:List Int):Bool:=decide (p=q)
def dV (n:List Int) (l:List E) (n' : List Int) (l' : List E):Bool:=gE n n' && kg l l'
def eI (p q:List Int) (j:Nat):Bool:=decide (p.getD j 0=q.getD j 0)
def eK (p q:List E) (j:Nat):Bool:=decide (kT (p.getD j [])=kT (q.getD j []))
theorem LO {p q:List Int} (h:p.length=q.length):tK p.length (eI p q)=gE p q:=by
 rw [Bool.eq_iff_iff,gK];unfold eI gE;simp only [decide_eq_true_eq];constructor
 ·intro g;refine List.ext_getElem h fun i h1 h2=>?_;have:=g i h1;rw [dR _ _ h1,dR _ _ h2] at this;exact this
 ·intro g;rw [g];exact fun _ _=>rfl
theorem PH {p q:List E} (h:p.length=q.length):tK p.length (eK p q)=kg p q:=by
 rw [Bool.eq_iff_iff,gK];unfold eK kg;simp only [decide_eq_true_eq];constructor
 ·intro g;refine List.ext_getElem (by rw [List.length_map,List.length_map,h]) fun i h1 h2=>?_;rw [List.length_map] at h1 h2;have:=g i h1;rw [fF _ _ h1,fF _ _ h2] at this;rw [List.getElem_map,List.getElem_map];exact this
 ·intro g i hi;have:=congrArg (fun l=>l[i]?) g;simp only [List.getElem?_map,List.getElem?_eq_getElem hi,List.getElem?_eq_getElem (show i < q.length by omega),Option.map_some,Option.some.injEq] at this;rw [fF _ _ hi,fF _ _ (show i < q.length by omega)];exact this
theorem nI {p q:List Int} (h:¬p.length=q.length):gE p q=false:=decide_eq_false fun w=>h (by rw [w])
theorem nK {p q:List E} (h:¬p.length=q.length):kg p q=false:=decide_eq_false fun w=>h (by have:=congrArg List.length w;simpa using this)
theorem Vn (p q:List E) (j:Nat):eK p q j=decide (ri (p.getD j []) 0=ri (q.getD j []) 0∧ri (p.getD j []) 1=ri (q.getD j []) 1∧ri (p.getD j []) 2=ri (q.getD j []) 2∧ri (p.getD j []) 3=ri (q.getD j []) 3∧rb (p.getD j []) 4=rb (q.getD j []) 4):=by
 unfold eK kT;simp only [Prod.mk.injEq]
noncomputable def s1I (A:Ar) (p q:List Int) (y:XI):St:=br Tryz.f48.ntmps [(0,.sl none (.ints .i64 p)),(1,.sl none (.ints .i64 q)),(12,.ay (A.fT p)),(13,.ay y.i)] [] [Any,Any]
noncomputable def s2I (A:Ar) (p q:List E) (y:XI):St:=br Tryz.f89.ntmps [(0,.sl none (.ae .bg p)),(1,.sl none (.ae .bg q)),(12,.ay (A.dN p)),(13,.ay y.i)] [] [Any,Any]
noncomputable def s3I (_:Ar) (p q:List Int) (y:XI):St:=br Tryz.f45.ntmps [(0,.sl none (.ints .i64 p)),(1,.sl none (.ints .i64 q)),(5,.ay y.i)] [] [Any,Any]
noncomputable def s4I (_:Ar) (p q:List E) (y:XI):St:=br Tryz.f50.ntmps [(0,.sl none (.ae .bg p)),(1,.sl none (.ae .bg q)),(5,.ay y.i)] [] [Any,Any]
structure Vq where
 q_i:List Int→List Int→Bool
 q_k:List E→List E→Bool
 q_v:List Int→List E→List Int→List E→Bool
 abl:List Int→List Int→Bool
 Mf:List E→List E→Bool
 abi:List Int→List E→List Int→List E→Bool
def Vq.aa:Vq:=⟨gE,kg,dV,fun p q=>decide (p.length≤1000000∧q.length≤1000000),fun p q=>decide (p.length≤1000000∧q.length≤1000000),fun n l n2 l2=>decide (n.length≤1000000∧n2.length≤1000000∧l.length≤1000000∧l2.length≤1000000)⟩
def OI (F:Vq):aO:=fun xs h=>match xs,h with
 |[.one (.sl none (.ints .i64 p)),.one (.sl none (.ints .i64 q))],[]=>some ⟨F.abl p q=true,.sa (B (F.q_i p q)),[],[Any,Any]⟩
 |_,_=>none
theorem Fc:au Tryz.prog 48 (OI Vq.aa):=by
 refine aw ak.nil Tryz.func48 rfl rfl fun xs h p hp=>?_;unfold OI at hp;split at hp
 ·rename_i p q;cases hp;refine⟨av rfl,fun hC _=>?_⟩;dsimp only at hC;intro b gv;have hk:p.length≤1000000∧q.length≤1000000:=of_decide_eq_true hC;have hne:=fun h=>nI (p:=p) (q:=q) h;generalize hF:Vq.aa=F at hC ⊢;refine bu fun Z zq A hA L hL=>?_
  repeat' (first|(apply al zq;try dsimp only)|apply aS zq (af hL)|apply aq zq|refine aT rfl ?_|apply ai|refine ah rfl ?_|refine aR rfl ?_|exact aA|apply aB|refine aP fun _=>?_|refine aQ fun _=>?_|(constructor;cbv))
  all_goals first|(show L _ _ _;skip)|(clear hL zq Z;subst hA hF;simp only [Vq.aa,Ar.aa] at *;grind [aj];done)
  rename_i hx;have hl:p.length=q.length:=by
   clear hL zq Z hF;subst hA;simp only [Ar.aa] at hx
   grind [aj]
  clear hx;have hal:=LO hl;subst hL;refine aJ (aN ak.nil) (ov p.length (eI p q)) (s1I A p q) (allM p.length) (iR 13) ⟨0⟩ ?_ ?_ ?_
  ·exact all_zero _ _
  ·cbv
   repeat' (first|exact trivial|exact rfl|refine And.intro ?_ ?_)
  rintro⟨i⟩ hq O hO;obtain⟨e1,_⟩:=gP hk.1 hq;have hst:=fun h=>eY hk.1 hq h;have hen:=fun h=>gO hq h;have q0:=hq.1;have q1:=hq.2.1;dsimp only at q0 q1 hst;have hz:eI p q i.toNat=decide (p.getD i.toNat 0=q.getD i.toNat 0):=rfl;subst hA;generalize hA:Ar.aa=A;generalize hL:Lp _ _ _=L;refine az zq ?_
  repeat' (first|(apply al zq;try dsimp only)|apply aS zq (af hL)|apply aq zq|refine aT rfl ?_|apply ai|refine ah rfl ?_|refine aR rfl ?_|exact aA|apply aB|refine aP fun _=>?_|refine aQ fun _=>?_|(constructor;cbv))
  all_goals (clear hL zq Z hq;subst hA hF hO;simp only [Vq.aa,Ar.aa] at * <;> grind [aj])
 ·cases hp
def WE (F:Vq):aO:=fun xs h=>match xs,h with
 |[.one (.sl none (.ae (.int .i64 (.int .i64 (.int .i64 (.int .i64 (.bool .nil))))) p)),.one (.sl none (.ae (.int .i64 (.int .i64 (.int .i64 (.int .i64 (.bool .nil))))) q))],[]=>some ⟨F.Mf p q=true,.sa (B (F.q_k p q)),[],[Any,Any]⟩
 |_,_=>none
theorem Yp:au Tryz.prog 89 (WE Vq.aa):=by
 refine aw ak.nil Tryz.func89 rfl rfl fun xs h p hp=>?_;unfold WE at hp;split at hp
 ·rename_i p q;cases hp;refine⟨av rfl,fun hC _=>?_⟩;dsimp only at hC;intro b gv;have hk:p.length≤1000000∧q.length≤1000000:=of_decide_eq_true hC;have hne:=fun h=>nK (p:=p) (q:=q) h;generalize hF:Vq.aa=F at hC ⊢;refine bu fun Z zq A hA L hL=>?_
  repeat' (first|(apply al zq;try dsimp only)|apply aS zq (af hL)|apply aq zq|refine aT rfl ?_|apply ai|refine ah rfl ?_|refine aR rfl ?_|exact aA|apply aB|refine aP fun _=>?_|refine aQ fun _=>?_|(constructor;cbv))
  all_goals first|(show L _ _ _;skip)|(clear hL zq Z;subst hA hF;simp only [Vq.aa,Ar.aa] at *;grind [aj];done)
  rename_i hx;have hl:p.length=q.length:=by
   clear hL zq Z hF;subst hA;simp only [Ar.aa] at hx
   grind [aj]
  clear hx;have hal:=PH hl;subst hL;refine aJ (aN ak.nil) (ov p.length (eK p q)) (s2I A p q) (allM p.length) (iR 13) ⟨0⟩ ?_ ?_ ?_
  ·exact all_zero _ _
  ·cbv
   repeat' (first|exact trivial|exact rfl|refine And.intro ?_ ?_)
  rintro⟨i⟩ hq O hO;obtain⟨e1,_⟩:=gP hk.1 hq;have hst:=fun h=>eY hk.1 hq h;have hen:=fun h=>gO hq h;have q0:=hq.1;have q1:=hq.2.1;dsimp only at q0 q1 hst;have hz:=Vn p q i.toNat;subst hA;generalize hA:Ar.aa=A;generalize hL:Lp _ _ _=L;refine az zq ?_
  repeat' (first|(apply al zq;try dsimp only)|apply aS zq (af hL)|apply aq zq|refine aT rfl ?_|apply ai|refine ah rfl ?_|refine aR rfl ?_|exact aA|apply aB|refine aP fun _=>?_|refine aQ fun _=>?_|(constructor;cbv))
  all_goals (clear hL zq Z hq;subst hA hF hO;simp only [Vq.aa,Ar.aa] at * <;> grind [aj])
 ·cases hp
def sd (F:Vq):aO:=fun xs h=>match xs,h with
 |[.one (.sl none (.ints .i64 p)),.one (.sl none (.ints .i64 q))],[]=>some ⟨F.abl p q=true,.sa (B (F.q_i p q)),[],[Any,Any]⟩
 |_,_=>none
theorem pC:au Tryz.prog 45 (sd Vq.aa):=by
 refine aw ak.nil Tryz.func45 rfl rfl fun xs h p hp=>?_;unfold sd at hp;split at hp
 ·rename_i p q;cases hp;refine⟨av rfl,fun hC _=>?_⟩;dsimp only at hC;intro b gv;have hk:p.length≤1000000∧q.length≤1000000:=of_decide_eq_true hC;have hne:=fun h=>nI (p:=p) (q:=q) h;generalize hF:Vq.aa=F at hC ⊢;refine bu fun Z zq A hA L hL=>?_
  repeat' (first|(apply al zq;try dsimp only)|apply aS zq (af hL)|apply aq zq|refine aT rfl ?_|apply ai|refine ah rfl ?_|refine aR rfl ?_|exact aA|apply aB|refine aP fun _=>?_|refine aQ fun _=>?_|(constructor;cbv))
  all_goals first|(show L _ _ _;skip)|(clear hL zq Z;subst hA hF;simp only [Vq.aa,Ar.aa] at *;grind [aj];done)
  rename_i hx;have hl:p.length=q.length:=by
   clear hL zq Z hF;subst hA;simp only [Ar.aa] at hx
   grind [aj]
  clear hx;have hal:=LO hl;subst hL;refine aJ (aN ak.nil) (ov p.length (eI p q)) (s3I A p q) (allM p.length) (iR 5) ⟨0⟩ ?_ ?_ ?_
  ·exact all_zero _ _
  ·cbv
   repeat' (first|exact trivial|exact rfl|refine And.intro ?_ ?_)
  rintro⟨i⟩ hq O hO;obtain⟨e1,_⟩:=gP hk.1 hq;have hst:=fun h=>eY hk.1 hq h;have hen:=fun h=>gO hq h;have q0:=hq.1;have q1:=hq.2.1;dsimp only at q0 q1 hst;have hz:eI p q i.toNat=decide (p.getD i.toNat 0=q.getD i.toNat 0):=rfl;subst hA;generalize hA:Ar.aa=A;generalize hL:Lp _ _ _=L;refine az zq ?_
  repeat' (first|(apply al zq;try dsimp only)|apply aS zq (af hL)|apply aq zq|refine aT rfl ?_|apply ai|refine ah rfl ?_|refine aR rfl ?_|exact aA|apply aB|refine aP fun _=>?_|refine aQ fun _=>?_|(constructor;cbv))
  all_goals (clear hL zq Z hq;subst hA hF hO;simp only [Vq.aa,Ar.aa] at * <;> grind [aj])
 ·cases hp
def BG (F:Vq):aO:=fun xs h=>match xs,h with
 |[.one (.sl none (.ae (.int .i64 (.int .i64 (.int .i64 (.int .i64 (.bool .nil))))) p)),.one (.sl none (.ae (.int .i64 (.int .i64 (.int .i64 (.int .i64 (.bool .nil))))) q))],[]=>some ⟨F.Mf p q=true,.sa (B (F.q_k p q)),[],[Any,Any]⟩
 |_,_=>none
theorem Ko:au Tryz.prog 50 (BG Vq.aa):=by
 refine aw ak.nil Tryz.func50 rfl rfl fun xs h p hp=>?_;unfold BG at hp;split at hp
 ·rename_i p q;cases hp;refine⟨av rfl,fun hC _=>?_⟩;dsimp only at hC;intro b gv;have hk:p.length≤1000000∧q.length≤1000000:=of_decide_eq_true hC;have hne:=fun h=>nK (p:=p) (q:=q) h;generalize hF:Vq.aa=F at hC ⊢;refine bu fun Z zq A hA L hL=>?_
  repeat' (first|(apply al zq;try dsimp only)|apply aS zq (af hL)|apply aq zq|refine aT rfl ?_|apply ai|refine ah rfl ?_|refine aR rfl ?_|exact aA|apply aB|refine aP fun _=>?_|refine aQ fun _=>?_|(constructor;cbv))
  all_goals first|(show L _ _ _;skip)|(clear hL zq Z;subst hA hF;simp only [Vq.aa,Ar.aa] at *;grind [aj];done)
  rename_i hx;have hl:p.length=q.length:=by
   clear hL zq Z hF;subst hA;simp only [Ar.aa] at hx
   grind [aj]
  clear hx;have hal:=PH hl;subst hL;refine aJ (aN ak.nil) (ov p.length (eK p q)) (s4I A p q) (allM p.length) (iR 5) ⟨0⟩ ?_ ?_ ?_
  ·exact all_zero _ _
  ·cbv
   repeat' (first|exact trivial|exact rfl|refine And.intro ?_ ?_)
  rintro⟨i⟩ hq O hO;obtain⟨e1,_⟩:=gP hk.1 hq;have hst:=fun h=>eY hk.1 hq h;have hen:=fun h=>gO hq h;have q0:=hq.1;have q1:=hq.2.1;dsimp only at q0 q1 hst;have hz:=Vn p q i.toNat;subst hA;generalize hA:Ar.aa=A;generalize hL:Lp _ _ _=L;refine az zq ?_
  repeat' (first|(apply al zq;try dsimp only)|apply aS zq (af hL)|apply aq zq|refine aT rfl ?_|apply ai|refine ah rfl ?_|refine aR rfl ?_|exact aA|apply aB|refine aP fun _=>?_|refine aQ fun _=>?_|(constructor;cbv))
  all_goals (clear hL zq Z hq;subst hA hF hO;simp only [Vq.aa,Ar.aa] at * <;> grind [aj])
 ·cases hp
def yj (F:Vq):aO:=fun xs h=>match xs,h with
 |[.agg [.sl none (.ints .i64 v_n),.sl none (.ae (.int .i64 (.int .i64 (.int .i64 (.int .i64 (.bool .nil))))) v_l)],.agg [.sl none (.ints .i64 u_n),.sl none (.ae (.int .i64 (.int .i64 (.int .i64 (.int .i64 (.bool .nil))))) u_l)]],[]=>some ⟨F.abi v_n v_l u_n u_l=true,.sa (B (F.q_v v_n v_l u_n u_l)),[],[Any,Any]⟩
 |_,_=>none
theorem CT:au Tryz.prog 49 (yj Vq.aa):=by
 have hfs:=(ak.cons Fc (ak.cons Yp ak.nil rfl) rfl);refine aw hfs Tryz.func49 rfl rfl fun xs h p hp=>?_;unfold yj at hp;split at hp
 ·rename_i v_n v_l u_n u_l;cases hp;refine⟨av rfl,fun hC _=>?_⟩;dsimp only at hC;intro b gv;generalize hF:Vq.aa=F at hC hfs ⊢;refine bu fun Z zq A hA L hL=>?_
  repeat' (first|(apply al zq;try dsimp only)|apply aS zq (af hL)|apply aq zq|refine aT rfl ?_|apply ai|refine ah rfl ?_|refine aR rfl ?_|exact aA|apply aB|refine aP fun _=>?_|refine aQ fun _=>?_|(constructor;cbv))
  all_goals
   clear hL zq Z
   try clear hfs
   subst hA hF;simp only [Vq.aa,Ar.aa] at *
   try (grind [aj,dV])
 ·cases hp
def jf (F:Vq):aO:=fun xs h=>match xs,h with
 |[.agg [.sl none (.ints .i64 v_n),.sl none (.ae (.int .i64 (.int .i64 (.int .i64 (.int .i64 (.bool .nil))))) v_l)],.agg [.sl none (.ints .i64 u_n),.sl none (.ae (.int .i64 (.int .i64 (.int .i64 (.int .i64 (.bool .nil))))) u_l)]],[]=>some ⟨F.abi v_n v_l u_n u_l=true,.sa (B (F.q_v v_n v_l u_n u_l)),[],[Any,Any]⟩
 |_,_=>none
theorem fy:au Tryz.prog 16 (jf Vq.aa):=by
 have hfs:=(ak.cons pC (ak.cons Ko ak.nil rfl) rfl);refine aw hfs Tryz.func16 rfl rfl fun xs h p hp=>?_;unfold jf at hp;split at hp
 ·rename_i v_n v_l u_n u_l;cases hp;refine⟨av rfl,fun hC _=>?_⟩;dsimp only at hC;intro b gv;generalize hF:Vq.aa=F at hC hfs ⊢;refine bu fun Z zq A hA L hL=>?_
  repeat' (first|(apply al zq;try dsimp only)|apply aS zq (af hL)|apply aq zq|refine aT rfl ?_|apply ai|refine ah rfl ?_|refine aR rfl ?_|exact aA|apply aB|refine aP fun _=>?_|refine aQ fun _=>?_|(constructor;cbv))
  all_goals
   clear hL zq Z
   try clear hfs
   subst hA hF;simp only [Vq.aa,Ar.aa] at *
   try (grind [aj,dV])
 ·cases hp
end Go.Proofs.YtelhldgdnlppfaaGreat.ViS
namespace Go.Proofs.YtelhldgdnlppfaaGreat.ViQ
open Go Ry Cmp ViR ViC ViL ViT ViS
theorem PJ {f:E→List E} {k:Nat} (hf:∀ y,(f y).length≤k):∀ l:List E,(l.flatMap f).length≤k * l.length
 |[]=>Nat.zero_le _
 |y :: l=>by
  have:=PJ hf l;have:=hf y;rw [List.flatMap_cons,List.length_append,List.length_cons,Nat.mul_add];omega
theorem AV (y z:E):(uu y z).length≤1:=by unfold uu;split <;> simp
def Yi (l:List E) (y:E):List E:=l.flatMap (uu y)
theorem CK (l:List E) (y:E):(Yi l y).length≤l.length:=ij (AV y) l
def IS (l:List E) (f:E→List E) (o0:List E) (y:XC):Prop:=0≤y.i∧y.i≤l.length∧y.o=o0 ++ (l.take y.i.toNat).flatMap f
theorem px (l:List E) (f:E→List E) (o0:List E):IS l f o0 ⟨0,o0⟩:=⟨Int.le_refl 0,Int.natCast_nonneg _,by simp⟩
theorem tT {l:List E} {f:E→List E} {o0:List E} (hf:∀ y,(f y).length≤1) {i:Int} {o:List E} (hq:IS l f o0 ⟨i,o⟩):o.length≤o0.length+l.length:=by
 have h:=ij hf (l.take i.toNat);have h2:=hq.2.2;simp only at h2;rw [h2,List.length_append];rw [List.length_take] at h;omega
theorem pd {l:List E} {f:E→List E} {o0:List E} (hl:l.length≤1000000) {i:Int} {o:List E} (hq:IS l f o0 ⟨i,o⟩) (h:i < l.length):aD .add .i64 i 1=i+1∧(∀ p,vn l ⟨i+1,p⟩ < vn l ⟨i,o⟩)∧(f (l.getD i.toNat [])=[]→IS l f o0 ⟨i+1,o⟩)∧(∀ e,f (l.getD i.toNat [])=[e]→IS l f o0 ⟨i+1,o ++ [e]⟩):=by
 obtain⟨h0,h1,h2⟩:=hq;simp only at h0 h1 h2;have ht:=cC l i h0 h;refine⟨by rw [aW,wr _ (by omega) (by omega)],fun p=>by simp only [vn];omega,fun g=>⟨by simp only;omega,by simp only;omega,?_⟩,fun e g=>⟨by simp only;omega,by simp only;omega,?_⟩⟩
 ·simp only;rw [ht,List.flatMap_append,h2];simp [List.flatMap_cons,List.getD_eq_getElem?_getD] at g ⊢;exact g
 ·simp only;rw [ht,List.flatMap_append,h2];simp [List.flatMap_cons,List.getD_eq_getElem?_getD] at g ⊢;exact g.symm
theorem Ei {l:List E} {f:E→List E} {o0:List E} {i:Int} {o:List E} (hq:IS l f o0 ⟨i,o⟩) (h:¬i < l.length):o=o0 ++ l.flatMap f:=by
 obtain⟨h0,h1,h2⟩:=hq;simp only at h0 h1 h2;have e:i=l.length:=by omega
 rw [e,Int.toNat_natCast,List.take_length] at h2;exact h2
theorem Yt {l:List E} {f:E→List E} {k:Nat} (hf:∀ y,(f y).length≤k) {i:Int} {o:List E} (hq:Dh l f ⟨i,o⟩):o.length≤k * l.length:=by
 have h:=PJ hf (l.take i.toNat);have h2:=hq.2.2;simp only at h2;rw [h2];rw [List.length_take] at h;have:k * min i.toNat l.length≤k * l.length:=Nat.mul_le_mul_left k (by omega);omega
theorem RY {l:List E} {f:E→List E} (hl:l.length≤1000000) {i:Int} {o p:List E} (hq:Dh l f ⟨i,o⟩) (h:i < l.length) (e:p=o ++ f (l.getD i.toNat [])):aD .add .i64 i 1=i+1∧vn l ⟨i+1,p⟩ < vn l ⟨i,o⟩∧Dh l f ⟨i+1,p⟩:=by
 obtain⟨h0,h1,h2⟩:=hq;simp only at h0 h1 h2;have ht:=cC l i h0 h;refine⟨by rw [aW,wr _ (by omega) (by omega)],by simp only [vn];omega,by simp only;omega,by simp only;omega,?_⟩;simp only;rw [ht,List.flatMap_append,← h2,e];simp [List.flatMap_cons]
noncomputable def riI (n:List Int) (l:List E) (y:XC):St:=br Tryz.f143.ntmps [(1,.ptr 1 0),(3,.sl (some (2,94)) (.ae .bg y.o)),(4,.ay y.i)] [(1,.cells 29 [.sl none (.ints .i64 n),.sl none (.ae .bg l)]),(2,.tok)] [Any]
noncomputable def rjI (n:List Int) (l:List E) (i:Int) (y:XC):St:=br Tryz.f143.ntmps [(1,.ptr 1 0),(3,.sl (some (2,94)) (.ae .bg y.o)),(4,.ay i),(5,.ay y.i)] [(1,.cells 29 [.sl none (.ints .i64 n),.sl none (.ae .bg l)]),(2,.tok)] [Any]
noncomputable def roI (n:List Int) (l:List E) (y:XC):St:=br Tryz.f149.ntmps [(1,.ptr 1 0),(3,.sl (some (2,94)) (.ae .bg y.o)),(4,.ay y.i)] [(1,.cells 29 [.sl none (.ints .i64 n),.sl none (.ae .bg l)]),(2,.tok)] [Any]
noncomputable def rbI (l:List E) (y:XC):St:=br Tryz.f120.ntmps [(3,.sl none (.ae .bg l)),(4,.sl (some (2,183)) (.ae .pY y.o)),(5,.ay y.i)] [(2,.tok)] [Any]
def kE (y:E):Int × Int × Int:=(ri y 0,ri y 1,ri y 2)
def Yn (p q:List E):Bool:=decide (p.map kE=q.map kE)
def liV (n:List Int) (l:List E):Bool:=decide (n.length≤70∧l.length≤200)
structure Vm where
 Sm:List E→List E
 agy:List Int→List E→List E
 PN:List E→List E
 m_a:Int→Int→Int
 m_b:Int→Int→Int
 m_s:List E→List E→Bool
 ahd:List Int→List E→Bool
 SM:List E→Bool
 agF:List Int→List E→Bool
 ahe:List E→List E→Bool
def Vm.aa:Vm:=⟨ba,kz,fun l=>fz (ba l),eW,eX,Yn,liV,fun l=>decide (l.length≤1000),fun n l=>decide (n.length≤1000000∧l.length≤1000000),fun p q=>decide (p.length≤1000000∧q.length≤1000000)⟩
def tC (F:Vm):aO:=fun xs h=>match xs,h with
 |[.agg [.sl none (.ints .i64 _),.sl none (.ae (.int .i64 (.int .i64 (.int .i64 (.int .i64 (.bool .nil))))) v_l)]],[]=>some ⟨F.SM v_l=true,.sa (.one (.sl none (.ae .bg (F.Sm v_l)))),[],[Any]⟩
 |_,_=>none
theorem qB:au Tryz.prog 143 (tC Vm.aa):=by
 have hfs:=ak.nil;refine aw hfs Tryz.func143 rfl rfl fun xs h p hp=>?_;unfold tC at hp;split at hp
 ·rename_i v_n v_l;cases hp;refine⟨av rfl,fun hC _=>?_⟩;dsimp only at hC;intro b gv;have hk:v_l.length≤1000:=of_decide_eq_true hC;generalize hF:Vm.aa=F,hG0:ViR.Vs.aa=G0,hG1:ViL.Vl.aa=G1 at hC hfs ⊢;refine bu fun Z zq A hA L hL=>?_
  repeat' (first|(apply al zq;try dsimp only)|apply aS zq (af hL)|apply aq zq|refine aT rfl ?_|apply ai|refine ah rfl ?_|refine aR rfl ?_|exact aA|apply aB|refine aP fun _=>?_|refine aQ fun _=>?_|(constructor;cbv))
  subst hL;refine aJ (aN hfs) (Dh v_l (Yi v_l)) (riI v_n v_l) (vn v_l) (Zn 4 3) ⟨0,[]⟩ ?_ ?_ ?_
  ·exact jA _ _
  ·cbv
   repeat' (first|exact trivial|exact rfl|refine And.intro ?_ ?_)
  rintro⟨i,o⟩ hq O hO;have hlen:=Yt (CK v_l) hq;have hlen:o.length≤1000000:=Nat.le_trans hlen (Nat.le_trans (Nat.mul_le_mul hk hk) (by decide));have hnx:=fun h p e=>RY (p:=p) (by omega) hq h e;have hen:¬i < v_l.length→o=ba v_l:=fun h=>nC hq h;have q0:=hq.1;have q1:=hq.2.1;dsimp only at q0 q1;subst hA;generalize hA:Ar.aa=A;generalize hL:Lp _ _ _=L;refine az zq ?_
  repeat' (first|(apply al zq;try dsimp only)|apply aS zq (af hL)|apply aq zq|refine aT rfl ?_|apply ai|refine ah rfl ?_|refine aR rfl ?_|exact aA|apply aB|refine aP fun _=>?_|refine aQ fun _=>?_|(constructor;cbv))
  all_goals first|(show L _ _ _;skip)|(clear hL hfs zq Z hq hnx;subst hA hF hG0 hG1 hO;simp only [Vm.aa,Ar.aa] at * <;> grind [aj,ba,Yi];done)
  rename_i hx;have hi:i < v_l.length:=by
   clear hL hfs zq Z hF hG0 hG1 hO hnx hen;subst hA;simp only [Ar.aa] at hx
   grind [aj]
  clear hx hen;subst hL;refine aJ (aN hfs) (IS v_l (uu (v_l.getD i.toNat [])) o) (rjI v_n v_l i) (vn v_l) (Zn 5 3) ⟨0,o⟩ ?_ ?_ ?_
  ·exact px _ _ _
  ·cbv
   repeat' (first|exact trivial|exact rfl|refine And.intro ?_ ?_)
  rintro⟨j,p⟩ hq2 O2 hO2;have hst:=fun h=>pd (by omega) hq2 h;have hle2:=tT (AV _) hq2;have hne:=fun h=>hnx hi p (Ei hq2 h);have k0:=hq2.1;have k1:=hq2.2.1;dsimp only at k0 k1 hst;have hin:uu (v_l.getD i.toNat []) (v_l.getD j.toNat [])=if ri (v_l.getD i.toNat []) 0 < ri (v_l.getD i.toNat []) 1∧ri (v_l.getD i.toNat []) 0=ri (v_l.getD j.toNat []) 1∧ri (v_l.getD i.toNat []) 1=ri (v_l.getD j.toNat []) 0∧ri (v_l.getD i.toNat []) 2=ri (v_l.getD j.toNat []) 2∧ri (v_l.getD i.toNat []) 3=ri (v_l.getD j.toNat []) 3 then [[D.int (ri (v_l.getD i.toNat []) 0),D.int (ri (v_l.getD i.toNat []) 1),D.int (ri (v_l.getD i.toNat []) 2),D.int (ri (v_l.getD i.toNat []) 3),D.bool (rb (v_l.getD i.toNat []) 4 && rb (v_l.getD j.toNat []) 4)]] else []:=rfl
  subst hA;generalize hA:Ar.aa=A;generalize hL:Lp _ _ _=L;refine az zq ?_
  repeat' (first|(apply al zq;try dsimp only)|apply aS zq (af hL)|apply aq zq|refine aT rfl ?_|apply ai|refine ah rfl ?_|refine aR rfl ?_|exact aA|apply aB|refine aP fun _=>?_|refine aQ fun _=>?_|(constructor;cbv))
  all_goals (clear hL hfs zq Z hq hq2 hnx;subst hA hF hG0 hG1 hO hO2;simp only [Vm.aa,Ar.aa] at * <;> grind [aj];done)
 ·cases hp
def ue (F:Vm):aO:=fun xs h=>match xs,h with
 |[.agg [.sl none (.ints .i64 v_n),.sl none (.ae (.int .i64 (.int .i64 (.int .i64 (.int .i64 (.bool .nil))))) v_l)]],[]=>some ⟨F.agF v_n v_l=true,.sa (.one (.sl none (.ae .bg (F.agy v_n v_l)))),[],[Any]⟩
 |_,_=>none
theorem xu:au Tryz.prog 149 (ue Vm.aa):=by
 have hfs:=(ak.cons DR ak.nil rfl);refine aw hfs Tryz.func149 rfl rfl fun xs h p hp=>?_;unfold ue at hp;split at hp
 ·rename_i v_n v_l;cases hp;refine⟨av rfl,fun hC _=>?_⟩;dsimp only at hC;intro b gv;have hk:v_n.length≤1000000∧v_l.length≤1000000:=of_decide_eq_true hC;generalize hF:Vm.aa=F,hG0:ViR.Vs.aa=G0,hG1:ViL.Vl.aa=G1 at hC hfs ⊢;refine bu fun Z zq A hA L hL=>?_
  repeat' (first|(apply al zq;try dsimp only)|apply aS zq (af hL)|apply aq zq|refine aT rfl ?_|apply ai|refine ah rfl ?_|refine aR rfl ?_|exact aA|apply aB|refine aP fun _=>?_|refine aQ fun _=>?_|(constructor;cbv))
  subst hL;refine aJ (aN hfs) (Dh v_l (VZ v_n)) (roI v_n v_l) (vn v_l) (Zn 4 3) ⟨0,[]⟩ ?_ ?_ ?_
  ·exact jA _ _
  ·cbv
   repeat' (first|exact trivial|exact rfl|refine And.intro ?_ ?_)
  rintro⟨i,o⟩ hq O hO;have hst:=fun h=>lI hk.2 hq h;have hlen:=qO (sG v_n) hq;have hen:=fun h=>nC hq h;have q0:=hq.1;have q1:=hq.2.1;dsimp only at q0 q1 hst;have hin:VZ v_n (v_l.getD i.toNat [])=if v_n.contains (ri (v_l.getD i.toNat []) 1)=true then [] else [[D.int (ri (v_l.getD i.toNat []) 0),D.int (ri (v_l.getD i.toNat []) 1),D.int (ri (v_l.getD i.toNat []) 2),D.int (ri (v_l.getD i.toNat []) 3),D.bool (rb (v_l.getD i.toNat []) 4)]]:=rfl
  subst hA;generalize hA:Ar.aa=A;generalize hL:Lp _ _ _=L;refine az zq ?_
  repeat' (first|(apply al zq;try dsimp only)|apply aS zq (af hL)|apply aq zq|refine aT rfl ?_|apply ai|refine ah rfl ?_|refine aR rfl ?_|exact aA|apply aB|refine aP fun _=>?_|refine aQ fun _=>?_|(constructor;cbv))
  all_goals (clear hL hfs zq Z hq;subst hA hF hG0 hG1 hO;simp only [Vm.aa,ViR.Vs.aa,Ar.aa] at * <;> grind [aj,kz];done)
 ·cases hp
def zH (F:Vm):aO:=fun xs h=>match xs,h with
 |[.agg [.val (.int .i64 k_n),.val (.int .i64 k_p),.val (.int .i64 k_w),.val (.int .i64 _),.val (.bool _)]],[]=>some ⟨True,.sa (.agg [.ay (F.m_a k_n k_p),.ay (F.m_b k_n k_p),.ay k_w]),[],[Any]⟩
 |_,_=>none
theorem pF:au Tryz.prog 144 (zH Vm.aa):=by
 have hfs:=ak.nil;refine aw hfs Tryz.func144 rfl rfl fun xs h p hp=>?_;unfold zH at hp;split at hp
 ·rename_i k_n k_p k_w k_s k_m;cases hp;refine⟨av rfl,fun _ _=>?_⟩;intro b gv;generalize hF:Vm.aa=F,hG0:ViR.Vs.aa=G0,hG1:ViL.Vl.aa=G1 at hfs ⊢;refine bu fun Z zq A hA L hL=>?_
  repeat' (first|(apply al zq;try dsimp only)|apply aS zq (af hL)|apply aq zq|refine aT rfl ?_|apply ai|refine ah rfl ?_|refine aR rfl ?_|exact aA|apply aB|refine aP fun _=>?_|refine aQ fun _=>?_|(constructor;cbv))
  all_goals
   clear hL zq Z
   try clear hfs
   subst hA hF hG0 hG1;simp only [Vm.aa,Ar.aa] at *
   try (grind [aj,eW,eX])
 ·cases hp
def oF (F:Vm):aO:=fun xs h=>match xs,h with
 |[.agg [.sl none (.ints .i64 _),.sl none (.ae (.int .i64 (.int .i64 (.int .i64 (.int .i64 (.bool .nil))))) v_l)]],[]=>some ⟨F.SM v_l=true,.sa (.one (.sl none (.ae .pY (F.PN v_l)))),[],[Any]⟩
 |_,_=>none
theorem lN:au Tryz.prog 120 (oF Vm.aa):=by
 have hfs:=(ak.cons qB (ak.cons pF ak.nil rfl) rfl);refine aw hfs Tryz.func120 rfl rfl fun xs h p hp=>?_;unfold oF at hp;split at hp
 ·rename_i v_n v_l;cases hp;refine⟨av rfl,fun hC _=>?_⟩;dsimp only at hC;intro b gv;have hk:v_l.length≤1000:=of_decide_eq_true hC;have hil:(ba v_l).length≤1000000:=Nat.le_trans (PJ (CK v_l) v_l) (Nat.le_trans (Nat.mul_le_mul hk hk) (by decide));generalize hF:Vm.aa=F,hG0:ViR.Vs.aa=G0,hG1:ViL.Vl.aa=G1 at hC hfs ⊢;refine bu fun Z zq A hA L hL=>?_
  repeat' (first|(apply al zq;try dsimp only)|apply aS zq (af hL)|apply aq zq|refine aT rfl ?_|apply ai|refine ah rfl ?_|refine aR rfl ?_|exact aA|apply aB|refine aP fun _=>?_|refine aQ fun _=>?_|(constructor;cbv))
  all_goals first|(show L _ _ _;skip)|(clear hL hfs zq Z;subst hA hF hG0 hG1;simp only [Vm.aa] at * <;> grind [aj];done)
  subst hL;refine aJ (aN hfs) (Dh (ba v_l) Uu) (rbI (F.Sm v_l)) (vn (ba v_l)) (Zn 5 4) ⟨0,[]⟩ ?_ ?_ ?_
  ·exact jA _ _
  ·cbv
   repeat' (first|exact trivial|exact rfl|refine And.intro ?_ ?_)
  rintro⟨i,o⟩ hq O hO;have hst:=fun h=>lI hil hq h;have hlen:=qO sA hq;have hen:=fun h=>nC hq h;have q0:=hq.1;have q1:=hq.2.1;dsimp only at q0 q1 hst;have hin:Uu ((ba v_l).getD i.toNat [])=if rb ((ba v_l).getD i.toNat []) 4=true then [[D.int (eW (ri ((ba v_l).getD i.toNat []) 0) (ri ((ba v_l).getD i.toNat []) 1)),D.int (eX (ri ((ba v_l).getD i.toNat []) 0) (ri ((ba v_l).getD i.toNat []) 1)),D.int (ri ((ba v_l).getD i.toNat []) 2)]] else []:=rfl
  subst hA;generalize hA:Ar.aa=A;generalize hL:Lp _ _ _=L;refine az zq ?_
  repeat' (first|(apply al zq;try dsimp only)|apply aS zq (af hL)|apply aq zq|refine aT rfl ?_|apply ai|refine ah rfl ?_|refine aR rfl ?_|exact aA|apply aB|refine aP fun _=>?_|refine aQ fun _=>?_|(constructor;cbv))
  all_goals (clear hL hfs zq Z hq;subst hA hF hG0 hG1 hO;simp only [Vm.aa,Ar.aa] at * <;> grind [aj,fz];done)
 ·cases hp
end Go.Proofs.YtelhldgdnlppfaaGreat.ViQ
