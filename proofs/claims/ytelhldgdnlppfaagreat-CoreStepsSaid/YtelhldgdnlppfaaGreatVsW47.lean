/-
  The view of two: it may be,its links are those of both,and the order does not matter. No condition.
-/
import Derived.Test.YtelhldgdnlppfaaGreatVsW46
import Derived.Test.YtelhldgdnlppfaaGreatVsW35
set_option cbv.maxSteps 4000000
set_option maxHeartbeats 4000000
set_option maxRecDepth 100000
namespace Go.Proofs.YtelhldgdnlppfaaGreat.ViM
open Go Ry Cmp ViR ViC ViL ViT ViQ
def e5 (y:E):E:=[D.int (ri y 0),D.int (ri y 1),D.int (ri y 2),D.int (ri y 3),D.bool (rb y 4)]
def Am (a:Int) (y:E):List E:=if ri y 0=a then [e5 y] else []
def Da (n k:List Int) (j:Nat):Bool:=n.contains ((j:Int)+1) && k.contains ((j:Int)+1)
def RD (n k:List Int) (j:Nat):Bool:=n.contains ((j:Int)+1) || k.contains ((j:Int)+1)
def oL (n k:List Int):Bool:=(List.range 64).any (Da n k)
def IM (n k:List Int) (t:Nat):List Int:=(List.range t).flatMap fun j=>if RD n k j=true then [(j:Int)+1] else []
def RB (l q:List E) (a:Int):List E:=l.flatMap (Am a) ++ q.flatMap (Am a)
def GH (l q:List E) (t:Nat):List E:=(List.range t).flatMap fun j:Nat=>RB l q ((j:Int)+1)
theorem lS (a:Int) (y:E):(Am a y).length≤1:=by unfold Am;split <;> simp
theorem Tz (l q:List E) (a:Int):(RB l q a).length≤l.length+q.length:=by
 have:=ij (lS a) l;have:=ij (lS a) q;unfold RB;rw [List.length_append];omega
theorem Fi (l q:List E):∀ t,(GH l q t).length≤t * (l.length+q.length)
 |0=>by simp [GH]
 |t+1=>by
  have:=Fi l q t;have:=Tz l q ((t:Int)+1);unfold GH at *;rw [List.range_succ,List.flatMap_append,List.length_append,List.flatMap_cons,List.flatMap_nil,List.append_nil,Nat.add_mul];omega
theorem GY (n k:List Int):∀ t,(IM n k t).length≤t
 |0=>by simp [IM]
 |t+1=>by
  have:=GY n k t;unfold IM at *;have h1:(if RD n k t=true then [(t:Int)+1] else []).length≤1:=by split <;> simp
  rw [List.range_succ,List.flatMap_append,List.length_append,List.flatMap_cons,List.flatMap_nil,List.append_nil];omega
structure XG where
 n:Int
 o:List Int
 p:List E
def gQ (n k:List Int) (l q:List E) (y:XG):Prop:=1≤y.n∧y.n≤65∧(∀ j:Nat,j < y.n - 1→Da n k j=false)∧y.o=IM n k (y.n - 1).toNat∧y.p=GH l q (y.n - 1).toNat
def gM (y:XG):Nat:=65 - y.n.toNat
noncomputable def gI (n k:List Int) (l q:List E) (y:XG):St:=br Tryz.f80.ntmps [(2,.ptr 1 0),(3,.ptr 2 0),(4,.ptr 3 0),(6,.ptr 4 0),(7,.ay y.n)] [(1,.cells 29 [.sl none (.ints .i64 n),.sl none (.ae .bg l)]),(2,.cells 29 [.sl none (.ints .i64 k),.sl none (.ae .bg q)]),(3,.cells 29 [.val (.slice none 0 0),.val (.slice none 0 0)]),(4,.cells 29 [.sl (some (5,3)) (.ints .i64 y.o),.sl (some (6,94)) (.ae .bg y.p)]),(5,.tok),(6,.tok)] [Any,Any]
def rdC (st:St):List Int:=match fb st 6 0 with | .sl _ (.ints _ l)=>l|_=>[]
def rdL (st:St):List E:=ZC (match fb st 6 1 with | .sl _ c=>c|_=>.ae .nil [])
def gR (st:St):XG:=⟨bw st 7,rdC st,rdL st⟩
noncomputable def hI (n k:List Int) (l q:List E) (a:Int) (o:List Int) (y:XC):St:=br Tryz.f80.ntmps [(2,.ptr 1 0),(3,.ptr 2 0),(4,.ptr 3 0),(6,.ptr 4 0),(7,.ay a),(8,.ay y.i)] [(1,.cells 29 [.sl none (.ints .i64 n),.sl none (.ae .bg l)]),(2,.cells 29 [.sl none (.ints .i64 k),.sl none (.ae .bg q)]),(3,.cells 29 [.val (.slice none 0 0),.val (.slice none 0 0)]),(4,.cells 29 [.sl (some (5,3)) (.ints .i64 o),.sl (some (6,94)) (.ae .bg y.o)]),(5,.tok),(6,.tok)] [Any,Any]
noncomputable def iI (n k:List Int) (l q:List E) (a:Int) (o:List Int) (y:XC):St:=br Tryz.f80.ntmps [(2,.ptr 1 0),(3,.ptr 2 0),(4,.ptr 3 0),(6,.ptr 4 0),(7,.ay a),(9,.ay y.i)] [(1,.cells 29 [.sl none (.ints .i64 n),.sl none (.ae .bg l)]),(2,.cells 29 [.sl none (.ints .i64 k),.sl none (.ae .bg q)]),(3,.cells 29 [.val (.slice none 0 0),.val (.slice none 0 0)]),(4,.cells 29 [.sl (some (5,3)) (.ints .i64 o),.sl (some (6,94)) (.ae .bg y.o)]),(5,.tok),(6,.tok)] [Any,Any]
def hR (s:Nat) (st:St):XC:=⟨bw st s,rdL st⟩
theorem Zi {n k:List Int} {l q:List E} (hl:l.length≤1000) (hq:q.length≤1000) {a:Int} {o:List Int} {p:List E} (h:gQ n k l q ⟨a,o,p⟩):1≤a∧a≤65∧o.length≤64∧p.length≤128000 ∧
  (a≤64→aD .add .i64 a 1=a+1∧(n.contains a=true→k.contains a=true→oL n k=true)∧(¬(n.contains a=true∧k.contains a=true)→∀ o' p',o' = (o ++ if n.contains a=true∨k.contains a=true then [a] else [])→p' = p ++ RB l q a→gQ n k l q ⟨a+1,o',p'⟩∧gM ⟨a+1,o',p'⟩ < gM ⟨a,o,p⟩))∧(¬a≤64→oL n k=false∧o=IM n k 64∧p=GH l q 64):=by
 obtain⟨h0,h1,h2,h3,h4⟩:=h;simp only at h0 h1 h2 h3 h4;have g1:=GY n k (a - 1).toNat;have g2:=Fi l q (a - 1).toNat;have g3:(a - 1).toNat * (l.length+q.length)≤64 * 2000:=Nat.mul_le_mul (by omega) (by omega);have ea:(((a - 1).toNat:Nat):Int)+1=a:=by omega
 have e2:(a+1 - 1).toNat=(a - 1).toNat+1:=by omega
 refine⟨h0,h1,by rw [h3];omega,by rw [h4];omega,fun c=>⟨by rw [aW,wr _ (by omega) (by omega)],fun c1 c2=>?_,fun c1 o' p' eo ep=>⟨⟨by simp only;omega,by simp only;omega,fun j hj=>?_,?_,?_⟩,by simp only [gM];omega⟩⟩,fun c=>⟨?_,?_,?_⟩⟩
 ·unfold oL;rw [List.any_eq_true];exact⟨(a - 1).toNat,List.mem_range.2 (by omega),by unfold Da;rw [ea,c1,c2];rfl⟩
 ·simp only at hj
  by_cases z:j=(a - 1).toNat
  ·rw [z];unfold Da;rw [ea,← Bool.not_eq_true,Bool.and_eq_true];exact c1
  ·exact h2 j (by omega)
 ·simp only;unfold IM at h3 ⊢;rw [e2,List.range_succ,List.flatMap_append,← h3,List.flatMap_cons,List.flatMap_nil,List.append_nil,eo,ea]
  congr 1
  unfold RD;rw [ea]
  by_cases z:n.contains a=true∨k.contains a=true
  ·rw [if_pos z,if_pos (by rw [Bool.or_eq_true];exact z)]
  ·rw [if_neg z,if_neg (by rw [Bool.or_eq_true];exact z)]
 ·simp only;unfold GH at h4 ⊢;rw [e2,List.range_succ,List.flatMap_append,← h4,List.flatMap_cons,List.flatMap_nil,List.append_nil,ep,ea]
 ·unfold oL;rw [← Bool.not_eq_true,List.any_eq_true];rintro⟨j,hj,g⟩;rw [h2 j (by have:=List.mem_range.1 hj;omega)] at g;cases g
 ·rw [h3,show a=65 by omega];rfl
 ·rw [h4,show a=65 by omega];rfl
theorem Wt {l q:List E} {a:Int} {p p1:List E} {i:Int} (hq:IS l (Am a) p ⟨i,p1⟩) (h:¬i < l.length) {j:Int} {p2:List E} (hq2:IS q (Am a) p1 ⟨j,p2⟩) (h2:¬j < q.length):p2=p ++ RB l q a:=by
 rw [Ei hq2 h2,Ei hq h,List.append_assoc];rfl
def Dv (n k:List Int):List Int:=if oL n k=true then [] else IM n k 64
def Al (n k:List Int) (l q:List E):List E:=if oL n k=true then [] else GH l q 64
structure Vg where
 g_c:List Int→List Int→Bool
 g_n:List Int→List Int→List Int
 g_l:List Int→List Int→List E→List E→List E
 aeR:List Int→List Int→List E→List E→Bool
def Vg.aa:Vg:=⟨fun n k=>!oL n k,Dv,Al,fun n k l q=>decide (n.length≤1000∧k.length≤1000∧l.length≤1000∧q.length≤1000)⟩
def oJ (F:Vg):aO:=fun xs h=>match xs,h with
 |[.agg [.sl none (.ints .i64 a_n),.sl none (.ae (.int .i64 (.int .i64 (.int .i64 (.int .i64 (.bool .nil))))) a_l)],.agg [.sl none (.ints .i64 d_n),.sl none (.ae (.int .i64 (.int .i64 (.int .i64 (.int .i64 (.bool .nil))))) d_l)]],[]=>some ⟨F.aeR a_n d_n a_l d_l=true,.cN [.agg [.sl none (.ints .i64 (F.g_n a_n d_n)),.sl none (.ae .bg (F.g_l a_n d_n a_l d_l))],B (F.g_c a_n d_n)],[],[Any,Any]⟩
 |_,_=>none
theorem lU:au Tryz.prog 80 (oJ Vg.aa):=by
 have hfs:=(ak.cons DR ak.nil rfl);refine aw hfs Tryz.func80 rfl rfl fun xs h p hp=>?_;unfold oJ at hp;split at hp
 ·rename_i a_n a_l d_n d_l;cases hp;refine⟨av rfl,fun hC _=>?_⟩;dsimp only at hC;intro b gv;have hk:a_n.length≤1000∧d_n.length≤1000∧a_l.length≤1000∧d_l.length≤1000:=of_decide_eq_true hC;obtain⟨hk1,hk2,hk3,hk4⟩:=hk;have hO0:oL a_n d_n=true→Dv a_n d_n=[]∧Al a_n d_n a_l d_l=[]:=fun h=>⟨if_pos h,if_pos h⟩;have hO1:oL a_n d_n=false→Dv a_n d_n=IM a_n d_n 64∧Al a_n d_n a_l d_l=GH a_l d_l 64:=fun h=>⟨if_neg (by rw [h];decide),if_neg (by rw [h];decide)⟩;generalize hF:Vg.aa=F,hG0:ViR.Vs.aa=G0 at hC hfs ⊢;refine bu fun Z zq A hA L hL=>?_
  repeat' (first|(apply al zq;try dsimp only)|apply aS zq (af hL)|apply aq zq|refine aT rfl ?_|apply ai|refine ah rfl ?_|refine aR rfl ?_|exact aA|apply aB|refine aP fun _=>?_|refine aQ fun _=>?_|(constructor;cbv))
  subst hL;refine aJ (aN hfs) (gQ a_n d_n a_l d_l) (gI a_n d_n a_l d_l) (gM) gR ⟨1,[],[]⟩ ?_ ?_ ?_
  ·exact⟨Int.le_refl 1,(by show (1:Int)≤65;decide),fun j hj=>by simp only at hj;omega,rfl,rfl⟩
  ·cbv
   repeat' (first|exact trivial|exact rfl|refine And.intro ?_ ?_)
  rintro⟨t,o,p⟩ hq O hO;have hst:=Zi hk3 hk4 hq;subst hA;generalize hA:Ar.aa=A;generalize hL:Lp _ _ _=L;refine az zq ?_
  repeat' (first|(apply al zq;try dsimp only)|apply aS zq (af hL)|apply aq zq|refine aT rfl ?_|apply ai|refine ah rfl ?_|refine aR rfl ?_|exact aA|apply aB|refine aP fun _=>?_|refine aQ fun _=>?_|(constructor;cbv))
  all_goals first|(show L _ _ _;skip)|(clear hL hfs zq Z hq;subst hA hF hG0 hO;simp only [Vg.aa,ViR.Vs.aa,Ar.aa] at * <;> grind [aj];done)
  ·rename_i hx1 hx2 hx3;have ht:t≤64∧¬(a_n.contains t=true∧d_n.contains t=true)∧(a_n.contains t=true∨d_n.contains t=true):=by
    clear hL hfs zq Z hq hO0 hO1 hst;subst hA hF hG0 hO;simp only [Vg.aa,ViR.Vs.aa,Ar.aa] at *
    grind [aj]
   clear hx1 hx2 hx3;obtain⟨s1,s2,s3,s4,s5,_⟩:=hst;obtain⟨t1,_,t3⟩:=s5 ht.1;have t4:=fun p' e=>t3 ht.2.1 (o ++ [t]) p' (by first|rw [if_pos ht.2.2]|rw [if_neg ht.2.2,List.append_nil]) e;clear s5 t3;subst hL;refine aJ (aN hfs) (IS a_l (Am t) p) (hI a_n d_n a_l d_l t (A.KC o [t])) (vn a_l) (hR 8) ⟨0,p⟩ ?_ ?_ ?_
   ·exact px _ _ _
   ·cbv
    repeat' (first|exact trivial|exact rfl|refine And.intro ?_ ?_)
   rintro⟨i,p1⟩ hq2 O2 hO2;have hst:=fun h=>pd (by omega) hq2 h;have hle:=tT (lS t) hq2;have k0:=hq2.1;have k1:=hq2.2.1;dsimp only at k0 k1 hst;have hin:Am t (a_l.getD i.toNat [])=if ri (a_l.getD i.toNat []) 0=t then [[D.int (ri (a_l.getD i.toNat []) 0),D.int (ri (a_l.getD i.toNat []) 1),D.int (ri (a_l.getD i.toNat []) 2),D.int (ri (a_l.getD i.toNat []) 3),D.bool (rb (a_l.getD i.toNat []) 4)]] else []:=rfl
   subst hA;generalize hA:Ar.aa=A;generalize hL:Lp _ _ _=L;refine az zq ?_
   repeat' (first|(apply al zq;try dsimp only)|apply aS zq (af hL)|apply aq zq|refine aT rfl ?_|apply ai|refine ah rfl ?_|refine aR rfl ?_|exact aA|apply aB|refine aP fun _=>?_|refine aQ fun _=>?_|(constructor;cbv))
   all_goals first|(show L _ _ _;skip)|(clear hL hfs zq Z hq hq2 hO0 hO1 t4;subst hA hF hG0 hO hO2;simp only [Vg.aa,Ar.aa] at * <;> grind [aj];done)
   rename_i hx;have hi:¬i < a_l.length:=by
    clear hL hfs zq Z hq hq2 hO0 hO1 hst t4;subst hA hF hG0 hO hO2;simp only [Vg.aa,Ar.aa] at *
    grind [aj]
   clear hx hst hin;subst hL;refine aJ (aN hfs) (IS d_l (Am t) p1) (iI a_n d_n a_l d_l t (A.KC o [t])) (vn d_l) (hR 9) ⟨0,p1⟩ ?_ ?_ ?_
   ·exact px _ _ _
   ·cbv
    repeat' (first|exact trivial|exact rfl|refine And.intro ?_ ?_)
   rintro⟨j,p2⟩ hq3 O3 hO3;have hst:=fun h=>pd (by omega) hq3 h;have hle2:=tT (lS t) hq3;have hnx:=fun h=>t4 p2 (Wt hq2 hi hq3 h);have j0:=hq3.1;have j1:=hq3.2.1;dsimp only at j0 j1 hst;have hin:Am t (d_l.getD j.toNat [])=if ri (d_l.getD j.toNat []) 0=t then [[D.int (ri (d_l.getD j.toNat []) 0),D.int (ri (d_l.getD j.toNat []) 1),D.int (ri (d_l.getD j.toNat []) 2),D.int (ri (d_l.getD j.toNat []) 3),D.bool (rb (d_l.getD j.toNat []) 4)]] else []:=rfl
   subst hA;generalize hA:Ar.aa=A;generalize hL:Lp _ _ _=L;refine az zq ?_
   repeat' (first|(apply al zq;try dsimp only)|apply aS zq (af hL)|apply aq zq|refine aT rfl ?_|apply ai|refine ah rfl ?_|refine aR rfl ?_|exact aA|apply aB|refine aP fun _=>?_|refine aQ fun _=>?_|(constructor;cbv))
   all_goals (clear hL hfs zq Z hq hq2 hq3 hO0 hO1 t4;subst hA hF hG0 hO hO2 hO3;simp only [Vg.aa,Ar.aa] at * <;> grind [aj];done)
  ·rename_i hx1 hx2 hx3;have ht:t≤64∧¬(a_n.contains t=true∧d_n.contains t=true)∧¬(a_n.contains t=true∨d_n.contains t=true):=by
    clear hL hfs zq Z hq hO0 hO1 hst;subst hA hF hG0 hO;simp only [Vg.aa,ViR.Vs.aa,Ar.aa] at *
    grind [aj]
   clear hx1 hx2 hx3;obtain⟨s1,s2,s3,s4,s5,_⟩:=hst;obtain⟨t1,_,t3⟩:=s5 ht.1;have t4:=fun p' e=>t3 ht.2.1 o p' (by first|rw [if_pos ht.2.2]|rw [if_neg ht.2.2,List.append_nil]) e;clear s5 t3;subst hL;refine aJ (aN hfs) (IS a_l (Am t) p) (hI a_n d_n a_l d_l t o) (vn a_l) (hR 8) ⟨0,p⟩ ?_ ?_ ?_
   ·exact px _ _ _
   ·cbv
    repeat' (first|exact trivial|exact rfl|refine And.intro ?_ ?_)
   rintro⟨i,p1⟩ hq2 O2 hO2;have hst:=fun h=>pd (by omega) hq2 h;have hle:=tT (lS t) hq2;have k0:=hq2.1;have k1:=hq2.2.1;dsimp only at k0 k1 hst;have hin:Am t (a_l.getD i.toNat [])=if ri (a_l.getD i.toNat []) 0=t then [[D.int (ri (a_l.getD i.toNat []) 0),D.int (ri (a_l.getD i.toNat []) 1),D.int (ri (a_l.getD i.toNat []) 2),D.int (ri (a_l.getD i.toNat []) 3),D.bool (rb (a_l.getD i.toNat []) 4)]] else []:=rfl
   subst hA;generalize hA:Ar.aa=A;generalize hL:Lp _ _ _=L;refine az zq ?_
   repeat' (first|(apply al zq;try dsimp only)|apply aS zq (af hL)|apply aq zq|refine aT rfl ?_|apply ai|refine ah rfl ?_|refine aR rfl ?_|exact aA|apply aB|refine aP fun _=>?_|refine aQ fun _=>?_|(constructor;cbv))
   all_goals first|(show L _ _ _;skip)|(clear hL hfs zq Z hq hq2 hO0 hO1 t4;subst hA hF hG0 hO hO2;simp only [Vg.aa,Ar.aa] at * <;> grind [aj];done)
   rename_i hx;have hi:¬i < a_l.length:=by
    clear hL hfs zq Z hq hq2 hO0 hO1 hst t4;subst hA hF hG0 hO hO2;simp only [Vg.aa,Ar.aa] at *
    grind [aj]
   clear hx hst hin;subst hL;refine aJ (aN hfs) (IS d_l (Am t) p1) (iI a_n d_n a_l d_l t o) (vn d_l) (hR 9) ⟨0,p1⟩ ?_ ?_ ?_
   ·exact px _ _ _
   ·cbv
    repeat' (first|exact trivial|exact rfl|refine And.intro ?_ ?_)
   rintro⟨j,p2⟩ hq3 O3 hO3;have hst:=fun h=>pd (by omega) hq3 h;have hle2:=tT (lS t) hq3;have hnx:=fun h=>t4 p2 (Wt hq2 hi hq3 h);have j0:=hq3.1;have j1:=hq3.2.1;dsimp only at j0 j1 hst;have hin:Am t (d_l.getD j.toNat [])=if ri (d_l.getD j.toNat []) 0=t then [[D.int (ri (d_l.getD j.toNat []) 0),D.int (ri (d_l.getD j.toNat []) 1),D.int (ri (d_l.getD j.toNat []) 2),D.int (ri (d_l.getD j.toNat []) 3),D.bool (rb (d_l.getD j.toNat []) 4)]] else []:=rfl
   subst hA;generalize hA:Ar.aa=A;generalize hL:Lp _ _ _=L;refine az zq ?_
   repeat' (first|(apply al zq;try dsimp only)|apply aS zq (af hL)|apply aq zq|refine aT rfl ?_|apply ai|refine ah rfl ?_|refine aR rfl ?_|exact aA|apply aB|refine aP fun _=>?_|refine aQ fun _=>?_|(constructor;cbv))
   all_goals (clear hL hfs zq Z hq hq2 hq3 hO0 hO1 t4;subst hA hF hG0 hO hO2 hO3;simp only [Vg.aa,Ar.aa] at * <;> grind [aj];done)
 ·cases hp
end Go.Proofs.YtelhldgdnlppfaaGreat.ViM
namespace Go.Proofs.YtelhldgdnlppfaaGreat.MgT
open Go Ry ViR ViC ViS ViL ViT ViM MgR
theorem DH {α:Type} {R:α→α→Prop} (asym:∀ x y,R x y→R y x→False):∀ {p q:List α},p.Pairwise R→q.Pairwise R→(∀ x,x∈p↔x∈q)→p=q
 |[],[],_,_,_=>rfl
 |[],y :: q,_,_,h=>absurd ((h y).2 (List.mem_cons_self ..)) List.not_mem_nil
 |x :: p,[],_,_,h=>absurd ((h x).1 (List.mem_cons_self ..)) List.not_mem_nil
 |x :: p,y :: q,hp,hq,h=>by
  obtain⟨p1,p2⟩:=List.pairwise_cons.1 hp;obtain⟨q1,q2⟩:=List.pairwise_cons.1 hq;have e:x=y:=by
   rcases List.mem_cons.1 ((h x).1 (List.mem_cons_self ..)) with e|hx
   ·exact e
   ·rcases List.mem_cons.1 ((h y).2 (List.mem_cons_self ..)) with e|hy
    ·exact e.symm
    ·exact (asym _ _ (p1 y hy) (q1 x hx)).elim
  subst e
  congr 1
  refine DH asym p2 q2 fun z=>⟨fun hz=>?_,fun hz=>?_⟩
  ·rcases List.mem_cons.1 ((h z).1 (List.mem_cons_of_mem _ hz)) with e|hz'
   ·rw [e] at hz;exact (asym _ _ (p1 x hz) (p1 x hz)).elim
   ·exact hz'
  ·rcases List.mem_cons.1 ((h z).2 (List.mem_cons_of_mem _ hz)) with e|hz'
   ·rw [e] at hz;exact (asym _ _ (q1 x hz) (q1 x hz)).elim
   ·exact hz'
theorem Rr (x y:Int) (h:x < y) (g:y < x):False:=by omega
theorem rZ {t:Int}:bG t=true↔1≤t∧t≤64:=by unfold bG;rw [decide_eq_true_eq]
theorem zU {n:List Int} (h:dM n=true):n.Pairwise (· < ·):=by
 rw [List.pairwise_iff_getElem];intro i j hi hj hij;have:=rT h j i hij hj;rw [dR n _ hi,dR n _ hj] at this;exact this
theorem jj {n:List Int} (h:dM n=true) {t:Int} (ht:t∈n):1≤t∧t≤64:=rZ.1 (xw h t (List.contains_iff_mem.2 ht))
theorem Gv {n:List Int} (h:n.Pairwise (· < ·)) (g:∀ t∈n,1≤t∧t≤64):dM n=true:=by
 rw [tg];intro i hi;rw [List.pairwise_iff_getElem] at h;refine⟨?_,fun h0=>?_⟩
 ·rw [dR n _ hi];exact rZ.2 (g _ (List.getElem_mem hi))
 ·rw [dR n _ hi,dR n _ (show i - 1 < n.length by omega)];exact h (i - 1) i (by omega) hi (by omega)
theorem Ii {n k:List Int}:eH n k=true↔∃ x,x∈n∧x∈k:=by
 unfold eH;rw [List.any_eq_true];simp only [List.contains_iff_mem]
theorem EF {n k:List Int}:eH n k=false↔∀ x,x∈n→x∈k→False:=by
 rw [← Bool.not_eq_true,Ii];exact⟨fun h x a b=>h ⟨x,a,b⟩,fun h ⟨x,a,b⟩=>h x a b⟩
theorem OO {n k:List Int} (hn:dM n=true):eH n k=oL n k:=by
 rw [Bool.eq_iff_iff,Ii];unfold oL;rw [List.any_eq_true];unfold Da;simp only [Bool.and_eq_true,List.contains_iff_mem];constructor
 ·rintro⟨x,a,b⟩;obtain⟨h1,h2⟩:=jj hn a;refine⟨(x - 1).toNat,List.mem_range.2 (by omega),?_⟩;rw [show (((x - 1).toNat:Nat):Int)+1=x by omega];exact⟨a,b⟩
 ·rintro⟨j,_,a,b⟩;exact⟨_,a,b⟩
theorem yb (n k:List Int) (x:Int):x∈SoI.fR (n ++ k)↔x∈n∨x∈k:=by
 rw [(SoI.cM (n ++ k)).2.1.mem_iff,List.mem_append]
theorem Pg {n k:List Int} (hn:dM n=true) (hk:dM k=true) (h:eH n k=false):(SoI.fR (n ++ k)).Pairwise (· < ·):=by
 obtain⟨_,hp,hs⟩:=SoI.cM (n ++ k);have nd:(n ++ k).Pairwise (·≠·):=by
  rw [List.pairwise_append];refine⟨(zU hn).imp fun {a b} g=>by omega,(zU hk).imp fun {a b} g=>by omega,fun a ha b hb e=>?_⟩;subst e;exact EF.1 h a ha hb
 have nd2:(SoI.fR (n ++ k)).Pairwise (·≠·):=(hp.pairwise_iff fun {x y} g=>g.symm).2 nd;exact (hs.and nd2).imp fun {a b} g=>by omega
theorem Sx {n k:List Int} (hn:dM n=true) (hk:dM k=true) (x:Int):x∈IM n k 64↔x∈n∨x∈k:=by
 unfold IM;rw [List.mem_flatMap];unfold RD;constructor
 ·rintro⟨j,_,g⟩;split at g
  ·rename_i c;rw [List.mem_singleton] at g;subst g;rw [Bool.or_eq_true,List.contains_iff_mem,List.contains_iff_mem] at c;exact c
  ·cases g
 ·intro g;have hx:1≤x∧x≤64:=g.elim (jj hn) (jj hk);refine⟨(x - 1).toNat,List.mem_range.2 (by omega),?_⟩;rw [show (((x - 1).toNat:Nat):Int)+1=x by omega,if_pos (by rw [Bool.or_eq_true,List.contains_iff_mem,List.contains_iff_mem];exact g)];exact List.mem_singleton.2 rfl
theorem AB (t:Nat):(List.range t).Pairwise (· < ·):=List.pairwise_lt_range
theorem Zr (n k:List Int) (t:Nat):(IM n k t).Pairwise (· < ·):=by
 unfold IM;rw [List.pairwise_flatMap];refine⟨fun j _=>by split <;> simp,(AB t).imp fun {a b} h x hx y hy=>?_⟩;split at hx
 ·split at hy
  ·rw [List.mem_singleton] at hx hy;omega
  ·cases hy
 ·cases hx
theorem MY {n k:List Int} (hn:dM n=true) (hk:dM k=true) (h:eH n k=false):SoI.fR (n ++ k)=IM n k 64 :=
 DH Rr (Pg hn hk h) (Zr n k 64) fun x=>by rw [yb,Sx hn hk]
theorem PM {n:List Int} {l:List E} (hn:dM n=true) (hp:l.Pairwise ln) (g:∀ y∈l,JY y=true∧n.contains (ri y 0)=true):aX n l=true:=by
 unfold aX;rw [Bool.and_eq_true];refine⟨hn,gK.2 fun i hi=>?_⟩;rw [List.pairwise_iff_getElem] at hp;unfold okL;rw [decide_eq_true_eq];have:=g _ (List.getElem_mem hi);rw [fF l _ hi];refine⟨this.1,this.2,fun h0=>?_⟩;rw [fF l _ (show i - 1 < l.length by omega)];exact (qV _ _ _ _).2 (hp (i - 1) i (by omega) hi (by omega))
theorem cw {n:List Int} {l:List E} (h:aX n l=true) {y:E} (hy:y∈l):JY y=true∧ri y 0∈n:=by
 obtain⟨i,hi,rfl⟩:=List.getElem_of_mem hy;have:=MK h i hi;rw [fF l _ hi] at this;exact⟨this.1,List.contains_iff_mem.1 this.2.1⟩
def ZX (x y:E):Prop:=¬(ri x 0=ri y 0∧ri x 1=ri y 1)
theorem AD {n k:List Int} {l q:List E} (h1:aX n l=true) (h2:aX k q=true) (hc:eH n k=false):(l ++ q).Pairwise ZX:=by
 rw [List.pairwise_append];refine⟨(lA h1).imp fun {a b} g=>by unfold ln at g;unfold ZX;omega,(lA h2).imp fun {a b} g=>by unfold ln at g;unfold ZX;omega,fun a ha b hb e=>?_⟩;have:=(cw h2 hb).2;rw [← e.1] at this;exact EF.1 hc _ (cw h1 ha).2 this
theorem oS (l:List E) (y:E):y∈SoK.kM l↔y∈l:=(SoK.fg l).2.1.mem_iff
theorem Il {l:List E} (h:l.Pairwise ZX):(SoK.kM l).Pairwise ln:=by
 obtain⟨_,hp,hs⟩:=SoK.fg l;have k2:(SoK.kM l).Pairwise ZX:=(hp.pairwise_iff fun {x y} g=>by unfold ZX at *;omega).2 h;exact (hs.and k2).imp fun {a b} g=>by
  obtain⟨g1,g2⟩:=g;unfold ZX at g2;unfold ln;omega
theorem Zb {n k:List Int} {l q:List E} (h1:aX n l=true) (h2:aX k q=true) (hc:eH n k=false):aX (SoI.fR (n ++ k)) (SoK.kM (l ++ q))=true:=by
 refine PM (Gv (Pg (oR h1) (oR h2) hc) fun t ht=>?_) (Il (AD h1 h2 hc)) fun y hy=>?_
 ·rcases (yb n k t).1 ht with g|g
  ·exact jj (oR h1) g
  ·exact jj (oR h2) g
 ·rw [List.contains_iff_mem,yb];rcases List.mem_append.1 ((oS _ _).1 hy) with g|g
  ·exact⟨(cw h1 g).1,.inl (cw h1 g).2⟩
  ·exact⟨(cw h2 g).1,.inr (cw h2 g).2⟩
def lnK (x y:Int × Int × Int × Int × Bool):Prop:=x.1 < y.1∨x.1=y.1∧x.2.1 < y.2.1
theorem PO (x y:Int × Int × Int × Int × Bool) (h:lnK x y) (g:lnK y x):False:=by unfold lnK at *;omega
theorem QK (y:E):kT (e5 y)=kT y:=rfl
theorem eF {a:Int} {y t:E}:t∈Am a y↔ri y 0=a∧t=e5 y:=by
 unfold Am;split
 ·rename_i h;rw [List.mem_singleton];exact⟨fun e=>⟨h,e⟩,fun e=>e.2⟩
 ·rename_i h;exact⟨fun e=>absurd e List.not_mem_nil,fun e=>absurd e.1 h⟩
theorem Ac {l q:List E} (h1:∀ y∈l,1≤ri y 0∧ri y 0≤64) (h2:∀ y∈q,1≤ri y 0∧ri y 0≤64) (t:E):t∈GH l q 64↔∃ y,(y∈l∨y∈q)∧t=e5 y:=by
 unfold GH;rw [List.mem_flatMap];unfold RB;constructor
 ·rintro⟨j,_,g⟩;rw [List.mem_append,List.mem_flatMap,List.mem_flatMap] at g;rcases g with ⟨y,hy,g⟩ | ⟨y,hy,g⟩
  ·exact⟨y,.inl hy,(eF.1 g).2⟩
  ·exact⟨y,.inr hy,(eF.1 g).2⟩
 ·rintro⟨y,hy,rfl⟩;have hb:1≤ri y 0∧ri y 0≤64:=hy.elim (h1 y) (h2 y);refine⟨(ri y 0 - 1).toNat,List.mem_range.2 (by omega),?_⟩;rw [show (((ri y 0 - 1).toNat:Nat):Int)+1=ri y 0 by omega,List.mem_append,List.mem_flatMap,List.mem_flatMap];rcases hy with g|g
  ·exact .inl ⟨y,g,eF.2 ⟨rfl,rfl⟩⟩
  ·exact .inr ⟨y,g,eF.2 ⟨rfl,rfl⟩⟩
theorem UZ {a:Int} {l:List E} (h:l.Pairwise ln):(l.flatMap (Am a)).Pairwise fun x y=>lnK (kT x) (kT y):=by
 rw [List.pairwise_flatMap];refine⟨fun y _=>by unfold Am;split <;> simp,h.imp fun {x y} g s hs t ht=>?_⟩;rw [(eF.1 hs).2,(eF.1 ht).2,QK,QK];exact g
theorem Yj {n k:List Int} {l q:List E} (h1:aX n l=true) (h2:aX k q=true) (hc:eH n k=false) (t:Nat):(GH l q t).Pairwise fun x y=>lnK (kT x) (kT y):=by
 unfold GH;rw [List.pairwise_flatMap];have own:∀ {a:Int} {x:E},x∈RB l q a→(kT x).1=a:=fun {a x} hx=>by
  unfold RB at hx;rw [List.mem_append,List.mem_flatMap,List.mem_flatMap] at hx;rcases hx with ⟨y,_,g⟩ | ⟨y,_,g⟩
  ·rw [(eF.1 g).2];exact (eF.1 g).1
  ·rw [(eF.1 g).2];exact (eF.1 g).1
 refine⟨fun j _=>?_,(AB t).imp fun {a b} h x hx y hy=>.inl (by rw [own hx,own hy];omega)⟩;unfold RB;rw [List.pairwise_append];refine⟨UZ (lA h1),UZ (lA h2),fun x hx y hy=>?_⟩;obtain⟨x',hx',gx⟩:=List.mem_flatMap.1 hx;obtain⟨y',hy',gy⟩:=List.mem_flatMap.1 hy;have a1:=(cw h1 hx').2;have a2:=(cw h2 hy').2;rw [(eF.1 gx).1] at a1;rw [(eF.1 gy).1] at a2;exact (EF.1 hc _ a1 a2).elim
theorem qS {y:E} (h:JY y=true):1≤ri y 0∧ri y 0≤64:=by
 unfold JY QF at h;rw [decide_eq_true_eq] at h;exact rZ.1 h.1
theorem OG {n k:List Int} {l q:List E} (h1:aX n l=true) (h2:aX k q=true) (hc:eH n k=false):kg (SoK.kM (l ++ q)) (GH l q 64)=true:=by
 unfold kg;rw [decide_eq_true_eq];refine DH PO ?_ ?_ fun t=>?_
 ·rw [List.pairwise_map];exact Il (AD h1 h2 hc)
 ·rw [List.pairwise_map];exact Yj h1 h2 hc 64
 ·rw [List.mem_map,List.mem_map];constructor
  ·rintro⟨y,hy,rfl⟩;refine⟨e5 y,(Ac (fun y g=>qS (cw h1 g).1) (fun y g=>qS (cw h2 g).1) _).2 ⟨y,?_,rfl⟩,QK y⟩;exact List.mem_append.1 ((oS _ _).1 hy)
  ·rintro⟨y,hy,rfl⟩;obtain⟨z,hz,rfl⟩:=(Ac (fun y g=>qS (cw h1 g).1) (fun y g=>qS (cw h2 g).1) _).1 hy;exact⟨z,(oS _ _).2 (List.mem_append.2 hz),QK z⟩
theorem Ow {n k:List Int} {l q:List E}:rO n l k q=true↔aX n l=true∧aX k q=true∧eH n k=false:=by
 unfold rO;rw [Bool.and_eq_true,Bool.and_eq_true,Bool.not_eq_true',and_assoc]
theorem HF {n k:List Int} {l q:List E} (h1:aX n l=true) (h2:aX k q=true):dV (oO n l k q) (nY n l k q) (Dv n k) (Al n k l q)=true∧oo n l k q=(if oL n k=true then 11 else 0):=by
 have hc:=OO (k:=k) (oR h1);refine⟨?_,?_⟩
 ·unfold dV oO nY Dv Al;rw [← hc];cases h:eH n k with
  |true =>
   have ho:¬rO n l k q=true:=fun g=>by rw [(Ow.1 g).2.2] at h;cases h
   rw [if_neg ho,if_neg ho,if_pos rfl,if_pos rfl];rfl
  |false =>
   have ho:rO n l k q=true:=Ow.2 ⟨h1,h2,h⟩;rw [if_pos ho,if_pos ho,if_neg (by decide),if_neg (by decide),Bool.and_eq_true];exact⟨decide_eq_true (MY (oR h1) (oR h2) h),OG h1 h2 h⟩
 ·unfold oo;rw [h1,h2,hc];rfl
theorem ZQ (n k:List Int) (l q:List E):(oO n l k q).length≤n.length+k.length∧(nY n l k q).length≤l.length+q.length:=by
 unfold oO nY;split
 ·rw [(SoI.cM _).1,(SoK.fg _).1,List.length_append,List.length_append];exact⟨Nat.le_refl _,Nat.le_refl _⟩
 ·exact⟨Nat.zero_le _,Nat.zero_le _⟩
theorem TT {n k:List Int} {l q:List E} (h1:aX n l=true) (h2:aX k q=true):(Dv n k).length≤n.length+k.length∧(Al n k l q).length≤l.length+q.length:=by
 obtain⟨h,_⟩:=HF h1 h2;unfold dV gE kg at h;rw [Bool.and_eq_true,decide_eq_true_eq,decide_eq_true_eq] at h;have e:=congrArg List.length h.2;rw [List.length_map,List.length_map] at e;rw [← h.1,← e];exact ZQ n k l q
theorem agv {n k:List Int} {l q:List E}:oo n l k q=0↔rO n l k q=true:=by
 unfold oo rO;cases aX n l <;> cases aX k q <;> cases eH n k <;> simp
end Go.Proofs.YtelhldgdnlppfaaGreat.MgT
