/-
  edges in order,whatever the order was. No condition.
-/
import Derived.Test.YtelhldgdnlppfaaGreatVsRyOp
import Derived.Test.YtelhldgdnlppfaaGreatVsJoW
import Derived.Test.YtelhldgdnlppfaaGreatVsEgR
set_option maxHeartbeats 4000000
set_option maxRecDepth 100000
namespace Go.Proofs.YtelhldgdnlppfaaGreat.Ry
open Go
def uJ (c1 c2:aO):aO:=fun xs h=>match c1 xs h with
 |some p=>some p
 |none=>c2 xs h
theorem AA {f:FuncId} {c1 c2:aO} (h1:au Tryz.prog f c1) (h2:au Tryz.prog f c2):au Tryz.prog f (uJ c1 c2):=by
 refine⟨h1.1,fun args h p hc=>?_⟩;unfold uJ at hc;split at hc
 ·rename_i q hq;cases hc;exact h1.2 args h _ hq
 ·exact h2.2 args h p hc
end Go.Proofs.YtelhldgdnlppfaaGreat.Ry
namespace Go.Proofs.YtelhldgdnlppfaaGreat.JoN
open Go Ry JoS JoR JoW
def vN (n:Int):Bool:=decide (0≤n∧n≤4096)
def CF (v:Int→Int) (n i:Int):List Int:=(List.range (n+1).toNat).map fun j:Nat=>if (j:Int) < i then v j else 0
theorem KV (v:Int→Int) (n i:Int) (h0:0≤i) (_:i≤n):(CF v n i).set i.toNat (v i)=CF v n (i+1):=by
 apply List.ext_getElem
 ·simp [CF]
 ·intro k h1 h2;simp only [CF,List.getElem_set,List.getElem_map,List.getElem_range]
  by_cases hk:i.toNat=k
  ·have e:(k:Int)=i:=by omega
   have l:(k:Int) < i+1:=by omega
   rw [if_pos hk,if_pos l,e]
  ·rw [if_neg hk]
   by_cases hl:(k:Int) < i
   ·rw [if_pos hl,if_pos (by omega)]
   ·rw [if_neg hl,if_neg (by omega)]
theorem xZ (v:Int→Int) (n:Int) (h0:0≤n) (h:n≤4096):List.replicate (aD .add .i64 n 1).toNat 0=CF v n 0:=by
 rw [aW,wr _ (by omega) (by omega)];apply List.ext_getElem
 ·simp [CF]
 ·intro k h1 h2;simp only [CF,List.getElem_replicate,List.getElem_map,List.getElem_range];rw [if_neg (by omega)]
theorem DY (v:Int→Int) (n i:Int):(CF v n i).length=(n+1).toNat:=by simp [CF]
theorem OP (v:Int→Int) (n:Int):CF v n (n+1)=(List.range (n+1).toNat).map fun j:Nat=>v j:=by
 unfold CF;apply List.map_congr_left;intro j hj;have:=List.mem_range.1 hj;rw [if_pos (by omega)]
theorem SZ (n:Int):CF id n (n+1)=iota n:=OP id n
theorem SN (n:Int):CF (fun _=>1) n (n+1)=mq n:=by
 rw [OP];unfold mq;apply List.ext_getElem
 ·simp
 ·intro k h1 h2;simp
structure XN where
 i:Int
 u:List Int
 z:List Int
def nwQ (n:Int) (y:XN):Prop:=0≤y.i∧y.i≤n+1∧y.u=CF id n y.i∧y.z=CF (fun _=>1) n y.i
noncomputable def nwI (A:Ar) (n:Int) (y:XN):St:=br Tryz.f213.ntmps [(4,.ptr 1 0),(25,.ay (A.fT (A.yI (A.bin .add .i64 n 1)))),(26,.ay y.i)] [(1,.cells 256 [.own 2,.own 3,.ay n]),(2,.row 3 (.ints .i64 y.u)),(3,.row 3 (.ints .i64 y.z))] [Any]
def nwM (n:Int) (y:XN):Nat:=(n+1 - y.i).toNat
def nwR (st:St):XN:=⟨bw st 26,DL st.heap (fb st 4 0),DL st.heap (fb st 4 1)⟩
structure Ns where
 n_v:Int→Bool
 acn:Int→List Int
 acV:Int→List Int
 f:Fs
def Ns.aa:Ns:=⟨vN,iota,mq,Fs.aa⟩
def tM (F:Ns):aO:=fun xs h=>match xs,h with
 |[.one (.val (.int .i64 n))],[]=>some ⟨F.n_v n=true,.cN [.one (.ptr 0 0),I 0],[(0,.cells 256 [.own 1,.own 2,.ay n]),(1,.row 3 (.ints .i64 (F.acn n))),(2,.row 3 (.ints .i64 (F.acV n)))],[Any]⟩
 |_,_=>none
theorem tc:au Tryz.prog 213 (tM Ns.aa):=by
 have hfs:=ak.nil;refine aw hfs Tryz.func213 rfl rfl fun xs h p hp=>?_;unfold tM at hp;split at hp
 ·rename_i n;cases hp;refine⟨av rfl,fun hC _=>?_⟩;dsimp only at hC;intro b gv;have hk:=of_decide_eq_true (show vN n=true from hC);generalize hF:Ns.aa=F at hC hfs ⊢;refine bu fun Z zq A hA L hL=>?_
  repeat' (first|(apply al zq;try dsimp only)|apply aS zq (af hL)|apply aq zq|refine aT rfl ?_|apply ai|refine ah rfl ?_|refine aR rfl ?_|exact aA|apply aB|refine aP fun _=>?_|refine aQ fun _=>?_|(constructor;cbv))
  all_goals first|(show L _ _ _;skip)|(clear hfs hL zq Z;subst hF hA;simp only [Ar.aa] at * <;> grind [aj,aW,wr])
  rename_i hx;clear hx;subst hL;refine aJ (aN hfs) (nwQ n) (nwI A n) (nwM n) nwR ⟨0,A.yI (A.bin .add .i64 n 1),A.yI (A.bin .add .i64 n 1)⟩ ?_ ?_ ?_
  ·subst hA;exact⟨Int.le_refl 0,show (0:Int)≤n+1 by omega,xZ _ n hk.1 hk.2,xZ _ n hk.1 hk.2⟩
  ·cbv
   repeat' (first|exact trivial|exact rfl|refine And.intro ?_ ?_)
  rintro⟨i,u,z⟩ ⟨q0,q1,q2,q3⟩ O hO;dsimp only at q0 q1 q2 q3;have g1:i≤n→u.set i.toNat i=CF id n (i+1):=fun h=>by rw [q2];exact KV id n i q0 h
  have g2:i≤n→z.set i.toNat 1=CF (fun _=>1) n (i+1):=fun h=>by rw [q3];exact KV (fun _=>1) n i q0 h
  have l1:u.length=(n+1).toNat:=by rw [q2];exact DY _ _ _
  have l2:z.length=(n+1).toNat:=by rw [q3];exact DY _ _ _
  have e1:i=n+1→u=iota n∧z=mq n:=fun h=>by rw [q2,q3,h];exact⟨SZ n,SN n⟩
  have hlen:(List.replicate (aD .add .i64 n 1).toNat (0:Int)).length=(n+1).toNat:=by rw [xZ id n hk.1 hk.2];exact DY _ _ _
  subst hA;generalize hA:Ar.aa=A;generalize hL:Lp _ _ _=L;refine az zq ?_
  repeat' (first|(apply al zq;try dsimp only)|apply aS zq (af hL)|apply aq zq|refine aT rfl ?_|apply ai|refine ah rfl ?_|refine aR rfl ?_|exact aA|apply aB|refine aP fun _=>?_|refine aQ fun _=>?_|(constructor;cbv))
  all_goals (clear hL hfs zq Z;subst hA hF hO;simp only [Ns.aa,Ar.aa] at * <;> grind [aj,aW,wr,nwQ,nwM])
 ·cases hp
end Go.Proofs.YtelhldgdnlppfaaGreat.JoN
namespace Go.Proofs.YtelhldgdnlppfaaGreat.SpR
open Go Ry Go.Proofs.YtelhldgdnlppfaaGreat.So JoS JoR JoW JoN EgR
structure JT where
 s:Int
 u:List Int
 z:List Int
def j0:JT:=⟨64,iota 64,mq 64⟩
def jF (J:JT) (y:E):JT:=⟨Pq J.u J.s (ri y 0) (ri y 1),QG J.u (ri y 0) (ri y 1),Ov J.u J.z (ri y 0) (ri y 1)⟩
def jJ (l:List E):JT:=l.foldl jF j0
def KQ (W:List Int) (J:JT):Prop:=W.length=65∧PR W J.s J.u J.z
theorem HN:KQ (iota 64) j0:=⟨by decide,AQ 64 (by omega)⟩
theorem Nz {W:List Int} {J:JT} (h:KQ W J) (y:E):KQ (oK W (ri y 0) (ri y 1)) (jF J y):=⟨by rw [Ty];exact h.1,(um h.2 (by rw [h.1];omega) _ _).1⟩
theorem UF {W:List Int} {J:JT} (h:KQ W J):Rc J.u J.z=true:=by
 have h1:=abE h.2.up h.2.ok (by rw [h.1];omega);unfold Rc;rw [h1,h.2.zl,h.2.up.len];simp
theorem FN:∀ (l:List E) {W:List Int} {J:JT},KQ W J→∃ W',KQ W' (l.foldl jF J)
 |[],W,_,h=>⟨W,h⟩
 |y :: l,_,_,h=>FN l (Nz h y)
theorem acq (l:List E):∃ W,KQ W (jJ l):=FN l HN
def vk:JT→List E→Bool
 |_,[]=>true
 |J,y :: l=>if Ak J.u (ri y 0) (ri y 1)=true then vk (jF J y) l else false
def gw (l:List E):Bool:=decide (kS l=0) && vk j0 l
structure XS where
 i:Int
 J:JT
def sjQ (l:List E) (y:XS):Prop:=0≤y.i∧y.i≤l.length∧y.J=jJ (l.take y.i.toNat)
def sjM (l:List E) (y:XS):Nat:=l.length - y.i.toNat
noncomputable def sjI (A:Ar) (l:List E) (y:XS):St:=br Tryz.f199.ntmps [(0,.sl none (.ae .pY l)),(3,.ptr 1 0),(11,.sl none (.ae .pY l)),(12,.ay (A.dN l)),(13,.ay y.i)] [(1,.cells 256 [.own 2,.own 3,.ay y.J.s]),(2,.row 3 (.ints .i64 y.J.u)),(3,.row 3 (.ints .i64 y.J.z))] [Any]
def sjR (st:St):XS:=⟨bw st 13,⟨qm (fb st 3 2),DL st.heap (fb st 3 0),DL st.heap (fb st 3 1)⟩⟩
theorem SJ (l:List E):sjQ l ⟨0,⟨64,iota 64,mq 64⟩⟩:=⟨Int.le_refl 0,Int.natCast_nonneg _,rfl⟩
theorem Tu (l:List E) (i s:Int) (u z:List Int) (hq:sjQ l ⟨i,⟨s,u,z⟩⟩) (h:i < l.length) (hl:l.length≤1000000) :
  aD .add .i64 i 1=i+1∧Rc u z=true∧sjQ l ⟨i+1,⟨Pq u s (ri (l.getD i.toNat []) 0) (ri (l.getD i.toNat []) 1),QG u (ri (l.getD i.toNat []) 0) (ri (l.getD i.toNat []) 1),Ov u z (ri (l.getD i.toNat []) 0) (ri (l.getD i.toNat []) 1)⟩⟩:=by
 obtain⟨h0,h1,h2⟩:=hq;simp only at h0 h1 h2;obtain⟨W,hW⟩:=acq (l.take i.toNat);have hz:=UF hW;rw [← h2] at hz;refine⟨by rw [aW,wr _ (by omega) (by omega)],hz,by simp only;omega,by simp only;omega,?_⟩;simp only;rw [cC l i h0 h];unfold jJ at h2 ⊢;rw [List.foldl_append,← h2];rfl
theorem aaJ (l:List E) (i s:Int) (u z:List Int) (hq:sjQ l ⟨i,⟨s,u,z⟩⟩) (h:¬i < l.length):s=(jJ l).s∧u=(jJ l).u∧z=(jJ l).z:=by
 obtain⟨h0,h1,h2⟩:=hq;simp only at h0 h1 h2;have e:i=l.length:=by omega
 rw [e,Int.toNat_natCast,List.take_length] at h2;rw [← h2];exact⟨rfl,rfl,rfl⟩
def foQ (l:List E) (y:XS):Prop:=0≤y.i∧y.i≤l.length∧(∃ W,KQ W y.J)∧vk j0 l=vk y.J (l.drop y.i.toNat)
def NF (l:List E) (y:XS):Nat:=l.length - y.i.toNat
noncomputable def foI (A:Ar) (l:List E) (y:XS):St:=br Tryz.f153.ntmps [(0,.sl none (.ae .pY l)),(3,.fn 200 1),(10,.sl none (.ae .pY l)),(11,.ay (A.dN l)),(12,.ay y.i)] [(1,.cells 239 [.ptr 2 0]),(2,.cells 256 [.own 3,.own 4,.ay y.J.s]),(3,.row 3 (.ints .i64 y.J.u)),(4,.row 3 (.ints .i64 y.J.z))] [Any]
def nmC:SC→Nat
 |.ptr n _ | .fn _ n | .own n=>n
 |_=>0
def FQ (h:H) (n j:Nat):SC:=match ar h n with
 |some (.cells _ cs)=>cs.getD j .any
 |_=>.any
def foR (st:St):XS:=let n:=nmC (FQ st.heap (nmC (fW st 3)) 0);⟨bw st 12,⟨qm (FQ st.heap n 2),DL st.heap (FQ st.heap n 0),DL st.heap (FQ st.heap n 1)⟩⟩
theorem To (l:List E):foQ l ⟨0,⟨64,iota 64,mq 64⟩⟩:=⟨Int.le_refl 0,Int.natCast_nonneg _,⟨_,HN⟩,rfl⟩
theorem SU (l:List E) (i s:Int) (u z:List Int) (hq:foQ l ⟨i,⟨s,u,z⟩⟩) (h:i < l.length) (hl:l.length≤1000000) :
  aD .add .i64 i 1=i+1∧Rc u z=true∧(Ak u (ri (l.getD i.toNat []) 0) (ri (l.getD i.toNat []) 1)=true→foQ l ⟨i+1,⟨Pq u s (ri (l.getD i.toNat []) 0) (ri (l.getD i.toNat []) 1),QG u (ri (l.getD i.toNat []) 0) (ri (l.getD i.toNat []) 1),Ov u z (ri (l.getD i.toNat []) 0) (ri (l.getD i.toNat []) 1)⟩⟩) ∧
  (Ak u (ri (l.getD i.toNat []) 0) (ri (l.getD i.toNat []) 1)=false→vk j0 l=false):=by
 obtain⟨h0,h1,⟨W,h2⟩,h3⟩:=hq;simp only at h0 h1 h2 h3;have hi:i.toNat < l.length:=by omega
 have e:(i+1).toNat=i.toNat+1:=by omega
 have eg:l.getD i.toNat []=l[i.toNat]:=by rw [List.getD_eq_getElem?_getD,List.getElem?_eq_getElem hi];rfl
 rw [List.drop_eq_getElem_cons hi,← eg] at h3;refine⟨by rw [aW,wr _ (by omega) (by omega)],UF h2,fun g=>⟨by simp only;omega,by simp only;omega,⟨_,Nz h2 (l.getD i.toNat [])⟩,?_⟩,fun g=>?_⟩
 ·rw [h3];simp only [vk];rw [if_pos g,e];rfl
 ·rw [h3];simp only [vk];rw [g];rfl
theorem YZ (l:List E) (i s:Int) (u z:List Int) (hq:foQ l ⟨i,⟨s,u,z⟩⟩) (h:¬i < l.length):vk j0 l=true:=by
 obtain⟨h0,h1,h2,h3⟩:=hq;simp only at h0 h1 h2 h3;rw [h3,List.drop_eq_nil_of_le (by omega)];rfl
def Wa (u:List Int) (a d:Int):Bool:=decide (¬kO u a=0∧kO u a=kO (mn u a) d)
def abM (u:List Int) (a d:Int):List Int:=if kO u a=0 then mn u a else mn (mn u a) d
def lkB (l:List E) (a b:Int):Bool:=decide (kS l=0) && Wa (jJ l).u a b
def wtF (n:Int) (y:E):Int:=aD .add .i64 n (ri y 2)
def wtL (l:List E):Int:=l.foldl wtF 0
def wtB (l:List E):Int:=if kS l=0 then wtL l else 0
structure XW where
 i:Int
 n:Int
def lsF:JT→List E→List E
 |_,[]=>[]
 |J,y :: l=>if Ak J.u (ri y 0) (ri y 1)=true then [D.int (ri y 0),D.int (ri y 1),D.int (ri y 2)] :: lsF (jF J y) l else lsF (jF J y) l
def agu (l:List E):List E:=if kS l=0 then lsF j0 (aeb l) else []
structure XO where
 i:Int
 o:List E
 J:JT
structure Sp where
 s_j:List E→JT
 s_B:List Int→Int→Int→Bool
 s_U:List Int→Int→Int→List Int
 s_Z:List Int→List Int→Int→Int→List Int
 s_S:List Int→Int→Int→Int→Int
 abU:List Int→List Int→Bool
 acb:List Int
 abd:List Int
 acp:List E→Bool
 ahj:List E→Int
 s_e:List E→Int
 ahx:List E→Int
 Je:List E→List E
 agW:List Int→Bool
 ahr:List Int→Int→Int→Bool
 agZ:List Int→Int→Int→List Int
 ahq:List E→Int→Int→Bool
 abP:List E→Bool
def Sp.aa:Sp:=⟨jJ,Ak,QG,Ov,Pq,Rc,iota 64,mq 64,gw,wtB,kS,wtL,agu,Qv,Wa,abM,lkB,fun l=>decide (l.length≤1000000)⟩
def AX (F:Sp):aO:=fun xs h=>match xs,h with
 |[.agg [.val (.int .i64 e_a),.val (.int .i64 e_b),.val (.int .i64 _)],.one (.ptr 0 0)],[(0,.cells 239 [.ptr 1 0]),(1,.cells 256 [.own 2,.own 3,.val (.int .i64 s)]),(2,.row 3 (.ints .i64 u)),(3,.row 3 (.ints .i64 z))]=>some ⟨F.abU u z=true,.sa (B (!(F.s_B u e_a e_b))),[(0,.cells 239 [.ptr 1 0]),(1,.cells 256 [.own 2,.own 3,.ay (F.s_S u s e_a e_b)]),(2,.row 3 (.ints .i64 (F.s_U u e_a e_b))),(3,.row 3 (.ints .i64 (F.s_Z u z e_a e_b)))],[Any,.one (.ptr 0 0)]⟩
 |_,_=>none
theorem IH:au Tryz.prog 200 (AX Sp.aa):=by
 have hfs:=(ak.cons Cl ak.nil rfl);refine aw hfs Tryz.func200 rfl rfl fun xs h p hp=>?_;unfold AX at hp;split at hp
 ·rename_i e_a e_b e_w s u z;cases hp;refine⟨av rfl,fun hC _=>?_⟩;dsimp only at hC;intro b gv;have hk:Rc u z=true:=hC;generalize hF:Sp.aa=F,hG0:JoR.Fs.aa=G0,hG1:JoN.Ns.aa=G1,hG2:EgR.Fs.aa=G2 at hC hfs ⊢;refine bu fun Z zq A hA L hL=>?_
  repeat' (first|(apply al zq;try dsimp only)|apply aS zq (af hL)|apply aq zq|refine aT rfl ?_|apply ai|refine ah rfl ?_|refine aR rfl ?_|exact aA|apply aB|refine aP fun _=>?_|refine aQ fun _=>?_|(constructor;cbv))
  all_goals
   clear hL zq Z hfs;subst hA hF hG0 hG1 hG2;simp only [Sp.aa,JoR.Fs.aa,Ar.aa] at *
   try (grind [aj])
 ·cases hp
def AS (F:Sp):aO:=fun xs h=>match xs,h with
 |[.one (.sl none (.ae (.int .i64 (.int .i64 (.int .i64 .nil))) l))],[]=>some ⟨F.abP l=true,.sa (.one (.ptr 0 0)),[(0,.cells 256 [.own 1,.own 2,.ay (F.s_j l).s]),(1,.row 3 (.ints .i64 (F.s_j l).u)),(2,.row 3 (.ints .i64 (F.s_j l).z))],[Any]⟩
 |_,_=>none
theorem Jv:au Tryz.prog 199 (AS Sp.aa):=by
 have hfs:=(ak.cons tc (ak.cons Cl ak.nil rfl) rfl);refine aw hfs Tryz.func199 rfl rfl fun xs h p hp=>?_;unfold AS at hp;split at hp
 ·rename_i l;cases hp;refine⟨av rfl,fun hC _=>?_⟩;dsimp only at hC;intro b gv;have hk:l.length≤1000000:=of_decide_eq_true hC;generalize hF:Sp.aa=F,hG0:JoR.Fs.aa=G0,hG1:JoN.Ns.aa=G1,hG2:EgR.Fs.aa=G2 at hC hfs ⊢;refine bu fun Z zq A hA L hL=>?_
  repeat' (first|(apply al zq;try dsimp only)|apply aS zq (af hL)|apply aq zq|refine aT rfl ?_|apply ai|refine ah rfl ?_|refine aR rfl ?_|exact aA|apply aB|refine aP fun _=>?_|refine aQ fun _=>?_|(constructor;cbv))
  all_goals first|(show L _ _ _;skip)|(clear hfs hL zq Z;subst hA hF hG0 hG1 hG2;simp only [Sp.aa,JoR.Fs.aa,JoN.Ns.aa] at * <;> grind [aj,vN];done)
  subst hL;refine aJ (aN hfs) (sjQ l) (sjI A l) (sjM l) sjR ⟨0,⟨64,G1.acn 64,G1.acV 64⟩⟩ ?_ ?_ ?_
  ·exact (by subst hG1;exact SJ l)
  ·cbv
   repeat' (first|exact trivial|exact rfl|refine And.intro ?_ ?_)
  rintro⟨i,⟨s,u,z⟩⟩ hq O hO;have hst:=fun h=>Tu l i s u z hq h hk;have hen:=aaJ l i s u z hq;have q0:=hq.1;have q1:=hq.2.1;dsimp only at q0 q1;subst hA;generalize hA:Ar.aa=A;generalize hL:Lp _ _ _=L;refine az zq ?_
  repeat' (first|(apply al zq;try dsimp only)|apply aS zq (af hL)|apply aq zq|refine aT rfl ?_|apply ai|refine ah rfl ?_|refine aR rfl ?_|exact aA|apply aB|refine aP fun _=>?_|refine aQ fun _=>?_|(constructor;cbv))
  all_goals (clear hL hfs zq Z hq;subst hA hF hG0 hG1 hG2 hO;simp only [Sp.aa,JoR.Fs.aa,Ar.aa] at * <;> grind [aj,sjM])
 ·cases hp
def Bm (F:Sp):aO:=fun xs h=>match xs,h with
 |[],[]=>some ⟨True,.sa (.one (.fn 200 0)),[(0,.cells 239 [.ptr 1 0]),(1,.cells 256 [.own 2,.own 3,.ay 64]),(2,.row 3 (.ints .i64 F.acb)),(3,.row 3 (.ints .i64 F.abd))],[]⟩
 |_,_=>none
theorem JI:au Tryz.prog 172 (Bm Sp.aa):=by
 have hfs:=(ak.cons (Mn [some (.ae .pY [])] Jv) ak.nil rfl);refine aw hfs Tryz.func172 rfl rfl fun xs h p hp=>?_;unfold Bm at hp;split at hp
 ·cases hp;refine⟨av rfl,fun _ _=>?_⟩;intro b gv;generalize hF:Sp.aa=F,hG0:JoR.Fs.aa=G0,hG1:JoN.Ns.aa=G1,hG2:EgR.Fs.aa=G2 at hfs ⊢;refine bu fun Z zq A hA L hL=>?_
  repeat' (first|(apply al zq;try dsimp only)|apply aS zq (af hL)|apply aq zq|refine aT rfl ?_|apply ai|refine ah rfl ?_|refine aR rfl ?_|exact aA|apply aB|refine aP fun _=>?_|refine aQ fun _=>?_|(constructor;cbv))
  all_goals
   clear hL zq Z hfs;subst hA hF hG0 hG1 hG2;simp only [Sp.aa] at *
   try (grind [aj,jJ,j0])
 ·cases hp
def sV (F:Sp):aO:=fun xs h=>match xs,h with
 |[.one (.sl none (.ae (.int .i64 (.int .i64 (.int .i64 .nil))) l))],[]=>some ⟨F.abP l=true,.sa (B (F.acp l)),[],[Any]⟩
 |_,_=>none
theorem lY:au Tryz.prog 153 (sV Sp.aa):=by
 have hfs:=(ak.cons yp (ak.cons JI (ak.cons IH ak.nil rfl) rfl) rfl);refine aw hfs Tryz.func153 rfl rfl fun xs h p hp=>?_;unfold sV at hp;split at hp
 ·rename_i l;cases hp;refine⟨av rfl,fun hC _=>?_⟩;dsimp only at hC;intro b gv;have hk:l.length≤1000000:=of_decide_eq_true hC;generalize hF:Sp.aa=F,hG0:JoR.Fs.aa=G0,hG1:JoN.Ns.aa=G1,hG2:EgR.Fs.aa=G2 at hC hfs ⊢;refine bu fun Z zq A hA L hL=>?_
  repeat' (first|(apply al zq;try dsimp only)|apply aS zq (af hL)|apply aq zq|refine aT rfl ?_|apply ai|refine ah rfl ?_|refine aR rfl ?_|exact aA|apply aB|refine aP fun _=>?_|refine aQ fun _=>?_|(constructor;cbv))
  all_goals first|(show L _ _ _;skip)|(clear hfs hL zq Z;subst hA hF hG0 hG1 hG2;simp only [Sp.aa,EgR.Fs.aa,Ar.aa] at * <;> grind [aj,gw];done)
  rename_i hx;subst hL;refine aJ (aN hfs) (foQ l) (foI A l) (NF l) foR ⟨0,⟨64,F.acb,F.abd⟩⟩ ?_ ?_ ?_
  ·exact (by subst hF;exact To l)
  ·cbv
   repeat' (first|exact trivial|exact rfl|refine And.intro ?_ ?_)
  rintro⟨i,⟨s,u,z⟩⟩ hq O hO;have hst:=fun h=>SU l i s u z hq h hk;have hen:=YZ l i s u z hq;have q0:=hq.1;have q1:=hq.2.1;dsimp only at q0 q1;subst hA;generalize hA:Ar.aa=A;generalize hL:Lp _ _ _=L;refine az zq ?_
  repeat' (first|(apply al zq;try dsimp only)|apply aS zq (af hL)|apply aq zq|refine aT rfl ?_|apply ai|refine ah rfl ?_|refine aR rfl ?_|exact aA|apply aB|refine aP fun _=>?_|refine aQ fun _=>?_|(constructor;cbv))
  all_goals (clear hL hfs zq Z hq;subst hA hF hG0 hG1 hG2 hO;simp only [Sp.aa,EgR.Fs.aa,Ar.aa] at * <;> grind [aj,NF,gw])
 ·cases hp
end Go.Proofs.YtelhldgdnlppfaaGreat.SpR
namespace Go.Proofs.YtelhldgdnlppfaaGreat.SpQ
open Go Ry Go.Proofs.YtelhldgdnlppfaaGreat.So JoS EgR SpR
def Ah (M:List E) (y:E):List E:=if rb (M.getD (ri y 0).toNat []) 0=true∨rb (M.getD (ri y 1).toNat []) 0=true then (M.set (ri y 0).toNat [D.bool true]).set (ri y 1).toNat [D.bool true] else M
def KP (l:List E) (M:List E):List E:=l.foldl Ah M
def vQ (l:List E):Nat→List E→List E
 |0,M=>M
 |k+1,M=>KP l (vQ l k M)
def xY:List E:=List.replicate 65 [D.bool false]
def vt (f:Int):List E:=xY.set f.toNat [D.bool true]
def vO (l:List E) (f:Int):List E:=if bG f=true then vQ l 64 (vt f) else xY
def Dd (y:E):Bool:=decide (0≤ri y 0∧ri y 0 < 65∧0≤ri y 1∧ri y 1 < 65)
def rQ (l:List E):Bool:=decide (l.length≤1000000) && l.all Dd
theorem eD {l:List E}:rQ l=true↔l.length≤1000000∧∀ y∈l,0≤ri y 0∧ri y 0 < 65∧0≤ri y 1∧ri y 1 < 65:=by
 unfold rQ Dd;simp only [Bool.and_eq_true,decide_eq_true_eq,List.all_eq_true]
theorem qL (M:List E) (y:E):(Ah M y).length=M.length:=by
 unfold Ah;split
 ·rw [List.length_set,List.length_set]
 ·rfl
theorem DA:∀ (l M:List E),(KP l M).length=M.length
 |[],_=>rfl
 |y :: l,M=>by
  show (KP l (Ah M y)).length=_;rw [DA l,qL]
theorem mW (l:List E):∀ (k:Nat) (M:List E),(vQ l k M).length=M.length
 |0,_=>rfl
 |k+1,M=>by
  unfold vQ;rw [DA,mW l k]
theorem lM (f:Int):(vt f).length=65:=by
 unfold vt xY;rw [List.length_set,List.length_replicate]
structure XK where
 k:Int
 M:List E
def roQ (l:List E) (f:Int) (y:XK):Prop:=0≤y.k∧y.k≤64∧y.M=vQ l y.k.toNat (vt f)
def roM (y:XK):Nat:=(64 - y.k).toNat
def rdA (st:St) (s:Nat):List E:=match ar st.heap (match fW st s with | .ptr n _=>n|_=>0) with|some (.row _ c)=>ZC c|_=>[]
noncomputable def roI (A:Ar) (l:List E) (y:XK):St:=br Tryz.f167.ntmps [(0,.sl none (.ae .pY l)),(4,.ptr 1 0),(5,.ptr 2 0),(6,.ay y.k)] [(1,.row 207 (.ae (.bool .nil) (A.Dq 65 [D.bool false]))),(2,.row 207 (.ae (.bool .nil) y.M))] [Any,Any]
def roR (st:St):XK:=⟨bw st 6,rdA st 5⟩
def riQ (l M0:List E) (y:XK):Prop:=0≤y.k∧y.k≤l.length∧y.M=KP (l.take y.k.toNat) M0
def riM (l:List E) (y:XK):Nat:=l.length - y.k.toNat
noncomputable def riI (A:Ar) (l:List E) (k:Int) (y:XK):St:=br Tryz.f167.ntmps [(0,.sl none (.ae .pY l)),(4,.ptr 1 0),(5,.ptr 2 0),(6,.ay k),(7,.ay y.k)] [(1,.row 207 (.ae (.bool .nil) (A.Dq 65 [D.bool false]))),(2,.row 207 (.ae (.bool .nil) y.M))] [Any,Any]
def riR (st:St):XK:=⟨bw st 7,rdA st 5⟩
theorem aan {l:List E} {f k:Int} {M:List E} (hq:roQ l f ⟨k,M⟩):M.length=65:=by
 have h:=hq.2.2;simp only at h;rw [h,mW,lM]
theorem Zf {l:List E} {f k:Int} {M:List E} (hq:roQ l f ⟨k,M⟩) (h:¬k < 64) (hf:bG f=true):M=vO l f:=by
 obtain⟨h0,h1,h2⟩:=hq;simp only at h0 h1 h2;have e:k=64:=by omega
 subst e;unfold vO;rw [if_pos hf,h2];rfl
theorem QH {l M0:List E} (hl:rQ l=true) (h65:M0.length=65) {i:Int} {M:List E} (hq:riQ l M0 ⟨i,M⟩) (h:i < l.length) :
  aD .add .i64 i 1=i+1∧M.length=65∧0≤ri (l.getD i.toNat []) 0∧ri (l.getD i.toNat []) 0 < 65∧0≤ri (l.getD i.toNat []) 1∧ri (l.getD i.toNat []) 1 < 65 ∧
  (rb (M.getD (ri (l.getD i.toNat []) 0).toNat []) 0=true∨rb (M.getD (ri (l.getD i.toNat []) 1).toNat []) 0=true→riQ l M0 ⟨i+1,(M.set (ri (l.getD i.toNat []) 0).toNat [D.bool true]).set (ri (l.getD i.toNat []) 1).toNat [D.bool true]⟩) ∧
  (¬(rb (M.getD (ri (l.getD i.toNat []) 0).toNat []) 0=true∨rb (M.getD (ri (l.getD i.toNat []) 1).toNat []) 0=true)→riQ l M0 ⟨i+1,M⟩):=by
 obtain⟨h0,h1,h2⟩:=hq;simp only at h0 h1 h2;obtain⟨k1,k2⟩:=eD.1 hl;have k3:=k2 _ (nh h0 h);have hn:KP (l.take (i+1).toNat) M0=Ah M (l.getD i.toNat []):=by
  rw [cC l i h0 h];unfold KP at h2 ⊢;rw [List.foldl_append,← h2];rfl
 refine⟨by rw [aW,wr _ (by omega) (by omega)],by rw [h2,DA,h65],k3.1,k3.2.1,k3.2.2.1,k3.2.2.2,fun g=>⟨by simp only;omega,by simp only;omega,?_⟩,fun g=>⟨by simp only;omega,by simp only;omega,?_⟩⟩
 ·simp only;rw [hn];unfold Ah;rw [if_pos g]
 ·simp only;rw [hn];unfold Ah;rw [if_neg g]
theorem XR {l:List E} {f k:Int} {M0 M:List E} (ho:roQ l f ⟨k,M0⟩) (hk:k < 64) {i:Int} (hq:riQ l M0 ⟨i,M⟩) (h:¬i < l.length):aD .add .i64 k 1=k+1∧roQ l f ⟨k+1,M⟩:=by
 obtain⟨h0,h1,h2⟩:=hq;obtain⟨p0,p1,p2⟩:=ho;simp only at h0 h1 h2 p0 p1 p2;have e:i=l.length:=by omega
 rw [e,Int.toNat_natCast,List.take_length] at h2;have e2:(k+1).toNat=k.toNat+1:=by omega
 refine⟨by rw [aW,wr _ (by omega) (by omega)],by simp only;omega,by simp only;omega,?_⟩;simp only;rw [e2,h2,p2];rfl
def rJ (l:List E) (a b:Int):Bool:=bG a && (bG b && rb ((vO l a).getD b.toNat []) 0)
theorem RA (l:List E) (f:Int):(vO l f).length=65:=by
 unfold vO;split
 ·rw [mW,lM]
 ·simp [xY]
def atR (l:List E) (i:Nat):Bool:=rJ (l.take i) (ri (l.getD i []) 0) (ri (l.getD i []) 1)
def JJ (l:List E):Bool:=(List.range l.length).all fun i=>!atR l i
theorem Qp {l:List E} (h:rQ l=true) (k:Nat):rQ (l.take k)=true:=by
 obtain⟨h1,h2⟩:=eD.1 h;exact eD.2 ⟨by rw [List.length_take];omega,fun y hy=>h2 y (List.mem_of_mem_take hy)⟩
def rfQ (l:List E) (y:XI):Prop:=0≤y.i∧y.i≤l.length∧∀ j:Nat,j < y.i→atR l j=false
def rfM (l:List E) (y:XI):Nat:=l.length - y.i.toNat
noncomputable def rfI (l:List E) (y:XI):St:=br Tryz.f119.ntmps [(0,.sl none (.ae .pY l)),(3,.ay y.i)] [] [Any]
theorem SL {l:List E} {i:Int} (hl:rQ l=true) (hq:rfQ l ⟨i⟩) (h:i < l.length):aD .add .i64 i 1=i+1∧rQ (l.take i.toNat)=true∧(l.take i.toNat).length=i∧(rJ (l.take i.toNat) (ri (l.getD i.toNat []) 0) (ri (l.getD i.toNat []) 1)=true→JJ l=false)∧(rJ (l.take i.toNat) (ri (l.getD i.toNat []) 0) (ri (l.getD i.toNat []) 1)=false→rfQ l ⟨i+1⟩):=by
 obtain⟨h0,h1,h2⟩:=hq;simp only at h0 h1 h2;have hl1:=(eD.1 hl).1;refine⟨by rw [aW,wr _ (by omega) (by omega)],Qp hl _,by rw [List.length_take];omega,fun g=>?_,fun g=>⟨by simp only;omega,by simp only;omega,fun j hj=>?_⟩⟩
 ·rw [← Bool.not_eq_true];intro w;have:=List.all_eq_true.1 w i.toNat (List.mem_range.2 (by omega));unfold atR at this;rw [g] at this;cases this
 ·simp only at hj
  by_cases e:j=i.toNat
  ·rw [e];exact g
  ·exact h2 j (by omega)
theorem Zg {l:List E} {i:Int} (hq:rfQ l ⟨i⟩) (h:¬i < l.length):JJ l=true:=by
 obtain⟨h0,h1,h2⟩:=hq;simp only at h0 h1 h2;unfold JJ;rw [List.all_eq_true];intro j hj;rw [h2 j (by have:=List.mem_range.1 hj;omega)];rfl
def vC (a b w a' b' w' : Int):Bool:=if ¬w=w' then decide (w < w') else decide (a < a'∨(a=a'∧b < b'))
def lsY (x y:E):Bool:=vC (ri x 0) (ri x 1) (ri x 2) (ri y 0) (ri y 1) (ri y 2)
def e3 (y:E):E:=[D.int (ri y 0),D.int (ri y 1),D.int (ri y 2)]
def swS (s:List E) (j:Nat):List E:=(s.set (j+1) (e3 (s.getD j []))).set j (e3 (s.getD (j+1) []))
def eO:Nat→List E→List E
 |0,s=>s
 |j+1,s=>if lsY (s.getD (j+1) []) (s.getD j [])=true then eO j (swS s j) else s
def kz (l:List E):Nat→List E
 |0=>l
 |i+1=>eO i (kz l i)
def rsB (l:List E):List E:=kz l l.length
theorem ZA (s:List E) (j:Nat):(swS s j).length=s.length:=by
 unfold swS;rw [List.length_set,List.length_set]
theorem nN:∀ (j:Nat) (s:List E),(eO j s).length=s.length
 |0,_=>rfl
 |j+1,s=>by
  unfold eO;split
  ·rw [nN j,ZA]
  ·rfl
structure Sq where
 agw:Int→Int→Int→Int→Int→Int→Bool
 agQ:List E→List E
 ahu:List E→Bool
 afz:List E→Int→Int→Bool
 adB:List E→Bool
 Pj:List E→Bool
 aen:List E→Int→List E
def Sq.aa:Sq:=⟨vC,rsB,fun l=>decide (l.length≤1000000),rJ,JJ,rQ,vO⟩
def GI (F:Sq):aO:=fun xs h=>match xs,h with
 |[.one (.sl none (.ae (.int .i64 (.int .i64 (.int .i64 .nil))) l)),.one (.val (.int .i64 f))],[]=>some ⟨F.Pj l=true,.sa (.fo (.ae (.bool .nil) (F.aen l f))),[],[Any,Any]⟩
 |_,_=>none
theorem OS:au Tryz.prog 167 (GI Sq.aa):=by
 have hfs:=(ak.cons fY ak.nil rfl);refine aw hfs Tryz.func167 rfl rfl fun xs h p hp=>?_;unfold GI at hp;split at hp
 ·rename_i l f;cases hp;refine⟨av rfl,fun hC _=>?_⟩;dsimp only at hC;intro b gv;have hk:rQ l=true:=hC;generalize hF:Sq.aa=F,hG0:EgR.Fs.aa=G0 at hC hfs ⊢;refine bu fun Z zq A hA L hL=>?_
  repeat' (first|(apply al zq;try dsimp only)|apply aS zq (af hL)|apply aq zq|refine aT rfl ?_|apply ai|refine ah rfl ?_|refine aR rfl ?_|exact aA|apply aB|refine aP fun _=>?_|refine aQ fun _=>?_|(constructor;cbv))
  all_goals first|(show L _ _ _;skip)|(clear hfs hL zq Z;subst hA hF hG0;simp only [Sq.aa,EgR.Fs.aa,Ar.aa] at * <;> grind [aj,vO,xY,bG];done)
  rename_i hx;have hf:bG f=true:=by
   clear hfs hL zq Z;subst hA hF hG0;simp only [Sq.aa,EgR.Fs.aa,Ar.aa] at *
   grind [aj]
  clear hx;subst hL;refine aJ (aN hfs) (roQ l f) (roI A l) roM roR ⟨0,A.EJ (A.Dq 65 [D.bool false]) f [D.bool true]⟩ ?_ ?_ ?_
  ·subst hA;exact⟨Int.le_refl 0,show (0:Int)≤64 by decide,rfl⟩
  ·cbv
   repeat' (first|exact trivial|exact rfl|refine And.intro ?_ ?_)
  rintro⟨k,M0⟩ hq O hO;have q0:=hq.1;have q1:=hq.2.1;have q6:=aan hq;have hen:=fun h=>Zf hq h hf;dsimp only at q0 q1;subst hA;generalize hA:Ar.aa=A;generalize hL:Lp _ _ _=L;refine az zq ?_
  repeat' (first|(apply al zq;try dsimp only)|apply aS zq (af hL)|apply aq zq|refine aT rfl ?_|apply ai|refine ah rfl ?_|refine aR rfl ?_|exact aA|apply aB|refine aP fun _=>?_|refine aQ fun _=>?_|(constructor;cbv))
  all_goals first|(show L _ _ _;skip)|(clear hL hfs zq Z;subst hA hF hG0 hO;simp only [Sq.aa,Ar.aa] at * <;> grind [aj];done)
  rename_i hx;have hi:k < 64:=by
   clear hfs hL zq Z hF hO;subst hA;simp only [Ar.aa] at hx
   grind [aj]
  clear hx hen;subst hL;refine aJ (aN hfs) (riQ l M0) (riI A l k) (riM l) riR ⟨0,M0⟩ ?_ ?_ ?_
  ·exact⟨Int.le_refl 0,Int.natCast_nonneg _,rfl⟩
  ·cbv
   repeat' (first|exact trivial|exact rfl|refine And.intro ?_ ?_)
  rintro⟨i,M⟩ hq2 O2 hO2;have hst:=QH hk q6 hq2;have hen:=XR hq hi hq2;have k0:=hq2.1;have k1:=hq2.2.1;dsimp only at k0 k1;subst hA;generalize hA:Ar.aa=A;generalize hL:Lp _ _ _=L;refine az zq ?_
  repeat' (first|(apply al zq;try dsimp only)|apply aS zq (af hL)|apply aq zq|refine aT rfl ?_|apply ai|refine ah rfl ?_|refine aR rfl ?_|exact aA|apply aB|refine aP fun _=>?_|refine aQ fun _=>?_|(constructor;cbv))
  all_goals (clear hL hfs zq Z hq2;subst hA hF hG0 hO hO2;simp only [Sq.aa,Ar.aa] at * <;> grind [aj,roM,riM])
 ·cases hp
def qN (F:Sq):aO:=fun xs h=>match xs,h with
 |[.one (.sl none (.ae (.int .i64 (.int .i64 (.int .i64 .nil))) l)),.one (.val (.int .i64 a)),.one (.val (.int .i64 d))],[]=>some ⟨F.Pj l=true,.sa (B (F.afz l a d)),[],[Any,Any,Any]⟩
 |_,_=>none
theorem jE:au Tryz.prog 142 (qN Sq.aa):=by
 have hfs:=(ak.cons fY (ak.cons OS ak.nil rfl) rfl);refine aw hfs Tryz.func142 rfl rfl fun xs h p hp=>?_;unfold qN at hp;split at hp
 ·rename_i l a d;cases hp;refine⟨av rfl,fun hC _=>?_⟩;dsimp only at hC;intro b gv;have hr:=RA l a;generalize hF:Sq.aa=F,hG0:EgR.Fs.aa=G0 at hC hfs ⊢;refine bu fun Z zq A hA L hL=>?_
  repeat' (first|(apply al zq;try dsimp only)|apply aS zq (af hL)|apply aq zq|refine aT rfl ?_|apply ai|refine ah rfl ?_|refine aR rfl ?_|exact aA|apply aB|refine aP fun _=>?_|refine aQ fun _=>?_|(constructor;cbv))
  all_goals
   clear hL zq Z hfs;subst hA hF hG0;simp only [Sq.aa,EgR.Fs.aa,Ar.aa] at *
   try (grind [aj,rJ,bG])
 ·cases hp
def qJ (F:Sq):aO:=fun xs h=>match xs,h with
 |[.one (.sl none (.ae (.int .i64 (.int .i64 (.int .i64 .nil))) l))],[]=>some ⟨F.Pj l=true,.sa (B (F.adB l)),[],[Any]⟩
 |_,_=>none
theorem tv:au Tryz.prog 119 (qJ Sq.aa):=by
 have hfs:=(ak.cons jE ak.nil rfl);refine aw hfs Tryz.func119 rfl rfl fun xs h p hp=>?_;unfold qJ at hp;split at hp
 ·rename_i l;cases hp;refine⟨av rfl,fun hC _=>?_⟩;dsimp only at hC;intro b gv;have hk:rQ l=true:=hC;have hk2:=(eD.1 hk).1;generalize hF:Sq.aa=F,hG0:EgR.Fs.aa=G0 at hC hfs ⊢;refine bu fun Z zq A hA L hL=>?_
  repeat' (first|(apply al zq;try dsimp only)|apply aS zq (af hL)|apply aq zq|refine aT rfl ?_|apply ai|refine ah rfl ?_|refine aR rfl ?_|exact aA|apply aB|refine aP fun _=>?_|refine aQ fun _=>?_|(constructor;cbv))
  subst hL;refine aJ (aN hfs) (rfQ l) (rfI l) (rfM l) myR ⟨0⟩ ?_ ?_ ?_
  ·exact⟨Int.le_refl 0,Int.natCast_nonneg _,fun j hj=>by simp only at hj;omega⟩
  ·cbv
   repeat' (first|exact trivial|exact rfl|refine And.intro ?_ ?_)
  rintro⟨i⟩ hq O hO;have hst:=fun h=>SL hk hq h;have hen:=fun h=>Zg hq h;have q0:=hq.1;have q1:=hq.2.1;dsimp only at q0 q1;subst hA;generalize hA:Ar.aa=A;generalize hL:Lp _ _ _=L;refine az zq ?_
  repeat' (first|(apply al zq;try dsimp only)|apply aS zq (af hL)|apply aq zq|refine aT rfl ?_|apply ai|refine ah rfl ?_|refine aR rfl ?_|exact aA|apply aB|refine aP fun _=>?_|refine aQ fun _=>?_|(constructor;cbv))
  all_goals (clear hL hfs zq Z hq;subst hA hF hG0 hO;simp only [Sq.aa,Ar.aa] at * <;> grind [aj,rfM])
 ·cases hp
def zf (F:Sq):aO:=fun xs h=>match xs,h with
 |[.agg [.val (.int .i64 x_a),.val (.int .i64 x_b),.val (.int .i64 x_w)],.agg [.val (.int .i64 y_a),.val (.int .i64 y_b),.val (.int .i64 y_w)]],[]=>some ⟨True,.sa (B (F.agw x_a x_b x_w y_a y_b y_w)),[],[Any,Any]⟩
 |_,_=>none
theorem pJ:au Tryz.prog 145 (zf Sq.aa):=by
 refine aw ak.nil Tryz.func145 rfl rfl fun xs h p hp=>?_;unfold zf at hp;split at hp
 ·rename_i x_a x_b x_w y_a y_b y_w;cases hp;refine⟨av rfl,fun _ _=>?_⟩;intro b gv;generalize hF:Sq.aa=F;generalize hG0:EgR.Fs.aa=G0;refine bu fun Z zq A hA L hL=>?_
  repeat' (first|(apply al zq;try dsimp only)|apply aS zq (af hL)|apply aq zq|refine aT rfl ?_|apply ai|refine ah rfl ?_|refine aR rfl ?_|exact aA|apply aB|refine aP fun _=>?_|refine aQ fun _=>?_|(constructor;cbv))
  all_goals
   clear hL zq Z;subst hA hF hG0;simp only [Sq.aa,Ar.aa] at *
   try (grind [aj,vC])
 ·cases hp
end Go.Proofs.YtelhldgdnlppfaaGreat.SpQ
namespace Go.Proofs.YtelhldgdnlppfaaGreat.EgL
open Go Ry Go.Proofs.YtelhldgdnlppfaaGreat.So EcX Cmp EgR
def CJ (l:List (Int × Int × Int)):Prop:=(∀ y∈l,ky y.1 y.2.1 y.2.2=true)∧(l.map fun y=>(y.1,y.2.1)).Nodup
theorem ZL (l:List E):gJ l=true↔CJ (l.map bM):=by
 rw [fU];unfold CJ;rw [List.map_map];constructor
 ·rintro⟨a,b⟩;refine⟨fun y hy=>?_,b⟩;obtain⟨z,hz,rfl⟩:=List.mem_map.1 hy;exact a z hz
 ·rintro⟨a,b⟩;exact⟨fun y hy=>a (bM y) (List.mem_map.2 ⟨y,hy,rfl⟩),b⟩
structure XS where
 i:Int
 c:List E
structure XP where
 i:Int
structure Ls where
 l:Unit
end Go.Proofs.YtelhldgdnlppfaaGreat.EgL
