
/-
  forests sj the reckoner: what tells whether an edge closes a circle. No condition.
-/
import Derived.Test.YtelhldgdnlppfaaGreatVgRyOp
import Derived.Test.YtelhldgdnlppfaaGreatVgJoW
import Derived.Test.YtelhldgdnlppfaaGreatVgEgR
set_option maxHeartbeats 2000000
set_option maxRecDepth 100000
namespace Go.Proofs.YtelhldgdnlppfaaGreat.Ry
open Go
def tC (c1 c2:aY):aY:=fun xs h=>match c1 xs h with
 |some p=>some p
 |none=>c2 xs h
theorem AB {f:FuncId} {c1 c2:aY} (h1:aA Tryz.prog f c1) (h2:aA Tryz.prog f c2):aA Tryz.prog f (tC c1 c2):=by
 refine⟨h1.1,fun args h p hc=>?_⟩
 unfold tC at hc
 split at hc
 ·rename_i q hq
  cases hc
  exact h1.2 args h _ hq
 ·exact h2.2 args h p hc
end Go.Proofs.YtelhldgdnlppfaaGreat.Ry
namespace Go.Proofs.YtelhldgdnlppfaaGreat.JoN
open Go Ry JoS JoR JoW
def vN (n:Int):Bool:=decide (0≤n∧n≤4096)
def zg (v:Int→Int) (n i:Int):List Int:=(List.range (n+1).toNat).map fun j:Nat=>if (j:Int) < i then v j else 0
theorem Jq (v:Int→Int) (n i:Int) (h0:0≤i) (_:i≤n):(zg v n i).set i.toNat (v i)=zg v n (i+1):=by
 apply List.ext_getElem
 ·simp [zg]
 ·intro k h1 h2
  simp only [zg,List.getElem_set,List.getElem_map,List.getElem_range]
  by_cases hk:i.toNat=k
  ·have e:(k:Int)=i:=by omega
   have l:(k:Int) < i+1:=by omega
   rw [if_pos hk,if_pos l,e]
  ·rw [if_neg hk]
   by_cases hl:(k:Int) < i
   ·rw [if_pos hl,if_pos (by omega)]
   ·rw [if_neg hl,if_neg (by omega)]
theorem xa (v:Int→Int) (n:Int) (h0:0≤n) (h:n≤4096):List.replicate (aO .add .i64 n 1).toNat 0=zg v n 0:=by
 rw [bo,wr _ (by omega) (by omega)]
 apply List.ext_getElem
 ·simp [zg]
 ·intro k h1 h2
  simp only [zg,List.getElem_replicate,List.getElem_map,List.getElem_range]
  rw [if_neg (by omega)]
theorem AO (v:Int→Int) (n i:Int):(zg v n i).length=(n+1).toNat:=by simp [zg]
theorem IU (v:Int→Int) (n:Int):zg v n (n+1)=(List.range (n+1).toNat).map fun j:Nat=>v j:=by
 unfold zg
 apply List.map_congr_left
 intro j hj
 have:=List.mem_range.1 hj
 rw [if_pos (by omega)]
theorem Mc (n:Int):zg id n (n+1)=iota n:=IU id n
theorem MU (n:Int):zg (fun _=>1) n (n+1)=kS n:=by
 rw [IU]
 unfold kS
 apply List.ext_getElem
 ·simp
 ·intro k h1 h2
  simp
structure XN where
 i:Int
 u:List Int
 z:List Int
def nwQ (n:Int) (y:XN):Prop:=0≤y.i∧y.i≤n+1∧y.u=zg id n y.i∧y.z=zg (fun _=>1) n y.i
noncomputable def nwI (A:Ar) (n:Int) (y:XN):St:=cC Tryz.f213.ntmps [(4,.ptr 1 0),(25,.val (.int .i64 (A.fE (A.wL (A.bin .add .i64 n 1))))),(26,.val (.int .i64 y.i))] [(1,.cells 256 [.own 2,.own 3,.val (.int .i64 n)]),(2,.row 3 (.ints .i64 y.u)),(3,.row 3 (.ints .i64 y.z))] [Any]
def nwM (n:Int) (y:XN):Nat:=(n+1 - y.i).toNat
def nwR (st:St):XN:=⟨bR st 26,Bn st.heap (gS st 4 0),Bn st.heap (gS st 4 1)⟩
structure Ns where
 n_v:Int→Bool
 RQ:Int→List Int
 To:Int→List Int
 f:Fs
def Ns.U:Ns:=⟨vN,iota,kS,Fs.U⟩
def Iy (F:Ns):aY:=fun xs h=>match xs,h with
 |[.one (.val (.int .i64 n))],[]=>some ⟨F.n_v n=true,.bK [.one (.ptr 0 0),I 0],[(0,.cells 256 [.own 1,.own 2,.val (.int .i64 n)]),(1,.row 3 (.ints .i64 (F.RQ n))),(2,.row 3 (.ints .i64 (F.To n)))],[Any]⟩
 |_,_=>none
theorem Wu (n:Int) (hC:Ns.U.n_v n=true):aV [] Tryz.f213 [.one (.val (.int .i64 n))] [] ⟨Ns.U.n_v n=true,.bK [.one (.ptr 0 0),I 0],[(0,.cells 256 [.own 1,.own 2,.val (.int .i64 n)]),(1,.row 3 (.ints .i64 (Ns.U.RQ n))),(2,.row 3 (.ints .i64 (Ns.U.To n)))],[Any]⟩:=by
 intro b gv
 have hk:=of_decide_eq_true (show vN n=true from hC)
 have hfs:=af.nil
 generalize hF:Ns.U=F at hC hfs ⊢
 generalize hA:Ar.U=A
 generalize hL:Lp _ _ _=L
 obtain⟨Z,zq⟩:=aQ
 refine @aD _ _ _ _ _ _ _ (ae hL) _ _ zq rfl ?_
 repeat' (first|(refine aw zq ?_;try dsimp only)|refine ax zq ?_ (ae hL)|refine az zq ?_|refine ay ?_|refine aq ?_|refine ar ?_|refine av ?_|refine au rfl ?_|refine ai rfl ?_|refine aj rfl ?_|(refine Cd.mk ?_;cbv)|(refine aE.mk ?_;cbv)|(refine aM.mk ?_;cbv)|exact trivial|refine And.intro ?_ ?_|refine bu fun _=>?_|refine br fun _=>?_)
 all_goals first|(show L _ _ _;skip)|(clear hfs hL zq Z;subst hF hA;simp only [Ar.U] at * <;> grind [al,bo,wr])
 rename_i hx
 clear hx
 subst hL
 refine ba (bx hfs) (nwQ n) (nwI A n) (nwM n) nwR ⟨0,A.wL (A.bin .add .i64 n 1),A.wL (A.bin .add .i64 n 1)⟩ ?_ ?_ ?_
 ·subst hA
  exact⟨Int.le_refl 0,show (0:Int)≤n+1 by omega,xa _ n hk.1 hk.2,xa _ n hk.1 hk.2⟩
 ·cbv
  repeat' (first|exact trivial|exact rfl|refine And.intro ?_ ?_)
 rintro⟨i,u,z⟩ ⟨q0,q1,q2,q3⟩ O hO
 dsimp only at q0 q1 q2 q3
 have g1:i≤n→u.set i.toNat i=zg id n (i+1):=fun h=>by rw [q2];exact Jq id n i q0 h
 have g2:i≤n→z.set i.toNat 1=zg (fun _=>1) n (i+1):=fun h=>by rw [q3];exact Jq (fun _=>1) n i q0 h
 have l1:u.length=(n+1).toNat:=by rw [q2];exact AO _ _ _
 have l2:z.length=(n+1).toNat:=by rw [q3];exact AO _ _ _
 have e1:i=n+1→u=iota n∧z=kS n:=fun h=>by rw [q2,q3,h];exact⟨Mc n,MU n⟩
 have hlen:(List.replicate (aO .add .i64 n 1).toNat (0:Int)).length=(n+1).toNat:=by rw [xa id n hk.1 hk.2];exact AO _ _ _
 subst hA
 generalize hA:Ar.U=A
 generalize hL:Lp _ _ _=L
 refine aR zq ?_
 repeat' (first|(refine aw zq ?_;try dsimp only)|refine ax zq ?_ (ae hL)|refine az zq ?_|refine ay ?_|refine aq ?_|refine ar ?_|refine av ?_|refine au rfl ?_|refine ai rfl ?_|refine aj rfl ?_|(refine Cd.mk ?_;cbv)|(refine aE.mk ?_;cbv)|(refine aM.mk ?_;cbv)|exact trivial|refine And.intro ?_ ?_|refine bu fun _=>?_|refine br fun _=>?_)
 all_goals (clear hL hfs zq Z;subst hA hF hO;simp only [Ns.U,Ar.U] at * <;> grind [al,bo,wr,nwQ,nwM])
theorem Jg:aA Tryz.prog 213 (Iy Ns.U):=by
 refine aG af.nil Tryz.func213 rfl rfl fun xs h p hp=>?_
 unfold Iy at hp
 split at hp
 ·cases hp
  exact⟨aB rfl,fun hC _=>@Wu _ hC⟩
 ·cases hp
end Go.Proofs.YtelhldgdnlppfaaGreat.JoN
namespace Go.Proofs.YtelhldgdnlppfaaGreat.SpR
open Go Ry Go.Proofs.YtelhldgdnlppfaaGreat.So JoS JoR JoW JoN EgR
structure JT where
 s:Int
 u:List Int
 z:List Int
def j0:JT:=⟨64,iota 64,kS 64⟩
def jF (J:JT) (y:E):JT:=⟨JX J.u J.s (ri y 0) (ri y 1),LO J.u (ri y 0) (ri y 1),ID J.u J.z (ri y 0) (ri y 1)⟩
def jJ (l:List E):JT:=l.foldl jF j0
def GF (W:List Int) (J:JT):Prop:=W.length=65∧Ks W J.s J.u J.z
theorem IN:GF (iota 64) j0:=⟨by decide,Ay 64 (by omega)⟩
theorem Jl {W:List Int} {J:JT} (h:GF W J) (y:E):GF (pC W (ri y 0) (ri y 1)) (jF J y):=⟨by rw [NB];exact h.1,(sR h.2 (by rw [h.1];omega) _ _).1⟩
theorem Rc {W:List Int} {J:JT} (h:GF W J):MG J.u J.z=true:=by
 have h1:=VL h.2.up h.2.ok (by rw [h.1];omega)
 unfold MG
 rw [h1,h.2.zl,h.2.up.len]
 simp
theorem Ei:∀ (l:List E) {W:List Int} {J:JT},GF W J→∃ W',GF W' (l.foldl jF J)
 |[],W,_,h=>⟨W,h⟩
 |y :: l,_,_,h=>Ei l (Jl h y)
theorem Zs (l:List E):∃ W,GF W (jJ l):=Ei l IN
def uM:JT→List E→Bool
 |_,[]=>true
 |J,y :: l=>if yt J.u (ri y 0) (ri y 1)=true then uM (jF J y) l else false
def kU (l:List E):Bool:=decide (oQ l=0) && uM j0 l
structure XS where
 i:Int
 J:JT
def VR (l:List E) (y:XS):Prop:=0≤y.i∧y.i≤l.length∧y.J=jJ (l.take y.i.toNat)
def sjM (l:List E) (y:XS):Nat:=l.length - y.i.toNat
noncomputable def sjI (A:Ar) (l:List E) (y:XS):St:=cC Tryz.f199.ntmps [(0,.sl none (.ah (.int .i64 (.int .i64 (.int .i64 .nil))) l)),(3,.ptr 1 0),(11,.sl none (.ah (.int .i64 (.int .i64 (.int .i64 .nil))) l)),(12,.val (.int .i64 (A.dN l))),(13,.val (.int .i64 y.i))] [(1,.cells 256 [.own 2,.own 3,.val (.int .i64 y.J.s)]),(2,.row 3 (.ints .i64 y.J.u)),(3,.row 3 (.ints .i64 y.J.z))] [Any]
def sjR (st:St):XS:=⟨bR st 13,⟨uv (gS st 3 2),Bn st.heap (gS st 3 0),Bn st.heap (gS st 3 1)⟩⟩
theorem Po (l:List E):VR l ⟨0,⟨64,iota 64,kS 64⟩⟩:=⟨Int.le_refl 0,Int.natCast_nonneg _,rfl⟩
theorem OK (l:List E) (i s:Int) (u z:List Int) (hq:VR l ⟨i,⟨s,u,z⟩⟩) (h:i < l.length) (hl:l.length≤1000000) :
  aO .add .i64 i 1=i+1∧MG u z=true∧VR l ⟨i+1,⟨JX u s (ri (l.getD i.toNat []) 0) (ri (l.getD i.toNat []) 1),LO u (ri (l.getD i.toNat []) 0) (ri (l.getD i.toNat []) 1),ID u z (ri (l.getD i.toNat []) 0) (ri (l.getD i.toNat []) 1)⟩⟩:=by
 obtain⟨h0,h1,h2⟩:=hq
 simp only at h0 h1 h2
 obtain⟨W,hW⟩:=Zs (l.take i.toNat)
 have hz:=Rc hW
 rw [← h2] at hz
 refine⟨by rw [bo,wr _ (by omega) (by omega)],hz,by simp only;omega,by simp only;omega,?_⟩
 simp only
 rw [fa l i h0 h]
 unfold jJ at h2 ⊢
 rw [List.foldl_append,← h2]
 rfl
theorem Us (l:List E) (i s:Int) (u z:List Int) (hq:VR l ⟨i,⟨s,u,z⟩⟩) (h:¬i < l.length):s=(jJ l).s∧u=(jJ l).u∧z=(jJ l).z:=by
 obtain⟨h0,h1,h2⟩:=hq
 simp only at h0 h1 h2
 have e:i=l.length:=by omega
 rw [e,Int.toNat_natCast,List.take_length] at h2
 rw [← h2]
 exact⟨rfl,rfl,rfl⟩
def WM (l:List E) (y:XS):Prop:=0≤y.i∧y.i≤l.length∧(∃ W,GF W y.J)∧uM j0 l=uM y.J (l.drop y.i.toNat)
def foM (l:List E) (y:XS):Nat:=l.length - y.i.toNat
noncomputable def foI (A:Ar) (l:List E) (y:XS):St:=cC Tryz.f153.ntmps [(0,.sl none (.ah (.int .i64 (.int .i64 (.int .i64 .nil))) l)),(3,.fn 200 1),(10,.sl none (.ah (.int .i64 (.int .i64 (.int .i64 .nil))) l)),(11,.val (.int .i64 (A.dN l))),(12,.val (.int .i64 y.i))] [(1,.cells 239 [.ptr 2 0]),(2,.cells 256 [.own 3,.own 4,.val (.int .i64 y.J.s)]),(3,.row 3 (.ints .i64 y.J.u)),(4,.row 3 (.ints .i64 y.J.z))] [Any]
def nmC:SC→Nat
 |.ptr n _ | .fn _ n | .own n=>n
 |_=>0
def CK (h:H) (n j:Nat):SC:=match ak h n with
 |some (.cells _ cs)=>cs.getD j .any
 |_=>.any
def foR (st:St):XS:=let n:=nmC (CK st.heap (nmC (jA st 3)) 0);⟨bR st 12,⟨uv (CK st.heap n 2),Bn st.heap (CK st.heap n 0),Bn st.heap (CK st.heap n 1)⟩⟩
theorem Oq (l:List E):WM l ⟨0,⟨64,iota 64,kS 64⟩⟩:=⟨Int.le_refl 0,Int.natCast_nonneg _,⟨_,IN⟩,rfl⟩
theorem MC (l:List E) (i s:Int) (u z:List Int) (hq:WM l ⟨i,⟨s,u,z⟩⟩) (h:i < l.length) (hl:l.length≤1000000) :
  aO .add .i64 i 1=i+1∧MG u z=true∧(yt u (ri (l.getD i.toNat []) 0) (ri (l.getD i.toNat []) 1)=true→WM l ⟨i+1,⟨JX u s (ri (l.getD i.toNat []) 0) (ri (l.getD i.toNat []) 1),LO u (ri (l.getD i.toNat []) 0) (ri (l.getD i.toNat []) 1),ID u z (ri (l.getD i.toNat []) 0) (ri (l.getD i.toNat []) 1)⟩⟩) ∧
  (yt u (ri (l.getD i.toNat []) 0) (ri (l.getD i.toNat []) 1)=false→uM j0 l=false):=by
 obtain⟨h0,h1,⟨W,h2⟩,h3⟩:=hq
 simp only at h0 h1 h2 h3
 have hi:i.toNat < l.length:=by omega
 have e:(i+1).toNat=i.toNat+1:=by omega
 have eg:l.getD i.toNat []=l[i.toNat]:=by rw [List.getD_eq_getElem?_getD,List.getElem?_eq_getElem hi];rfl
 rw [List.drop_eq_getElem_cons hi,← eg] at h3
 refine⟨by rw [bo,wr _ (by omega) (by omega)],Rc h2,fun g=>⟨by simp only;omega,by simp only;omega,⟨_,Jl h2 (l.getD i.toNat [])⟩,?_⟩,fun g=>?_⟩
 ·rw [h3]
  simp only [uM]
  rw [if_pos g,e]
  rfl
 ·rw [h3]
  simp only [uM]
  rw [g]
  rfl
theorem Uf (l:List E) (i s:Int) (u z:List Int) (hq:WM l ⟨i,⟨s,u,z⟩⟩) (h:¬i < l.length):uM j0 l=true:=by
 obtain⟨h0,h1,h2,h3⟩:=hq
 simp only at h0 h1 h2 h3
 rw [h3,List.drop_eq_nil_of_le (by omega)]
 rfl
def QX (u:List Int) (a d:Int):Bool:=decide (¬jN u a=0∧jN u a=jN (kZ u a) d)
def YR (u:List Int) (a d:Int):List Int:=if jN u a=0 then kZ u a else kZ (kZ u a) d
def lkB (l:List E) (a b:Int):Bool:=decide (oQ l=0) && QX (jJ l).u a b
def wtF (n:Int) (y:E):Int:=aO .add .i64 n (ri y 2)
def wtL (l:List E):Int:=l.foldl wtF 0
def wtB (l:List E):Int:=if oQ l=0 then wtL l else 0
structure XW where
 i:Int
 n:Int
def lsF:JT→List E→List E
 |_,[]=>[]
 |J,y :: l=>if yt J.u (ri y 0) (ri y 1)=true then [D.int (ri y 0),D.int (ri y 1),D.int (ri y 2)] :: lsF (jF J y) l else lsF (jF J y) l
def aae (l:List E):List E:=if oQ l=0 then lsF j0 (Zn l) else []
structure XO where
 i:Int
 o:List E
 J:JT
structure Sp where
 UU:List E→JT
 s_B:List Int→Int→Int→Bool
 s_U:List Int→Int→Int→List Int
 s_Z:List Int→List Int→Int→Int→List Int
 s_S:List Int→Int→Int→Int→Int
 GN:List Int→List Int→Bool
 SM:List Int
 RJ:List Int
 QR:List E→Bool
 abl:List E→Int
 s_e:List E→Int
 abI:List E→Int
 AE:List E→List E
 abf:List Int→Bool
 abk:List Int→Int→Int→Bool
 abc:List Int→Int→Int→List Int
 abx:List E→Int→Int→Bool
 Fu:List E→Bool
def Sp.U:Sp:=⟨jJ,yt,LO,ID,JX,MG,iota 64,kS 64,kU,wtB,oQ,wtL,aae,LM,QX,YR,lkB,fun l=>decide (l.length≤1000000)⟩
def tw (F:Sp):aY:=fun xs h=>match xs,h with
 |[.agg [.val (.int .i64 e_a),.val (.int .i64 e_b),.val (.int .i64 _)],.one (.ptr 0 0)],[(0,.cells 239 [.ptr 1 0]),(1,.cells 256 [.own 2,.own 3,.val (.int .i64 s)]),(2,.row 3 (.ints .i64 u)),(3,.row 3 (.ints .i64 z))]=>some ⟨F.GN u z=true,.sa (B (!(F.s_B u e_a e_b))),[(0,.cells 239 [.ptr 1 0]),(1,.cells 256 [.own 2,.own 3,.val (.int .i64 (F.s_S u s e_a e_b))]),(2,.row 3 (.ints .i64 (F.s_U u e_a e_b))),(3,.row 3 (.ints .i64 (F.s_Z u z e_a e_b)))],[Any,.one (.ptr 0 0)]⟩
 |_,_=>none
theorem Ix (e_a:Int) (e_b:Int) (e_w:Int) (s:Int) (u:List Int) (z:List Int) (hC:Sp.U.GN u z=true):aV [(201,qF JoR.Fs.U)] Tryz.f200 [.agg [.val (.int .i64 e_a),.val (.int .i64 e_b),.val (.int .i64 e_w)],.one (.ptr 0 0)] [(0,.cells 239 [.ptr 1 0]),(1,.cells 256 [.own 2,.own 3,.val (.int .i64 s)]),(2,.row 3 (.ints .i64 u)),(3,.row 3 (.ints .i64 z))] ⟨Sp.U.GN u z=true,.sa (B (!(Sp.U.s_B u e_a e_b))),[(0,.cells 239 [.ptr 1 0]),(1,.cells 256 [.own 2,.own 3,.val (.int .i64 (Sp.U.s_S u s e_a e_b))]),(2,.row 3 (.ints .i64 (Sp.U.s_U u e_a e_b))),(3,.row 3 (.ints .i64 (Sp.U.s_Z u z e_a e_b)))],[Any,.one (.ptr 0 0)]⟩:=by
 intro b gv
 have hk:MG u z=true:=hC
 have hfs:=(af.cons ng af.nil rfl)
 generalize hF:Sp.U=F at hC hfs ⊢
 generalize hG0:JoR.Fs.U=G0 at hC hfs ⊢
 generalize hG1:JoN.Ns.U=G1 at hC hfs ⊢
 generalize hG2:EgR.Fs.U=G2 at hC hfs ⊢
 generalize hA:Ar.U=A
 generalize hL:Lp _ _ _=L
 obtain⟨Z,zq⟩:=aQ
 refine @aD _ _ _ _ _ _ _ (ae hL) _ _ zq rfl ?_
 repeat' (first|(refine aw zq ?_;try dsimp only)|refine ax zq ?_ (ae hL)|refine az zq ?_|refine ay ?_|refine aq ?_|refine ar ?_|refine av ?_|refine au rfl ?_|refine ai rfl ?_|refine aj rfl ?_|(refine Cd.mk ?_;cbv)|(refine aE.mk ?_;cbv)|(refine aM.mk ?_;cbv)|exact trivial|refine And.intro ?_ ?_|refine bu fun _=>?_|refine br fun _=>?_)
 all_goals
  clear hL zq Z hfs
  subst hA hF hG0 hG1 hG2
  simp only [Sp.U,JoR.Fs.U,Ar.U] at *
  try (grind [al])
theorem uU:aA Tryz.prog 200 (tw Sp.U):=by
 refine aG (af.cons ng af.nil rfl) Tryz.func200 rfl rfl fun xs h p hp=>?_
 unfold tw at hp
 split at hp
 ·cases hp
  exact⟨aB rfl,fun hC _=>@Ix _ _ _ _ _ _ hC⟩
 ·cases hp
def rM (F:Sp):aY:=fun xs h=>match xs,h with
 |[.one (.sl none (.ah (.int .i64 (.int .i64 (.int .i64 .nil))) l))],[]=>some ⟨F.Fu l=true,.sa (.one (.ptr 0 0)),[(0,.cells 256 [.own 1,.own 2,.val (.int .i64 (F.UU l).s)]),(1,.row 3 (.ints .i64 (F.UU l).u)),(2,.row 3 (.ints .i64 (F.UU l).z))],[Any]⟩
 |_,_=>none
theorem KC (l:List E) (hC:Sp.U.Fu l=true):aV [(213,Iy JoN.Ns.U),(201,qF JoR.Fs.U)] Tryz.f199 [.one (.sl none (.ah (.int .i64 (.int .i64 (.int .i64 .nil))) l))] [] ⟨Sp.U.Fu l=true,.sa (.one (.ptr 0 0)),[(0,.cells 256 [.own 1,.own 2,.val (.int .i64 (Sp.U.UU l).s)]),(1,.row 3 (.ints .i64 (Sp.U.UU l).u)),(2,.row 3 (.ints .i64 (Sp.U.UU l).z))],[Any]⟩:=by
 intro b gv
 have hk:l.length≤1000000:=of_decide_eq_true (show decide (l.length≤1000000)=true from hC)
 have hfs:=(af.cons Jg (af.cons ng af.nil rfl) rfl)
 generalize hF:Sp.U=F at hC hfs ⊢
 generalize hG0:JoR.Fs.U=G0 at hC hfs ⊢
 generalize hG1:JoN.Ns.U=G1 at hC hfs ⊢
 generalize hG2:EgR.Fs.U=G2 at hC hfs ⊢
 generalize hA:Ar.U=A
 generalize hL:Lp _ _ _=L
 obtain⟨Z,zq⟩:=aQ
 refine @aD _ _ _ _ _ _ _ (ae hL) _ _ zq rfl ?_
 repeat' (first|(refine aw zq ?_;try dsimp only)|refine ax zq ?_ (ae hL)|refine az zq ?_|refine ay ?_|refine aq ?_|refine ar ?_|refine av ?_|refine au rfl ?_|refine ai rfl ?_|refine aj rfl ?_|(refine Cd.mk ?_;cbv)|(refine aE.mk ?_;cbv)|(refine aM.mk ?_;cbv)|exact trivial|refine And.intro ?_ ?_|refine bu fun _=>?_|refine br fun _=>?_)
 all_goals first|(show L _ _ _;skip)|(clear hfs hL zq Z;subst hA hF hG0 hG1 hG2;simp only [Sp.U,JoR.Fs.U,JoN.Ns.U] at * <;> grind [al,vN];done)
 subst hL
 refine ba (bx hfs) (VR l) (sjI A l) (sjM l) sjR ⟨0,⟨64,G1.RQ 64,G1.To 64⟩⟩ ?_ ?_ ?_
 ·exact (by subst hG1;exact Po l)
 ·cbv
  repeat' (first|exact trivial|exact rfl|refine And.intro ?_ ?_)
 rintro⟨i,⟨s,u,z⟩⟩ hq O hO
 have hst:=fun h=>OK l i s u z hq h hk
 have hen:=Us l i s u z hq
 have q0:=hq.1
 have q1:=hq.2.1
 dsimp only at q0 q1
 subst hA
 generalize hA:Ar.U=A
 generalize hL:Lp _ _ _=L
 refine aR zq ?_
 repeat' (first|(refine aw zq ?_;try dsimp only)|refine ax zq ?_ (ae hL)|refine az zq ?_|refine ay ?_|refine aq ?_|refine ar ?_|refine av ?_|refine au rfl ?_|refine ai rfl ?_|refine aj rfl ?_|(refine Cd.mk ?_;cbv)|(refine aE.mk ?_;cbv)|(refine aM.mk ?_;cbv)|exact trivial|refine And.intro ?_ ?_|refine bu fun _=>?_|refine br fun _=>?_)
 all_goals (clear hL hfs zq Z hq;subst hA hF hG0 hG1 hG2 hO;simp only [Sp.U,JoR.Fs.U,Ar.U] at * <;> grind [al,sjM])
theorem uO:aA Tryz.prog 199 (rM Sp.U):=by
 refine aG (af.cons Jg (af.cons ng af.nil rfl) rfl) Tryz.func199 rfl rfl fun xs h p hp=>?_
 unfold rM at hp
 split at hp
 ·cases hp
  exact⟨aB rfl,fun hC _=>@KC _ hC⟩
 ·cases hp
def sO (F:Sp):aY:=fun xs h=>match xs,h with
 |[],[]=>some ⟨True,.sa (.one (.fn 200 0)),[(0,.cells 239 [.ptr 1 0]),(1,.cells 256 [.own 2,.own 3,.val (.int .i64 64)]),(2,.row 3 (.ints .i64 F.SM)),(3,.row 3 (.ints .i64 F.RJ))],[]⟩
 |_,_=>none
theorem GQ:aV [(199,Qy [some (.ah (.int .i64 (.int .i64 (.int .i64 .nil))) [])] (rM Sp.U))] Tryz.f172 [] [] ⟨True,.sa (.one (.fn 200 0)),[(0,.cells 239 [.ptr 1 0]),(1,.cells 256 [.own 2,.own 3,.val (.int .i64 64)]),(2,.row 3 (.ints .i64 Sp.U.SM)),(3,.row 3 (.ints .i64 Sp.U.RJ))],[]⟩:=by
 intro b gv
 have hfs:=(af.cons (zK [some (.ah (.int .i64 (.int .i64 (.int .i64 .nil))) [])] uO) af.nil rfl)
 generalize hF:Sp.U=F at hfs ⊢
 generalize hG0:JoR.Fs.U=G0 at hfs ⊢
 generalize hG1:JoN.Ns.U=G1 at hfs ⊢
 generalize hG2:EgR.Fs.U=G2 at hfs ⊢
 generalize hA:Ar.U=A
 generalize hL:Lp _ _ _=L
 obtain⟨Z,zq⟩:=aQ
 refine @aD _ _ _ _ _ _ _ (ae hL) _ _ zq rfl ?_
 repeat' (first|(refine aw zq ?_;try dsimp only)|refine ax zq ?_ (ae hL)|refine az zq ?_|refine ay ?_|refine aq ?_|refine ar ?_|refine av ?_|refine au rfl ?_|refine ai rfl ?_|refine aj rfl ?_|(refine Cd.mk ?_;cbv)|(refine aE.mk ?_;cbv)|(refine aM.mk ?_;cbv)|exact trivial|refine And.intro ?_ ?_|refine bu fun _=>?_|refine br fun _=>?_)
 all_goals
  clear hL zq Z hfs
  subst hA hF hG0 hG1 hG2
  simp only [Sp.U] at *
  try (grind [al,jJ,j0])
theorem vu:aA Tryz.prog 172 (sO Sp.U):=by
 refine aG (af.cons (zK [some (.ah (.int .i64 (.int .i64 (.int .i64 .nil))) [])] uO) af.nil rfl) Tryz.func172 rfl rfl fun xs h p hp=>?_
 unfold sO at hp
 split at hp
 ·cases hp
  exact⟨aB rfl,fun _ _=>@GQ ⟩
 ·cases hp
def ia (F:Sp):aY:=fun xs h=>match xs,h with
 |[.one (.sl none (.ah (.int .i64 (.int .i64 (.int .i64 .nil))) l))],[]=>some ⟨F.Fu l=true,.sa (B (F.QR l)),[],[Any]⟩
 |_,_=>none
theorem Jv (l:List E) (hC:Sp.U.Fu l=true):aV [(171,kr EgR.Fs.U),(172,sO Sp.U),(200,tw Sp.U)] Tryz.f153 [.one (.sl none (.ah (.int .i64 (.int .i64 (.int .i64 .nil))) l))] [] ⟨Sp.U.Fu l=true,.sa (B (Sp.U.QR l)),[],[Any]⟩:=by
 intro b gv
 have hk:l.length≤1000000:=of_decide_eq_true (show decide (l.length≤1000000)=true from hC)
 have hfs:=(af.cons nG (af.cons vu (af.cons uU af.nil rfl) rfl) rfl)
 generalize hF:Sp.U=F at hC hfs ⊢
 generalize hG0:JoR.Fs.U=G0 at hC hfs ⊢
 generalize hG1:JoN.Ns.U=G1 at hC hfs ⊢
 generalize hG2:EgR.Fs.U=G2 at hC hfs ⊢
 generalize hA:Ar.U=A
 generalize hL:Lp _ _ _=L
 obtain⟨Z,zq⟩:=aQ
 refine @aD _ _ _ _ _ _ _ (ae hL) _ _ zq rfl ?_
 repeat' (first|(refine aw zq ?_;try dsimp only)|refine ax zq ?_ (ae hL)|refine az zq ?_|refine ay ?_|refine aq ?_|refine ar ?_|refine av ?_|refine au rfl ?_|refine ai rfl ?_|refine aj rfl ?_|(refine Cd.mk ?_;cbv)|(refine aE.mk ?_;cbv)|(refine aM.mk ?_;cbv)|exact trivial|refine And.intro ?_ ?_|refine bu fun _=>?_|refine br fun _=>?_)
 all_goals first|(show L _ _ _;skip)|(clear hfs hL zq Z;subst hA hF hG0 hG1 hG2;simp only [Sp.U,EgR.Fs.U,Ar.U] at * <;> grind [al,kU];done)
 rename_i hx
 subst hL
 refine ba (bx hfs) (WM l) (foI A l) (foM l) foR ⟨0,⟨64,F.SM,F.RJ⟩⟩ ?_ ?_ ?_
 ·exact (by subst hF;exact Oq l)
 ·cbv
  repeat' (first|exact trivial|exact rfl|refine And.intro ?_ ?_)
 rintro⟨i,⟨s,u,z⟩⟩ hq O hO
 have hst:=fun h=>MC l i s u z hq h hk
 have hen:=Uf l i s u z hq
 have q0:=hq.1
 have q1:=hq.2.1
 dsimp only at q0 q1
 subst hA
 generalize hA:Ar.U=A
 generalize hL:Lp _ _ _=L
 refine aR zq ?_
 repeat' (first|(refine aw zq ?_;try dsimp only)|refine ax zq ?_ (ae hL)|refine az zq ?_|refine ay ?_|refine aq ?_|refine ar ?_|refine av ?_|refine au rfl ?_|refine ai rfl ?_|refine aj rfl ?_|(refine Cd.mk ?_;cbv)|(refine aE.mk ?_;cbv)|(refine aM.mk ?_;cbv)|exact trivial|refine And.intro ?_ ?_|refine bu fun _=>?_|refine br fun _=>?_)
 all_goals (clear hL hfs zq Z hq;subst hA hF hG0 hG1 hG2 hO;simp only [Sp.U,EgR.Fs.U,Ar.U] at * <;> grind [al,foM,kU])
theorem eR:aA Tryz.prog 153 (ia Sp.U):=by
 refine aG (af.cons nG (af.cons vu (af.cons uU af.nil rfl) rfl) rfl) Tryz.func153 rfl rfl fun xs h p hp=>?_
 unfold ia at hp
 split at hp
 ·cases hp
  exact⟨aB rfl,fun hC _=>@Jv _ hC⟩
 ·cases hp
end Go.Proofs.YtelhldgdnlppfaaGreat.SpR
