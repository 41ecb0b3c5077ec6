
/-
  forests yz the reckoner: what tells whether an edge closes a circle. No condition.
-/
import Derived.Test.YtelhldgdnlppfaaGreatVdRyOp
import Derived.Test.YtelhldgdnlppfaaGreatVdJoW
import Derived.Test.YtelhldgdnlppfaaGreatVdW24
set_option maxHeartbeats 2000000
set_option maxRecDepth 100000
namespace Go.Proofs.YtelhldgdnlppfaaGreat.Ry
open Go
def rL (c1 c2:aZ):aZ:=fun xs h=>match c1 xs h with
 |some p=>some p
 |none=>c2 xs h
theorem Ao {f:FuncId} {c1 c2:aZ} (h1:aA Tryz.prog f c1) (h2:aA Tryz.prog f c2):aA Tryz.prog f (rL c1 c2):=by
 refine⟨h1.1,fun args h p hc=>?_⟩
 unfold rL at hc
 split at hc
 ·rename_i q hq
  cases hc
  exact h1.2 args h _ hq
 ·exact h2.2 args h p hc
end Go.Proofs.YtelhldgdnlppfaaGreat.Ry
namespace Go.Proofs.YtelhldgdnlppfaaGreat.JoN
open Go Ry JoS JoR JoW
def vN (n:Int):Bool:=decide (0≤n∧n≤4096)
def yG (v:Int→Int) (n i:Int):List Int:=(List.range (n+1).toNat).map fun j:Nat=>if (j:Int) < i then v j else 0
theorem JA (v:Int→Int) (n i:Int) (h0:0≤i) (_:i≤n):(yG v n i).set i.toNat (v i)=yG v n (i+1):=by
 apply List.ext_getElem
 ·simp [yG]
 ·intro k h1 h2
  simp only [yG,List.getElem_set,List.getElem_map,List.getElem_range]
  by_cases hk:i.toNat=k
  ·have e:(k:Int)=i:=by omega
   have l:(k:Int) < i+1:=by omega
   rw [if_pos hk,if_pos l,e]
  ·rw [if_neg hk]
   by_cases hl:(k:Int) < i
   ·rw [if_pos hl,if_pos (by omega)]
   ·rw [if_neg hl,if_neg (by omega)]
theorem wS (v:Int→Int) (n:Int) (h0:0≤n) (h:n≤4096):List.replicate (aN .add .i64 n 1).toNat 0=yG v n 0:=by
 rw [bp,wr _ (by omega) (by omega)]
 apply List.ext_getElem
 ·simp [yG]
 ·intro k h1 h2
  simp only [yG,List.getElem_replicate,List.getElem_map,List.getElem_range]
  rw [if_neg (by omega)]
theorem Cf (v:Int→Int) (n i:Int):(yG v n i).length=(n+1).toNat:=by simp [yG]
theorem HR (v:Int→Int) (n:Int):yG v n (n+1)=(List.range (n+1).toNat).map fun j:Nat=>v j:=by
 unfold yG
 apply List.map_congr_left
 intro j hj
 have:=List.mem_range.1 hj
 rw [if_pos (by omega)]
theorem PX (n:Int):yG id n (n+1)=iota n:=HR id n
theorem My (n:Int):yG (fun _=>1) n (n+1)=kW n:=by
 rw [HR]
 unfold kW
 apply List.ext_getElem
 ·simp
 ·intro k h1 h2
  simp
structure XN where
 i:Int
 u:List Int
 z:List Int
def nwQ (n:Int) (y:XN):Prop:=0≤y.i∧y.i≤n+1∧y.u=yG id n y.i∧y.z=yG (fun _=>1) n y.i
noncomputable def nwI (A:Ar) (n:Int) (y:XN):St:=cg Tryz.f213.ntmps [(4,.ptr 1 0),(25,.val (.int .i64 (A.fN (A.wD (A.bin .add .i64 n 1))))),(26,.val (.int .i64 y.i))] [(1,.cells 256 [.own 2,.own 3,.val (.int .i64 n)]),(2,.row 3 (.ints .i64 y.u)),(3,.row 3 (.ints .i64 y.z))] [Any]
def nwM (n:Int) (y:XN):Nat:=(n+1 - y.i).toNat
def nwR (st:St):XN:=⟨bQ st 26,Ca st.heap (gF st 4 0),Ca st.heap (gF st 4 1)⟩
structure Ns where
 n_v:Int→Bool
 Sf:Int→List Int
 RV:Int→List Int
 f:Fs
def Ns.U:Ns:=⟨vN,iota,kW,Fs.U⟩
def KV (F:Ns):aZ:=fun xs h=>match xs,h with
 |[.one (.val (.int .i64 n))],[]=>some ⟨F.n_v n=true,.bJ [.one (.ptr 0 0),I 0],[(0,.cells 256 [.own 1,.own 2,.val (.int .i64 n)]),(1,.row 3 (.ints .i64 (F.Sf n))),(2,.row 3 (.ints .i64 (F.RV n)))],[Any]⟩
 |_,_=>none
theorem ZM (n:Int) (hC:Ns.U.n_v n=true):aU [] Tryz.f213 [.one (.val (.int .i64 n))] [] ⟨Ns.U.n_v n=true,.bJ [.one (.ptr 0 0),I 0],[(0,.cells 256 [.own 1,.own 2,.val (.int .i64 n)]),(1,.row 3 (.ints .i64 (Ns.U.Sf n))),(2,.row 3 (.ints .i64 (Ns.U.RV n)))],[Any]⟩:=by
 intro b gv
 have hk:=of_decide_eq_true (show vN n=true from hC)
 have hfs:=af.nil
 generalize hF:Ns.U=F at hC hfs ⊢
 generalize hA:Ar.U=A
 generalize hL:Lp _ _ _=L
 obtain⟨Z,zq⟩:=aP
 refine @aD _ _ _ _ _ _ _ (aa hL) _ _ zq rfl ?_
 repeat' (first|(refine ay zq ?_;try dsimp only)|refine ax zq ?_ (aa hL)|refine aw zq ?_|refine az ?_|refine av ?_|refine au ?_|refine aq ?_|refine ar rfl ?_|refine ai rfl ?_|refine aj rfl ?_|(refine Cd.mk ?_;cbv)|(refine aE.mk ?_;cbv)|(refine aJ.mk ?_;cbv)|exact trivial|refine And.intro ?_ ?_|refine bn fun _=>?_|refine bo fun _=>?_)
 all_goals first|(show L _ _ _;skip)|(clear hfs hL zq Z;subst hF hA;simp only [Ar.U] at * <;> grind [al,bp,wr])
 rename_i hx
 clear hx
 subst hL
 refine aX (br hfs) (nwQ n) (nwI A n) (nwM n) nwR ⟨0,A.wD (A.bin .add .i64 n 1),A.wD (A.bin .add .i64 n 1)⟩ ?_ ?_ ?_
 ·subst hA
  exact⟨Int.le_refl 0,show (0:Int)≤n+1 by omega,wS _ n hk.1 hk.2,wS _ n hk.1 hk.2⟩
 ·cbv
  repeat' (first|exact trivial|exact rfl|refine And.intro ?_ ?_)
 rintro⟨i,u,z⟩ ⟨q0,q1,q2,q3⟩ O hO
 dsimp only at q0 q1 q2 q3
 have g1:i≤n→u.set i.toNat i=yG id n (i+1):=fun h=>by rw [q2];exact JA id n i q0 h
 have g2:i≤n→z.set i.toNat 1=yG (fun _=>1) n (i+1):=fun h=>by rw [q3];exact JA (fun _=>1) n i q0 h
 have l1:u.length=(n+1).toNat:=by rw [q2];exact Cf _ _ _
 have l2:z.length=(n+1).toNat:=by rw [q3];exact Cf _ _ _
 have e1:i=n+1→u=iota n∧z=kW n:=fun h=>by rw [q2,q3,h];exact⟨PX n,My n⟩
 have hlen:(List.replicate (aN .add .i64 n 1).toNat (0:Int)).length=(n+1).toNat:=by rw [wS id n hk.1 hk.2];exact Cf _ _ _
 subst hA
 generalize hA:Ar.U=A
 generalize hL:Lp _ _ _=L
 refine aO zq ?_
 repeat' (first|(refine ay zq ?_;try dsimp only)|refine ax zq ?_ (aa hL)|refine aw zq ?_|refine az ?_|refine av ?_|refine au ?_|refine aq ?_|refine ar rfl ?_|refine ai rfl ?_|refine aj rfl ?_|(refine Cd.mk ?_;cbv)|(refine aE.mk ?_;cbv)|(refine aJ.mk ?_;cbv)|exact trivial|refine And.intro ?_ ?_|refine bn fun _=>?_|refine bo fun _=>?_)
 all_goals (clear hL hfs zq Z;subst hA hF hO;simp only [Ns.U,Ar.U] at * <;> grind [al,bp,wr,nwQ,nwM])
theorem Iv:aA Tryz.prog 213 (KV Ns.U):=by
 refine aG af.nil Tryz.func213 rfl rfl fun xs h p hp=>?_
 unfold KV at hp
 split at hp
 ·cases hp
  exact⟨aB rfl,fun hC _=>@ZM _ hC⟩
 ·cases hp
end Go.Proofs.YtelhldgdnlppfaaGreat.JoN
namespace Go.Proofs.YtelhldgdnlppfaaGreat.SpR
open Go Ry Go.Proofs.YtelhldgdnlppfaaGreat.So JoS JoR JoW JoN EgR
structure JT where
 s:Int
 u:List Int
 z:List Int
def j0:JT:=⟨64,iota 64,kW 64⟩
def jF (J:JT) (y:E):JT:=⟨Ji J.u J.s (ri y 0) (ri y 1),LW J.u (ri y 0) (ri y 1),JV J.u J.z (ri y 0) (ri y 1)⟩
def jJ (l:List E):JT:=l.foldl jF j0
def GK (W:List Int) (J:JT):Prop:=W.length=65∧Jq W J.s J.u J.z
theorem JD:GK (iota 64) j0:=⟨by decide,zV 64 (by omega)⟩
theorem Ij {W:List Int} {J:JT} (h:GK W J) (y:E):GK (pq W (ri y 0) (ri y 1)) (jF J y):=⟨by rw [MZ];exact h.1,(tL h.2 (by rw [h.1];omega) _ _).1⟩
theorem Qn {W:List Int} {J:JT} (h:GK W J):NH J.u J.z=true:=by
 have h1:=Yt h.2.up h.2.ok (by rw [h.1];omega)
 unfold NH
 rw [h1,h.2.zl,h.2.up.len]
 simp
theorem DB:∀ (l:List E) {W:List Int} {J:JT},GK W J→∃ W',GK W' (l.foldl jF J)
 |[],W,_,h=>⟨W,h⟩
 |y :: l,_,_,h=>DB l (Ij h y)
theorem WJ (l:List E):∃ W,GK W (jJ l):=DB l JD
def uP:JT→List E→Bool
 |_,[]=>true
 |J,y :: l=>if yC J.u (ri y 0) (ri y 1)=true then uP (jF J y) l else false
def kV (l:List E):Bool:=decide (oM l=0) && uP j0 l
structure XS where
 i:Int
 J:JT
def Ww (l:List E) (y:XS):Prop:=0≤y.i∧y.i≤l.length∧y.J=jJ (l.take y.i.toNat)
def sjM (l:List E) (y:XS):Nat:=l.length - y.i.toNat
noncomputable def sjI (A:Ar) (l:List E) (y:XS):St:=cg Tryz.f199.ntmps [(0,.sl none (.ah (.int .i64 (.int .i64 (.int .i64 .nil))) l)),(3,.ptr 1 0),(11,.sl none (.ah (.int .i64 (.int .i64 (.int .i64 .nil))) l)),(12,.val (.int .i64 (A.dK l))),(13,.val (.int .i64 y.i))] [(1,.cells 256 [.own 2,.own 3,.val (.int .i64 y.J.s)]),(2,.row 3 (.ints .i64 y.J.u)),(3,.row 3 (.ints .i64 y.J.z))] [Any]
def sjR (st:St):XS:=⟨bQ st 13,⟨uA (gF st 3 2),Ca st.heap (gF st 3 0),Ca st.heap (gF st 3 1)⟩⟩
theorem NG (l:List E):Ww l ⟨0,⟨64,iota 64,kW 64⟩⟩:=⟨Int.le_refl 0,Int.natCast_nonneg _,rfl⟩
theorem OA (l:List E) (i s:Int) (u z:List Int) (hq:Ww l ⟨i,⟨s,u,z⟩⟩) (h:i < l.length) (hl:l.length≤1000000) :
  aN .add .i64 i 1=i+1∧NH u z=true∧Ww l ⟨i+1,⟨Ji u s (ri (l.getD i.toNat []) 0) (ri (l.getD i.toNat []) 1),LW u (ri (l.getD i.toNat []) 0) (ri (l.getD i.toNat []) 1),JV u z (ri (l.getD i.toNat []) 0) (ri (l.getD i.toNat []) 1)⟩⟩:=by
 obtain⟨h0,h1,h2⟩:=hq
 simp only at h0 h1 h2
 obtain⟨W,hW⟩:=WJ (l.take i.toNat)
 have hz:=Qn hW
 rw [← h2] at hz
 refine⟨by rw [bp,wr _ (by omega) (by omega)],hz,by simp only;omega,by simp only;omega,?_⟩
 simp only
 rw [eO l i h0 h]
 unfold jJ at h2 ⊢
 rw [List.foldl_append,← h2]
 rfl
theorem UN (l:List E) (i s:Int) (u z:List Int) (hq:Ww l ⟨i,⟨s,u,z⟩⟩) (h:¬i < l.length):s=(jJ l).s∧u=(jJ l).u∧z=(jJ l).z:=by
 obtain⟨h0,h1,h2⟩:=hq
 simp only at h0 h1 h2
 have e:i=l.length:=by omega
 rw [e,Int.toNat_natCast,List.take_length] at h2
 rw [← h2]
 exact⟨rfl,rfl,rfl⟩
def Zh (l:List E) (y:XS):Prop:=0≤y.i∧y.i≤l.length∧(∃ W,GK W y.J)∧uP j0 l=uP y.J (l.drop y.i.toNat)
def foM (l:List E) (y:XS):Nat:=l.length - y.i.toNat
noncomputable def foI (A:Ar) (l:List E) (y:XS):St:=cg Tryz.f153.ntmps [(0,.sl none (.ah (.int .i64 (.int .i64 (.int .i64 .nil))) l)),(3,.fn 200 1),(10,.sl none (.ah (.int .i64 (.int .i64 (.int .i64 .nil))) l)),(11,.val (.int .i64 (A.dK l))),(12,.val (.int .i64 y.i))] [(1,.cells 239 [.ptr 2 0]),(2,.cells 256 [.own 3,.own 4,.val (.int .i64 y.J.s)]),(3,.row 3 (.ints .i64 y.J.u)),(4,.row 3 (.ints .i64 y.J.z))] [Any]
def nmC:SC→Nat
 |.ptr n _ | .fn _ n | .own n=>n
 |_=>0
def DG (h:H) (n j:Nat):SC:=match ak h n with
 |some (.cells _ cs)=>cs.getD j .any
 |_=>.any
def foR (st:St):XS:=let n:=nmC (DG st.heap (nmC (kE st 3)) 0);⟨bQ st 12,⟨uA (DG st.heap n 2),Ca st.heap (DG st.heap n 0),Ca st.heap (DG st.heap n 1)⟩⟩
theorem Og (l:List E):Zh l ⟨0,⟨64,iota 64,kW 64⟩⟩:=⟨Int.le_refl 0,Int.natCast_nonneg _,⟨_,JD⟩,rfl⟩
theorem Mk (l:List E) (i s:Int) (u z:List Int) (hq:Zh l ⟨i,⟨s,u,z⟩⟩) (h:i < l.length) (hl:l.length≤1000000) :
  aN .add .i64 i 1=i+1∧NH u z=true∧(yC u (ri (l.getD i.toNat []) 0) (ri (l.getD i.toNat []) 1)=true→Zh l ⟨i+1,⟨Ji u s (ri (l.getD i.toNat []) 0) (ri (l.getD i.toNat []) 1),LW u (ri (l.getD i.toNat []) 0) (ri (l.getD i.toNat []) 1),JV u z (ri (l.getD i.toNat []) 0) (ri (l.getD i.toNat []) 1)⟩⟩) ∧
  (yC u (ri (l.getD i.toNat []) 0) (ri (l.getD i.toNat []) 1)=false→uP j0 l=false):=by
 obtain⟨h0,h1,⟨W,h2⟩,h3⟩:=hq
 simp only at h0 h1 h2 h3
 have hi:i.toNat < l.length:=by omega
 have e:(i+1).toNat=i.toNat+1:=by omega
 have eg:l.getD i.toNat []=l[i.toNat]:=by rw [List.getD_eq_getElem?_getD,List.getElem?_eq_getElem hi];rfl
 rw [List.drop_eq_getElem_cons hi,← eg] at h3
 refine⟨by rw [bp,wr _ (by omega) (by omega)],Qn h2,fun g=>⟨by simp only;omega,by simp only;omega,⟨_,Ij h2 (l.getD i.toNat [])⟩,?_⟩,fun g=>?_⟩
 ·rw [h3]
  simp only [uP]
  rw [if_pos g,e]
  rfl
 ·rw [h3]
  simp only [uP]
  rw [g]
  rfl
theorem UM (l:List E) (i s:Int) (u z:List Int) (hq:Zh l ⟨i,⟨s,u,z⟩⟩) (h:¬i < l.length):uP j0 l=true:=by
 obtain⟨h0,h1,h2,h3⟩:=hq
 simp only at h0 h1 h2 h3
 rw [h3,List.drop_eq_nil_of_le (by omega)]
 rfl
def QT (u:List Int) (a d:Int):Bool:=decide (¬jP u a=0∧jP u a=jP (lg u a) d)
def Ya (u:List Int) (a d:Int):List Int:=if jP u a=0 then lg u a else lg (lg u a) d
def lkB (l:List E) (a b:Int):Bool:=decide (oM l=0) && QT (jJ l).u a b
def wtF (n:Int) (y:E):Int:=aN .add .i64 n (ri y 2)
def wtL (l:List E):Int:=l.foldl wtF 0
def wtB (l:List E):Int:=if oM l=0 then wtL l else 0
structure XW where
 i:Int
 n:Int
def lsF:JT→List E→List E
 |_,[]=>[]
 |J,y :: l=>if yC J.u (ri y 0) (ri y 1)=true then [D.int (ri y 0),D.int (ri y 1),D.int (ri y 2)] :: lsF (jF J y) l else lsF (jF J y) l
def aaO (l:List E):List E:=if oM l=0 then lsF j0 (Wi l) else []
structure XO where
 i:Int
 o:List E
 J:JT
structure Sp where
 VH:List E→JT
 s_B:List Int→Int→Int→Bool
 s_U:List Int→Int→Int→List Int
 s_Z:List Int→List Int→Int→Int→List Int
 s_S:List Int→Int→Int→Int→Int
 Iq:List Int→List Int→Bool
 UB:List Int
 TB:List Int
 RF:List E→Bool
 abN:List E→Int
 s_e:List E→Int
 abF:List E→Int
 zu:List E→List E
 abg:List Int→Bool
 abR:List Int→Int→Int→Bool
 abd:List Int→Int→Int→List Int
 abS:List E→Int→Int→Bool
 FZ:List E→Bool
def Sp.U:Sp:=⟨jJ,yC,LW,JV,Ji,NH,iota 64,kW 64,kV,wtB,oM,wtL,aaO,Md,QT,Ya,lkB,fun l=>decide (l.length≤1000000)⟩
def sx (F:Sp):aZ:=fun xs h=>match xs,h with
 |[.agg [.val (.int .i64 e_a),.val (.int .i64 e_b),.val (.int .i64 _)],.one (.ptr 0 0)],[(0,.cells 239 [.ptr 1 0]),(1,.cells 256 [.own 2,.own 3,.val (.int .i64 s)]),(2,.row 3 (.ints .i64 u)),(3,.row 3 (.ints .i64 z))]=>some ⟨F.Iq u z=true,.sa (B (!(F.s_B u e_a e_b))),[(0,.cells 239 [.ptr 1 0]),(1,.cells 256 [.own 2,.own 3,.val (.int .i64 (F.s_S u s e_a e_b))]),(2,.row 3 (.ints .i64 (F.s_U u e_a e_b))),(3,.row 3 (.ints .i64 (F.s_Z u z e_a e_b)))],[Any,.one (.ptr 0 0)]⟩
 |_,_=>none
theorem KQ (e_a:Int) (e_b:Int) (e_w:Int) (s:Int) (u:List Int) (z:List Int) (hC:Sp.U.Iq u z=true):aU [(201,ry JoR.Fs.U)] Tryz.f200 [.agg [.val (.int .i64 e_a),.val (.int .i64 e_b),.val (.int .i64 e_w)],.one (.ptr 0 0)] [(0,.cells 239 [.ptr 1 0]),(1,.cells 256 [.own 2,.own 3,.val (.int .i64 s)]),(2,.row 3 (.ints .i64 u)),(3,.row 3 (.ints .i64 z))] ⟨Sp.U.Iq u z=true,.sa (B (!(Sp.U.s_B u e_a e_b))),[(0,.cells 239 [.ptr 1 0]),(1,.cells 256 [.own 2,.own 3,.val (.int .i64 (Sp.U.s_S u s e_a e_b))]),(2,.row 3 (.ints .i64 (Sp.U.s_U u e_a e_b))),(3,.row 3 (.ints .i64 (Sp.U.s_Z u z e_a e_b)))],[Any,.one (.ptr 0 0)]⟩:=by
 intro b gv
 have hk:NH u z=true:=hC
 have hfs:=(af.cons ny af.nil rfl)
 generalize hF:Sp.U=F at hC hfs ⊢
 generalize hG0:JoR.Fs.U=G0 at hC hfs ⊢
 generalize hG1:JoN.Ns.U=G1 at hC hfs ⊢
 generalize hG2:EgR.Fs.U=G2 at hC hfs ⊢
 generalize hA:Ar.U=A
 generalize hL:Lp _ _ _=L
 obtain⟨Z,zq⟩:=aP
 refine @aD _ _ _ _ _ _ _ (aa hL) _ _ zq rfl ?_
 repeat' (first|(refine ay zq ?_;try dsimp only)|refine ax zq ?_ (aa hL)|refine aw zq ?_|refine az ?_|refine av ?_|refine au ?_|refine aq ?_|refine ar rfl ?_|refine ai rfl ?_|refine aj rfl ?_|(refine Cd.mk ?_;cbv)|(refine aE.mk ?_;cbv)|(refine aJ.mk ?_;cbv)|exact trivial|refine And.intro ?_ ?_|refine bn fun _=>?_|refine bo fun _=>?_)
 all_goals
  clear hL zq Z hfs
  subst hA hF hG0 hG1 hG2
  simp only [Sp.U,JoR.Fs.U,Ar.U] at *
  try (grind [al])
theorem wc:aA Tryz.prog 200 (sx Sp.U):=by
 refine aG (af.cons ny af.nil rfl) Tryz.func200 rfl rfl fun xs h p hp=>?_
 unfold sx at hp
 split at hp
 ·cases hp
  exact⟨aB rfl,fun hC _=>@KQ _ _ _ _ _ _ hC⟩
 ·cases hp
def sV (F:Sp):aZ:=fun xs h=>match xs,h with
 |[.one (.sl none (.ah (.int .i64 (.int .i64 (.int .i64 .nil))) l))],[]=>some ⟨F.FZ l=true,.sa (.one (.ptr 0 0)),[(0,.cells 256 [.own 1,.own 2,.val (.int .i64 (F.VH l).s)]),(1,.row 3 (.ints .i64 (F.VH l).u)),(2,.row 3 (.ints .i64 (F.VH l).z))],[Any]⟩
 |_,_=>none
theorem KT (l:List E) (hC:Sp.U.FZ l=true):aU [(213,KV JoN.Ns.U),(201,ry JoR.Fs.U)] Tryz.f199 [.one (.sl none (.ah (.int .i64 (.int .i64 (.int .i64 .nil))) l))] [] ⟨Sp.U.FZ l=true,.sa (.one (.ptr 0 0)),[(0,.cells 256 [.own 1,.own 2,.val (.int .i64 (Sp.U.VH l).s)]),(1,.row 3 (.ints .i64 (Sp.U.VH l).u)),(2,.row 3 (.ints .i64 (Sp.U.VH l).z))],[Any]⟩:=by
 intro b gv
 have hk:l.length≤1000000:=of_decide_eq_true (show decide (l.length≤1000000)=true from hC)
 have hfs:=(af.cons Iv (af.cons ny af.nil rfl) rfl)
 generalize hF:Sp.U=F at hC hfs ⊢
 generalize hG0:JoR.Fs.U=G0 at hC hfs ⊢
 generalize hG1:JoN.Ns.U=G1 at hC hfs ⊢
 generalize hG2:EgR.Fs.U=G2 at hC hfs ⊢
 generalize hA:Ar.U=A
 generalize hL:Lp _ _ _=L
 obtain⟨Z,zq⟩:=aP
 refine @aD _ _ _ _ _ _ _ (aa hL) _ _ zq rfl ?_
 repeat' (first|(refine ay zq ?_;try dsimp only)|refine ax zq ?_ (aa hL)|refine aw zq ?_|refine az ?_|refine av ?_|refine au ?_|refine aq ?_|refine ar rfl ?_|refine ai rfl ?_|refine aj rfl ?_|(refine Cd.mk ?_;cbv)|(refine aE.mk ?_;cbv)|(refine aJ.mk ?_;cbv)|exact trivial|refine And.intro ?_ ?_|refine bn fun _=>?_|refine bo fun _=>?_)
 all_goals first|(show L _ _ _;skip)|(clear hfs hL zq Z;subst hA hF hG0 hG1 hG2;simp only [Sp.U,JoR.Fs.U,JoN.Ns.U] at * <;> grind [al,vN];done)
 subst hL
 refine aX (br hfs) (Ww l) (sjI A l) (sjM l) sjR ⟨0,⟨64,G1.Sf 64,G1.RV 64⟩⟩ ?_ ?_ ?_
 ·exact (by subst hG1;exact NG l)
 ·cbv
  repeat' (first|exact trivial|exact rfl|refine And.intro ?_ ?_)
 rintro⟨i,⟨s,u,z⟩⟩ hq O hO
 have hst:=fun h=>OA l i s u z hq h hk
 have hen:=UN l i s u z hq
 have q0:=hq.1
 have q1:=hq.2.1
 dsimp only at q0 q1
 subst hA
 generalize hA:Ar.U=A
 generalize hL:Lp _ _ _=L
 refine aO zq ?_
 repeat' (first|(refine ay zq ?_;try dsimp only)|refine ax zq ?_ (aa hL)|refine aw zq ?_|refine az ?_|refine av ?_|refine au ?_|refine aq ?_|refine ar rfl ?_|refine ai rfl ?_|refine aj rfl ?_|(refine Cd.mk ?_;cbv)|(refine aE.mk ?_;cbv)|(refine aJ.mk ?_;cbv)|exact trivial|refine And.intro ?_ ?_|refine bn fun _=>?_|refine bo fun _=>?_)
 all_goals (clear hL hfs zq Z hq;subst hA hF hG0 hG1 hG2 hO;simp only [Sp.U,JoR.Fs.U,Ar.U] at * <;> grind [al,sjM])
theorem vD:aA Tryz.prog 199 (sV Sp.U):=by
 refine aG (af.cons Iv (af.cons ny af.nil rfl) rfl) Tryz.func199 rfl rfl fun xs h p hp=>?_
 unfold sV at hp
 split at hp
 ·cases hp
  exact⟨aB rfl,fun hC _=>@KT _ hC⟩
 ·cases hp
def rI (F:Sp):aZ:=fun xs h=>match xs,h with
 |[],[]=>some ⟨True,.sa (.one (.fn 200 0)),[(0,.cells 239 [.ptr 1 0]),(1,.cells 256 [.own 2,.own 3,.val (.int .i64 64)]),(2,.row 3 (.ints .i64 F.UB)),(3,.row 3 (.ints .i64 F.TB))],[]⟩
 |_,_=>none
theorem Ix:aU [(199,QQ [some (.ah (.int .i64 (.int .i64 (.int .i64 .nil))) [])] (sV Sp.U))] Tryz.f172 [] [] ⟨True,.sa (.one (.fn 200 0)),[(0,.cells 239 [.ptr 1 0]),(1,.cells 256 [.own 2,.own 3,.val (.int .i64 64)]),(2,.row 3 (.ints .i64 Sp.U.UB)),(3,.row 3 (.ints .i64 Sp.U.TB))],[]⟩:=by
 intro b gv
 have hfs:=(af.cons (Ab [some (.ah (.int .i64 (.int .i64 (.int .i64 .nil))) [])] vD) af.nil rfl)
 generalize hF:Sp.U=F at hfs ⊢
 generalize hG0:JoR.Fs.U=G0 at hfs ⊢
 generalize hG1:JoN.Ns.U=G1 at hfs ⊢
 generalize hG2:EgR.Fs.U=G2 at hfs ⊢
 generalize hA:Ar.U=A
 generalize hL:Lp _ _ _=L
 obtain⟨Z,zq⟩:=aP
 refine @aD _ _ _ _ _ _ _ (aa hL) _ _ zq rfl ?_
 repeat' (first|(refine ay zq ?_;try dsimp only)|refine ax zq ?_ (aa hL)|refine aw zq ?_|refine az ?_|refine av ?_|refine au ?_|refine aq ?_|refine ar rfl ?_|refine ai rfl ?_|refine aj rfl ?_|(refine Cd.mk ?_;cbv)|(refine aE.mk ?_;cbv)|(refine aJ.mk ?_;cbv)|exact trivial|refine And.intro ?_ ?_|refine bn fun _=>?_|refine bo fun _=>?_)
 all_goals
  clear hL zq Z hfs
  subst hA hF hG0 hG1 hG2
  simp only [Sp.U] at *
  try (grind [al,jJ,j0])
theorem vF:aA Tryz.prog 172 (rI Sp.U):=by
 refine aG (af.cons (Ab [some (.ah (.int .i64 (.int .i64 (.int .i64 .nil))) [])] vD) af.nil rfl) Tryz.func172 rfl rfl fun xs h p hp=>?_
 unfold rI at hp
 split at hp
 ·cases hp
  exact⟨aB rfl,fun _ _=>@Ix ⟩
 ·cases hp
def il (F:Sp):aZ:=fun xs h=>match xs,h with
 |[.one (.sl none (.ah (.int .i64 (.int .i64 (.int .i64 .nil))) l))],[]=>some ⟨F.FZ l=true,.sa (B (F.RF l)),[],[Any]⟩
 |_,_=>none
theorem JZ (l:List E) (hC:Sp.U.FZ l=true):aU [(171,jL EgR.Fs.U),(172,rI Sp.U),(200,sx Sp.U)] Tryz.f153 [.one (.sl none (.ah (.int .i64 (.int .i64 (.int .i64 .nil))) l))] [] ⟨Sp.U.FZ l=true,.sa (B (Sp.U.RF l)),[],[Any]⟩:=by
 intro b gv
 have hk:l.length≤1000000:=of_decide_eq_true (show decide (l.length≤1000000)=true from hC)
 have hfs:=(af.cons oG (af.cons vF (af.cons wc af.nil rfl) rfl) rfl)
 generalize hF:Sp.U=F at hC hfs ⊢
 generalize hG0:JoR.Fs.U=G0 at hC hfs ⊢
 generalize hG1:JoN.Ns.U=G1 at hC hfs ⊢
 generalize hG2:EgR.Fs.U=G2 at hC hfs ⊢
 generalize hA:Ar.U=A
 generalize hL:Lp _ _ _=L
 obtain⟨Z,zq⟩:=aP
 refine @aD _ _ _ _ _ _ _ (aa hL) _ _ zq rfl ?_
 repeat' (first|(refine ay zq ?_;try dsimp only)|refine ax zq ?_ (aa hL)|refine aw zq ?_|refine az ?_|refine av ?_|refine au ?_|refine aq ?_|refine ar rfl ?_|refine ai rfl ?_|refine aj rfl ?_|(refine Cd.mk ?_;cbv)|(refine aE.mk ?_;cbv)|(refine aJ.mk ?_;cbv)|exact trivial|refine And.intro ?_ ?_|refine bn fun _=>?_|refine bo fun _=>?_)
 all_goals first|(show L _ _ _;skip)|(clear hfs hL zq Z;subst hA hF hG0 hG1 hG2;simp only [Sp.U,EgR.Fs.U,Ar.U] at * <;> grind [al,kV];done)
 rename_i hx
 subst hL
 refine aX (br hfs) (Zh l) (foI A l) (foM l) foR ⟨0,⟨64,F.UB,F.TB⟩⟩ ?_ ?_ ?_
 ·exact (by subst hF;exact Og l)
 ·cbv
  repeat' (first|exact trivial|exact rfl|refine And.intro ?_ ?_)
 rintro⟨i,⟨s,u,z⟩⟩ hq O hO
 have hst:=fun h=>Mk l i s u z hq h hk
 have hen:=UM l i s u z hq
 have q0:=hq.1
 have q1:=hq.2.1
 dsimp only at q0 q1
 subst hA
 generalize hA:Ar.U=A
 generalize hL:Lp _ _ _=L
 refine aO zq ?_
 repeat' (first|(refine ay zq ?_;try dsimp only)|refine ax zq ?_ (aa hL)|refine aw zq ?_|refine az ?_|refine av ?_|refine au ?_|refine aq ?_|refine ar rfl ?_|refine ai rfl ?_|refine aj rfl ?_|(refine Cd.mk ?_;cbv)|(refine aE.mk ?_;cbv)|(refine aJ.mk ?_;cbv)|exact trivial|refine And.intro ?_ ?_|refine bn fun _=>?_|refine bo fun _=>?_)
 all_goals (clear hL hfs zq Z hq;subst hA hF hG0 hG1 hG2 hO;simp only [Sp.U,EgR.Fs.U,Ar.U] at * <;> grind [al,foM,kV])
theorem eZ:aA Tryz.prog 153 (il Sp.U):=by
 refine aG (af.cons oG (af.cons vF (af.cons wc af.nil rfl) rfl) rfl) Tryz.func153 rfl rfl fun xs h p hp=>?_
 unfold il at hp
 split at hp
 ·cases hp
  exact⟨aB rfl,fun hC _=>@JZ _ hC⟩
 ·cases hp
end Go.Proofs.YtelhldgdnlppfaaGreat.SpR
