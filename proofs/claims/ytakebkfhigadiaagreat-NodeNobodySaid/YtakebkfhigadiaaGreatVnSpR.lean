
/-
  forests je the reckoner: what tells whether an edge closes a circle. No condition.
-/
import Derived.Test.YtakebkfhigadiaaGreatVnJoN
import Derived.Test.YtakebkfhigadiaaGreatVnW29
set_option maxHeartbeats 2000000
set_option maxRecDepth 100000
namespace Go.Proofs.YtakebkfhigadiaaGreat.SpR
open Go Ry Go.Proofs.YtakebkfhigadiaaGreat.So JoS JoR JoW JoN EgR
structure JT where
 s:Int
 u:List Int
 z:List Int
def j0:JT:=⟨64,iota 64,jL 64⟩
def jF (J:JT) (y:E):JT:=⟨Fk J.u J.s (ri y 0) (ri y 1),IV J.u (ri y 0) (ri y 1),Ha J.u J.z (ri y 0) (ri y 1)⟩
def jJ (l:List E):JT:=l.foldl jF j0
def MU (W:List Int) (J:JT):Prop:=W.length=65∧Il W J.s J.u J.z
theorem MP:MU (iota 64) j0:=⟨by decide,GZ 64 (by omega)⟩
theorem MR {W:List Int} {J:JT} (h:MU W J) (y:E):MU (CS W (ri y 0) (ri y 1)) (jF J y):=⟨by rw [KG];exact h.1,(zf h.2 (by rw [h.1];omega) _ _).1⟩
theorem Nh {W:List Int} {J:JT} (h:MU W J):Jx J.u J.z=true:=by
 have h1:=Tj h.2.up h.2.ok (by rw [h.1];omega)
 unfold Jx
 rw [h1,h.2.zl,h.2.up.len]
 simp
theorem Br:∀ (l:List E) {W:List Int} {J:JT},MU W J→∃ W',MU W' (l.foldl jF J)
 |[],W,_,h=>⟨W,h⟩
 |y :: l,_,_,h=>Br l (MR h y)
theorem SF (l:List E):∃ W,MU W (jJ l):=Br l MP
def wX:JT→List E→Bool
 |_,[]=>true
 |J,y :: l=>if xF J.u (ri y 0) (ri y 1)=true then wX (jF J y) l else false
def FZ (l:List E):Bool:=decide (vl l=0) && wX j0 l
structure XS where
 i:Int
 J:JT
def Uo (l:List E) (y:XS):Prop:=0≤y.i∧y.i≤l.length∧y.J=jJ (l.take y.i.toNat)
def XX (l:List E) (y:XS):Nat:=l.length - y.i.toNat
noncomputable def sjI (A:Ar) (l:List E) (y:XS):St:=bW Tryz.f269.ntmps [(0,.sl none (.ae (.int .i64 (.int .i64 (.int .i64 .nil))) l)),(3,.ptr 1 0),(11,.sl none (.ae (.int .i64 (.int .i64 (.int .i64 .nil))) l)),(12,.val (.int .i64 (A.dw l))),(13,.val (.int .i64 y.i))] [(1,.cells 371 [.own 2,.own 3,.val (.int .i64 y.J.s)]),(2,.row 3 (.ints .i64 y.J.u)),(3,.row 3 (.ints .i64 y.J.z))] [Any]
def sjR (st:St):XS:=⟨bA st 13,⟨PX (nm st 3 2),xj st.heap (nm st 3 0),xj st.heap (nm st 3 1)⟩⟩
theorem Ky (l:List E):Uo l ⟨0,⟨64,iota 64,jL 64⟩⟩:=⟨Int.le_refl 0,Int.natCast_nonneg _,rfl⟩
theorem KU (l:List E) (i s:Int) (u z:List Int) (hq:Uo l ⟨i,⟨s,u,z⟩⟩) (h:i < l.length) (hl:l.length≤1000000) :
  aB .add .i64 i 1=i+1∧Jx u z=true∧Uo l ⟨i+1,⟨Fk u s (ri (l.getD i.toNat []) 0) (ri (l.getD i.toNat []) 1),IV u (ri (l.getD i.toNat []) 0) (ri (l.getD i.toNat []) 1),Ha u z (ri (l.getD i.toNat []) 0) (ri (l.getD i.toNat []) 1)⟩⟩:=by
 obtain⟨h0,h1,h2⟩:=hq
 simp only at h0 h1 h2
 obtain⟨W,hW⟩:=SF (l.take i.toNat)
 have hz:=Nh hW
 rw [← h2] at hz
 refine⟨by rw [aY,wr _ (by omega) (by omega)],hz,by simp only;omega,by simp only;omega,?_⟩
 simp only
 rw [dh l i h0 h]
 unfold jJ at h2 ⊢
 rw [List.foldl_append,← h2]
 rfl
theorem RI (l:List E) (i s:Int) (u z:List Int) (hq:Uo l ⟨i,⟨s,u,z⟩⟩) (h:¬i < l.length):s=(jJ l).s∧u=(jJ l).u∧z=(jJ l).z:=by
 obtain⟨h0,h1,h2⟩:=hq
 simp only at h0 h1 h2
 have e:i=l.length:=by omega
 rw [e,Int.toNat_natCast,List.take_length] at h2
 rw [← h2]
 exact⟨rfl,rfl,rfl⟩
def TR (l:List E) (y:XS):Prop:=0≤y.i∧y.i≤l.length∧(∃ W,MU W y.J)∧wX j0 l=wX y.J (l.drop y.i.toNat)
def Yz (l:List E) (y:XS):Nat:=l.length - y.i.toNat
noncomputable def foI (A:Ar) (l:List E) (y:XS):St:=bW Tryz.f227.ntmps [(0,.sl none (.ae (.int .i64 (.int .i64 (.int .i64 .nil))) l)),(3,.fn 270 1),(10,.sl none (.ae (.int .i64 (.int .i64 (.int .i64 .nil))) l)),(11,.val (.int .i64 (A.dw l))),(12,.val (.int .i64 y.i))] [(1,.cells 353 [.ptr 2 0]),(2,.cells 371 [.own 3,.own 4,.val (.int .i64 y.J.s)]),(3,.row 3 (.ints .i64 y.J.u)),(4,.row 3 (.ints .i64 y.J.z))] [Any]
def Zl:SC→Nat
 |.ptr n _ | .fn _ n | .own n=>n
 |_=>0
def zI (h:H) (n j:Nat):SC:=match ak h n with
 |some (.cells _ cs)=>cs.getD j .any
 |_=>.any
def foR (st:St):XS:=let n:=Zl (zI st.heap (Zl (jS st 3)) 0);⟨bA st 12,⟨PX (zI st.heap n 2),xj st.heap (zI st.heap n 0),xj st.heap (zI st.heap n 1)⟩⟩
theorem Mz (l:List E):TR l ⟨0,⟨64,iota 64,jL 64⟩⟩:=⟨Int.le_refl 0,Int.natCast_nonneg _,⟨_,MP⟩,rfl⟩
theorem Le (l:List E) (i s:Int) (u z:List Int) (hq:TR l ⟨i,⟨s,u,z⟩⟩) (h:i < l.length) (hl:l.length≤1000000) :
  aB .add .i64 i 1=i+1∧Jx u z=true∧(xF u (ri (l.getD i.toNat []) 0) (ri (l.getD i.toNat []) 1)=true→TR l ⟨i+1,⟨Fk u s (ri (l.getD i.toNat []) 0) (ri (l.getD i.toNat []) 1),IV u (ri (l.getD i.toNat []) 0) (ri (l.getD i.toNat []) 1),Ha u z (ri (l.getD i.toNat []) 0) (ri (l.getD i.toNat []) 1)⟩⟩) ∧
  (xF u (ri (l.getD i.toNat []) 0) (ri (l.getD i.toNat []) 1)=false→wX j0 l=false):=by
 obtain⟨h0,h1,⟨W,h2⟩,h3⟩:=hq
 simp only at h0 h1 h2 h3
 have hi:i.toNat < l.length:=by omega
 have e:(i+1).toNat=i.toNat+1:=by omega
 have eg:l.getD i.toNat []=l[i.toNat]:=by rw [List.getD_eq_getElem?_getD,List.getElem?_eq_getElem hi];rfl
 rw [List.drop_eq_getElem_cons hi,← eg] at h3
 refine⟨by rw [aY,wr _ (by omega) (by omega)],Nh h2,fun g=>⟨by simp only;omega,by simp only;omega,⟨_,MR h2 (l.getD i.toNat [])⟩,?_⟩,fun g=>?_⟩
 ·rw [h3]
  simp only [wX]
  rw [if_pos g,e]
  rfl
 ·rw [h3]
  simp only [wX]
  rw [g]
  rfl
theorem PU (l:List E) (i s:Int) (u z:List Int) (hq:TR l ⟨i,⟨s,u,z⟩⟩) (h:¬i < l.length):wX j0 l=true:=by
 obtain⟨h0,h1,h2,h3⟩:=hq
 simp only at h0 h1 h2 h3
 rw [h3,List.drop_eq_nil_of_le (by omega)]
 rfl
def MZ (u:List Int) (a d:Int):Bool:=decide (¬iO u a=0∧iO u a=iO (jO u a) d)
def UX (u:List Int) (a d:Int):List Int:=if iO u a=0 then jO u a else jO (jO u a) d
def lkB (l:List E) (a b:Int):Bool:=decide (vl l=0) && MZ (jJ l).u a b
def wtF (n:Int) (y:E):Int:=aB .add .i64 n (ri y 2)
def Yr (l:List E):Int:=l.foldl wtF 0
def Ni (l:List E):Int:=if vl l=0 then Yr l else 0
structure XW where
 i:Int
 n:Int
def WD:JT→List E→List E
 |_,[]=>[]
 |J,y :: l=>if xF J.u (ri y 0) (ri y 1)=true then [D.int (ri y 0),D.int (ri y 1),D.int (ri y 2)] :: WD (jF J y) l else WD (jF J y) l
def Wh (l:List E):List E:=if vl l=0 then WD j0 (Tc l) else []
structure XO where
 i:Int
 o:List E
 J:JT
structure Sp where
 RT:List E→JT
 Yn:List Int→Int→Int→Bool
 Zw:List Int→Int→Int→List Int
 YY:List Int→List Int→Int→Int→List Int
 Ym:List Int→Int→Int→Int→Int
 FW:List Int→List Int→Bool
 PS:List Int
 OF:List Int
 MY:List E→Bool
 aaj:List E→Int
 s_e:List E→Int
 aac:List E→Int
 hD:List E→List E
 Yg:List Int→Bool
 aay:List Int→Int→Int→Bool
 YU:List Int→Int→Int→List Int
 aab:List E→Int→Int→Bool
 CB:List E→Bool
def Sp.U:Sp:=⟨jJ,xF,IV,Ha,Fk,Jx,iota 64,jL 64,FZ,Ni,vl,Yr,Wh,IT,MZ,UX,lkB,fun l=>decide (l.length≤1000000)⟩
def oZ (F:Sp):aW:=fun xs h=>match xs,h with
 |[.agg [.val (.int .i64 e_a),.val (.int .i64 e_b),.val (.int .i64 _)],.one (.ptr 0 0)],[(0,.cells 353 [.ptr 1 0]),(1,.cells 371 [.own 2,.own 3,.val (.int .i64 s)]),(2,.row 3 (.ints .i64 u)),(3,.row 3 (.ints .i64 z))]=>some ⟨F.FW u z=true,.sa (B (!(F.Yn u e_a e_b))),[(0,.cells 353 [.ptr 1 0]),(1,.cells 371 [.own 2,.own 3,.val (.int .i64 (F.Ym u s e_a e_b))]),(2,.row 3 (.ints .i64 (F.Zw u e_a e_b))),(3,.row 3 (.ints .i64 (F.YY u z e_a e_b)))],[Any,.one (.ptr 0 0)]⟩
 |_,_=>none
theorem GI (e_a:Int) (e_b:Int) (e_w:Int) (s:Int) (u:List Int) (z:List Int) (hC:Sp.U.FW u z=true):aR [(271,oe JoR.Fs.U)] Tryz.f270 [.agg [.val (.int .i64 e_a),.val (.int .i64 e_b),.val (.int .i64 e_w)],.one (.ptr 0 0)] [(0,.cells 353 [.ptr 1 0]),(1,.cells 371 [.own 2,.own 3,.val (.int .i64 s)]),(2,.row 3 (.ints .i64 u)),(3,.row 3 (.ints .i64 z))] ⟨Sp.U.FW u z=true,.sa (B (!(Sp.U.Yn u e_a e_b))),[(0,.cells 353 [.ptr 1 0]),(1,.cells 371 [.own 2,.own 3,.val (.int .i64 (Sp.U.Ym u s e_a e_b))]),(2,.row 3 (.ints .i64 (Sp.U.Zw u e_a e_b))),(3,.row 3 (.ints .i64 (Sp.U.YY u z e_a e_b)))],[Any,.one (.ptr 0 0)]⟩:=by
 intro b gv
 have hk:Jx u z=true:=hC
 have hfs:=(af.cons lr af.nil rfl)
 generalize hF:Sp.U=F at hC hfs ⊢
 generalize hG0:JoR.Fs.U=G0 at hC hfs ⊢
 generalize hG1:JoN.Ns.U=G1 at hC hfs ⊢
 generalize hG2:EgR.Fs.U=G2 at hC hfs ⊢
 generalize hA:Ar.U=A
 generalize hL:Lp _ _ _=L
 obtain⟨Z,zq⟩:=aH
 refine @aA _ _ _ _ _ _ _ (aa hL) _ _ zq rfl ?_
 repeat' (first|(refine ay zq ?_;try dsimp only)|refine ax zq ?_ (aa hL)|refine az zq ?_|refine aw ?_|refine aq ?_|refine au ?_|refine ar ?_|refine al rfl ?_|refine ai rfl ?_|refine aj rfl ?_|(refine Cd.mk ?_;cbv)|(refine aF.mk ?_;cbv)|(refine aK.mk ?_;cbv)|exact trivial|refine And.intro ?_ ?_|refine aZ fun _=>?_|refine ba fun _=>?_)
 all_goals
  clear hL zq Z hfs
  subst hA hF hG0 hG1 hG2
  simp only [Sp.U,JoR.Fs.U,Ar.U] at *
  try (grind [ah])
theorem rI:aC Tryz.prog 270 (oZ Sp.U):=by
 refine aD (af.cons lr af.nil rfl) Tryz.func270 rfl rfl fun xs h p hp=>?_
 unfold oZ at hp
 split at hp
 ·cases hp
  exact⟨av rfl,fun hC _=>@GI _ _ _ _ _ _ hC⟩
 ·cases hp
def qE (F:Sp):aW:=fun xs h=>match xs,h with
 |[.one (.sl none (.ae (.int .i64 (.int .i64 (.int .i64 .nil))) l))],[]=>some ⟨F.CB l=true,.sa (.one (.ptr 0 0)),[(0,.cells 371 [.own 1,.own 2,.val (.int .i64 (F.RT l).s)]),(1,.row 3 (.ints .i64 (F.RT l).u)),(2,.row 3 (.ints .i64 (F.RT l).z))],[Any]⟩
 |_,_=>none
theorem Ej (l:List E) (hC:Sp.U.CB l=true):aR [(283,gX JoN.Ns.U),(271,oe JoR.Fs.U)] Tryz.f269 [.one (.sl none (.ae (.int .i64 (.int .i64 (.int .i64 .nil))) l))] [] ⟨Sp.U.CB l=true,.sa (.one (.ptr 0 0)),[(0,.cells 371 [.own 1,.own 2,.val (.int .i64 (Sp.U.RT l).s)]),(1,.row 3 (.ints .i64 (Sp.U.RT l).u)),(2,.row 3 (.ints .i64 (Sp.U.RT l).z))],[Any]⟩:=by
 intro b gv
 have hk:l.length≤1000000:=of_decide_eq_true (show decide (l.length≤1000000)=true from hC)
 have hfs:=(af.cons iL (af.cons lr af.nil rfl) rfl)
 generalize hF:Sp.U=F at hC hfs ⊢
 generalize hG0:JoR.Fs.U=G0 at hC hfs ⊢
 generalize hG1:JoN.Ns.U=G1 at hC hfs ⊢
 generalize hG2:EgR.Fs.U=G2 at hC hfs ⊢
 generalize hA:Ar.U=A
 generalize hL:Lp _ _ _=L
 obtain⟨Z,zq⟩:=aH
 refine @aA _ _ _ _ _ _ _ (aa hL) _ _ zq rfl ?_
 repeat' (first|(refine ay zq ?_;try dsimp only)|refine ax zq ?_ (aa hL)|refine az zq ?_|refine aw ?_|refine aq ?_|refine au ?_|refine ar ?_|refine al rfl ?_|refine ai rfl ?_|refine aj rfl ?_|(refine Cd.mk ?_;cbv)|(refine aF.mk ?_;cbv)|(refine aK.mk ?_;cbv)|exact trivial|refine And.intro ?_ ?_|refine aZ fun _=>?_|refine ba fun _=>?_)
 all_goals first|(show L _ _ _;skip)|(clear hfs hL zq Z;subst hA hF hG0 hG1 hG2;simp only [Sp.U,JoR.Fs.U,JoN.Ns.U] at * <;> grind [ah,vN];done)
 subst hL
 refine bj (bo hfs) (Uo l) (sjI A l) (XX l) sjR ⟨0,⟨64,G1.Oy 64,G1.RM 64⟩⟩ ?_ ?_ ?_
 ·exact (by subst hG1;exact Ky l)
 ·cbv
  repeat' (first|exact trivial|exact rfl|refine And.intro ?_ ?_)
 rintro⟨i,⟨s,u,z⟩⟩ hq O hO
 have hst:=fun h=>KU l i s u z hq h hk
 have hen:=RI l i s u z hq
 have q0:=hq.1
 have q1:=hq.2.1
 dsimp only at q0 q1
 subst hA
 generalize hA:Ar.U=A
 generalize hL:Lp _ _ _=L
 refine aT zq ?_
 repeat' (first|(refine ay zq ?_;try dsimp only)|refine ax zq ?_ (aa hL)|refine az zq ?_|refine aw ?_|refine aq ?_|refine au ?_|refine ar ?_|refine al rfl ?_|refine ai rfl ?_|refine aj rfl ?_|(refine Cd.mk ?_;cbv)|(refine aF.mk ?_;cbv)|(refine aK.mk ?_;cbv)|exact trivial|refine And.intro ?_ ?_|refine aZ fun _=>?_|refine ba fun _=>?_)
 all_goals (clear hL hfs zq Z hq;subst hA hF hG0 hG1 hG2 hO;simp only [Sp.U,JoR.Fs.U,Ar.U] at * <;> grind [ah,XX])
theorem rD:aC Tryz.prog 269 (qE Sp.U):=by
 refine aD (af.cons iL (af.cons lr af.nil rfl) rfl) Tryz.func269 rfl rfl fun xs h p hp=>?_
 unfold qE at hp
 split at hp
 ·cases hp
  exact⟨av rfl,fun hC _=>@Ej _ hC⟩
 ·cases hp
def pN (F:Sp):aW:=fun xs h=>match xs,h with
 |[],[]=>some ⟨True,.sa (.one (.fn 270 0)),[(0,.cells 353 [.ptr 1 0]),(1,.cells 371 [.own 2,.own 3,.val (.int .i64 64)]),(2,.row 3 (.ints .i64 F.PS)),(3,.row 3 (.ints .i64 F.OF))],[]⟩
 |_,_=>none
theorem FF:aR [(269,HI [some (.ae (.int .i64 (.int .i64 (.int .i64 .nil))) [])] (qE Sp.U))] Tryz.f244 [] [] ⟨True,.sa (.one (.fn 270 0)),[(0,.cells 353 [.ptr 1 0]),(1,.cells 371 [.own 2,.own 3,.val (.int .i64 64)]),(2,.row 3 (.ints .i64 Sp.U.PS)),(3,.row 3 (.ints .i64 Sp.U.OF))],[]⟩:=by
 intro b gv
 have hfs:=(af.cons (lC [some (.ae (.int .i64 (.int .i64 (.int .i64 .nil))) [])] rD) af.nil rfl)
 generalize hF:Sp.U=F at hfs ⊢
 generalize hG0:JoR.Fs.U=G0 at hfs ⊢
 generalize hG1:JoN.Ns.U=G1 at hfs ⊢
 generalize hG2:EgR.Fs.U=G2 at hfs ⊢
 generalize hA:Ar.U=A
 generalize hL:Lp _ _ _=L
 obtain⟨Z,zq⟩:=aH
 refine @aA _ _ _ _ _ _ _ (aa hL) _ _ zq rfl ?_
 repeat' (first|(refine ay zq ?_;try dsimp only)|refine ax zq ?_ (aa hL)|refine az zq ?_|refine aw ?_|refine aq ?_|refine au ?_|refine ar ?_|refine al rfl ?_|refine ai rfl ?_|refine aj rfl ?_|(refine Cd.mk ?_;cbv)|(refine aF.mk ?_;cbv)|(refine aK.mk ?_;cbv)|exact trivial|refine And.intro ?_ ?_|refine aZ fun _=>?_|refine ba fun _=>?_)
 all_goals
  clear hL zq Z hfs
  subst hA hF hG0 hG1 hG2
  simp only [Sp.U] at *
  try (grind [ah,jJ,j0])
theorem ru:aC Tryz.prog 244 (pN Sp.U):=by
 refine aD (af.cons (lC [some (.ae (.int .i64 (.int .i64 (.int .i64 .nil))) [])] rD) af.nil rfl) Tryz.func244 rfl rfl fun xs h p hp=>?_
 unfold pN at hp
 split at hp
 ·cases hp
  exact⟨av rfl,fun _ _=>@FF ⟩
 ·cases hp
def kR (F:Sp):aW:=fun xs h=>match xs,h with
 |[.one (.sl none (.ae (.int .i64 (.int .i64 (.int .i64 .nil))) l))],[]=>some ⟨F.CB l=true,.sa (B (F.MY l)),[],[Any]⟩
 |_,_=>none
theorem IM (l:List E) (hC:Sp.U.CB l=true):aR [(243,jc EgR.Fs.U),(244,pN Sp.U),(270,oZ Sp.U)] Tryz.f227 [.one (.sl none (.ae (.int .i64 (.int .i64 (.int .i64 .nil))) l))] [] ⟨Sp.U.CB l=true,.sa (B (Sp.U.MY l)),[],[Any]⟩:=by
 intro b gv
 have hk:l.length≤1000000:=of_decide_eq_true (show decide (l.length≤1000000)=true from hC)
 have hfs:=(af.cons lV (af.cons ru (af.cons rI af.nil rfl) rfl) rfl)
 generalize hF:Sp.U=F at hC hfs ⊢
 generalize hG0:JoR.Fs.U=G0 at hC hfs ⊢
 generalize hG1:JoN.Ns.U=G1 at hC hfs ⊢
 generalize hG2:EgR.Fs.U=G2 at hC hfs ⊢
 generalize hA:Ar.U=A
 generalize hL:Lp _ _ _=L
 obtain⟨Z,zq⟩:=aH
 refine @aA _ _ _ _ _ _ _ (aa hL) _ _ zq rfl ?_
 repeat' (first|(refine ay zq ?_;try dsimp only)|refine ax zq ?_ (aa hL)|refine az zq ?_|refine aw ?_|refine aq ?_|refine au ?_|refine ar ?_|refine al rfl ?_|refine ai rfl ?_|refine aj rfl ?_|(refine Cd.mk ?_;cbv)|(refine aF.mk ?_;cbv)|(refine aK.mk ?_;cbv)|exact trivial|refine And.intro ?_ ?_|refine aZ fun _=>?_|refine ba fun _=>?_)
 all_goals first|(show L _ _ _;skip)|(clear hfs hL zq Z;subst hA hF hG0 hG1 hG2;simp only [Sp.U,EgR.Fs.U,Ar.U] at * <;> grind [ah,FZ];done)
 rename_i hx
 subst hL
 refine bj (bo hfs) (TR l) (foI A l) (Yz l) foR ⟨0,⟨64,F.PS,F.OF⟩⟩ ?_ ?_ ?_
 ·exact (by subst hF;exact Mz l)
 ·cbv
  repeat' (first|exact trivial|exact rfl|refine And.intro ?_ ?_)
 rintro⟨i,⟨s,u,z⟩⟩ hq O hO
 have hst:=fun h=>Le l i s u z hq h hk
 have hen:=PU l i s u z hq
 have q0:=hq.1
 have q1:=hq.2.1
 dsimp only at q0 q1
 subst hA
 generalize hA:Ar.U=A
 generalize hL:Lp _ _ _=L
 refine aT zq ?_
 repeat' (first|(refine ay zq ?_;try dsimp only)|refine ax zq ?_ (aa hL)|refine az zq ?_|refine aw ?_|refine aq ?_|refine au ?_|refine ar ?_|refine al rfl ?_|refine ai rfl ?_|refine aj rfl ?_|(refine Cd.mk ?_;cbv)|(refine aF.mk ?_;cbv)|(refine aK.mk ?_;cbv)|exact trivial|refine And.intro ?_ ?_|refine aZ fun _=>?_|refine ba fun _=>?_)
 all_goals (clear hL hfs zq Z hq;subst hA hF hG0 hG1 hG2 hO;simp only [Sp.U,EgR.Fs.U,Ar.U] at * <;> grind [ah,Yz,FZ])
theorem mK:aC Tryz.prog 227 (kR Sp.U):=by
 refine aD (af.cons lV (af.cons ru (af.cons rI af.nil rfl) rfl) rfl) Tryz.func227 rfl rfl fun xs h p hp=>?_
 unfold kR at hp
 split at hp
 ·cases hp
  exact⟨av rfl,fun hC _=>@IM _ hC⟩
 ·cases hp
end Go.Proofs.YtakebkfhigadiaaGreat.SpR
