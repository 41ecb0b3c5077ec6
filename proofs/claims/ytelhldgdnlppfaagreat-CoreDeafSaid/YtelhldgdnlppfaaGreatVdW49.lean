/-
  the answer of the view of two. No condition.
-/
import Derived.Test.YtelhldgdnlppfaaGreatVdViL
import Derived.Test.YtelhldgdnlppfaaGreatVdViR
set_option maxHeartbeats 4000000
set_option maxRecDepth 100000
namespace Go.Proofs.YtelhldgdnlppfaaGreat.ViT
open Go Ry ViR ViL
def ln (x y:E):Prop:=ri x 0 < ri y 0∨ri x 0=ri y 0∧ri x 1 < ri y 1
theorem WY {x y z:E} (h:ln x y) (g:ln y z):ln x z:=by unfold ln at *;omega
theorem QE {n:List Int} {l:List E} (h:bf n l=true):∀ i,i < l.length→QC (l.getD i [])=true∧n.contains (ri (l.getD i []) 0)=true∧(0 < i→ln (l.getD (i - 1) []) (l.getD i [])):=by
 unfold bf at h
 rw [Bool.and_eq_true] at h
 intro i hi
 have g:=iZ.1 h.2 i hi
 unfold VJ at g
 rw [decide_eq_true_eq] at g
 exact⟨g.1,g.2.1,fun k=>(Li _ _ _ _).1 (g.2.2 k)⟩
theorem oB {n:List Int} {l:List E} (h:bf n l=true):dJ n=true:=by
 unfold bf at h
 rw [Bool.and_eq_true] at h
 exact h.1
theorem Qf {n:List Int} {l:List E} (h:bf n l=true):∀ (j i:Nat),i < j→j < l.length→ln (l.getD i []) (l.getD j [])
 |0,_,h1,_=>absurd h1 (Nat.not_lt_zero _)
 |j+1,i,h1,h2=>by
  have g:=(QE h (j+1) h2).2.2 (Nat.zero_lt_succ _)
  rw [Nat.add_sub_cancel] at g
  by_cases e:i=j
  ·rw [e]
   exact g
  ·exact WY (Qf h j i (by omega) (by omega)) g
theorem xD {n:List Int} {l:List E} (h:bf n l=true):l.Pairwise ln:=by
 rw [List.pairwise_iff_getElem]
 intro i j hi hj hij
 have:=Qf h j i hij hj
 rw [hD l _ hi,hD l _ hj] at this
 exact this
end Go.Proofs.YtelhldgdnlppfaaGreat.ViT
namespace Go.Proofs.YtelhldgdnlppfaaGreat.ViS
open Go Ry Cmp ViR
def kT (y:E):Int × Int × Int × Int × Bool:=(ri y 0,ri y 1,ri y 2,ri y 3,rb y 4)
def ju (p q:List E):Bool:=decide (p.map kT=q.map kT)
def gI (p q:List Int):Bool:=decide (p=q)
def gw (n:List Int) (l:List E) (n' : List Int) (l' : List E):Bool:=gI n n' && ju l l'
def eI (p q:List Int) (j:Nat):Bool:=decide (p.getD j 0=q.getD j 0)
def eK (p q:List E) (j:Nat):Bool:=decide (kT (p.getD j [])=kT (q.getD j []))
theorem UT {p q:List Int} (h:p.length=q.length):uv p.length (eI p q)=gI p q:=by
 rw [Bool.eq_iff_iff,iZ]
 unfold eI gI
 simp only [decide_eq_true_eq]
 constructor
 ·intro g
  refine List.ext_getElem h fun i h1 h2=>?_
  have:=g i h1
  rw [eB _ _ h1,eB _ _ h2] at this
  exact this
 ·intro g
  rw [g]
  exact fun _ _=>rfl
theorem SN {p q:List E} (h:p.length=q.length):uv p.length (eK p q)=ju p q:=by
 rw [Bool.eq_iff_iff,iZ]
 unfold eK ju
 simp only [decide_eq_true_eq]
 constructor
 ·intro g
  refine List.ext_getElem (by rw [List.length_map,List.length_map,h]) fun i h1 h2=>?_
  rw [List.length_map] at h1 h2
  have:=g i h1
  rw [hD _ _ h1,hD _ _ h2] at this
  rw [List.getElem_map,List.getElem_map]
  exact this
 ·intro g i hi
  have:=congrArg (fun l=>l[i]?) g
  simp only [List.getElem?_map,List.getElem?_eq_getElem hi,List.getElem?_eq_getElem (show i < q.length by omega),Option.map_some,Option.some.injEq] at this
  rw [hD _ _ hi,hD _ _ (show i < q.length by omega)]
  exact this
theorem nI {p q:List Int} (h:¬p.length=q.length):gI p q=false:=decide_eq_false fun w=>h (by rw [w])
theorem nK {p q:List E} (h:¬p.length=q.length):ju p q=false:=decide_eq_false fun w=>h (by have:=congrArg List.length w;simpa using this)
theorem Zj (p q:List E) (j:Nat):eK p q j=decide (ri (p.getD j []) 0=ri (q.getD j []) 0∧ri (p.getD j []) 1=ri (q.getD j []) 1∧ri (p.getD j []) 2=ri (q.getD j []) 2∧ri (p.getD j []) 3=ri (q.getD j []) 3∧rb (p.getD j []) 4=rb (q.getD j []) 4):=by
 unfold eK kT
 simp only [Prod.mk.injEq]
noncomputable def s3I (_:Ar) (p q:List Int) (y:XI):St:=cg Tryz.f45.ntmps [(0,.sl none (.ints .i64 p)),(1,.sl none (.ints .i64 q)),(5,.val (.int .i64 y.i))] [] [Any,Any]
noncomputable def s4I (_:Ar) (p q:List E) (y:XI):St:=cg Tryz.f50.ntmps [(0,.sl none (.ah (.int .i64 (.int .i64 (.int .i64 (.int .i64 (.bool .nil))))) p)),(1,.sl none (.ah (.int .i64 (.int .i64 (.int .i64 (.int .i64 (.bool .nil))))) q)),(5,.val (.int .i64 y.i))] [] [Any,Any]
structure Vq where
 q_i:List Int→List Int→Bool
 q_k:List E→List E→Bool
 q_v:List Int→List E→List Int→List E→Bool
 SZ:List Int→List Int→Bool
 BF:List E→List E→Bool
 RU:List Int→List E→List Int→List E→Bool
def Vq.U:Vq:=⟨gI,ju,gw,fun p q=>decide (p.length≤1000000∧q.length≤1000000),fun p q=>decide (p.length≤1000000∧q.length≤1000000),fun n l n2 l2=>decide (n.length≤1000000∧n2.length≤1000000∧l.length≤1000000∧l2.length≤1000000)⟩
def mR (F:Vq):aZ:=fun xs h=>match xs,h with
 |[.one (.sl none (.ints .i64 p)),.one (.sl none (.ints .i64 q))],[]=>some ⟨F.SZ p q=true,.sa (B (F.q_i p q)),[],[Any,Any]⟩
 |_,_=>none
theorem Np (p:List Int) (q:List Int) (hC:Vq.U.SZ p q=true):aU [] Tryz.f45 [.one (.sl none (.ints .i64 p)),.one (.sl none (.ints .i64 q))] [] ⟨Vq.U.SZ p q=true,.sa (B (Vq.U.q_i p q)),[],[Any,Any]⟩:=by
 intro b gv
 have hk:p.length≤1000000∧q.length≤1000000:=of_decide_eq_true (show decide (p.length≤1000000∧q.length≤1000000)=true from hC)
 have hne:=fun h=>nI (p:=p) (q:=q) h
 generalize hF:Vq.U=F at hC ⊢
 generalize hA:Ar.U=A
 generalize hL:Lp _ _ _=L
 obtain⟨Z,zq⟩:=aP
 refine aD (aa hL) zq rfl ?_
 repeat' (first|(refine ay zq ?_;try dsimp only)|refine ax zq ?_ (aa hL)|refine aw zq ?_|refine az ?_|refine av ?_|refine au ?_|refine aq ?_|refine ar rfl ?_|refine ai rfl ?_|refine aj rfl ?_|(refine Cd.mk ?_;cbv)|(refine aE.mk ?_;cbv)|(refine aJ.mk ?_;cbv)|exact trivial|refine And.intro ?_ ?_|refine bn fun _=>?_|refine bo fun _=>?_)
 all_goals first|(show L _ _ _;skip)|(clear hL zq Z;subst hA hF;simp only [Vq.U,Ar.U] at *;grind [al];done)
 rename_i hx
 have hl:p.length=q.length:=by
  clear hL zq Z hF
  subst hA
  simp only [Ar.U] at hx
  grind [al]
 clear hx
 have hal:=UT hl
 subst hL
 refine aX (br af.nil) (xv p.length (eI p q)) (s3I A p q) (allM p.length) (iR 5) ⟨0⟩ ?_ ?_ ?_
 ·exact all_zero _ _
 ·cbv
  repeat' (first|exact trivial|exact rfl|refine And.intro ?_ ?_)
 rintro⟨i⟩ hq O hO
 obtain⟨e1,_⟩:=rj hk.1 hq
 have hst:=fun h=>nQ hk.1 hq h
 have hen:=fun h=>qS hq h
 have q0:=hq.1
 have q1:=hq.2.1
 dsimp only at q0 q1 hst
 have hz:eI p q i.toNat=decide (p.getD i.toNat 0=q.getD i.toNat 0):=rfl
 subst hA
 generalize hA:Ar.U=A
 generalize hL:Lp _ _ _=L
 refine aO zq ?_
 repeat' (first|(refine ay zq ?_;try dsimp only)|refine ax zq ?_ (aa hL)|refine aw zq ?_|refine az ?_|refine av ?_|refine au ?_|refine aq ?_|refine ar rfl ?_|refine ai rfl ?_|refine aj rfl ?_|(refine Cd.mk ?_;cbv)|(refine aE.mk ?_;cbv)|(refine aJ.mk ?_;cbv)|exact trivial|refine And.intro ?_ ?_|refine bn fun _=>?_|refine bo fun _=>?_)
 all_goals (clear hL zq Z hq;subst hA hF hO;simp only [Vq.U,Ar.U] at * <;> grind [al])
theorem jT:aA Tryz.prog 45 (mR Vq.U):=by
 refine aG af.nil Tryz.func45 rfl rfl fun xs h p hp=>?_
 unfold mR at hp
 split at hp
 ·cases hp
  exact⟨aB rfl,fun hC _=>Np _ _ hC⟩
 ·cases hp
def tX (F:Vq):aZ:=fun xs h=>match xs,h with
 |[.one (.sl none (.ah (.int .i64 (.int .i64 (.int .i64 (.int .i64 (.bool .nil))))) p)),.one (.sl none (.ah (.int .i64 (.int .i64 (.int .i64 (.int .i64 (.bool .nil))))) q))],[]=>some ⟨F.BF p q=true,.sa (B (F.q_k p q)),[],[Any,Any]⟩
 |_,_=>none
theorem Hu (p:List E) (q:List E) (hC:Vq.U.BF p q=true):aU [] Tryz.f50 [.one (.sl none (.ah (.int .i64 (.int .i64 (.int .i64 (.int .i64 (.bool .nil))))) p)),.one (.sl none (.ah (.int .i64 (.int .i64 (.int .i64 (.int .i64 (.bool .nil))))) q))] [] ⟨Vq.U.BF p q=true,.sa (B (Vq.U.q_k p q)),[],[Any,Any]⟩:=by
 intro b gv
 have hk:p.length≤1000000∧q.length≤1000000:=of_decide_eq_true (show decide (p.length≤1000000∧q.length≤1000000)=true from hC)
 have hne:=fun h=>nK (p:=p) (q:=q) h
 generalize hF:Vq.U=F at hC ⊢
 generalize hA:Ar.U=A
 generalize hL:Lp _ _ _=L
 obtain⟨Z,zq⟩:=aP
 refine aD (aa hL) zq rfl ?_
 repeat' (first|(refine ay zq ?_;try dsimp only)|refine ax zq ?_ (aa hL)|refine aw zq ?_|refine az ?_|refine av ?_|refine au ?_|refine aq ?_|refine ar rfl ?_|refine ai rfl ?_|refine aj rfl ?_|(refine Cd.mk ?_;cbv)|(refine aE.mk ?_;cbv)|(refine aJ.mk ?_;cbv)|exact trivial|refine And.intro ?_ ?_|refine bn fun _=>?_|refine bo fun _=>?_)
 all_goals first|(show L _ _ _;skip)|(clear hL zq Z;subst hA hF;simp only [Vq.U,Ar.U] at *;grind [al];done)
 rename_i hx
 have hl:p.length=q.length:=by
  clear hL zq Z hF
  subst hA
  simp only [Ar.U] at hx
  grind [al]
 clear hx
 have hal:=SN hl
 subst hL
 refine aX (br af.nil) (xv p.length (eK p q)) (s4I A p q) (allM p.length) (iR 5) ⟨0⟩ ?_ ?_ ?_
 ·exact all_zero _ _
 ·cbv
  repeat' (first|exact trivial|exact rfl|refine And.intro ?_ ?_)
 rintro⟨i⟩ hq O hO
 obtain⟨e1,_⟩:=rj hk.1 hq
 have hst:=fun h=>nQ hk.1 hq h
 have hen:=fun h=>qS hq h
 have q0:=hq.1
 have q1:=hq.2.1
 dsimp only at q0 q1 hst
 have hz:=Zj p q i.toNat
 subst hA
 generalize hA:Ar.U=A
 generalize hL:Lp _ _ _=L
 refine aO zq ?_
 repeat' (first|(refine ay zq ?_;try dsimp only)|refine ax zq ?_ (aa hL)|refine aw zq ?_|refine az ?_|refine av ?_|refine au ?_|refine aq ?_|refine ar rfl ?_|refine ai rfl ?_|refine aj rfl ?_|(refine Cd.mk ?_;cbv)|(refine aE.mk ?_;cbv)|(refine aJ.mk ?_;cbv)|exact trivial|refine And.intro ?_ ?_|refine bn fun _=>?_|refine bo fun _=>?_)
 all_goals (clear hL zq Z hq;subst hA hF hO;simp only [Vq.U,Ar.U] at * <;> grind [al])
theorem vJ:aA Tryz.prog 50 (tX Vq.U):=by
 refine aG af.nil Tryz.func50 rfl rfl fun xs h p hp=>?_
 unfold tX at hp
 split at hp
 ·cases hp
  exact⟨aB rfl,fun hC _=>Hu _ _ hC⟩
 ·cases hp
def mO (F:Vq):aZ:=fun xs h=>match xs,h with
 |[.agg [.sl none (.ints .i64 v_n),.sl none (.ah (.int .i64 (.int .i64 (.int .i64 (.int .i64 (.bool .nil))))) v_l)],.agg [.sl none (.ints .i64 u_n),.sl none (.ah (.int .i64 (.int .i64 (.int .i64 (.int .i64 (.bool .nil))))) u_l)]],[]=>some ⟨F.RU v_n v_l u_n u_l=true,.sa (B (F.q_v v_n v_l u_n u_l)),[],[Any,Any]⟩
 |_,_=>none
theorem IB (v_n:List Int) (v_l:List E) (u_n:List Int) (u_l:List E) (hC:Vq.U.RU v_n v_l u_n u_l=true):aU [(45,mR Vq.U),(50,tX Vq.U)] Tryz.f16 [.agg [.sl none (.ints .i64 v_n),.sl none (.ah (.int .i64 (.int .i64 (.int .i64 (.int .i64 (.bool .nil))))) v_l)],.agg [.sl none (.ints .i64 u_n),.sl none (.ah (.int .i64 (.int .i64 (.int .i64 (.int .i64 (.bool .nil))))) u_l)]] [] ⟨Vq.U.RU v_n v_l u_n u_l=true,.sa (B (Vq.U.q_v v_n v_l u_n u_l)),[],[Any,Any]⟩:=by
 intro b gv
 have hfs:=(af.cons jT (af.cons vJ af.nil rfl) rfl)
 generalize hF:Vq.U=F at hC hfs ⊢
 generalize hA:Ar.U=A
 generalize hL:Lp _ _ _=L
 obtain⟨Z,zq⟩:=aP
 refine aD (aa hL) zq rfl ?_
 repeat' (first|(refine ay zq ?_;try dsimp only)|refine ax zq ?_ (aa hL)|refine aw zq ?_|refine az ?_|refine av ?_|refine au ?_|refine aq ?_|refine ar rfl ?_|refine ai rfl ?_|refine aj rfl ?_|(refine Cd.mk ?_;cbv)|(refine aE.mk ?_;cbv)|(refine aJ.mk ?_;cbv)|exact trivial|refine And.intro ?_ ?_|refine bn fun _=>?_|refine bo fun _=>?_)
 all_goals
  clear hL zq Z
  try clear hfs
  subst hA hF
  simp only [Vq.U,Ar.U] at *
  try (grind [al,gw])
theorem oU:aA Tryz.prog 16 (mO Vq.U):=by
 refine aG (af.cons jT (af.cons vJ af.nil rfl) rfl) Tryz.func16 rfl rfl fun xs h p hp=>?_
 unfold mO at hp
 split at hp
 ·cases hp
  exact⟨aB rfl,fun hC _=>IB _ _ _ _ hC⟩
 ·cases hp
end Go.Proofs.YtelhldgdnlppfaaGreat.ViS
namespace Go.Proofs.YtelhldgdnlppfaaGreat.ViQ
open Go Ry Cmp ViR ViC ViL ViT ViS
end Go.Proofs.YtelhldgdnlppfaaGreat.ViQ
namespace Go.Proofs.YtelhldgdnlppfaaGreat.ViM
open Go Ry Cmp ViR ViC ViL ViT ViQ
def e5 (y:E):E:=[D.int (ri y 0),D.int (ri y 1),D.int (ri y 2),D.int (ri y 3),D.bool (rb y 4)]
def Vt (a:Int) (y:E):List E:=if ri y 0=a then [e5 y] else []
def RD (n k:List Int) (j:Nat):Bool:=n.contains ((j:Int)+1) && k.contains ((j:Int)+1)
def YA (n k:List Int) (j:Nat):Bool:=n.contains ((j:Int)+1) || k.contains ((j:Int)+1)
def Mb (n k:List Int):Bool:=(List.range 64).any (RD n k)
def VN (n k:List Int) (t:Nat):List Int:=(List.range t).flatMap fun j=>if YA n k j=true then [(j:Int)+1] else []
def We (l q:List E) (a:Int):List E:=l.flatMap (Vt a) ++ q.flatMap (Vt a)
def Ti (l q:List E) (t:Nat):List E:=(List.range t).flatMap fun j:Nat=>We l q ((j:Int)+1)
structure XG where
 n:Int
 o:List Int
 p:List E
def TZ (n k:List Int):List Int:=if Mb n k=true then [] else VN n k 64
def Mh (n k:List Int) (l q:List E):List E:=if Mb n k=true then [] else Ti l q 64
end Go.Proofs.YtelhldgdnlppfaaGreat.ViM
