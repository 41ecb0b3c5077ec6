/-
  the order of links;the first of them;copies;which choices may be. No condition.
-/
import Derived.Test.YtelhldgdnlppfaaGreatVgW23
import Derived.Test.YtelhldgdnlppfaaGreatVgViL
import Derived.Test.YtelhldgdnlppfaaGreatVgEgR
set_option cbv.maxSteps 4000000
set_option maxHeartbeats 4000000
set_option maxRecDepth 100000
namespace Go.Proofs.YtelhldgdnlppfaaGreat.ChR
open Go Ry Cmp ViR ViL
open ViC (dD bM)
open EgR (ka fg)
open EcX (hG)
abbrev K5:=Int × Int × Int × Int × Bool
def k5 (y:E):K5:=(ri y 0,ri y 1,ri y 2,ri y 3,rb y 4)
def cK (n p w n' p' w' : Int):Int:=hG (Hy n p) (IW n p) w (Hy n' p') (IW n' p') w'
def UX (c:K5) (y:E):K5:=if cK (ri y 0) (ri y 1) (ri y 2) c.1 c.2.1 c.2.2.1 < 0 then k5 y else c
def wK (l:List E):K5:=l.foldl UX (k5 (l.getD 0 []))
theorem Ms (y:E):UX (k5 y) y=k5 y:=by unfold UX;split <;> rfl
structure XN where
 i:Int
 n:Int
 p:Int
 w:Int
 s:Int
 b:Bool
def VM (l:List E) (y:XN):Prop:=1≤y.i∧y.i≤l.length∧((y.n,y.p,y.w,y.s,y.b):K5)=wK (l.take y.i.toNat)
def Zz (l:List E) (y:XN):Nat:=l.length - y.i.toNat
noncomputable def mnI (l:List E) (y:XN):St:=cC Tryz.f156.ntmps [(0,.sl none (.ah (.int .i64 (.int .i64 (.int .i64 (.int .i64 (.bool .nil))))) l)),(1,.val (.func (.func 157) ⟨[]⟩ ⟨[]⟩)),(4,.ptr 1 0),(5,.ptr 2 0),(6,.val (.int .i64 y.i))] [(1,.cells 94 [.num .i64 0,.num .i64 0,.num .i64 0,.num .i64 0,.tf false]),(2,.cells 94 [.val (.int .i64 y.n),.val (.int .i64 y.p),.val (.int .i64 y.w),.val (.int .i64 y.s),.val (.bool y.b)])] [Any,Any]
def mnR (st:St):XN:=⟨bR st 6,uv (gS st 5 0),uv (gS st 5 1),uv (gS st 5 2),uv (gS st 5 3),aaA (gS st 5 4)⟩
theorem qO (l:List E) (i:Int) (h0:0≤i) (h:i < l.length):l.take (i+1).toNat=l.take i.toNat ++ [l.getD i.toNat []]:=by
 have e:(i+1).toNat=i.toNat+1:=by omega
 have hi:i.toNat < l.length:=by omega
 rw [e,List.take_add_one,List.getD_eq_getElem?_getD,List.getElem?_eq_getElem hi]
 rfl
theorem Et {l:List E} {i:Int} (h0:1≤i) (h:i < l.length):wK (l.take (i+1).toNat)=UX (wK (l.take i.toNat)) (l.getD i.toNat []):=by
 unfold wK
 have hd:∀ k:Nat,1≤k→(l.take k).getD 0 []=l.getD 0 []:=fun k hk=>by rw [List.getD_eq_getElem?_getD,List.getD_eq_getElem?_getD,List.getElem?_take_of_lt (by omega)]
 rw [hd _ (by omega),hd _ (by omega),qO l i (by omega) h,List.foldl_append]
 rfl
theorem NT {l:List E} (h:0 < l.length):VM l ⟨1,ri (l.getD 0 []) 0,ri (l.getD 0 []) 1,ri (l.getD 0 []) 2,ri (l.getD 0 []) 3,rb (l.getD 0 []) 4⟩:=by
 refine⟨Int.le_refl 1,by simp only;omega,?_⟩
 cases l with
 |nil=>exact absurd h (Nat.lt_irrefl 0)
 |cons y l=>exact (Ms y).symm
theorem MH {l:List E} (hl:l.length≤1000000) {i n p w s:Int} {b:Bool} (hq:VM l ⟨i,n,p,w,s,b⟩):1≤i∧i≤l.length∧(i < l.length→aO .add .i64 i 1=i+1∧(∀ n' p' w' s' b',Zz l ⟨i+1,n',p',w',s',b'⟩ < Zz l ⟨i,n,p,w,s,b⟩) ∧
  (cK (ri (l.getD i.toNat []) 0) (ri (l.getD i.toNat []) 1) (ri (l.getD i.toNat []) 2) n p w < 0→VM l ⟨i+1,ri (l.getD i.toNat []) 0,ri (l.getD i.toNat []) 1,ri (l.getD i.toNat []) 2,ri (l.getD i.toNat []) 3,rb (l.getD i.toNat []) 4⟩) ∧
  (¬cK (ri (l.getD i.toNat []) 0) (ri (l.getD i.toNat []) 1) (ri (l.getD i.toNat []) 2) n p w < 0→VM l ⟨i+1,n,p,w,s,b⟩))∧(¬i < l.length→n=(wK l).1∧p=(wK l).2.1∧w=(wK l).2.2.1∧s=(wK l).2.2.2.1∧b=(wK l).2.2.2.2):=by
 obtain⟨h0,h1,h2⟩:=hq
 simp only at h0 h1 h2
 refine⟨h0,h1,fun h=>⟨by rw [bo,wr _ (by omega) (by omega)],fun _ _ _ _ _=>by simp only [Zz];omega,fun g=>⟨by simp only;omega,by simp only;omega,?_⟩,fun g=>⟨by simp only;omega,by simp only;omega,?_⟩⟩,fun h=>?_⟩
 ·simp only
  rw [Et h0 h,← h2]
  unfold UX
  rw [if_pos g]
  rfl
 ·simp only
  rw [Et h0 h,← h2]
  unfold UX
  rw [if_neg g]
 ·have e:i=l.length:=by omega
  rw [e,Int.toNat_natCast,List.take_length] at h2
  rw [← h2]
  exact⟨rfl,rfl,rfl,rfl,rfl⟩
def LH (a b w:Int) (y:E):Bool:=decide (Hy (ri y 0) (ri y 1)=a∧IW (ri y 0) (ri y 1)=b∧ri y 2=w)
def MX (l:List E) (a b w:Int):Int:=match l.find? (LH a b w) with
 |some y=>ri y 3
 |none=>0
structure XI where
 i:Int
def seQ (l:List E) (a b w:Int) (y:XI):Prop:=0≤y.i∧y.i≤l.length∧MX l a b w=MX (l.drop y.i.toNat) a b w
def uB (l:List E) (y:XI):Nat:=l.length - y.i.toNat
noncomputable def seI (A:Ar) (l:List E) (a b w:Int) (y:XI):St:=cC Tryz.f176.ntmps [(3,.ptr 1 0),(7,.sl none (.ah (.int .i64 (.int .i64 (.int .i64 (.int .i64 (.bool .nil))))) l)),(8,.val (.int .i64 (A.dN l))),(9,.val (.int .i64 y.i))] [(1,.cells 183 [.val (.int .i64 a),.val (.int .i64 b),.val (.int .i64 w)])] [Any,Any]
def iR (k:Nat) (st:St):XI:=⟨bR st k⟩
theorem qu (l:List E) (i:Int) (h0:0≤i) (h:i < l.length):l.drop i.toNat=l.getD i.toNat [] :: l.drop (i+1).toNat:=by
 have e:(i+1).toNat=i.toNat+1:=by omega
 have hi:i.toNat < l.length:=by omega
 rw [e,List.drop_eq_getElem_cons hi,List.getD_eq_getElem?_getD,List.getElem?_eq_getElem hi]
 rfl
theorem Mw {l:List E} (hl:l.length≤1000000) {a b w i:Int} (hq:seQ l a b w ⟨i⟩):0≤i∧i≤l.length∧(i < l.length→aO .add .i64 i 1=i+1∧uB l ⟨i+1⟩ < uB l ⟨i⟩ ∧
  ((Hy (ri (l.getD i.toNat []) 0) (ri (l.getD i.toNat []) 1)=a∧IW (ri (l.getD i.toNat []) 0) (ri (l.getD i.toNat []) 1)=b∧ri (l.getD i.toNat []) 2=w)→MX l a b w=ri (l.getD i.toNat []) 3) ∧
  (¬(Hy (ri (l.getD i.toNat []) 0) (ri (l.getD i.toNat []) 1)=a∧IW (ri (l.getD i.toNat []) 0) (ri (l.getD i.toNat []) 1)=b∧ri (l.getD i.toNat []) 2=w)→seQ l a b w ⟨i+1⟩))∧(¬i < l.length→MX l a b w=0):=by
 obtain⟨h0,h1,h2⟩:=hq
 simp only at h0 h1 h2
 refine⟨h0,h1,fun h=>⟨by rw [bo,wr _ (by omega) (by omega)],by simp only [uB];omega,fun g=>?_,fun g=>⟨by simp only;omega,by simp only;omega,?_⟩⟩,fun h=>?_⟩
 ·rw [h2,qu l i h0 h]
  unfold MX
  rw [List.find?_cons_of_pos (by unfold LH;exact decide_eq_true g)]
 ·simp only
  rw [h2,qu l i h0 h]
  unfold MX
  rw [List.find?_cons_of_neg (by unfold LH;rw [decide_eq_true_eq];exact g)]
 ·rw [h2,List.drop_of_length_le (by omega)]
  rfl
noncomputable def i0I (A:Ar) (n:List Int) (l:List E) (y:XI):St:=cC Tryz.f151.ntmps [(1,.ptr 1 0),(4,.val (.slice none 0 0)),(13,.sl none (.ah (.int .i64 (.int .i64 (.int .i64 (.int .i64 (.bool .nil))))) l)),(14,.val (.int .i64 (A.dN l))),(15,.val (.int .i64 y.i))] [(1,.cells 29 [.sl none (.ints .i64 n),.sl none (.ah (.int .i64 (.int .i64 (.int .i64 (.int .i64 (.bool .nil))))) l)])] [Any]
def lnQ (l:List E) (y:XI):Prop:=0≤y.i∧y.i≤l.length
theorem Nv {l:List E} (hl:l.length≤1000000) {i:Int} (hq:lnQ l ⟨i⟩):0≤i∧i≤l.length∧(i < l.length→aO .add .i64 i 1=i+1∧uB l ⟨i+1⟩ < uB l ⟨i⟩∧lnQ l ⟨i+1⟩):=by
 obtain⟨h0,h1⟩:=hq
 simp only at h0 h1
 exact⟨h0,h1,fun h=>⟨by rw [bo,wr _ (by omega) (by omega)],by simp only [uB];omega,by simp only;omega,by simp only;omega⟩⟩
theorem MB {l:List E} (h:tY l=[]) {i:Int} (h0:0≤i) (hi:i < l.length):OX l (l.getD i.toNat [])=[]:=by
 unfold tY at h
 have hk:i.toNat < l.length:=by omega
 rw [List.flatMap_eq_nil_iff] at h
 refine h _ ?_
 rw [List.getD_eq_getElem?_getD,List.getElem?_eq_getElem hk]
 exact List.getElem_mem hk
def ckC (k a b s:Int):Int:=if k=1∧a=0∧b=0∧s=0 then 0 else if ¬k=2∧¬k=3 then 1 else if ¬cm a=true∨¬cm b=true∨a=b∨s < 1∨s > 2147483647 then 1 else if k=3∧a > b then 1 else 0
def HT (k a b s:Int):Bool:=decide (k=1∧a=0∧b=0∧s=0∨(k=2∨k=3)∧cm a=true∧cm b=true∧a≠b∧1≤s∧s≤2147483647∧(k=2∨a < b))
structure Ch where
 abK:Int→Int→Int→Int→Int
 aaU:Int→Int→Int→Int→Bool
 Zb:Int→Int→Int→Int→Int→Int→Int
 uA:List E→K5
 VU:List E→Int→Int→Int→Int
 UB:List E→Bool
 vX:List E→Bool
 Js:List Int→List E→Bool
 YH:List Int→List E→Int
def Ch.U:Ch:=⟨ckC,HT,cK,wK,MX,fun l=>decide (l.length≤1000000),fun l=>decide (0 < l.length∧l.length≤1000000),fun n l=>decide (n.length≤1000000∧l.length≤1000000∧(lF n l).length=0),ob⟩
def AX (F:Ch):aY:=fun xs h=>match xs,h with
 |[.agg [.val (.int .i64 a_n),.val (.int .i64 a_p),.val (.int .i64 a_w),.val (.int .i64 _),.val (.bool _)],.agg [.val (.int .i64 d_n),.val (.int .i64 d_p),.val (.int .i64 d_w),.val (.int .i64 _),.val (.bool _)]],[]=>some ⟨True,.sa (I (F.Zb a_n a_p a_w d_n d_p d_w)),[],[Any,Any]⟩
 |_,_=>none
theorem SX (a_n:Int) (a_p:Int) (a_w:Int) (a_s:Int) (a_m:Bool) (d_n:Int) (d_p:Int) (d_w:Int) (d_s:Int) (d_m:Bool):aV [(170,iP ViL.Vl.U),(175,ka EgR.Fs.U)] Tryz.f157 [.agg [.val (.int .i64 a_n),.val (.int .i64 a_p),.val (.int .i64 a_w),.val (.int .i64 a_s),.val (.bool a_m)],.agg [.val (.int .i64 d_n),.val (.int .i64 d_p),.val (.int .i64 d_w),.val (.int .i64 d_s),.val (.bool d_m)]] [] ⟨True,.sa (I (Ch.U.Zb a_n a_p a_w d_n d_p d_w)),[],[Any,Any]⟩:=by
 intro b gv
 have hfs:=(af.cons dO (af.cons fg af.nil rfl) rfl)
 generalize hF:Ch.U=F at hfs ⊢
 generalize hG0:ViL.Vl.U=G0 at hfs ⊢
 generalize hG1:ViC.Vc.U=G1 at hfs ⊢
 generalize hG2:EgR.Fs.U=G2 at hfs ⊢
 generalize hG3:ViR.Vs.U=G3 at hfs ⊢
 generalize hA:Ar.U=A
 generalize hL:Lp _ _ _=L
 obtain⟨Z,zq⟩:=aQ
 refine aD (ae hL) zq rfl ?_
 repeat' (first|(refine aw zq ?_;try dsimp only)|refine ax zq ?_ (ae hL)|refine az zq ?_|refine ay ?_|refine aq ?_|refine ar ?_|refine av ?_|refine au rfl ?_|refine ai rfl ?_|refine aj rfl ?_|(refine Cd.mk ?_;cbv)|(refine aE.mk ?_;cbv)|(refine aM.mk ?_;cbv)|exact trivial|refine And.intro ?_ ?_|refine bu fun _=>?_|refine br fun _=>?_)
 all_goals
  clear hL zq Z
  try clear hfs
  subst hA hF hG0 hG1 hG2 hG3
  simp only [Ch.U,ViL.Vl.U,EgR.Fs.U] at *
  try (grind [al,cK])
theorem Ej:aA Tryz.prog 157 (AX Ch.U):=by
 refine aG (af.cons dO (af.cons fg af.nil rfl) rfl) Tryz.func157 rfl rfl fun xs h p hp=>?_
 unfold AX at hp
 split at hp
 ·cases hp
  exact⟨aB rfl,fun _ _=>SX _ _ _ _ _ _ _ _ _ _⟩
 ·cases hp
def wE (F:Ch):aY:=fun xs h=>match xs,h with
 |[.one (.sl none (.ah (.int .i64 (.int .i64 (.int .i64 (.int .i64 (.bool .nil))))) l))],[]=>some ⟨F.vX l=true,.sa (.one (.own 0)),[(0,.row 94 (.ah (.int .i64 (.int .i64 (.int .i64 (.int .i64 (.bool .nil))))) l))],[Any]⟩
 |_,_=>none
theorem OQ (l:List E) (hC:Ch.U.vX l=true):aV [(dJ 3000,fy)] Tryz.f173 [.one (.sl none (.ah (.int .i64 (.int .i64 (.int .i64 (.int .i64 (.bool .nil))))) l))] [] ⟨Ch.U.vX l=true,.sa (.one (.own 0)),[(0,.row 94 (.ah (.int .i64 (.int .i64 (.int .i64 (.int .i64 (.bool .nil))))) l))],[Any]⟩:=by
 intro b gv
 have hk:0 < l.length∧l.length≤1000000:=of_decide_eq_true (show decide (0 < l.length∧l.length≤1000000)=true from hC)
 have hfs:=(af.own (u:=3000) af.nil)
 generalize hF:Ch.U=F at hC hfs ⊢
 generalize hG0:ViL.Vl.U=G0 at hC hfs ⊢
 generalize hG1:ViC.Vc.U=G1 at hC hfs ⊢
 generalize hG2:EgR.Fs.U=G2 at hC hfs ⊢
 generalize hG3:ViR.Vs.U=G3 at hC hfs ⊢
 generalize hA:Ar.U=A
 generalize hL:Lp _ _ _=L
 obtain⟨Z,zq⟩:=aQ
 refine aD (ae hL) zq rfl ?_
 repeat' (first|(refine aw zq ?_;try dsimp only)|refine ax zq ?_ (ae hL)|refine az zq ?_|refine ay ?_|refine aq ?_|refine ar ?_|refine av ?_|refine au rfl ?_|refine ai rfl ?_|refine aj rfl ?_|(refine Cd.mk ?_;cbv)|(refine aE.mk ?_;cbv)|(refine aM.mk ?_;cbv)|exact trivial|refine And.intro ?_ ?_|refine bu fun _=>?_|refine br fun _=>?_)
 all_goals
  clear hL zq Z
  try clear hfs
  subst hA hF hG0 hG1 hG2 hG3
  simp only [Ch.U,Ar.U,List.nil_append] at *
  try (grind [al])
theorem Az:aA Tryz.prog 173 (wE Ch.U):=by
 refine aG (af.own (u:=3000) af.nil) Tryz.func173 rfl rfl fun xs h p hp=>?_
 unfold wE at hp
 split at hp
 ·cases hp
  exact⟨aB rfl,fun hC _=>OQ _ hC⟩
 ·cases hp
def sr (_:Ch):aY:=fun xs h=>match xs,h with
 |[.one (.val (.slice none 0 0))],[]=>some ⟨True,.sa (.one (.val (.slice none 0 0))),[],[Any]⟩
 |_,_=>none
theorem HO:aV [] Tryz.f173 [.one (.val (.slice none 0 0))] [] ⟨True,.sa (.one (.val (.slice none 0 0))),[],[Any]⟩:=by
 intro b gv
 have hfs:=af.nil
 generalize hF:Ch.U=F at hfs ⊢
 generalize hG0:ViL.Vl.U=G0 at hfs ⊢
 generalize hG1:ViC.Vc.U=G1 at hfs ⊢
 generalize hG2:EgR.Fs.U=G2 at hfs ⊢
 generalize hG3:ViR.Vs.U=G3 at hfs ⊢
 generalize hA:Ar.U=A
 generalize hL:Lp _ _ _=L
 obtain⟨Z,zq⟩:=aQ
 refine aD (ae hL) zq rfl ?_
 repeat' (first|(refine aw zq ?_;try dsimp only)|refine ax zq ?_ (ae hL)|refine az zq ?_|refine ay ?_|refine aq ?_|refine ar ?_|refine av ?_|refine au rfl ?_|refine ai rfl ?_|refine aj rfl ?_|(refine Cd.mk ?_;cbv)|(refine aE.mk ?_;cbv)|(refine aM.mk ?_;cbv)|exact trivial|refine And.intro ?_ ?_|refine bu fun _=>?_|refine br fun _=>?_)
 all_goals
  clear hL zq Z
  try clear hfs
  subst hA hF hG0 hG1 hG2 hG3
  simp only [Ch.U,ViR.Vs.U,ViL.Vl.U,ViC.Vc.U,EgR.Fs.U,Ar.U,List.nil_append] at *
  try (grind [al])
theorem vv:aA Tryz.prog 173 (sr Ch.U):=by
 refine aG af.nil Tryz.func173 rfl rfl fun xs h p hp=>?_
 unfold sr at hp
 split at hp
 ·cases hp
  exact⟨aB rfl,fun _ _=>HO ⟩
 ·cases hp
def BN (F:Ch):aY:=fun xs h=>match xs,h with
 |[.one (.sl none (.ah (.int .i64 (.int .i64 (.int .i64 (.int .i64 (.bool .nil))))) l)),.agg [.val (.int .i64 e_a),.val (.int .i64 e_b),.val (.int .i64 e_w)]],[]=>some ⟨F.UB l=true,.sa (I (F.VU l e_a e_b e_w)),[],[Any,Any]⟩
 |_,_=>none
theorem TQ (l:List E) (e_a:Int) (e_b:Int) (e_w:Int) (hC:Ch.U.UB l=true):aV [(170,iP ViL.Vl.U)] Tryz.f176 [.one (.sl none (.ah (.int .i64 (.int .i64 (.int .i64 (.int .i64 (.bool .nil))))) l)),.agg [.val (.int .i64 e_a),.val (.int .i64 e_b),.val (.int .i64 e_w)]] [] ⟨Ch.U.UB l=true,.sa (I (Ch.U.VU l e_a e_b e_w)),[],[Any,Any]⟩:=by
 intro b gv
 have hk:l.length≤1000000:=of_decide_eq_true (show decide (l.length≤1000000)=true from hC)
 have hfs:=(af.cons dO af.nil rfl)
 generalize hF:Ch.U=F at hC hfs ⊢
 generalize hG0:ViL.Vl.U=G0 at hC hfs ⊢
 generalize hG1:ViC.Vc.U=G1 at hC hfs ⊢
 generalize hG2:EgR.Fs.U=G2 at hC hfs ⊢
 generalize hG3:ViR.Vs.U=G3 at hC hfs ⊢
 generalize hA:Ar.U=A
 generalize hL:Lp _ _ _=L
 obtain⟨Z,zq⟩:=aQ
 refine aD (ae hL) zq rfl ?_
 repeat' (first|(refine aw zq ?_;try dsimp only)|refine ax zq ?_ (ae hL)|refine az zq ?_|refine ay ?_|refine aq ?_|refine ar ?_|refine av ?_|refine au rfl ?_|refine ai rfl ?_|refine aj rfl ?_|(refine Cd.mk ?_;cbv)|(refine aE.mk ?_;cbv)|(refine aM.mk ?_;cbv)|exact trivial|refine And.intro ?_ ?_|refine bu fun _=>?_|refine br fun _=>?_)
 subst hL
 refine ba (bx hfs) (seQ l e_a e_b e_w) (seI A l e_a e_b e_w) (uB l) (iR 9) ⟨0⟩ ?_ ?_ ?_
 ·exact⟨Int.le_refl 0,Int.natCast_nonneg _,rfl⟩
 ·cbv
  repeat' (first|exact trivial|exact rfl|refine And.intro ?_ ?_)
 rintro⟨i⟩ hq O hO
 have hst:=Mw hk hq
 subst hA
 generalize hA:Ar.U=A
 generalize hL:Lp _ _ _=L
 refine aR zq ?_
 repeat' (first|(refine aw zq ?_;try dsimp only)|refine ax zq ?_ (ae hL)|refine az zq ?_|refine ay ?_|refine aq ?_|refine ar ?_|refine av ?_|refine au rfl ?_|refine ai rfl ?_|refine aj rfl ?_|(refine Cd.mk ?_;cbv)|(refine aE.mk ?_;cbv)|(refine aM.mk ?_;cbv)|exact trivial|refine And.intro ?_ ?_|refine bu fun _=>?_|refine br fun _=>?_)
 all_goals (clear hL hfs zq Z hq;subst hA hF hG0 hG1 hG2 hG3 hO;simp only [Ch.U,ViL.Vl.U,Ar.U] at * <;> grind [al];done)
theorem EA:aA Tryz.prog 176 (BN Ch.U):=by
 refine aG (af.cons dO af.nil rfl) Tryz.func176 rfl rfl fun xs h p hp=>?_
 unfold BN at hp
 split at hp
 ·cases hp
  exact⟨aB rfl,fun hC _=>TQ _ _ _ _ hC⟩
 ·cases hp
def xd (F:Ch):aY:=fun xs h=>match xs,h with
 |[.one (.sl none (.ah (.int .i64 (.int .i64 (.int .i64 (.int .i64 (.bool .nil))))) l)),.one (.val (.func (.func 157) ⟨[]⟩ ⟨[]⟩))],[]=>some ⟨F.vX l=true,.sa (.agg [.val (.int .i64 (F.uA l).1),.val (.int .i64 (F.uA l).2.1),.val (.int .i64 (F.uA l).2.2.1),.val (.int .i64 (F.uA l).2.2.2.1),.val (.bool (F.uA l).2.2.2.2)]),[],[Any,Any]⟩
 |_,_=>none
theorem Rr (l:List E) (hC:Ch.U.vX l=true):aV [(157,AX Ch.U)] Tryz.f156 [.one (.sl none (.ah (.int .i64 (.int .i64 (.int .i64 (.int .i64 (.bool .nil))))) l)),.one (.val (.func (.func 157) ⟨[]⟩ ⟨[]⟩))] [] ⟨Ch.U.vX l=true,.sa (.agg [.val (.int .i64 (Ch.U.uA l).1),.val (.int .i64 (Ch.U.uA l).2.1),.val (.int .i64 (Ch.U.uA l).2.2.1),.val (.int .i64 (Ch.U.uA l).2.2.2.1),.val (.bool (Ch.U.uA l).2.2.2.2)]),[],[Any,Any]⟩:=by
 intro b gv
 have hk:0 < l.length∧l.length≤1000000:=of_decide_eq_true (show decide (0 < l.length∧l.length≤1000000)=true from hC)
 have hfs:=(af.cons Ej af.nil rfl)
 generalize hF:Ch.U=F at hC hfs ⊢
 generalize hG0:ViL.Vl.U=G0 at hC hfs ⊢
 generalize hG1:ViC.Vc.U=G1 at hC hfs ⊢
 generalize hG2:EgR.Fs.U=G2 at hC hfs ⊢
 generalize hG3:ViR.Vs.U=G3 at hC hfs ⊢
 generalize hA:Ar.U=A
 generalize hL:Lp _ _ _=L
 obtain⟨Z,zq⟩:=aQ
 refine aD (ae hL) zq rfl ?_
 repeat' (first|(refine aw zq ?_;try dsimp only)|refine ax zq ?_ (ae hL)|refine az zq ?_|refine ay ?_|refine aq ?_|refine ar ?_|refine av ?_|refine au rfl ?_|refine ai rfl ?_|refine aj rfl ?_|(refine Cd.mk ?_;cbv)|(refine aE.mk ?_;cbv)|(refine aM.mk ?_;cbv)|exact trivial|refine And.intro ?_ ?_|refine bu fun _=>?_|refine br fun _=>?_)
 all_goals first|(show L _ _ _;skip)|(clear hL hfs zq Z;subst hA hF hG0 hG1 hG2 hG3;simp only [Ch.U,Ar.U] at * <;> grind [al];done)
 subst hL
 refine ba (bx hfs) (VM l) (mnI l) (Zz l) mnR ⟨1,A.ri (A.bh l 0) 0,A.ri (A.bh l 0) 1,A.ri (A.bh l 0) 2,A.ri (A.bh l 0) 3,A.rb (A.bh l 0) 4⟩ ?_ ?_ ?_
 ·(subst hA;exact NT hk.1)
 ·cbv
  repeat' (first|exact trivial|exact rfl|refine And.intro ?_ ?_)
 rintro⟨i,n,p,w,s,b⟩ hq O hO
 have hst:=MH hk.2 hq
 subst hA
 generalize hA:Ar.U=A
 generalize hL:Lp _ _ _=L
 refine aR zq ?_
 repeat' (first|(refine aw zq ?_;try dsimp only)|refine ax zq ?_ (ae hL)|refine az zq ?_|refine ay ?_|refine aq ?_|refine ar ?_|refine av ?_|refine au rfl ?_|refine ai rfl ?_|refine aj rfl ?_|(refine Cd.mk ?_;cbv)|(refine aE.mk ?_;cbv)|(refine aM.mk ?_;cbv)|exact trivial|refine And.intro ?_ ?_|refine bu fun _=>?_|refine br fun _=>?_)
 all_goals (clear hL hfs zq Z hq;subst hA hF hG0 hG1 hG2 hG3 hO;simp only [Ch.U,Ar.U] at * <;> grind [al];done)
theorem rk:aA Tryz.prog 156 (xd Ch.U):=by
 refine aG (af.cons Ej af.nil rfl) Tryz.func156 rfl rfl fun xs h p hp=>?_
 unfold xd at hp
 split at hp
 ·cases hp
  exact⟨aB rfl,fun hC _=>Rr _ hC⟩
 ·cases hp
def tz (F:Ch):aY:=fun xs h=>match xs,h with
 |[.agg [.sl none (.ints .i64 v_n),.sl none (.ah (.int .i64 (.int .i64 (.int .i64 (.int .i64 (.bool .nil))))) v_l)]],[]=>some ⟨F.Js v_n v_l=true,.bK [.one (.val (.slice none 0 0)),I (F.YH v_n v_l)],[],[Any]⟩
 |_,_=>none
theorem IC (v_n:List Int) (v_l:List E) (hC:Ch.U.Js v_n v_l=true):aV [(129,dD ViC.Vc.U),(169,qz ViL.Vl.U)] Tryz.f151 [.agg [.sl none (.ints .i64 v_n),.sl none (.ah (.int .i64 (.int .i64 (.int .i64 (.int .i64 (.bool .nil))))) v_l)]] [] ⟨Ch.U.Js v_n v_l=true,.bK [.one (.val (.slice none 0 0)),I (Ch.U.YH v_n v_l)],[],[Any]⟩:=by
 intro b gv
 have hk:v_n.length≤1000000∧v_l.length≤1000000∧(lF v_n v_l).length=0:=of_decide_eq_true (show decide (v_n.length≤1000000∧v_l.length≤1000000∧(lF v_n v_l).length=0)=true from hC)
 have hz:bf v_n v_l=true→tY v_l=[]:=fun h=>by have e:lF v_n v_l=tY v_l:=if_pos h;rw [← e];exact List.eq_nil_of_length_eq_zero hk.2.2
 have hfs:=(af.cons bM (af.cons nQ af.nil rfl) rfl)
 generalize hF:Ch.U=F at hC hfs ⊢
 generalize hG0:ViL.Vl.U=G0 at hC hfs ⊢
 generalize hG1:ViC.Vc.U=G1 at hC hfs ⊢
 generalize hG2:EgR.Fs.U=G2 at hC hfs ⊢
 generalize hG3:ViR.Vs.U=G3 at hC hfs ⊢
 generalize hA:Ar.U=A
 generalize hL:Lp _ _ _=L
 obtain⟨Z,zq⟩:=aQ
 refine aD (ae hL) zq rfl ?_
 repeat' (first|(refine aw zq ?_;try dsimp only)|refine ax zq ?_ (ae hL)|refine az zq ?_|refine ay ?_|refine aq ?_|refine ar ?_|refine av ?_|refine au rfl ?_|refine ai rfl ?_|refine aj rfl ?_|(refine Cd.mk ?_;cbv)|(refine aE.mk ?_;cbv)|(refine aM.mk ?_;cbv)|exact trivial|refine And.intro ?_ ?_|refine bu fun _=>?_|refine br fun _=>?_)
 all_goals first|(show L _ _ _;skip)|(clear hL hfs zq Z;subst hA hF hG0 hG1 hG2 hG3;simp only [Ch.U,ViC.Vc.U,Ar.U] at * <;> grind [al,ob];done)
 rename_i hx
 have hv:bf v_n v_l=true:=by
  clear hL hfs zq Z
  subst hA hF hG0 hG1 hG2 hG3
  simp only [ViC.Vc.U,Ar.U] at hx
  grind [al,ob]
 clear hx
 have hz:=hz hv
 subst hL
 refine ba (bx hfs) (lnQ v_l) (i0I A v_n v_l) (uB v_l) (iR 15) ⟨0⟩ ?_ ?_ ?_
 ·exact⟨Int.le_refl 0,Int.natCast_nonneg _⟩
 ·cbv
  repeat' (first|exact trivial|exact rfl|refine And.intro ?_ ?_)
 rintro⟨i⟩ hq O hO
 have hst:=Nv hk.2.1 hq
 have hn:=fun h=>MB hz hq.1 h
 dsimp only at hn
 have hin:OX v_l (v_l.getD i.toNat [])=if ri (v_l.getD i.toNat []) 0 < ri (v_l.getD i.toNat []) 1∧Pg v_l (ri (v_l.getD i.toNat []) 1) (ri (v_l.getD i.toNat []) 0)=true∧(KB v_l (ri (v_l.getD i.toNat []) 1) (ri (v_l.getD i.toNat []) 0)).w=ri (v_l.getD i.toNat []) 2∧(KB v_l (ri (v_l.getD i.toNat []) 1) (ri (v_l.getD i.toNat []) 0)).s=ri (v_l.getD i.toNat []) 3 then [[D.int (ri (v_l.getD i.toNat []) 0),D.int (ri (v_l.getD i.toNat []) 1),D.int (ri (v_l.getD i.toNat []) 2),D.int (ri (v_l.getD i.toNat []) 3),D.bool (rb (v_l.getD i.toNat []) 4 && (KB v_l (ri (v_l.getD i.toNat []) 1) (ri (v_l.getD i.toNat []) 0)).m)]] else []:=rfl
 subst hA
 generalize hA:Ar.U=A
 generalize hL:Lp _ _ _=L
 refine aR zq ?_
 repeat' (first|(refine aw zq ?_;try dsimp only)|refine ax zq ?_ (ae hL)|refine az zq ?_|refine ay ?_|refine aq ?_|refine ar ?_|refine av ?_|refine au rfl ?_|refine ai rfl ?_|refine aj rfl ?_|(refine Cd.mk ?_;cbv)|(refine aE.mk ?_;cbv)|(refine aM.mk ?_;cbv)|exact trivial|refine And.intro ?_ ?_|refine bu fun _=>?_|refine br fun _=>?_)
 all_goals (clear hL hfs zq Z hq;subst hA hF hG0 hG1 hG2 hG3 hO;simp only [Ch.U,ViL.Vl.U,Ar.U,List.nil_append] at * <;> grind [al,ob];done)
theorem vM:aA Tryz.prog 151 (tz Ch.U):=by
 refine aG (af.cons bM (af.cons nQ af.nil rfl) rfl) Tryz.func151 rfl rfl fun xs h p hp=>?_
 unfold tz at hp
 split at hp
 ·cases hp
  exact⟨aB rfl,fun hC _=>IC _ _ hC⟩
 ·cases hp
end Go.Proofs.YtelhldgdnlppfaaGreat.ChR
