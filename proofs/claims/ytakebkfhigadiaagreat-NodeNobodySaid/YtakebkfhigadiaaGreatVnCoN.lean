/-
  what a core without ties is,as the code has it. No condition.
-/
import Derived.Test.YtakebkfhigadiaaGreatVnMgR
import Derived.Test.YtakebkfhigadiaaGreatVnChR
import Derived.Test.YtakebkfhigadiaaGreatVnSpR
import Derived.Test.YtakebkfhigadiaaGreatVnViL
set_option cbv.maxSteps 4000000
set_option maxHeartbeats 4000000
set_option maxRecDepth 100000
namespace Go.Proofs.YtakebkfhigadiaaGreat.CoN
open Go Ry Cmp ViR ViC ViL
open ChR (lB mO kM mQ)
open SoC (sN qA)
open SpR (kR mK FZ)
open MgR (ma kX Dw Co JE ve jK)
structure XZ where
 i:Int
def zQ (y:XZ):Prop:=y.i=0
def zM (_:XZ):Nat:=0
def zR (k:Nat) (st:St):XZ:=⟨bA st k⟩
def emp (l:List E):Bool:=l.isEmpty
def Li (t l i:Int):Int:=if dI i=true∧0≤t∧t≤2147483647∧1≤l∧l≤2147483647 then (if t≥l then 10 else 0) else 1
def Vt (t l i:Int):Int:=if Li t l i=0 then t+1 else 0
def VB (t l i:Int):Int:=if Li t l i=0 then i else 0
theorem WN {t l i:Int} (h:Li t l i=0):aB .add .i64 t 1=t+1∧dI i=true∧0≤t∧t < l∧l≤2147483647:=by
 unfold Li at h
 split at h
 ·rename_i q
  split at h
  ·cases h
  ·exact⟨by rw [aY,wr _ (by omega) (by omega)],q.1,by omega,by omega,by omega⟩
 ·cases h
def vX (i l:Int):Bool:=dI i && decide (1≤l∧l≤2147483647)
theorem MS {i l:Int} (h:vX i l=true):dI i=true∧1≤l∧l≤2147483647:=by
 unfold vX at h
 simp only [Bool.and_eq_true,decide_eq_true_eq] at h
 exact h
theorem Ss {i l:Int} (h:vX i l=true):Li 0 l i=0∧Vt 0 l i=1∧VB 0 l i=i:=by
 obtain⟨h1,h2,h3⟩:=MS h
 have e:Li 0 l i=0:=by
  unfold Li
  rw [if_pos ⟨h1,Int.le_refl 0,by decide,h2,h3⟩,if_neg (by omega)]
 unfold Vt VB
 rw [e]
 exact⟨rfl,rfl,rfl⟩
theorem Ph {i:Int} (h:dI i=true):∃ k:Nat,1≤k∧k < 65∧i=(k:Int):=by
 unfold dI at h
 simp only [decide_eq_true_eq] at h
 exact⟨i.toNat,by omega,by omega,by omega⟩
def MT (p:Nat→Bool):Bool:=(List.range 65).all fun k=>k == 0 || p k
theorem Wk {p:Nat→Bool} (h:MT p=true) {k:Nat} (h1:1≤k) (h2:k < 65):p k=true:=by
 have:=List.all_eq_true.1 h k (List.mem_range.2 h2)
 rw [Bool.or_eq_true,beq_iff_eq] at this
 rcases this with g|g
 ·omega
 ·exact g
theorem NQ:MT (fun k=>bE [(k:Int)] [])=true:=by decide +kernel
theorem IC {i:Int} (h:dI i=true):bE [i] []=true:=by
 obtain⟨k,h1,h2,rfl⟩:=Ph h
 exact Wk NQ h1 h2
theorem UO:bE [] []=true:=by decide +kernel
theorem UY {i:Int} (h:dI i=true):ve [i] [] [] []=true:=by
 unfold ve
 rw [IC h,UO]
 rfl
theorem WQ {i:Int} (h:dI i=true):Dw [i] [] [] []=[i]:=by
 have e:Dw [i] [] [] []=SoI.fZ [i]:=if_pos (UY h)
 rw [e]
 exact List.perm_singleton.1 (SoI.du [i]).2.1
theorem Xs {i:Int} (h:dI i=true):Co [i] [] [] []=[]:=by
 have e:Co [i] [] [] []=SoK.pG []:=if_pos (UY h)
 rw [e]
 exact List.eq_nil_of_length_eq_zero (SoK.ia []).1
theorem Wv {i:Int} (h:dI i=true):JE [i] [] [] []=0:=by
 unfold JE
 rw [IC h,UO]
 rfl
theorem Tt (n:List Int):Bp n []=[]:=by
 unfold Bp
 split <;> rfl
theorem Wi (n:List Int):Uw n []=[]:=by
 unfold Uw
 split <;> rfl
theorem Ww (n:List Int):Qq n []=[]:=by
 unfold Qq
 split <;> rfl
theorem Wl:FZ []=true:=by decide +kernel
theorem XF {n:List Int} (h:bE n []=true):mi n []=0:=if_pos h
theorem VU {n:List Int} (h:n.length≤70):decide (n.length≤1000000∧([]:List E).length≤1000000∧(Bp n []).length=0)=true:=by
 rw [Tt]
 exact decide_eq_true ⟨by omega,Nat.zero_le _,rfl⟩
theorem Wr {n:List Int} (h:n.length≤70):decide (n.length≤1000000∧([]:List E).length≤1000000)=true:=decide_eq_true ⟨by omega,Nat.zero_le _⟩
def WI (n:List Int) (l:List E):Bool:=l.isEmpty && (bE n [] && decide (n.length≤70))
structure Cn where
 TP:Int→Int→Int→Int
 Sk:Int→Int→Int→Int
 Tp:Int→Int→Int→Int
 RC:List E→Bool
 Qi:Int→Int→Bool
 QX:List Int→List E→Bool
 DW:Int→Bool
 PK:Int→Int→Bool
 zb:Int→Int→Int→Int
 VT:Int→Int→List Int
 RS:List Int→List E→Bool
 Py:List Int→Bool
 QN:List E→Bool
 Xy:Int→Int→Int
def Cn.U:Cn:=⟨Li,Vt,VB,emp,fun a b=>decide (a < b),WI,dI,vX,fun i l x=>if vX i l=true then x else 0,fun i l=>if vX i l=true then [i] else [],fun n l=>decide (n.length≤1000∧l.length≤1000),fun n=>decide (n.length≤1000),fun n=>decide (n.length≤1000),fun i l=>if vX i l=true then 0 else 1⟩
def uN (F:Cn):aW:=fun xs h=>match xs,h with
 |[.one (.val (.int .i64 t)),.one (.val (.int .i64 l)),.one (.val (.int .i64 i))],[]=>some ⟨True,.bB [.agg [.val (.int .i64 (F.Sk t l i)),.val (.int .i64 (F.Tp t l i))],I (F.TP t l i)],[],[Any,Any,Any]⟩
 |_,_=>none
theorem Ml (t:Int) (l:Int) (i:Int):aR [(108,jx ViR.Vs.U)] Tryz.f154 [.one (.val (.int .i64 t)),.one (.val (.int .i64 l)),.one (.val (.int .i64 i))] [] ⟨True,.bB [.agg [.val (.int .i64 (Cn.U.Sk t l i)),.val (.int .i64 (Cn.U.Tp t l i))],I (Cn.U.TP t l i)],[],[Any,Any,Any]⟩:=by
 intro b gv
 have h0:=fun h=>WN (t:=t) (l:=l) (i:=i) h
 have hfs:=(af.cons er af.nil rfl)
 generalize hF:Cn.U=F at hfs ⊢
 generalize hG0:ViR.Vs.U=G0 at hfs ⊢
 generalize hG1:ViL.Vl.U=G1 at hfs ⊢
 generalize hG2:SpR.Sp.U=G2 at hfs ⊢
 generalize hG3:ChR.Ch.U=G3 at hfs ⊢
 generalize hG4:SoC.Oc.U=G4 at hfs ⊢
 generalize hG5:MgR.Mg.U=G5 at hfs ⊢
 generalize hA:Ar.U=A
 generalize hL:Lp _ _ _=L
 obtain⟨Z,zq⟩:=aH
 refine aA (aa hL) zq rfl ?_
 repeat' (first|(refine ay zq ?_;try dsimp only)|refine ax zq ?_ (aa hL)|refine az zq ?_|refine aw ?_|refine aq ?_|refine au ?_|refine ar ?_|refine al rfl ?_|refine ai rfl ?_|refine aj rfl ?_|(refine Cd.mk ?_;cbv)|(refine aF.mk ?_;cbv)|(refine aK.mk ?_;cbv)|exact trivial|refine And.intro ?_ ?_|refine aZ fun _=>?_|refine ba fun _=>?_)
 all_goals
  clear hL zq Z
  try clear hfs
  subst hA hF hG0 hG1 hG2 hG3 hG4 hG5
  simp only [Cn.U,ViR.Vs.U,Ar.U] at *
  try (grind [ah,Li,Vt,VB])
theorem wy:aC Tryz.prog 154 (uN Cn.U):=by
 refine aD (af.cons er af.nil rfl) Tryz.func154 rfl rfl fun xs h p hp=>?_
 unfold uN at hp
 split at hp
 ·cases hp
  exact⟨av rfl,fun _ _=>Ml _ _ _⟩
 ·cases hp
def mX (_:Cn):aW:=fun xs h=>match xs,h with
 |[.one (.ptr 0 0)],[(0,.cells 203 [.val (.int .i64 s_i),.val (.int .i64 s_ee),.val (.int .i64 s_er),.val (.int .i64 s_t),.val (.int .i64 s_p),.val (.slice none 0 0),.val (.slice none 0 0),.val (.slice none 0 0),.val (.slice none 0 0),.val (.int .i64 s_ph),.val (.slice none 0 0),.val (.slice none 0 0),.val (.int .i64 hD),.val (.bool s_o),.val (.slice none 0 0)])]=>some ⟨True,.sa (.one (.val (.slice none 0 0))),[(0,.cells 203 [.val (.int .i64 s_i),.val (.int .i64 s_ee),.val (.int .i64 s_er),.val (.int .i64 s_t),.val (.int .i64 s_p),.val (.slice none 0 0),.val (.slice none 0 0),.val (.slice none 0 0),.val (.slice none 0 0),.val (.int .i64 s_ph),.val (.slice none 0 0),.val (.slice none 0 0),.val (.int .i64 hD),.val (.bool s_o),.val (.slice none 0 0)])],[.one (.ptr 0 0)]⟩
 |_,_=>none
theorem Qh (s_i:Int) (s_ee:Int) (s_er:Int) (s_t:Int) (s_p:Int) (s_ph:Int) (hD:Int) (s_o:Bool):aR [] Tryz.f189 [.one (.ptr 0 0)] [(0,.cells 203 [.val (.int .i64 s_i),.val (.int .i64 s_ee),.val (.int .i64 s_er),.val (.int .i64 s_t),.val (.int .i64 s_p),.val (.slice none 0 0),.val (.slice none 0 0),.val (.slice none 0 0),.val (.slice none 0 0),.val (.int .i64 s_ph),.val (.slice none 0 0),.val (.slice none 0 0),.val (.int .i64 hD),.val (.bool s_o),.val (.slice none 0 0)])] ⟨True,.sa (.one (.val (.slice none 0 0))),[(0,.cells 203 [.val (.int .i64 s_i),.val (.int .i64 s_ee),.val (.int .i64 s_er),.val (.int .i64 s_t),.val (.int .i64 s_p),.val (.slice none 0 0),.val (.slice none 0 0),.val (.slice none 0 0),.val (.slice none 0 0),.val (.int .i64 s_ph),.val (.slice none 0 0),.val (.slice none 0 0),.val (.int .i64 hD),.val (.bool s_o),.val (.slice none 0 0)])],[.one (.ptr 0 0)]⟩:=by
 intro b gv
 have hfs:=af.nil
 generalize hF:Cn.U=F at hfs ⊢
 generalize hG0:ViR.Vs.U=G0 at hfs ⊢
 generalize hG1:ViL.Vl.U=G1 at hfs ⊢
 generalize hG2:SpR.Sp.U=G2 at hfs ⊢
 generalize hG3:ChR.Ch.U=G3 at hfs ⊢
 generalize hG4:SoC.Oc.U=G4 at hfs ⊢
 generalize hG5:MgR.Mg.U=G5 at hfs ⊢
 generalize hA:Ar.U=A
 generalize hL:Lp _ _ _=L
 obtain⟨Z,zq⟩:=aH
 refine aA (aa hL) zq rfl ?_
 repeat' (first|(refine ay zq ?_;try dsimp only)|refine ax zq ?_ (aa hL)|refine az zq ?_|refine aw ?_|refine aq ?_|refine au ?_|refine ar ?_|refine al rfl ?_|refine ai rfl ?_|refine aj rfl ?_|(refine Cd.mk ?_;cbv)|(refine aF.mk ?_;cbv)|(refine aK.mk ?_;cbv)|exact trivial|refine And.intro ?_ ?_|refine aZ fun _=>?_|refine ba fun _=>?_)
 subst hL
 refine bj (bo hfs) (zQ) (fun y=>bW Tryz.f189.ntmps [(0,.ptr 1 0),(3,.val (.slice none 0 0)),(10,.val (.slice none 0 0)),(11,.num .i64 0),(12,.val (.int .i64 y.i))] [(1,.cells 203 [.val (.int .i64 s_i),.val (.int .i64 s_ee),.val (.int .i64 s_er),.val (.int .i64 s_t),.val (.int .i64 s_p),.val (.slice none 0 0),.val (.slice none 0 0),.val (.slice none 0 0),.val (.slice none 0 0),.val (.int .i64 s_ph),.val (.slice none 0 0),.val (.slice none 0 0),.val (.int .i64 hD),.val (.bool s_o),.val (.slice none 0 0)])] [.one (.ptr 1 0)]) (zM) (zR 12) ⟨0⟩ ?_ ?_ ?_
 ·exact rfl
 ·cbv
  repeat' (first|exact trivial|exact rfl|refine And.intro ?_ ?_)
 rintro⟨i⟩ hq O hO
 have hi0:i=0:=hq
 subst hA
 generalize hA:Ar.U=A
 generalize hL:Lp _ _ _=L
 refine aT zq ?_
 repeat' (first|(refine ay zq ?_;try dsimp only)|refine ax zq ?_ (aa hL)|refine az zq ?_|refine aw ?_|refine aq ?_|refine au ?_|refine ar ?_|refine al rfl ?_|refine ai rfl ?_|refine aj rfl ?_|(refine Cd.mk ?_;cbv)|(refine aF.mk ?_;cbv)|(refine aK.mk ?_;cbv)|exact trivial|refine And.intro ?_ ?_|refine aZ fun _=>?_|refine ba fun _=>?_)
 all_goals first|(show L _ _ _;skip)|(exfalso;clear hL zq Z hq;subst hA hF hG0 hG1 hG2 hG3 hG4 hG5 hO;simp only [Ar.U] at * <;> grind [ah];done)|(clear hL zq Z hq;subst hA hF hG0 hG1 hG2 hG3 hG4 hG5 hO;simp only [Cn.U,ViR.Vs.U,ViL.Vl.U,SpR.Sp.U,ChR.Ch.U,SoC.Oc.U,MgR.Mg.U,Ar.U,List.nil_append] at * <;> grind [ah];done)
theorem nX:aC Tryz.prog 189 (mX Cn.U):=by
 refine aD af.nil Tryz.func189 rfl rfl fun xs h p hp=>?_
 unfold mX at hp
 split at hp
 ·cases hp
  exact⟨av rfl,fun _ _=>Qh _ _ _ _ _ _ _ _⟩
 ·cases hp
theorem oA:bY (mX Cn.U):=by
 intro xs h p hp
 unfold mX at hp
 split at hp
 ·cases hp
  rfl
 ·cases hp
def Fo (_:Cn):aW:=fun xs h=>match xs,h with
 |[.one (.val (.slice none 0 0)),.one (.val (.func (.func 224) ⟨[]⟩ ⟨[]⟩))],[]=>some ⟨True,.sa (.one (.val (.int .i64 (-1)))),[],[Any,Any]⟩
 |_,_=>none
theorem Tz:aR [] Tryz.f194 [.one (.val (.slice none 0 0)),.one (.val (.func (.func 224) ⟨[]⟩ ⟨[]⟩))] [] ⟨True,.sa (.one (.val (.int .i64 (-1)))),[],[Any,Any]⟩:=by
 intro b gv
 have hfs:=af.nil
 generalize hF:Cn.U=F at hfs ⊢
 generalize hG0:ViR.Vs.U=G0 at hfs ⊢
 generalize hG1:ViL.Vl.U=G1 at hfs ⊢
 generalize hG2:SpR.Sp.U=G2 at hfs ⊢
 generalize hG3:ChR.Ch.U=G3 at hfs ⊢
 generalize hG4:SoC.Oc.U=G4 at hfs ⊢
 generalize hG5:MgR.Mg.U=G5 at hfs ⊢
 generalize hA:Ar.U=A
 generalize hL:Lp _ _ _=L
 obtain⟨Z,zq⟩:=aH
 refine aA (aa hL) zq rfl ?_
 repeat' (first|(refine ay zq ?_;try dsimp only)|refine ax zq ?_ (aa hL)|refine az zq ?_|refine aw ?_|refine aq ?_|refine au ?_|refine ar ?_|refine al rfl ?_|refine ai rfl ?_|refine aj rfl ?_|(refine Cd.mk ?_;cbv)|(refine aF.mk ?_;cbv)|(refine aK.mk ?_;cbv)|exact trivial|refine And.intro ?_ ?_|refine aZ fun _=>?_|refine ba fun _=>?_)
 subst hL
 refine bj (bo hfs) (zQ) (fun y=>bW Tryz.f194.ntmps [(0,.val (.slice none 0 0)),(7,.num .i64 0),(8,.val (.int .i64 y.i))] [] [Any,Any]) (zM) (zR 8) ⟨0⟩ ?_ ?_ ?_
 ·exact rfl
 ·cbv
  repeat' (first|exact trivial|exact rfl|refine And.intro ?_ ?_)
 rintro⟨i⟩ hq O hO
 have hi0:i=0:=hq
 subst hA
 generalize hA:Ar.U=A
 generalize hL:Lp _ _ _=L
 refine aT zq ?_
 repeat' (first|(refine ay zq ?_;try dsimp only)|refine ax zq ?_ (aa hL)|refine az zq ?_|refine aw ?_|refine aq ?_|refine au ?_|refine ar ?_|refine al rfl ?_|refine ai rfl ?_|refine aj rfl ?_|(refine Cd.mk ?_;cbv)|(refine aF.mk ?_;cbv)|(refine aK.mk ?_;cbv)|exact trivial|refine And.intro ?_ ?_|refine aZ fun _=>?_|refine ba fun _=>?_)
 all_goals first|(show L _ _ _;skip)|(exfalso;clear hL zq Z hq;subst hA hF hG0 hG1 hG2 hG3 hG4 hG5 hO;simp only [Ar.U] at * <;> grind [ah];done)|(clear hL zq Z hq;subst hA hF hG0 hG1 hG2 hG3 hG4 hG5 hO;simp only [Cn.U,ViR.Vs.U,ViL.Vl.U,SpR.Sp.U,ChR.Ch.U,SoC.Oc.U,MgR.Mg.U,Ar.U,List.nil_append] at * <;> grind [ah];done)
theorem IN:aC Tryz.prog 194 (Fo Cn.U):=by
 refine aD af.nil Tryz.func194 rfl rfl fun xs h p hp=>?_
 unfold Fo at hp
 split at hp
 ·cases hp
  exact⟨av rfl,fun _ _=>Tz ⟩
 ·cases hp
def yX (_:Cn):aW:=fun xs h=>match xs,h with
 |[.one (.val (.slice none 0 0)),.one (.val (.func (.func 224) ⟨[]⟩ ⟨[]⟩))],[]=>some ⟨True,.sa (B false),[],[Any,Any]⟩
 |_,_=>none
theorem QB:aR [(194,Fo Cn.U)] Tryz.f169 [.one (.val (.slice none 0 0)),.one (.val (.func (.func 224) ⟨[]⟩ ⟨[]⟩))] [] ⟨True,.sa (B false),[],[Any,Any]⟩:=by
 intro b gv
 have hfs:=(af.cons IN af.nil rfl)
 generalize hF:Cn.U=F at hfs ⊢
 generalize hG0:ViR.Vs.U=G0 at hfs ⊢
 generalize hG1:ViL.Vl.U=G1 at hfs ⊢
 generalize hG2:SpR.Sp.U=G2 at hfs ⊢
 generalize hG3:ChR.Ch.U=G3 at hfs ⊢
 generalize hG4:SoC.Oc.U=G4 at hfs ⊢
 generalize hG5:MgR.Mg.U=G5 at hfs ⊢
 generalize hA:Ar.U=A
 generalize hL:Lp _ _ _=L
 obtain⟨Z,zq⟩:=aH
 refine aA (aa hL) zq rfl ?_
 repeat' (first|(refine ay zq ?_;try dsimp only)|refine ax zq ?_ (aa hL)|refine az zq ?_|refine aw ?_|refine aq ?_|refine au ?_|refine ar ?_|refine al rfl ?_|refine ai rfl ?_|refine aj rfl ?_|(refine Cd.mk ?_;cbv)|(refine aF.mk ?_;cbv)|(refine aK.mk ?_;cbv)|exact trivial|refine And.intro ?_ ?_|refine aZ fun _=>?_|refine ba fun _=>?_)
 all_goals
  clear hL zq Z
  try clear hfs
  subst hA hF hG0 hG1 hG2 hG3 hG4 hG5
  simp only [Ar.U] at *
  try (grind [ah])
theorem Af:aC Tryz.prog 169 (yX Cn.U):=by
 refine aD (af.cons IN af.nil rfl) Tryz.func169 rfl rfl fun xs h p hp=>?_
 unfold yX at hp
 split at hp
 ·cases hp
  exact⟨av rfl,fun _ _=>QB ⟩
 ·cases hp
def pe (_:Cn):aW:=fun xs h=>match xs,h with
 |[.one (.ptr 0 0)],[(0,.cells 203 [.val (.int .i64 s_i),.val (.int .i64 s_ee),.val (.int .i64 s_er),.val (.int .i64 s_t),.val (.int .i64 s_p),.val (.slice none 0 0),.val (.slice none 0 0),.val (.slice none 0 0),.val (.slice none 0 0),.val (.int .i64 s_ph),.val (.slice none 0 0),.val (.slice none 0 0),.val (.int .i64 hD),.val (.bool s_o),.val (.slice none 0 0)])]=>some ⟨True,.sa (B false),[(0,.cells 203 [.val (.int .i64 s_i),.val (.int .i64 s_ee),.val (.int .i64 s_er),.val (.int .i64 s_t),.val (.int .i64 s_p),.val (.slice none 0 0),.val (.slice none 0 0),.val (.slice none 0 0),.val (.slice none 0 0),.val (.int .i64 s_ph),.val (.slice none 0 0),.val (.slice none 0 0),.val (.int .i64 hD),.val (.bool s_o),.val (.slice none 0 0)])],[.one (.ptr 0 0)]⟩
 |_,_=>none
theorem Rj (s_i:Int) (s_ee:Int) (s_er:Int) (s_t:Int) (s_p:Int) (s_ph:Int) (hD:Int) (s_o:Bool):aR [(169,yX Cn.U)] Tryz.f212 [.one (.ptr 0 0)] [(0,.cells 203 [.val (.int .i64 s_i),.val (.int .i64 s_ee),.val (.int .i64 s_er),.val (.int .i64 s_t),.val (.int .i64 s_p),.val (.slice none 0 0),.val (.slice none 0 0),.val (.slice none 0 0),.val (.slice none 0 0),.val (.int .i64 s_ph),.val (.slice none 0 0),.val (.slice none 0 0),.val (.int .i64 hD),.val (.bool s_o),.val (.slice none 0 0)])] ⟨True,.sa (B false),[(0,.cells 203 [.val (.int .i64 s_i),.val (.int .i64 s_ee),.val (.int .i64 s_er),.val (.int .i64 s_t),.val (.int .i64 s_p),.val (.slice none 0 0),.val (.slice none 0 0),.val (.slice none 0 0),.val (.slice none 0 0),.val (.int .i64 s_ph),.val (.slice none 0 0),.val (.slice none 0 0),.val (.int .i64 hD),.val (.bool s_o),.val (.slice none 0 0)])],[.one (.ptr 0 0)]⟩:=by
 intro b gv
 have hfs:=(af.cons Af af.nil rfl)
 generalize hF:Cn.U=F at hfs ⊢
 generalize hG0:ViR.Vs.U=G0 at hfs ⊢
 generalize hG1:ViL.Vl.U=G1 at hfs ⊢
 generalize hG2:SpR.Sp.U=G2 at hfs ⊢
 generalize hG3:ChR.Ch.U=G3 at hfs ⊢
 generalize hG4:SoC.Oc.U=G4 at hfs ⊢
 generalize hG5:MgR.Mg.U=G5 at hfs ⊢
 generalize hA:Ar.U=A
 generalize hL:Lp _ _ _=L
 obtain⟨Z,zq⟩:=aH
 refine aA (aa hL) zq rfl ?_
 repeat' (first|(refine ay zq ?_;try dsimp only)|refine ax zq ?_ (aa hL)|refine az zq ?_|refine aw ?_|refine aq ?_|refine au ?_|refine ar ?_|refine al rfl ?_|refine ai rfl ?_|refine aj rfl ?_|(refine Cd.mk ?_;cbv)|(refine aF.mk ?_;cbv)|(refine aK.mk ?_;cbv)|exact trivial|refine And.intro ?_ ?_|refine aZ fun _=>?_|refine ba fun _=>?_)
 all_goals
  clear hL zq Z
  try clear hfs
  subst hA hF hG0 hG1 hG2 hG3 hG4 hG5
  simp only [Cn.U,ViR.Vs.U,ViL.Vl.U,SpR.Sp.U,ChR.Ch.U,SoC.Oc.U,MgR.Mg.U,Ar.U,List.nil_append] at *
  try (grind [ah])
theorem Bk:aC Tryz.prog 212 (pe Cn.U):=by
 refine aD (af.cons Af af.nil rfl) Tryz.func212 rfl rfl fun xs h p hp=>?_
 unfold pe at hp
 split at hp
 ·cases hp
  exact⟨av rfl,fun _ _=>Rj _ _ _ _ _ _ _ _⟩
 ·cases hp
theorem AB:bY (pe Cn.U):=by
 intro xs h p hp
 unfold pe at hp
 split at hp
 ·cases hp
  rfl
 ·cases hp
def HH (F:Cn):aW:=fun xs h=>match xs,h with
 |[.agg [.val (.int .i64 c_i),.val (.int .i64 _),.val (.int .i64 _),.val (.int .i64 _),.val (.int .i64 _),.sl none (.ae (.int .i64 (.int .i64 (.int .i64 (.int .i64 (.bool (.bool (.int .i64 .nil))))))) c_ties),.sl none (.ints .i64 _),.sl none (.ints .i64 _),.sl none (.ae (.int .i64 (.int .i64 (.int .i64 (.int .i64 (.bool .nil))))) _),.val (.int .i64 _),.sl none (.ints .i64 _),.sl none (.ae (.int .i64 (.int .i64 (.int .i64 (.int .i64 (.bool .nil))))) _),.val (.int .i64 _),.val (.bool _)]],[]=>some ⟨F.RC c_ties=true,.sa (.agg [.sl none (.ints .i64 [c_i]),.sl none (.ae (.int .i64 (.int .i64 (.int .i64 (.int .i64 (.bool .nil))))) [])]),[],[Any]⟩
 |_,_=>none
theorem Ve (c_i:Int) (c_ee:Int) (c_er:Int) (c_t:Int) (c_p:Int) (c_ties:List E) (c_w:List Int) (c_gn:List Int) (c_gl:List E) (c_ph:Int) (c_tn:List Int) (c_tl:List E) (c_l:Int) (c_o:Bool) (hC:Cn.U.RC c_ties=true):aR [] Tryz.f213 [.agg [.val (.int .i64 c_i),.val (.int .i64 c_ee),.val (.int .i64 c_er),.val (.int .i64 c_t),.val (.int .i64 c_p),.sl none (.ae (.int .i64 (.int .i64 (.int .i64 (.int .i64 (.bool (.bool (.int .i64 .nil))))))) c_ties),.sl none (.ints .i64 c_w),.sl none (.ints .i64 c_gn),.sl none (.ae (.int .i64 (.int .i64 (.int .i64 (.int .i64 (.bool .nil))))) c_gl),.val (.int .i64 c_ph),.sl none (.ints .i64 c_tn),.sl none (.ae (.int .i64 (.int .i64 (.int .i64 (.int .i64 (.bool .nil))))) c_tl),.val (.int .i64 c_l),.val (.bool c_o)]] [] ⟨Cn.U.RC c_ties=true,.sa (.agg [.sl none (.ints .i64 [c_i]),.sl none (.ae (.int .i64 (.int .i64 (.int .i64 (.int .i64 (.bool .nil))))) [])]),[],[Any]⟩:=by
 intro b gv
 have hz:c_ties=[]:=List.isEmpty_iff.1 (show c_ties.isEmpty=true from hC)
 subst hz
 have hfs:=af.nil
 generalize hF:Cn.U=F at hC hfs ⊢
 generalize hG0:ViR.Vs.U=G0 at hC hfs ⊢
 generalize hG1:ViL.Vl.U=G1 at hC hfs ⊢
 generalize hG2:SpR.Sp.U=G2 at hC hfs ⊢
 generalize hG3:ChR.Ch.U=G3 at hC hfs ⊢
 generalize hG4:SoC.Oc.U=G4 at hC hfs ⊢
 generalize hG5:MgR.Mg.U=G5 at hC hfs ⊢
 generalize hA:Ar.U=A
 generalize hL:Lp _ _ _=L
 obtain⟨Z,zq⟩:=aH
 refine aA (aa hL) zq rfl ?_
 repeat' (first|(refine ay zq ?_;try dsimp only)|refine ax zq ?_ (aa hL)|refine az zq ?_|refine aw ?_|refine aq ?_|refine au ?_|refine ar ?_|refine al rfl ?_|refine ai rfl ?_|refine aj rfl ?_|(refine Cd.mk ?_;cbv)|(refine aF.mk ?_;cbv)|(refine aK.mk ?_;cbv)|exact trivial|refine And.intro ?_ ?_|refine aZ fun _=>?_|refine ba fun _=>?_)
 subst hL
 refine bj (bo hfs) (zQ) (fun y=>bW Tryz.f213.ntmps [(2,.ptr 1 0),(3,.ptr 2 0),(12,.val (.int .i64 (A.dw []))),(13,.val (.int .i64 y.i))] [(1,.cells 36 [.val (.slice none 0 0),.val (.slice none 0 0)]),(2,.cells 36 [.sl (some (3,3)) (.ints .i64 [c_i]),.val (.slice none 0 0)]),(3,.tok)] [Any]) (zM) (zR 13) ⟨0⟩ ?_ ?_ ?_
 ·exact rfl
 ·cbv
  repeat' (first|exact trivial|exact rfl|refine And.intro ?_ ?_)
 rintro⟨i⟩ hq O hO
 have hi0:i=0:=hq
 subst hA
 generalize hA:Ar.U=A
 generalize hL:Lp _ _ _=L
 refine aT zq ?_
 repeat' (first|(refine ay zq ?_;try dsimp only)|refine ax zq ?_ (aa hL)|refine az zq ?_|refine aw ?_|refine aq ?_|refine au ?_|refine ar ?_|refine al rfl ?_|refine ai rfl ?_|refine aj rfl ?_|(refine Cd.mk ?_;cbv)|(refine aF.mk ?_;cbv)|(refine aK.mk ?_;cbv)|exact trivial|refine And.intro ?_ ?_|refine aZ fun _=>?_|refine ba fun _=>?_)
 all_goals first|(show L _ _ _;skip)|(exfalso;clear hL zq Z hq;subst hA hF hG0 hG1 hG2 hG3 hG4 hG5 hO;simp only [Cn.U,Ar.U] at * <;> grind [ah];done)|(clear hL zq Z hq;subst hA hF hG0 hG1 hG2 hG3 hG4 hG5 hO;simp only [Cn.U,ViR.Vs.U,ViL.Vl.U,SpR.Sp.U,ChR.Ch.U,SoC.Oc.U,MgR.Mg.U,Ar.U,List.nil_append] at * <;> grind [ah];done)
theorem FV:aC Tryz.prog 213 (HH Cn.U):=by
 refine aD af.nil Tryz.func213 rfl rfl fun xs h p hp=>?_
 unfold HH at hp
 split at hp
 ·cases hp
  exact⟨av rfl,fun hC _=>Ve _ _ _ _ _ _ _ _ _ _ _ _ _ _ hC⟩
 ·cases hp
def Ew (_:Cn):aW:=fun xs h=>match xs,h with
 |[.one (.val (.slice none 0 0)),.one (.sl none (.ae (.int .i64 (.int .i64 (.int .i64 .nil))) _))],[]=>some ⟨True,.bB [.agg [.val (.int .i64 0),.val (.int .i64 0),.val (.int .i64 0),.val (.int .i64 0)],B false],[],[Any,Any]⟩
 |_,_=>none
theorem Si (d:List E):aR [(245,lB ChR.Ch.U),(221,sN SoC.Oc.U)] Tryz.f228 [.one (.val (.slice none 0 0)),.one (.sl none (.ae (.int .i64 (.int .i64 (.int .i64 .nil))) d))] [] ⟨True,.bB [.agg [.val (.int .i64 0),.val (.int .i64 0),.val (.int .i64 0),.val (.int .i64 0)],B false],[],[Any,Any]⟩:=by
 intro b gv
 have hfs:=(af.cons mO (af.cons qA af.nil rfl) rfl)
 generalize hF:Cn.U=F at hfs ⊢
 generalize hG0:ViR.Vs.U=G0 at hfs ⊢
 generalize hG1:ViL.Vl.U=G1 at hfs ⊢
 generalize hG2:SpR.Sp.U=G2 at hfs ⊢
 generalize hG3:ChR.Ch.U=G3 at hfs ⊢
 generalize hG4:SoC.Oc.U=G4 at hfs ⊢
 generalize hG5:MgR.Mg.U=G5 at hfs ⊢
 generalize hA:Ar.U=A
 generalize hL:Lp _ _ _=L
 obtain⟨Z,zq⟩:=aH
 refine aA (aa hL) zq rfl ?_
 repeat' (first|(refine ay zq ?_;try dsimp only)|refine ax zq ?_ (aa hL)|refine az zq ?_|refine aw ?_|refine aq ?_|refine au ?_|refine ar ?_|refine al rfl ?_|refine ai rfl ?_|refine aj rfl ?_|(refine Cd.mk ?_;cbv)|(refine aF.mk ?_;cbv)|(refine aK.mk ?_;cbv)|exact trivial|refine And.intro ?_ ?_|refine aZ fun _=>?_|refine ba fun _=>?_)
 subst hL
 refine bj (bo hfs) (zQ) (fun y=>bW Tryz.f228.ntmps [(4,.ptr 1 0),(15,.val (.slice none 0 0)),(16,.num .i64 0),(17,.val (.int .i64 y.i))] [(1,.cells 92 [.num .i64 0,.num .i64 0,.num .i64 0,.num .i64 0])] [Any,Any]) (zM) (zR 17) ⟨0⟩ ?_ ?_ ?_
 ·exact rfl
 ·cbv
  repeat' (first|exact trivial|exact rfl|refine And.intro ?_ ?_)
 rintro⟨i⟩ hq O hO
 have hi0:i=0:=hq
 subst hA
 generalize hA:Ar.U=A
 generalize hL:Lp _ _ _=L
 refine aT zq ?_
 repeat' (first|(refine ay zq ?_;try dsimp only)|refine ax zq ?_ (aa hL)|refine az zq ?_|refine aw ?_|refine aq ?_|refine au ?_|refine ar ?_|refine al rfl ?_|refine ai rfl ?_|refine aj rfl ?_|(refine Cd.mk ?_;cbv)|(refine aF.mk ?_;cbv)|(refine aK.mk ?_;cbv)|exact trivial|refine And.intro ?_ ?_|refine aZ fun _=>?_|refine ba fun _=>?_)
 all_goals first|(show L _ _ _;skip)|(exfalso;clear hL hfs zq Z hq;subst hA hF hG0 hG1 hG2 hG3 hG4 hG5 hO;simp only [Ar.U] at * <;> grind [ah];done)|(clear hL hfs zq Z hq;subst hA hF hG0 hG1 hG2 hG3 hG4 hG5 hO;simp only [Cn.U,ViR.Vs.U,ViL.Vl.U,SpR.Sp.U,ChR.Ch.U,SoC.Oc.U,MgR.Mg.U,Ar.U,List.nil_append] at * <;> grind [ah];done)
theorem HG:aC Tryz.prog 228 (Ew Cn.U):=by
 refine aD (af.cons mO (af.cons qA af.nil rfl) rfl) Tryz.func228 rfl rfl fun xs h p hp=>?_
 unfold Ew at hp
 split at hp
 ·cases hp
  exact⟨av rfl,fun _ _=>Si _⟩
 ·cases hp
def yq (F:Cn):aW:=fun xs h=>match xs,h with
 |[.agg [.sl none (.ints .i64 v_n),.sl none (.ae (.int .i64 (.int .i64 (.int .i64 (.int .i64 (.bool .nil))))) v_l)]],[]=>some ⟨F.QX v_n v_l=true,.bB [.agg [.val (.int .i64 1),.val (.int .i64 0),.val (.int .i64 0),.val (.int .i64 0)],I 0],[],[Any]⟩
 |_,_=>none
theorem Rz (v_n:List Int) (v_l:List E) (hC:Cn.U.QX v_n v_l=true):aR [(225,kM ChR.Ch.U),(226,tm ViL.Vl.U),(227,kR SpR.Sp.U),(228,Ew Cn.U),(229,sP ViL.Vl.U)] Tryz.f214 [.agg [.sl none (.ints .i64 v_n),.sl none (.ae (.int .i64 (.int .i64 (.int .i64 (.int .i64 (.bool .nil))))) v_l)]] [] ⟨Cn.U.QX v_n v_l=true,.bB [.agg [.val (.int .i64 1),.val (.int .i64 0),.val (.int .i64 0),.val (.int .i64 0)],I 0],[],[Any]⟩:=by
 intro b gv
 have hc:(v_l.isEmpty && (bE v_n [] && decide (v_n.length≤70)))=true:=hC
 rw [Bool.and_eq_true,List.isEmpty_iff,Bool.and_eq_true,decide_eq_true_eq] at hc
 obtain⟨hz,hm,hk⟩:=hc
 subst hz
 have z1:=Tt v_n
 have z2:=Wi v_n
 have z3:=Ww v_n
 have z4:=Wl
 have z5:=XF hm
 have z6:=VU hk
 have z7:=Wr hk
 have hfs:=(af.cons mQ (af.cons wE (af.cons mK (af.cons HG (af.cons wa af.nil rfl) rfl) rfl) rfl) rfl)
 generalize hF:Cn.U=F at hC hfs ⊢
 generalize hG0:ViR.Vs.U=G0 at hC hfs ⊢
 generalize hG1:ViL.Vl.U=G1 at hC hfs ⊢
 generalize hG2:SpR.Sp.U=G2 at hC hfs ⊢
 generalize hG3:ChR.Ch.U=G3 at hC hfs ⊢
 generalize hG4:SoC.Oc.U=G4 at hC hfs ⊢
 generalize hG5:MgR.Mg.U=G5 at hC hfs ⊢
 generalize hA:Ar.U=A
 generalize hL:Lp _ _ _=L
 obtain⟨Z,zq⟩:=aH
 refine aA (aa hL) zq rfl ?_
 repeat' (first|(refine ay zq ?_;try dsimp only)|refine ax zq ?_ (aa hL)|refine az zq ?_|refine aw ?_|refine aq ?_|refine au ?_|refine ar ?_|refine al rfl ?_|refine ai rfl ?_|refine aj rfl ?_|(refine Cd.mk ?_;cbv)|(refine aF.mk ?_;cbv)|(refine aK.mk ?_;cbv)|exact trivial|refine And.intro ?_ ?_|refine aZ fun _=>?_|refine ba fun _=>?_)
 all_goals first|(show L _ _ _;skip)|(exfalso;clear hL hfs zq Z;subst hA hF hG0 hG1 hG2 hG3 hG4 hG5;simp only [Cn.U,ViL.Vl.U,SpR.Sp.U,ChR.Ch.U,Ar.U] at * <;> grind [ah];done)|(clear hL hfs zq Z;subst hA hF hG0 hG1 hG2 hG3 hG4 hG5;simp only [Cn.U,ViL.Vl.U,SpR.Sp.U,ChR.Ch.U,Ar.U] at * <;> grind [ah];done)
theorem AG:aC Tryz.prog 214 (yq Cn.U):=by
 refine aD (af.cons mQ (af.cons wE (af.cons mK (af.cons HG (af.cons wa af.nil rfl) rfl) rfl) rfl) rfl) Tryz.func214 rfl rfl fun xs h p hp=>?_
 unfold yq at hp
 split at hp
 ·cases hp
  exact⟨av rfl,fun hC _=>Rz _ _ hC⟩
 ·cases hp
def FP (F:Cn):aW:=fun xs h=>match xs,h with
 |[.one (.sl none (.ints .i64 l))],[]=>some ⟨F.Py l=true,.sa (.one (.sl none (.ints .i64 l))),[],[Any]⟩
 |_,_=>none
theorem Vk (l:List Int) (hC:Cn.U.Py l=true):aR [] Tryz.f63 [.one (.sl none (.ints .i64 l))] [] ⟨Cn.U.Py l=true,.sa (.one (.sl none (.ints .i64 l))),[],[Any]⟩:=by
 intro b gv
 have hk:l.length≤1000:=of_decide_eq_true (show decide (l.length≤1000)=true from hC)
 have hfs:=af.nil
 generalize hF:Cn.U=F at hC hfs ⊢
 generalize hG0:ViR.Vs.U=G0 at hC hfs ⊢
 generalize hG1:ViL.Vl.U=G1 at hC hfs ⊢
 generalize hG2:SpR.Sp.U=G2 at hC hfs ⊢
 generalize hG3:ChR.Ch.U=G3 at hC hfs ⊢
 generalize hG4:SoC.Oc.U=G4 at hC hfs ⊢
 generalize hG5:MgR.Mg.U=G5 at hC hfs ⊢
 generalize hA:Ar.U=A
 generalize hL:Lp _ _ _=L
 obtain⟨Z,zq⟩:=aH
 refine aA (aa hL) zq rfl ?_
 repeat' (first|(refine ay zq ?_;try dsimp only)|refine ax zq ?_ (aa hL)|refine az zq ?_|refine aw ?_|refine aq ?_|refine au ?_|refine ar ?_|refine al rfl ?_|refine ai rfl ?_|refine aj rfl ?_|(refine Cd.mk ?_;cbv)|(refine aF.mk ?_;cbv)|(refine aK.mk ?_;cbv)|exact trivial|refine And.intro ?_ ?_|refine aZ fun _=>?_|refine ba fun _=>?_)
 all_goals
  clear hL zq Z
  try clear hfs
  subst hA hF hG0 hG1 hG2 hG3 hG4 hG5
  simp only [Cn.U,Ar.U,List.nil_append] at *
  try (grind [ah])
theorem Hk:aC Tryz.prog 63 (FP Cn.U):=by
 refine aD af.nil Tryz.func63 rfl rfl fun xs h p hp=>?_
 unfold FP at hp
 split at hp
 ·cases hp
  exact⟨av rfl,fun hC _=>Vk _ hC⟩
 ·cases hp
def Eh (F:Cn):aW:=fun xs h=>match xs,h with
 |[.one (.sl none (.ae (.int .i64 (.int .i64 (.int .i64 (.int .i64 (.bool .nil))))) l))],[]=>some ⟨F.QN l=true,.sa (.one (.sl none (.ae (.int .i64 (.int .i64 (.int .i64 (.int .i64 (.bool .nil))))) l))),[],[Any]⟩
 |_,_=>none
theorem Tk (l:List E) (hC:Cn.U.QN l=true):aR [] Tryz.f107 [.one (.sl none (.ae (.int .i64 (.int .i64 (.int .i64 (.int .i64 (.bool .nil))))) l))] [] ⟨Cn.U.QN l=true,.sa (.one (.sl none (.ae (.int .i64 (.int .i64 (.int .i64 (.int .i64 (.bool .nil))))) l))),[],[Any]⟩:=by
 intro b gv
 have hk:l.length≤1000:=of_decide_eq_true (show decide (l.length≤1000)=true from hC)
 have hfs:=af.nil
 generalize hF:Cn.U=F at hC hfs ⊢
 generalize hG0:ViR.Vs.U=G0 at hC hfs ⊢
 generalize hG1:ViL.Vl.U=G1 at hC hfs ⊢
 generalize hG2:SpR.Sp.U=G2 at hC hfs ⊢
 generalize hG3:ChR.Ch.U=G3 at hC hfs ⊢
 generalize hG4:SoC.Oc.U=G4 at hC hfs ⊢
 generalize hG5:MgR.Mg.U=G5 at hC hfs ⊢
 generalize hA:Ar.U=A
 generalize hL:Lp _ _ _=L
 obtain⟨Z,zq⟩:=aH
 refine aA (aa hL) zq rfl ?_
 repeat' (first|(refine ay zq ?_;try dsimp only)|refine ax zq ?_ (aa hL)|refine az zq ?_|refine aw ?_|refine aq ?_|refine au ?_|refine ar ?_|refine al rfl ?_|refine ai rfl ?_|refine aj rfl ?_|(refine Cd.mk ?_;cbv)|(refine aF.mk ?_;cbv)|(refine aK.mk ?_;cbv)|exact trivial|refine And.intro ?_ ?_|refine aZ fun _=>?_|refine ba fun _=>?_)
 all_goals
  clear hL zq Z
  try clear hfs
  subst hA hF hG0 hG1 hG2 hG3 hG4 hG5
  simp only [Cn.U,Ar.U,List.nil_append] at *
  try (grind [ah])
theorem HU:aC Tryz.prog 107 (Eh Cn.U):=by
 refine aD af.nil Tryz.func107 rfl rfl fun xs h p hp=>?_
 unfold Eh at hp
 split at hp
 ·cases hp
  exact⟨av rfl,fun hC _=>Tk _ hC⟩
 ·cases hp
def Ol (F:Cn):aW:=fun xs h=>match xs,h with
 |[.agg [.sl none (.ints .i64 v_n),.sl none (.ae (.int .i64 (.int .i64 (.int .i64 (.int .i64 (.bool .nil))))) v_l)]],[]=>some ⟨F.RS v_n v_l=true,.sa (.agg [.sl none (.ints .i64 v_n),.sl none (.ae (.int .i64 (.int .i64 (.int .i64 (.int .i64 (.bool .nil))))) v_l)]),[],[Any]⟩
 |_,_=>none
theorem Xm (v_n:List Int) (v_l:List E) (hC:Cn.U.RS v_n v_l=true):aR [(63,FP Cn.U),(107,Eh Cn.U)] Tryz.f64 [.agg [.sl none (.ints .i64 v_n),.sl none (.ae (.int .i64 (.int .i64 (.int .i64 (.int .i64 (.bool .nil))))) v_l)]] [] ⟨Cn.U.RS v_n v_l=true,.sa (.agg [.sl none (.ints .i64 v_n),.sl none (.ae (.int .i64 (.int .i64 (.int .i64 (.int .i64 (.bool .nil))))) v_l)]),[],[Any]⟩:=by
 intro b gv
 have hk:v_n.length≤1000∧v_l.length≤1000:=of_decide_eq_true (show decide (v_n.length≤1000∧v_l.length≤1000)=true from hC)
 have hfs:=(af.cons Hk (af.cons HU af.nil rfl) rfl)
 generalize hF:Cn.U=F at hC hfs ⊢
 generalize hG0:ViR.Vs.U=G0 at hC hfs ⊢
 generalize hG1:ViL.Vl.U=G1 at hC hfs ⊢
 generalize hG2:SpR.Sp.U=G2 at hC hfs ⊢
 generalize hG3:ChR.Ch.U=G3 at hC hfs ⊢
 generalize hG4:SoC.Oc.U=G4 at hC hfs ⊢
 generalize hG5:MgR.Mg.U=G5 at hC hfs ⊢
 generalize hA:Ar.U=A
 generalize hL:Lp _ _ _=L
 obtain⟨Z,zq⟩:=aH
 refine aA (aa hL) zq rfl ?_
 repeat' (first|(refine ay zq ?_;try dsimp only)|refine ax zq ?_ (aa hL)|refine az zq ?_|refine aw ?_|refine aq ?_|refine au ?_|refine ar ?_|refine al rfl ?_|refine ai rfl ?_|refine aj rfl ?_|(refine Cd.mk ?_;cbv)|(refine aF.mk ?_;cbv)|(refine aK.mk ?_;cbv)|exact trivial|refine And.intro ?_ ?_|refine aZ fun _=>?_|refine ba fun _=>?_)
 all_goals
  clear hL zq Z
  try clear hfs
  subst hA hF hG0 hG1 hG2 hG3 hG4 hG5
  simp only [Cn.U] at *
  try (grind [ah])
theorem Oa:aC Tryz.prog 64 (Ol Cn.U):=by
 refine aD (af.cons Hk (af.cons HU af.nil rfl) rfl) Tryz.func64 rfl rfl fun xs h p hp=>?_
 unfold Ol at hp
 split at hp
 ·cases hp
  exact⟨av rfl,fun hC _=>Xm _ _ hC⟩
 ·cases hp
def QI (F:Cn):aW:=fun xs h=>match xs,h with
 |[.one (.ptr 0 0),.agg [.val (.int .i64 c_k),.val (.int .i64 _),.val (.int .i64 _),.val (.int .i64 _)],.agg [.sl none (.ints .i64 v_n),.sl none (.ae (.int .i64 (.int .i64 (.int .i64 (.int .i64 (.bool .nil))))) v_l)]],[(0,.cells 203 [.val (.int .i64 s_i),.val (.int .i64 s_ee),.val (.int .i64 s_er),.val (.int .i64 s_t),.val (.int .i64 s_p),.val (.slice none 0 0),.val (.slice none 0 0),.val (.slice none 0 0),.val (.slice none 0 0),.val (.int .i64 _),.val (.slice none 0 0),.val (.slice none 0 0),.val (.int .i64 hD),.val (.bool s_o),.val (.slice none 0 0)])]=>some ⟨c_k=1∧F.RS v_n v_l=true,.bB [],[(0,.cells 203 [.val (.int .i64 s_i),.val (.int .i64 s_ee),.val (.int .i64 s_er),.val (.int .i64 s_t),.val (.int .i64 s_p),.val (.slice none 0 0),.val (.slice none 0 0),.val (.slice none 0 0),.val (.slice none 0 0),.val (.int .i64 4),.sl none (.ints .i64 v_n),.sl none (.ae (.int .i64 (.int .i64 (.int .i64 (.int .i64 (.bool .nil))))) v_l),.val (.int .i64 hD),.val (.bool s_o),.val (.slice none 0 0)])],[.one (.ptr 0 0),Any,Any]⟩
 |_,_=>none
theorem WT (c_k:Int) (c_a:Int) (c_b:Int) (c_s:Int) (v_n:List Int) (v_l:List E) (s_i:Int) (s_ee:Int) (s_er:Int) (s_t:Int) (s_p:Int) (s_ph:Int) (hD:Int) (s_o:Bool) (hC:c_k=1∧Cn.U.RS v_n v_l=true):aR [(189,mX Cn.U),(bn 189,cT),(64,Ol Cn.U)] Tryz.f165 [.one (.ptr 0 0),.agg [.val (.int .i64 c_k),.val (.int .i64 c_a),.val (.int .i64 c_b),.val (.int .i64 c_s)],.agg [.sl none (.ints .i64 v_n),.sl none (.ae (.int .i64 (.int .i64 (.int .i64 (.int .i64 (.bool .nil))))) v_l)]] [(0,.cells 203 [.val (.int .i64 s_i),.val (.int .i64 s_ee),.val (.int .i64 s_er),.val (.int .i64 s_t),.val (.int .i64 s_p),.val (.slice none 0 0),.val (.slice none 0 0),.val (.slice none 0 0),.val (.slice none 0 0),.val (.int .i64 s_ph),.val (.slice none 0 0),.val (.slice none 0 0),.val (.int .i64 hD),.val (.bool s_o),.val (.slice none 0 0)])] ⟨c_k=1∧Cn.U.RS v_n v_l=true,.bB [],[(0,.cells 203 [.val (.int .i64 s_i),.val (.int .i64 s_ee),.val (.int .i64 s_er),.val (.int .i64 s_t),.val (.int .i64 s_p),.val (.slice none 0 0),.val (.slice none 0 0),.val (.slice none 0 0),.val (.slice none 0 0),.val (.int .i64 4),.sl none (.ints .i64 v_n),.sl none (.ae (.int .i64 (.int .i64 (.int .i64 (.int .i64 (.bool .nil))))) v_l),.val (.int .i64 hD),.val (.bool s_o),.val (.slice none 0 0)])],[.one (.ptr 0 0),Any,Any]⟩:=by
 intro b gv
 have hck:c_k=1:=hC.1
 subst hck
 have hfs:=(af.keeps nX oA (af.cons Oa af.nil rfl))
 generalize hF:Cn.U=F at hC hfs ⊢
 generalize hG0:ViR.Vs.U=G0 at hC hfs ⊢
 generalize hG1:ViL.Vl.U=G1 at hC hfs ⊢
 generalize hG2:SpR.Sp.U=G2 at hC hfs ⊢
 generalize hG3:ChR.Ch.U=G3 at hC hfs ⊢
 generalize hG4:SoC.Oc.U=G4 at hC hfs ⊢
 generalize hG5:MgR.Mg.U=G5 at hC hfs ⊢
 generalize hA:Ar.U=A
 generalize hL:Lp _ _ _=L
 obtain⟨Z,zq⟩:=aH
 refine aA (aa hL) zq rfl ?_
 repeat' (first|(refine ay zq ?_;try dsimp only)|refine ax zq ?_ (aa hL)|refine az zq ?_|refine aw ?_|refine aq ?_|refine au ?_|refine ar ?_|refine al rfl ?_|refine ai rfl ?_|refine aj rfl ?_|(refine Cd.mk ?_;cbv)|(refine aF.mk ?_;cbv)|(refine aK.mk ?_;cbv)|exact trivial|refine And.intro ?_ ?_|refine aZ fun _=>?_|refine ba fun _=>?_)
 all_goals first|(exfalso;clear hL hfs zq Z;subst hA hF hG0 hG1 hG2 hG3 hG4 hG5;simp only [Cn.U,Ar.U] at * <;> grind [ah];done)|(show L _ _ _;skip)|(clear hL hfs zq Z;subst hA hF hG0 hG1 hG2 hG3 hG4 hG5;simp only [Cn.U,ViR.Vs.U,ViL.Vl.U,SpR.Sp.U,ChR.Ch.U,SoC.Oc.U,MgR.Mg.U,Ar.U,List.nil_append] at * <;> grind [ah];done)
 subst hL
 refine bj (bo hfs) (zQ) (fun y=>bW Tryz.f165.ntmps [(0,.ptr 1 0),(4,.ptr 2 0),(5,.ptr 3 0),(23,.val (.slice none 0 0)),(24,.num .i64 0),(25,.val (.int .i64 y.i))] [(1,.cells 203 [.val (.int .i64 s_i),.val (.int .i64 s_ee),.val (.int .i64 s_er),.val (.int .i64 s_t),.val (.int .i64 s_p),.val (.slice none 0 0),.val (.slice none 0 0),.val (.slice none 0 0),.val (.slice none 0 0),.val (.int .i64 s_ph),.val (.slice none 0 0),.val (.slice none 0 0),.val (.int .i64 hD),.val (.bool s_o),.val (.slice none 0 0)]),(2,.cells 92 [.val (.int .i64 1),.val (.int .i64 c_a),.val (.int .i64 c_b),.val (.int .i64 c_s)]),(3,.cells 36 [.sl none (.ints .i64 v_n),.sl none (.ae (.int .i64 (.int .i64 (.int .i64 (.int .i64 (.bool .nil))))) v_l)])] [.one (.ptr 1 0),Any,Any]) (zM) (zR 25) ⟨0⟩ ?_ ?_ ?_
 ·exact rfl
 ·cbv
  repeat' (first|exact trivial|exact rfl|refine And.intro ?_ ?_)
 rintro⟨i⟩ hq O hO
 have hi0:i=0:=hq
 subst hA
 generalize hA:Ar.U=A
 generalize hL:Lp _ _ _=L
 refine aT zq ?_
 repeat' (first|(refine ay zq ?_;try dsimp only)|refine ax zq ?_ (aa hL)|refine az zq ?_|refine aw ?_|refine aq ?_|refine au ?_|refine ar ?_|refine al rfl ?_|refine ai rfl ?_|refine aj rfl ?_|(refine Cd.mk ?_;cbv)|(refine aF.mk ?_;cbv)|(refine aK.mk ?_;cbv)|exact trivial|refine And.intro ?_ ?_|refine aZ fun _=>?_|refine ba fun _=>?_)
 all_goals first|(show L _ _ _;skip)|(exfalso;clear hL hfs zq Z hq;subst hA hF hG0 hG1 hG2 hG3 hG4 hG5 hO;simp only [Cn.U,Ar.U] at * <;> grind [ah];done)|(clear hL hfs zq Z hq;subst hA hF hG0 hG1 hG2 hG3 hG4 hG5 hO;simp only [Cn.U,Ar.U] at * <;> grind [ah];done)
theorem ND:aC Tryz.prog 165 (QI Cn.U):=by
 refine aD (af.keeps nX oA (af.cons Oa af.nil rfl)) Tryz.func165 rfl rfl fun xs h p hp=>?_
 unfold QI at hp
 split at hp
 ·cases hp
  exact⟨av rfl,fun hC _=>WT _ _ _ _ _ _ _ _ _ _ _ _ _ _ hC⟩
 ·cases hp
end Go.Proofs.YtakebkfhigadiaaGreat.CoN
