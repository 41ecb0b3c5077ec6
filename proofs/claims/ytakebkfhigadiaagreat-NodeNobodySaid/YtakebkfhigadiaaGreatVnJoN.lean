
/-
  new joins,nobody's joins. No condition.
-/
import Derived.Test.YtakebkfhigadiaaGreatVnJoW
import Derived.Test.YtakebkfhigadiaaGreatVnW23
set_option maxHeartbeats 1000000
set_option maxRecDepth 100000
namespace Go.Proofs.YtakebkfhigadiaaGreat.JoN
open Go Ry JoS JoR JoW
def vN (n:Int):Bool:=decide (0≤n∧n≤4096)
def wi (v:Int→Int) (n i:Int):List Int:=(List.range (n+1).toNat).map fun j:Nat=>if (j:Int) < i then v j else 0
theorem Hc (v:Int→Int) (n i:Int) (h0:0≤i) (_:i≤n):(wi v n i).set i.toNat (v i)=wi v n (i+1):=by
 apply List.ext_getElem
 ·simp [wi]
 ·intro k h1 h2
  simp only [wi,List.getElem_set,List.getElem_map,List.getElem_range]
  by_cases hk:i.toNat=k
  ·have e:(k:Int)=i:=by omega
   have l:(k:Int) < i+1:=by omega
   rw [if_pos hk,if_pos l,e]
  ·rw [if_neg hk]
   by_cases hl:(k:Int) < i
   ·rw [if_pos hl,if_pos (by omega)]
   ·rw [if_neg hl,if_neg (by omega)]
theorem sH (v:Int→Int) (n:Int) (h0:0≤n) (h:n≤4096):List.replicate (aB .add .i64 n 1).toNat 0=wi v n 0:=by
 rw [aY,wr _ (by omega) (by omega)]
 apply List.ext_getElem
 ·simp [wi]
 ·intro k h1 h2
  simp only [wi,List.getElem_replicate,List.getElem_map,List.getElem_range]
  rw [if_neg (by omega)]
theorem yJ (v:Int→Int) (n i:Int):(wi v n i).length=(n+1).toNat:=by simp [wi]
theorem GF (v:Int→Int) (n:Int):wi v n (n+1)=(List.range (n+1).toNat).map fun j:Nat=>v j:=by
 unfold wi
 apply List.map_congr_left
 intro j hj
 have:=List.mem_range.1 hj
 rw [if_pos (by omega)]
theorem Ld (n:Int):wi id n (n+1)=iota n:=GF id n
theorem JB (n:Int):wi (fun _=>1) n (n+1)=jL n:=by
 rw [GF]
 unfold jL
 apply List.ext_getElem
 ·simp
 ·intro k h1 h2
  simp
structure XN where
 i:Int
 u:List Int
 z:List Int
def Yw (n:Int) (y:XN):Prop:=0≤y.i∧y.i≤n+1∧y.u=wi id n y.i∧y.z=wi (fun _=>1) n y.i
noncomputable def nwI (A:Ar) (n:Int) (y:XN):St:=bW Tryz.f283.ntmps [(4,.ptr 1 0),(25,.val (.int .i64 (A.gr (A.Dq (A.bin .add .i64 n 1))))),(26,.val (.int .i64 y.i))] [(1,.cells 371 [.own 2,.own 3,.val (.int .i64 n)]),(2,.row 3 (.ints .i64 y.u)),(3,.row 3 (.ints .i64 y.z))] [Any]
def Zf (n:Int) (y:XN):Nat:=(n+1 - y.i).toNat
def nwR (st:St):XN:=⟨bA st 26,xj st.heap (nm st 4 0),xj st.heap (nm st 4 1)⟩
structure Ns where
 Xr:Int→Bool
 Oy:Int→List Int
 RM:Int→List Int
 f:Fs
def Ns.U:Ns:=⟨vN,iota,jL,Fs.U⟩
def gX (F:Ns):aW:=fun xs h=>match xs,h with
 |[.one (.val (.int .i64 n))],[]=>some ⟨F.Xr n=true,.bB [.one (.ptr 0 0),I 0],[(0,.cells 371 [.own 1,.own 2,.val (.int .i64 n)]),(1,.row 3 (.ints .i64 (F.Oy n))),(2,.row 3 (.ints .i64 (F.RM n)))],[Any]⟩
 |_,_=>none
theorem vz (n:Int) (hC:Ns.U.Xr n=true):aR [] Tryz.f283 [.one (.val (.int .i64 n))] [] ⟨Ns.U.Xr n=true,.bB [.one (.ptr 0 0),I 0],[(0,.cells 371 [.own 1,.own 2,.val (.int .i64 n)]),(1,.row 3 (.ints .i64 (Ns.U.Oy n))),(2,.row 3 (.ints .i64 (Ns.U.RM n)))],[Any]⟩:=by
 intro b gv
 have hk:=of_decide_eq_true (show vN n=true from hC)
 have hfs:=af.nil
 generalize hF:Ns.U=F at hC hfs ⊢
 generalize hA:Ar.U=A
 generalize hL:Lp _ _ _=L
 obtain⟨Z,zq⟩:=aH
 refine @aA _ _ _ _ _ _ _ (aa hL) _ _ zq rfl ?_
 repeat' (first|(refine ay zq ?_;try dsimp only)|refine ax zq ?_ (aa hL)|refine az zq ?_|refine aw ?_|refine aq ?_|refine au ?_|refine ar ?_|refine al rfl ?_|refine ai rfl ?_|refine aj rfl ?_|(refine Cd.mk ?_;cbv)|(refine aF.mk ?_;cbv)|(refine aK.mk ?_;cbv)|exact trivial|refine And.intro ?_ ?_|refine aZ fun _=>?_|refine ba fun _=>?_)
 all_goals first|(show L _ _ _;skip)|(clear hfs hL zq Z;subst hF hA;simp only [Ar.U] at * <;> grind [ah,aY,wr])
 rename_i hx
 clear hx
 subst hL
 refine bj (bo hfs) (Yw n) (nwI A n) (Zf n) nwR ⟨0,A.Dq (A.bin .add .i64 n 1),A.Dq (A.bin .add .i64 n 1)⟩ ?_ ?_ ?_
 ·subst hA
  exact⟨Int.le_refl 0,show (0:Int)≤n+1 by omega,sH _ n hk.1 hk.2,sH _ n hk.1 hk.2⟩
 ·cbv
  repeat' (first|exact trivial|exact rfl|refine And.intro ?_ ?_)
 rintro⟨i,u,z⟩ ⟨q0,q1,q2,q3⟩ O hO
 dsimp only at q0 q1 q2 q3
 have g1:i≤n→u.set i.toNat i=wi id n (i+1):=fun h=>by rw [q2];exact Hc id n i q0 h
 have g2:i≤n→z.set i.toNat 1=wi (fun _=>1) n (i+1):=fun h=>by rw [q3];exact Hc (fun _=>1) n i q0 h
 have l1:u.length=(n+1).toNat:=by rw [q2];exact yJ _ _ _
 have l2:z.length=(n+1).toNat:=by rw [q3];exact yJ _ _ _
 have e1:i=n+1→u=iota n∧z=jL n:=fun h=>by rw [q2,q3,h];exact⟨Ld n,JB n⟩
 have hlen:(List.replicate (aB .add .i64 n 1).toNat (0:Int)).length=(n+1).toNat:=by rw [sH id n hk.1 hk.2];exact yJ _ _ _
 subst hA
 generalize hA:Ar.U=A
 generalize hL:Lp _ _ _=L
 refine aT zq ?_
 repeat' (first|(refine ay zq ?_;try dsimp only)|refine ax zq ?_ (aa hL)|refine az zq ?_|refine aw ?_|refine aq ?_|refine au ?_|refine ar ?_|refine al rfl ?_|refine ai rfl ?_|refine aj rfl ?_|(refine Cd.mk ?_;cbv)|(refine aF.mk ?_;cbv)|(refine aK.mk ?_;cbv)|exact trivial|refine And.intro ?_ ?_|refine aZ fun _=>?_|refine ba fun _=>?_)
 all_goals (clear hL hfs zq Z;subst hA hF hO;simp only [Ns.U,Ar.U] at * <;> grind [ah,aY,wr,Yw,Zf])
theorem iL:aC Tryz.prog 283 (gX Ns.U):=by
 refine aD af.nil Tryz.func283 rfl rfl fun xs h p hp=>?_
 unfold gX at hp
 split at hp
 ·cases hp
  exact⟨av rfl,fun hC _=>@vz _ hC⟩
 ·cases hp
end Go.Proofs.YtakebkfhigadiaaGreat.JoN
