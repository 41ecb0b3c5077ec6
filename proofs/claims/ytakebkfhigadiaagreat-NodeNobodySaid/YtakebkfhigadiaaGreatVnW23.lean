/-
  The library's sorts of nothing: nothing turns. No condition.
-/
import Derived.Test.YtakebkfhigadiaaGreatVnW22
import Derived.Test.YtakebkfhigadiaaGreatVnRyU
import Derived.Test.YtakebkfhigadiaaGreatVnRyOp
import Derived.Shelf.SlSortCmp.NoneTotal
import Derived.Shelf.Slices.In.SortNone
namespace Go.Proofs.YtakebkfhigadiaaGreat.SoI
open Go Go.Shelf Go.RowKit Go.Lib Go.Sort Go.Proofs Ry
def fZ (l:List Int):List Int:=l.mergeSort fun x y=>decide (x≤y)
theorem du (l:List Int):(fZ l).length=l.length∧(fZ l).Perm l∧(fZ l).Pairwise (·≤·):=by
 unfold fZ
 refine⟨List.length_mergeSort _,List.mergeSort_perm _ _,?_⟩
 have h:=List.pairwise_mergeSort (le:=fun x y:Int=>decide (x≤y)) (fun a b c h1 h2=>by simp at *;omega) (fun a b=>by simp;omega) l
 exact h.imp fun {x y} k=>of_decide_eq_true k
theorem holds_of {w:World} {g:Nat} {l:List Int} {pre us rest:List Value} {e:TypeId} (hg:w.heap[g]? = some (.cells (pre ++ (us ++ rest)).toArray e (0,0))) (hu:us=l.map (Value.int .i64)):Holds (Value.int .i64) w g pre.length l.toArray:=by
 intro j hj
 have hj:j < l.length:=hj
 have hlt:j < us.length:=by rw [hu,List.length_map];exact hj
 have hju:us[j]? = some (Value.int .i64 l.toArray[j]!):=by
  rw [hu,List.getElem?_map,List.getElem?_eq_getElem hj,getElem!_pos l.toArray j hj]
  rfl
 refine⟨?_,?_⟩
 ·unfold World.cell?
  simp only [hg]
  rw [if_neg (by simp),List.getElem?_toArray,List.getElem?_append_right (by omega),Nat.add_sub_cancel_left,List.getElem?_append_left hlt]
  exact hju
 ·unfold World.frozen?
  simp only [hg]
  simp
theorem yd {w:World} {g n:Nat} {d:List Int} {pre us rest:List Value} {e:TypeId} {os:Array Obj} (hg:w.heap[g]? = some (.cells (pre ++ (us ++ rest)).toArray e (0,0))) (hu:us.length=d.length) :
  (grow (putRow (Value.int .i64) (Sort.ahead w n) g pre.length d.toArray) os).heap[g]? = some (.cells (pre ++ (d.map (Value.int .i64) ++ rest)).toArray e (0,0))∧∀ b,b < w.heap.size→b≠g→(grow (putRow (Value.int .i64) (Sort.ahead w n) g pre.length d.toArray) os).heap[b]? = w.heap[b]?:=by
 have hlt:=bU hg
 refine⟨?_,fun b hb hbg=>?_⟩
 ·unfold grow putRow mapBlock Sort.ahead
  simp only
  rw [Array.getElem?_append_left (by rw [Array.size_modify];exact hlt),Array.getElem?_modify,if_pos rfl]
  show Option.map _ w.heap[g]? = _
  rw [hg]
  simp only [Option.map_some,onCells]
  congr 2
  unfold putCells
  apply Array.ext_getElem?
  intro j
  rw [Array.getElem?_mapIdx,List.getElem?_toArray,List.getElem?_toArray]
  have e2:(d.map (Value.int .i64)).length=us.length:=by rw [List.length_map,hu]
  by_cases hp:j < pre.length
  ·rw [List.getElem?_append_left hp,List.getElem?_append_left hp,List.getElem?_eq_getElem hp,Option.map_some,if_neg (by omega)]
  ·rw [List.getElem?_append_right (l₁:=pre) (l₂:=us ++ rest) (by omega),List.getElem?_append_right (l₁:=pre) (l₂:=d.map (Value.int .i64) ++ rest) (by omega)]
   by_cases hk:j - pre.length < us.length
   ·have hk2:j - pre.length < d.length:=by omega
    rw [List.getElem?_append_left hk,List.getElem?_append_left (by rw [List.length_map];exact hk2),List.getElem?_eq_getElem hk,Option.map_some,if_pos ⟨by omega,by simp;omega⟩,List.getElem?_map,List.getElem?_eq_getElem hk2]
    simp [hk2]
   ·rw [List.getElem?_append_right (l₁:=us) (by omega),List.getElem?_append_right (l₁:=d.map (Value.int .i64)) (by omega),e2]
    cases rest[j - pre.length - us.length]? with
    |none=>rfl
    |some v=>rw [Option.map_some,if_neg (by simp;omega)]
 ·unfold grow putRow mapBlock Sort.ahead
  simp only
  rw [Array.getElem?_append_left (by rw [Array.size_modify];exact hb),Array.getElem?_modify,if_neg (fun h=>hbg h.symm)]
structure Oi where
 kN:List Int→List Int
 ok:List Int→Bool
def Oi.U:Oi:=⟨fZ,fun l=>decide (0 < l.length∧l.length≤1000000)⟩
def ef (F:Oi):aW:=fun xs h=>match xs,h with
 |[.one (.own 0)],[(0,.row 3 (.ints .i64 l))]=>some ⟨F.ok l=true,.bB [],[(0,.row 3 (.ints .i64 (F.kN l)))],[.one (.own 0)]⟩
 |_,_=>none
theorem cZ:aC Tryz.prog 220 (ef Oi.U):=by
 refine⟨⟨_,Tryz.func220,rfl,by kernel_rfl⟩,?_⟩
 intro args h p hp hC G vs hh hbs hm hv
 unfold ef at hp
 split at hp
 ·rename_i l
  cases hp
  have hk:0 < l.length∧l.length≤1000000:=of_decide_eq_true hC
  match vs,hv with
  |[v0],⟨hv0,_⟩ =>
   have hg0:ak G.h 0=some (.row 3 (.ints .i64 l)):=by rw [hh];rfl
   have hgn:∀ n,n≠0→ak G.h n=none:=fun n hn=>by
    rw [hh]
    have:bF 0 n=false:=by rw [← Bool.not_eq_true,gN];omega
    simp only [ak,this]
   obtain⟨_,hown⟩:=hv0
   unfold br at hown
   rw [hg0] at hown
   have hn:(Ct.ints .i64 l).n=l.length:=rfl
   rcases hown with ⟨hz,_⟩ | ⟨g,off,cap,tt,kk,ho,rfl,hc1,hc2,hc3,hc4,hc5⟩
   ·omega
   rcases hm.gm 0 _ hg0 with ⟨hz,_⟩ | ⟨g',pre,us,rest,ho',hg,hf,h1⟩
   ·omega
   obtain⟨rfl,rfl⟩:g' = g∧off=pre.length:=by
    rw [ho] at ho'
    cases ho'
    exact⟨rfl,rfl⟩
   have hu:us=l.map (Value.int .i64):=hf
   have hul:us.length=(fZ l).length:=by rw [hu,List.length_map,(du l).1]
   have hH:=holds_of hg hu
   refine (Any.slices_Sort_int Sh.NG g' pre.length cap l G.w hH (bU hg) (by omega)).mono fun e w' ⟨he,n,os,hw⟩=>?_
   obtain⟨p1,p2⟩:=yd (n:=n) (d:=fZ l) (os:=os) hg hul
   have hw:w' = grow (putRow (Value.int .i64) (Sort.ahead G.w n) g' pre.length (fZ l).toArray) os:=hw
   rw [← hw] at p1 p2
   have hos:w'.os=G.w.os∧w'.tape=G.w.tape∧w'.output=G.w.output∧G.w.heap.size≤w'.heap.size:=by
    rw [hw]
    refine⟨rfl,rfl,rfl,?_⟩
    rw [Go.Sort.size_grow]
    unfold putRow mapBlock Sort.ahead
    simp only [Array.size_modify]
    exact Nat.le_add_right _ _
   refine⟨.tuple #[],⟨G.o,[(0,.row 3 (.ints .i64 (fZ l)))],G.bs,w'⟩,he,rfl,rfl,rfl,?_⟩
   have hshp:hY G.w w':=by
    intro b x hx
    unfold World.shape? at hx ⊢
    by_cases e:b=g'
    ·subst e
     rw [hg] at hx
     rw [p1]
     have e2:((fZ l).map (Value.int .i64)).length=us.length:=by rw [List.length_map,hul]
     simpa [(du l).1,hu] using hx
    ·by_cases hb:b < G.w.heap.size
     ·rw [p2 b hb e]
      exact hx
     ·rw [Array.getElem?_eq_none (by omega)] at hx
      cases hx
   have key:=cY (G':=⟨G.o,[(0,.row 3 (.ints .i64 (fZ l)))],G.bs,w'⟩) hm (fun n=>n=0) rfl
    (fun n hn=>⟨by
     rw [hgn n hn]
     have:bF 0 n=false:=by rw [← Bool.not_eq_true,gN];omega
     simp only [ak,this],rfl⟩)
    hos.1 hos.2.1 hos.2.2.1 hos.2.2.2
    (fun b hb hne=>p2 b hb fun hbg=>hne 0 pre.length rfl ⟨_,hg0,rfl⟩ (by rw [hbg];exact ho))
    (fun n b m j hn _ hob hj=>by
     subst hn
     rw [ho] at hob
     cases hob
     unfold World.cell?
     simp only
     rw [p1,hg]
     simp only
     rw [if_neg (by simp),if_neg (by simp),List.getElem?_toArray,List.getElem?_toArray,List.getElem?_append_left hj,List.getElem?_append_left hj])
    (fun n hn _ b m hob=>by
     subst hn
     have hob:G.o 0=some (b,m):=hob
     rw [ho] at hob
     cases hob
     exact⟨Nat.lt_of_lt_of_le (bU hg) hos.2.2.2,.inr ⟨0,pre.length,rfl,⟨_,hg0,rfl⟩,ho,Nat.le_refl _⟩⟩)
    (fun n n' hn hn' _ _ _ _ _ _ _=>by rw [hn,hn'])
    (fun n hn q hq=>by
     subst hn
     rw [hg0] at hq
     cases hq
     exact⟨.row 3 (.ints .i64 (fZ l)),rfl,fun _=>⟨rfl,rfl,(du l).1⟩⟩)
    (fun n hn q hq _=>by
     subst hn
     have hq:some (dP.row 3 (.ints .i64 (fZ l)))=some q:=hq
     cases hq
     exact .inr ⟨g',pre,(fZ l).map (Value.int .i64),rest,ho,p1,rfl,fun u hu=>by obtain⟨x,_,rfl⟩:=List.mem_map.1 hu;rfl⟩)
    hshp
   refine⟨key.2,⟨[],rfl,trivial⟩,⟨⟨_,_,_,rfl⟩,?_⟩,trivial⟩
   unfold br
   refine .inr ⟨g',pre.length,cap,tt,kk,ho,(congrArg (fun n=>Value.slice (some ⟨g',pre.length,none⟩) n cap) (du l).1).symm,Nat.le_trans (Nat.le_of_eq (du l).1) hc1,hc2,hshp _ _ hc3,hc4,hc5⟩
 ·cases hp
end Go.Proofs.YtakebkfhigadiaaGreat.SoI
namespace Go.Proofs.YtakebkfhigadiaaGreat.Ry
open Go
def hG (c1 c2:aW):aW:=fun xs h=>match c1 xs h with
 |some p=>some p
 |none=>c2 xs h
theorem nb {f:FuncId} {c1 c2:aW} (h1:aC Tryz.prog f c1) (h2:aC Tryz.prog f c2):aC Tryz.prog f (hG c1 c2):=by
 refine⟨h1.1,fun args h p hc=>?_⟩
 unfold hG at hc
 split at hc
 ·rename_i q hq
  cases hc
  exact h1.2 args h _ hq
 ·exact h2.2 args h p hc
theorem sd {c1 c2:aW} (h1:bY c1) (h2:bY c2):bY (hG c1 c2):=by
 intro args h p hc
 unfold hG at hc
 split at hc
 ·rename_i q hq
  cases hc
  exact h1 args h _ hq
 ·exact h2 args h p hc
end Go.Proofs.YtakebkfhigadiaaGreat.Ry
namespace Go.Proofs.YtakebkfhigadiaaGreat.SoN
open Go Go.Shelf Go.RowKit Go.Lib Go.Sort Go.Proofs Ry
structure On where
 i0:List Int→Bool
 k0:List E→Bool
 si:List Int→List Int
 oi:List Int→Bool
 sk:List E→List E
 ok:List E→Bool
def On.U:On:=⟨fun l=>decide (l.length=0),fun l=>decide (l.length=0),SoI.Oi.U.kN,SoI.Oi.U.ok,SoK.Ok.U.kN,SoK.Ok.U.ok⟩
def qB (F:On):aW:=fun xs h=>match xs,h with
 |[.one (.sl none (.ints .i64 l))],[]=>some ⟨F.i0 l=true,.bB [],[],[Any]⟩
 |_,_=>none
def px (F:On):aW:=fun xs h=>match xs,h with
 |[.one (.sl none (.ae (.int .i64 (.int .i64 (.int .i64 (.int .i64 (.bool .nil))))) l)),.one (.val (.func (.func 209) ⟨[]⟩ ⟨[]⟩))],[]=>some ⟨F.k0 l=true,.bB [],[],[Any,Any]⟩
 |_,_=>none
theorem BZ:aC Tryz.prog 220 (qB On.U):=by
 refine⟨⟨_,Tryz.func220,rfl,by kernel_rfl⟩,?_⟩
 intro args h p hp hC G vs hh hbs hm hv
 unfold qB at hp
 split at hp
 ·rename_i l
  cases hp
  have hk:l.length=0:=of_decide_eq_true hC
  match vs,hv with
  |[v0],⟨⟨⟨A,c,hv0,_⟩,_⟩,_⟩ =>
   subst hv0
   rw [hk]
   refine (Any.slices_Sort_int_none Sh.NG A c G.w).mono fun e w' ⟨he,hw⟩=>?_
   subst hw
   exact⟨_,G,he,rfl,rfl,hh,hm,⟨[],rfl,trivial⟩,trivial,trivial⟩
 ·cases hp
theorem DO:aC Tryz.prog 221 (px On.U):=by
 refine⟨⟨_,Tryz.func221,rfl,by kernel_rfl⟩,?_⟩
 intro args h p hp hC G vs hh hbs hm hv
 unfold px at hp
 split at hp
 ·rename_i l
  cases hp
  have hk:l.length=0:=of_decide_eq_true hC
  match vs,hv with
  |[v0,v1],⟨⟨⟨A,c,hv0,_⟩,_⟩,_⟩ =>
   subst hv0
   rw [hk]
   refine (AnyF.slices_SortFunc_none Sl.AW A c v1 G.w).mono fun e w' ⟨he,hw⟩=>?_
   subst hw
   exact⟨_,G,he,rfl,rfl,hh,hm,⟨[],rfl,trivial⟩,trivial,trivial,trivial⟩
 ·cases hp
def ef (F:On):aW:=hG (SoI.ef ⟨F.si,F.oi⟩) (qB F)
theorem cZ:aC Tryz.prog 220 (ef On.U):=nb SoI.cZ BZ
def dM (F:On):aW:=hG (SoK.dM ⟨F.sk,F.ok⟩) (px F)
theorem cX:aC Tryz.prog 221 (dM On.U):=nb SoK.cX DO
end Go.Proofs.YtakebkfhigadiaaGreat.SoN
