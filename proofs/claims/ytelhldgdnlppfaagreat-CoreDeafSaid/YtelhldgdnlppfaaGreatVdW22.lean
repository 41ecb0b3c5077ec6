/-
  which views may be. No condition.
-/
import Derived.Shelf.SlSortCmp.QuietGrown
import Derived.Shelf.SlSortCmp.NoneTotal
import Derived.Test.YtelhldgdnlppfaaGreatVdW21
import Derived.Test.YtelhldgdnlppfaaGreatVdViR
set_option maxRecDepth 100000
set_option maxHeartbeats 8000000
set_option cbv.maxSteps 4000000
namespace Go.Proofs.YtelhldgdnlppfaaGreat.CcX
open Go.RowKit Law Cmp Go.Sort EcX
abbrev kv (n p w s:Int) (m:Bool):Array Value:=#[Value.int IntKind.i64 n,Value.int IntKind.i64 p,Value.int IntKind.i64 w,Value.int IntKind.i64 s,Value.bool m]
abbrev ev (a b c:Int):Array Value:=#[Value.int IntKind.i64 a,Value.int IntKind.i64 b,Value.int IntKind.i64 c]
theorem Ec (w:World) (a b:Obj):((w.alloc a).alloc b).heap[w.heap.size+1]? = some b:=by
 have:=heap_alloc_new (w.alloc a) b
 rw [World.size_alloc] at this
 exact this
theorem OU (w:World) (a b:Obj):((w.alloc a).alloc b).heap[w.heap.size]? = some a:=by
 have:=heap_alloc_new w a
 show ((w.alloc a).heap.push b)[w.heap.size]? = _
 rw [Array.getElem?_push_lt (by rw [World.size_alloc];omega),← Array.getElem?_eq_getElem]
 exact this
theorem LM (n p v s:Int) (m:Bool) (w:World):Calls Tryz.prog 170 #[.agg (kv n p v s m)] w
  fun e w'=>e = .returned (.agg (ev (min n p) (max n p) v))∧Gr w w':=by
 go_enter Tryz.func170,Tryz.ntmps170
 go_wp2
 refine bodyPost_ret (results_cell_row rfl _ _ (w.heap.size+1) 183 (ev (min n p) (max n p) v) (0,0) _ rfl (Ec _ _ _) Tryz.underlying183 rfl (by kernel_rfl)) rfl ?_
 exact⟨rfl,((Gr.refl _).alloc _).alloc _⟩
theorem fm {w:World} {b:Nat} {T:TypeId} {cs:Array Value} (hb:b < w.heap.size) (hg:w.heap[b]? = some (.cells cs T (0,0))) (j:Nat) {v:Value} (hv:cs[j]? = some v) (n:Nat) (os:Array Obj) :
  (grow (w.drewN n) os).cell? ⟨b,j,none⟩=some v :=
 cell_grown hb (by rw [cell_of_row w b j cs T (0,0) hg];exact hv) n os
theorem FM (n p v s:Int) (m:Bool) (n' p' v' s' : Int) (m' : Bool) (w:World):Calls Tryz.prog 157 #[.agg (kv n p v s m),.agg (kv n' p' v' s' m')] w
  fun e w'=>e = .returned (.int .i64 (gZ (min n p) (max n p) v (min n' p') (max n' p') v'))∧Gr w w':=by
 have mixed:Tryz.prog.follows .mixedOrders=true:=by kernel_rfl
 go_enter Tryz.func157,Tryz.ntmps157
 go_wp2
 have hs0:w.heap.size < ((w.alloc (Obj.cells (kv n p v s m) 94)).alloc (Obj.cells (kv n' p' v' s' m') 94)).heap.size:=by rw [World.size_alloc,World.size_alloc];omega
 have hs1:w.heap.size+1 < ((w.alloc (Obj.cells (kv n p v s m) 94)).alloc (Obj.cells (kv n' p' v' s' m') 94)).heap.size:=by rw [World.size_alloc,World.size_alloc];omega
 have g0:=OU w (Obj.cells (kv n p v s m) 94) (Obj.cells (kv n' p' v' s' m') 94)
 have g1:=Ec w (Obj.cells (kv n p v s m) 94) (Obj.cells (kv n' p' v' s' m') 94)
 have k00:=fm hs0 g0 0 rfl
 have k01:=fm hs0 g0 1 rfl
 have k02:=fm hs0 g0 2 rfl
 have k03:=fm hs0 g0 3 rfl
 have k04:=fm hs0 g0 4 rfl
 have k10:=fm hs1 g1 0 rfl
 have k11:=fm hs1 g1 1 rfl
 have k12:=fm hs1 g1 2 rfl
 have k13:=fm hs1 g1 3 rfl
 have k14:=fm hs1 g1 4 rfl
 have hb:Gr w ((w.alloc (Obj.cells (kv n p v s m) 94)).alloc (Obj.cells (kv n' p' v' s' m') 94)):=((Gr.refl _).alloc _).alloc _
 generalize ((w.alloc (Obj.cells (kv n p v s m) 94)).alloc (Obj.cells (kv n' p' v' s' m') 94))=w2 at *
 clear hs0 hs1 g0 g1
 go_quiet_grown (first|(exact Calls.grown_of (LM _ _ _ _ _ _))|(exact Calls.grown_of (zy _ _ _ _ _ _ _)))
 have HB:=Law.xY hb
 clear hb k00 k01 k02 k03 k04 k10 k11 k12 k13 k14
 go_wp2
 go_ret
 refine⟨rfl,?_⟩
 obtain⟨q,os,rfl⟩:=HB.out
 exact⟨q+nq,os ++ osq,by show grow (grow ((w.drewN q).drewN nq) os) osq=_;rw [grow_grow,World.drewN_drewN]⟩
end Go.Proofs.YtelhldgdnlppfaaGreat.CcX
namespace Go.Proofs.YtelhldgdnlppfaaGreat.SoC
open Go Go.Shelf Go.RowKit Go.Lib Go.Sort Ry SoG CcX EcX
abbrev SK:Sh:=.int .i64 (.int .i64 (.int .i64 (.int .i64 (.bool .nil))))
def kc (x:E):List Value:=[.int .i64 (ri x 0),.int .i64 (ri x 1),.int .i64 (ri x 2),.int .i64 (ri x 3),.bool (rb x 4)]
theorem Ki {G:Gm} {x:E} {us:List Value}:aY G SK x 0 us↔us=kc x:=by
 constructor
 ·rintro⟨u1,rfl,u2,rfl,u3,rfl,u4,rfl,u5,rfl,rfl⟩
  rfl
 ·rintro rfl
  exact⟨_,rfl,_,rfl,_,rfl,_,rfl,_,rfl,rfl⟩
def orC (c1 c2:aZ):aZ:=fun xs h=>match c1 xs h with
 |some p=>some p
 |none=>c2 xs h
theorem Ty {P:Program} {f:FuncId} {c1 c2:aZ} (h1:aA P f c1) (h2:aA P f c2):aA P f (orC c1 c2):=by
 refine⟨h1.1,fun args h p hc=>?_⟩
 unfold orC at hc
 split at hc
 ·rename_i q hq
  cases hc
  exact h1.2 args h _ hq
 ·exact h2.2 args h p hc
def VF (x y:E):Int:=gZ (min (ri x 0) (ri x 1)) (max (ri x 0) (ri x 1)) (ri x 2) (min (ri y 0) (ri y 1)) (max (ri y 0) (ri y 1)) (ri y 2)
def VM (x y:E):Prop:=ri x 2 < ri y 2∨ri x 2=ri y 2∧(min (ri x 0) (ri x 1) < min (ri y 0) (ri y 1)∨min (ri x 0) (ri x 1)=min (ri y 0) (ri y 1)∧max (ri x 0) (ri x 1) < max (ri y 0) (ri y 1))
theorem ltC (x y:E):ltOf VF x y=true↔VM x y:=by
 unfold ltOf VF
 rw [decide_eq_true_eq]
 exact Ml _ _ _ _ _ _
theorem BS (x y:E):ltOf VF x y=false↔¬VM x y:=by
 rw [← ltC,Bool.not_eq_true]
def kdC:Kd where
 sh:=SK
 K:=5
 enc:=kc
 cf:=VF
 pos:=by decide
 size:=rfl
 len _:=rfl
 Pj:=Ki
 kW x v hv:=by
  simp only [kc,List.mem_cons,List.not_mem_nil,or_false] at hv
  rcases hv with rfl|rfl|rfl|rfl|rfl <;> rfl
 swo:={
  irrefl:=fun x=>by
   rw [BS]
   unfold VM
   omega
  trans:=fun x y z h1 h2=>by
   rw [ltC] at *
   unfold VM at *
   omega
  ntrans:=fun x y z h1 h2=>by
   rw [BS] at *
   unfold VM at *
   omega }
def dj (l:List E):List E:=mz kdC l
theorem kq (l:List E):(dj l).length=l.length∧(dj l).Perm l∧(dj l).Pairwise fun x y=>¬VM y x:=by
 obtain⟨a,b,c⟩:=kR kdC l
 exact⟨a,b,c.imp fun {x y} h=>(BS y x).1 h⟩
theorem ml (g off cap:Nat) (l:List E) (w:World) (hH:HoldsK kc 5 w g off l.toArray) (hg:g < w.heap.size) (hl:l.length < 4611686018427387904) :
  Calls Tryz.prog 139 #[.slice (some ⟨g,off,none⟩) l.length cap,.func (.func 157) #[] #[]] w fun e w'=>e = .returned (.tuple #[])∧∃ n os,w' = sortWorldK kc 5 w g off n (dj l).toArray os:=by
 have hc:CmpLays Tryz.prog 157 #[] kc 5 VF g off l.toArray.size w:=fun m os dk hs x y=>(FM _ _ _ _ _ _ _ _ _ _ _).mono fun e w' ⟨he,hw⟩=>⟨he,hw⟩
 have h:=AnyQ.slices_SortFunc_eq Sl.DS 5 Tryz.isAgg94 Tryz.sizeOf94 kc (fun _=>rfl) (fun x v hv=>by simp [kc] at hv;rcases hv with rfl|rfl|rfl|rfl|rfl <;> rfl) VF kdC.swo 157 #[] g off cap l.toArray w (enters_of Tryz.func157 (by kernel_rfl) rfl) hc hH hg hl
 exact h.mono fun e w' ⟨he,n,os,hw⟩=>⟨he,n,os,hw⟩
structure Oc where
 mz:List E→List E
 ok:List E→Bool
def Oc.U:Oc:=⟨dj,fun l=>decide (0 < l.length∧l.length≤1000000)⟩
def rq (F:Oc):aZ:=fun xs h=>match xs,h with
 |[.one (.own 0),.one (.val (.func (.func 157) ⟨[]⟩ ⟨[]⟩))],[(0,.row 94 (.ah (.int .i64 (.int .i64 (.int .i64 (.int .i64 (.bool .nil))))) l))]=>some ⟨F.ok l=true,.bJ [],[(0,.row 94 (.ah (.int .i64 (.int .i64 (.int .i64 (.int .i64 (.bool .nil))))) (F.mz l)))],[.one (.own 0),Any]⟩
 |_,_=>none
def wu (_:Oc):aZ:=fun xs h=>match xs,h with
 |[.one (.val (.slice none 0 0)),.one (.val (.func (.func 157) ⟨[]⟩ ⟨[]⟩))],[]=>some ⟨True,.bJ [],[],[Any,Any]⟩
 |_,_=>none
theorem Ii:aA Tryz.prog 139 (rq Oc.U):=by
 refine EB kdC (c:=157) (T:=94) (rq Oc.U) (fun l=>decide (0 < l.length∧l.length≤1000000)) (fun l h=>of_decide_eq_true h) (fun xs h p hp=>?_) ⟨_,Tryz.func139,rfl,by kernel_rfl⟩ ml
 unfold rq at hp
 split at hp
 ·rename_i l
  cases hp
  exact⟨l,rfl,rfl,rfl⟩
 ·cases hp
theorem Jo:aA Tryz.prog 139 (wu Oc.U):=by
 refine⟨⟨_,Tryz.func139,rfl,by kernel_rfl⟩,?_⟩
 intro args h p hp hC G vs hh hbs hm hv
 unfold wu at hp
 split at hp
 ·cases hp
  match vs,hv with
  |[v0,v1],⟨hv0,_⟩ =>
   have hv0:v0 = .slice none 0 0:=hv0
   subst hv0
   refine (AnyF.slices_SortFunc_none Sl.DS none 0 v1 G.w).mono fun e w' ⟨he,hw⟩=>?_
   subst hw
   exact⟨_,G,he,rfl,rfl,hh,hm,⟨[],rfl,trivial⟩,trivial,trivial,trivial⟩
 ·cases hp
def rk (F:Oc):aZ:=orC (rq F) (wu F)
theorem kj:aA Tryz.prog 139 (rk Oc.U):=Ty Ii Jo
end Go.Proofs.YtelhldgdnlppfaaGreat.SoC
namespace Go.Proofs.YtelhldgdnlppfaaGreat.ViC
open Go Ry Cmp ViR
structure Vc where
 Wd:List Int→List E→Int
 aaU:List Int→List E→Bool
 RL:List Int→List E→Bool
def Vc.U:Vc:=⟨mI,bf,fun n l=>decide (n.length≤1000000∧l.length≤1000000)⟩
def dv (F:Vc):aZ:=fun xs h=>match xs,h with
 |[.agg [.sl none (.ints .i64 v_n),.sl none (.ah (.int .i64 (.int .i64 (.int .i64 (.int .i64 (.bool .nil))))) v_l)]],[]=>some ⟨F.RL v_n v_l=true,.sa (I (F.Wd v_n v_l)),[],[Any]⟩
 |_,_=>none
theorem Lh (v_n:List Int) (v_l:List E) (hC:Vc.U.RL v_n v_l=true):aU [(32,fW ViR.Vs.U),(158,xO ViR.Vs.U),(135,qk ViR.Vs.U),(140,xy ViR.Vs.U)] Tryz.f129 [.agg [.sl none (.ints .i64 v_n),.sl none (.ah (.int .i64 (.int .i64 (.int .i64 (.int .i64 (.bool .nil))))) v_l)]] [] ⟨Vc.U.RL v_n v_l=true,.sa (I (Vc.U.Wd v_n v_l)),[],[Any]⟩:=by
 intro b gv
 have hk:v_n.length≤1000000∧v_l.length≤1000000:=of_decide_eq_true (show decide (v_n.length≤1000000∧v_l.length≤1000000)=true from hC)
 have hfs:=(af.cons cL (af.cons yJ (af.cons fJ (af.cons qK af.nil rfl) rfl) rfl) rfl)
 generalize hF:Vc.U=F at hC hfs ⊢
 generalize hG0:ViR.Vs.U=G0 at hC hfs ⊢
 generalize hA:Ar.U=A
 generalize hL:Lp _ _ _=L
 obtain⟨Z,zq⟩:=aP
 refine aD (aa hL) zq rfl ?_
 repeat' (first|(refine ay zq ?_;try dsimp only)|refine ax zq ?_ (aa hL)|refine aw zq ?_|refine az ?_|refine av ?_|refine au ?_|refine aq ?_|refine ar rfl ?_|refine ai rfl ?_|refine aj rfl ?_|(refine Cd.mk ?_;cbv)|(refine aE.mk ?_;cbv)|(refine aJ.mk ?_;cbv)|exact trivial|refine And.intro ?_ ?_|refine bn fun _=>?_|refine bo fun _=>?_)
 subst hL
 refine aX (br hfs) (xv v_n.length (Yf v_n)) (aaw A v_n v_l) (allM v_n.length) (iR 10) ⟨0⟩ ?_ ?_ ?_
 ·exact all_zero _ _
 ·cbv
  repeat' (first|exact trivial|exact rfl|refine And.intro ?_ ?_)
 rintro⟨i⟩ hq O hO
 obtain⟨e1,e2⟩:=rj hk.1 hq
 have hst:=fun h=>nQ hk.1 hq h
 have hen:=fun h=>qS hq h
 have hok:=fun h=>YY (n:=v_n) hq.1 h
 have q0:=hq.1
 have q1:=hq.2.1
 dsimp only at q0 q1 hok
 subst hA
 generalize hA:Ar.U=A
 generalize hL:Lp _ _ _=L
 refine aO zq ?_
 repeat' (first|(refine ay zq ?_;try dsimp only)|refine ax zq ?_ (aa hL)|refine aw zq ?_|refine az ?_|refine av ?_|refine au ?_|refine aq ?_|refine ar rfl ?_|refine ai rfl ?_|refine aj rfl ?_|(refine Cd.mk ?_;cbv)|(refine aE.mk ?_;cbv)|(refine aJ.mk ?_;cbv)|exact trivial|refine And.intro ?_ ?_|refine bn fun _=>?_|refine bo fun _=>?_)
 all_goals first|(show L _ _ _;skip)|(clear hL hfs zq Z hq;subst hA hF hG0 hO;simp only [Vc.U,ViR.Vs.U,Ar.U] at *;first|assumption|(simp only [e1,e2] at *;try generalize (i - 1).toNat=m1 at *;try generalize i.toNat=k1 at *;grind [al,mI,bf,dJ]);done)
 rename_i hx
 have hr:dJ v_n=true:=by
  refine hen ?_
  clear hL hfs zq Z hq hst hok hen e1 e2
  subst hA hF hG0 hO
  simp only [Ar.U] at hx
  grind [al]
 clear hx hst hok hen e1 e2
 have hbs:=fun t=>oY hr t
 subst hL
 refine aX (br hfs) (xv v_l.length (VJ v_n v_l)) (aaH A v_n v_l) (allM v_l.length) (iR 36) ⟨0⟩ ?_ ?_ ?_
 ·exact all_zero _ _
 ·cbv
  repeat' (first|exact trivial|exact rfl|refine And.intro ?_ ?_)
 rintro⟨k⟩ hq2 O2 hO2
 obtain⟨e1,e2⟩:=rj hk.2 hq2
 have hst:=fun h=>nQ hk.2 hq2 h
 have hen:=fun h=>qS hq2 h
 have hok:=fun h=>ZB (n:=v_n) (l:=v_l) hq2.1 h
 have k0:=hq2.1
 have k1:=hq2.2.1
 dsimp only at k0 k1 hok
 subst hA
 generalize hA:Ar.U=A
 generalize hL:Lp _ _ _=L
 refine aO zq ?_
 repeat' (first|(refine ay zq ?_;try dsimp only)|refine ax zq ?_ (aa hL)|refine aw zq ?_|refine az ?_|refine av ?_|refine au ?_|refine aq ?_|refine ar rfl ?_|refine ai rfl ?_|refine aj rfl ?_|(refine Cd.mk ?_;cbv)|(refine aE.mk ?_;cbv)|(refine aJ.mk ?_;cbv)|exact trivial|refine And.intro ?_ ?_|refine bn fun _=>?_|refine bo fun _=>?_)
 all_goals (clear hL hfs zq Z hq hq2;subst hA hF hG0 hO hO2;simp only [Vc.U,ViR.Vs.U,Ar.U] at *)
 all_goals (try assumption)
 all_goals (simp only [e1,e2] at *;try generalize (k - 1).toNat=m1 at *;try generalize k.toNat=k1 at *;grind [al,mI,bf,QC])
theorem bL:aA Tryz.prog 129 (dv Vc.U):=by
 refine aG (af.cons cL (af.cons yJ (af.cons fJ (af.cons qK af.nil rfl) rfl) rfl) rfl) Tryz.func129 rfl rfl fun xs h p hp=>?_
 unfold dv at hp
 split at hp
 ·cases hp
  exact⟨aB rfl,fun hC _=>Lh _ _ hC⟩
 ·cases hp
end Go.Proofs.YtelhldgdnlppfaaGreat.ViC
