/-
  which views may be. No condition.
-/
import Derived.Shelf.SlSortCmp.QuietGrown
import Derived.Shelf.SlSortCmp.NoneTotal
import Derived.Test.YtelhldgdnlppfaaGreatVgW22
import Derived.Test.YtelhldgdnlppfaaGreatVgViR
set_option maxRecDepth 100000
set_option maxHeartbeats 8000000
set_option cbv.maxSteps 4000000
namespace Go.Proofs.YtelhldgdnlppfaaGreat.CcX
open Go.RowKit Law Cmp Go.Sort EcX
abbrev kv (n p w s:Int) (m:Bool):Array Value:=#[Value.int IntKind.i64 n,Value.int IntKind.i64 p,Value.int IntKind.i64 w,Value.int IntKind.i64 s,Value.bool m]
abbrev ev (a b c:Int):Array Value:=#[Value.int IntKind.i64 a,Value.int IntKind.i64 b,Value.int IntKind.i64 c]
theorem DT (w:World) (a b:Obj):((w.alloc a).alloc b).heap[w.heap.size+1]? = some b:=by
 have:=heap_alloc_new (w.alloc a) b
 rw [World.size_alloc] at this
 exact this
theorem Ng (w:World) (a b:Obj):((w.alloc a).alloc b).heap[w.heap.size]? = some a:=by
 have:=heap_alloc_new w a
 show ((w.alloc a).heap.push b)[w.heap.size]? = _
 rw [Array.getElem?_push_lt (by rw [World.size_alloc];omega),← Array.getElem?_eq_getElem]
 exact this
theorem IX (n p v s:Int) (m:Bool) (w:World):Calls Tryz.prog 170 #[.agg (kv n p v s m)] w
  fun e w'=>e = .returned (.agg (ev (min n p) (max n p) v))∧Gr w w':=by
 go_enter Tryz.func170,Tryz.ntmps170
 go_wp2
 refine bodyPost_ret (results_cell_row rfl _ _ (w.heap.size+1) 183 (ev (min n p) (max n p) v) (0,0) _ rfl (DT _ _ _) Tryz.underlying183 rfl (by kernel_rfl)) rfl ?_
 exact⟨rfl,((Gr.refl _).alloc _).alloc _⟩
theorem fb {w:World} {b:Nat} {T:TypeId} {cs:Array Value} (hb:b < w.heap.size) (hg:w.heap[b]? = some (.cells cs T (0,0))) (j:Nat) {v:Value} (hv:cs[j]? = some v) (n:Nat) (os:Array Obj) :
  (grow (w.drewN n) os).cell? ⟨b,j,none⟩=some v :=
 cell_grown hb (by rw [cell_of_row w b j cs T (0,0) hg];exact hv) n os
theorem Gs (n p v s:Int) (m:Bool) (n' p' v' s' : Int) (m' : Bool) (w:World):Calls Tryz.prog 157 #[.agg (kv n p v s m),.agg (kv n' p' v' s' m')] w
  fun e w'=>e = .returned (.int .i64 (hG (min n p) (max n p) v (min n' p') (max n' p') v'))∧Gr w w':=by
 have mixed:Tryz.prog.follows .mixedOrders=true:=by kernel_rfl
 go_enter Tryz.func157,Tryz.ntmps157
 go_wp2
 have hs0:w.heap.size < ((w.alloc (Obj.cells (kv n p v s m) 94)).alloc (Obj.cells (kv n' p' v' s' m') 94)).heap.size:=by rw [World.size_alloc,World.size_alloc];omega
 have hs1:w.heap.size+1 < ((w.alloc (Obj.cells (kv n p v s m) 94)).alloc (Obj.cells (kv n' p' v' s' m') 94)).heap.size:=by rw [World.size_alloc,World.size_alloc];omega
 have g0:=Ng w (Obj.cells (kv n p v s m) 94) (Obj.cells (kv n' p' v' s' m') 94)
 have g1:=DT w (Obj.cells (kv n p v s m) 94) (Obj.cells (kv n' p' v' s' m') 94)
 have k00:=fb hs0 g0 0 rfl
 have k01:=fb hs0 g0 1 rfl
 have k02:=fb hs0 g0 2 rfl
 have k03:=fb hs0 g0 3 rfl
 have k04:=fb hs0 g0 4 rfl
 have k10:=fb hs1 g1 0 rfl
 have k11:=fb hs1 g1 1 rfl
 have k12:=fb hs1 g1 2 rfl
 have k13:=fb hs1 g1 3 rfl
 have k14:=fb hs1 g1 4 rfl
 have hb:Gr w ((w.alloc (Obj.cells (kv n p v s m) 94)).alloc (Obj.cells (kv n' p' v' s' m') 94)):=((Gr.refl _).alloc _).alloc _
 generalize ((w.alloc (Obj.cells (kv n p v s m) 94)).alloc (Obj.cells (kv n' p' v' s' m') 94))=w2 at *
 clear hs0 hs1 g0 g1
 go_quiet_grown (first|(exact Calls.grown_of (IX _ _ _ _ _ _))|(exact Calls.grown_of (zE _ _ _ _ _ _ _)))
 have HB:=Law.wz hb
 clear hb k00 k01 k02 k03 k04 k10 k11 k12 k13 k14
 go_wp2
 go_ret
 refine⟨rfl,?_⟩
 obtain⟨q,os,rfl⟩:=HB.out
 exact⟨q+nq,os ++ osq,by show grow (grow ((w.drewN q).drewN nq) os) osq=_;rw [grow_grow,World.drewN_drewN]⟩
end Go.Proofs.YtelhldgdnlppfaaGreat.CcX
namespace Go.Proofs.YtelhldgdnlppfaaGreat.SoC
open Go Go.Shelf Go.RowKit Go.Lib Go.Sort Ry SoG CcX EcX
abbrev SK:Sh:=.int .i64 (.int .i64 (.int .i64 (.int .i64 (.bool .nil))))
def jK (x:E):List Value:=[.int .i64 (ri x 0),.int .i64 (ri x 1),.int .i64 (ri x 2),.int .i64 (ri x 3),.bool (rb x 4)]
theorem Ie {G:Gm} {x:E} {us:List Value}:aX G SK x 0 us↔us=jK x:=by
 constructor
 ·rintro⟨u1,rfl,u2,rfl,u3,rfl,u4,rfl,u5,rfl,rfl⟩
  rfl
 ·rintro rfl
  exact⟨_,rfl,_,rfl,_,rfl,_,rfl,_,rfl,rfl⟩
def orC (c1 c2:aY):aY:=fun xs h=>match c1 xs h with
 |some p=>some p
 |none=>c2 xs h
theorem Td {P:Program} {f:FuncId} {c1 c2:aY} (h1:aA P f c1) (h2:aA P f c2):aA P f (orC c1 c2):=by
 refine⟨h1.1,fun args h p hc=>?_⟩
 unfold orC at hc
 split at hc
 ·rename_i q hq
  cases hc
  exact h1.2 args h _ hq
 ·exact h2.2 args h p hc
def Vp (x y:E):Int:=hG (min (ri x 0) (ri x 1)) (max (ri x 0) (ri x 1)) (ri x 2) (min (ri y 0) (ri y 1)) (max (ri y 0) (ri y 1)) (ri y 2)
def Vk (x y:E):Prop:=ri x 2 < ri y 2∨ri x 2=ri y 2∧(min (ri x 0) (ri x 1) < min (ri y 0) (ri y 1)∨min (ri x 0) (ri x 1)=min (ri y 0) (ri y 1)∧max (ri x 0) (ri x 1) < max (ri y 0) (ri y 1))
theorem ltC (x y:E):ltOf Vp x y=true↔Vk x y:=by
 unfold ltOf Vp
 rw [decide_eq_true_eq]
 exact Nz _ _ _ _ _ _
theorem Bb (x y:E):ltOf Vp x y=false↔¬Vk x y:=by
 rw [← ltC,Bool.not_eq_true]
def ZM:Kd where
 sh:=SK
 K:=5
 enc:=jK
 cf:=Vp
 pos:=by decide
 size:=rfl
 len _:=rfl
 OZ:=Ie
 kS x v hv:=by
  simp only [jK,List.mem_cons,List.not_mem_nil,or_false] at hv
  rcases hv with rfl|rfl|rfl|rfl|rfl <;> rfl
 swo:={
  irrefl:=fun x=>by
   rw [Bb]
   unfold Vk
   omega
  trans:=fun x y z h1 h2=>by
   rw [ltC] at *
   unfold Vk at *
   omega
  ntrans:=fun x y z h1 h2=>by
   rw [Bb] at *
   unfold Vk at *
   omega }
def dn (l:List E):List E:=mv ZM l
theorem jV (l:List E):(dn l).length=l.length∧(dn l).Perm l∧(dn l).Pairwise fun x y=>¬Vk y x:=by
 obtain⟨a,b,c⟩:=kP ZM l
 exact⟨a,b,c.imp fun {x y} h=>(Bb y x).1 h⟩
theorem lJ (g off cap:Nat) (l:List E) (w:World) (hH:HoldsK jK 5 w g off l.toArray) (hg:g < w.heap.size) (hl:l.length < 4611686018427387904) :
  Calls Tryz.prog 139 #[.slice (some ⟨g,off,none⟩) l.length cap,.func (.func 157) #[] #[]] w fun e w'=>e = .returned (.tuple #[])∧∃ n os,w' = sortWorldK jK 5 w g off n (dn l).toArray os:=by
 have hc:CmpLays Tryz.prog 157 #[] jK 5 Vp g off l.toArray.size w:=fun m os dk hs x y=>(Gs _ _ _ _ _ _ _ _ _ _ _).mono fun e w' ⟨he,hw⟩=>⟨he,hw⟩
 have h:=AnyQ.slices_SortFunc_eq Sl.CO 5 Tryz.isAgg94 Tryz.sizeOf94 jK (fun _=>rfl) (fun x v hv=>by simp [jK] at hv;rcases hv with rfl|rfl|rfl|rfl|rfl <;> rfl) Vp ZM.swo 157 #[] g off cap l.toArray w (enters_of Tryz.func157 (by kernel_rfl) rfl) hc hH hg hl
 exact h.mono fun e w' ⟨he,n,os,hw⟩=>⟨he,n,os,hw⟩
structure Oc where
 mv:List E→List E
 ok:List E→Bool
def Oc.U:Oc:=⟨dn,fun l=>decide (0 < l.length∧l.length≤1000000)⟩
def qQ (F:Oc):aY:=fun xs h=>match xs,h with
 |[.one (.own 0),.one (.val (.func (.func 157) ⟨[]⟩ ⟨[]⟩))],[(0,.row 94 (.ah (.int .i64 (.int .i64 (.int .i64 (.int .i64 (.bool .nil))))) l))]=>some ⟨F.ok l=true,.bK [],[(0,.row 94 (.ah (.int .i64 (.int .i64 (.int .i64 (.int .i64 (.bool .nil))))) (F.mv l)))],[.one (.own 0),Any]⟩
 |_,_=>none
def wi (_:Oc):aY:=fun xs h=>match xs,h with
 |[.one (.val (.slice none 0 0)),.one (.val (.func (.func 157) ⟨[]⟩ ⟨[]⟩))],[]=>some ⟨True,.bK [],[],[Any,Any]⟩
 |_,_=>none
theorem KS:aA Tryz.prog 139 (qQ Oc.U):=by
 refine DP ZM (c:=157) (T:=94) (qQ Oc.U) (fun l=>decide (0 < l.length∧l.length≤1000000)) (fun l h=>of_decide_eq_true h) (fun xs h p hp=>?_) ⟨_,Tryz.func139,rfl,by kernel_rfl⟩ lJ
 unfold qQ at hp
 split at hp
 ·rename_i l
  cases hp
  exact⟨l,rfl,rfl,rfl⟩
 ·cases hp
theorem Iv:aA Tryz.prog 139 (wi Oc.U):=by
 refine⟨⟨_,Tryz.func139,rfl,by kernel_rfl⟩,?_⟩
 intro args h p hp hC G vs hh hbs hm hv
 unfold wi at hp
 split at hp
 ·cases hp
  match vs,hv with
  |[v0,v1],⟨hv0,_⟩ =>
   have hv0:v0 = .slice none 0 0:=hv0
   subst hv0
   refine (AnyF.slices_SortFunc_none Sl.CO none 0 v1 G.w).mono fun e w' ⟨he,hw⟩=>?_
   subst hw
   exact⟨_,G,he,rfl,rfl,hh,hm,⟨[],rfl,trivial⟩,trivial,trivial,trivial⟩
 ·cases hp
def qR (F:Oc):aY:=orC (qQ F) (wi F)
theorem jP:aA Tryz.prog 139 (qR Oc.U):=Td KS Iv
end Go.Proofs.YtelhldgdnlppfaaGreat.SoC
namespace Go.Proofs.YtelhldgdnlppfaaGreat.ViC
open Go Ry Cmp ViR
structure Vc where
 Xz:List Int→List E→Int
 aaY:List Int→List E→Bool
 TM:List Int→List E→Bool
def Vc.U:Vc:=⟨ob,bf,fun n l=>decide (n.length≤1000000∧l.length≤1000000)⟩
def dD (F:Vc):aY:=fun xs h=>match xs,h with
 |[.agg [.sl none (.ints .i64 v_n),.sl none (.ah (.int .i64 (.int .i64 (.int .i64 (.int .i64 (.bool .nil))))) v_l)]],[]=>some ⟨F.TM v_n v_l=true,.sa (I (F.Xz v_n v_l)),[],[Any]⟩
 |_,_=>none
theorem KE (v_n:List Int) (v_l:List E) (hC:Vc.U.TM v_n v_l=true):aV [(32,gf ViR.Vs.U),(158,xM ViR.Vs.U),(135,qa ViR.Vs.U),(140,xV ViR.Vs.U)] Tryz.f129 [.agg [.sl none (.ints .i64 v_n),.sl none (.ah (.int .i64 (.int .i64 (.int .i64 (.int .i64 (.bool .nil))))) v_l)]] [] ⟨Vc.U.TM v_n v_l=true,.sa (I (Vc.U.Xz v_n v_l)),[],[Any]⟩:=by
 intro b gv
 have hk:v_n.length≤1000000∧v_l.length≤1000000:=of_decide_eq_true (show decide (v_n.length≤1000000∧v_l.length≤1000000)=true from hC)
 have hfs:=(af.cons cN (af.cons AF (af.cons fK (af.cons rn af.nil rfl) rfl) rfl) rfl)
 generalize hF:Vc.U=F at hC hfs ⊢
 generalize hG0:ViR.Vs.U=G0 at hC hfs ⊢
 generalize hA:Ar.U=A
 generalize hL:Lp _ _ _=L
 obtain⟨Z,zq⟩:=aQ
 refine aD (ae hL) zq rfl ?_
 repeat' (first|(refine aw zq ?_;try dsimp only)|refine ax zq ?_ (ae hL)|refine az zq ?_|refine ay ?_|refine aq ?_|refine ar ?_|refine av ?_|refine au rfl ?_|refine ai rfl ?_|refine aj rfl ?_|(refine Cd.mk ?_;cbv)|(refine aE.mk ?_;cbv)|(refine aM.mk ?_;cbv)|exact trivial|refine And.intro ?_ ?_|refine bu fun _=>?_|refine br fun _=>?_)
 subst hL
 refine ba (bx hfs) (AM v_n.length (VD v_n)) (aaa A v_n v_l) (allM v_n.length) (iR 10) ⟨0⟩ ?_ ?_ ?_
 ·exact all_zero _ _
 ·cbv
  repeat' (first|exact trivial|exact rfl|refine And.intro ?_ ?_)
 rintro⟨i⟩ hq O hO
 obtain⟨e1,e2⟩:=DE hk.1 hq
 have hst:=fun h=>yQ hk.1 hq h
 have hen:=fun h=>EH hq h
 have hok:=fun h=>VZ (n:=v_n) hq.1 h
 have q0:=hq.1
 have q1:=hq.2.1
 dsimp only at q0 q1 hok
 subst hA
 generalize hA:Ar.U=A
 generalize hL:Lp _ _ _=L
 refine aR zq ?_
 repeat' (first|(refine aw zq ?_;try dsimp only)|refine ax zq ?_ (ae hL)|refine az zq ?_|refine ay ?_|refine aq ?_|refine ar ?_|refine av ?_|refine au rfl ?_|refine ai rfl ?_|refine aj rfl ?_|(refine Cd.mk ?_;cbv)|(refine aE.mk ?_;cbv)|(refine aM.mk ?_;cbv)|exact trivial|refine And.intro ?_ ?_|refine bu fun _=>?_|refine br fun _=>?_)
 all_goals first|(show L _ _ _;skip)|(clear hL hfs zq Z hq;subst hA hF hG0 hO;simp only [Vc.U,ViR.Vs.U,Ar.U] at *;first|assumption|(simp only [e1,e2] at *;try generalize (i - 1).toNat=m1 at *;try generalize i.toNat=k1 at *;grind [al,ob,bf,dL]);done)
 rename_i hx
 have hr:dL v_n=true:=by
  refine hen ?_
  clear hL hfs zq Z hq hst hok hen e1 e2
  subst hA hF hG0 hO
  simp only [Ar.U] at hx
  grind [al]
 clear hx hst hok hen e1 e2
 have hbs:=fun t=>pB hr t
 subst hL
 refine ba (bx hfs) (AM v_l.length (UZ v_n v_l)) (aad A v_n v_l) (allM v_l.length) (iR 36) ⟨0⟩ ?_ ?_ ?_
 ·exact all_zero _ _
 ·cbv
  repeat' (first|exact trivial|exact rfl|refine And.intro ?_ ?_)
 rintro⟨k⟩ hq2 O2 hO2
 obtain⟨e1,e2⟩:=DE hk.2 hq2
 have hst:=fun h=>yQ hk.2 hq2 h
 have hen:=fun h=>EH hq2 h
 have hok:=fun h=>Zo (n:=v_n) (l:=v_l) hq2.1 h
 have k0:=hq2.1
 have k1:=hq2.2.1
 dsimp only at k0 k1 hok
 subst hA
 generalize hA:Ar.U=A
 generalize hL:Lp _ _ _=L
 refine aR zq ?_
 repeat' (first|(refine aw zq ?_;try dsimp only)|refine ax zq ?_ (ae hL)|refine az zq ?_|refine ay ?_|refine aq ?_|refine ar ?_|refine av ?_|refine au rfl ?_|refine ai rfl ?_|refine aj rfl ?_|(refine Cd.mk ?_;cbv)|(refine aE.mk ?_;cbv)|(refine aM.mk ?_;cbv)|exact trivial|refine And.intro ?_ ?_|refine bu fun _=>?_|refine br fun _=>?_)
 all_goals (clear hL hfs zq Z hq hq2;subst hA hF hG0 hO hO2;simp only [Vc.U,ViR.Vs.U,Ar.U] at *)
 all_goals (try assumption)
 all_goals (simp only [e1,e2] at *;try generalize (k - 1).toNat=m1 at *;try generalize k.toNat=k1 at *;grind [al,ob,bf,Qt])
theorem bM:aA Tryz.prog 129 (dD Vc.U):=by
 refine aG (af.cons cN (af.cons AF (af.cons fK (af.cons rn af.nil rfl) rfl) rfl) rfl) Tryz.func129 rfl rfl fun xs h p hp=>?_
 unfold dD at hp
 split at hp
 ·cases hp
  exact⟨aB rfl,fun hC _=>KE _ _ hC⟩
 ·cases hp
end Go.Proofs.YtelhldgdnlppfaaGreat.ViC
