/-
  What choose.compare tells of two links,exactly;the library's sort of links by their edges,as a contract of the reckoner's;the sort of nothing. No condition.
-/
import Derived.Shelf.SlSortCmp.QuietGrown
import Derived.Shelf.SlSortCmp.NoneTotal
import Derived.Test.YtakebkfhigadiaaGreatVnW20
import Derived.Test.YtakebkfhigadiaaGreatVnW20
import Derived.Test.YtakebkfhigadiaaGreatVnSoG
set_option maxRecDepth 20000
set_option maxHeartbeats 400000
namespace Go.Proofs.YtakebkfhigadiaaGreat.CcX
open Go.RowKit Law Cmp Go.Sort EcX
abbrev kv (n p w s:Int) (m:Bool):Array Value:=#[Value.int IntKind.i64 n,Value.int IntKind.i64 p,Value.int IntKind.i64 w,Value.int IntKind.i64 s,Value.bool m]
abbrev ev (a b c:Int):Array Value:=#[Value.int IntKind.i64 a,Value.int IntKind.i64 b,Value.int IntKind.i64 c]
theorem AU (w:World) (a b:Obj):((w.alloc a).alloc b).heap[w.heap.size+1]? = some b:=by
 have:=heap_alloc_new (w.alloc a) b
 rw [World.size_alloc] at this
 exact this
theorem Kn (w:World) (a b:Obj):((w.alloc a).alloc b).heap[w.heap.size]? = some a:=by
 have:=heap_alloc_new w a
 show ((w.alloc a).heap.push b)[w.heap.size]? = _
 rw [Array.getElem?_push_lt (by rw [World.size_alloc];omega),← Array.getElem?_eq_getElem]
 exact this
theorem Gh (n p v s:Int) (m:Bool) (w:World):Calls Tryz.prog 242 #[.agg (kv n p v s m)] w
  fun e w'=>e = .returned (.agg (ev (min n p) (max n p) v))∧Gr w w':=by
 go_enter Tryz.func242,Tryz.ntmps242
 go_wp2
 refine bodyPost_ret (results_cell_row rfl _ _ (w.heap.size+1) 325 (ev (min n p) (max n p) v) (0,0) _ rfl (AU _ _ _) Tryz.underlying325 rfl (by kernel_rfl)) rfl ?_
 exact⟨rfl,((Gr.refl _).alloc _).alloc _⟩
theorem ep {w:World} {b:Nat} {T:TypeId} {cs:Array Value} (hb:b < w.heap.size) (hg:w.heap[b]? = some (.cells cs T (0,0))) (j:Nat) {v:Value} (hv:cs[j]? = some v) (n:Nat) (os:Array Obj) :
  (grow (w.drewN n) os).cell? ⟨b,j,none⟩=some v :=
 cell_grown hb (by rw [cell_of_row w b j cs T (0,0) hg];exact hv) n os
theorem Dl (n p v s:Int) (m:Bool) (n' p' v' s' : Int) (m' : Bool) (w:World):Calls Tryz.prog 231 #[.agg (kv n p v s m),.agg (kv n' p' v' s' m')] w
  fun e w'=>e = .returned (.int .i64 (mJ (min n p) (max n p) v (min n' p') (max n' p') v'))∧Gr w w':=by
 have mixed:Tryz.prog.follows .mixedOrders=true:=by kernel_rfl
 go_enter Tryz.func231,Tryz.ntmps231
 go_wp2
 have hs0:w.heap.size < ((w.alloc (Obj.cells (kv n p v s m) 176)).alloc (Obj.cells (kv n' p' v' s' m') 176)).heap.size:=by rw [World.size_alloc,World.size_alloc];omega
 have hs1:w.heap.size+1 < ((w.alloc (Obj.cells (kv n p v s m) 176)).alloc (Obj.cells (kv n' p' v' s' m') 176)).heap.size:=by rw [World.size_alloc,World.size_alloc];omega
 have g0:=Kn w (Obj.cells (kv n p v s m) 176) (Obj.cells (kv n' p' v' s' m') 176)
 have g1:=AU w (Obj.cells (kv n p v s m) 176) (Obj.cells (kv n' p' v' s' m') 176)
 have k00:=ep hs0 g0 0 rfl
 have k01:=ep hs0 g0 1 rfl
 have k02:=ep hs0 g0 2 rfl
 have k03:=ep hs0 g0 3 rfl
 have k04:=ep hs0 g0 4 rfl
 have k10:=ep hs1 g1 0 rfl
 have k11:=ep hs1 g1 1 rfl
 have k12:=ep hs1 g1 2 rfl
 have k13:=ep hs1 g1 3 rfl
 have k14:=ep hs1 g1 4 rfl
 have hb:Gr w ((w.alloc (Obj.cells (kv n p v s m) 176)).alloc (Obj.cells (kv n' p' v' s' m') 176)):=((Gr.refl _).alloc _).alloc _
 generalize ((w.alloc (Obj.cells (kv n p v s m) 176)).alloc (Obj.cells (kv n' p' v' s' m') 176))=w2 at *
 clear hs0 hs1 g0 g1
 go_quiet_grown (first|(exact Calls.grown_of (Gh _ _ _ _ _ _))|(exact Calls.grown_of (vn _ _ _ _ _ _ _)))
 have HB:=Law.sY hb
 clear hb k00 k01 k02 k03 k04 k10 k11 k12 k13 k14
 go_wp2
 go_ret
 refine⟨rfl,?_⟩
 obtain⟨q,os,rfl⟩:=HB.out
 exact⟨q+nq,os ++ osq,by show grow (grow ((w.drewN q).drewN nq) os) osq=_;rw [grow_grow,World.drewN_drewN]⟩
end Go.Proofs.YtakebkfhigadiaaGreat.CcX
namespace Go.Proofs.YtakebkfhigadiaaGreat.SoC
open Go Go.Shelf Go.RowKit Go.Lib Go.Sort Ry SoG CcX EcX
abbrev SK:Sh:=.int .i64 (.int .i64 (.int .i64 (.int .i64 (.bool .nil))))
def iT (x:E):List Value:=[.int .i64 (ri x 0),.int .i64 (ri x 1),.int .i64 (ri x 2),.int .i64 (ri x 3),.bool (rb x 4)]
theorem Iu {G:Gm} {x:E} {us:List Value}:bf G SK x 0 us↔us=iT x:=by
 constructor
 ·rintro⟨u1,rfl,u2,rfl,u3,rfl,u4,rfl,u5,rfl,rfl⟩
  rfl
 ·rintro rfl
  exact⟨_,rfl,_,rfl,_,rfl,_,rfl,_,rfl,rfl⟩
def Wj (c1 c2:aW):aW:=fun xs h=>match c1 xs h with
 |some p=>some p
 |none=>c2 xs h
theorem Qf {P:Program} {f:FuncId} {c1 c2:aW} (h1:aC P f c1) (h2:aC P f c2):aC P f (Wj c1 c2):=by
 refine⟨h1.1,fun args h p hc=>?_⟩
 unfold Wj at hc
 split at hc
 ·rename_i q hq
  cases hc
  exact h1.2 args h _ hq
 ·exact h2.2 args h p hc
def RU (x y:E):Int:=mJ (min (ri x 0) (ri x 1)) (max (ri x 0) (ri x 1)) (ri x 2) (min (ri y 0) (ri y 1)) (max (ri y 0) (ri y 1)) (ri y 2)
def Tq (x y:E):Prop:=ri x 2 < ri y 2∨ri x 2=ri y 2∧(min (ri x 0) (ri x 1) < min (ri y 0) (ri y 1)∨min (ri x 0) (ri x 1)=min (ri y 0) (ri y 1)∧max (ri x 0) (ri x 1) < max (ri y 0) (ri y 1))
theorem Yk (x y:E):ltOf RU x y=true↔Tq x y:=by
 unfold ltOf RU
 rw [decide_eq_true_eq]
 exact JO _ _ _ _ _ _
theorem Ia (x y:E):ltOf RU x y=false↔¬Tq x y:=by
 rw [← Yk,Bool.not_eq_true]
def Xf:Kd where
 sh:=SK
 K:=5
 enc:=iT
 cf:=RU
 pos:=by decide
 size:=rfl
 len _:=rfl
 JX:=Iu
 jL x v hv:=by
  simp only [iT,List.mem_cons,List.not_mem_nil,or_false] at hv
  rcases hv with rfl|rfl|rfl|rfl|rfl <;> rfl
 swo:={
  irrefl:=fun x=>by
   rw [Ia]
   unfold Tq
   omega
  trans:=fun x y z h1 h2=>by
   rw [Yk] at *
   unfold Tq at *
   omega
  ntrans:=fun x y z h1 h2=>by
   rw [Ia] at *
   unfold Tq at *
   omega }
def Ur (l:List E):List E:=kN Xf l
theorem ku (g off cap:Nat) (l:List E) (w:World) (hH:HoldsK iT 5 w g off l.toArray) (hg:g < w.heap.size) (hl:l.length < 4611686018427387904) :
  Calls Tryz.prog 221 #[.slice (some ⟨g,off,none⟩) l.length cap,.func (.func 231) #[] #[]] w fun e w'=>e = .returned (.tuple #[])∧∃ n os,w' = sortWorldK iT 5 w g off n (Ur l).toArray os:=by
 have hc:CmpLays Tryz.prog 231 #[] iT 5 RU g off l.toArray.size w:=fun m os dk hs x y=>(Dl _ _ _ _ _ _ _ _ _ _ _).mono fun e w' ⟨he,hw⟩=>⟨he,hw⟩
 have h:=AnyQ.slices_SortFunc_eq Sl.AW 5 Tryz.isAgg176 Tryz.sizeOf176 iT (fun _=>rfl) (fun x v hv=>by simp [iT] at hv;rcases hv with rfl|rfl|rfl|rfl|rfl <;> rfl) RU Xf.swo 231 #[] g off cap l.toArray w (enters_of Tryz.func231 (by kernel_rfl) rfl) hc hH hg hl
 exact h.mono fun e w' ⟨he,n,os,hw⟩=>⟨he,n,os,hw⟩
structure Oc where
 kN:List E→List E
 ok:List E→Bool
def Oc.U:Oc:=⟨Ur,fun l=>decide (0 < l.length∧l.length≤1000000)⟩
def oa (F:Oc):aW:=fun xs h=>match xs,h with
 |[.one (.own 0),.one (.val (.func (.func 231) ⟨[]⟩ ⟨[]⟩))],[(0,.row 176 (.ae (.int .i64 (.int .i64 (.int .i64 (.int .i64 (.bool .nil))))) l))]=>some ⟨F.ok l=true,.bB [],[(0,.row 176 (.ae (.int .i64 (.int .i64 (.int .i64 (.int .i64 (.bool .nil))))) (F.kN l)))],[.one (.own 0),Any]⟩
 |_,_=>none
def tJ (_:Oc):aW:=fun xs h=>match xs,h with
 |[.one (.val (.slice none 0 0)),.one (.val (.func (.func 231) ⟨[]⟩ ⟨[]⟩))],[]=>some ⟨True,.bB [],[],[Any,Any]⟩
 |_,_=>none
theorem Ic:aC Tryz.prog 221 (oa Oc.U):=by
 refine Bi Xf (c:=231) (T:=176) (oa Oc.U) (fun l=>decide (0 < l.length∧l.length≤1000000)) (fun l h=>of_decide_eq_true h) (fun xs h p hp=>?_) ⟨_,Tryz.func221,rfl,by kernel_rfl⟩ ku
 unfold oa at hp
 split at hp
 ·rename_i l
  cases hp
  exact⟨l,rfl,rfl,rfl⟩
 ·cases hp
theorem HF:aC Tryz.prog 221 (tJ Oc.U):=by
 refine⟨⟨_,Tryz.func221,rfl,by kernel_rfl⟩,?_⟩
 intro args h p hp hC G vs hh hbs hm hv
 unfold tJ at hp
 split at hp
 ·cases hp
  match vs,hv with
  |[v0,v1],⟨hv0,_⟩ =>
   have hv0:v0 = .slice none 0 0:=hv0
   subst hv0
   refine (AnyF.slices_SortFunc_none Sl.AW none 0 v1 G.w).mono fun e w' ⟨he,hw⟩=>?_
   subst hw
   exact⟨_,G,he,rfl,rfl,hh,hm,⟨[],rfl,trivial⟩,trivial,trivial,trivial⟩
 ·cases hp
def sN (F:Oc):aW:=Wj (oa F) (tJ F)
theorem qA:aC Tryz.prog 221 (sN Oc.U):=Qf Ic HF
end Go.Proofs.YtakebkfhigadiaaGreat.SoC
