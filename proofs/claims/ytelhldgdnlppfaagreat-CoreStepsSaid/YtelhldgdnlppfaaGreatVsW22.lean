/-
  which views may be. No condition.
-/
import Derived.Shelf.SlSortCmp.QuietGrown
import Derived.Shelf.SlSortCmp.NoneTotal
import Derived.Test.YtelhldgdnlppfaaGreatVsW21
import Derived.Test.YtelhldgdnlppfaaGreatVsViR
set_option maxRecDepth 100000
set_option maxHeartbeats 8000000
set_option cbv.maxSteps 4000000
namespace Go.Proofs.YtelhldgdnlppfaaGreat.CcX
open Go.RowKit Law Cmp Go.Sort EcX
abbrev kv (n p w s:Int) (m:Bool):Array Value:=#[Value.int IntKind.i64 n,Value.int IntKind.i64 p,Value.int IntKind.i64 w,Value.int IntKind.i64 s,Value.bool m]
abbrev ev (a b c:Int):Array Value:=#[Value.int IntKind.i64 a,Value.int IntKind.i64 b,Value.int IntKind.i64 c]
theorem FH (w:World) (a b:Obj):((w.alloc a).alloc b).heap[w.heap.size+1]? = some b:=by
 have:=heap_alloc_new (w.alloc a) b;rw [World.size_alloc] at this;exact this
theorem TH (w:World) (a b:Obj):((w.alloc a).alloc b).heap[w.heap.size]? = some a:=by
 have:=heap_alloc_new w a;show ((w.alloc a).heap.push b)[w.heap.size]? = _;rw [Array.getElem?_push_lt (by rw [World.size_alloc];omega),← Array.getElem?_eq_getElem];exact this
theorem LD (n p v s:Int) (m:Bool) (w:World):Calls Tryz.prog 170 #[.agg (kv n p v s m)] w
  fun e w'=>e = .returned (.agg (ev (min n p) (max n p) v))∧Gr w w':=by
 go_enter Tryz.func170,Tryz.ntmps170
 go_wp2
 refine bodyPost_ret (results_cell_row rfl _ _ (w.heap.size+1) 183 (ev (min n p) (max n p) v) (0,0) _ rfl (FH _ _ _) Tryz.underlying183 rfl (by kernel_rfl)) rfl ?_;exact⟨rfl,((Gr.refl _).alloc _).alloc _⟩
theorem fP {w:World} {b:Nat} {T:TypeId} {cs:Array Value} (hb:b < w.heap.size) (hg:w.heap[b]? = some (.cells cs T (0,0))) (j:Nat) {v:Value} (hv:cs[j]? = some v) (n:Nat) (os:Array Obj) :
  (grow (w.drewN n) os).cell? ⟨b,j,none⟩=some v :=
 cell_grown hb (by rw [cell_of_row w b j cs T (0,0) hg];exact hv) n os
theorem Jn (n p v s:Int) (m:Bool) (n' p' v' s' : Int) (m' : Bool) (w:World):Calls Tryz.prog 157 #[.agg (kv n p v s m),.agg (kv n' p' v' s' m')] w
  fun e w'=>e = .returned (.int .i64 (fX (min n p) (max n p) v (min n' p') (max n' p') v'))∧Gr w w':=by
 have mixed:Tryz.prog.follows .mixedOrders=true:=by kernel_rfl
 go_enter Tryz.func157,Tryz.ntmps157
 go_wp2
 have hs0:w.heap.size < ((w.alloc (Obj.cells (kv n p v s m) 94)).alloc (Obj.cells (kv n' p' v' s' m') 94)).heap.size:=by rw [World.size_alloc,World.size_alloc];omega
 have hs1:w.heap.size+1 < ((w.alloc (Obj.cells (kv n p v s m) 94)).alloc (Obj.cells (kv n' p' v' s' m') 94)).heap.size:=by rw [World.size_alloc,World.size_alloc];omega
 have g0:=TH w (Obj.cells (kv n p v s m) 94) (Obj.cells (kv n' p' v' s' m') 94);have g1:=FH w (Obj.cells (kv n p v s m) 94) (Obj.cells (kv n' p' v' s' m') 94);have k00:=fP hs0 g0 0 rfl;have k01:=fP hs0 g0 1 rfl;have k02:=fP hs0 g0 2 rfl;have k03:=fP hs0 g0 3 rfl;have k04:=fP hs0 g0 4 rfl;have k10:=fP hs1 g1 0 rfl;have k11:=fP hs1 g1 1 rfl;have k12:=fP hs1 g1 2 rfl;have k13:=fP hs1 g1 3 rfl;have k14:=fP hs1 g1 4 rfl;have hb:Gr w ((w.alloc (Obj.cells (kv n p v s m) 94)).alloc (Obj.cells (kv n' p' v' s' m') 94)):=((Gr.refl _).alloc _).alloc _;generalize ((w.alloc (Obj.cells (kv n p v s m) 94)).alloc (Obj.cells (kv n' p' v' s' m') 94))=w2 at *;clear hs0 hs1 g0 g1
 go_quiet_grown (first|(exact Calls.grown_of (LD _ _ _ _ _ _))|(exact Calls.grown_of (Bn _ _ _ _ _ _ _)))
 have HB:=Law.yL hb;clear hb k00 k01 k02 k03 k04 k10 k11 k12 k13 k14
 go_wp2
 go_ret
 refine⟨rfl,?_⟩;obtain⟨q,os,rfl⟩:=HB.out;exact⟨q+nq,os ++ osq,by show grow (grow ((w.drewN q).drewN nq) os) osq=_;rw [grow_grow,World.drewN_drewN]⟩
end Go.Proofs.YtelhldgdnlppfaaGreat.CcX
namespace Go.Proofs.YtelhldgdnlppfaaGreat.SoC
open Go Go.Shelf Go.RowKit Go.Lib Go.Sort Ry SoG CcX EcX
abbrev SK:Sh:=.int .i64 (.int .i64 (.int .i64 (.int .i64 (.bool .nil))))
def lr (x:E):List Value:=[.int .i64 (ri x 0),.int .i64 (ri x 1),.int .i64 (ri x 2),.int .i64 (ri x 3),.bool (rb x 4)]
theorem MB {G:Gm} {x:E} {us:List Value}:aZ G SK x 0 us↔us=lr x:=by
 constructor
 ·rintro⟨u1,rfl,u2,rfl,u3,rfl,u4,rfl,u5,rfl,rfl⟩;rfl
 ·rintro rfl;exact⟨_,rfl,_,rfl,_,rfl,_,rfl,_,rfl,rfl⟩
def orC (c1 c2:aO):aO:=fun xs h=>match c1 xs h with
 |some p=>some p
 |none=>c2 xs h
theorem aaf {P:Program} {f:FuncId} {c1 c2:aO} (h1:au P f c1) (h2:au P f c2):au P f (orC c1 c2):=by
 refine⟨h1.1,fun args h p hc=>?_⟩;unfold orC at hc;split at hc
 ·rename_i q hq;cases hc;exact h1.2 args h _ hq
 ·exact h2.2 args h p hc
def cfC (x y:E):Int:=fX (min (ri x 0) (ri x 1)) (max (ri x 0) (ri x 1)) (ri x 2) (min (ri y 0) (ri y 1)) (max (ri y 0) (ri y 1)) (ri y 2)
def vj (x y:E):Prop:=ri x 2 < ri y 2∨ri x 2=ri y 2∧(min (ri x 0) (ri x 1) < min (ri y 0) (ri y 1)∨min (ri x 0) (ri x 1)=min (ri y 0) (ri y 1)∧max (ri x 0) (ri x 1) < max (ri y 0) (ri y 1))
theorem ltC (x y:E):ltOf cfC x y=true↔vj x y:=by
 unfold ltOf cfC;rw [decide_eq_true_eq];exact xN _ _ _ _ _ _
theorem EI (x y:E):ltOf cfC x y=false↔¬vj x y:=by
 rw [← ltC,Bool.not_eq_true]
def kdC:Kd where
 sh:=SK
 K:=5
 enc:=lr
 cf:=cfC
 pos:=by decide
 size:=rfl
 len _:=rfl
 Sn:=MB
 mq x v hv:=by
  simp only [lr,List.mem_cons,List.not_mem_nil,or_false] at hv;rcases hv with rfl|rfl|rfl|rfl|rfl <;> rfl
 swo:={
  irrefl:=fun x=>by
   rw [EI];unfold vj;omega
  trans:=fun x y z h1 h2=>by
   rw [ltC] at *;unfold vj at *;omega
  ntrans:=fun x y z h1 h2=>by
   rw [EI] at *;unfold vj at *;omega }
def dC (l:List E):List E:=ob kdC l
theorem jr (l:List E):(dC l).length=l.length∧(dC l).Perm l∧(dC l).Pairwise fun x y=>¬vj y x:=by
 obtain⟨a,b,c⟩:=mc kdC l;exact⟨a,b,c.imp fun {x y} h=>(EI y x).1 h⟩
theorem nM (g off cap:Nat) (l:List E) (w:World) (hH:HoldsK lr 5 w g off l.toArray) (hg:g < w.heap.size) (hl:l.length < 4611686018427387904) :
  Calls Tryz.prog 139 #[.slice (some ⟨g,off,none⟩) l.length cap,.func (.func 157) #[] #[]] w fun e w'=>e = .returned (.tuple #[])∧∃ n os,w' = sortWorldK lr 5 w g off n (dC l).toArray os:=by
 have hc:CmpLays Tryz.prog 157 #[] lr 5 cfC g off l.toArray.size w:=fun m os dk hs x y=>(Jn _ _ _ _ _ _ _ _ _ _ _).mono fun e w' ⟨he,hw⟩=>⟨he,hw⟩;have h:=AnyQ.slices_SortFunc_eq Sl.FB 5 Tryz.isAgg94 Tryz.sizeOf94 lr (fun _=>rfl) (fun x v hv=>by simp [lr] at hv;rcases hv with rfl|rfl|rfl|rfl|rfl <;> rfl) cfC kdC.swo 157 #[] g off cap l.toArray w (enters_of Tryz.func157 (by kernel_rfl) rfl) hc hH hg hl;exact h.mono fun e w' ⟨he,n,os,hw⟩=>⟨he,n,os,hw⟩
structure Oc where
 ob:List E→List E
 ok:List E→Bool
def Oc.aa:Oc:=⟨dC,fun l=>decide (0 < l.length∧l.length≤1000000)⟩
def sI (F:Oc):aO:=fun xs h=>match xs,h with
 |[.one (.own 0),.one (.val (.func (.func 157) ⟨[]⟩ ⟨[]⟩))],[(0,.row 94 (.ae (.int .i64 (.int .i64 (.int .i64 (.int .i64 (.bool .nil))))) l))]=>some ⟨F.ok l=true,.cN [],[(0,.row 94 (.ae .bg (F.ob l)))],[.one (.own 0),Any]⟩
 |_,_=>none
def xB (_:Oc):aO:=fun xs h=>match xs,h with
 |[.one (.val (.slice none 0 0)),.one (.val (.func (.func 157) ⟨[]⟩ ⟨[]⟩))],[]=>some ⟨True,.cN [],[],[Any,Any]⟩
 |_,_=>none
theorem Qc:au Tryz.prog 139 (sI Oc.aa):=by
 refine HS kdC (c:=157) (T:=94) (sI Oc.aa) (fun l=>decide (0 < l.length∧l.length≤1000000)) (fun l h=>of_decide_eq_true h) (fun xs h p hp=>?_) ⟨_,Tryz.func139,rfl,by kernel_rfl⟩ nM;unfold sI at hp;split at hp
 ·rename_i l;cases hp;exact⟨l,rfl,rfl,rfl⟩
 ·cases hp
theorem MZ:au Tryz.prog 139 (xB Oc.aa):=by
 refine⟨⟨_,Tryz.func139,rfl,by kernel_rfl⟩,?_⟩;intro args h p hp hC G vs hh hbs hm hv;unfold xB at hp;split at hp
 ·cases hp
  match vs,hv with
  |[v0,v1],⟨hv0,_⟩ =>
   have hv0:v0 = .slice none 0 0:=hv0;subst hv0;refine (AnyF.slices_SortFunc_none Sl.FB none 0 v1 G.w).mono fun e w' ⟨he,hw⟩=>?_;subst hw;exact⟨_,G,he,rfl,rfl,hh,hm,⟨[],rfl,trivial⟩,trivial,trivial,trivial⟩
 ·cases hp
def Fv (F:Oc):aO:=orC (sI F) (xB F)
theorem uU:au Tryz.prog 139 (Fv Oc.aa):=aaf Qc MZ
end Go.Proofs.YtelhldgdnlppfaaGreat.SoC
namespace Go.Proofs.YtelhldgdnlppfaaGreat.ViC
open Go Ry Cmp ViR
structure Vc where
 aeX:List Int→List E→Int
 aep:List Int→List E→Bool
 aaS:List Int→List E→Bool
def Vc.aa:Vc:=⟨oU,aX,fun n l=>decide (n.length≤1000000∧l.length≤1000000)⟩
def sS (F:Vc):aO:=fun xs h=>match xs,h with
 |[.agg [.sl none (.ints .i64 v_n),.sl none (.ae (.int .i64 (.int .i64 (.int .i64 (.int .i64 (.bool .nil))))) v_l)]],[]=>some ⟨F.aaS v_n v_l=true,.sa (I (F.aeX v_n v_l)),[],[Any]⟩
 |_,_=>none
theorem dO:au Tryz.prog 129 (sS Vc.aa):=by
 have hfs:=(ak.cons ia (ak.cons NB (ak.cons qz (ak.cons Hw ak.nil rfl) rfl) rfl) rfl);refine aw hfs Tryz.func129 rfl rfl fun xs h p hp=>?_;unfold sS at hp;split at hp
 ·rename_i v_n v_l;cases hp;refine⟨av rfl,fun hC _=>?_⟩;dsimp only at hC;intro b gv;have hk:v_n.length≤1000000∧v_l.length≤1000000:=of_decide_eq_true hC;generalize hF:Vc.aa=F,hG0:ViR.Vs.aa=G0 at hC hfs ⊢;refine bu fun Z zq A hA L hL=>?_
  repeat' (first|(apply al zq;try dsimp only)|apply aS zq (af hL)|apply aq zq|refine aT rfl ?_|apply ai|refine ah rfl ?_|refine aR rfl ?_|exact aA|apply aB|refine aP fun _=>?_|refine aQ fun _=>?_|(constructor;cbv))
  subst hL;refine aJ (aN hfs) (ov v_n.length (okN v_n)) (aeT A v_n v_l) (allM v_n.length) (iR 10) ⟨0⟩ ?_ ?_ ?_
  ·exact all_zero _ _
  ·cbv
   repeat' (first|exact trivial|exact rfl|refine And.intro ?_ ?_)
  rintro⟨i⟩ hq O hO;obtain⟨e1,e2⟩:=gP hk.1 hq;have hst:=fun h=>eY hk.1 hq h;have hen:=fun h=>gO hq h;have hok:=fun h=>UT (n:=v_n) hq.1 h;have q0:=hq.1;have q1:=hq.2.1;dsimp only at q0 q1 hok;subst hA;generalize hA:Ar.aa=A;generalize hL:Lp _ _ _=L;refine az zq ?_
  repeat' (first|(apply al zq;try dsimp only)|apply aS zq (af hL)|apply aq zq|refine aT rfl ?_|apply ai|refine ah rfl ?_|refine aR rfl ?_|exact aA|apply aB|refine aP fun _=>?_|refine aQ fun _=>?_|(constructor;cbv))
  all_goals first|(show L _ _ _;skip)|(clear hL hfs zq Z hq;subst hA hF hG0 hO;simp only [Vc.aa,ViR.Vs.aa,Ar.aa] at *;first|assumption|(simp only [e1,e2] at *;try generalize (i - 1).toNat=m1 at *;try generalize i.toNat=k1 at *;grind [aj,oU,aX,dM]);done)
  rename_i hx;have hr:dM v_n=true:=by
   refine hen ?_;clear hL hfs zq Z hq hst hok hen e1 e2;subst hA hF hG0 hO;simp only [Ar.aa] at hx
   grind [aj]
  clear hx hst hok hen e1 e2;have hbs:=fun t=>qH hr t;subst hL;refine aJ (aN hfs) (ov v_l.length (okL v_n v_l)) (agp A v_n v_l) (allM v_l.length) (iR 36) ⟨0⟩ ?_ ?_ ?_
  ·exact all_zero _ _
  ·cbv
   repeat' (first|exact trivial|exact rfl|refine And.intro ?_ ?_)
  rintro⟨k⟩ hq2 O2 hO2;obtain⟨e1,e2⟩:=gP hk.2 hq2;have hst:=fun h=>eY hk.2 hq2 h;have hen:=fun h=>gO hq2 h;have hok:=fun h=>VF (n:=v_n) (l:=v_l) hq2.1 h;have k0:=hq2.1;have k1:=hq2.2.1;dsimp only at k0 k1 hok;subst hA;generalize hA:Ar.aa=A;generalize hL:Lp _ _ _=L;refine az zq ?_
  repeat' (first|(apply al zq;try dsimp only)|apply aS zq (af hL)|apply aq zq|refine aT rfl ?_|apply ai|refine ah rfl ?_|refine aR rfl ?_|exact aA|apply aB|refine aP fun _=>?_|refine aQ fun _=>?_|(constructor;cbv))
  all_goals (clear hL hfs zq Z hq hq2;subst hA hF hG0 hO hO2;simp only [Vc.aa,ViR.Vs.aa,Ar.aa] at *)
  all_goals (try assumption)
  all_goals (simp only [e1,e2] at *;try generalize (k - 1).toNat=m1 at *;try generalize k.toNat=k1 at *;grind [aj,oU,aX,JY])
 ·cases hp
def Dm (F:Vc):aO:=fun xs h=>match xs,h with
 |[.agg [.sl none (.ints .i64 v_n),.sl none (.ae (.int .i64 (.int .i64 (.int .i64 (.int .i64 (.bool .nil))))) v_l)]],[]=>some ⟨F.aaS v_n v_l=true,.sa (B (F.aep v_n v_l)),[],[Any]⟩
 |_,_=>none
theorem xI:au Tryz.prog 78 (Dm Vc.aa):=by
 have hfs:=(ak.cons fY (ak.cons DR (ak.cons Mm ak.nil rfl) rfl) rfl);refine aw hfs Tryz.func78 rfl rfl fun xs h p hp=>?_;unfold Dm at hp;split at hp
 ·rename_i v_n v_l;cases hp;refine⟨av rfl,fun hC _=>?_⟩;dsimp only at hC;intro b gv;have hk:v_n.length≤1000000∧v_l.length≤1000000:=of_decide_eq_true hC;generalize hF:Vc.aa=F,hG0:ViR.Vs.aa=G0 at hC hfs ⊢;refine bu fun Z zq A hA L hL=>?_
  repeat' (first|(apply al zq;try dsimp only)|apply aS zq (af hL)|apply aq zq|refine aT rfl ?_|apply ai|refine ah rfl ?_|refine aR rfl ?_|exact aA|apply aB|refine aP fun _=>?_|refine aQ fun _=>?_|(constructor;cbv))
  subst hL;refine aJ (aN hfs) (ov v_n.length (okN v_n)) (afH v_n v_l) (allM v_n.length) (iR 3) ⟨0⟩ ?_ ?_ ?_
  ·exact all_zero _ _
  ·cbv
   repeat' (first|exact trivial|exact rfl|refine And.intro ?_ ?_)
  rintro⟨i⟩ hq O hO;obtain⟨e1,e2⟩:=gP hk.1 hq;have hst:=fun h=>eY hk.1 hq h;have hen:=fun h=>gO hq h;have hok:=fun h=>UT (n:=v_n) hq.1 h;have q0:=hq.1;have q1:=hq.2.1;dsimp only at q0 q1 hok;subst hA;generalize hA:Ar.aa=A;generalize hL:Lp _ _ _=L;refine az zq ?_
  repeat' (first|(apply al zq;try dsimp only)|apply aS zq (af hL)|apply aq zq|refine aT rfl ?_|apply ai|refine ah rfl ?_|refine aR rfl ?_|exact aA|apply aB|refine aP fun _=>?_|refine aQ fun _=>?_|(constructor;cbv))
  all_goals first|(show L _ _ _;skip)|(clear hL hfs zq Z hq;subst hA hF hG0 hO;simp only [Vc.aa,ViR.Vs.aa,Ar.aa] at *;first|assumption|(simp only [e1,e2] at *;try generalize (i - 1).toNat=m1 at *;try generalize i.toNat=k1 at *;grind [aj,aX,dM]);done)
  rename_i hx;have hr:dM v_n=true:=by
   refine hen ?_;clear hL hfs zq Z hq hst hok hen e1 e2;subst hA hF hG0 hO;simp only [Ar.aa] at hx
   grind [aj]
  clear hx hst hok hen e1 e2;have hcn:=fun t=>xw hr t;subst hL;refine aJ (aN hfs) (ov v_l.length (okL v_n v_l)) (aeL v_n v_l) (allM v_l.length) (iR 4) ⟨0⟩ ?_ ?_ ?_
  ·exact all_zero _ _
  ·cbv
   repeat' (first|exact trivial|exact rfl|refine And.intro ?_ ?_)
  rintro⟨k⟩ hq2 O2 hO2;obtain⟨e1,e2⟩:=gP hk.2 hq2;have hst:=fun h=>eY hk.2 hq2 h;have hen:=fun h=>gO hq2 h;have hok:=fun h=>VF (n:=v_n) (l:=v_l) hq2.1 h;have k0:=hq2.1;have k1:=hq2.2.1;dsimp only at k0 k1 hok;subst hA;generalize hA:Ar.aa=A;generalize hL:Lp _ _ _=L;refine az zq ?_
  repeat' (first|(apply al zq;try dsimp only)|apply aS zq (af hL)|apply aq zq|refine aT rfl ?_|apply ai|refine ah rfl ?_|refine aR rfl ?_|exact aA|apply aB|refine aP fun _=>?_|refine aQ fun _=>?_|(constructor;cbv))
  all_goals (clear hL hfs zq Z hq hq2;subst hA hF hG0 hO hO2;simp only [Vc.aa,ViR.Vs.aa,Ar.aa] at *)
  all_goals (try assumption)
  all_goals (simp only [e1,e2] at *;try generalize (k - 1).toNat=m1 at *;try generalize k.toNat=k1 at *;grind [aj,aX,JY,QF])
 ·cases hp
end Go.Proofs.YtelhldgdnlppfaaGreat.ViC
