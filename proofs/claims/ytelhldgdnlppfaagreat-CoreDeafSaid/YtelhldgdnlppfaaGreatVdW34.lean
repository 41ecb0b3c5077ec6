/-
  The library's sort at this seat's types: its functions' texts are those that the library's contracts were proved yz. No condition.
-/
import Derived.Test.YtelhldgdnlppfaaGreatVdW14
import Derived.Test.YtelhldgdnlppfaaGreatVdW16
import Derived.Test.YtelhldgdnlppfaaGreatVdW33
import Derived.Test.YtelhldgdnlppfaaGreatVdW21
import Derived.Shelf.Sort.Plain
import Derived.Test.YtelhldgdnlppfaaGreatProg
set_option maxHeartbeats 4000000
set_option maxRecDepth 100000
namespace Go.Proofs.YtelhldgdnlppfaaGreat.CtK
open Go Ry
open GwK (iI iF)
def dg (q:List E):List E:=q.flatMap fun x=>rr x 0
structure XC where
 i:Int
 s:Int
structure XD where
 i:Int
 o:List E
theorem BH (l:List E) (j:Nat) (h:j < l.length):l.getD j []=l[j]:=by rw [List.getD_eq_getElem?_getD,List.getElem?_eq_getElem h];rfl
theorem jU (q:List E) (i:Int) (h0:0≤i) (h:i < q.length):dg (q.take (i+1).toNat)=dg (q.take i.toNat) ++ rr (q.getD i.toNat []) 0:=by
 have e:(i+1).toNat=i.toNat+1:=by omega
 have hi:i.toNat < q.length:=by omega
 rw [e,List.take_add_one,BH _ _ hi,List.getElem?_eq_getElem hi]
 unfold dg
 rw [List.flatMap_append]
 simp
theorem eu (q:List E) (k:Nat):(dg (q.take k)).length≤(dg q).length:=by
 conv=>rhs;rw [← List.take_append_drop k q]
 unfold dg
 rw [List.flatMap_append,List.length_append]
 omega
def UH (q:List E) (y:XC):Prop:=0≤y.i∧y.i≤q.length∧y.s=(dg (q.take y.i.toNat)).length
def Pf (q:List E) (y:XC):Nat:=q.length - y.i.toNat
def Vk (q:List E) (y:XD):Prop:=0≤y.i∧y.i≤q.length∧y.o=dg (q.take y.i.toNat)
def PD (q:List E) (y:XD):Nat:=q.length - y.i.toNat
noncomputable def c1I (A:Ar) (q:List E) (y:XC):St:=cg Tryz.f137.ntmps [(0,.sl none (.ah (.ah (.int .i64 (.int .i64 (.int .i64 (.int .i64 (.bool .nil))))) .nil) q)),(3,.val (.int .i64 y.s)),(9,.sl none (.ah (.ah (.int .i64 (.int .i64 (.int .i64 (.int .i64 (.bool .nil))))) .nil) q)),(10,.val (.int .i64 (A.dK q))),(11,.val (.int .i64 y.i))] [] [Any]
def c1R (st:St):XC:=⟨bQ st 11,bQ st 3⟩
noncomputable def c2I (A:Ar) (q:List E) (y:XD):St:=cg Tryz.f137.ntmps [(6,.sl (some (1,94)) (.ah (.int .i64 (.int .i64 (.int .i64 (.int .i64 (.bool .nil))))) y.o)),(25,.sl none (.ah (.ah (.int .i64 (.int .i64 (.int .i64 (.int .i64 (.bool .nil))))) .nil) q)),(26,.val (.int .i64 (A.dK q))),(27,.val (.int .i64 y.i))] [(1,.tok)] [Any]
def c2R (st:St):XD:=⟨bQ st 27,ctR (match kE st 6 with | .sl _ c=>c|_=>.ah .nil [])⟩
theorem wq {q:List E} (hl:q.length≤1000) (hc:(dg q).length≤1000000) {i s:Int} (hq:UH q ⟨i,s⟩):aN .add .i64 i 1=i+1∧0≤s∧s≤1000000∧(i < q.length→aN .add .i64 s ((rr (q.getD i.toNat []) 0).length:Int)=s+(rr (q.getD i.toNat []) 0).length∧0≤s+((rr (q.getD i.toNat []) 0).length:Int)∧(∀ t,Pf q ⟨i+1,t⟩ < Pf q ⟨i,s⟩)∧UH q ⟨i+1,s+(rr (q.getD i.toNat []) 0).length⟩):=by
 obtain⟨h0,h1,h2⟩:=hq
 simp only at h0 h1 h2
 have ht:=eu q i.toNat
 refine⟨by rw [bp,wr _ (by omega) (by omega)],by omega,by omega,fun h=>?_⟩
 have hn:=jU q i h0 h
 have ht2:=eu q (i+1).toNat
 rw [hn,List.length_append] at ht2
 refine⟨by rw [bp,wr _ (by omega) (by omega)],by omega,fun t=>by simp only [Pf];omega,by simp only;omega,by simp only;omega,?_⟩
 simp only
 rw [hn,List.length_append,h2]
 push_cast
 rfl
theorem xT {q:List E} (hl:q.length≤1000) (hc:(dg q).length≤1000000) {i:Int} {o:List E} (hq:Vk q ⟨i,o⟩):aN .add .i64 i 1=i+1∧o.length≤1000000∧(i < q.length→o.length+(rr (q.getD i.toNat []) 0).length≤1000000∧(∀ t,PD q ⟨i+1,t⟩ < PD q ⟨i,o⟩)∧Vk q ⟨i+1,o ++ rr (q.getD i.toNat []) 0⟩)∧(¬i < q.length→o=dg q):=by
 obtain⟨h0,h1,h2⟩:=hq
 simp only at h0 h1 h2
 have ht:=eu q i.toNat
 rw [← h2] at ht
 refine⟨by rw [bp,wr _ (by omega) (by omega)],by omega,fun h=>?_,fun h=>?_⟩
 ·have hn:=jU q i h0 h
  have ht2:=eu q (i+1).toNat
  rw [hn,List.length_append,← h2] at ht2
  refine⟨by omega,fun t=>by simp only [PD];omega,by simp only;omega,by simp only;omega,?_⟩
  simp only
  rw [hn,h2]
 ·have e:i=q.length:=by omega
  rw [e,Int.toNat_natCast,List.take_length] at h2
  exact h2
structure Cs where
 ub:List E→List E
 Cj:List E→Bool
 IU:List E→Bool
def Cs.U:Cs:=⟨dg,fun q=>decide (q.length≤1000∧(dg q).length≤1000000),fun q=>decide (q.length≤1000∧(dg q).length≤1000000∧0 < (dg q).length)⟩
def th (F:Cs):aZ:=fun xs h=>match xs,h with
 |[.one (.sl none (.ah (.ah (.int .i64 (.int .i64 (.int .i64 (.int .i64 (.bool .nil))))) .nil) q))],[]=>some ⟨F.Cj q=true,.sa (.one (.sl (some (0,94)) (.ah (.int .i64 (.int .i64 (.int .i64 (.int .i64 (.bool .nil))))) (F.ub q)))),[(0,.tok)],[Any]⟩
 |_,_=>none
theorem RM (q:List E) (hC:Cs.U.Cj q=true):aU [(163,iI GwK.Gf.U)] Tryz.f137 [.one (.sl none (.ah (.ah (.int .i64 (.int .i64 (.int .i64 (.int .i64 (.bool .nil))))) .nil) q))] [] ⟨Cs.U.Cj q=true,.sa (.one (.sl (some (0,94)) (.ah (.int .i64 (.int .i64 (.int .i64 (.int .i64 (.bool .nil))))) (Cs.U.ub q)))),[(0,.tok)],[Any]⟩:=by
 intro b gv
 have hk:q.length≤1000∧(dg q).length≤1000000:=of_decide_eq_true (show decide (q.length≤1000∧(dg q).length≤1000000)=true from hC)
 have hfs:=(af.cons iF af.nil rfl)
 generalize hF:Cs.U=F at hC hfs ⊢
 generalize hG0:GwK.Gf.U=G0 at hC hfs ⊢
 generalize hA:Ar.U=A
 generalize hL:Lp _ _ _=L
 obtain⟨Z,zq⟩:=aP
 refine aD (aa hL) zq rfl ?_
 repeat' (first|(refine ay zq ?_;try dsimp only)|refine ax zq ?_ (aa hL)|refine aw zq ?_|refine az ?_|refine av ?_|refine au ?_|refine aq ?_|refine ar rfl ?_|refine ai rfl ?_|refine aj rfl ?_|(refine Cd.mk ?_;cbv)|(refine aE.mk ?_;cbv)|(refine aJ.mk ?_;cbv)|exact trivial|refine And.intro ?_ ?_|refine bn fun _=>?_|refine bo fun _=>?_)
 subst hL
 refine aX (br hfs) (UH q) (c1I A q) (Pf q) c1R ⟨0,0⟩ ?_ ?_ ?_
 ·exact⟨Int.le_refl 0,Int.natCast_nonneg _,rfl⟩
 ·cbv
  repeat' (first|exact trivial|exact rfl|refine And.intro ?_ ?_)
 rintro⟨i,s⟩ hq O hO
 obtain⟨e1,q2,q3,hst⟩:=wq hk.1 hk.2 hq
 have q0:=hq.1
 have q1:=hq.2.1
 dsimp only at q0 q1
 subst hA
 generalize hA:Ar.U=A
 generalize hL:Lp _ _ _=L
 refine aO zq ?_
 repeat' (first|(refine ay zq ?_;try dsimp only)|refine ax zq ?_ (aa hL)|refine aw zq ?_|refine az ?_|refine av ?_|refine au ?_|refine aq ?_|refine ar rfl ?_|refine ai rfl ?_|refine aj rfl ?_|(refine Cd.mk ?_;cbv)|(refine aE.mk ?_;cbv)|(refine aJ.mk ?_;cbv)|exact trivial|refine And.intro ?_ ?_|refine bn fun _=>?_|refine bo fun _=>?_)
 all_goals first|(show L _ _ _;skip)|(clear hL hfs zq Z hq;subst hA hF hG0 hO;simp only [Cs.U,GwK.Gf.U,Ar.U] at * <;> grind [al];done)
 clear hst e1
 subst hL
 refine aX (br hfs) (Vk q) (c2I A q) (PD q) c2R ⟨0,[]⟩ ?_ ?_ ?_
 ·exact⟨Int.le_refl 0,Int.natCast_nonneg _,rfl⟩
 ·cbv
  repeat' (first|exact trivial|exact rfl|refine And.intro ?_ ?_)
 rintro⟨j,o⟩ hq2 O2 hO2
 obtain⟨e2,l2,hs2,he2⟩:=xT hk.1 hk.2 hq2
 have k0:=hq2.1
 have k1:=hq2.2.1
 dsimp only at k0 k1
 subst hA
 generalize hA:Ar.U=A
 generalize hL:Lp _ _ _=L
 refine aO zq ?_
 repeat' (first|(refine ay zq ?_;try dsimp only)|refine ax zq ?_ (aa hL)|refine aw zq ?_|refine az ?_|refine av ?_|refine au ?_|refine aq ?_|refine ar rfl ?_|refine ai rfl ?_|refine aj rfl ?_|(refine Cd.mk ?_;cbv)|(refine aE.mk ?_;cbv)|(refine aJ.mk ?_;cbv)|exact trivial|refine And.intro ?_ ?_|refine bn fun _=>?_|refine bo fun _=>?_)
 all_goals (clear hL hfs zq Z hq hq2;subst hA hF hG0 hO hO2;simp only [Cs.U,Ar.U,List.length_append] at * <;> grind [al])
theorem kJ:aA Tryz.prog 137 (th Cs.U):=by
 refine aG (af.cons iF af.nil rfl) Tryz.func137 rfl rfl fun xs h p hp=>?_
 unfold th at hp
 split at hp
 ·cases hp
  exact⟨aB rfl,fun hC _=>RM _ hC⟩
 ·cases hp
def nc (F:Cs):aZ:=fun xs h=>match xs,h with
 |[.one (.sl none (.ah (.ah (.int .i64 (.int .i64 (.int .i64 (.int .i64 (.bool .nil))))) .nil) q))],[]=>some ⟨F.IU q=true,.sa (.one (.own 0)),[(0,.row 94 (.ah (.int .i64 (.int .i64 (.int .i64 (.int .i64 (.bool .nil))))) (F.ub q)))],[Any]⟩
 |_,_=>none
theorem jI:aA Tryz.prog 137 (nc Cs.U):=by
 refine Thw.Dc kJ fun xs h p hp=>?_
 unfold nc at hp
 split at hp
 ·cases hp
  refine⟨rfl,_,_,_,_,rfl,rfl,fun hC=>?_,fun _ _ _ h=>h,fun _ _ _ _ vs _=>match vs with|[]=>trivial|_ :: _=>⟨trivial,trivial⟩⟩
  have hk:=of_decide_eq_true hC
  exact⟨decide_eq_true ⟨hk.1,hk.2.1⟩,hk.2.2⟩
 ·cases hp
end Go.Proofs.YtelhldgdnlppfaaGreat.CtK
namespace Go.Proofs.YtelhldgdnlppfaaGreat.VcX
open Go.RowKit Law Cmp Go.Sort EcX
def ZY (n p n' p' : Int):Int:=jt [iA n n',iA p p']
theorem Ur (n p n' p' : Int):(ZY n p n' p' < 0)↔(n < n'∨n=n'∧p < p'):=by
 unfold ZY jt jt jt iA
 (repeat' split) <;> omega
abbrev kv (n p w s:Int) (m:Bool):Array Value:=#[Value.int IntKind.i64 n,Value.int IntKind.i64 p,Value.int IntKind.i64 w,Value.int IntKind.i64 s,Value.bool m]
theorem GB (n p v s:Int) (m:Bool) (n' p' v' s' : Int) (m' : Bool) (w:World):Calls Tryz.prog 140 #[.agg (kv n p v s m),.agg (kv n' p' v' s' m')] w
  fun e w'=>e = .returned (.int .i64 (ZY n p n' p'))∧Gr w w':=by
 go_enter Tryz.func140,Tryz.ntmps140
 go_wp2
 refine wp_region_still_tail 10 (by kernel_rfl) (by kernel_rfl) ?_
 simp only [List.take_succ_cons,List.take_zero,List.drop_succ_cons,List.drop_zero]
 have hb:Gr w (((w.alloc (Obj.cells (kv n p v s m) 94)).alloc (Obj.cells (kv n' p' v' s' m') 94)).drew):=(((Gr.refl _).alloc _).alloc _).drew
 have k00:(((w.alloc (Obj.cells (kv n p v s m) 94)).alloc (Obj.cells (kv n' p' v' s' m') 94)).drew).cell? ⟨w.heap.size,0,none⟩=some (.int .i64 n):=by go_simp
 have k01:(((w.alloc (Obj.cells (kv n p v s m) 94)).alloc (Obj.cells (kv n' p' v' s' m') 94)).drew).cell? ⟨w.heap.size,1,none⟩=some (.int .i64 p):=by go_simp
 have k10:(((w.alloc (Obj.cells (kv n p v s m) 94)).alloc (Obj.cells (kv n' p' v' s' m') 94)).drew).cell? ⟨w.heap.size+1,0,none⟩=some (.int .i64 n'):=by go_simp
 have k11:(((w.alloc (Obj.cells (kv n p v s m) 94)).alloc (Obj.cells (kv n' p' v' s' m') 94)).drew).cell? ⟨w.heap.size+1,1,none⟩=some (.int .i64 p'):=by go_simp
 change wpStill _ _ (World.drew _) (fun a'=>wpList _ _ _ _ a' (World.drew _)) _ _
 generalize (((w.alloc (Obj.cells (kv n p v s m) 94)).alloc (Obj.cells (kv n' p' v' s' m') 94)).drew)=w2 at *
 repeat still_step
 still_call (kr (mT _ _ _))
 repeat still_step
 still_call (kr (mT _ _ _))
 repeat still_step
 refine wpStill_nil ?_
 have HB:=Law.xY hb;clear hb k00 k01 k10 k11
 go_wp2_with fail
 refine (Lo [iA n n',iA p p'] w2.heap.size _ (by simp) ?_).mono ?_
 ·intro i v hx
  match i,hx with
  |0,hx=>simp at hx;subst hx;go_simp
  |1,hx=>simp at hx;subst hx;go_simp
 rintro e w' ⟨rfl,rfl⟩
 go_wp2_with fail
 go_ret
 exact⟨rfl,HB.out.alloc _⟩
end Go.Proofs.YtelhldgdnlppfaaGreat.VcX
namespace Go.Proofs.YtelhldgdnlppfaaGreat.SoK
open Go Go.Shelf Go.RowKit Go.Lib Go.Sort Ry SoG VcX
abbrev SK:Sh:=.int .i64 (.int .i64 (.int .i64 (.int .i64 (.bool .nil))))
def kc (x:E):List Value:=[.int .i64 (ri x 0),.int .i64 (ri x 1),.int .i64 (ri x 2),.int .i64 (ri x 3),.bool (rb x 4)]
def Vz (x y:E):Int:=ZY (ri x 0) (ri x 1) (ri y 0) (ri y 1)
theorem ltV (x y:E):ltOf Vz x y=true↔ri x 0 < ri y 0∨ri x 0=ri y 0∧ri x 1 < ri y 1:=by
 unfold ltOf Vz
 rw [decide_eq_true_eq]
 exact Ur _ _ _ _
theorem Cu (x y:E):ltOf Vz x y=false↔¬(ri x 0 < ri y 0∨ri x 0=ri y 0∧ri x 1 < ri y 1):=by
 rw [← ltV,Bool.not_eq_true]
theorem Ki {G:Gm} {x:E} {us:List Value}:aY G SK x 0 us↔us=kc x:=by
 constructor
 ·rintro⟨u1,rfl,u2,rfl,u3,rfl,u4,rfl,u5,rfl,rfl⟩
  rfl
 ·rintro rfl
  exact⟨_,rfl,_,rfl,_,rfl,_,rfl,_,rfl,rfl⟩
def ZW:Kd where
 sh:=SK
 K:=5
 enc:=kc
 cf:=Vz
 pos:=by decide
 size:=rfl
 len _:=rfl
 Pj:=Ki
 kW x v hv:=by
  simp only [kc,List.mem_cons,List.not_mem_nil,or_false] at hv
  rcases hv with rfl|rfl|rfl|rfl|rfl <;> rfl
 swo:={
  irrefl:=fun x=>by
   rw [Cu]
   omega
  trans:=fun x y z h1 h2=>by
   rw [ltV] at *
   omega
  ntrans:=fun x y z h1 h2=>by
   rw [Cu] at *
   omega }
def kz (l:List E):List E:=mz ZW l
theorem ep (l:List E):(kz l).length=l.length∧(kz l).Perm l∧(kz l).Pairwise fun x y=>¬(ri y 0 < ri x 0∨ri y 0=ri x 0∧ri y 1 < ri x 1):=by
 obtain⟨a,b,c⟩:=kR ZW l
 exact⟨a,b,c.imp fun {x y} h=>(Cu y x).1 h⟩
theorem ml (g off cap:Nat) (l:List E) (w:World) (hH:HoldsK kc 5 w g off l.toArray) (hg:g < w.heap.size) (hl:l.length < 4611686018427387904) :
  Calls Tryz.prog 139 #[.slice (some ⟨g,off,none⟩) l.length cap,.func (.func 140) #[] #[]] w fun e w'=>e = .returned (.tuple #[])∧∃ n os,w' = sortWorldK kc 5 w g off n (kz l).toArray os:=by
 have hc:CmpLays Tryz.prog 140 #[] kc 5 Vz g off l.toArray.size w:=fun m os dk hs x y=>(GB _ _ _ _ _ _ _ _ _ _ _).mono fun e w' ⟨he,hw⟩=>⟨he,hw⟩
 have h:=AnyQ.slices_SortFunc_eq Sl.DS 5 Tryz.isAgg94 Tryz.sizeOf94 kc (fun _=>rfl) (fun x v hv=>by simp [kc] at hv;rcases hv with rfl|rfl|rfl|rfl|rfl <;> rfl) Vz ZW.swo 140 #[] g off cap l.toArray w (enters_of Tryz.func140 (by kernel_rfl) rfl) hc hH hg hl
 exact h.mono fun e w' ⟨he,n,os,hw⟩=>⟨he,n,os,hw⟩
structure Ok where
 mz:List E→List E
 ok:List E→Bool
def Ok.U:Ok:=⟨kz,fun l=>decide (0 < l.length∧l.length≤1000000)⟩
def ef (F:Ok):aZ:=fun xs h=>match xs,h with
 |[.one (.own 0),.one (.val (.func (.func 140) ⟨[]⟩ ⟨[]⟩))],[(0,.row 94 (.ah (.int .i64 (.int .i64 (.int .i64 (.int .i64 (.bool .nil))))) l))]=>some ⟨F.ok l=true,.bJ [],[(0,.row 94 (.ah (.int .i64 (.int .i64 (.int .i64 (.int .i64 (.bool .nil))))) (F.mz l)))],[.one (.own 0),Any]⟩
 |_,_=>none
theorem dz:aA Tryz.prog 139 (ef Ok.U):=by
 refine EB ZW (c:=140) (T:=94) (ef Ok.U) (fun l=>decide (0 < l.length∧l.length≤1000000)) (fun l h=>of_decide_eq_true h) (fun xs h p hp=>?_) ⟨_,Tryz.func139,rfl,by kernel_rfl⟩ ml
 unfold ef at hp
 split at hp
 ·rename_i l
  cases hp
  exact⟨l,rfl,rfl,rfl⟩
 ·cases hp
end Go.Proofs.YtelhldgdnlppfaaGreat.SoK
namespace Go.Proofs.YtelhldgdnlppfaaGreat.Sh
open Go Go.Shelf Go.Proofs
def FT:Go.Shelf.Ren:=⟨fun|189=>138|125=>165|257=>164|128=>187|129=>188|294=>179|295=>180|296=>181|297=>182|298=>183|299=>184|216=>177|300=>185|301=>186|328=>205|329=>206|330=>207|331=>208|332=>209|215=>131|343=>217|n=>n,fun|28=>26|3=>3|46=>149|0=>0|51=>228|53=>230|4=>4|183=>222|182=>221|131=>106|5=>5|9=>9|218=>245|222=>249|228=>259|229=>260|n=>n,fun|n=>n⟩
theorem QW:Go.Proofs.Lays.n189 Tryz.prog FT:={
 mixed:=by kernel_rfl,
 f125:=Tryz.func165.trans (congrArg some (by kernel_rfl)),
 f128:=Tryz.func187.trans (congrArg some (by kernel_rfl)),
 f129:=Tryz.func188.trans (congrArg some (by kernel_rfl)),
 f189:=Tryz.func138.trans (congrArg some (by kernel_rfl)),
 f215:=Tryz.func131.trans (congrArg some (by kernel_rfl)),
 f216:=Tryz.func177.trans (congrArg some (by kernel_rfl)),
 f257:=Tryz.func164.trans (congrArg some (by kernel_rfl)),
 f294:=Tryz.func179.trans (congrArg some (by kernel_rfl)),
 f295:=Tryz.func180.trans (congrArg some (by kernel_rfl)),
 f296:=Tryz.func181.trans (congrArg some (by kernel_rfl)),
 f297:=Tryz.func182.trans (congrArg some (by kernel_rfl)),
 f298:=Tryz.func183.trans (congrArg some (by kernel_rfl)),
 f299:=Tryz.func184.trans (congrArg some (by kernel_rfl)),
 f300:=Tryz.func185.trans (congrArg some (by kernel_rfl)),
 f301:=Tryz.func186.trans (congrArg some (by kernel_rfl)),
 f328:=Tryz.func205.trans (congrArg some (by kernel_rfl)),
 f329:=Tryz.func206.trans (congrArg some (by kernel_rfl)),
 f330:=Tryz.func207.trans (congrArg some (by kernel_rfl)),
 f331:=Tryz.func208.trans (congrArg some (by kernel_rfl)),
 f332:=Tryz.func209.trans (congrArg some (by kernel_rfl)),
 f343:=Tryz.func217.trans (congrArg some (by kernel_rfl)),
 t0:=Tryz.underlying0,
 a0:=Tryz.isAgg0,
 z0:=Tryz.sizeOf0,
 v0:=Tryz.zeroValue0,
 t3:=Tryz.underlying3,
 a3:=Tryz.isAgg3,
 z3:=Tryz.sizeOf3,
 v3:=Tryz.zeroValue3,
 t4:=Tryz.underlying4,
 a4:=Tryz.isAgg4,
 z4:=Tryz.sizeOf4,
 v4:=Tryz.zeroValue4,
 t5:=Tryz.underlying5,
 a5:=Tryz.isAgg5,
 z5:=Tryz.sizeOf5,
 v5:=Tryz.zeroValue5,
 t9:=Tryz.underlying9,
 a9:=Tryz.isAgg9,
 z9:=Tryz.sizeOf9,
 v9:=Tryz.zeroValue9,
 t28:=Tryz.underlying26,
 a28:=Tryz.isAgg26,
 z28:=Tryz.sizeOf26,
 v28:=Tryz.zeroValue26,
 t46:=Tryz.underlying149,
 a46:=Tryz.isAgg149,
 z46:=Tryz.sizeOf149,
 v46:=Tryz.zeroValue149,
 t51:=Tryz.underlying228,
 a51:=Tryz.isAgg228,
 z51:=Tryz.sizeOf228,
 v51:=Tryz.zeroValue228,
 t53:=Tryz.underlying230,
 a53:=Tryz.isAgg230,
 z53:=Tryz.sizeOf230,
 v53:=Tryz.zeroValue230,
 t131:=Tryz.underlying106,
 a131:=Tryz.isAgg106,
 z131:=Tryz.sizeOf106,
 v131:=Tryz.zeroValue106,
 t182:=Tryz.underlying221,
 a182:=Tryz.isAgg221,
 z182:=Tryz.sizeOf221,
 v182:=Tryz.zeroValue221,
 t183:=Tryz.underlying222,
 a183:=Tryz.isAgg222,
 z183:=Tryz.sizeOf222,
 v183:=Tryz.zeroValue222,
 t218:=Tryz.underlying245,
 a218:=Tryz.isAgg245,
 z218:=Tryz.sizeOf245,
 v218:=Tryz.zeroValue245,
 t222:=Tryz.underlying249,
 a222:=Tryz.isAgg249,
 z222:=Tryz.sizeOf249,
 v222:=Tryz.zeroValue249,
 t228:=Tryz.underlying259,
 a228:=Tryz.isAgg259,
 z228:=Tryz.sizeOf259,
 v228:=Tryz.zeroValue259,
 t229:=Tryz.underlying260,
 a229:=Tryz.isAgg260,
 z229:=Tryz.sizeOf260,
 v229:=Tryz.zeroValue260 }
end Go.Proofs.YtelhldgdnlppfaaGreat.Sh
