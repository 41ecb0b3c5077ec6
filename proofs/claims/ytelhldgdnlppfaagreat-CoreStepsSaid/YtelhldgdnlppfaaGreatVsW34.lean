/-
  The library's sorts of nothing: nothing turns. No condition.
-/
import Derived.Test.YtelhldgdnlppfaaGreatVsW14
import Derived.Test.YtelhldgdnlppfaaGreatVsW16
import Derived.Test.YtelhldgdnlppfaaGreatVsW33
import Derived.Test.YtelhldgdnlppfaaGreatVsW21
import Derived.Shelf.Sort.Plain
import Derived.Test.YtelhldgdnlppfaaGreatProg
import Derived.Shelf.SlSortCmp.NoneTotal
import Derived.Shelf.Slices.In.SortNone
import Derived.Test.YtelhldgdnlppfaaGreatVsW27
set_option maxHeartbeats 4000000
set_option maxRecDepth 100000
namespace Go.Proofs.YtelhldgdnlppfaaGreat.CtK
open Go Ry
open GwK (nj oe)
def dB (q:List E):List E:=q.flatMap fun x=>rr x 0
structure XC where
 i:Int
 s:Int
structure XD where
 i:Int
 o:List E
theorem Fb (l:List E) (j:Nat) (h:j < l.length):l.getD j []=l[j]:=by rw [List.getD_eq_getElem?_getD,List.getElem?_eq_getElem h];rfl
theorem lD (q:List E) (i:Int) (h0:0≤i) (h:i < q.length):dB (q.take (i+1).toNat)=dB (q.take i.toNat) ++ rr (q.getD i.toNat []) 0:=by
 have e:(i+1).toNat=i.toNat+1:=by omega
 have hi:i.toNat < q.length:=by omega
 rw [e,List.take_add_one,Fb _ _ hi,List.getElem?_eq_getElem hi];unfold dB;rw [List.flatMap_append];simp
theorem fa (q:List E) (k:Nat):(dB (q.take k)).length≤(dB q).length:=by
 conv=>rhs;rw [← List.take_append_drop k q]
 unfold dB;rw [List.flatMap_append,List.length_append];omega
def ZM (q:List E) (y:XC):Prop:=0≤y.i∧y.i≤q.length∧y.s=(dB (q.take y.i.toNat)).length
def QY (q:List E) (y:XC):Nat:=q.length - y.i.toNat
def Xb (q:List E) (y:XD):Prop:=0≤y.i∧y.i≤q.length∧y.o=dB (q.take y.i.toNat)
def Sz (q:List E) (y:XD):Nat:=q.length - y.i.toNat
noncomputable def c1I (A:Ar) (q:List E) (y:XC):St:=br Tryz.f137.ntmps [(0,.sl none (.ae (.ae .bg .nil) q)),(3,.ay y.s),(9,.sl none (.ae (.ae .bg .nil) q)),(10,.ay (A.dN q)),(11,.ay y.i)] [] [Any]
def c1R (st:St):XC:=⟨bw st 11,bw st 3⟩
noncomputable def c2I (A:Ar) (q:List E) (y:XD):St:=br Tryz.f137.ntmps [(6,.sl (some (1,94)) (.ae .bg y.o)),(25,.sl none (.ae (.ae .bg .nil) q)),(26,.ay (A.dN q)),(27,.ay y.i)] [(1,.tok)] [Any]
def c2R (st:St):XD:=⟨bw st 27,ZC (match fW st 6 with | .sl _ c=>c|_=>.ae .nil [])⟩
theorem yq {q:List E} (hl:q.length≤1000) (hc:(dB q).length≤1000000) {i s:Int} (hq:ZM q ⟨i,s⟩):aD .add .i64 i 1=i+1∧0≤s∧s≤1000000∧(i < q.length→aD .add .i64 s ((rr (q.getD i.toNat []) 0).length:Int)=s+(rr (q.getD i.toNat []) 0).length∧0≤s+((rr (q.getD i.toNat []) 0).length:Int)∧(∀ t,QY q ⟨i+1,t⟩ < QY q ⟨i,s⟩)∧ZM q ⟨i+1,s+(rr (q.getD i.toNat []) 0).length⟩):=by
 obtain⟨h0,h1,h2⟩:=hq;simp only at h0 h1 h2;have ht:=fa q i.toNat;refine⟨by rw [aW,wr _ (by omega) (by omega)],by omega,by omega,fun h=>?_⟩;have hn:=lD q i h0 h;have ht2:=fa q (i+1).toNat;rw [hn,List.length_append] at ht2;refine⟨by rw [aW,wr _ (by omega) (by omega)],by omega,fun t=>by simp only [QY];omega,by simp only;omega,by simp only;omega,?_⟩;simp only;rw [hn,List.length_append,h2]
 push_cast
 rfl
theorem zj {q:List E} (hl:q.length≤1000) (hc:(dB q).length≤1000000) {i:Int} {o:List E} (hq:Xb q ⟨i,o⟩):aD .add .i64 i 1=i+1∧o.length≤1000000∧(i < q.length→o.length+(rr (q.getD i.toNat []) 0).length≤1000000∧(∀ t,Sz q ⟨i+1,t⟩ < Sz q ⟨i,o⟩)∧Xb q ⟨i+1,o ++ rr (q.getD i.toNat []) 0⟩)∧(¬i < q.length→o=dB q):=by
 obtain⟨h0,h1,h2⟩:=hq;simp only at h0 h1 h2;have ht:=fa q i.toNat;rw [← h2] at ht;refine⟨by rw [aW,wr _ (by omega) (by omega)],by omega,fun h=>?_,fun h=>?_⟩
 ·have hn:=lD q i h0 h;have ht2:=fa q (i+1).toNat;rw [hn,List.length_append,← h2] at ht2;refine⟨by omega,fun t=>by simp only [Sz];omega,by simp only;omega,by simp only;omega,?_⟩;simp only;rw [hn,h2]
 ·have e:i=q.length:=by omega
  rw [e,Int.toNat_natCast,List.take_length] at h2;exact h2
structure Cs where
 Ci:List E→List E
 aau:List E→Bool
 PF:List E→Bool
def Cs.aa:Cs:=⟨dB,fun q=>decide (q.length≤1000∧(dB q).length≤1000000),fun q=>decide (q.length≤1000∧(dB q).length≤1000000∧0 < (dB q).length)⟩
def Ed (F:Cs):aO:=fun xs h=>match xs,h with
 |[.one (.sl none (.ae (.ae (.int .i64 (.int .i64 (.int .i64 (.int .i64 (.bool .nil))))) .nil) q))],[]=>some ⟨F.aau q=true,.sa (.one (.sl (some (0,94)) (.ae .bg (F.Ci q)))),[(0,.tok)],[Any]⟩
 |_,_=>none
theorem sN:au Tryz.prog 137 (Ed Cs.aa):=by
 have hfs:=(ak.cons oe ak.nil rfl);refine aw hfs Tryz.func137 rfl rfl fun xs h p hp=>?_;unfold Ed at hp;split at hp
 ·rename_i q;cases hp;refine⟨av rfl,fun hC _=>?_⟩;dsimp only at hC;intro b gv;have hk:q.length≤1000∧(dB q).length≤1000000:=of_decide_eq_true hC;generalize hF:Cs.aa=F,hG0:GwK.Gf.aa=G0 at hC hfs ⊢;refine bu fun Z zq A hA L hL=>?_
  repeat' (first|(apply al zq;try dsimp only)|apply aS zq (af hL)|apply aq zq|refine aT rfl ?_|apply ai|refine ah rfl ?_|refine aR rfl ?_|exact aA|apply aB|refine aP fun _=>?_|refine aQ fun _=>?_|(constructor;cbv))
  subst hL;refine aJ (aN hfs) (ZM q) (c1I A q) (QY q) c1R ⟨0,0⟩ ?_ ?_ ?_
  ·exact⟨Int.le_refl 0,Int.natCast_nonneg _,rfl⟩
  ·cbv
   repeat' (first|exact trivial|exact rfl|refine And.intro ?_ ?_)
  rintro⟨i,s⟩ hq O hO;obtain⟨e1,q2,q3,hst⟩:=yq hk.1 hk.2 hq;have q0:=hq.1;have q1:=hq.2.1;dsimp only at q0 q1;subst hA;generalize hA:Ar.aa=A;generalize hL:Lp _ _ _=L;refine az zq ?_
  repeat' (first|(apply al zq;try dsimp only)|apply aS zq (af hL)|apply aq zq|refine aT rfl ?_|apply ai|refine ah rfl ?_|refine aR rfl ?_|exact aA|apply aB|refine aP fun _=>?_|refine aQ fun _=>?_|(constructor;cbv))
  all_goals first|(show L _ _ _;skip)|(clear hL hfs zq Z hq;subst hA hF hG0 hO;simp only [Cs.aa,GwK.Gf.aa,Ar.aa] at * <;> grind [aj];done)
  clear hst e1;subst hL;refine aJ (aN hfs) (Xb q) (c2I A q) (Sz q) c2R ⟨0,[]⟩ ?_ ?_ ?_
  ·exact⟨Int.le_refl 0,Int.natCast_nonneg _,rfl⟩
  ·cbv
   repeat' (first|exact trivial|exact rfl|refine And.intro ?_ ?_)
  rintro⟨j,o⟩ hq2 O2 hO2;obtain⟨e2,l2,hs2,he2⟩:=zj hk.1 hk.2 hq2;have k0:=hq2.1;have k1:=hq2.2.1;dsimp only at k0 k1;subst hA;generalize hA:Ar.aa=A;generalize hL:Lp _ _ _=L;refine az zq ?_
  repeat' (first|(apply al zq;try dsimp only)|apply aS zq (af hL)|apply aq zq|refine aT rfl ?_|apply ai|refine ah rfl ?_|refine aR rfl ?_|exact aA|apply aB|refine aP fun _=>?_|refine aQ fun _=>?_|(constructor;cbv))
  all_goals (clear hL hfs zq Z hq hq2;subst hA hF hG0 hO hO2;simp only [Cs.aa,Ar.aa,List.length_append] at * <;> grind [aj])
 ·cases hp
def zb (F:Cs):aO:=fun xs h=>match xs,h with
 |[.one (.sl none (.ae (.ae (.int .i64 (.int .i64 (.int .i64 (.int .i64 (.bool .nil))))) .nil) q))],[]=>some ⟨F.PF q=true,.sa (.one (.own 0)),[(0,.row 94 (.ae .bg (F.Ci q)))],[Any]⟩
 |_,_=>none
theorem tF:au Tryz.prog 137 (zb Cs.aa):=by
 refine Thw.FJ sN fun xs h p hp=>?_;unfold zb at hp;split at hp
 ·cases hp;refine⟨rfl,_,_,_,_,rfl,rfl,fun hC=>?_,fun _ _ _ h=>h,fun _ _ _ _ vs _=>match vs with|[]=>trivial|_ :: _=>⟨trivial,trivial⟩⟩;have hk:=of_decide_eq_true hC;exact⟨decide_eq_true ⟨hk.1,hk.2.1⟩,hk.2.2⟩
 ·cases hp
end Go.Proofs.YtelhldgdnlppfaaGreat.CtK
namespace Go.Proofs.YtelhldgdnlppfaaGreat.VcX
open Go.RowKit Law Cmp Go.Sort EcX
def kcF (n p n' p' : Int):Int:=iZ [iK n n',iK p p']
theorem aar (n p n' p' : Int):(kcF n p n' p' < 0)↔(n < n'∨n=n'∧p < p'):=by
 unfold kcF iZ iZ iZ iK
 (repeat' split) <;> omega
abbrev kv (n p w s:Int) (m:Bool):Array Value:=#[Value.int IntKind.i64 n,Value.int IntKind.i64 p,Value.int IntKind.i64 w,Value.int IntKind.i64 s,Value.bool m]
theorem KH (n p v s:Int) (m:Bool) (n' p' v' s' : Int) (m' : Bool) (w:World):Calls Tryz.prog 140 #[.agg (kv n p v s m),.agg (kv n' p' v' s' m')] w
  fun e w'=>e = .returned (.int .i64 (kcF n p n' p'))∧Gr w w':=by
 go_enter Tryz.func140,Tryz.ntmps140
 go_wp2
 refine wp_region_still_tail 10 (by kernel_rfl) (by kernel_rfl) ?_;simp only [List.take_succ_cons,List.take_zero,List.drop_succ_cons,List.drop_zero];have hb:Gr w (((w.alloc (Obj.cells (kv n p v s m) 94)).alloc (Obj.cells (kv n' p' v' s' m') 94)).drew):=(((Gr.refl _).alloc _).alloc _).drew;have k00:(((w.alloc (Obj.cells (kv n p v s m) 94)).alloc (Obj.cells (kv n' p' v' s' m') 94)).drew).cell? ⟨w.heap.size,0,none⟩=some (.int .i64 n):=by go_simp
 have k01:(((w.alloc (Obj.cells (kv n p v s m) 94)).alloc (Obj.cells (kv n' p' v' s' m') 94)).drew).cell? ⟨w.heap.size,1,none⟩=some (.int .i64 p):=by go_simp
 have k10:(((w.alloc (Obj.cells (kv n p v s m) 94)).alloc (Obj.cells (kv n' p' v' s' m') 94)).drew).cell? ⟨w.heap.size+1,0,none⟩=some (.int .i64 n'):=by go_simp
 have k11:(((w.alloc (Obj.cells (kv n p v s m) 94)).alloc (Obj.cells (kv n' p' v' s' m') 94)).drew).cell? ⟨w.heap.size+1,1,none⟩=some (.int .i64 p'):=by go_simp
 change wpStill _ _ (World.drew _) (fun a'=>wpList _ _ _ _ a' (World.drew _)) _ _;generalize (((w.alloc (Obj.cells (kv n p v s m) 94)).alloc (Obj.cells (kv n' p' v' s' m') 94)).drew)=w2 at *
 repeat still_step
 still_call (lH (oN _ _ _))
 repeat still_step
 still_call (lH (oN _ _ _))
 repeat still_step
 refine wpStill_nil ?_;have HB:=Law.yL hb;clear hb k00 k01 k10 k11
 go_wp2_with fail
 refine (Nu [iK n n',iK p p'] w2.heap.size _ (by simp) ?_).mono ?_
 ·intro i v hx
  match i,hx with
  |0,hx=>simp at hx;subst hx;go_simp
  |1,hx=>simp at hx;subst hx;go_simp
 rintro e w' ⟨rfl,rfl⟩
 go_wp2_with fail
 go_ret
 exact⟨rfl,HB.out.alloc _⟩
end Go.Proofs.YtelhldgdnlppfaaGreat.VcX
namespace Go.Proofs.YtelhldgdnlppfaaGreat.SoK
open Go Go.Shelf Go.RowKit Go.Lib Go.Sort Ry SoG VcX
abbrev SK:Sh:=.int .i64 (.int .i64 (.int .i64 (.int .i64 (.bool .nil))))
def lr (x:E):List Value:=[.int .i64 (ri x 0),.int .i64 (ri x 1),.int .i64 (ri x 2),.int .i64 (ri x 3),.bool (rb x 4)]
def cfV (x y:E):Int:=kcF (ri x 0) (ri x 1) (ri y 0) (ri y 1)
theorem ltV (x y:E):ltOf cfV x y=true↔ri x 0 < ri y 0∨ri x 0=ri y 0∧ri x 1 < ri y 1:=by
 unfold ltOf cfV;rw [decide_eq_true_eq];exact aar _ _ _ _
theorem EZ (x y:E):ltOf cfV x y=false↔¬(ri x 0 < ri y 0∨ri x 0=ri y 0∧ri x 1 < ri y 1):=by
 rw [← ltV,Bool.not_eq_true]
theorem MB {G:Gm} {x:E} {us:List Value}:aZ G SK x 0 us↔us=lr x:=by
 constructor
 ·rintro⟨u1,rfl,u2,rfl,u3,rfl,u4,rfl,u5,rfl,rfl⟩;rfl
 ·rintro rfl;exact⟨_,rfl,_,rfl,_,rfl,_,rfl,_,rfl,rfl⟩
def kdV:Kd where
 sh:=SK
 K:=5
 enc:=lr
 cf:=cfV
 pos:=by decide
 size:=rfl
 len _:=rfl
 Sn:=MB
 mq x v hv:=by
  simp only [lr,List.mem_cons,List.not_mem_nil,or_false] at hv;rcases hv with rfl|rfl|rfl|rfl|rfl <;> rfl
 swo:={
  irrefl:=fun x=>by
   rw [EZ];omega
  trans:=fun x y z h1 h2=>by
   rw [ltV] at *;omega
  ntrans:=fun x y z h1 h2=>by
   rw [EZ] at *;omega }
def kM (l:List E):List E:=ob kdV l
theorem fg (l:List E):(kM l).length=l.length∧(kM l).Perm l∧(kM l).Pairwise fun x y=>¬(ri y 0 < ri x 0∨ri y 0=ri x 0∧ri y 1 < ri x 1):=by
 obtain⟨a,b,c⟩:=mc kdV l;exact⟨a,b,c.imp fun {x y} h=>(EZ y x).1 h⟩
theorem nM (g off cap:Nat) (l:List E) (w:World) (hH:HoldsK lr 5 w g off l.toArray) (hg:g < w.heap.size) (hl:l.length < 4611686018427387904) :
  Calls Tryz.prog 139 #[.slice (some ⟨g,off,none⟩) l.length cap,.func (.func 140) #[] #[]] w fun e w'=>e = .returned (.tuple #[])∧∃ n os,w' = sortWorldK lr 5 w g off n (kM l).toArray os:=by
 have hc:CmpLays Tryz.prog 140 #[] lr 5 cfV g off l.toArray.size w:=fun m os dk hs x y=>(KH _ _ _ _ _ _ _ _ _ _ _).mono fun e w' ⟨he,hw⟩=>⟨he,hw⟩;have h:=AnyQ.slices_SortFunc_eq Sl.FB 5 Tryz.isAgg94 Tryz.sizeOf94 lr (fun _=>rfl) (fun x v hv=>by simp [lr] at hv;rcases hv with rfl|rfl|rfl|rfl|rfl <;> rfl) cfV kdV.swo 140 #[] g off cap l.toArray w (enters_of Tryz.func140 (by kernel_rfl) rfl) hc hH hg hl;exact h.mono fun e w' ⟨he,n,os,hw⟩=>⟨he,n,os,hw⟩
structure Ok where
 ob:List E→List E
 ok:List E→Bool
def Ok.aa:Ok:=⟨kM,fun l=>decide (0 < l.length∧l.length≤1000000)⟩
def jG (F:Ok):aO:=fun xs h=>match xs,h with
 |[.one (.own 0),.one (.val (.func (.func 140) ⟨[]⟩ ⟨[]⟩))],[(0,.row 94 (.ae (.int .i64 (.int .i64 (.int .i64 (.int .i64 (.bool .nil))))) l))]=>some ⟨F.ok l=true,.cN [],[(0,.row 94 (.ae .bg (F.ob l)))],[.one (.own 0),Any]⟩
 |_,_=>none
theorem im:au Tryz.prog 139 (jG Ok.aa):=by
 refine HS kdV (c:=140) (T:=94) (jG Ok.aa) (fun l=>decide (0 < l.length∧l.length≤1000000)) (fun l h=>of_decide_eq_true h) (fun xs h p hp=>?_) ⟨_,Tryz.func139,rfl,by kernel_rfl⟩ nM;unfold jG at hp;split at hp
 ·rename_i l;cases hp;exact⟨l,rfl,rfl,rfl⟩
 ·cases hp
end Go.Proofs.YtelhldgdnlppfaaGreat.SoK
namespace Go.Proofs.YtelhldgdnlppfaaGreat.Sh
open Go Go.Shelf Go.Proofs
def IJ:Go.Shelf.Ren:=⟨fun|189=>138|125=>165|257=>164|128=>187|129=>188|294=>179|295=>180|296=>181|297=>182|298=>183|299=>184|216=>177|300=>185|301=>186|328=>205|329=>206|330=>207|331=>208|332=>209|215=>131|343=>217|n=>n,fun|28=>26|3=>3|46=>149|0=>0|51=>228|53=>230|4=>4|183=>222|182=>221|131=>106|5=>5|9=>9|218=>245|222=>249|228=>259|229=>260|n=>n,fun|n=>n⟩
theorem VG:Go.Proofs.Lays.n189 Tryz.prog IJ:={
 mixed:=by kernel_rfl,
 f125:=Tryz.func165.trans (congrArg some (by kernel_rfl)),
 f128:=Tryz.func187.trans (congrArg some (by kernel_rfl)),
 f129:=Tryz.func188.trans (congrArg some (by kernel_rfl)),
 f189:=Tryz.func138.trans (congrArg some (by kernel_rfl)),
 f215:=Tryz.func131.trans (congrArg some (by kernel_rfl)),
 f216:=Tryz.func177.trans (congrArg some (by kernel_rfl)),
 f257:=Tryz.func164.trans (congrArg some (by kernel_rfl)),
 f294:=Tryz.func179.trans (congrArg some (by kernel_rfl)),
 f295:=Tryz.func180.trans (congrArg some (by kernel_rfl)),
 f296:=Tryz.func181.trans (congrArg some (by kernel_rfl)),
 f297:=Tryz.func182.trans (congrArg some (by kernel_rfl)),
 f298:=Tryz.func183.trans (congrArg some (by kernel_rfl)),
 f299:=Tryz.func184.trans (congrArg some (by kernel_rfl)),
 f300:=Tryz.func185.trans (congrArg some (by kernel_rfl)),
 f301:=Tryz.func186.trans (congrArg some (by kernel_rfl)),
 f328:=Tryz.func205.trans (congrArg some (by kernel_rfl)),
 f329:=Tryz.func206.trans (congrArg some (by kernel_rfl)),
 f330:=Tryz.func207.trans (congrArg some (by kernel_rfl)),
 f331:=Tryz.func208.trans (congrArg some (by kernel_rfl)),
 f332:=Tryz.func209.trans (congrArg some (by kernel_rfl)),
 f343:=Tryz.func217.trans (congrArg some (by kernel_rfl)),
 t0:=Tryz.underlying0,
 a0:=Tryz.isAgg0,
 z0:=Tryz.sizeOf0,
 v0:=Tryz.zeroValue0,
 t3:=Tryz.underlying3,
 a3:=Tryz.isAgg3,
 z3:=Tryz.sizeOf3,
 v3:=Tryz.zeroValue3,
 t4:=Tryz.underlying4,
 a4:=Tryz.isAgg4,
 z4:=Tryz.sizeOf4,
 v4:=Tryz.zeroValue4,
 t5:=Tryz.underlying5,
 a5:=Tryz.isAgg5,
 z5:=Tryz.sizeOf5,
 v5:=Tryz.zeroValue5,
 t9:=Tryz.underlying9,
 a9:=Tryz.isAgg9,
 z9:=Tryz.sizeOf9,
 v9:=Tryz.zeroValue9,
 t28:=Tryz.underlying26,
 a28:=Tryz.isAgg26,
 z28:=Tryz.sizeOf26,
 v28:=Tryz.zeroValue26,
 t46:=Tryz.underlying149,
 a46:=Tryz.isAgg149,
 z46:=Tryz.sizeOf149,
 v46:=Tryz.zeroValue149,
 t51:=Tryz.underlying228,
 a51:=Tryz.isAgg228,
 z51:=Tryz.sizeOf228,
 v51:=Tryz.zeroValue228,
 t53:=Tryz.underlying230,
 a53:=Tryz.isAgg230,
 z53:=Tryz.sizeOf230,
 v53:=Tryz.zeroValue230,
 t131:=Tryz.underlying106,
 a131:=Tryz.isAgg106,
 z131:=Tryz.sizeOf106,
 v131:=Tryz.zeroValue106,
 t182:=Tryz.underlying221,
 a182:=Tryz.isAgg221,
 z182:=Tryz.sizeOf221,
 v182:=Tryz.zeroValue221,
 t183:=Tryz.underlying222,
 a183:=Tryz.isAgg222,
 z183:=Tryz.sizeOf222,
 v183:=Tryz.zeroValue222,
 t218:=Tryz.underlying245,
 a218:=Tryz.isAgg245,
 z218:=Tryz.sizeOf245,
 v218:=Tryz.zeroValue245,
 t222:=Tryz.underlying249,
 a222:=Tryz.isAgg249,
 z222:=Tryz.sizeOf249,
 v222:=Tryz.zeroValue249,
 t228:=Tryz.underlying259,
 a228:=Tryz.isAgg259,
 z228:=Tryz.sizeOf259,
 v228:=Tryz.zeroValue259,
 t229:=Tryz.underlying260,
 a229:=Tryz.isAgg260,
 z229:=Tryz.sizeOf260,
 v229:=Tryz.zeroValue260 }
end Go.Proofs.YtelhldgdnlppfaaGreat.Sh
namespace Go.Proofs.YtelhldgdnlppfaaGreat.SoI
open Go Go.Shelf Go.RowKit Go.Lib Go.Sort Go.Proofs Ry
def fR (l:List Int):List Int:=l.mergeSort fun x y=>decide (x≤y)
theorem cM (l:List Int):(fR l).length=l.length∧(fR l).Perm l∧(fR l).Pairwise (·≤·):=by
 unfold fR;refine⟨List.length_mergeSort _,List.mergeSort_perm _ _,?_⟩;have h:=List.pairwise_mergeSort (le:=fun x y:Int=>decide (x≤y)) (fun a b c h1 h2=>by simp at *;omega) (fun a b=>by simp;omega) l;exact h.imp fun {x y} k=>of_decide_eq_true k
theorem holds_of {w:World} {g:Nat} {l:List Int} {pre us rest:List Value} {e:TypeId} (hg:w.heap[g]? = some (.cells (pre ++ (us ++ rest)).toArray e (0,0))) (hu:us=l.map (Value.int .i64)):Holds (Value.int .i64) w g pre.length l.toArray:=by
 intro j hj;have hj:j < l.length:=hj;have hlt:j < us.length:=by rw [hu,List.length_map];exact hj
 have hju:us[j]? = some (Value.int .i64 l.toArray[j]!):=by
  rw [hu,List.getElem?_map,List.getElem?_eq_getElem hj,getElem!_pos l.toArray j hj];rfl
 refine⟨?_,?_⟩
 ·unfold World.cell?;simp only [hg];rw [if_neg (by simp),List.getElem?_toArray,List.getElem?_append_right (by omega),Nat.add_sub_cancel_left,List.getElem?_append_left hlt];exact hju
 ·unfold World.frozen?;simp only [hg];simp
theorem Eh {w:World} {g n:Nat} {d:List Int} {pre us rest:List Value} {e:TypeId} {os:Array Obj} (hg:w.heap[g]? = some (.cells (pre ++ (us ++ rest)).toArray e (0,0))) (hu:us.length=d.length) :
  (grow (putRow (Value.int .i64) (Sort.ahead w n) g pre.length d.toArray) os).heap[g]? = some (.cells (pre ++ (d.map (Value.int .i64) ++ rest)).toArray e (0,0))∧∀ b,b < w.heap.size→b≠g→(grow (putRow (Value.int .i64) (Sort.ahead w n) g pre.length d.toArray) os).heap[b]? = w.heap[b]?:=by
 have hlt:=cm hg;refine⟨?_,fun b hb hbg=>?_⟩
 ·unfold grow putRow mapBlock Sort.ahead;simp only;rw [Array.getElem?_append_left (by rw [Array.size_modify];exact hlt),Array.getElem?_modify,if_pos rfl];show Option.map _ w.heap[g]? = _;rw [hg];simp only [Option.map_some,onCells]
  congr 2
  unfold putCells;apply Array.ext_getElem?;intro j;rw [Array.getElem?_mapIdx,List.getElem?_toArray,List.getElem?_toArray];have e2:(d.map (Value.int .i64)).length=us.length:=by rw [List.length_map,hu]
  by_cases hp:j < pre.length
  ·rw [List.getElem?_append_left hp,List.getElem?_append_left hp,List.getElem?_eq_getElem hp,Option.map_some,if_neg (by omega)]
  ·rw [List.getElem?_append_right (l₁:=pre) (l₂:=us ++ rest) (by omega),List.getElem?_append_right (l₁:=pre) (l₂:=d.map (Value.int .i64) ++ rest) (by omega)]
   by_cases hk:j - pre.length < us.length
   ·have hk2:j - pre.length < d.length:=by omega
    rw [List.getElem?_append_left hk,List.getElem?_append_left (by rw [List.length_map];exact hk2),List.getElem?_eq_getElem hk,Option.map_some,if_pos ⟨by omega,by simp;omega⟩,List.getElem?_map,List.getElem?_eq_getElem hk2];simp [hk2]
   ·rw [List.getElem?_append_right (l₁:=us) (by omega),List.getElem?_append_right (l₁:=d.map (Value.int .i64)) (by omega),e2];cases rest[j - pre.length - us.length]? with
    |none=>rfl
    |some v=>rw [Option.map_some,if_neg (by simp;omega)]
 ·unfold grow putRow mapBlock Sort.ahead;simp only;rw [Array.getElem?_append_left (by rw [Array.size_modify];exact hb),Array.getElem?_modify,if_neg (fun h=>hbg h.symm)]
structure Oi where
 ob:List Int→List Int
 ok:List Int→Bool
def Oi.aa:Oi:=⟨fR,fun l=>decide (0 < l.length∧l.length≤1000000)⟩
def mb (F:Oi):aO:=fun xs h=>match xs,h with
 |[.one (.own 0)],[(0,.row 3 (.ints .i64 l))]=>some ⟨F.ok l=true,.cN [],[(0,.row 3 (.ints .i64 (F.ob l)))],[.one (.own 0)]⟩
 |_,_=>none
theorem gX:au Tryz.prog 138 (mb Oi.aa):=by
 refine⟨⟨_,Tryz.func138,rfl,by kernel_rfl⟩,?_⟩;intro args h p hp hC G vs hh hbs hm hv;unfold mb at hp;split at hp
 ·rename_i l;cases hp;have hk:0 < l.length∧l.length≤1000000:=of_decide_eq_true hC
  match vs,hv with
  |[v0],⟨hv0,_⟩ =>
   have hg0:ar G.h 0=some (.row 3 (.ints .i64 l)):=by rw [hh];rfl
   have hgn:∀ n,n≠0→ar G.h n=none:=fun n hn=>by
    rw [hh];have:bL 0 n=false:=by rw [← Bool.not_eq_true,jU];omega
    simp only [ar,this]
   obtain⟨_,hown⟩:=hv0;unfold bp at hown;rw [hg0] at hown;have hn:(Ct.ints .i64 l).n=l.length:=rfl;rcases hown with ⟨hz,_⟩ | ⟨g,off,cap,tt,kk,ho,rfl,hc1,hc2,hc3,hc4,hc5⟩
   ·omega
   rcases hm.jq 0 _ hg0 with ⟨hz,_⟩ | ⟨g',pre,us,rest,ho',hg,hf,h1⟩
   ·omega
   obtain⟨rfl,rfl⟩:g' = g∧off=pre.length:=by
    rw [ho] at ho';cases ho';exact⟨rfl,rfl⟩
   have hu:us=l.map (Value.int .i64):=hf;have hul:us.length=(fR l).length:=by rw [hu,List.length_map,(cM l).1]
   have hH:=holds_of hg hu;refine (Any.slices_Sort_int Sh.VG g' pre.length cap l G.w hH (cm hg) (by omega)).mono fun e w' ⟨he,n,os,hw⟩=>?_;obtain⟨p1,p2⟩:=Eh (n:=n) (d:=fR l) (os:=os) hg hul;have hw:w' = grow (putRow (Value.int .i64) (Sort.ahead G.w n) g' pre.length (fR l).toArray) os:=hw;rw [← hw] at p1 p2;have hos:w'.os=G.w.os∧w'.tape=G.w.tape∧w'.output=G.w.output∧G.w.heap.size≤w'.heap.size:=by
    rw [hw];refine⟨rfl,rfl,rfl,?_⟩;rw [Go.Sort.size_grow];unfold putRow mapBlock Sort.ahead;simp only [Array.size_modify];exact Nat.le_add_right _ _
   refine⟨.tuple #[],⟨G.o,[(0,.row 3 (.ints .i64 (fR l)))],G.bs,w'⟩,he,rfl,rfl,rfl,?_⟩;have hshp:ku G.w w':=by
    intro b x hx;unfold World.shape? at hx ⊢
    by_cases e:b=g'
    ·subst e;rw [hg] at hx;rw [p1];have e2:((fR l).map (Value.int .i64)).length=us.length:=by rw [List.length_map,hul]
     simpa [(cM l).1,hu] using hx
    ·by_cases hb:b < G.w.heap.size
     ·rw [p2 b hb e];exact hx
     ·rw [Array.getElem?_eq_none (by omega)] at hx;cases hx
   have key:=du (G':=⟨G.o,[(0,.row 3 (.ints .i64 (fR l)))],G.bs,w'⟩) hm (fun n=>n=0) rfl
    (fun n hn=>⟨by
     rw [hgn n hn];have:bL 0 n=false:=by rw [← Bool.not_eq_true,jU];omega
     simp only [ar,this],rfl⟩)
    hos.1 hos.2.1 hos.2.2.1 hos.2.2.2
    (fun b hb hne=>p2 b hb fun hbg=>hne 0 pre.length rfl ⟨_,hg0,rfl⟩ (by rw [hbg];exact ho))
    (fun n b m j hn _ hob hj=>by
     subst hn;rw [ho] at hob;cases hob;unfold World.cell?;simp only;rw [p1,hg];simp only;rw [if_neg (by simp),if_neg (by simp),List.getElem?_toArray,List.getElem?_toArray,List.getElem?_append_left hj,List.getElem?_append_left hj])
    (fun n hn _ b m hob=>by
     subst hn;have hob:G.o 0=some (b,m):=hob;rw [ho] at hob;cases hob;exact⟨Nat.lt_of_lt_of_le (cm hg) hos.2.2.2,.inr ⟨0,pre.length,rfl,⟨_,hg0,rfl⟩,ho,Nat.le_refl _⟩⟩)
    (fun n n' hn hn' _ _ _ _ _ _ _=>by rw [hn,hn'])
    (fun n hn q hq=>by
     subst hn;rw [hg0] at hq;cases hq;exact⟨.row 3 (.ints .i64 (fR l)),rfl,fun _=>⟨rfl,rfl,(cM l).1⟩⟩)
    (fun n hn q hq _=>by
     subst hn;have hq:some (fk.row 3 (.ints .i64 (fR l)))=some q:=hq;cases hq;exact .inr ⟨g',pre,(fR l).map (Value.int .i64),rest,ho,p1,rfl,fun u hu=>by obtain⟨x,_,rfl⟩:=List.mem_map.1 hu;rfl⟩)
    hshp
   refine⟨key.2,⟨[],rfl,trivial⟩,⟨⟨_,_,_,rfl⟩,?_⟩,trivial⟩;unfold bp;refine .inr ⟨g',pre.length,cap,tt,kk,ho,(congrArg (fun n=>Value.slice (some ⟨g',pre.length,none⟩) n cap) (cM l).1).symm,Nat.le_trans (Nat.le_of_eq (cM l).1) hc1,hc2,hshp _ _ hc3,hc4,hc5⟩
 ·cases hp
end Go.Proofs.YtelhldgdnlppfaaGreat.SoI
namespace Go.Proofs.YtelhldgdnlppfaaGreat.SoN
open Go Go.Shelf Go.RowKit Go.Lib Go.Sort Go.Proofs Ry
structure On where
 i0:List Int→Bool
 k0:List E→Bool
 si:List Int→List Int
 oi:List Int→Bool
 sk:List E→List E
 ok:List E→Bool
def On.aa:On:=⟨fun l=>decide (l.length=0),fun l=>decide (l.length=0),SoI.Oi.aa.ob,SoI.Oi.aa.ok,SoK.Ok.aa.ob,SoK.Ok.aa.ok⟩
def uW (F:On):aO:=fun xs h=>match xs,h with
 |[.one (.sl none (.ints .i64 l))],[]=>some ⟨F.i0 l=true,.cN [],[],[Any]⟩
 |_,_=>none
def ux (F:On):aO:=fun xs h=>match xs,h with
 |[.one (.sl none (.ae (.int .i64 (.int .i64 (.int .i64 (.int .i64 (.bool .nil))))) l)),.one (.val (.func (.func 140) ⟨[]⟩ ⟨[]⟩))],[]=>some ⟨F.k0 l=true,.cN [],[],[Any,Any]⟩
 |_,_=>none
theorem JM:au Tryz.prog 138 (uW On.aa):=by
 refine⟨⟨_,Tryz.func138,rfl,by kernel_rfl⟩,?_⟩;intro args h p hp hC G vs hh hbs hm hv;unfold uW at hp;split at hp
 ·rename_i l;cases hp;have hk:l.length=0:=of_decide_eq_true hC
  match vs,hv with
  |[v0],⟨⟨⟨A,c,hv0,_⟩,_⟩,_⟩ =>
   subst hv0;rw [hk];refine (Any.slices_Sort_int_none Sh.VG A c G.w).mono fun e w' ⟨he,hw⟩=>?_;subst hw;exact⟨_,G,he,rfl,rfl,hh,hm,⟨[],rfl,trivial⟩,trivial,trivial⟩
 ·cases hp
theorem JH:au Tryz.prog 139 (ux On.aa):=by
 refine⟨⟨_,Tryz.func139,rfl,by kernel_rfl⟩,?_⟩;intro args h p hp hC G vs hh hbs hm hv;unfold ux at hp;split at hp
 ·rename_i l;cases hp;have hk:l.length=0:=of_decide_eq_true hC
  match vs,hv with
  |[v0,v1],⟨⟨⟨A,c,hv0,_⟩,_⟩,_⟩ =>
   subst hv0;rw [hk];refine (AnyF.slices_SortFunc_none Sl.FB A c v1 G.w).mono fun e w' ⟨he,hw⟩=>?_;subst hw;exact⟨_,G,he,rfl,rfl,hh,hm,⟨[],rfl,trivial⟩,trivial,trivial,trivial⟩
 ·cases hp
def mb (F:On):aO:=uJ (SoI.mb ⟨F.si,F.oi⟩) (uW F)
theorem gX:au Tryz.prog 138 (mb On.aa):=AA SoI.gX JM
def jG (F:On):aO:=uJ (SoK.jG ⟨F.sk,F.ok⟩) (ux F)
theorem im:au Tryz.prog 139 (jG On.aa):=AA SoK.im JH
end Go.Proofs.YtelhldgdnlppfaaGreat.SoN
