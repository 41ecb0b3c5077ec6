/-
  The library's sort,of elements of any shape,as a contract of the reckoner's: the row holds a permutation of what it held,sorted. No condition.
-/
import Derived.Shelf.SlSortCmp.WholeK
import Derived.Test.YtelhldgdnlppfaaGreatProg
import Derived.Test.YtelhldgdnlppfaaGreatVsW16
import Derived.StillTailTactics
import Derived.Test.YtelhldgdnlppfaaGreatVsW14
set_option maxRecDepth 20000
set_option maxHeartbeats 400000
namespace Go.Proofs.YtelhldgdnlppfaaGreat.Sl
open Go Go.Shelf Go.Proofs
def II:Go.Shelf.Ren:=⟨fun|6=>139|15=>165|14=>166|28=>187|29=>188|20=>189|21=>190|22=>191|23=>192|24=>193|25=>194|26=>195|27=>196|46=>210|47=>206|48=>207|49=>211|50=>212|57=>218|n=>n,fun|22=>27|24=>94|25=>180|3=>3|39=>149|0=>0|53=>228|55=>230|4=>4|46=>222|45=>221|50=>106|5=>5|9=>9|66=>245|70=>249|76=>259|77=>260|n=>n,fun|n=>n⟩
theorem FB:Go.Proofs.SlLaysF0.n6 Tryz.prog II:={
 mixed:=by kernel_rfl,
 f6:=⟨Tryz.f139.name,by decide,Tryz.func139.trans (congrArg some (by kernel_rfl))⟩,
 f14:=⟨Tryz.f166.name,by decide,Tryz.func166.trans (congrArg some (by kernel_rfl))⟩,
 f15:=Tryz.func165.trans (congrArg some (by kernel_rfl)),
 f20:=⟨Tryz.f189.name,by decide,Tryz.func189.trans (congrArg some (by kernel_rfl))⟩,
 f21:=⟨Tryz.f190.name,by decide,Tryz.func190.trans (congrArg some (by kernel_rfl))⟩,
 f22:=⟨Tryz.f191.name,by decide,Tryz.func191.trans (congrArg some (by kernel_rfl))⟩,
 f23:=⟨Tryz.f192.name,by decide,Tryz.func192.trans (congrArg some (by kernel_rfl))⟩,
 f24:=⟨Tryz.f193.name,by decide,Tryz.func193.trans (congrArg some (by kernel_rfl))⟩,
 f25:=⟨Tryz.f194.name,by decide,Tryz.func194.trans (congrArg some (by kernel_rfl))⟩,
 f26:=⟨Tryz.f195.name,by decide,Tryz.func195.trans (congrArg some (by kernel_rfl))⟩,
 f27:=⟨Tryz.f196.name,by decide,Tryz.func196.trans (congrArg some (by kernel_rfl))⟩,
 f28:=Tryz.func187.trans (congrArg some (by kernel_rfl)),
 f29:=Tryz.func188.trans (congrArg some (by kernel_rfl)),
 f46:=⟨Tryz.f210.name,by decide,Tryz.func210.trans (congrArg some (by kernel_rfl))⟩,
 f47:=Tryz.func206.trans (congrArg some (by kernel_rfl)),
 f48:=Tryz.func207.trans (congrArg some (by kernel_rfl)),
 f49:=⟨Tryz.f211.name,by decide,Tryz.func211.trans (congrArg some (by kernel_rfl))⟩,
 f50:=⟨Tryz.f212.name,by decide,Tryz.func212.trans (congrArg some (by kernel_rfl))⟩,
 f57:=⟨Tryz.f218.name,by decide,Tryz.func218.trans (congrArg some (by kernel_rfl))⟩,
 t0:=Tryz.underlying0,
 a0:=Tryz.isAgg0,
 z0:=Tryz.sizeOf0,
 v0:=Tryz.zeroValue0,
 t3:=Tryz.underlying3,
 a3:=Tryz.isAgg3,
 z3:=Tryz.sizeOf3,
 v3:=Tryz.zeroValue3,
 t4:=Tryz.underlying4,
 a4:=Tryz.isAgg4,
 z4:=Tryz.sizeOf4,
 v4:=Tryz.zeroValue4,
 t5:=Tryz.underlying5,
 a5:=Tryz.isAgg5,
 z5:=Tryz.sizeOf5,
 v5:=Tryz.zeroValue5,
 t9:=Tryz.underlying9,
 a9:=Tryz.isAgg9,
 z9:=Tryz.sizeOf9,
 v9:=Tryz.zeroValue9,
 t22:=Tryz.underlying27,
 a22:=Tryz.isAgg27,
 z22:=Tryz.sizeOf27,
 v22:=Tryz.zeroValue27,
 t25:=Tryz.underlying180,
 a25:=Tryz.isAgg180,
 z25:=Tryz.sizeOf180,
 v25:=Tryz.zeroValue180,
 t39:=Tryz.underlying149,
 a39:=Tryz.isAgg149,
 z39:=Tryz.sizeOf149,
 v39:=Tryz.zeroValue149,
 t45:=Tryz.underlying221,
 a45:=Tryz.isAgg221,
 z45:=Tryz.sizeOf221,
 v45:=Tryz.zeroValue221,
 t46:=Tryz.underlying222,
 a46:=Tryz.isAgg222,
 z46:=Tryz.sizeOf222,
 v46:=Tryz.zeroValue222,
 t50:=Tryz.underlying106,
 a50:=Tryz.isAgg106,
 z50:=Tryz.sizeOf106,
 v50:=Tryz.zeroValue106,
 t53:=Tryz.underlying228,
 a53:=Tryz.isAgg228,
 z53:=Tryz.sizeOf228,
 v53:=Tryz.zeroValue228,
 t55:=Tryz.underlying230,
 a55:=Tryz.isAgg230,
 z55:=Tryz.sizeOf230,
 v55:=Tryz.zeroValue230,
 t66:=Tryz.underlying245,
 a66:=Tryz.isAgg245,
 z66:=Tryz.sizeOf245,
 v66:=Tryz.zeroValue245,
 t70:=Tryz.underlying249,
 a70:=Tryz.isAgg249,
 z70:=Tryz.sizeOf249,
 v70:=Tryz.zeroValue249,
 t76:=Tryz.underlying259,
 a76:=Tryz.isAgg259,
 z76:=Tryz.sizeOf259,
 v76:=Tryz.zeroValue259,
 t77:=Tryz.underlying260,
 a77:=Tryz.isAgg260,
 z77:=Tryz.sizeOf260,
 v77:=Tryz.zeroValue260 }
end Go.Proofs.YtelhldgdnlppfaaGreat.Sl
namespace Go.Proofs.YtelhldgdnlppfaaGreat.EcX
open Go.RowKit Law Cmp Go.Sort
theorem lH {P:Program} {f:FuncId} {args:Array Value} {w:World} {v:Value} (h:Calls P f args w fun e w'=>e = .returned v∧w=w') :
  Calls P f args w fun e w'=>e = .returned v∧w' = w:=h.mono fun _ _ ⟨a,b⟩=>⟨a,b.symm⟩
theorem ZK {a b:Int} (h:a≠b):(a == b)=false:=by simpa using h
theorem Zv (a b c x y z:Int) (w:World):(Op.equalIn 10000 183 (.agg #[.int .i64 a,.int .i64 b,.int .i64 c]) (.agg #[.int .i64 x,.int .i64 y,.int .i64 z])).run Tryz.prog w = .ok (a == x && (b == y && c == z)) w:=by
 cases h:a == x
 ·cases h' : b == y
  ·go_simp
  ·go_simp
 ·cases h' : b == y
  ·go_simp
  ·by_cases h2:c=z
   ·subst h2
    go_simp
   ·have h3:(c == z)=false:=ZK h2
    go_simp
def fX (a b c x y z:Int):Int:=iZ [iK c z,iK a x,iK b y]
theorem xN (a b c x y z:Int):(fX a b c x y z < 0)↔(c < z∨c=z∧(a < x∨a=x∧b < y)):=by
 unfold fX iZ iZ iZ iZ iK
 (repeat' split) <;> omega
theorem Bl (a b c x y z:Int):(fX a b c x y z=0)↔(a=x∧b=y∧c=z):=by
 unfold fX iZ iZ iZ iZ iK
 (repeat' split) <;> omega
theorem sZ (a b c x y z:Int):fX x y z a b c = - fX a b c x y z:=by
 unfold fX iZ iZ iZ iZ iK
 (repeat' split) <;> omega
def Gr (w w' : World):Prop:=∃ q os',w' = grow (w.drewN q) os'
theorem Gr.alloc {w w' : World} (h:Gr w w') (o:Obj):Gr w (w'.alloc o):=by
 obtain⟨q,os,rfl⟩:=h;exact⟨q,os ++ #[o],by rw [alloc_eq_grow,grow_grow]⟩
theorem Gr.drew {w w' : World} (h:Gr w w'):Gr w w'.drew:=by
 obtain⟨q,os,rfl⟩:=h;exact⟨q+1,os,rfl⟩
theorem Gr.refl (w:World):Gr w w:=⟨0,#[],by rw [grow_empty];rfl⟩
theorem DX (a b c x y z:Int) (w:World) (hne:(a == x && (b == y && c == z))=false):Calls Tryz.prog 175 #[.agg #[.int .i64 a,.int .i64 b,.int .i64 c],.agg #[.int .i64 x,.int .i64 y,.int .i64 z]] w
  fun e w'=>e = .returned (.int .i64 (fX a b c x y z))∧Gr w w':=by
 have he:=Zv a b c x y z;rw [hne] at he;clear hne
 go_enter Tryz.func175,Tryz.ntmps175
 go_wp2
 refine wp_region_still_tail 15 (by kernel_rfl) (by kernel_rfl) ?_;simp only [List.take_succ_cons,List.take_zero,List.drop_succ_cons,List.drop_zero];have hb:Gr w (((w.alloc (Obj.cells #[Value.int IntKind.i64 a,Value.int IntKind.i64 b,Value.int IntKind.i64 c] 183)).alloc (Obj.cells #[Value.int IntKind.i64 x,Value.int IntKind.i64 y,Value.int IntKind.i64 z] 183)).drew):=(((Gr.refl _).alloc _).alloc _).drew;have k00:(((w.alloc (Obj.cells #[Value.int IntKind.i64 a,Value.int IntKind.i64 b,Value.int IntKind.i64 c] 183)).alloc (Obj.cells #[Value.int IntKind.i64 x,Value.int IntKind.i64 y,Value.int IntKind.i64 z] 183)).drew).cell? ⟨w.heap.size,0,none⟩=some (.int .i64 a):=by go_simp
 have k01:(((w.alloc (Obj.cells #[Value.int IntKind.i64 a,Value.int IntKind.i64 b,Value.int IntKind.i64 c] 183)).alloc (Obj.cells #[Value.int IntKind.i64 x,Value.int IntKind.i64 y,Value.int IntKind.i64 z] 183)).drew).cell? ⟨w.heap.size,1,none⟩=some (.int .i64 b):=by go_simp
 have k02:(((w.alloc (Obj.cells #[Value.int IntKind.i64 a,Value.int IntKind.i64 b,Value.int IntKind.i64 c] 183)).alloc (Obj.cells #[Value.int IntKind.i64 x,Value.int IntKind.i64 y,Value.int IntKind.i64 z] 183)).drew).cell? ⟨w.heap.size,2,none⟩=some (.int .i64 c):=by go_simp
 have k10:(((w.alloc (Obj.cells #[Value.int IntKind.i64 a,Value.int IntKind.i64 b,Value.int IntKind.i64 c] 183)).alloc (Obj.cells #[Value.int IntKind.i64 x,Value.int IntKind.i64 y,Value.int IntKind.i64 z] 183)).drew).cell? ⟨w.heap.size+1,0,none⟩=some (.int .i64 x):=by go_simp
 have k11:(((w.alloc (Obj.cells #[Value.int IntKind.i64 a,Value.int IntKind.i64 b,Value.int IntKind.i64 c] 183)).alloc (Obj.cells #[Value.int IntKind.i64 x,Value.int IntKind.i64 y,Value.int IntKind.i64 z] 183)).drew).cell? ⟨w.heap.size+1,1,none⟩=some (.int .i64 y):=by go_simp
 have k12:(((w.alloc (Obj.cells #[Value.int IntKind.i64 a,Value.int IntKind.i64 b,Value.int IntKind.i64 c] 183)).alloc (Obj.cells #[Value.int IntKind.i64 x,Value.int IntKind.i64 y,Value.int IntKind.i64 z] 183)).drew).cell? ⟨w.heap.size+1,2,none⟩=some (.int .i64 z):=by go_simp
 change wpStill _ _ (World.drew _) (fun a'=>wpList _ _ _ _ a' (World.drew _)) _ _;generalize (((w.alloc (Obj.cells #[Value.int IntKind.i64 a,Value.int IntKind.i64 b,Value.int IntKind.i64 c] 183)).alloc (Obj.cells #[Value.int IntKind.i64 x,Value.int IntKind.i64 y,Value.int IntKind.i64 z] 183)).drew)=w2 at *
 repeat still_step
 still_call (lH (oN _ _ _))
 repeat still_step
 still_call (lH (oN _ _ _))
 repeat still_step
 still_call (lH (oN _ _ _))
 repeat still_step
 refine wpStill_nil ?_;have HB:=Law.yL hb;clear hb k00 k01 k02 k10 k11 k12
 go_wp2_with fail
 refine (Nu [iK c z,iK a x,iK b y] w2.heap.size _ (by simp) ?_).mono ?_
 ·intro i v hx
  match i,hx with
  |0,hx=>simp at hx;subst hx;go_simp
  |1,hx=>simp at hx;subst hx;go_simp
  |2,hx=>simp at hx;subst hx;go_simp
 rintro e w' ⟨rfl,rfl⟩
 go_wp2_with fail
 go_ret
 exact⟨rfl,HB.out.alloc _⟩
theorem xF (a b c:Int) (w:World):Calls Tryz.prog 175 #[.agg #[.int .i64 a,.int .i64 b,.int .i64 c],.agg #[.int .i64 a,.int .i64 b,.int .i64 c]] w
  fun e w'=>e = .returned (.int .i64 0)∧Gr w w':=by
 go_enter Tryz.func175,Tryz.ntmps175
 go_wp2
 go_ret
 exact⟨rfl,((Gr.refl _).alloc _).alloc _⟩
theorem Bn (a b c x y z:Int) (w:World):Calls Tryz.prog 175 #[.agg #[.int .i64 a,.int .i64 b,.int .i64 c],.agg #[.int .i64 x,.int .i64 y,.int .i64 z]] w
  fun e w'=>e = .returned (.int .i64 (fX a b c x y z))∧Gr w w':=by
 cases h:(a == x && (b == y && c == z))
 ·exact DX a b c x y z w h
 ·simp only [Bool.and_eq_true,beq_iff_eq] at h;obtain⟨rfl,rfl,rfl⟩:=h;rw [show fX a b c a b c=0 from (Bl a b c a b c).2 ⟨rfl,rfl,rfl⟩];exact xF a b c w
end Go.Proofs.YtelhldgdnlppfaaGreat.EcX
namespace Go.Proofs.YtelhldgdnlppfaaGreat.SoG
open Go Go.Shelf Go.RowKit Go.Lib Go.Sort Ry
structure Kd where
 sh:Sh
 K:Nat
 enc:E→List Value
 cf:E→E→Int
 pos:0 < K
 size:sh.size=K
 len:∀ x,(enc x).length=K
 Sn:∀ {G:Gm} {x:E} {us:List Value},aZ G sh x 0 us↔us=enc x
 mq:∀ x,∀ v∈enc x,v.oneCell' = true
 swo:SWO (ltOf cf)
variable (k:Kd)
def ob (l:List E):List E:=(pdq (ltOf k.cf) l.toArray 0 l.toArray.size (Lib.bitLen l.toArray.size) true true).toList
theorem mc (l:List E):(ob k l).length=l.length∧(ob k l).Perm l∧(ob k l).Pairwise fun x y=>ltOf k.cf y x=false:=by
 have h:=pdq_sorts (ltOf k.cf) k.swo l.toArray 0 l.toArray.size (Lib.bitLen l.toArray.size) true true (Nat.zero_le _) (Nat.le_refl _) (Or.inl rfl);obtain⟨⟨h1,_,h3⟩,h4⟩:=h;have hl:(ob k l).length=l.length:=by
  unfold ob;rw [Array.length_toList,h1];rfl
 refine⟨hl,?_,?_⟩
 ·have e1:∀ a:Array E,(a.extract 0 a.size).toList=a.toList:=fun a=>by rw [Array.extract_size]
  have e2:=e1 (pdq (ltOf k.cf) l.toArray 0 l.toArray.size (Lib.bitLen l.toArray.size) true true);rw [h1] at e2;rw [e1,e2] at h3;exact h3
 ·rw [List.pairwise_iff_getElem];intro i j hi hj hij;have h5:=h4 i j (Nat.zero_le _) hij (by rw [hl] at hj;exact hj);have g:∀ t (ht:t < (ob k l).length),(pdq (ltOf k.cf) l.toArray 0 l.toArray.size (Lib.bitLen l.toArray.size) true true)[t]! = (ob k l)[t]:=fun t ht=>by
   have ht' : t < (pdq (ltOf k.cf) l.toArray 0 l.toArray.size (Lib.bitLen l.toArray.size) true true).size:=by
    rw [h1];rw [hl] at ht;exact ht
   rw [getElem!_pos (pdq (ltOf k.cf) l.toArray 0 l.toArray.size (Lib.bitLen l.toArray.size) true true) t ht'];rfl
  rw [g i hi,g j hj] at h5;exact h5
theorem KU {α:Type} {L vs:List α} {s:Nat} (h:∀ t,t < vs.length→L[s+t]? = vs[t]?):(L.drop s).take vs.length=vs:=by
 apply List.ext_getElem?;intro t
 by_cases ht:t < vs.length
 ·rw [List.getElem?_take_of_lt ht,List.getElem?_drop,h t ht]
 ·rw [List.getElem?_eq_none (by rw [List.length_take];omega),List.getElem?_eq_none (by omega)]
theorem BY {α:Type} {L vs:List α} {s:Nat} (h:(L.drop s).take vs.length=vs):∀ t,t < vs.length→L[s+t]? = vs[t]?:=fun t ht=>by
 conv=>rhs;rw [← h]
 rw [List.getElem?_take_of_lt ht,List.getElem?_drop]
theorem HV {d:Array E} {t:Nat} (h:t < d.size * k.K):(flatK k.enc k.K d)[t]! = (k.enc d[t / k.K]!)[t % k.K]!:=get_flatK k.enc k.K d t h
theorem wB (d:Array E):(flatK k.enc k.K d).toList.length=d.toList.length * k.K∧∀ (i:Nat) (x:E),d.toList[i]? = some x→(((flatK k.enc k.K d).toList.drop (i * k.K)).take k.K)=k.enc x:=by
 refine⟨by rw [Array.length_toList,size_flatK,Array.length_toList],fun i x hx=>?_⟩;obtain⟨hi,rfl⟩:=List.getElem?_eq_some_iff.1 hx;rw [Array.length_toList] at hi;have hp:=k.pos;have key:=KU (L:=(flatK k.enc k.K d).toList) (vs:=k.enc d.toList[i]) (s:=i * k.K) fun t ht=>by
  rw [k.len] at ht;have hin:i * k.K+t < d.size * k.K:=Nat.lt_of_lt_of_le (Nat.add_lt_add_left ht _) (by rw [← Nat.succ_mul];exact Nat.mul_le_mul_right _ hi);have hlt:i * k.K+t < (flatK k.enc k.K d).size:=by rw [size_flatK];exact hin
  have h1:=HV k hin;have e1:(i * k.K+t) / k.K=i:=by rw [Nat.add_comm,Nat.add_mul_div_right _ _ hp,Nat.div_eq_of_lt ht,Nat.zero_add]
  have e2:(i * k.K+t) % k.K=t:=by rw [Nat.add_comm,Nat.add_mul_mod_self_right,Nat.mod_eq_of_lt ht]
  rw [e1,e2,getElem!_pos (flatK k.enc k.K d) (i * k.K+t) hlt,getElem!_pos d i hi] at h1;rw [Array.getElem?_toList,Array.getElem?_eq_getElem hlt,h1,getElem!_pos (k.enc d[i]) t (by rw [k.len];exact ht)];exact (List.getElem?_eq_getElem _).symm
 rw [k.len] at key;exact key
theorem IV (d:Array E):∀ u∈(flatK k.enc k.K d).toList,u.oneCell' = true:=by
 intro u hu;obtain⟨t,ht,rfl⟩:=List.getElem_of_mem hu;have hlt:t < (flatK k.enc k.K d).size:=ht;have h1:=HV k (d:=d) (t:=t) (by rw [size_flatK] at hlt;exact hlt);rw [getElem!_pos (flatK k.enc k.K d) t hlt] at h1;have e:(flatK k.enc k.K d).toList[t]=(flatK k.enc k.K d)[t]:=rfl;have hm:t % k.K < (k.enc d[t / k.K]!).length:=by rw [k.len];exact Nat.mod_lt _ k.pos
 rw [e,h1,getElem!_pos (k.enc d[t / k.K]!) (t % k.K) hm];exact k.mq _ _ (List.getElem_mem hm)
theorem Sk {l:List E} {us:List Value} {G:Gm} (h:aV G (.ae k.sh l) us):us=(flatK k.enc k.K l.toArray).toList:=by
 obtain⟨h1,h2⟩:=h;rw [k.size] at h1;obtain⟨f1,f2⟩:=wB k l.toArray;have hp:=k.pos;apply List.ext_getElem?;intro t
 by_cases ht:t < l.length * k.K
 ·have hi:t / k.K < l.length:=by rw [Nat.div_lt_iff_lt_mul hp];exact ht
  have hx:l[t / k.K]? = some l[t / k.K]:=List.getElem?_eq_getElem hi;have a1:=k.Sn.1 (h2 _ _ hx);have a2:=f2 (t / k.K) l[t / k.K] hx;rw [k.size] at a1;have b1:=BY (L:=us) (vs:=k.enc l[t / k.K]) (s:=t / k.K * k.K) (by rw [k.len];exact a1) (t % k.K) (by rw [k.len];exact Nat.mod_lt _ hp);have b2:=BY (L:=(flatK k.enc k.K l.toArray).toList) (vs:=k.enc l[t / k.K]) (s:=t / k.K * k.K) (by rw [k.len];exact a2) (t % k.K) (by rw [k.len];exact Nat.mod_lt _ hp);have e:t / k.K * k.K+t % k.K=t:=by rw [Nat.mul_comm];exact Nat.div_add_mod t k.K
  rw [e] at b1 b2;rw [b1,b2]
 ·rw [List.getElem?_eq_none (by omega),List.getElem?_eq_none (by rw [f1];simp only;omega)]
theorem holds_of {w:World} {g:Nat} {l:List E} {pre us rest:List Value} {e:TypeId} (hg:w.heap[g]? = some (.cells (pre ++ (us ++ rest)).toArray e (0,0))) (hu:us=(flatK k.enc k.K l.toArray).toList):HoldsK k.enc k.K w g pre.length l.toArray:=by
 intro j hj;have hlt:j < us.length:=by
  rw [hu,Array.length_toList];exact hj
 have hju:us[j]? = some (flatK k.enc k.K l.toArray)[j]!:=by
  rw [hu,Array.getElem?_toList,Array.getElem?_eq_getElem hj,getElem!_pos (flatK k.enc k.K l.toArray) j hj]
 refine⟨?_,?_⟩
 ·unfold World.cell?;simp only [hg];rw [if_neg (by simp),List.getElem?_toArray,List.getElem?_append_right (by omega),Nat.add_sub_cancel_left,List.getElem?_append_left hlt];exact hju
 ·unfold World.frozen?;simp only [hg];simp
theorem Eh {w:World} {g n:Nat} {d:Array E} {pre us rest:List Value} {e:TypeId} {os:Array Obj} (hg:w.heap[g]? = some (.cells (pre ++ (us ++ rest)).toArray e (0,0))) (hu:us.length=d.size * k.K) :
  (sortWorldK k.enc k.K w g pre.length n d os).heap[g]? = some (.cells (pre ++ ((flatK k.enc k.K d).toList ++ rest)).toArray e (0,0))∧∀ b,b < w.heap.size→b≠g→(sortWorldK k.enc k.K w g pre.length n d os).heap[b]? = w.heap[b]?:=by
 have hlt:=cm hg;refine⟨?_,fun b hb hbg=>?_⟩
 ·unfold sortWorldK grow putRowK putRow mapBlock;simp only;rw [Array.getElem?_append_left (by rw [Array.size_modify];exact hlt),Array.getElem?_modify,if_pos rfl];show Option.map _ w.heap[g]? = _;rw [hg];simp only [Option.map_some,onCells]
  congr 2
  unfold putCells;apply Array.ext_getElem?;intro j;rw [Array.getElem?_mapIdx,List.getElem?_toArray,List.getElem?_toArray];have e2:(flatK k.enc k.K d).toList.length=us.length:=by rw [Array.length_toList,size_flatK,hu]
  by_cases hp:j < pre.length
  ·rw [List.getElem?_append_left hp,List.getElem?_append_left hp,List.getElem?_eq_getElem hp,Option.map_some,if_neg (by omega)]
  ·rw [List.getElem?_append_right (l₁:=pre) (l₂:=us ++ rest) (by omega),List.getElem?_append_right (l₁:=pre) (l₂:=(flatK k.enc k.K d).toList ++ rest) (by omega)]
   by_cases hk:j - pre.length < us.length
   ·have hk2:j - pre.length < (flatK k.enc k.K d).size:=by rw [size_flatK];omega
    rw [List.getElem?_append_left hk,List.getElem?_append_left (by rw [Array.length_toList];exact hk2),List.getElem?_eq_getElem hk,Option.map_some,if_pos ⟨by omega,by omega⟩,getElem!_pos (flatK k.enc k.K d) (j - pre.length) hk2,Array.getElem?_toList,Array.getElem?_eq_getElem hk2];rfl
   ·have hk2:¬j - pre.length < (flatK k.enc k.K d).size:=by rw [size_flatK];omega
    rw [List.getElem?_append_right (l₁:=us) (by omega),List.getElem?_append_right (l₁:=(flatK k.enc k.K d).toList) (by omega),e2];cases rest[j - pre.length - us.length]? with
    |none=>rfl
    |some v=>rw [Option.map_some,if_neg (by omega)]
 ·unfold sortWorldK grow putRowK putRow mapBlock;simp only;rw [Array.getElem?_append_left (by rw [Array.size_modify];exact hb),Array.getElem?_modify,if_neg (fun h=>hbg h.symm)];rfl
theorem HS {P:Program} {f c:FuncId} {T:TypeId} (bC:aO) (ok:List E→Bool) (hok:∀ l,ok l=true→0 < l.length∧l.length≤1000000)
  (hcon:∀ xs h p,bC xs h=some p→∃ l,xs=[.one (.own 0),.one (.val (.func (.func c) ⟨[]⟩ ⟨[]⟩))]∧h=[(0,.row T (.ae k.sh l))]∧p=⟨ok l=true,.cN [],[(0,.row T (.ae k.sh (ob k l)))],[.one (.own 0),Any]⟩)
  (hin : ∃ fn, P.funcs[f]? = some fn ∧ fn.body.isNone = false ∧ (fn.name == "runtime.NumGoroutine") = false)
  (calls:∀ (g off cap:Nat) (l:List E) (w:World),HoldsK k.enc k.K w g off l.toArray→g < w.heap.size→l.length < 4611686018427387904 →
   Calls P f #[.slice (some ⟨g,off,none⟩) l.length cap,.func (.func c) #[] #[]] w fun e w'=>e = .returned (.tuple #[])∧∃ n os,w' = sortWorldK k.enc k.K w g off n (ob k l).toArray os):au P f bC:=by
 refine⟨hin,?_⟩;intro args h p hp hC G vs hh hbs hm hv;obtain⟨l,rfl,rfl,rfl⟩:=hcon _ _ _ hp;have hk:=hok l hC
 match vs,hv with
 |[v0,v1],⟨hv0,fu,_⟩ =>
  have fu:v1 = .func (.func c) #[] #[]:=fu;subst fu;have hg0:ar G.h 0=some (.row T (.ae k.sh l)):=by rw [hh];rfl
  have hgn:∀ n,n≠0→ar G.h n=none:=fun n hn=>by
   rw [hh];have:bL 0 n=false:=by rw [← Bool.not_eq_true,jU];omega
   simp only [ar,this]
  obtain⟨_,hown⟩:=hv0;unfold bp at hown;rw [hg0] at hown;have hn:(Ct.ae k.sh l).n=l.length:=rfl;rcases hown with ⟨hz,_⟩ | ⟨g,off,cap,tt,kk,ho,rfl,hc1,hc2,hc3,hc4,hc5⟩
  ·omega
  rcases hm.jq 0 _ hg0 with ⟨hz,_⟩ | ⟨g',pre,us,rest,ho',hg,hf,h1⟩
  ·omega
  obtain⟨rfl,rfl⟩:g' = g∧off=pre.length:=by
   rw [ho] at ho';cases ho';exact⟨rfl,rfl⟩
  have hu:=Sk k hf;have hul:us.length=(ob k l).toArray.size * k.K:=by
   rw [hu,Array.length_toList,size_flatK];simp only [List.size_toArray,(mc k l).1]
  have hH:=holds_of k hg hu;refine (calls g' pre.length cap l G.w hH (cm hg) (by omega)).mono fun e w' ⟨he,n,os,hw⟩=>?_;obtain⟨p1,p2⟩:=Eh k (n:=n) (d:=(ob k l).toArray) (os:=os) hg hul;rw [← hw] at p1 p2;have hos:w'.os=G.w.os∧w'.tape=G.w.tape∧w'.output=G.w.output∧G.w.heap.size≤w'.heap.size:=by
   rw [hw];refine⟨rfl,rfl,rfl,?_⟩;unfold sortWorldK;rw [Go.Sort.size_grow];unfold putRowK putRow mapBlock;simp only [Array.size_modify];exact Nat.le_add_right _ _
  refine⟨.tuple #[],⟨G.o,[(0,.row T (.ae k.sh (ob k l)))],G.bs,w'⟩,he,rfl,rfl,rfl,?_⟩;have hshp:ku G.w w':=by
   intro b x hx;unfold World.shape? at hx ⊢
   by_cases e:b=g'
   ·subst e;rw [hg] at hx;rw [p1];have e2:(flatK k.enc k.K (ob k l).toArray).toList.length=us.length:=by rw [Array.length_toList,size_flatK,hul]
    simpa [e2] using hx
   ·by_cases hb:b < G.w.heap.size
    ·rw [p2 b hb e];exact hx
    ·rw [Array.getElem?_eq_none (by omega)] at hx;cases hx
  have key:=du (G':=⟨G.o,[(0,.row T (.ae k.sh (ob k l)))],G.bs,w'⟩) hm (fun n=>n=0) rfl
   (fun n hn=>⟨by
    rw [hgn n hn];have:bL 0 n=false:=by rw [← Bool.not_eq_true,jU];omega
    simp only [ar,this],rfl⟩)
   hos.1 hos.2.1 hos.2.2.1 hos.2.2.2
   (fun b hb hne=>p2 b hb fun hbg=>hne 0 pre.length rfl ⟨_,hg0,rfl⟩ (by rw [hbg];exact ho))
   (fun n b m j hn _ hob hj=>by
    subst hn;rw [ho] at hob;cases hob;unfold World.cell?;simp only;rw [p1,hg];simp only;rw [if_neg (by simp),if_neg (by simp),List.getElem?_toArray,List.getElem?_toArray,List.getElem?_append_left hj,List.getElem?_append_left hj])
   (fun n hn _ b m hob=>by
    subst hn;have hob:G.o 0=some (b,m):=hob;rw [ho] at hob;cases hob;exact⟨Nat.lt_of_lt_of_le (cm hg) hos.2.2.2,.inr ⟨0,pre.length,rfl,⟨_,hg0,rfl⟩,ho,Nat.le_refl _⟩⟩)
   (fun n n' hn hn' _ _ _ _ _ _ _=>by rw [hn,hn'])
   (fun n hn q hq=>by
    subst hn;rw [hg0] at hq;cases hq;exact⟨.row T (.ae k.sh (ob k l)),rfl,fun _=>⟨rfl,rfl,(mc k l).1⟩⟩)
   (fun n hn q hq _=>by
    subst hn;have hq:some (fk.row T (.ae k.sh (ob k l)))=some q:=hq;cases hq;obtain⟨f1,f2⟩:=wB k (ob k l).toArray;exact .inr ⟨g',pre,(flatK k.enc k.K (ob k l).toArray).toList,rest,ho,p1,⟨by rw [k.size];exact f1,fun i x hx=>k.Sn.2 (by rw [k.size];exact f2 i x hx)⟩,IV k _⟩)
   hshp
  refine⟨key.2,⟨[],rfl,trivial⟩,⟨⟨_,_,_,rfl⟩,?_⟩,trivial,trivial⟩;unfold bp;refine .inr ⟨g',pre.length,cap,tt,kk,ho,(congrArg (fun n=>Value.slice (some ⟨g',pre.length,none⟩) n cap) (mc k l).1).symm,Nat.le_trans (Nat.le_of_eq (mc k l).1) hc1,hc2,hshp _ _ hc3,hc4,hc5⟩
end Go.Proofs.YtelhldgdnlppfaaGreat.SoG
