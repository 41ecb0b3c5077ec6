/-
  What view.compare tells of two links,and what it makes of the world: draws and new blocks,nothing else. No condition.
-/
import Derived.Shelf.SlSortCmp.WholeK
import Derived.Test.YtakebkfhigadiaaGreatProg
import Derived.Test.YtakebkfhigadiaaGreatVnLaw
import Derived.Deep.QuietTactic
import Derived.BigQuiet
import Derived.BigFrame
import Derived.StillTailTactics
set_option maxHeartbeats 400000
set_option maxRecDepth 20000
namespace Go.Proofs.YtakebkfhigadiaaGreat.Sl
open Go Go.Shelf Go.Proofs
def BX:Go.Shelf.Ren:=⟨fun|6=>221|15=>237|14=>238|28=>257|29=>258|20=>259|21=>260|22=>261|23=>262|24=>263|25=>264|26=>265|27=>266|46=>280|47=>276|48=>277|49=>281|50=>282|57=>288|n=>n,fun|22=>34|24=>176|25=>291|3=>3|39=>169|0=>0|53=>230|55=>343|4=>4|46=>336|45=>335|50=>77|5=>5|9=>9|66=>360|70=>364|76=>374|77=>375|n=>n,fun|n=>n⟩
theorem AW:Go.Proofs.SlLaysF0.n6 Tryz.prog BX:={
 mixed:=by kernel_rfl,
 f6:=⟨Tryz.f221.name,by decide,Tryz.func221.trans (congrArg some (by kernel_rfl))⟩,
 f14:=⟨Tryz.f238.name,by decide,Tryz.func238.trans (congrArg some (by kernel_rfl))⟩,
 f15:=Tryz.func237.trans (congrArg some (by kernel_rfl)),
 f20:=⟨Tryz.f259.name,by decide,Tryz.func259.trans (congrArg some (by kernel_rfl))⟩,
 f21:=⟨Tryz.f260.name,by decide,Tryz.func260.trans (congrArg some (by kernel_rfl))⟩,
 f22:=⟨Tryz.f261.name,by decide,Tryz.func261.trans (congrArg some (by kernel_rfl))⟩,
 f23:=⟨Tryz.f262.name,by decide,Tryz.func262.trans (congrArg some (by kernel_rfl))⟩,
 f24:=⟨Tryz.f263.name,by decide,Tryz.func263.trans (congrArg some (by kernel_rfl))⟩,
 f25:=⟨Tryz.f264.name,by decide,Tryz.func264.trans (congrArg some (by kernel_rfl))⟩,
 f26:=⟨Tryz.f265.name,by decide,Tryz.func265.trans (congrArg some (by kernel_rfl))⟩,
 f27:=⟨Tryz.f266.name,by decide,Tryz.func266.trans (congrArg some (by kernel_rfl))⟩,
 f28:=Tryz.func257.trans (congrArg some (by kernel_rfl)),
 f29:=Tryz.func258.trans (congrArg some (by kernel_rfl)),
 f46:=⟨Tryz.f280.name,by decide,Tryz.func280.trans (congrArg some (by kernel_rfl))⟩,
 f47:=Tryz.func276.trans (congrArg some (by kernel_rfl)),
 f48:=Tryz.func277.trans (congrArg some (by kernel_rfl)),
 f49:=⟨Tryz.f281.name,by decide,Tryz.func281.trans (congrArg some (by kernel_rfl))⟩,
 f50:=⟨Tryz.f282.name,by decide,Tryz.func282.trans (congrArg some (by kernel_rfl))⟩,
 f57:=⟨Tryz.f288.name,by decide,Tryz.func288.trans (congrArg some (by kernel_rfl))⟩,
 t0:=Tryz.underlying0,
 a0:=Tryz.isAgg0,
 z0:=Tryz.sizeOf0,
 v0:=Tryz.zeroValue0,
 t3:=Tryz.underlying3,
 a3:=Tryz.isAgg3,
 z3:=Tryz.sizeOf3,
 v3:=Tryz.zeroValue3,
 t4:=Tryz.underlying4,
 a4:=Tryz.isAgg4,
 z4:=Tryz.sizeOf4,
 v4:=Tryz.zeroValue4,
 t5:=Tryz.underlying5,
 a5:=Tryz.isAgg5,
 z5:=Tryz.sizeOf5,
 v5:=Tryz.zeroValue5,
 t9:=Tryz.underlying9,
 a9:=Tryz.isAgg9,
 z9:=Tryz.sizeOf9,
 v9:=Tryz.zeroValue9,
 t22:=Tryz.underlying34,
 a22:=Tryz.isAgg34,
 z22:=Tryz.sizeOf34,
 v22:=Tryz.zeroValue34,
 t25:=Tryz.underlying291,
 a25:=Tryz.isAgg291,
 z25:=Tryz.sizeOf291,
 v25:=Tryz.zeroValue291,
 t39:=Tryz.underlying169,
 a39:=Tryz.isAgg169,
 z39:=Tryz.sizeOf169,
 v39:=Tryz.zeroValue169,
 t45:=Tryz.underlying335,
 a45:=Tryz.isAgg335,
 z45:=Tryz.sizeOf335,
 v45:=Tryz.zeroValue335,
 t46:=Tryz.underlying336,
 a46:=Tryz.isAgg336,
 z46:=Tryz.sizeOf336,
 v46:=Tryz.zeroValue336,
 t50:=Tryz.underlying77,
 a50:=Tryz.isAgg77,
 z50:=Tryz.sizeOf77,
 v50:=Tryz.zeroValue77,
 t53:=Tryz.underlying230,
 a53:=Tryz.isAgg230,
 z53:=Tryz.sizeOf230,
 v53:=Tryz.zeroValue230,
 t55:=Tryz.underlying343,
 a55:=Tryz.isAgg343,
 z55:=Tryz.sizeOf343,
 v55:=Tryz.zeroValue343,
 t66:=Tryz.underlying360,
 a66:=Tryz.isAgg360,
 z66:=Tryz.sizeOf360,
 v66:=Tryz.zeroValue360,
 t70:=Tryz.underlying364,
 a70:=Tryz.isAgg364,
 z70:=Tryz.sizeOf364,
 v70:=Tryz.zeroValue364,
 t76:=Tryz.underlying374,
 a76:=Tryz.isAgg374,
 z76:=Tryz.sizeOf374,
 v76:=Tryz.zeroValue374,
 t77:=Tryz.underlying375,
 a77:=Tryz.isAgg375,
 z77:=Tryz.sizeOf375,
 v77:=Tryz.zeroValue375 }
end Go.Proofs.YtakebkfhigadiaaGreat.Sl
namespace Go.Proofs.YtakebkfhigadiaaGreat.Cmp
open Go.RowKit Law
def lA (a b:Int):Int:=if a < b then -1 else if b < a then 1 else 0
theorem PM {a b:Int} (h:a < b):lA a b = -1:=by simp [lA,h]
theorem RG {a b:Int} (h:b < a):lA a b=1:=by simp [lA];omega
theorem IH {a b:Int} (h:a=b):lA a b=0:=by simp [lA];omega
theorem uv (a:Int) (w:World):Calls Tryz.prog 80 #[.int .i64 a] w fun e w'=>e = .returned (.bool false)∧w=w':=by
 go_enter Tryz.func80,Tryz.ntmps80
 go_wp2
 go_ret
 exact⟨by simp,rfl⟩
theorem lS (a b:Int) (w:World):Calls Tryz.prog 43 #[.int .i64 a,.int .i64 b] w fun e w'=>e = .returned (.int .i64 (lA a b))∧w=w':=by
 rcases Int.lt_trichotomy a b with h|h|h
 ·go_enter Tryz.func43,Tryz.ntmps43
  go_wp2_with (go_at_call 80;refine (uv _ _).mono ?_;rintro e w' ⟨rfl,rfl⟩)
  go_ret
  exact⟨lO (PM h).symm,rfl⟩
 ·have h1:=Law.sY h;clear h
  have h2:¬a < b:=by have:=h1.out;omega
  have h3:¬b < a:=by have:=h1.out;omega
  go_enter Tryz.func43,Tryz.ntmps43
  go_wp2_with (go_at_call 80;refine (uv _ _).mono ?_;rintro e w' ⟨rfl,rfl⟩)
  go_ret
  exact⟨lO (IH h1.out).symm,rfl⟩
 ·have h2:¬a < b:=by omega
  go_enter Tryz.func43,Tryz.ntmps43
  go_wp2_with (go_at_call 80;refine (uv _ _).mono ?_;rintro e w' ⟨rfl,rfl⟩)
  go_ret
  exact⟨lO (RG h).symm,rfl⟩
def kl:List Int→Int
 |[]=>0
 |x :: xs=>if x=0 then kl xs else x
theorem Ey (xs:List Int) (B:Nat) (w:World) (hn:xs.length≤1000) (hc:∀ i x,xs[i]? = some x→w.cell? ⟨B,i,none⟩=some (.int .i64 x)) :
  Calls Tryz.prog 198 #[.slice (some ⟨B,0,none⟩) xs.length xs.length] w fun e w'=>e = .returned (.int .i64 (kl xs))∧w=w':=by
 have HC:=Law.sY hc;clear hc
 go_enter Tryz.func198,Tryz.ntmps198
 go_wp2
 go_loop [8] (fun i=>∃ k:Nat,k≤xs.length∧i = .int .i64 k∧Hid (kl xs=kl (xs.drop k))) (fun i=>xs.length - (intOf i).toNat)
 case atStart=>exact⟨0,Nat.zero_le _,rfl,rfl⟩
 case round =>
  obtain⟨k,hk,rfl,ho⟩:=hrel
  by_cases hlt:k < xs.length
  ·have hx:xs[k]? = some xs[k]:=List.getElem?_eq_getElem hlt
   have hcell:=HC.out k _ hx
   have hd:xs.drop k=xs[k] :: xs.drop (k+1):=List.drop_eq_getElem_cons hlt
   have HX:=Law.sY hx;clear hx
   have HD:=Law.sY hd;clear hd
   generalize xs[k]=x at *
   by_cases h0:x=0
   ·subst h0
    go_wp2
    go_round
    case rel=>exact⟨k+1,by omega,by go_num,by rw [Hid,ho.out,HD.out];simp [kl]⟩
    case measure=>simp [intOf];omega
   ·have h1:(x == 0)=false:=by simpa using h0
    have h2:(x != 0)=true:=by simpa using h0
    have H0:=Law.sY h0;clear h0
    go_wp2
    go_ret
    exact⟨lO (by rw [ho.out,HD.out];simp [kl,H0.out]),rfl⟩
  ·have hk2:k=xs.length:=by omega
   have HK:=Law.sY hk2;clear hk2
   go_wp2
   go_ret
   exact⟨lO (by rw [ho.out,HK.out];simp [kl]),rfl⟩
end Go.Proofs.YtakebkfhigadiaaGreat.Cmp
namespace Go.Proofs.YtakebkfhigadiaaGreat.EcX
open Go.RowKit Law Cmp Go.Sort
theorem iY {P:Program} {f:FuncId} {args:Array Value} {w:World} {v:Value} (h:Calls P f args w fun e w'=>e = .returned v∧w=w') :
  Calls P f args w fun e w'=>e = .returned v∧w' = w:=h.mono fun _ _ ⟨a,b⟩=>⟨a,b.symm⟩
theorem Oj {a b:Int} (h:a≠b):(a == b)=false:=by simpa using h
theorem Rg (a b c x y z:Int) (w:World):(Op.equalIn 10000 325 (.agg #[.int .i64 a,.int .i64 b,.int .i64 c]) (.agg #[.int .i64 x,.int .i64 y,.int .i64 z])).run Tryz.prog w = .ok (a == x && (b == y && c == z)) w:=by
 cases h:a == x
 ·cases h' : b == y
  ·go_simp
  ·go_simp
 ·cases h' : b == y
  ·go_simp
  ·by_cases h2:c=z
   ·subst h2
    go_simp
   ·have h3:(c == z)=false:=Oj h2
    go_simp
def mJ (a b c x y z:Int):Int:=kl [lA c z,lA a x,lA b y]
theorem JO (a b c x y z:Int):(mJ a b c x y z < 0)↔(c < z∨c=z∧(a < x∨a=x∧b < y)):=by
 unfold mJ kl kl kl kl lA
 (repeat' split) <;> omega
theorem HR (a b c x y z:Int):(mJ a b c x y z=0)↔(a=x∧b=y∧c=z):=by
 unfold mJ kl kl kl kl lA
 (repeat' split) <;> omega
def Gr (w w' : World):Prop:=∃ q os',w' = grow (w.drewN q) os'
theorem Gr.alloc {w w' : World} (h:Gr w w') (o:Obj):Gr w (w'.alloc o):=by
 obtain⟨q,os,rfl⟩:=h
 exact⟨q,os ++ #[o],by rw [alloc_eq_grow,grow_grow]⟩
theorem Gr.drew {w w' : World} (h:Gr w w'):Gr w w'.drew:=by
 obtain⟨q,os,rfl⟩:=h
 exact⟨q+1,os,rfl⟩
theorem Gr.refl (w:World):Gr w w:=⟨0,#[],by rw [grow_empty];rfl⟩
theorem yf (a b c x y z:Int) (w:World) (hne:(a == x && (b == y && c == z))=false):Calls Tryz.prog 247 #[.agg #[.int .i64 a,.int .i64 b,.int .i64 c],.agg #[.int .i64 x,.int .i64 y,.int .i64 z]] w
  fun e w'=>e = .returned (.int .i64 (mJ a b c x y z))∧Gr w w':=by
 have he:=Rg a b c x y z
 rw [hne] at he
 clear hne
 go_enter Tryz.func247,Tryz.ntmps247
 go_wp2
 refine wp_region_still_tail 15 (by kernel_rfl) (by kernel_rfl) ?_
 simp only [List.take_succ_cons,List.take_zero,List.drop_succ_cons,List.drop_zero]
 have hb:Gr w (((w.alloc (Obj.cells #[Value.int IntKind.i64 a,Value.int IntKind.i64 b,Value.int IntKind.i64 c] 325)).alloc (Obj.cells #[Value.int IntKind.i64 x,Value.int IntKind.i64 y,Value.int IntKind.i64 z] 325)).drew):=(((Gr.refl _).alloc _).alloc _).drew
 have k00:(((w.alloc (Obj.cells #[Value.int IntKind.i64 a,Value.int IntKind.i64 b,Value.int IntKind.i64 c] 325)).alloc (Obj.cells #[Value.int IntKind.i64 x,Value.int IntKind.i64 y,Value.int IntKind.i64 z] 325)).drew).cell? ⟨w.heap.size,0,none⟩=some (.int .i64 a):=by go_simp
 have k01:(((w.alloc (Obj.cells #[Value.int IntKind.i64 a,Value.int IntKind.i64 b,Value.int IntKind.i64 c] 325)).alloc (Obj.cells #[Value.int IntKind.i64 x,Value.int IntKind.i64 y,Value.int IntKind.i64 z] 325)).drew).cell? ⟨w.heap.size,1,none⟩=some (.int .i64 b):=by go_simp
 have k02:(((w.alloc (Obj.cells #[Value.int IntKind.i64 a,Value.int IntKind.i64 b,Value.int IntKind.i64 c] 325)).alloc (Obj.cells #[Value.int IntKind.i64 x,Value.int IntKind.i64 y,Value.int IntKind.i64 z] 325)).drew).cell? ⟨w.heap.size,2,none⟩=some (.int .i64 c):=by go_simp
 have k10:(((w.alloc (Obj.cells #[Value.int IntKind.i64 a,Value.int IntKind.i64 b,Value.int IntKind.i64 c] 325)).alloc (Obj.cells #[Value.int IntKind.i64 x,Value.int IntKind.i64 y,Value.int IntKind.i64 z] 325)).drew).cell? ⟨w.heap.size+1,0,none⟩=some (.int .i64 x):=by go_simp
 have k11:(((w.alloc (Obj.cells #[Value.int IntKind.i64 a,Value.int IntKind.i64 b,Value.int IntKind.i64 c] 325)).alloc (Obj.cells #[Value.int IntKind.i64 x,Value.int IntKind.i64 y,Value.int IntKind.i64 z] 325)).drew).cell? ⟨w.heap.size+1,1,none⟩=some (.int .i64 y):=by go_simp
 have k12:(((w.alloc (Obj.cells #[Value.int IntKind.i64 a,Value.int IntKind.i64 b,Value.int IntKind.i64 c] 325)).alloc (Obj.cells #[Value.int IntKind.i64 x,Value.int IntKind.i64 y,Value.int IntKind.i64 z] 325)).drew).cell? ⟨w.heap.size+1,2,none⟩=some (.int .i64 z):=by go_simp
 change wpStill _ _ (World.drew _) (fun a'=>wpList _ _ _ _ a' (World.drew _)) _ _
 generalize (((w.alloc (Obj.cells #[Value.int IntKind.i64 a,Value.int IntKind.i64 b,Value.int IntKind.i64 c] 325)).alloc (Obj.cells #[Value.int IntKind.i64 x,Value.int IntKind.i64 y,Value.int IntKind.i64 z] 325)).drew)=w2 at *
 repeat still_step
 still_call (iY (lS _ _ _))
 repeat still_step
 still_call (iY (lS _ _ _))
 repeat still_step
 still_call (iY (lS _ _ _))
 repeat still_step
 refine wpStill_nil ?_
 have HB:=Law.sY hb;clear hb k00 k01 k02 k10 k11 k12
 go_wp2_with fail
 refine (Ey [lA c z,lA a x,lA b y] w2.heap.size _ (by simp) ?_).mono ?_
 ·intro i v hx
  match i,hx with
  |0,hx=>simp at hx;subst hx;go_simp
  |1,hx=>simp at hx;subst hx;go_simp
  |2,hx=>simp at hx;subst hx;go_simp
 rintro e w' ⟨rfl,rfl⟩
 go_wp2_with fail
 go_ret
 exact⟨rfl,HB.out.alloc _⟩
theorem th (a b c:Int) (w:World):Calls Tryz.prog 247 #[.agg #[.int .i64 a,.int .i64 b,.int .i64 c],.agg #[.int .i64 a,.int .i64 b,.int .i64 c]] w
  fun e w'=>e = .returned (.int .i64 0)∧Gr w w':=by
 go_enter Tryz.func247,Tryz.ntmps247
 go_wp2
 go_ret
 exact⟨rfl,((Gr.refl _).alloc _).alloc _⟩
theorem vn (a b c x y z:Int) (w:World):Calls Tryz.prog 247 #[.agg #[.int .i64 a,.int .i64 b,.int .i64 c],.agg #[.int .i64 x,.int .i64 y,.int .i64 z]] w
  fun e w'=>e = .returned (.int .i64 (mJ a b c x y z))∧Gr w w':=by
 cases h:(a == x && (b == y && c == z))
 ·exact yf a b c x y z w h
 ·simp only [Bool.and_eq_true,beq_iff_eq] at h
  obtain⟨rfl,rfl,rfl⟩:=h
  rw [show mJ a b c a b c=0 from (HR a b c a b c).2 ⟨rfl,rfl,rfl⟩]
  exact th a b c w
end Go.Proofs.YtakebkfhigadiaaGreat.EcX
namespace Go.Proofs.YtakebkfhigadiaaGreat.VcX
open Go.RowKit Law Cmp Go.Sort EcX
def Vu (n p n' p' : Int):Int:=kl [lA n n',lA p p']
theorem RK (n p n' p' : Int):(Vu n p n' p' < 0)↔(n < n'∨n=n'∧p < p'):=by
 unfold Vu kl kl kl lA
 (repeat' split) <;> omega
abbrev kv (n p w s:Int) (m:Bool):Array Value:=#[Value.int IntKind.i64 n,Value.int IntKind.i64 p,Value.int IntKind.i64 w,Value.int IntKind.i64 s,Value.bool m]
theorem Da (n p v s:Int) (m:Bool) (n' p' v' s' : Int) (m' : Bool) (w:World):Calls Tryz.prog 209 #[.agg (kv n p v s m),.agg (kv n' p' v' s' m')] w
  fun e w'=>e = .returned (.int .i64 (Vu n p n' p'))∧Gr w w':=by
 go_enter Tryz.func209,Tryz.ntmps209
 go_wp2
 refine wp_region_still_tail 10 (by kernel_rfl) (by kernel_rfl) ?_
 simp only [List.take_succ_cons,List.take_zero,List.drop_succ_cons,List.drop_zero]
 have hb:Gr w (((w.alloc (Obj.cells (kv n p v s m) 176)).alloc (Obj.cells (kv n' p' v' s' m') 176)).drew):=(((Gr.refl _).alloc _).alloc _).drew
 have k00:(((w.alloc (Obj.cells (kv n p v s m) 176)).alloc (Obj.cells (kv n' p' v' s' m') 176)).drew).cell? ⟨w.heap.size,0,none⟩=some (.int .i64 n):=by go_simp
 have k01:(((w.alloc (Obj.cells (kv n p v s m) 176)).alloc (Obj.cells (kv n' p' v' s' m') 176)).drew).cell? ⟨w.heap.size,1,none⟩=some (.int .i64 p):=by go_simp
 have k10:(((w.alloc (Obj.cells (kv n p v s m) 176)).alloc (Obj.cells (kv n' p' v' s' m') 176)).drew).cell? ⟨w.heap.size+1,0,none⟩=some (.int .i64 n'):=by go_simp
 have k11:(((w.alloc (Obj.cells (kv n p v s m) 176)).alloc (Obj.cells (kv n' p' v' s' m') 176)).drew).cell? ⟨w.heap.size+1,1,none⟩=some (.int .i64 p'):=by go_simp
 change wpStill _ _ (World.drew _) (fun a'=>wpList _ _ _ _ a' (World.drew _)) _ _
 generalize (((w.alloc (Obj.cells (kv n p v s m) 176)).alloc (Obj.cells (kv n' p' v' s' m') 176)).drew)=w2 at *
 repeat still_step
 still_call (iY (lS _ _ _))
 repeat still_step
 still_call (iY (lS _ _ _))
 repeat still_step
 refine wpStill_nil ?_
 have HB:=Law.sY hb;clear hb k00 k01 k10 k11
 go_wp2_with fail
 refine (Ey [lA n n',lA p p'] w2.heap.size _ (by simp) ?_).mono ?_
 ·intro i v hx
  match i,hx with
  |0,hx=>simp at hx;subst hx;go_simp
  |1,hx=>simp at hx;subst hx;go_simp
 rintro e w' ⟨rfl,rfl⟩
 go_wp2_with fail
 go_ret
 exact⟨rfl,HB.out.alloc _⟩
end Go.Proofs.YtakebkfhigadiaaGreat.VcX
