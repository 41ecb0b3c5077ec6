/-
  The library's sort at this seat's types: its functions' texts are those that the library's contracts were proved je. No condition.
-/
import Derived.Test.YtakebkfhigadiaaGreatVnW20
import Derived.Test.YtakebkfhigadiaaGreatVnSoG
import Derived.Shelf.Sort.Plain
import Derived.Test.YtakebkfhigadiaaGreatProg
namespace Go.Proofs.YtakebkfhigadiaaGreat.SoK
open Go Go.Shelf Go.RowKit Go.Lib Go.Sort Ry SoG VcX
abbrev SK:Sh:=.int .i64 (.int .i64 (.int .i64 (.int .i64 (.bool .nil))))
def iT (x:E):List Value:=[.int .i64 (ri x 0),.int .i64 (ri x 1),.int .i64 (ri x 2),.int .i64 (ri x 3),.bool (rb x 4)]
def RZ (x y:E):Int:=Vu (ri x 0) (ri x 1) (ri y 0) (ri y 1)
theorem Zs (x y:E):ltOf RZ x y=true↔ri x 0 < ri y 0∨ri x 0=ri y 0∧ri x 1 < ri y 1:=by
 unfold ltOf RZ
 rw [decide_eq_true_eq]
 exact RK _ _ _ _
theorem xU (x y:E):ltOf RZ x y=false↔¬(ri x 0 < ri y 0∨ri x 0=ri y 0∧ri x 1 < ri y 1):=by
 rw [← Zs,Bool.not_eq_true]
theorem Iu {G:Gm} {x:E} {us:List Value}:bf G SK x 0 us↔us=iT x:=by
 constructor
 ·rintro⟨u1,rfl,u2,rfl,u3,rfl,u4,rfl,u5,rfl,rfl⟩
  rfl
 ·rintro rfl
  exact⟨_,rfl,_,rfl,_,rfl,_,rfl,_,rfl,rfl⟩
def VL:Kd where
 sh:=SK
 K:=5
 enc:=iT
 cf:=RZ
 pos:=by decide
 size:=rfl
 len _:=rfl
 JX:=Iu
 jL x v hv:=by
  simp only [iT,List.mem_cons,List.not_mem_nil,or_false] at hv
  rcases hv with rfl|rfl|rfl|rfl|rfl <;> rfl
 swo:={
  irrefl:=fun x=>by
   rw [xU]
   omega
  trans:=fun x y z h1 h2=>by
   rw [Zs] at *
   omega
  ntrans:=fun x y z h1 h2=>by
   rw [xU] at *
   omega }
def pG (l:List E):List E:=kN VL l
theorem ia (l:List E):(pG l).length=l.length∧(pG l).Perm l∧(pG l).Pairwise fun x y=>¬(ri y 0 < ri x 0∨ri y 0=ri x 0∧ri y 1 < ri x 1):=by
 obtain⟨a,b,c⟩:=kU VL l
 exact⟨a,b,c.imp fun {x y} h=>(xU y x).1 h⟩
theorem ku (g off cap:Nat) (l:List E) (w:World) (hH:HoldsK iT 5 w g off l.toArray) (hg:g < w.heap.size) (hl:l.length < 4611686018427387904) :
  Calls Tryz.prog 221 #[.slice (some ⟨g,off,none⟩) l.length cap,.func (.func 209) #[] #[]] w fun e w'=>e = .returned (.tuple #[])∧∃ n os,w' = sortWorldK iT 5 w g off n (pG l).toArray os:=by
 have hc:CmpLays Tryz.prog 209 #[] iT 5 RZ g off l.toArray.size w:=fun m os dk hs x y=>(Da _ _ _ _ _ _ _ _ _ _ _).mono fun e w' ⟨he,hw⟩=>⟨he,hw⟩
 have h:=AnyQ.slices_SortFunc_eq Sl.AW 5 Tryz.isAgg176 Tryz.sizeOf176 iT (fun _=>rfl) (fun x v hv=>by simp [iT] at hv;rcases hv with rfl|rfl|rfl|rfl|rfl <;> rfl) RZ VL.swo 209 #[] g off cap l.toArray w (enters_of Tryz.func209 (by kernel_rfl) rfl) hc hH hg hl
 exact h.mono fun e w' ⟨he,n,os,hw⟩=>⟨he,n,os,hw⟩
structure Ok where
 kN:List E→List E
 ok:List E→Bool
def Ok.U:Ok:=⟨pG,fun l=>decide (0 < l.length∧l.length≤1000000)⟩
def dM (F:Ok):aW:=fun xs h=>match xs,h with
 |[.one (.own 0),.one (.val (.func (.func 209) ⟨[]⟩ ⟨[]⟩))],[(0,.row 176 (.ae (.int .i64 (.int .i64 (.int .i64 (.int .i64 (.bool .nil))))) l))]=>some ⟨F.ok l=true,.bB [],[(0,.row 176 (.ae (.int .i64 (.int .i64 (.int .i64 (.int .i64 (.bool .nil))))) (F.kN l)))],[.one (.own 0),Any]⟩
 |_,_=>none
theorem cX:aC Tryz.prog 221 (dM Ok.U):=by
 refine Bi VL (c:=209) (T:=176) (dM Ok.U) (fun l=>decide (0 < l.length∧l.length≤1000000)) (fun l h=>of_decide_eq_true h) (fun xs h p hp=>?_) ⟨_,Tryz.func221,rfl,by kernel_rfl⟩ ku
 unfold dM at hp
 split at hp
 ·rename_i l
  cases hp
  exact⟨l,rfl,rfl,rfl⟩
 ·cases hp
end Go.Proofs.YtakebkfhigadiaaGreat.SoK
namespace Go.Proofs.YtakebkfhigadiaaGreat.Sh
open Go Go.Shelf Go.Proofs
def CH:Go.Shelf.Ren:=⟨fun|189=>220|125=>237|257=>236|128=>257|129=>258|294=>249|295=>250|296=>251|297=>252|298=>253|299=>254|216=>239|300=>255|301=>256|328=>275|329=>276|330=>277|331=>278|332=>279|215=>80|343=>287|n=>n,fun|28=>33|3=>3|46=>169|0=>0|51=>230|53=>343|4=>4|183=>336|182=>335|131=>77|5=>5|9=>9|218=>360|222=>364|228=>374|229=>375|n=>n,fun|n=>n⟩
theorem NG:Go.Proofs.Lays.n189 Tryz.prog CH:={
 mixed:=by kernel_rfl,
 f125:=Tryz.func237.trans (congrArg some (by kernel_rfl)),
 f128:=Tryz.func257.trans (congrArg some (by kernel_rfl)),
 f129:=Tryz.func258.trans (congrArg some (by kernel_rfl)),
 f189:=Tryz.func220.trans (congrArg some (by kernel_rfl)),
 f215:=Tryz.func80.trans (congrArg some (by kernel_rfl)),
 f216:=Tryz.func239.trans (congrArg some (by kernel_rfl)),
 f257:=Tryz.func236.trans (congrArg some (by kernel_rfl)),
 f294:=Tryz.func249.trans (congrArg some (by kernel_rfl)),
 f295:=Tryz.func250.trans (congrArg some (by kernel_rfl)),
 f296:=Tryz.func251.trans (congrArg some (by kernel_rfl)),
 f297:=Tryz.func252.trans (congrArg some (by kernel_rfl)),
 f298:=Tryz.func253.trans (congrArg some (by kernel_rfl)),
 f299:=Tryz.func254.trans (congrArg some (by kernel_rfl)),
 f300:=Tryz.func255.trans (congrArg some (by kernel_rfl)),
 f301:=Tryz.func256.trans (congrArg some (by kernel_rfl)),
 f328:=Tryz.func275.trans (congrArg some (by kernel_rfl)),
 f329:=Tryz.func276.trans (congrArg some (by kernel_rfl)),
 f330:=Tryz.func277.trans (congrArg some (by kernel_rfl)),
 f331:=Tryz.func278.trans (congrArg some (by kernel_rfl)),
 f332:=Tryz.func279.trans (congrArg some (by kernel_rfl)),
 f343:=Tryz.func287.trans (congrArg some (by kernel_rfl)),
 t0:=Tryz.underlying0,
 a0:=Tryz.isAgg0,
 z0:=Tryz.sizeOf0,
 v0:=Tryz.zeroValue0,
 t3:=Tryz.underlying3,
 a3:=Tryz.isAgg3,
 z3:=Tryz.sizeOf3,
 v3:=Tryz.zeroValue3,
 t4:=Tryz.underlying4,
 a4:=Tryz.isAgg4,
 z4:=Tryz.sizeOf4,
 v4:=Tryz.zeroValue4,
 t5:=Tryz.underlying5,
 a5:=Tryz.isAgg5,
 z5:=Tryz.sizeOf5,
 v5:=Tryz.zeroValue5,
 t9:=Tryz.underlying9,
 a9:=Tryz.isAgg9,
 z9:=Tryz.sizeOf9,
 v9:=Tryz.zeroValue9,
 t28:=Tryz.underlying33,
 a28:=Tryz.isAgg33,
 z28:=Tryz.sizeOf33,
 v28:=Tryz.zeroValue33,
 t46:=Tryz.underlying169,
 a46:=Tryz.isAgg169,
 z46:=Tryz.sizeOf169,
 v46:=Tryz.zeroValue169,
 t51:=Tryz.underlying230,
 a51:=Tryz.isAgg230,
 z51:=Tryz.sizeOf230,
 v51:=Tryz.zeroValue230,
 t53:=Tryz.underlying343,
 a53:=Tryz.isAgg343,
 z53:=Tryz.sizeOf343,
 v53:=Tryz.zeroValue343,
 t131:=Tryz.underlying77,
 a131:=Tryz.isAgg77,
 z131:=Tryz.sizeOf77,
 v131:=Tryz.zeroValue77,
 t182:=Tryz.underlying335,
 a182:=Tryz.isAgg335,
 z182:=Tryz.sizeOf335,
 v182:=Tryz.zeroValue335,
 t183:=Tryz.underlying336,
 a183:=Tryz.isAgg336,
 z183:=Tryz.sizeOf336,
 v183:=Tryz.zeroValue336,
 t218:=Tryz.underlying360,
 a218:=Tryz.isAgg360,
 z218:=Tryz.sizeOf360,
 v218:=Tryz.zeroValue360,
 t222:=Tryz.underlying364,
 a222:=Tryz.isAgg364,
 z222:=Tryz.sizeOf364,
 v222:=Tryz.zeroValue364,
 t228:=Tryz.underlying374,
 a228:=Tryz.isAgg374,
 z228:=Tryz.sizeOf374,
 v228:=Tryz.zeroValue374,
 t229:=Tryz.underlying375,
 a229:=Tryz.isAgg375,
 z229:=Tryz.sizeOf375,
 v229:=Tryz.zeroValue375 }
end Go.Proofs.YtakebkfhigadiaaGreat.Sh
