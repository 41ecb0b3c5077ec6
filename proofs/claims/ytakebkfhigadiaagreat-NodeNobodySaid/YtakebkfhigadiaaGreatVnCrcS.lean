/-
  A sum of 32 bits,as bits: what the code's numbers are. No condition.
-/
import Derived.Test.YtakebkfhigadiaaGreatVnRyU
namespace Go.Proofs.YtakebkfhigadiaaGreat.CrcS
open Go Ry
abbrev nv (v:BitVec 32):Int:=(v.toNat:Int)
def kC:BitVec 32:=0x04C11DB7
def sv (v:BitVec 32) (b:Bool):BitVec 32:=if v.msb != b then (v <<< 1) ^^^ kC else v <<< 1
def bt (x:Int) (i:Nat):Bool:=x / 2 ^ (7 - i) % 2 == 1
def sn (v:BitVec 32) (x:Int):Nat→BitVec 32
 |0=>v
 |i+1=>sv (sn v x i) (bt x i)
def s8 (v:BitVec 32) (x:Int):BitVec 32:=sn v x 8
def sl (v:BitVec 32) (l:List Int):BitVec 32:=l.foldl s8 v
def DZ (n:Int):BitVec 32:=BitVec.ofInt 32 n
def zE (v:BitVec 32) (l:List Int):BitVec 32:= ~~~ (sl (~~~ v) l)
def Ih (l:List Int):Int:=nv (zE 0 l)
theorem Od (v:BitVec 32):0≤nv v∧nv v < 4294967296:=by
 have:=v.isLt
 unfold nv
 omega
theorem GC (v:BitVec 32):BitVec.ofInt 32 (nv v)=v:=by simp [nv]
theorem LR (n:Int):IntKind.u32.wrap n=n % 4294967296:=by
 unfold IntKind.wrap
 simp [IntKind.bits,IntKind.signed]
theorem ud (v:BitVec 32):IntKind.u32.wrap (nv v)=nv v:=by
 have:=Od v
 rw [LR]
 omega
theorem RJ (a b:BitVec 32):aB .xor .u32 (nv a) (nv b)=nv (a ^^^ b):=by
 show bits .xor .u32 (nv a) (nv b)=_
 unfold bits
 show IntKind.u32.wrap (nv (BitVec.ofInt 32 (nv a) ^^^ BitVec.ofInt 32 (nv b)))=_
 rw [GC,GC,ud]
theorem GW (a:BitVec 32):aB .xor .u32 (nv a) 79764919=nv (a ^^^ kC):=RJ a kC
theorem Ac (n:Int):aB .xor .u32 4294967295 n=nv (~~~ (DZ n)):=by
 show bits .xor .u32 4294967295 n=_
 unfold bits
 show IntKind.u32.wrap (nv (BitVec.allOnes 32 ^^^ BitVec.ofInt 32 n))=_
 rw [ud]
 congr 1
theorem GH (v:BitVec 32):DZ (nv v)=v:=GC v
theorem Kc (v:BitVec 32):aB .shl .u32 (nv v) 1=nv (v <<< 1):=by
 show IntKind.u32.wrap (nv v * 2 ^ 1)=_
 rw [LR]
 unfold nv
 rw [BitVec.toNat_shiftLeft,Nat.shiftLeft_eq]
 omega
theorem EM (v:BitVec 32):aB .shr .u32 (nv v) 31=if v.msb then 1 else 0:=by
 show (nv v).fdiv (2 ^ 31)=_
 rw [Int.fdiv_eq_ediv_of_nonneg _ (by decide)]
 have:=v.isLt
 rw [BitVec.msb_eq_decide]
 unfold nv
 by_cases h:2 ^ (32 - 1)≤v.toNat <;> simp [h] <;> omega
theorem VW (n:Int):aB .and .u32 n 1=n % 2:=by
 show bits .and .u32 n 1=_
 unfold bits
 show IntKind.u32.wrap (nv (BitVec.ofInt 32 n &&& 1#32))=_
 rw [ud]
 unfold nv
 rw [BitVec.toNat_and]
 show ((((BitVec.ofInt 32 n).toNat &&& 1:Nat)):Int)=_
 rw [Nat.and_one_is_mod,BitVec.toNat_ofInt]
 omega
theorem QO (x:Int) (i:Nat) (hi:i < 8):aB .and .u32 (aB .shr .u32 (IntKind.u32.wrap x) (aB .sub .i64 7 i)) 1=if bt x i then 1 else 0:=by
 rw [VW]
 have e:aB .sub .i64 7 i=((7 - i:Nat):Int):=by
  show IntKind.i64.wrap (7 - i)=_
  rw [wr _ (by omega) (by omega)]
  omega
 rw [e]
 show (IntKind.u32.wrap x).fdiv (2 ^ (min (((7 - i:Nat):Int)).toNat 32)) % 2=_
 have e2:min (((7 - i:Nat):Int)).toNat 32=7 - i:=by omega
 rw [e2,Int.fdiv_eq_ediv_of_nonneg _ (Int.pow_nonneg (by decide)),LR]
 unfold bt
 have:i=0∨i=1∨i=2∨i=3∨i=4∨i=5∨i=6∨i=7:=by omega
 rcases this with rfl|rfl|rfl|rfl|rfl|rfl|rfl|rfl <;> (simp;split <;> omega)
def mk (f:Nat→Bool):List E:=(List.range 32).map fun j=>[D.bool (f j)]
def hi (v:BitVec 32) (j:Nat):Bool:=v.getMsbD j
theorem mr (f:Nat→Bool):(mk f).length=32:=by simp [mk]
theorem zJ (f:Nat→Bool) {j:Nat} (h:j < 32):rb ((mk f).getD j []) 0=f j:=by
 simp [mk,List.getD_eq_getElem?_getD,h,rb]
theorem tu (f:Nat→Bool) (i:Nat) (b:Bool):(mk f).set i [D.bool b]=mk (fun j=>if j=i then b else f j):=by
 apply List.ext_getElem
 ·simp [mk]
 ·intro k h1 h2
  simp only [mk,List.getElem_set,List.getElem_map,List.getElem_range]
  by_cases h:i=k
  ·simp [h]
  ·have:¬k=i:=fun e=>h e.symm
   simp [h,this]
theorem mk_congr {f g:Nat→Bool} (h:∀ j,j < 32→f j=g j):mk f=mk g:=by
 unfold mk
 apply List.map_congr_left
 intro j hj
 rw [h j (List.mem_range.1 hj)]
theorem Pb:List.replicate 32 [D.bool false]=mk (fun j=>decide (j < 0)):=rfl
def sb (l:List Int) (i:Nat):BitVec 32:=sn (sl (~~~ 0) (l.take (i / 8))) (l.getD (i / 8) 0) (i % 8)
theorem Jf (l:List Int) (i:Nat) (h:i < 8 * l.length):sb l (i+1)=sv (sb l i) (bt (l.getD (i / 8) 0) (i % 8)):=by
 unfold sb
 have hi:i / 8 < l.length:=by omega
 by_cases h7:i % 8=7
 ·have e1:(i+1) / 8=i / 8+1:=by omega
  have e2:(i+1) % 8=0:=by omega
  rw [e1,e2,List.take_add_one,h7]
  unfold sl
  rw [List.foldl_append]
  simp [hi,sn,s8]
 ·have e1:(i+1) / 8=i / 8:=by omega
  have e2:(i+1) % 8=i % 8+1:=by omega
  rw [e1,e2]
  rfl
theorem Mv (l:List Int):sb l 0 = ~~~ 0:=by simp [sb,sl,sn]
theorem OQ (n:Int):0≤IntKind.u64.wrap n:=by
 unfold IntKind.wrap
 simp [IntKind.bits,IntKind.signed]
 omega
theorem Em (n:Int):ah .lss (IntKind.u64.wrap n) 0=false:=by
 have:=OQ n
 simp only [ah,decide_eq_false_iff_not]
 omega
theorem PJ (l:List Int):Ih l=nv (~~~ (sb l (8 * l.length))):=by
 unfold Ih zE sb
 have e1:8 * l.length / 8=l.length:=by omega
 have e2:8 * l.length % 8=0:=by omega
 rw [e1,e2]
 simp [sn]
theorem RA (v:BitVec 32) (j:Nat) (h:j < 32):hi (v <<< 1) j=if j < 31 then hi v (j+1) else false:=by
 unfold hi
 simp only [BitVec.getMsbD_shiftLeft]
 by_cases h1:j < 31
 ·simp [h1]
 ·have:j=31:=by omega
  subst this
  simp
theorem Qt (v w:BitVec 32) (j:Nat):hi (v ^^^ w) j=(hi v j != hi w j):=by
 unfold hi
 simp
def up (v:BitVec 32) (i:Nat):Int:=(((~~~ v).toNat >>> (32 - i):Nat):Int)
theorem Lv (v:BitVec 32) (i:Nat) (h:i < 32):up v (i+1)=up v i * 2+(if hi v i then 0 else 1):=by
 unfold up
 have e:32 - i=(32 - (i+1))+1:=by omega
 have hb:hi v i = !(~~~ v).getLsbD (32 - (i+1)):=by
  have e2:32 - (i+1)=31 - i:=by omega
  have e3:31 - i < 32:=by omega
  unfold hi
  rw [BitVec.getMsbD,e2,BitVec.getLsbD_not]
  simp [h,e3]
 rw [hb,e,Nat.shiftRight_succ,BitVec.getLsbD,Nat.testBit]
 generalize (~~~ v).toNat >>> (32 - (i+1))=n
 simp only [Nat.one_and_eq_mod_two]
 rcases Nat.mod_two_eq_zero_or_one n with h|h <;> simp [h] <;> omega
theorem Xv (n:Int) (h0:0≤n) (h1:n < 18446744073709551616):IntKind.u64.wrap n=n:=by
 unfold IntKind.wrap
 simp [IntKind.bits,IntKind.signed]
 omega
theorem GR (k:Int) (h0:0≤k) (h1:k < 32):ah .eql (aB .rem .i64 (aB .shr .i64 79764919 (IntKind.u64.wrap (aB .sub .i64 31 k))) 2) 1=hi kC k.toNat:=by
 obtain⟨n,rfl⟩:=Int.eq_ofNat_of_zero_le h0
 have h:∀ n:Fin 32,ah .eql (aB .rem .i64 (aB .shr .i64 79764919 (IntKind.u64.wrap (aB .sub .i64 31 (n.val:Int)))) 2) 1=hi kC n.val:=by decide +kernel
 exact h ⟨n,by omega⟩
theorem Ub (i:Int) (h0:0≤i) (h1:i < 9223372036854775807):aB .quo .i64 i 8=((i.toNat / 8:Nat):Int):=by
 rw [MW,Int.tdiv_eq_ediv_of_nonneg h0,wr _ (by omega) (by omega)]
 omega
theorem Xn (i:Int) (h0:0≤i):aB .rem .i64 i 8=((i.toNat % 8:Nat):Int):=by
 rw [MX,Int.tmod_eq_emod_of_nonneg h0]
 omega
theorem Lf (x i:Int) (hx:0≤x) (h0:0≤i):ah .eql (aB .rem .u8 (aB .shr .u8 x (IntKind.u64.wrap (aB .sub .i64 7 (aB .rem .i64 i 8)))) 2) 1=bt x (i.toNat % 8):=by
 rw [Xn i h0]
 have h8:i.toNat % 8 < 8:=Nat.mod_lt _ (by decide)
 generalize i.toNat % 8=m at h8
 have e:aB .sub .i64 7 (m:Int)=((7 - m:Nat):Int):=by
  rw [ew,wr _ (by omega) (by omega)]
  omega
 rw [e,Xv _ (by omega) (by omega),MX]
 show ah .eql ((x.fdiv (2 ^ (min (((7 - m:Nat):Int)).toNat 8))).tmod 2) 1=_
 have e2:min (((7 - m:Nat):Int)).toNat 8=7 - m:=by omega
 have hp:(0:Int)≤2 ^ (7 - m):=Int.pow_nonneg (by decide)
 rw [e2,Int.fdiv_eq_ediv_of_nonneg _ hp,Int.tmod_eq_emod_of_nonneg (Int.ediv_nonneg hx hp)]
 rfl
end Go.Proofs.YtakebkfhigadiaaGreat.CrcS
