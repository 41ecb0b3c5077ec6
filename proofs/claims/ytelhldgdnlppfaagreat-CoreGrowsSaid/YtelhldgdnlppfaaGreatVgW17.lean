/-
  cmp.Compare and cmp.Or of ints: what they tell. No condition.
-/
import Derived.Test.YtelhldgdnlppfaaGreatVgW14
import Derived.Test.YtelhldgdnlppfaaGreatVgLaw
import Derived.Test.YtelhldgdnlppfaaGreatProg
import Derived.Deep.QuietTactic
import Derived.BigQuiet
import Derived.BigFrame
set_option maxHeartbeats 400000
namespace Go.Proofs.YtelhldgdnlppfaaGreat.Ry
open Go
def Zv:Option Ct→SC→SC
 |some c,x=>pf c x
 |none,x=>x
def Na:List (Option Ct)→List SC→List SC
 |_,[]=>[]
 |[],x :: xs=>x :: xs
 |k :: ks,x :: xs=>Zv k x :: Na ks xs
def dn1:List (Option Ct)→SA→SA
 |k,.agg cs=>.agg (Na k cs)
 |k :: _,.one x=>.one (Zv k x)
 |_,x=>x
def SS:List (List (Option Ct))→List SA→List SA
 |_,[]=>[]
 |[],x :: xs=>x :: xs
 |k :: ks,x :: xs=>dn1 k x :: SS ks xs
def Ak (ks:List (List (Option Ct))) (bE:aY):aY:=fun args h=>bE (SS ks args) h
theorem KN {G:Gm} {k:Option Ct} {x:SC} {v:Value} (h:x.is G v):(Zv k x).is G v:=by
 cases k with
 |none=>exact h
 |some c=>exact vD h
theorem Ez {G:Gm}:∀ {ks:List (Option Ct)} {xs:List SC} {vs:List Value},aN G xs vs→aN G (Na ks xs) vs
 |ks,[],[],_=>by
  cases ks <;> trivial
 |_,[],_ :: _,h=>h.elim
 |_,_ :: _,[],h=>h.elim
 |[],_ :: _,_ :: _,h=>h
 |_ :: _,_ :: _,_ :: _,⟨⟨h1,h2⟩,h3⟩=>⟨⟨KN h1,h2⟩,Ez h3⟩
theorem Uz {G:Gm} {k:List (Option Ct)} {x:SA} {v:Value} (h:x.is G v):(dn1 k x).is G v:=by
 cases x with
 |agg cs =>
  obtain⟨us,e,hc⟩:=h
  exact⟨us,e,Ez hc⟩
 |one c =>
  cases k with
  |nil=>exact h
  |cons a l=>exact KN h
 |ef c=>cases k <;> exact h
theorem Ht {G:Gm}:∀ {ks:List (List (Option Ct))} {xs:List SA} {vs:List Value},bg G xs vs→bg G (SS ks xs) vs
 |ks,[],[],_=>by
  cases ks <;> trivial
 |_,[],_ :: _,h=>h.elim
 |_,_ :: _,[],h=>h.elim
 |[],_ :: _,_ :: _,h=>h
 |_ :: _,_ :: _,_ :: _,⟨h1,h2⟩=>⟨Uz h1,Ht h2⟩
theorem Kh {k:Option Ct} {x:SC} {l l' : List SC} (h:dB l=dB l'):dB (Zv k x :: l)=dB (x :: l'):=by
 cases k with
 |none=>cases x <;> first|exact h|exact congrArg (List.cons _) h
 |some c=>exact pT h
theorem vp:∀ {ks:List (Option Ct)} {xs:List SC},dB (Na ks xs)=dB xs
 |ks,[]=>by cases ks <;> rfl
 |[],_ :: _=>rfl
 |_ :: _,_ :: _=>Kh vp
theorem Kj {k:List (Option Ct)} {x:SA}:mM (dn1 k x)=mM x:=by
 cases x with
 |agg cs=>exact vp
 |one c=>cases k <;> rfl
 |ef c=>cases k <;> rfl
theorem Au:∀ {ks:List (List (Option Ct))} {xs:List SA},(SS ks xs).flatMap mM=xs.flatMap mM
 |ks,[]=>by cases ks <;> rfl
 |[],_ :: _=>rfl
 |_ :: _,_ :: _=>by
  unfold SS
  rw [List.flatMap_cons,List.flatMap_cons,Kj,Au]
theorem FX {ks:List (List (Option Ct))} {xs:List SA} {h:H}:bO (SS ks xs) h=bO xs h:=by
 unfold bO
 rw [Au]
theorem dq {f:FuncId} {bE:aY} (ks:List (List (Option Ct))) (h:aA Tryz.prog f bE):aA Tryz.prog f (Ak ks bE) :=
 ⟨h.1,fun args h0 p hc hC G vs h1 h2 h3 hv=>by
  have:=h.2 (SS ks args) h0 p hc hC G vs h1 h2 h3 (Ht hv)
  rw [FX] at this
  exact this⟩
end Go.Proofs.YtelhldgdnlppfaaGreat.Ry
namespace Go.Proofs.YtelhldgdnlppfaaGreat.Cmp
open Go.RowKit Law
def ic (a b:Int):Int:=if a < b then -1 else if b < a then 1 else 0
theorem Sn {a b:Int} (h:a < b):ic a b = -1:=by simp [ic,h]
theorem Sm {a b:Int} (h:b < a):ic a b=1:=by simp [ic];omega
theorem KU {a b:Int} (h:a=b):ic a b=0:=by simp [ic];omega
theorem wj (a:Int) (w:World):Calls Tryz.prog 131 #[.int .i64 a] w fun e w'=>e = .returned (.bool false)∧w=w':=by
 go_enter Tryz.func131,Tryz.ntmps131
 go_wp2
 go_ret
 exact⟨by simp,rfl⟩
theorem nV (a b:Int) (w:World):Calls Tryz.prog 104 #[.int .i64 a,.int .i64 b] w fun e w'=>e = .returned (.int .i64 (ic a b))∧w=w':=by
 rcases Int.lt_trichotomy a b with h|h|h
 ·go_enter Tryz.func104,Tryz.ntmps104
  go_wp2_with (go_at_call 131;refine (wj _ _).mono ?_;rintro e w' ⟨rfl,rfl⟩)
  go_ret
  exact⟨mI (Sn h).symm,rfl⟩
 ·have h1:=Law.wz h;clear h
  have h2:¬a < b:=by have:=h1.out;omega
  have h3:¬b < a:=by have:=h1.out;omega
  go_enter Tryz.func104,Tryz.ntmps104
  go_wp2_with (go_at_call 131;refine (wj _ _).mono ?_;rintro e w' ⟨rfl,rfl⟩)
  go_ret
  exact⟨mI (KU h1.out).symm,rfl⟩
 ·have h2:¬a < b:=by omega
  go_enter Tryz.func104,Tryz.ntmps104
  go_wp2_with (go_at_call 131;refine (wj _ _).mono ?_;rintro e w' ⟨rfl,rfl⟩)
  go_ret
  exact⟨mI (Sm h).symm,rfl⟩
def jj:List Int→Int
 |[]=>0
 |x :: xs=>if x=0 then jj xs else x
theorem HN (xs:List Int) (B:Nat) (w:World) (hn:xs.length≤1000) (hc:∀ i x,xs[i]? = some x→w.cell? ⟨B,i,none⟩=some (.int .i64 x)) :
  Calls Tryz.prog 111 #[.slice (some ⟨B,0,none⟩) xs.length xs.length] w fun e w'=>e = .returned (.int .i64 (jj xs))∧w=w':=by
 have HC:=Law.wz hc;clear hc
 go_enter Tryz.func111,Tryz.ntmps111
 go_wp2
 go_loop [8] (fun i=>∃ k:Nat,k≤xs.length∧i = .int .i64 k∧Hid (jj xs=jj (xs.drop k))) (fun i=>xs.length - (intOf i).toNat)
 case atStart=>exact⟨0,Nat.zero_le _,rfl,rfl⟩
 case round =>
  obtain⟨k,hk,rfl,ho⟩:=hrel
  by_cases hlt:k < xs.length
  ·have hx:xs[k]? = some xs[k]:=List.getElem?_eq_getElem hlt
   have hcell:=HC.out k _ hx
   have hd:xs.drop k=xs[k] :: xs.drop (k+1):=List.drop_eq_getElem_cons hlt
   have HX:=Law.wz hx;clear hx
   have HD:=Law.wz hd;clear hd
   generalize xs[k]=x at *
   by_cases h0:x=0
   ·subst h0
    go_wp2
    go_round
    case rel=>exact⟨k+1,by omega,by go_num,by rw [Hid,ho.out,HD.out];simp [jj]⟩
    case measure=>simp [intOf];omega
   ·have h1:(x == 0)=false:=by simpa using h0
    have h2:(x != 0)=true:=by simpa using h0
    have H0:=Law.wz h0;clear h0
    go_wp2
    go_ret
    exact⟨mI (by rw [ho.out,HD.out];simp [jj,H0.out]),rfl⟩
  ·have hk2:k=xs.length:=by omega
   have HK:=Law.wz hk2;clear hk2
   go_wp2
   go_ret
   exact⟨mI (by rw [ho.out,HK.out];simp [jj]),rfl⟩
end Go.Proofs.YtelhldgdnlppfaaGreat.Cmp
