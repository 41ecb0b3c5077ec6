
/-
  octet's functions je the reckoner. No condition.
-/
import Derived.Test.YtakebkfhigadiaaGreatVnW15
set_option maxRecDepth 100000
set_option maxHeartbeats 1000000
namespace Go.Proofs.YtakebkfhigadiaaGreat.OctR
open Go Ry
def nf (w:Int):Bool:=decide (1≤w∧w≤4)
def DS (w:Int):Int:=if w=4 then 2147483647 else if w=3 then 16777215 else if w=2 then 65535 else 255
def vf (n i:Int):Int:=IntKind.u8.wrap (aB .shr .i64 n (aB .mul .i64 8 i))
def kz (n w:Int) (k:Nat):List Int:=(List.range k).map fun j:Nat=>vf n (w - 1 - (j:Int))
def hU (n w:Int):List Int:=kz n w w.toNat
def dJ (l:List Int) (n w:Int):List Int:=l ++ hU n w
def xu (l:List Int):Bool:=decide (l.length≤1000000)
def room (l:List Int) (n:Int):Bool:=decide (l.length≤1000000∧0≤n∧n≤1000000)
def fI (l:List Int):Int:=l.foldl (fun n x=>aB .or .i64 (aB .shl .i64 n 8) (IntKind.i64.wrap x)) 0
def XB (r:List Int):Int:=r.length
def Wd (r:List Int) (e:Int):Int:=if e=0 then (if 0 < r.length then 5 else 0) else e
def vm (r:List Int) (w:Int):Bool:=decide ((r.length:Int) < w∨DS w < fI (r.take w.toNat))
def nd (r:List Int) (e w:Int):Int:=if e=0∧nf w=true∧vm r w=false then fI (r.take w.toNat) else 0
def BM (r:List Int) (e w:Int):Int:=if e=0 then (if nf w=true then (if vm r w=true then 5 else 0) else 1) else e
def Ai (r:List Int) (e w:Int):List Int:=if e=0∧nf w=true∧vm r w=false then r.drop w.toNat else r
def yN (n w:Int):Int:=if nf w=false then 1 else if n < 0∨DS w < n then 3 else 0
def Lz (l:List Int) (n w:Int):List Int:=if yN n w=0 then dJ l n w else []
theorem UT (w:Int) (h:nf w=true) (h4:¬w=4):aB .sub .i64 (aB .shl .i64 1 (aB .mul .i64 8 w)) 1=DS w∧0≤aB .mul .i64 8 w:=by
 have h:=of_decide_eq_true h
 have:w=1∨w=2∨w=3:=by omega
 rcases this with rfl|rfl|rfl <;> decide
structure Fs where
 nr:Int→Bool
 LI:Int→Int
 pU:List Int→Int→Int→List Int
 mu:List Int→Int→Bool
 xL:List Int→Int→Bool
 HA:List Int→Int→Int→List Int
 Hb:Int→Int→Int
 AL:List Int→Int
 Vb:List Int→Int
 ZD:List Int→Int→Int
 Am:List Int→Int→Int→Int
 Bm:List Int→Int→Int→Int
 BO:List Int→Int→Int→List Int
 nK:List Int→Bool
def Fs.U:Fs:=⟨nf,DS,dJ,fun l w=>xu l && nf w,room,Lz,yN,fI,XB,Wd,nd,BM,Ai,xu⟩
def wj (F:Fs):aW:=fun xs h=>match xs,h with
 |[.one (.val (.int .i64 w))],[]=>some ⟨True,.sa (B (F.nr w)),[],[Any]⟩
 |_,_=>none
theorem Sm (w:Int):aR [] Tryz.f132 [.one (.val (.int .i64 w))] [] ⟨True,.sa (B (Fs.U.nr w)),[],[Any]⟩:=by
 intro b gv
 generalize hF:Fs.U=F
 generalize hA:Ar.U=A
 generalize hL:Lp _ _ _=L
 cbv
 subst hF hA
 simp only [Fs.U,Ar.U]
 grind [ah,aB,wr,nf]
theorem tp:aC Tryz.prog 132 (wj Fs.U):=by
 refine aD af.nil Tryz.func132 rfl rfl fun xs h p hp=>?_
 unfold wj at hp
 split at hp
 ·cases hp
  exact⟨av rfl,fun _ _=>@Sm _⟩
 ·cases hp
def GQ (F:Fs):aW:=fun xs h=>match xs,h with
 |[.one (.val (.int .i64 w))],[]=>some ⟨F.nr w=true,.sa (I (F.LI w)),[],[Any]⟩
 |_,_=>none
theorem WX (w:Int) (hC:Fs.U.nr w=true):aR [] Tryz.f134 [.one (.val (.int .i64 w))] [] ⟨Fs.U.nr w=true,.sa (I (Fs.U.LI w)),[],[Any]⟩:=by
 intro b gv
 generalize hF:Fs.U=F at hC ⊢
 generalize hA:Ar.U=A
 generalize hL:Lp _ _ _=L
 cbv
 have hg:=UT w
 subst hF hA
 simp only [Fs.U,Ar.U] at hC ⊢
 grind [ah,DS]
theorem Bd:aC Tryz.prog 134 (GQ Fs.U):=by
 refine aD af.nil Tryz.func134 rfl rfl fun xs h p hp=>?_
 unfold GQ at hp
 split at hp
 ·cases hp
  exact⟨av rfl,fun hC _=>@WX _ hC⟩
 ·cases hp
def pC (F:Fs):aW:=fun xs h=>match xs,h with
 |[.one (.sl none (.ints .u8 l)),.one (.val (.int .i64 n))],[]=>some ⟨F.xL l n=true,.sa (.one (.sl (some (0,5)) (.ints .u8 l))),[(0,.tok)],[Any,Any]⟩
 |_,_=>none
theorem PO (l:List Int) (n:Int) (hC:Fs.U.xL l n=true):aR [] Tryz.f131 [.one (.sl none (.ints .u8 l)),.one (.val (.int .i64 n))] [] ⟨Fs.U.xL l n=true,.sa (.one (.sl (some (0,5)) (.ints .u8 l))),[(0,.tok)],[Any,Any]⟩:=by
 intro b gv
 generalize hF:Fs.U=F at hC ⊢
 generalize hA:Ar.U=A
 generalize hL:Lp _ _ _=L
 cbv
 repeat' (first|exact trivial|refine And.intro ?_ ?_|refine aZ fun _=>?_|refine ba fun _=>?_)
 all_goals
  subst hF hA
  first|(simp only [Ar.U,List.nil_append];done)|(simp only [Fs.U,Ar.U,List.nil_append] at hC ⊢;have hk:=of_decide_eq_true hC;grind [ah,aY,wr])
theorem nV:aC Tryz.prog 131 (pC Fs.U):=by
 refine aD af.nil Tryz.func131 rfl rfl fun xs h p hp=>?_
 unfold pC at hp
 split at hp
 ·cases hp
  exact⟨av rfl,fun hC _=>@PO _ _ hC⟩
 ·cases hp
structure XA where
 i:Int
 c:List Int
def Zz (l:List Int) (n w:Int) (y:XA):Prop:=-1≤y.i∧y.i≤w - 1∧y.c=l ++ kz n w (w - 1 - y.i).toNat
noncomputable def apI (n:Int) (y:XA):St:=bW Tryz.f206.ntmps [(0,.sl (some (1,5)) (.ints .u8 y.c)),(1,.val (.int .i64 n)),(7,.val (.int .i64 y.i))] [(1,.tok)] [Any,Any,Any]
def Yq (y:XA):Nat:=(y.i+1).toNat
def apR (st:St):XA:=⟨bA st 7,NN st 0⟩
theorem JR (l:List Int) (n w i:Int) (c:List Int) (h0:0≤i) (h1:i≤w - 1) (hw:nf w=true) (hl:l.length≤1000000) (hc:c=l ++ kz n w (w - 1 - i).toNat) :
  c.length≤1000010∧aB .mul .i64 8 i=8 * i∧c ++ [vf n i]=l ++ kz n w (w - 1 - (i - 1)).toNat:=by
 have hw:=of_decide_eq_true hw
 subst hc
 refine⟨by simp [kz];omega,by rw [kT,wr _ (by omega) (by omega)],?_⟩
 have e:(w - 1 - (i - 1)).toNat=(w - 1 - i).toNat+1:=by omega
 rw [e]
 unfold kz
 have h2:w - 1 - (((w - 1 - i).toNat:Nat):Int)=i:=by omega
 have e2:[vf n i]=List.map (fun j:Nat=>vf n (w - 1 - (j:Int))) [(w - 1 - i).toNat]:=by rw [List.map_cons,List.map_nil,h2]
 rw [List.range_succ,List.map_append,List.append_assoc,e2]
theorem Pc (l:List Int) (n w i:Int) (c:List Int) (h0:i = -1) (hw:nf w=true) (hc:c=l ++ kz n w (w - 1 - i).toNat):c=dJ l n w:=by
 have hw:=of_decide_eq_true hw
 subst h0
 rw [hc]
 unfold dJ hU
 have:(w - 1 - -1).toNat=w.toNat:=by omega
 rw [this]
def zX (F:Fs):aW:=fun xs h=>match xs,h with
 |[.one (.sl (some (0,5)) (.ints .u8 l)),.one (.val (.int .i64 n)),.one (.val (.int .i64 w))],[(0,.tok)]=>some ⟨F.mu l w=true,.sa (.one (.sl (some (1,5)) (.ints .u8 (F.pU l n w)))),[(1,.tok)],[Any,Any,Any]⟩
 |_,_=>none
theorem Uh (l:List Int) (n:Int) (w:Int) (hC:Fs.U.mu l w=true):aR [] Tryz.f206 [.one (.sl (some (0,5)) (.ints .u8 l)),.one (.val (.int .i64 n)),.one (.val (.int .i64 w))] [(0,.tok)] ⟨Fs.U.mu l w=true,.sa (.one (.sl (some (1,5)) (.ints .u8 (Fs.U.pU l n w)))),[(1,.tok)],[Any,Any,Any]⟩:=by
 intro b gv
 have hfs:=af.nil
 generalize hF:Fs.U=F at hC hfs ⊢
 generalize hA:Ar.U=A
 generalize hL:Lp _ _ _=L
 cbv
 repeat' (first|exact trivial|refine And.intro ?_ ?_|refine aZ fun _=>?_|refine ba fun _=>?_)
 have hk:xu l=true∧nf w=true:=by
  subst hF
  simpa [Fs.U] using hC
 obtain⟨hk1,hk2⟩:=hk
 have hk1:=of_decide_eq_true hk1
 have hkw:=of_decide_eq_true hk2
 subst hL
 refine dA (bo hfs) (Zz l n w) (apI n) Yq apR ⟨w - 1,l⟩ ?_ ?_ ?_
 ·exact⟨by simp only;omega,Int.le_refl _,by simp [kz]⟩
 ·cbv
  subst hA
  have hw1:aB .sub .i64 w 1=w - 1:=by rw [ew,wr _ (by omega) (by omega)]
  repeat' (first|exact trivial|exact rfl|exact congrArg (Value.int .i64) hw1|refine And.intro ?_ ?_)
 rintro⟨i,c⟩ ⟨q0,q1,q2⟩ O hO
 dsimp only at q0 q1 q2
 have hst:=fun h=>JR l n w i c h q1 hk2 hk1 q2
 have hen:=fun h=>Pc l n w i c h hk2 q2
 subst hA
 generalize hA:Ar.U=A
 generalize hL:Lp _ _ _=L
 cbv
 repeat' (first|exact trivial|refine And.intro ?_ ?_|refine aZ fun _=>?_|refine ba fun _=>?_)
 all_goals (clear hL hfs;subst hA hF hO;simp only [Fs.U,Ar.U] at *;grind [ah,ew,wr,Zz,Yq,vf])
theorem yI:aC Tryz.prog 206 (zX Fs.U):=by
 refine aD af.nil Tryz.func206 rfl rfl fun xs h p hp=>?_
 unfold zX at hp
 split at hp
 ·cases hp
  exact⟨av rfl,fun hC _=>@Uh _ _ _ hC⟩
 ·cases hp
def rA (F:Fs):aW:=fun xs h=>match xs,h with
 |[.one (.sl none (.ints .u8 l)),.one (.val (.int .i64 n)),.one (.val (.int .i64 w))],[]=>some ⟨F.nK l=true,.bB [Bytes (F.HA l n w),I (F.Hb n w)],[],[Any,Any,Any]⟩
 |_,_=>none
theorem Ef (l:List Int) (n:Int) (w:Int) (hC:Fs.U.nK l=true):aR [(132,wj Fs.U),(134,GQ Fs.U),(131,pC Fs.U),(206,zX Fs.U)] Tryz.f180 [.one (.sl none (.ints .u8 l)),.one (.val (.int .i64 n)),.one (.val (.int .i64 w))] [] ⟨Fs.U.nK l=true,.bB [Bytes (Fs.U.HA l n w),I (Fs.U.Hb n w)],[],[Any,Any,Any]⟩:=by
 intro b gv
 generalize hF:Fs.U=F at hC ⊢
 generalize hA:Ar.U=A
 generalize hL:Lp _ _ _=L
 cbv
 repeat' (first|exact trivial|refine And.intro ?_ ?_|refine aZ fun _=>?_|refine ba fun _=>?_)
 all_goals
  subst hF hA
  simp only [Fs.U,Ar.U] at *
  have hk:=of_decide_eq_true hC
  have hwk:nf w=true→1≤w∧w≤4:=fun h=>of_decide_eq_true h
  grind [ah,Lz,yN,room,xu]
theorem ya:aC Tryz.prog 180 (rA Fs.U):=by
 refine aD (af.cons tp (af.cons Bd (af.cons nV (af.cons yI af.nil rfl) rfl) rfl) rfl) Tryz.func180 rfl rfl fun xs h p hp=>?_
 unfold rA at hp
 split at hp
 ·cases hp
  exact⟨av rfl,fun hC _=>@Ef _ _ _ hC⟩
 ·cases hp
structure XU where
 i:Int
 n:Int
def Ja (l:List Int) (y:XU):Prop:=0≤y.i∧y.i≤l.length∧y.n=fI (l.take y.i.toNat)
noncomputable def Wb (A:Ar) (l:List Int) (y:XU):St:=bW Tryz.f133.ntmps [(3,.val (.int .i64 y.n)),(6,.sl none (.ints .u8 l)),(7,.val (.int .i64 (A.gr l))),(8,.val (.int .i64 y.i))] [] [Any]
def Qn (l:List Int) (y:XU):Nat:=l.length - y.i.toNat
def WC (st:St):XU:=⟨bA st 8,bA st 3⟩
theorem nZ (l:List Int) (n i:Int) (h0:0≤i) (h1:i < l.length) (hn:n=fI (l.take i.toNat)):aB .or .i64 (aB .shl .i64 n 8) (IntKind.i64.wrap (l.getD i.toNat 0))=fI (l.take (i+1).toNat):=by
 have e:(i+1).toNat=i.toNat+1:=by omega
 have hi:i.toNat < l.length:=by omega
 rw [hn,e,List.take_add_one]
 unfold fI
 rw [List.foldl_append]
 simp [hi]
theorem uC (l:List Int) (n i:Int) (h1:i=l.length) (hn:n=fI (l.take i.toNat)):n=fI l:=by
 subst h1
 rw [hn]
 simp
def ni (F:Fs):aW:=fun xs h=>match xs,h with
 |[.one (.sl none (.ints .u8 l))],[]=>some ⟨F.nK l=true,.sa (I (F.AL l)),[],[Any]⟩
 |_,_=>none
theorem IL (l:List Int) (hC:Fs.U.nK l=true):aR [] Tryz.f133 [.one (.sl none (.ints .u8 l))] [] ⟨Fs.U.nK l=true,.sa (I (Fs.U.AL l)),[],[Any]⟩:=by
 intro b gv
 have hfs:=af.nil
 generalize hF:Fs.U=F at hC hfs ⊢
 generalize hA:Ar.U=A
 generalize hL:Lp _ _ _=L
 cbv
 repeat' (first|exact trivial|refine And.intro ?_ ?_|refine aZ fun _=>?_|refine ba fun _=>?_)
 have hlen:l.length≤1000000:=by
  subst hF
  exact of_decide_eq_true hC
 subst hL
 refine dA (bo hfs) (Ja l) (Wb A l) (Qn l) WC ⟨0,0⟩ ?_ ?_ ?_
 ·exact⟨Int.le_refl 0,Int.natCast_nonneg _,rfl⟩
 ·cbv
  repeat' (first|exact trivial|exact rfl|refine And.intro ?_ ?_)
 rintro⟨i,n⟩ ⟨q0,q1,q2⟩ O hO
 dsimp only at q0 q1 q2
 have hst:=fun h=>nZ l n i q0 h q2
 have hen:=fun h=>uC l n i h q2
 subst hA
 generalize hA:Ar.U=A
 generalize hL:Lp _ _ _=L
 cbv
 repeat' (first|exact trivial|refine And.intro ?_ ?_|refine aZ fun _=>?_|refine ba fun _=>?_)
 all_goals (clear hL hfs;subst hA hF hO;simp only [Fs.U,Ar.U] at *;grind [ah,aY,wr,Ja,Qn])
theorem mR:aC Tryz.prog 133 (ni Fs.U):=by
 refine aD af.nil Tryz.func133 rfl rfl fun xs h p hp=>?_
 unfold ni at hp
 split at hp
 ·cases hp
  exact⟨av rfl,fun hC _=>@IL _ hC⟩
 ·cases hp
def gX (F:Fs):aW:=fun xs h=>match xs,h with
 |[.one (.sl none (.ints .u8 l))],[]=>some ⟨F.nK l=true,.sa (.one (.ptr 0 0)),[(0,.cells 223 [.sl none (.ints .u8 l),.val (.int .i64 0)])],[Any]⟩
 |_,_=>none
theorem vz (l:List Int) (hC:Fs.U.nK l=true):aR [(131,pC Fs.U)] Tryz.f83 [.one (.sl none (.ints .u8 l))] [] ⟨Fs.U.nK l=true,.sa (.one (.ptr 0 0)),[(0,.cells 223 [.sl none (.ints .u8 l),.val (.int .i64 0)])],[Any]⟩:=by
 intro b gv
 generalize hF:Fs.U=F at hC ⊢
 generalize hA:Ar.U=A
 generalize hL:Lp _ _ _=L
 cbv
 repeat' (first|exact trivial|refine And.intro ?_ ?_|refine aZ fun _=>?_|refine ba fun _=>?_)
 all_goals
  subst hF hA
  simp only [Fs.U] at *
  have hk:=of_decide_eq_true hC
  grind [ah,room]
theorem iL:aC Tryz.prog 83 (gX Fs.U):=by
 refine aD (af.cons nV af.nil rfl) Tryz.func83 rfl rfl fun xs h p hp=>?_
 unfold gX at hp
 split at hp
 ·cases hp
  exact⟨av rfl,fun hC _=>@vz _ hC⟩
 ·cases hp
def VY (F:Fs):aW:=fun xs h=>match xs,h with
 |[.one (.ptr 0 0)],[(0,.cells 223 [.sl none (.ints .u8 r),.val (.int .i64 e)])]=>some ⟨True,.sa (I (F.Vb r)),[(0,.cells 223 [.sl none (.ints .u8 r),.val (.int .i64 e)])],[.one (.ptr 0 0)]⟩
 |_,_=>none
def wg (_:Fs):aW:=fun xs h=>match xs,h with
 |[.one (.ptr 0 0)],[(0,.cells 223 [.sl none (.ints .u8 r),.val (.int .i64 e)])]=>some ⟨True,.sa (I e),[(0,.cells 223 [.sl none (.ints .u8 r),.val (.int .i64 e)])],[.one (.ptr 0 0)]⟩
 |_,_=>none
theorem Vh (r:List Int) (e:Int):aR [] Tryz.f135 [.one (.ptr 0 0)] [(0,.cells 223 [.sl none (.ints .u8 r),.val (.int .i64 e)])] ⟨True,.sa (I e),[(0,.cells 223 [.sl none (.ints .u8 r),.val (.int .i64 e)])],[.one (.ptr 0 0)]⟩:=by
 intro b gv
 generalize hF:Fs.U=F
 generalize hA:Ar.U=A
 generalize hL:Lp _ _ _=L
 cbv
theorem HW:aC Tryz.prog 135 (wg Fs.U):=by
 refine aD af.nil Tryz.func135 rfl rfl fun xs h p hp=>?_
 unfold wg at hp
 split at hp
 ·cases hp
  exact⟨av rfl,fun _ _=>@Vh _ _⟩
 ·cases hp
theorem EK:bY (wg Fs.U):=by
 intro xs h p hp
 unfold wg at hp
 split at hp
 ·cases hp
  rfl
 ·cases hp
def yP (F:Fs):aW:=fun xs h=>match xs,h with
 |[.one (.ptr 0 0),.one (.val (.int .i64 w))],[(0,.cells 223 [.sl none (.ints .u8 r),.val (.int .i64 e)])]=>some ⟨True,.sa (I (F.Am r e w)),[(0,.cells 223 [.sl none (.ints .u8 (F.BO r e w)),.val (.int .i64 (F.Bm r e w))])],[.one (.ptr 0 0),Any]⟩
 |_,_=>none
theorem PT (w:Int) (r:List Int) (e:Int):aR [(132,wj Fs.U),(133,ni Fs.U),(134,GQ Fs.U)] Tryz.f84 [.one (.ptr 0 0),.one (.val (.int .i64 w))] [(0,.cells 223 [.sl none (.ints .u8 r),.val (.int .i64 e)])] ⟨True,.sa (I (Fs.U.Am r e w)),[(0,.cells 223 [.sl none (.ints .u8 (Fs.U.BO r e w)),.val (.int .i64 (Fs.U.Bm r e w))])],[.one (.ptr 0 0),Any]⟩:=by
 intro b gv
 generalize hF:Fs.U=F
 generalize hA:Ar.U=A
 generalize hL:Lp _ _ _=L
 cbv
 repeat' (first|exact trivial|refine And.intro ?_ ?_|refine aZ fun _=>?_|refine ba fun _=>?_)
 all_goals
  subst hF hA
  simp only [Fs.U,Ar.U] at *
  have hwk:nf w=true→1≤w∧w≤4:=fun h=>of_decide_eq_true h
  have hts:nf w=true→xu (r.take w.toNat)=true:=fun h=>by
   have:=hwk h
   simp only [xu,decide_eq_true_eq,List.length_take]
   omega
  have z0:(0:Int).toNat=0:=rfl
  simp only [z0,List.drop_zero,Int.toNat_natCast,List.take_length] at *
  grind [ah,nd,Ai,BM,vm]
theorem BL:aC Tryz.prog 84 (yP Fs.U):=by
 refine aD (af.cons tp (af.cons mR (af.cons Bd af.nil rfl) rfl) rfl) Tryz.func84 rfl rfl fun xs h p hp=>?_
 unfold yP at hp
 split at hp
 ·cases hp
  exact⟨av rfl,fun _ _=>@PT _ _ _⟩
 ·cases hp
theorem Wa (a b:Nat) (h:a * 2 ^ 8+b < 9223372036854775808) (hb:b < 256):aB .or .i64 ((a * 2 ^ 8:Nat):Int) (b:Int)=((a * 2 ^ 8+b:Nat):Int):=by
 show bits .or .i64 ((a * 2 ^ 8:Nat):Int) (b:Int)=_
 unfold bits
 show IntKind.i64.wrap ((BitVec.ofInt 64 ((a * 2 ^ 8:Nat):Int) ||| BitVec.ofInt 64 (b:Int)).toNat:Int)=_
 have e1:(BitVec.ofInt 64 ((a * 2 ^ 8:Nat):Int)).toNat=a * 2 ^ 8:=by rw [BitVec.toNat_ofInt];omega
 have e2:(BitVec.ofInt 64 (b:Int)).toNat=b:=by rw [BitVec.toNat_ofInt];omega
 have e3:(a * 2 ^ 8) ||| b=a * 2 ^ 8+b:=by
  have h8:b < 2 ^ 8:=hb
  have:=Nat.shiftLeft_add_eq_or_of_lt h8 a
  rw [Nat.shiftLeft_eq] at this
  exact this.symm
 rw [BitVec.toNat_or,e1,e2,e3,wr _ (by omega) (by omega)]
theorem Jo (n x:Int) (h0:0≤n) (h1:n < 4294967296) (hx:0≤x∧x≤255):aB .or .i64 (aB .shl .i64 n 8) (IntKind.i64.wrap x)=n * 256+x:=by
 obtain⟨a,rfl⟩:=Int.eq_ofNat_of_zero_le h0
 obtain⟨b,rfl⟩:=Int.eq_ofNat_of_zero_le hx.1
 have e1:aB .shl .i64 (a:Int) 8=((a * 2 ^ 8:Nat):Int):=by
  show IntKind.i64.wrap ((a:Int) * 2 ^ 8)=_
  rw [wr _ (by omega) (by omega)]
  omega
 rw [e1,wr (b:Int) (by omega) (by omega),Wa a b (by omega) (by omega)]
 omega
def kG (l:List Int):Bool:=decide (∀ x∈l,0≤x∧x≤255)
theorem Fl {l:List Int} (h:kG l=true) (i:Nat):0≤l.getD i 0∧l.getD i 0≤255:=by
 have h:=of_decide_eq_true h
 rcases Nat.lt_or_ge i l.length with g|g
 ·rw [List.getD_eq_getElem?_getD,List.getElem?_eq_getElem g]
  exact h _ (List.getElem_mem g)
 ·rw [List.getD_eq_getElem?_getD,List.getElem?_eq_none g]
  decide
theorem wc (l:List Int) (k:Nat) (h:k < l.length) (hb:kG l=true) (hn:0≤fI (l.take k)∧fI (l.take k) < 4294967296):fI (l.take (k+1))=fI (l.take k) * 256+l.getD k 0:=by
 have hs:=nZ l _ (k:Int) (by omega) (by omega) (by rw [Int.toNat_natCast])
 rw [Int.toNat_natCast] at hs
 have e:((k:Int)+1).toNat=k+1:=by omega
 rw [e] at hs
 rw [← hs]
 exact Jo _ _ hn.1 hn.2 (Fl hb k)
theorem rn (l:List Int) (hb:kG l=true):∀ k,k≤4→k≤l.length→0≤fI (l.take k)∧fI (l.take k) < 256 ^ k
 |0,_,_=>by simp [fI]
 |k+1,h4,hl=>by
  have ih:=rn l hb k (by omega) (by omega)
  have hx:=Fl hb k
  have hp:(256:Int) ^ k≤256 ^ 3:=by
   have:k=0∨k=1∨k=2∨k=3:=by omega
   rcases this with rfl|rfl|rfl|rfl <;> decide
  have hp3:(256:Int) ^ 3=16777216:=by decide
  rw [wc l k (by omega) hb ⟨ih.1,by omega⟩,Int.pow_succ]
  omega
theorem He (l:List Int) (n i:Int) (h4:l.length≤4) (hb:kG l=true) (h0:0≤i) (h1:i < l.length) (hn:n=fI (l.take i.toNat)):aB .add .i64 (aB .mul .i64 n 256) (IntKind.i64.wrap (l.getD i.toNat 0))=fI (l.take (i+1).toNat):=by
 have e:(i+1).toNat=i.toNat+1:=by omega
 have hbd:=rn l hb i.toNat (by omega) (by omega)
 have hx:=Fl hb i.toNat
 have hp:(256:Int) ^ i.toNat≤256 ^ 3:=by
  have:i.toNat=0∨i.toNat=1∨i.toNat=2∨i.toNat=3:=by omega
  rcases this with h|h|h|h <;> rw [h] <;> decide
 have hp3:(256:Int) ^ 3=16777216:=by decide
 rw [e,wc l _ (by omega) hb ⟨hbd.1,by omega⟩,aY,kT,hn,wr (l.getD i.toNat 0) (by omega) (by omega),wr (fI (List.take i.toNat l) * 256) (by omega) (by omega),wr _ (by omega) (by omega)]
def Mj (l:List Int):Bool:=kG l && decide (l.length≤4)
noncomputable def rnI (l:List Int) (y:XU):St:=bW Tryz.f111.ntmps [(0,.sl none (.ints .u8 l)),(3,.val (.int .i64 y.n)),(4,.val (.int .i64 y.i))] [] [Any]
def YJ (st:St):XU:=⟨bA st 4,bA st 3⟩
noncomputable def lmI (w:Int) (y:XU):St:=bW Tryz.f112.ntmps [(0,.val (.int .i64 w)),(3,.val (.int .i64 y.n)),(4,.val (.int .i64 y.i))] [] [Any]
def Zq (w:Int) (y:XU):Prop:=0≤y.i∧y.i≤w∧y.n=256 ^ y.i.toNat
def YB (w:Int) (y:XU):Nat:=(w - y.i).toNat
theorem LO (w n i:Int) (hw:nf w=true) (h0:0≤i) (h1:i < w) (hn:n=256 ^ i.toNat):aB .mul .i64 n 256=256 ^ (i+1).toNat:=by
 have hw:=of_decide_eq_true hw
 have:i=0∨i=1∨i=2∨i=3:=by omega
 subst hn
 rcases this with rfl|rfl|rfl|rfl <;> decide
theorem OD (w n i:Int) (hw:nf w=true) (h1:i=w) (hn:n=256 ^ i.toNat):(ah .gtr (aB .sub .i64 n 1) 2147483647=true→DS w=2147483647)∧(ah .gtr (aB .sub .i64 n 1) 2147483647=false→DS w=aB .sub .i64 n 1):=by
 have hw:=of_decide_eq_true hw
 have:w=1∨w=2∨w=3∨w=4:=by omega
 subst hn h1
 rcases this with rfl|rfl|rfl|rfl <;> decide +kernel
def Gl (r:List Int):Bool:=decide (r.length < 2∨(r.length:Int) - 2 < fI (r.take 2))
def Zt (r:List Int):Nat:=(2+fI (r.take 2)).toNat
def liL (r:List Int) (e:Int):List Int:=if e=0∧Gl r=false then (r.take (Zt r)).drop 2 else []
def liE (r:List Int) (e:Int):Int:=if e=0 then (if Gl r=true then 5 else 0) else e
def liR (r:List Int) (e:Int):List Int:=if e=0∧Gl r=false then r.drop (Zt r) else r
def Vz (r:List Int):Bool:=kG r && xu r
theorem Jk {r:List Int} (h:kG r=true) (k:Nat):kG (r.take k)=true:=by
 have h:=of_decide_eq_true h
 exact decide_eq_true fun x hx=>h x (List.mem_of_mem_take hx)
theorem DD {r:List Int} (h:kG r=true) (w:Int) (hw:w≤4):Mj (r.take w.toNat)=true:=by
 unfold Mj
 rw [Jk h]
 simp only [Bool.true_and,decide_eq_true_eq,List.length_take]
 omega
structure Gs where
 yL:List Int→Bool
 EI:List Int→Bool
 aae:List Int→Bool
 YH:List Int→Int→List Int
 Zo:List Int→Int→Int
 Zr:List Int→Int→List Int
 f:Fs
def Gs.U:Gs:=⟨Mj,kG,Vz,liL,liE,liR,Fs.U⟩
def zg (F:Gs):aW:=fun xs h=>match xs,h with
 |[.one (.sl none (.ints .u8 l))],[]=>some ⟨F.yL l=true,.sa (I (F.f.AL l)),[],[Any]⟩
 |_,_=>none
theorem QF (l:List Int) (hC:Gs.U.yL l=true):aR [] Tryz.f111 [.one (.sl none (.ints .u8 l))] [] ⟨Gs.U.yL l=true,.sa (I (Gs.U.f.AL l)),[],[Any]⟩:=by
 intro b gv
 have hfs:=af.nil
 generalize hF:Gs.U=F at hC hfs ⊢
 generalize hA:Ar.U=A
 generalize hL:Lp _ _ _=L
 cbv
 repeat' (first|exact trivial|refine And.intro ?_ ?_|refine aZ fun _=>?_|refine ba fun _=>?_)
 have hk:kG l=true∧l.length≤4:=by
  subst hF
  simpa [Gs.U,Mj] using hC
 obtain⟨hb,h4⟩:=hk
 subst hL
 refine dA (bo hfs) (Ja l) (rnI l) (Qn l) YJ ⟨0,0⟩ ?_ ?_ ?_
 ·exact⟨Int.le_refl 0,Int.natCast_nonneg _,rfl⟩
 ·cbv
 rintro⟨i,n⟩ ⟨q0,q1,q2⟩ O hO
 dsimp only at q0 q1 q2
 have hst:=fun h=>He l n i h4 hb q0 h q2
 have hen:=fun h=>uC l n i h q2
 subst hA
 generalize hA:Ar.U=A
 generalize hL:Lp _ _ _=L
 cbv
 repeat' (first|exact trivial|refine And.intro ?_ ?_|refine aZ fun _=>?_|refine ba fun _=>?_)
 all_goals (clear hL hfs;subst hA hF hO;simp only [Gs.U,Fs.U,Ar.U] at *;grind [ah,aY,wr,Ja,Qn])
theorem JG:aC Tryz.prog 111 (zg Gs.U):=by
 refine aD af.nil Tryz.func111 rfl rfl fun xs h p hp=>?_
 unfold zg at hp
 split at hp
 ·cases hp
  exact⟨av rfl,fun hC _=>@QF _ hC⟩
 ·cases hp
def tD (F:Gs):aW:=fun xs h=>match xs,h with
 |[.one (.val (.int .i64 w))],[]=>some ⟨F.f.nr w=true,.sa (I (F.f.LI w)),[],[Any]⟩
 |_,_=>none
theorem LM (w:Int) (hC:Gs.U.f.nr w=true):aR [] Tryz.f112 [.one (.val (.int .i64 w))] [] ⟨Gs.U.f.nr w=true,.sa (I (Gs.U.f.LI w)),[],[Any]⟩:=by
 intro b gv
 have hfs:=af.nil
 generalize hF:Gs.U=F at hC hfs ⊢
 generalize hA:Ar.U=A
 generalize hL:Lp _ _ _=L
 cbv
 repeat' (first|exact trivial|refine And.intro ?_ ?_|refine aZ fun _=>?_|refine ba fun _=>?_)
 have hw:nf w=true:=by
  subst hF
  exact hC
 have hwk:=of_decide_eq_true hw
 subst hL
 refine dA (bo hfs) (Zq w) (lmI w) (YB w) YJ ⟨0,1⟩ ?_ ?_ ?_
 ·exact⟨Int.le_refl 0,by simp only;omega,by simp⟩
 ·cbv
 rintro⟨i,n⟩ ⟨q0,q1,q2⟩ O hO
 dsimp only at q0 q1 q2
 have hst:=fun h=>LO w n i hw q0 h q2
 have hen:=fun h=>OD w n i hw h q2
 subst hA
 generalize hA:Ar.U=A
 generalize hL:Lp _ _ _=L
 cbv
 repeat' (first|exact trivial|refine And.intro ?_ ?_|refine aZ fun _=>?_|refine ba fun _=>?_)
 all_goals (clear hL hfs;subst hA hF hO;simp only [Gs.U,Fs.U,Ar.U] at *;grind [ah,aY,wr,Zq,YB])
theorem Gy:aC Tryz.prog 112 (tD Gs.U):=by
 refine aD af.nil Tryz.func112 rfl rfl fun xs h p hp=>?_
 unfold tD at hp
 split at hp
 ·cases hp
  exact⟨av rfl,fun hC _=>@LM _ hC⟩
 ·cases hp
def tS (F:Gs):aW:=fun xs h=>match xs,h with
 |[.one (.ptr 0 0),.one (.val (.int .i64 w))],[(0,.cells 152 [.sl none (.ints .u8 r),.val (.int .i64 e)])]=>some ⟨F.EI r=true,.sa (I (F.f.Am r e w)),[(0,.cells 152 [.sl none (.ints .u8 (F.f.BO r e w)),.val (.int .i64 (F.f.Bm r e w))])],[.one (.ptr 0 0),Any]⟩
 |_,_=>none
theorem Mw (w:Int) (r:List Int) (e:Int) (hC:Gs.U.EI r=true):aR [(111,zg Gs.U),(112,tD Gs.U)] Tryz.f69 [.one (.ptr 0 0),.one (.val (.int .i64 w))] [(0,.cells 152 [.sl none (.ints .u8 r),.val (.int .i64 e)])] ⟨Gs.U.EI r=true,.sa (I (Gs.U.f.Am r e w)),[(0,.cells 152 [.sl none (.ints .u8 (Gs.U.f.BO r e w)),.val (.int .i64 (Gs.U.f.Bm r e w))])],[.one (.ptr 0 0),Any]⟩:=by
 intro b gv
 generalize hF:Gs.U=F at hC ⊢
 generalize hA:Ar.U=A
 generalize hL:Lp _ _ _=L
 cbv
 repeat' (first|exact trivial|refine And.intro ?_ ?_|refine aZ fun _=>?_|refine ba fun _=>?_)
 all_goals
  subst hF hA
  simp only [Gs.U,Fs.U,Ar.U] at *
  have hwk:nf w=true↔1≤w∧w≤4:=by simp [nf]
  have hts:=DD hC w
  have z0:(0:Int).toNat=0:=rfl
  simp only [z0,List.drop_zero,Int.toNat_natCast,List.take_length] at *
  grind [ah,nd,Ai,BM,vm]
theorem wN:aC Tryz.prog 69 (tS Gs.U):=by
 refine aD (af.cons JG (af.cons Gy af.nil rfl) rfl) Tryz.func69 rfl rfl fun xs h p hp=>?_
 unfold tS at hp
 split at hp
 ·cases hp
  exact⟨av rfl,fun hC _=>@Mw _ _ _ hC⟩
 ·cases hp
end Go.Proofs.YtakebkfhigadiaaGreat.OctR
