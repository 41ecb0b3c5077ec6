/-
  A reckoner of what a function's code makes of a symbolic state: eI,and blocks of cells that are the call's own;its rules. No condition.
-/
import Derived.WalkKit
import Derived.Below
import Derived.Scope
namespace Go.Proofs.YtakebkfhigadiaaGreat.Ry
open Go
def bF (a b:Nat):Bool:=a == b
def dr (a b:Nat):Bool:=decide (a≤b)
@[simp] theorem gN {a b:Nat}:(bF a b=true)↔a=b:=by simp [bF]
@[simp] theorem LU {a b:Nat}:(bF a b=false)↔¬a=b:=by simp [bF]
@[simp] theorem Mq {a b:Nat}:(dr a b=true)↔a≤b:=by simp [dr]
@[simp] theorem VJ {a b:Nat}:(dr a b=false)↔b < a:=by simp [dr]
theorem aL {a b:Nat} (h:bF a b=true):a=b:=gN.1 h
theorem av {a b:Nat} (h:dr a b=true):a≤b:=Mq.1 h
@[simp] theorem cJ (a:Nat):bF a a=true:=gN.2 rfl
inductive D where
 |int (n:Int)
 |bool (b:Bool)
 |str (l:List Int)
 |ints (l:List Int)
 |ae (l:List (List D))
abbrev E:=List D
def ri (x:E) (j:Nat):Int :=
 match x[j]? with
 |some (.int n)=>n
 |_=>0
def rb (x:E) (j:Nat):Bool :=
 match x[j]? with
 |some (.bool b)=>b
 |_=>false
def rs (x:E) (j:Nat):List Int :=
 match x[j]? with
 |some (.str l)=>l
 |_=>[]
def rl (x:E) (j:Nat):List Int :=
 match x[j]? with
 |some (.ints l)=>l
 |_=>[]
def rr (x:E) (j:Nat):List E :=
 match x[j]? with
 |some (.ae l)=>l
 |_=>[]
inductive Sh where
 |nil
 |int (k:IntKind) (r:Sh)
 |bool (r:Sh)
 |str (r:Sh)
 |ints (k:IntKind) (r:Sh)
 |ae (s:Sh) (r:Sh)
def Sh.size:Sh→Nat
 |.nil=>0
 |.int _ r=>r.size+1
 |.bool r=>r.size+1
 |.str r=>r.size+1
 |.ints _ r=>r.size+1
 |.ae _ r=>r.size+1
def Sh.drop:Sh→Nat→Sh
 |s,0=>s
 |.nil,_+1=>.nil
 |.int _ r,n+1=>r.drop n
 |.bool r,n+1=>r.drop n
 |.str r,n+1=>r.drop n
 |.ints _ r,n+1=>r.drop n
 |.ae _ r,n+1=>r.drop n
def Sh.zero:Sh→E
 |.nil=>[]
 |.int _ r=>.int 0 :: r.zero
 |.bool r=>.bool false :: r.zero
 |.str r=>.str [] :: r.zero
 |.ints _ r=>.ints [] :: r.zero
 |.ae _ r=>.ae [] :: r.zero
inductive Ct where
 |ints (k:IntKind) (l:List Int)
 |ae (s:Sh) (l:List E)
structure Ar where
 bin:BinOp→IntKind→Int→Int→Int
 cmp:BinOp→Int→Int→Bool
 conv:IntKind→Int→Int
 and:Bool→Bool→Bool
 not:Bool→Bool
 beq:Bool→Bool→Bool
 yU:Bool→Int→Int→Int
 TM:Bool→Bool→Bool→Bool
 gr:List Int→Int
 dw:List E→Int
 Sa:List Int→Int→Int
 RW:List E→Int→E
 TU:List Int→Int→Int→List Int
 US:List E→Int→Int→List E
 JS:List Int→List Int→List Int
 UP:List E→List E→List E
 TX:List Int→Int→Int→List Int
 Uy:List E→Int→E→List E
 Uq:List Int→List Int→List Int
 SG:List E→List E→List E
 Dq:Int→List Int
 KZ:Int→E→List E
 WS:List Int→List Int→Bool
 AO:List Int→List Int→Bool
 IU:List Int→List Int
 fits:Int→Int→Bool
 ri:E→Nat→Int
 rb:E→Nat→Bool
 rs:E→Nat→List Int
 rl:E→Nat→List Int
 rr:E→Nat→List E
 lG:List (Int × Int)→Int→Int
 qD:List (Int × Int)→Int→Bool
 qW:List (Int × Int)→Int→Int→List (Int × Int)
 Rv:List (Int × Int)→Int
 Vf:List Int→Int→List Int
 TZ:E→List E→Int→List E
def lG (l:List (Int × Int)) (k:Int):Int :=
 match l.find? fun p=>p.1 == k with
 |some p=>p.2
 |none=>0
def qD (l:List (Int × Int)) (k:Int):Bool:=l.any fun p=>p.1 == k
def qW (l:List (Int × Int)) (k v:Int):List (Int × Int):=if qD l k=true then l.map fun p=>if p.1 == k then (k,v) else p else l ++ [(k,v)]
def aB:BinOp→IntKind→Int→Int→Int
 |.add,k,a,b=>k.wrap (a+b)
 |.sub,k,a,b=>k.wrap (a - b)
 |.mul,k,a,b=>k.wrap (a * b)
 |.quo,k,a,b=>k.wrap (a.tdiv b)
 |.rem,_,a,b=>a.tmod b
 |.shl,k,a,b=>k.wrap (a * 2 ^ (min b.toNat k.bits))
 |.shr,k,a,b=>a.fdiv (2 ^ (min b.toNat k.bits))
 |op,k,a,b=>bits op k a b
def ah:BinOp→Int→Int→Bool
 |.eql,a,b=>a == b
 |.neq,a,b=>a != b
 |.lss,a,b=>decide (a < b)
 |.leq,a,b=>decide (a≤b)
 |.gtr,a,b=>decide (a > b)
 |.geq,a,b=>decide (a≥b)
 |_,_,_=>false
def gP:List Int→List Int→Bool
 |_,[]=>false
 |[],_ :: _=>true
 |a :: x,b :: y=>decide (a < b) || (a == b && gP x y)
def Ar.U:Ar where
 bin:=aB
 cmp:=ah
 conv k n:=k.wrap n
 and a b:=a && b
 not a:=!a
 beq a b:=a == b
 yU c a b:=if c then a else b
 TM c a b:=if c then a else b
 gr l:=l.length
 dw l:=l.length
 Sa l i:=l.getD i.toNat 0
 RW l i:=l.getD i.toNat []
 TU l lo hi:=(l.take hi.toNat).drop lo.toNat
 US l lo hi:=(l.take hi.toNat).drop lo.toNat
 JS l m:=l ++ m
 UP l m:=l ++ m
 TX l i v:=l.set i.toNat v
 Uy l i v:=l.set i.toNat v
 Uq l m:=m.take l.length ++ l.drop m.length
 SG l m:=m.take l.length ++ l.drop m.length
 Dq n:=List.replicate n.toNat 0
 KZ n x:=List.replicate n.toNat x
 WS l m:=decide (l=m)
 AO:=gP
 IU l:=l.map fun n=>((UInt8.ofNat n.toNat).toNat:Int)
 fits n b:=decide (n * b≤140737488355328)
 ri:=Ry.ri
 rb:=Ry.rb
 rs:=Ry.rs
 rl:=Ry.rl
 rr:=Ry.rr
 lG:=Ry.lG
 qD:=Ry.qD
 qW:=Ry.qW
 Rv l:=l.length
 Vf l i:=l.take i.toNat ++ List.replicate (l.length - i.toNat) 0
 TZ z l i:=l.take i.toNat ++ List.replicate (l.length - i.toNat) z
def Ar.lit (A:Ar):Bool→Ar
 |true=>Ar.U
 |false=>A
inductive SC where
 |any
 |val (v:Value)
 |num (k:IntKind) (n:Int)
 |tf (b:Bool)
 |ptr (n off:Nat)
 |fn (g n:Nat)
 |tr (g n k:Nat)
 |nw (n off:Nat)
 |ux (g n off:Nat)
 |vw (n:Nat) (l:Int)
 |str (l:List Int)
 |sl (tk:Option (Nat × TypeId)) (c:Ct)
 |own (n:Nat)
 |mp (n:Nat)
 |rp (n:Nat) (i:Int) (j:Nat)
 |Mr (k:IntKind) (n:Int)
 |CE (s:Sh) (x:E) (j:Nat)
inductive SA where
 |one (c:SC)
 |agg (cs:List SC)
 |fb (c:Ct)
inductive SV where
 |sa (x:SA)
 |bB (xs:List SA)
structure bz where
 g:Option Bool
 v:SV
inductive dP where
 |cells (ty:TypeId) (cs:List SC)
 |row (ty:TypeId) (c:Ct)
 |eK (c:Ct)
 |emp (ty:TypeId)
 |mp (l:List (Int × Int))
 |cg (d sz:Nat) (q:Int)
 |tok
 |dead
abbrev H:=List (Nat × dP)
def ak:H→Nat→Option dP
 |[],_=>none
 |(k,b) :: l,n=>match bF k n with
  |true=>some b
  |false=>ak l n
def aS:H→Nat→dP→H
 |[],n,b=>[(n,b)]
 |(k,c) :: l,n,b=>match bF k n with
  |true=>(k,b) :: l
  |false=>match dr n k with
   |true=>(n,b) :: (k,c) :: l
   |false=>(k,c) :: aS l n b
structure St where
 eI:List bz
 heap:H
 gs:List SA
def bz.nil:bz:=⟨none,.sa (.one .any)⟩
def bz.off:bz:=⟨some false,.sa (.one (.tf true))⟩
def bQ (s:ByteArray):List Int:=s.data.toList.map fun b=>(b.toNat:Int)
def cellOf:Value→SC
 |.string s=>.str (bQ s)
 |.int k n=>.num k n
 |.bool b=>.tf b
 |v=>.val v
def ofValue:Value→SA
 |.agg cs=>if cs.toList.all Value.oneCell' then .agg (cs.toList.map cellOf) else .one (.val (.agg cs))
 |v=>.one (cellOf v)
def aG (st:St):Operand→bz
 |.tmp t=>st.eI.getD t bz.nil
 |.const v=>⟨none,.sa (ofValue v)⟩
 |.func f=>⟨none,.sa (.one (.val (.func (.func f) #[] #[])))⟩
 |.global g=>⟨none,.sa (.one (.val (.pointer (some ⟨g,0,none⟩))))⟩
def need:Option Bool→Prop
 |none=>True
 |some b=>b=true
def ML (A:Ar):Option Bool→Option Bool→Option Bool
 |none,g=>g
 |g,none=>g
 |some a,some b=>some (A.and a b)
def SC.int?:SC→Option (IntKind × Int)
 |.val (.int k n)=>some (k,n)
 |.num k n=>some (k,n)
 |_=>none
def SC.bool?:SC→Option Bool
 |.val (.bool b)=>some b
 |.tf b=>some b
 |_=>none
def SC.lit:SC→Bool
 |.num _ _ | .tf _=>true
 |_=>false
def OT (l:Bool) (k:IntKind) (n:Int):SC :=
 match l with
 |true=>.num k n
 |false=>.val (.int k n)
def UU (l:Bool) (b:Bool):SC :=
 match l with
 |true=>.tf b
 |false=>.val (.bool b)
def SC.qe:SC→SC
 |.num k n=>.val (.int k n)
 |.tf b=>.val (.bool b)
 |c=>c
inductive TK where
 |int (k:IntKind)
 |bool
 |struct (fields:List (Nat × Nat × Bool × List Nat))
 |array (len:Nat) (size:Nat) (agg:Bool)
 |slice (e:TypeId) (size:Nat)
 |str
 |ptr
 |pF
 |other
structure TI where
 k:TK
 size:Nat
 zero:List Value
 eq:Bool
 flat:Option Sh
def TK.agg:TK→Bool
 |.struct _ | .array _ _ _=>true
 |_=>false
def dx (P:Program) (f:Field):Nat :=
 if f.name != "_" then
  match P.underlying f.type with
  |some (.int _)=>1
  |some .bool=>2
  |_=>0
 else 0
def dO (P:Program) (f:Field):List Nat :=
 if !bF (dx P f) 0 then [dx P f]
 else match P.underlying f.type with
  | some (.struct gs) => if f.name != "_" && gs.toList.all (fun g => !bF (dx P g) 0) && (gs.toList.map (·.offset) == List.range gs.size) && !P.stoodInHeld f.type && bF (P.cellsOf f.type) gs.size && (P.info? f.type).isSome then gs.toList.map (dx P) else []
  |_=>[]
def iZ (P:Program) (t:TypeId):Bool :=
 match P.underlying t with
 |some (.struct _)|some (.array _ _)=>true
 |_=>false
def zk:Value→Option Sh
 |.int k _=>some (.int k .nil)
 |.bool _=>some (.bool .nil)
 |_=>none
def WB:Sh→Value→Bool
 |.int k .nil,.int k' n=>bF k.ctorIdx k'.ctorIdx && n == 0
 |.bool .nil,.bool b=>!b
 |_,_=>false
def tU (z:List Value):Option Sh :=
 match z with
 |[]=>none
 |v :: l=>match zk v with
  |some s=>if (v :: l).all (WB s) then some s else none
  |none=>none
def yr (A:Ar) (n:Int):Sh→Ct
 |.int k _=>.ints k (A.Dq n)
 |s=>.ae s (A.KZ n s.zero)
def Ft (P:Program) (t e:TypeId):Bool :=
 (match P.underlying e with
 |some (.int _)=>true
 |_=>false) && bF (P.cellsOf e) 1 && !P.eqGuardType P.depth t
def pY (P:Program) (e:TypeId):Bool :=
 match P.info? e with
 |some i=>match i.zero with
  |some (.int .i64 n)=>n == 0
  |_=>false
 |none=>false
def QA (P:Program) (k e:TypeId) (n:Nat) (z:List Value):Option TI :=
 match P.underlying k,P.underlying e,pY P e with
 |some (.int .i64),some (.int .i64),true=>some ⟨.pF,n,z,false,none⟩
 |_,_,_=>some ⟨.other,n,z,false,none⟩
def dQ (P:Program) (t:TypeId):Option TI :=
 match P.info? t with
 |some i=>match i.zero with
  |some z=>match P.underlying t with
   |some (.int k)=>some ⟨.int k,i.size,z.cells.toList,false,none⟩
   |some .bool=>some ⟨.bool,i.size,z.cells.toList,false,none⟩
   |some (.struct fs)=>if fs.toList.all fun f=>(P.underlying f.type).isSome then some ⟨.struct (fs.toList.map fun f=>(f.offset,P.cellsOf f.type,iZ P f.type,dO P f)),i.size,z.cells.toList,
     fs.toList.all (fun f=>!(dO P f).isEmpty) && fs.toList.dropLast.all (fun f=>!bF (dx P f) 0) && (fs.toList.map (·.offset) == List.range fs.size) && !P.stoodInHeld t && !P.eqGuardType P.depth t,none⟩ else none
   |some (.array n e)=>if (P.underlying e).isSome then some ⟨.array n (P.cellsOf e) (iZ P e),i.size,z.cells.toList,Ft P t e,tU z.cells.toList⟩ else none
   |some (.slice e)=>if (P.underlying e).isSome then some ⟨.slice e (P.cellsOf e),i.size,z.cells.toList,false,none⟩ else none
   |some .string=>some ⟨.str,i.size,z.cells.toList,false,none⟩
   |some (.pointer _)=>some ⟨.ptr,i.size,z.cells.toList,false,none⟩
   |some (.map k e)=>QA P k e i.size z.cells.toList
   |some _=>some ⟨.other,i.size,z.cells.toList,false,none⟩
   |none=>none
  |none=>none
 |none=>none
structure qz where
 C:Prop
 r:SV
 h:H
 as:List SA
abbrev aW:=List SA→H→Option qz
structure Cx where
 tt:List (Nat × TI)
 fs:List (Nat × aW)
 hs:List (Nat × Ct)
 bs:List (Nat × Nat)
def look {α:Type}:List (Nat × α)→Nat→Option α
 |[],_=>none
 |(k,a) :: l,t=>match bF k t with
  |true=>some a
  |false=>look l t
structure cr where
 side:Prop
 ZA:bz
 gm:List (Nat × dP)
def dK (cs:List SC) (off n:Nat):Option (List SC) :=
 match dr (off+n) cs.length with
 |true=>some ((cs.drop off).take n)
 |false=>none
def dS:List SC→Nat→List SC→List SC
 |cs,_,[]=>cs
 |cs,off,x :: xs=>dS (cs.set off x) (off+1) xs
def EP:SC→Prop
 |.any=>False
 |.val v=>v.oneCell' = true
 |_=>True
def SA.cells:SA→List SC
 |.one c=>[c]
 |.agg cs=>cs
 |.fb _=>[]
def SA.side:SA→Prop
 |.one c=>EP c
 |.agg _=>True
 |.fb _=>False
def ints:BinOp→Bool
 |.add | .sub | .mul | .and | .or | .xor | .andNot=>true
 |_=>false
def Uf:BinOp→Bool
 |.eql | .neq | .lss | .leq | .gtr | .geq=>true
 |_=>false
def cS:IntKind→IntKind→Bool:=fun a b=>bF a.ctorIdx b.ctorIdx
def fi (A:Ar):Nat→SC→SC→Option Bool
 |1,c,d=>match c.int?,d.int? with
  |some (k,a),some (k',b)=>match cS k k' with
   |true=>some (A.cmp .eql a b)
   |false=>none
  |_,_=>none
 |2,c,d=>match c.bool?,d.bool? with
  |some a,some b=>some (A.beq a b)
  |_,_=>none
 |_,_,_=>none
def bx (A:Ar):List Nat→List SC→List SC→Option Bool
 |[],[],[]=>some true
 |k :: ks,c :: cs,d :: ds =>
  match fi A k c d,bx A ks cs ds with
  |some a,some r=>some (match ks with
   |[]=>a
   |_ :: _=>A.and a r)
  |_,_=>none
 |_,_,_=>none
def bV (s:Prop) (c:SC):Option cr:=some ⟨s,⟨none,.sa (.one c)⟩,[]⟩
def sw (h:H):SC→SC→Option Bool
 |.val (.pointer none),.val (.pointer none)=>some true
 |.ptr n _,.val (.pointer none)=>match ak h n with
  |some (.cells _ _)|some (.row _ _)=>some false
  |_=>none
 |_,_=>none
def Ct.len (A:Ar):Ct→Int
 |.ints _ l=>A.gr l
 |.ae _ l=>A.dw l
def OK (A:Ar):SC→SC→Option (Prop × Bool)
 |.val (.slice none 0 0),.val (.slice none 0 0)=>some (True,true)
 |.sl _ c,.val (.slice none 0 0)=>some (A.cmp .gtr (c.len A) 0=true,false)
 |_,_=>none
def oF (A:Ar) (cx:Cx) (h:H) (op:BinOp) (xt:TypeId) (s:Prop) (a b:SC):Option cr :=
 match a.int?,b.int? with
 |some (k,m),some (k',n) =>
  match op with
  |.shl | .shr=>bV (s∧(A.lit b.lit).cmp .lss n 0=false) (OT (a.lit && b.lit) k ((A.lit (a.lit && b.lit)).bin op k m n))
  |.quo | .rem=>match cS k k' with
   |true=>bV (s∧(A.lit b.lit).cmp .eql n 0=false) (OT (a.lit && b.lit) k ((A.lit (a.lit && b.lit)).bin op k m n))
   |false=>none
  |_=>match cS k k' with
   |true=>match ints op with
    |true=>bV s (OT (a.lit && b.lit) k ((A.lit (a.lit && b.lit)).bin op k m n))
    |false=>match Uf op with
     |true=>bV s (UU (a.lit && b.lit) ((A.lit (a.lit && b.lit)).cmp op m n))
     |false=>none
   |false=>none
 |_,_=>match a.bool?,b.bool? with
  |some x,some y=>match look cx.tt xt with
   |some ⟨.bool,_,_,_,_⟩=>match op with
    |.eql=>bV s (UU (a.lit && b.lit) ((A.lit (a.lit && b.lit)).beq x y))
    |.neq=>bV s (UU (a.lit && b.lit) ((A.lit (a.lit && b.lit)).not ((A.lit (a.lit && b.lit)).beq x y)))
    |_=>none
   |_=>none
  |_,_=>match a,b with
   |.str l,.str m=>match op with
    |.eql=>bV s (.val (.bool (A.WS l m)))
    |.neq=>bV s (.val (.bool (A.not (A.WS l m))))
    |.add=>bV (s∧A.fits (A.gr (A.JS l m)) 1=true) (.str (A.JS l m))
    |.lss=>bV s (.val (.bool (A.AO l m)))
    |.gtr=>bV s (.val (.bool (A.AO m l)))
    |.leq=>bV s (.val (.bool (A.not (A.AO m l))))
    |.geq=>bV s (.val (.bool (A.not (A.AO l m))))
    |_=>none
   |_,_=>match sw h a b,look cx.tt xt with
    |some r,some ⟨.ptr,_,_,_,_⟩=>match op with
     |.eql=>bV s (.tf r)
     |.neq=>bV s (.tf (!r))
     |_=>none
    |_,some ⟨.slice _ _,_,_,_,_⟩=>match OK A a b with
     |some (q,r)=>match op with
      |.eql=>bV (s∧q) (.tf r)
      |.neq=>bV (s∧q) (.tf (!r))
      |_=>none
     |none=>none
    |_,_=>none
def kd (A:Ar) (cx:Cx) (h:H) (op:BinOp) (xt:TypeId) (x y:bz):Option cr :=
 match x.v,y.v with
 |.sa (.one a),.sa (.one b)=>oF A cx h op xt (need x.g∧need y.g) a b
 |.sa (.agg xs),.sa (.agg ys) =>
  match look cx.tt xt with
  |some ⟨.struct fs,_,_,true,_⟩ =>
   match bx A (fs.flatMap fun f=>f.2.2.2) xs ys with
   |some r =>
    match op with
    |.eql=>bV (need x.g∧need y.g) (.val (.bool r))
    |.neq=>bV (need x.g∧need y.g) (.val (.bool (A.not r)))
    |_=>none
   |none=>none
  |some ⟨.array n _ _,_,_,true,_⟩ =>
   match bx A (List.replicate n 1) xs ys with
   |some r =>
    match op with
    |.eql=>bV (need x.g∧need y.g) (.val (.bool r))
    |.neq=>bV (need x.g∧need y.g) (.val (.bool (A.not r)))
    |_=>none
   |none=>none
  |_=>none
 |_,_=>none
def FE (A:Ar) (c:Bool) (a b:SC):Option SC :=
 match a.int?,b.int? with
 |some (k,m),some (k',n)=>match cS k k' with
  |true=>some (.val (.int k (A.yU c m n)))
  |false=>none
 |_,_=>match a.bool?,b.bool? with
  |some m,some n=>some (.val (.bool (A.TM c m n)))
  |_,_=>none
def ov (A:Ar) (c a b:bz):Option cr :=
 match c with
 | ⟨g,.sa (.one (.tf t))⟩=>match t with
  |true=>some ⟨need g∧need a.g,⟨none,a.v⟩,[]⟩
  |false=>some ⟨need g∧need b.g,⟨none,b.v⟩,[]⟩
 | ⟨g,.sa (.one (.val (.bool t)))⟩=>match a,b with
  | ⟨ga,.sa (.one x)⟩,⟨gb,.sa (.one y)⟩=>match FE A t x y with
   |some v=>bV (need g∧(t=false∨need ga)∧(t=true∨need gb)) v
   |none=>match x,y with
    |.any,y=>some ⟨need g∧t=false∧need gb,⟨none,.sa (.one y)⟩,[]⟩
    |x,.any=>some ⟨need g∧t=true∧need ga,⟨none,.sa (.one x)⟩,[]⟩
    |_,_=>none
  |_,_=>none
 |_=>none
def xG:List bz→Option (List SA)
 |[]=>some []
 | ⟨_,.sa x⟩ :: l=>match xG l with
  |some xs=>some (x :: xs)
  |none=>none
 |_=>none
def dE:List bz→Prop
 |[]=>True
 |[e]=>need e.g
 |e :: l=>need e.g∧dE l
def wz (place:Nat→Option (Nat × Nat)) (cells:List SC):List (Nat × SA)→Option (List SC)
 |[]=>some cells
 |(i,v) :: rest =>
  match place i with
  |none=>none
  |some (off,size)=>match bF v.cells.length size && dr (off+size) cells.length with
   |true=>wz place (dS cells off v.cells) rest
   |false=>none
def dC:List SA→Prop
 |[]=>True
 |[x]=>x.side
 |x :: l=>x.side∧dC l
def kj (A:Ar) (op:BinOp):Int→List SA→IntKind→Option Int
 |a,[],_=>some a
 |a,.one c :: l,k0=>match c.int? with
  |some (k,b)=>match cS k k0 with
   |true=>kj A op (A.yU (A.cmp op b a) b a) l k0
   |false=>none
  |none=>none
 |_,_,_=>none
def cG (A:Ar):Sh→E→Nat→Nat→List SC
 |_,_,_,0=>[]
 |.nil,_,_,_+1=>[]
 |.int k r,x,j,n+1=>.val (.int k (A.ri x j)) :: cG A r x (j+1) n
 |.bool r,x,j,n+1=>.val (.bool (A.rb x j)) :: cG A r x (j+1) n
 |.str r,x,j,n+1=>.str (A.rs x j) :: cG A r x (j+1) n
 |.ints k r,x,j,n+1=>.sl none (.ints k (A.rl x j)) :: cG A r x (j+1) n
 |.ae s r,x,j,n+1=>.sl none (.ae s (A.rr x j)) :: cG A r x (j+1) n
def Ct.sz:Ct→Nat
 |.ints _ _=>1
 |.ae s _=>s.size
def Ct.cut (A:Ar):Ct→Int→Int→Ct
 |.ints k l,lo,hi=>.ints k (A.TU l lo hi)
 |.ae s l,lo,hi=>.ae s (A.US l lo hi)
def eC:Ct→Ct
 |.ints k _=>.ints k []
 |.ae s _=>.ae s []
def Ct.rep (A:Ar) (n:Int):Ct→Ct
 |.ints k _=>.ints k (A.Dq n)
 |.ae s _=>.ae s (A.KZ n s.zero)
def Ct.at (A:Ar):Ct→Int→Nat→Nat→List SC
 |.ints k l,i,_,n=>match n with
  |0=>[]
  |_+1=>[.val (.int k (A.Sa l i))]
 |.ae s l,i,j,n=>cG A (s.drop j) (A.RW l i) j n
def AZ (A:Ar) (cx:Cx) (gm:Option dP) (off:Nat) (t:TypeId):Option (Prop × SA) :=
 match look cx.tt t,gm with
 |some ti,some (.cells _ bc)=>match ti.k.agg with
  |true=>match dK bc off ti.size with
   |some cs=>some (True,.agg cs)
   |none=>none
  |false=>match dK bc off 1 with
   |some [c]=>some (True,.one c)
   |_=>none
 |some ti,some (.row _ c)=>match ti.k.agg && (bF c.sz 1 && bF off 0) with
  |true=>some (A.cmp .eql (c.len A) ti.size=true,.fb c)
  |false=>none
 |_,_=>none
def oz (st:St) (d:Int):Option Operand→Option (Option Bool × Int)
 |none=>some (none,d)
 |some x=>match aG st x with
  | ⟨g,.sa (.one c)⟩=>match c.int? with
   |some (_,i)=>some (g,i)
   |none=>none
  |_=>none
def fx:Sh→Sh→Bool
 |.nil,.nil=>true
 |.int k r,.int k' r'=>cS k k' && fx r r'
 |.bool r,.bool r'=>fx r r'
 |.str r,.str r'=>fx r r'
 |.ints k r,.ints k' r'=>cS k k' && fx r r'
 |.ae s r,.ae s' r'=>fx s s' && fx r r'
 |_,_=>false
def VD:Sh→SC→Option (D × Sh)
 |.int k r,c=>match c.int? with
  |some (k',n)=>match cS k k' with
   |true=>some (.int n,r)
   |false=>none
  |none=>none
 |.bool r,c=>match c.bool? with
  |some b=>some (.bool b,r)
  |none=>none
 |.str r,.str l=>some (.str l,r)
 |.ints k r,.sl _ (.ints k' l)=>match cS k k' with
  |true=>some (.ints l,r)
  |false=>none
 |.ints _ r,.val (.slice none 0 0)=>some (.ints [],r)
 |.ae s r,.sl _ (.ae s' l)=>match fx s s' with
  |true=>some (.ae l,r)
  |false=>none
 |.ae _ r,.val (.slice none 0 0)=>some (.ae [],r)
 |_,_=>none
def Md:Sh→List SC→Option E
 |.nil,[]=>some []
 |s,c :: cs=>match VD s c with
  |some (d,r)=>match Md r cs with
   |some x=>some (d :: x)
   |none=>none
  |none=>none
 |_,_=>none
def Ma (s:Sh):List SA→Option (List E)
 |[]=>some []
 |v :: l=>match Md s v.cells,Ma s l with
  |some x,some xs=>some (x :: xs)
  |_,_=>none
def JJ (k:IntKind):List SA→Option (List Int)
 |[]=>some []
 |.one c :: l=>match c.int? with
  |some (k',n)=>match cS k k' with
   |true=>match JJ k l with
    |some ns=>some (n :: ns)
    |none=>none
   |false=>none
  |none=>none
 |_=>none
def QM (h:Option Ct) (sz:Nat) (vs:List SA):Option Ct :=
 match h with
 |some (.ints k _)=>match bF sz 1 with
  |true=>match JJ k vs with
   |some l=>some (.ints k l)
   |none=>none
  |false=>none
 |some (.ae s _)=>match bF s.size sz with
  |true=>match Ma s vs with
   |some l=>some (.ae s l)
   |none=>none
  |false=>none
 |none=>none
def cy (h:H) (d:Nat):Bool :=
 match ak h d with
 |none=>true
 |some _=>false
def idxs:List Nat→Nat→Nat→Bool
 |[],k,n=>bF k n
 |i :: l,k,n=>bF i k && idxs l (k+1) n
def dZ (u:Nat):Nat:=1000000000+u
def bn (f:Nat):Nat:=1000000+f
def bM (u:Nat):Nat:=1000 * (u+1)
def iC (h:H) (id:Nat):Bool :=
 match ak h id with
 |some .tok=>true
 |_=>false
def db (A:Ar):Ct→Ct→Option Ct
 |.ints k l,.ints k' m=>match cS k k' with
  |true=>some (.ints k (A.JS l m))
  |false=>none
 |.ae s l,.ae s' m=>match fx s s' with
  |true=>some (.ae s (A.UP l m))
  |false=>none
 |_,_=>none
def jd (h:H):SC→Option Ct
 |.sl _ c=>some c
 |.own n=>match ak h n with
  |some (.row _ c)=>some c
  |some (.eK c)=>some c
  |_=>none
 |_=>none
def dD (h:H) (c1:Ct):SC→Option Ct
 |.val (.slice none 0 0)=>some (eC c1)
 |c=>jd h c
def mZ (cx:Cx) (h:H) (t e:TypeId):SC→Option (List (Nat × dP) × Ct)
 |.sl (some (id,e')) c1=>match iC h id && bF e e' with
  |true=>some ([(id,.dead)],c1)
  |false=>none
 |.val (.slice none 0 0)=>match look cx.hs t with
  |some c=>some ([],eC c)
  |none=>none
 |_=>none
def kJ (h:H) (e:TypeId):SC→Option Nat
 |.own n=>match ak h n with
  |some (.emp e')=>match bF e e' with
   |true=>some n
   |false=>none
  |_=>none
 |_=>none
def gJ (A:Ar) (cx:Cx) (h:H) (u n:Nat) (t t' : TypeId):bz→bz→Option cr
 | ⟨gx,_⟩,⟨gy,.sa (.one y)⟩ =>
  match look cx.tt t with
  |some ⟨.slice e sz,_,_,_,_⟩=>match look cx.tt e,look cx.bs e,look cx.hs t with
   |some te,some b,some c=>match dD h (eC c) y with
     |some c2=>match db A (eC c) c2 with
      |some ct=>match bF te.size sz && (bF t t' && (cy h (bM u) && (dr 1 sz && (dr 1 b && bF c.sz sz)))) with
       |true=>some ⟨need gx∧need gy∧A.fits (ct.len A) b=true,⟨none,.sa (.one (.own (bM u)))⟩,[(n,.dead),(bM u,.row e ct)]⟩
       |false=>none
      |none=>none
     |none=>none
   |_,_,_=>none
  |_=>none
 |_,_=>none
def ownRow (h:H) (e:TypeId):SC→Option (Nat × Ct)
 |.own n=>match ak h n with
  |some (.row e' c)=>match bF e e' with
   |true=>some (n,c)
   |false=>none
  |_=>none
 |_=>none
def gw (A:Ar) (cx:Cx) (h:H) (u n:Nat) (c1:Ct) (t t' : TypeId):bz→bz→Option cr
 | ⟨gx,_⟩,⟨gy,.sa (.one y)⟩ =>
  match look cx.tt t with
  |some ⟨.slice e sz,_,_,_,_⟩=>match look cx.tt e,look cx.bs e with
   |some te,some b=>match dD h c1 y with
     |some c2=>match db A c1 c2 with
      |some ct=>match bF te.size sz && (bF t t' && (cy h (bM u) && (dr 1 sz && (dr 1 b && bF c1.sz sz)))) with
       |true=>some ⟨need gx∧need gy∧A.fits (ct.len A) b=true,⟨none,.sa (.one (.own (bM u)))⟩,[(n,.dead),(bM u,.row e ct)]⟩
       |false=>none
      |none=>none
     |none=>none
   |_,_=>none
  |_=>none
 |_,_=>none
def gz (A:Ar) (cx:Cx) (h:H) (u:Nat) (t t' : TypeId):bz→bz→Option cr
 | ⟨gx,.sa (.one (.val (.slice none 0 0)))⟩,⟨gy,.sa (.one y)⟩ =>
  match look cx.tt t with
  |some ⟨.slice e sz,_,_,_,_⟩=>match look cx.tt e,look cx.bs e,look cx.hs t with
   |some te,some b,some c=>match dD h (eC c) y with
     |some c2=>match db A (eC c) c2 with
      |some ct=>match bF te.size sz && (bF t t' && (cy h (bM u) && (dr 1 sz && (dr 1 b && bF c.sz sz)))) with
       |true=>some ⟨need gx∧need gy∧A.fits (ct.len A) b=true,⟨none,.sa (.one (.own (bM u)))⟩,[(bM u,.row e ct)]⟩
       |false=>none
      |none=>none
     |none=>none
   |_,_,_=>none
  |_=>none
 |_,_=>none
def ko (A:Ar) (cx:Cx) (h:H) (u:Nat) (t t' : TypeId):bz→bz→Option cr
 | ⟨gx,.sa (.one x)⟩,⟨gy,.sa (.one y)⟩ =>
  match look cx.tt t with
  |some ⟨.slice e sz,_,_,_,_⟩=>match look cx.tt e,look cx.bs e with
   |some te,some b =>
    match mZ cx h t e x with
    |some (kill,c1)=>match dD h c1 y with
     |some c2=>match db A c1 c2 with
      |some ct=>match bF te.size sz && (bF t t' && (cy h (bM u) && (dr 1 sz && (dr 1 b && bF c1.sz sz)))) with
       |true=>some ⟨need gx∧need gy∧A.fits (ct.len A) b=true,⟨none,.sa (.one (.sl (some (bM u,e)) ct))⟩,kill ++ [(bM u,.tok)]⟩
       |false=>none
      |none=>none
     |none=>none
    |none=>none
   |_,_=>none
  |_=>none
 |_,_=>none
def HZ (A:Ar):Ct→Ct→Option Ct
 |.ints k l,.ints k' m=>match cS k k' with
  |true=>some (.ints k (A.Uq l m))
  |false=>none
 |.ae s l,.ae s' m=>match fx s s' with
  |true=>some (.ae s (A.SG l m))
  |false=>none
 |_,_=>none
def EZ (n:Nat):SC→Bool
 |.own k=>!bF k n
 |_=>true
def gE (A:Ar) (cx:Cx) (h:H) (t:TypeId):bz→bz→Option cr
 | ⟨gx,.sa (.one (.own n))⟩,⟨gy,.sa (.one y)⟩ =>
  match look cx.tt t,ak h n with
  |some ⟨.slice _ sz,_,_,_,_⟩,some (.row bt c)=>match dD h c y with
   |some c2=>match HZ A c c2 with
    |some c'=>match bF c.sz sz && EZ n y with
     |true=>some ⟨need gx∧need gy,⟨none,.sa (.one (.val (.int .i64 (A.yU (A.cmp .lss (c2.len A) (c.len A)) (c2.len A) (c.len A)))))⟩,[(n,.row bt c')]⟩
     |false=>none
    |none=>none
   |none=>none
  |_,_=>none
 |_,_=>none
def GU (A:Ar) (c:Ct) (i:Int) (j:Nat) (v:SA):Option Ct :=
 match c with
 |.ints k l=>match v with
  |.one x=>match x.int? with
   |some (k',n)=>match cS k k' with
    |true=>some (.ints k (A.TX l i n))
    |false=>none
   |none=>none
  |_=>none
 |.ae s l=>match dr (j+v.cells.length) s.size with
  |true=>match Md s (dS (cG A s (A.RW l i) 0 s.size) j v.cells) with
   |some x=>some (.ae s (A.Uy l i x))
   |none=>none
  |false=>none
def bp:SC→List Nat
 |.ptr n _ | .own n | .rp n _ _ | .sl (some (n,_)) _ | .fn _ n | .mp n | .nw n _ | .ux _ n _ | .vw n _=>[n]
 |.tr _ n k=>[n,k]
 |_=>[]
def bg:SA→List Nat
 |.one c=>bp c
 |.agg cs=>cs.flatMap bp
 |.fb _=>[]
def bm (e:bz):List Nat :=
 match e.v with
 |.sa x=>bg x
 |.bB xs=>xs.flatMap bg
def Tv:Option dP→List Nat
 |some (.cells _ cs)=>cs.flatMap bp
 |_=>[]
def kg (n:Nat) (l:List Nat):Bool:=l.any (bF n)
def reach:Nat→H→List Nat→List Nat→List Nat
 |0,_,_,seen=>seen
 |_+1,_,[],seen=>seen
 |f+1,h,n :: l,seen=>match kg n seen with
  |true=>reach f h l seen
  |false=>reach f h (Tv (ak h n) ++ l) (seen ++ [n])
def jN (m:List (Nat × Nat)):SC→Option SC
 |.ptr n o=>match look m n with
  |some i=>some (.ptr i o)
  |none=>none
 |.fn g n=>match look m n with
  |some i=>some (.fn g i)
  |none=>none
 |.own n=>match look m n with
  |some i=>some (.own i)
  |none=>none
 |.mp n=>match look m n with
  |some i=>some (.mp i)
  |none=>none
 |.sl (some (n,e)) c=>match look m n with
  |some i=>some (.sl (some (i,e)) c)
  |none=>none
 |.rp n x j=>match look m n with
  |some i=>some (.rp i x j)
  |none=>none
 |.nw n o=>match look m n with
  |some i=>some (.nw i o)
  |none=>none
 |.ux g n o=>match look m n with
  |some i=>some (.ux g i o)
  |none=>none
 |.tr g n k=>match look m n,look m k with
  |some i,some j=>some (.tr g i j)
  |_,_=>none
 |.vw _ _=>none
 |c=>some c.qe
def oH (m:List (Nat × Nat)):List SC→Option (List SC)
 |[]=>some []
 |c :: l=>match jN m c,oH m l with
  |some x,some xs=>some (x :: xs)
  |_,_=>none
def OG (m:List (Nat × Nat)):SA→Option SA
 |.one c=>match jN m c with
  |some x=>some (.one x)
  |none=>none
 |.agg cs=>match oH m cs with
  |some xs=>some (.agg xs)
  |none=>none
 |.fb c=>some (.fb c)
def wR (m:List (Nat × Nat)):List SA→Option (List SA)
 |[]=>some []
 |c :: l=>match OG m c,wR m l with
  |some x,some xs=>some (x :: xs)
  |_,_=>none
def GO (m:List (Nat × Nat)):SV→Option SV
 |.sa x=>match OG m x with
  |some y=>some (.sa y)
  |none=>none
 |.bB xs=>match wR m xs with
  |some ys=>some (.bB ys)
  |none=>none
def Cl (m:List (Nat × Nat)):dP→Option dP
 |.cells t cs=>match oH m cs with
  |some xs=>some (.cells t xs)
  |none=>none
 |b=>some b
def lg (m:List (Nat × Nat)) (h:H):List Nat→Option H
 |[]=>some []
 |n :: l=>match look m n,ak h n,lg m h l with
  |some i,some b,some r=>match Cl m b with
   |some b'=>some ((i,b') :: r)
   |none=>none
  |_,_,_=>none
def bG:Nat→List Nat→List (Nat × Nat)
 |_,[]=>[]
 |i,n :: l=>(n,i) :: bG (i+1) l
def bI (m:List (Nat × Nat)):List (Nat × Nat):=m.map fun p=>(p.2,p.1)
def ki (h:H):SC→Option SC
 |.ptr _ _ | .rp _ _ _ | .fn _ _ | .mp _ | .nw _ _ | .ux _ _ _ | .tr _ _ _ | .vw _ _=>none
 |.own n=>match ak h n with
  |some (.row _ c)|some (.eK c)=>some (.sl none c)
  |_=>none
 |.sl _ c=>some (.sl none c)
 |c=>some c.qe
def gD (h:H):List SC→Option (List SC)
 |[]=>some []
 |c :: l=>match ki h c,gD h l with
  |some x,some xs=>some (x :: xs)
  |_,_=>none
def iF (h:H):SA→Option SA
 |.one c=>match ki h c with
  |some x=>some (.one x)
  |none=>none
 |.agg cs=>match gD h cs with
  |some xs=>some (.agg xs)
  |none=>none
 |.fb c=>some (.fb c)
def ek (h:H):List SA→Option (List SA)
 |[]=>some []
 |c :: l=>match iF h c,ek h l with
  |some x,some xs=>some (x :: xs)
  |_,_=>none
def rowsOf (h:H):List Nat→H
 |[]=>[]
 |n :: l=>match ak h n with
  |some (.row _ c)=>(n,.eK c) :: rowsOf h l
  |_=>rowsOf h l
def mC:SC→SC→List (Nat × Nat)
 |.ptr k _,.ptr i _=>[(i,k)]
 |.fn _ k,.fn _ i=>[(i,k)]
 |.own k,.own i=>[(i,k)]
 |.mp k,.mp i=>[(i,k)]
 |.sl (some (k,_)) _,.sl (some (i,_)) _=>[(i,k)]
 |.rp k _ _,.rp i _ _=>[(i,k)]
 |.nw k _,.nw i _=>[(i,k)]
 |.ux _ k _,.ux _ i _=>[(i,k)]
 |.tr _ k l,.tr _ i j=>[(i,k),(j,l)]
 |_,_=>[]
def Wm:List SC→List SC→List (Nat × Nat)
 |c :: cs,d :: ds=>mC c d ++ Wm cs ds
 |_,_=>[]
def mA:SA→SA→List (Nat × Nat)
 |.one c,.one d=>mC c d
 |.agg cs,.agg ds=>Wm cs ds
 |_,_=>[]
def ZC:List SA→List SA→List (Nat × Nat)
 |c :: cs,d :: ds=>mA c d ++ ZC cs ds
 |_,_=>[]
def mE (x y:bz):List (Nat × Nat) :=
 match x.v,y.v with
 |.sa a,.sa b=>mA a b
 |_,_=>[]
def YX:List bz→List bz→List (Nat × Nat)
 |c :: cs,d :: ds=>mE c d ++ YX cs ds
 |_,_=>[]
def mB:Option dP→Option dP→List (Nat × Nat)
 |some (.cells _ cs),some (.cells _ ds)=>Wm cs ds
 |_,_=>[]
def close (h h' : H):Nat→List (Nat × Nat)→List (Nat × Nat)→List (Nat × Nat)
 |0,_,acc=>acc
 |_+1,[],acc=>acc
 |f+1,(i,k) :: w,acc=>match look acc i with
  |some _=>close h h' f w acc
  |none=>close h h' f (w ++ mB (ak h k) (ak h' i)) (acc ++ [(i,k)])
def jM (m:List (Nat × Nat)) (i k:Nat):Bool :=
 match look m i with
 |some n=>bF n k
 |none=>false
def qS:Ct→Ct→Prop
 |.ints k l,.ints k' l'=>k=k'∧l=l'
 |.ae s l,.ae s' l'=>s=s'∧l=l'
 |_,_=>False
def Ct.sm:Ct→Prop
 |.ints _ l=>l=[]
 |.ae _ l=>l=[]
def rz:dP→Prop
 |.tok=>True
 |.row _ c=>c.sm
 |_=>False
def Nw:Option dP→Prop
 |some (.row _ c)=>c.sm
 |_=>False
def hasB (h:H) (b:Nat):Bool :=
 match ak h b with
 |some (.cells _ _)|some (.row _ _)=>true
 |_=>false
def dq (h:H) (b:Nat):Bool :=
 match ak h b with
 |some (.row _ _)=>true
 |_=>false
def fp (h:H) (b:Nat):Bool :=
 match ak h b with
 |some (.cells _ _)=>true
 |_=>false
def Sq (h:H) (b:Nat):Bool :=
 match ak h b with
 |some (.mp _)=>true
 |_=>false
def tW (m:List (Nat × Nat)) (i:Nat):Bool :=
 match look m i with
 |some _=>false
 |none=>true
structure Mt where
 m:List (Nat × Nat)
 h:H
 h' : H
 ks:List Nat
 fr:Bool
def SC.le (M:Mt):SC→SC→Prop
 |_,.any=>True
 |.val u,.val v=>u=v
 |.num k n,.num k' n'=>k=k'∧n=n'
 |.num k n,.val (.int k' n')=>k=k'∧n=n'
 |.tf b,.tf b'=>b=b'
 |.tf b,.val (.bool b')=>b=b'
 |.val (.slice none 0 0),.sl none c=>c.sm
 |.val (.slice none 0 0),.sl (some (i,_)) c=>c.sm∧tW M.m i=true∧iC M.h' i=true
 |.val (.slice none 0 0),.own i=>tW M.m i=true∧Nw (ak M.h' i)
 |.ptr b o,.ptr b' o'=>jM M.m b' b=true∧hasB M.h' b' = true∧o=o'
 |.fn g b,.fn g' b'=>jM M.m b' b=true∧hasB M.h' b' = true∧g=g'
 |.own b,.own b'=>jM M.m b' b=true∧dq M.h' b' = true
 |.mp b,.mp b'=>jM M.m b' b=true∧Sq M.h' b' = true
 |.rp b i j,.rp b' i' j'=>jM M.m b' b=true∧dq M.h' b' = true∧i=i'∧j=j'
 |.nw b o,.nw b' o'=>jM M.m b' b=true∧hasB M.h' b' = true∧o=o'
 |.ux g b o,.ux g' b' o'=>jM M.m b' b=true∧hasB M.h' b' = true∧g=g'∧o=o'
 |.tr g b c,.tr g' b' c'=>jM M.m b' b=true∧hasB M.h' b' = true∧jM M.m c' c=true∧hasB M.h' c' = true∧g=g'
 |.own b,.sl none c=>match ak M.h b with
  |some (.row _ c0)=>(M.fr && !kg b M.ks)=true∧qS c0 c
  |some (.eK c0)=>qS c0 c
  |_=>False
 |.str l,.str l'=>l=l'
 |.sl (some (b,e)) c,.sl (some (b',e')) c'=>(jM M.m b' b=true∧iC M.h' b' = true∧e=e')∧qS c c'
 |.sl _ c,.sl none c'=>qS c c'
 |_,_=>False
def jC (M:Mt):List SC→List SC→Prop
 |[],[]=>True
 |x :: xs,y :: ys=>x.le M y∧jC M xs ys
 |_,_=>False
def SA.le (M:Mt):SA→SA→Prop
 |_,.one .any=>True
 |.one x,.one y=>x.le M y
 |.agg xs,.agg ys=>jC M xs ys
 |.fb c,.fb c'=>qS c c'
 |_,_=>False
def Io (M:Mt):List SA→List SA→Prop
 |[],[]=>True
 |x :: xs,y :: ys=>x.le M y∧Io M xs ys
 |_,_=>False
def wL (M:Mt):List SA→List SA→Prop
 |_,[]=>True
 |x :: xs,y :: ys=>x.le M y∧wL M xs ys
 |_,_=>False
def SV.le (M:Mt):SV→SV→Prop
 |_,.sa (.one .any)=>True
 |.sa x,.sa y=>x.le M y
 |.bB xs,.bB ys=>Io M xs ys
 |_,_=>False
def bz.le (M:Mt):bz→bz→Prop
 |_,⟨none,.sa (.one .any)⟩=>True
 | ⟨none,x⟩,⟨none,y⟩=>x.le M y
 |_,_=>False
def gV (M:Mt):List bz→List bz→Prop
 |[],[]=>True
 |x :: xs,y :: ys=>x.le M y∧gV M xs ys
 |_,_=>False
def eU (M:Mt):dP→dP→Prop
 |.cells t x,.cells u y=>t=u∧jC M x y
 |.row t c,.row u c'=>t=u∧qS c c'
 |.mp l,.mp l'=>l=l'
 |.tok,.tok=>True
 |_,_=>False
def iN (M:Mt):H→Prop
 |[]=>True
 |(i,b) :: l=>(match look M.m i with
  |some k=>match ak M.h k with
   |some b0=>eU M b0 b
   |none=>False
  |none=>rz b)∧iN M l
def kept (m:List (Nat × Nat)):H→List Nat
 |[]=>[]
 |(i,_) :: l=>match look m i with
  |some k=>k :: kept m l
  |none=>kept m l
def distinct:List Nat→Bool
 |[]=>true
 |k :: l=>!kg k l && distinct l
def St.NA (fr:Bool) (m:List (Nat × Nat)) (s t:St):Prop :=
 distinct (kept m t.heap)=true∧gV ⟨m,s.heap,t.heap,kept m t.heap,fr⟩ s.eI t.eI∧wL ⟨m,s.heap,t.heap,kept m t.heap,fr⟩ s.gs t.gs∧iN ⟨m,s.heap,t.heap,kept m t.heap,fr⟩ t.heap
def St.le (s t:St):Prop:=s.NA true (close s.heap t.heap 200 (YX s.eI t.eI ++ ZC s.gs t.gs) []) t
def eP (r:SV):List bz :=
 match r with
 |.sa x=>[⟨none,.sa x⟩]
 |.bB xs=>xs.map fun x=>⟨none,.sa x⟩
def Dv (x:SA):bz:=⟨none,.sa x⟩
def names (roots:List (Nat × Nat)) (b:Nat):H→List (Nat × Nat)
 |[]=>[]
 |(i,_) :: l=>match look roots i with
  |some n=>(i,n) :: names roots b l
  |none=>(i,b) :: names roots (b+1) l
def cD:List SA→List SA→List (Nat × Nat)
 |.one (.ptr n o) :: xs,.one (.ptr i o') :: ys=>match bF o o' with
  |true=>(i,n) :: cD xs ys
  |false=>cD xs ys
 |.one (.own n) :: xs,.one (.own i) :: ys=>(i,n) :: cD xs ys
 |.one (.mp n) :: xs,.one (.mp i) :: ys=>(i,n) :: cD xs ys
 |.one (.rp n _ j) :: xs,.one (.rp i _ j') :: ys=>match bF j j' with
  |true=>(i,n) :: cD xs ys
  |false=>cD xs ys
 |.one (.nw n o) :: xs,.one (.nw i o') :: ys=>match bF o o' with
  |true=>(i,n) :: cD xs ys
  |false=>cD xs ys
 |.one (.ux _ n o) :: xs,.one (.ux _ i o') :: ys=>match bF o o' with
  |true=>(i,n) :: cD xs ys
  |false=>cD xs ys
 |.one (.tr _ n k) :: xs,.one (.tr _ i j) :: ys=>(i,n) :: (j,k) :: cD xs ys
 |_ :: xs,_ :: ys=>cD xs ys
 |_,_=>[]
def df:List SC→List SC
 |[]=>[]
 |.own j :: l=>.own j :: df l
 |.ptr j o :: l=>.ptr j o :: df l
 |_ :: l=>df l
def pZ (h:H):List SC:=h.flatMap fun p=>match ak h p.1 with
 |some (.cells _ cs)=>df cs
 |_=>[]
def mh:SA→List SC
 |.agg cs=>df cs
 |_=>[]
def bS (args:List SA) (h:H):List SC:=pZ h ++ args.flatMap mh
def fJ:List SC→List SA→List (Bool × Nat × Nat)
 |.own j :: l,.one (.own i) :: ys=>(true,i,j) :: fJ l ys
 |.ptr j _ :: l,.one (.ptr i _) :: ys=>(false,i,j) :: fJ l ys
 |_ :: l,_ :: ys=>fJ l ys
 |_,_=>[]
def Ji (h0 ph:H):Bool × Nat × Nat→Bool
 |(true,i,j)=>dq h0 j && dq ph i
 |(false,i,j)=>fp h0 j && fp ph i
def bO (seen:List Nat) (args:List SA) (h0 ph:H) (vs as:List SA):List (Nat × Nat):=cD vs as ++ (fJ (bS args h0) (as.drop vs.length)).filterMap fun p=>match Ji h0 ph p,seen[p.2.2]? with
 |true,some n=>some (p.2.1,n)
 |_,_=>none
def kq:List SA→List SA→Prop
 |.one (.rp _ i _) :: xs,.one (.rp _ i' _) :: ys=>i=i'∧kq xs ys
 |_ :: xs,_ :: ys=>kq xs ys
 |_,_=>True
def FI (ns:List (Nat × Nat)):Bool:=ns.all fun p=>jM (bI ns) p.2 p.1
def fC (h:H) (roots:List (Nat × Nat)):List (Nat × Nat)→Bool
 |[]=>true
 |(i,n) :: l=>(match look roots i with
  |some _=>true
  |none=>cy h n) && fC h roots l
def IG:Option dP→Option dP→Prop
 |some (.cells _ _),some (.cells _ _)=>True
 |some (.row _ c),some (.row _ c')=>c'.len Ar.U=c.len Ar.U∧c'.sz=c.sz
 |some (.mp _),some (.mp _)=>True
 |_,_=>False
def jA (h h' : H) (roots:List (Nat × Nat)):List (Nat × Nat)→Prop
 |[]=>True
 |(i,n) :: l=>(match look roots i with
  |some _=>IG (ak h n) (ak h' i)
  |none=>True)∧jA h h' roots l
def eN (keys:List Nat):List Nat→H
 |[]=>[]
 |n :: l=>match kg n keys with
  |true=>eN keys l
  |false=>(n,.dead) :: eN keys l
def vg (h:H):List Nat→H
 |[]=>[]
 |n :: l=>match ak h n with
  |some b=>(n,b) :: vg h l
  |none=>vg h l
def Dt (m ns:List (Nat × Nat)):Bool:=ns.all fun p=>jM m p.2 p.1
def en (kp:Bool) (h:H) (u:Nat) (bJ:aW) (s:Prop) (vs:List SA):Option cr :=
 let seen:=reach 200 h (vs.flatMap bg) []
 let m:=bG 0 seen
 match wR m vs,lg m h seen with
 |some args,some h0=>match bJ args h0 with
  |some p =>
   let roots:=bO seen args h0 p.h vs p.as
   let ns:=names roots (bM u) p.h
   match GO ns p.r,lg ns p.h (p.h.map (·.1)) with
   |some r,some h1=>match fC h roots ns && (distinct (h1.map (·.1)) && (FI ns && bF args.length vs.length)) with
    |true=>some ⟨s∧p.C∧(St.mk [] (vg h seen) vs).NA false (bI m) (St.mk [] h0 args)∧(St.mk (eP p.r) p.h []).NA false (bI ns) (St.mk (eP r) h1 [])∧jA h p.h roots ns∧kq vs p.as,⟨none,r⟩,match kp && (Dt m ns && seen.all fun n=>kg n (h1.map (·.1))) with
      |true=>[]
      |false=>eN (h1.map (·.1)) seen ++ h1⟩
    |false=>none
   |_,_=>none
  |none=>none
 |_,_=>none
def By:SC→Bool
 |.ptr _ _ | .sl _ _ | .own _ | .rp _ _ _ | .Mr _ _ | .CE _ _ _ | .fn _ _ | .mp _ | .nw _ _ | .ux _ _ _ | .tr _ _ _ | .vw _ _=>false
 |_=>true
def BU:SA→Bool
 |.one c=>By c
 |.agg cs=>cs.all By
 |.fb _=>false
def Nb:SV→Bool
 |.sa x=>BU x
 |.bB xs=>xs.all BU
def eB (h:H) (u:Nat) (bJ:aW) (s:Prop) (vs:List SA):Option cr :=
 match ek h vs with
 |some args=>match bJ args [] with
  |some p =>
   let ns:=names [] (bM u) p.h
   match GO ns p.r,lg ns p.h (p.h.map (·.1)) with
   |some r,some h1=>match fC h [] ns && (distinct (h1.map (·.1)) && FI ns) with
    |true=>match Nb p.r && p.h.isEmpty with
     |true=>some ⟨s∧p.C,⟨none,p.r⟩,[]⟩
     |false=>some ⟨s∧p.C∧(St.mk (eP p.r) p.h []).NA false (bI ns) (St.mk (eP r) h1 []),⟨none,r⟩,rowsOf h (vs.flatMap bg) ++ h1⟩
    |false=>none
   |_,_=>none
  |none=>none
 |none=>none
def fQ (kp:Bool) (h:H) (u:Nat) (bJ:aW) (s:Prop) (vs:List SA):Option cr :=
 match en kp h u bJ s vs with
 |some E=>some E
 |none=>eB h u bJ s vs
def cO (A:Ar) (cx:Cx) (h:H) (t:TypeId):bz→bz→Option cr
 | ⟨g,.sa (.one x)⟩,⟨g',.sa (.one y)⟩=>match y.int?,look cx.tt t with
  |some (_,i),some ⟨.slice _ n,_,_,_,_⟩=>match x with
   |.sl _ (.ints k l)=>match bF n 1 with
    |true=>bV (need g∧need g'∧A.cmp .geq i 0=true∧A.cmp .lss i (A.gr l)=true) (.Mr k (A.Sa l i))
    |false=>none
   |.sl _ (.ae s l)=>match bF n s.size with
    |true=>bV (need g∧need g'∧A.cmp .geq i 0=true∧A.cmp .lss i (A.dw l)=true) (.CE s (A.RW l i) 0)
    |false=>none
   |.own b=>match ak h b with
    |some (.row _ c)=>match bF n c.sz with
     |true=>bV (need g∧need g'∧A.cmp .geq i 0=true∧A.cmp .lss i (c.len A)=true) (.rp b i 0)
     |false=>none
    |some (.eK c)=>match bF n c.sz with
     |true=>match c with
      |.ints k l=>bV (need g∧need g'∧A.cmp .geq i 0=true∧A.cmp .lss i (A.gr l)=true) (.Mr k (A.Sa l i))
      |.ae s l=>bV (need g∧need g'∧A.cmp .geq i 0=true∧A.cmp .lss i (A.dw l)=true) (.CE s (A.RW l i) 0)
     |false=>none
    |_=>none
   |_=>none
  |some (_,i),some ⟨.array len n _,_,_,_,_⟩=>match x with
   |.ptr b off=>match ak h b with
    |some (.cells _ _)=>match (y.lit || bF len 2) && (ah .geq i 0 && ah .lss i len) with
     |true=>bV (need g∧need g') (.ptr b (off+i.toNat * n))
     |false=>none
    |some (.row _ c)=>match bF off 0 && (bF c.sz 1 && (dr 1 n && dr (len * n) 1000000)) with
     |true=>bV (need g∧need g'∧A.cmp .geq i 0=true∧A.cmp .lss i len=true∧A.cmp .leq ((len * n:Nat):Int) (c.len A)=true) (.rp b (match bF n 1 with
      |true=>i
      |false=>A.bin .mul .i64 i n) 0)
     |false=>none
    |_=>none
   |.rp b i0 0=>match ak h b with
    |some (.row _ c)=>match bF c.sz 1 && (dr 1 n && dr (len * n) 1000000) with
     |true=>bV (need g∧need g'∧A.cmp .geq i 0=true∧A.cmp .lss i len=true∧A.cmp .leq (c.len A) 1000000=true∧A.cmp .leq (A.bin .add .i64 i0 ((len * n:Nat):Int)) (c.len A)=true)
       (.rp b (A.bin .add .i64 i0 (match bF n 1 with
        |true=>i
        |false=>A.bin .mul .i64 i n)) 0)
     |false=>none
    |_=>none
   |.CE s q j=>match y.lit && (ah .geq i 0 && ah .lss i len) with
    |true=>bV (need g∧need g') (.CE (s.drop (i.toNat * n)) q (j+i.toNat * n))
    |false=>none
   |_=>none
  |_,_=>none
 |_,_=>none
def lH (A:Ar) (cx:Cx) (t:TypeId):bz→bz→Option cr
 | ⟨g,.sa x⟩,⟨g',.sa (.one y)⟩=>match y.int?,look cx.tt t with
  |some (_,i),some ⟨.array len n ag,_,_,_,_⟩=>match x with
   |.agg cs=>match y.lit && (ah .geq i 0 && ah .lss i len) with
    |true=>match ag with
     |true=>match dK cs (i.toNat * n) n with
      |some l=>some ⟨need g∧need g',⟨none,.sa (.agg l)⟩,[]⟩
      |none=>none
     |false=>match dK cs (i.toNat * n) 1 with
      |some [c]=>bV (need g∧need g') c
      |_=>none
    |false=>none
   |.fb c=>match ag with
    |true=>none
    |false=>match bF n 1 && bF c.sz 1 with
     |true=>match c.at A i 0 1 with
      |[d]=>bV (need g∧need g'∧A.cmp .geq i 0=true∧A.cmp .lss i len=true∧A.cmp .leq len (c.len A)=true) d
      |_=>none
     |false=>none
   |_=>none
  |some (_,i),some ⟨.str,_,_,_,_⟩=>match x with
   |.one (.str l)=>bV (need g∧need g'∧A.cmp .geq i 0=true∧A.cmp .lss i (A.gr l)=true) (.val (.int .u8 (A.Sa l i)))
   |_=>none
  |_,_=>none
 |_,_=>none
def gL (A:Ar) (cx:Cx) (h:H) (src dt:TypeId):bz→Option cr
 | ⟨g,.sa (.one c)⟩=>match look cx.tt src,look cx.tt dt with
  |some ⟨.slice e _,_,_,_,_⟩,some ⟨.str,_,_,_,_⟩=>match look cx.tt e with
   |some ⟨.int .u8,_,_,_,_⟩=>match c with
    |.val (.slice none 0 0)=>bV (need g) (.str [])
    |c=>match jd h c with
     |some (.ints .u8 l)=>bV (need g) (.str (A.IU l))
     |_=>none
   |_=>none
  |some ⟨.str,_,_,_,_⟩,some ⟨.slice e sz,_,_,_,_⟩=>match look cx.tt e with
   |some ⟨.int .u8,_,_,_,_⟩=>match bF sz 1 with
    |true=>match c with
     |.str l=>bV (need g∧A.fits (A.gr l) 1=true) (.sl none (.ints .u8 l))
     |_=>none
    |false=>none
   |_=>none
  |some ⟨.slice e _,_,_,_,_⟩,some ⟨.slice _ _,_,_,_,_⟩=>match look cx.tt e with
   |some ⟨.int .u8,_,_,_,_⟩=>match bF src dt,c with
    |true,.sl (some (id,_)) (.ints k l)=>match iC h id with
     |true=>some ⟨need g∧A.cmp .gtr (A.gr l) 0=true,⟨none,.sa (.one (.sl none (.ints k l)))⟩,[(id,.dead)]⟩
     |false=>none
    |_,_=>none
   |_=>none
  |some _,some ⟨.int k,_,_,_,_⟩=>match c.int? with
   |some (_,n)=>bV (need g) (OT c.lit k ((A.lit c.lit).conv k n))
   |none=>none
  |_,_=>none
 |_=>none
def gM (A:Ar) (cx:Cx) (h:H) (t:TypeId):bz→Option cr
 | ⟨g,.sa (.one (.ptr b off))⟩=>match AZ A cx (ak h b) off t with
  |some (C,v)=>some ⟨need g∧C,⟨none,.sa v⟩,[]⟩
  |none=>none
 | ⟨g,.sa (.one (.rp b i j))⟩=>match ak h b,look cx.tt t with
  |some (.row _ c),some ti=>match ti.k.agg with
   |true=>match dr (j+ti.size) c.sz with
    |true=>some ⟨need g,⟨none,.sa (.agg (c.at A i j ti.size))⟩,[]⟩
    |false=>none
   |false=>match dr (j+1) c.sz,c.at A i j 1 with
    |true,[d]=>bV (need g) d
    |_,_=>none
  |_,_=>none
 | ⟨g,.sa (.one (.Mr k n))⟩=>match look cx.tt t with
  |some ti=>match ti.k.agg with
   |true=>none
   |false=>bV (need g) (.val (.int k n))
  |none=>none
 | ⟨g,.sa (.one (.nw n off))⟩=>match look cx.tt t with
  |some ti=>match ti.k.agg with
   |true=>none
   |false=>bV (need g) (.ptr n off)
  |none=>none
 | ⟨g,.sa (.one (.CE s x j))⟩=>match look cx.tt t with
  |some ti=>match ti.k.agg with
   |true=>match dr ti.size s.size with
    |true=>some ⟨need g,⟨none,.sa (.agg (cG A s x j ti.size))⟩,[]⟩
    |false=>none
   |false=>match cG A s x j 1 with
    |[c]=>bV (need g) c
    |_=>none
  |none=>none
 |_=>none
def fm (A:Ar) (cx:Cx) (h:H) (t:TypeId) (x y:bz):Option cr :=
 match x,y,look cx.tt t with
 | ⟨g,.sa (.one (.ptr b off))⟩,⟨g',.sa v⟩,some ti=>match ak h b with
  |some (.cells bt bc)=>match bF v.cells.length ti.size && dr (off+ti.size) bc.length with
   |true=>some ⟨need g∧need g'∧v.side,bz.nil,[(b,.cells bt (dS bc off v.cells))]⟩
   |false=>none
  |some (.row bt c0)=>match v with
   |.fb c=>match bF c.sz 1 && (bF c0.sz 1 && bF off 0) with
    |true=>some ⟨need g∧need g'∧A.cmp .eql (c.len A) ti.size=true∧A.cmp .eql (c0.len A) ti.size=true,bz.nil,[(b,.row bt c)]⟩
    |false=>none
   |_=>none
  |_=>none
 | ⟨g,.sa (.one (.rp b i j))⟩,⟨g',.sa v⟩,some ti=>match ak h b with
  |some (.row bt c)=>match bF v.cells.length ti.size && dr (j+ti.size) c.sz with
   |true=>match GU A c i j v with
    |some c'=>some ⟨need g∧need g'∧v.side,bz.nil,[(b,.row bt c')]⟩
    |none=>none
   |false=>none
  |_=>none
 |_,_,_=>none
def cN (cx:Cx) (h:H) (s:TypeId) (f:Nat) (x:bz):Option cr :=
 match x,look cx.tt s with
 | ⟨g,.sa (.one c)⟩,some ⟨.struct fs,_,_,_,_⟩=>match fs[f]? with
  |some (o,n,_,_)=>match bF n 0 with
   |true=>none
   |false=>match c with
    |.ptr b off=>bV (need g) (.ptr b (off+o))
    |.rp b i j=>match dq h b with
     |true=>bV (need g) (.rp b i (j+o))
     |false=>none
    |.CE h y j=>bV (need g) (.CE (h.drop o) y (j+o))
    |_=>none
  |none=>none
 |_,_=>none
def lX (cx:Cx) (s:TypeId) (f:Nat) (x:bz):Option cr :=
 match x,look cx.tt s with
 | ⟨g,.sa (.agg cs)⟩,some ⟨.struct fs,_,_,_,_⟩=>match fs[f]? with
  |some (o,n,true,_)=>match dK cs o n with
   |some l=>some ⟨need g,⟨none,.sa (.agg l)⟩,[]⟩
   |none=>none
  |some (o,_,false,_)=>match dK cs o 1 with
   |some [c]=>bV (need g) c
   |_=>none
  |none=>none
 |_,_=>none
def placeOf (fs:List (Nat × Nat × Bool × List Nat)) (i:Nat):Option (Nat × Nat) :=
 match fs[i]? with
 |some f=>some (f.1,f.2.1)
 |none=>none
def kP (A:Ar) (cx:Cx) (t:TypeId) (is:List Nat) (es:List bz):Option cr :=
 match look cx.tt t,xG es with
 |some ⟨.struct fs,_,z,_,_⟩,some vs=>match wz (placeOf fs) (z.map cellOf) (is.zip vs) with
  |some cs=>some ⟨dE es∧dC vs∧z.all Value.oneCell' = true,⟨none,.sa (.agg cs)⟩,[]⟩
  |none=>none
 |some ⟨.array _ n _,sz,z,_,fl⟩,some vs=>match fl,is,dr sz 8 with
  |some s,[],false=>some ⟨True,⟨none,.sa (.fb (yr A sz s))⟩,[]⟩
  |_,is,_=>match wz (fun i=>some (i * n,n)) (z.map cellOf) (is.zip vs) with
   |some cs=>some ⟨dE es∧dC vs∧z.all Value.oneCell' = true,⟨none,.sa (.agg cs)⟩,[]⟩
   |none=>none
 |_,_=>none
def dy (cx:Cx) (h:H) (u:Nat) (t:TypeId) (n:Nat) (is:List Nat) (es:List bz):Option cr :=
 match look cx.tt t,xG es with
 |some ⟨.slice e sz,_,_,_,_⟩,some vs=>match QM (look cx.hs t) sz vs,look cx.tt e with
  |some ct,some _=>match cy h (bM u) && (idxs is 0 n && (dr 1 sz && (dr (n * sz) 16777216 && vs.all fun v=>bF v.cells.length sz))) with
   |true=>match bF n 0,look cx.fs (dZ u) with
    |true,some _=>some ⟨dE es∧dC vs,⟨none,.sa (.one (.own (bM u)))⟩,[(bM u,.emp e)]⟩
    |_,_=>some ⟨dE es∧dC vs,⟨none,.sa (.one (.sl (some (bM u,e)) ct))⟩,[(bM u,.tok)]⟩
   |false=>none
  |_,_=>none
 |_,_=>none
def mc (A:Ar) (cx:Cx) (h:H) (u:Nat) (t:TypeId):bz→bz→Option cr
 | ⟨g,.sa (.one x)⟩,⟨g',.sa (.one y)⟩=>match x.int?,y.int?,look cx.tt t with
  |some (_,l),some (_,c),some ⟨.slice e sz,_,_,_,_⟩=>match look cx.tt e,look cx.bs e,look cx.hs t with
   |some te,some b,some ct=>match bF te.size sz && (dr 1 sz && (dr 1 b && (bF ct.sz sz && cy h (bM u)))) with
    |true=>match x.lit && ah .eql l 0 with
     |true=>some ⟨need g∧need g'∧A.cmp .geq c 0=true∧A.fits c b=true,⟨none,.sa (.one (.sl (some (bM u,e)) (eC ct)))⟩,[(bM u,.tok)]⟩
     |false=>some ⟨need g∧need g'∧A.cmp .geq l 0=true∧A.cmp .leq l c=true∧A.fits c b=true,⟨none,.sa (.one (.own (bM u)))⟩,[(bM u,.row e (ct.rep A l))]⟩
    |false=>none
   |_,_,_=>none
  |_,_,_=>none
 |_,_=>none
def fq (A:Ar) (cx:Cx) (st:St) (t:TypeId) (x:bz) (lo hi mx:Option Operand):Option cr :=
 match x,look cx.tt t with
 | ⟨g,.sa (.one c)⟩,some ⟨.slice _ n,_,_,_,_⟩=>match jd st.heap c with
  |some ct=>match oz st 0 lo,oz st (ct.len A) hi,oz st 0 mx with
   |some (g1,l),some (g2,h),some (g3,m)=>match bF n ct.sz with
    |true=>match mx,hi,c with
     |none,_,_=>some ⟨need g∧need g1∧need g2∧A.cmp .geq l 0=true∧A.cmp .leq l h=true∧A.cmp .leq h (ct.len A)=true,⟨none,.sa (.one (.sl none (ct.cut A l h)))⟩,rowsOf st.heap (bp c)⟩
     |some _,some _,_=>some ⟨need g∧need g1∧need g2∧need g3∧A.cmp .geq l 0=true∧A.cmp .leq l h=true∧A.cmp .leq h m=true∧A.cmp .leq m (ct.len A)=true,⟨none,.sa (.one (.sl none (ct.cut A l h)))⟩,rowsOf st.heap (bp c)⟩
     |_,_,_=>none
    |false=>none
   |_,_,_=>none
  |none=>none
 |_,_=>none
def fF (h:H) (e:TypeId):SC→Option (Nat × Nat × Int × Ct)
 |.own n=>match ak h n with
  |some (.cg d sz q)=>match ak h d with
   |some (.row e' c)=>match bF e e' with
    |true=>some (d,sz,q,c)
    |false=>none
   |_=>none
  |_=>none
 |_=>none
def lL (A:Ar) (cx:Cx) (st:St) (u:Nat) (t:TypeId) (x:bz) (lo hi:Option Operand):Option cr :=
 match x,look cx.tt t with
 | ⟨g,.sa (.one c)⟩,some ⟨.slice e n,_,_,_,_⟩=>match ownRow st.heap e c with
  |some (m,ct)=>match oz st 0 lo,oz st (ct.len A) hi with
   |some (g1,l),some (g2,h)=>match bF n ct.sz && cy st.heap (bM u) with
    |true=>some ⟨need g∧need g1∧need g2∧A.cmp .geq l 0=true∧A.cmp .leq l h=true∧A.cmp .leq h (ct.len A)=true,⟨none,.sa (.one (.own (bM u)))⟩,[(m,.dead),(bM u,.row e (ct.cut A l h))]⟩
    |false=>none
   |_,_=>none
  |none=>match fF st.heap e c,oz st 0 lo,hi with
   |some (d,sz,q,cd),some (g1,l),none=>match bF n sz && cy st.heap (bM u) with
    |true=>some ⟨need g∧need g1∧A.cmp .eql l q=true,⟨none,.sa (.one (.own (bM u)))⟩,[(d,.dead),(bM u,.row e cd)]⟩
    |false=>none
   |_,_,_=>none
 |_,_=>none
def lj (A:Ar) (cx:Cx) (st:St) (u:Nat) (t:TypeId) (x:bz) (lo hi mx:Option Operand):Option cr :=
 match x,look cx.tt t with
 | ⟨g,.sa (.one c)⟩,some ⟨.slice e n,_,_,_,_⟩=>match ownRow st.heap e c with
  |some (m,ct)=>match oz st 0 lo,oz st (ct.len A) hi,oz st 0 mx with
   |some (g1,l),some (g2,h),some (g3,q)=>match bF n ct.sz && cy st.heap (bM u),hi,mx with
    |true,some _,some _=>some ⟨need g∧need g1∧need g2∧need g3∧A.cmp .geq l 0=true∧A.cmp .leq l h=true∧A.cmp .leq h q=true∧A.cmp .leq q (ct.len A)=true,⟨none,.sa (.one (.sl none (ct.cut A l h)))⟩,[(m,.cg (bM u) n q),(bM u,.row e (ct.cut A q (ct.len A)))]⟩
    |_,_,_=>none
   |_,_,_=>none
  |none=>none
 |_,_=>none
def Lh (u:Nat):Nat:=dZ (500000000+u)
def lR (A:Ar) (cx:Cx) (st:St) (t:TypeId) (x:bz) (lo hi:Option Operand):Option cr :=
 match x,look cx.tt t,hi with
 | ⟨g,.sa (.one c)⟩,some ⟨.slice e n,_,_,_,_⟩,none=>match ownRow st.heap e c,oz st 0 lo with
  |some (m,ct),some (g1,l)=>match bF n ct.sz with
   |true=>bV (need g∧need g1∧A.cmp .geq l 0=true∧A.cmp .leq l (ct.len A)=true) (.vw m l)
   |false=>none
  |_,_=>none
 |_,_,_=>none
def yu:Ct→Ct→Bool
 |.ints k _,.ints k' _=>cS k k'
 |.ae s _,.ae s' _=>fx s s'
 |_,_=>false
def Ct.Ec (A:Ar) (l:Int):Ct→Ct
 |.ints k m=>.ints k (A.Vf m l)
 |.ae s m=>.ae s (A.TZ s.zero m l)
def fg (A:Ar) (cx:Cx) (h:H) (t:TypeId):bz→Option cr
 | ⟨g,.sa (.one (.vw n l))⟩=>match look cx.tt t,look cx.hs t,ak h n with
  |some ⟨.slice e sz,_,_,_,_⟩,some hc,some (.row bt c)=>match look cx.tt e with
   |some te=>match yu hc c && (bF c.sz sz && (bF te.size sz && dr 1 sz)) with
    |true=>some ⟨need g,bz.nil,[(n,.row bt (c.Ec A l))]⟩
    |false=>none
   |none=>none
  |_,_,_=>none
 |_=>none
def oj:bz→Option cr
 | ⟨g,.sa (.one (.ptr n off))⟩=>some ⟨need g,⟨none,.sa (.one (.nw n off))⟩,[]⟩
 |_=>none
def iQ (A:Ar) (cx:Cx) (h:H) (u:Nat) (t:TypeId):Option cr :=
 match look cx.tt t with
 |some ti=>match cy h (bM u) with
  |true=>match ti.flat,dr ti.size 8 with
   |some s,false=>some ⟨True,⟨none,.sa (.one (.ptr (bM u) 0))⟩,[(bM u,.row t (yr A ti.size s))]⟩
   |_,_=>some ⟨ti.zero.all Value.oneCell' = true,⟨none,.sa (.one (.ptr (bM u) 0))⟩,[(bM u,.cells t (ti.zero.map cellOf))]⟩
  |false=>none
 |none=>none
def pV (h:H) (u:Nat) (t:TypeId):bz→Option cr
 | ⟨g,.sa v⟩=>match cy h (bM u) with
  |true=>match v with
   |.fb c=>some ⟨need g,⟨none,.sa (.one (.ptr (bM u) 0))⟩,[(bM u,.row t c)]⟩
   |v=>some ⟨need g∧v.side,⟨none,.sa (.one (.ptr (bM u) 0))⟩,[(bM u,.cells t v.cells)]⟩
  |false=>none
 |_=>none
def kn (A:Ar) (cx:Cx) (h:H) (t:TypeId) (s:Prop) (c:SC):Option cr :=
 match look cx.tt t with
 |some ⟨.slice _ _,_,_,_,_⟩=>match c with
  |.val (.slice none 0 0)=>bV s (.num .i64 0)
  |c=>match jd h c with
   |some ct=>bV s (.val (.int .i64 (ct.len A)))
   |none=>none
 |some ⟨.str,_,_,_,_⟩=>match c with
  |.str l=>bV s (.val (.int .i64 (A.gr l)))
  |_=>none
 |_=>none
def SX:bz→Option Nat
 | ⟨_,.sa (.one (.val (.func (.func f) ⟨[]⟩ ⟨[]⟩)))⟩=>some f
 |_=>none
def Vn (e:bz) (s:Prop):Prop :=
 match e.g with
 |none=>s
 |some b=>b=true∧s
def Vy:bz→Option (Nat × List SA)
 | ⟨none,.sa (.one (.fn g n))⟩=>some (g,[.one (.ptr n 0)])
 | ⟨none,.sa (.one (.ux g n o))⟩=>some (g,[.one (.nw n o)])
 | ⟨none,.sa (.one (.tr g n k))⟩=>some (g,[.one (.ptr n 0),.one (.ptr k 0)])
 |_=>none
def nU (A:Ar) (cx:Cx) (st:St) (u:Nat) (c:Call) (es:List bz):Option cr :=
 match c.callee with
 |.value x=>match SX (aG st x) with
  |some f=>match dr f 999999,look cx.fs f,xG es with
   |true,some bJ,some vs=>fQ (match look cx.fs (bn f) with
    |some _=>true
    |none=>false) st.heap u bJ (Vn (aG st x) (dE es)) vs
   |_,_,_=>none
  |none=>match Vy (aG st x) with
   |some (f,n)=>match dr f 999999,look cx.fs f,xG es with
    |true,some bJ,some vs=>en (match look cx.fs (bn f) with
     |some _=>true
     |none=>false) st.heap u bJ (dE es) (vs ++ n)
    |_,_,_=>none
   |none=>none
 |.builtin .len=>match c.argTypes.toList,xG es with
  |[t],some [.one x]=>kn A cx st.heap t (dE es) x
  |_,_=>none
 |.builtin .append=>match c.argTypes.toList,es with
  |[t,t'],[x,y]=>match x,look cx.tt t with
   | ⟨_,.sa (.one c)⟩,some ⟨.slice e _,_,_,_,_⟩=>match kJ st.heap e c with
    |some n=>gJ A cx st.heap u n t t' x y
    |none=>match ownRow st.heap e c with
     |some (n,c1)=>gw A cx st.heap u n c1 t t' x y
     |none=>match look cx.fs (dZ u) with
      |some _=>gz A cx st.heap u t t' x y
      |none=>ko A cx st.heap u t t' x y
   |_,_=>none
  |_,_=>none
 |.builtin .copy=>match c.argTypes.toList,es with
  |t :: _,[x,y]=>gE A cx st.heap t x y
  |_,_=>none
 |.builtin .clear=>match c.argTypes.toList,es with
  |[t],[x]=>fg A cx st.heap t x
  |_,_=>none
 |.builtin .min=>match xG es with
  |some (.one x :: l)=>match x.int? with
   |some (k,a)=>match kj A .lss a l k with
    |some n=>bV (dE es) (.val (.int k n))
    |none=>none
   |none=>none
  |_=>none
 |.builtin .max=>match xG es with
  |some (.one x :: l)=>match x.int? with
   |some (k,a)=>match kj A .gtr a l k with
    |some n=>bV (dE es) (.val (.int k n))
    |none=>none
   |none=>none
  |_=>none
 |_=>none
def zW (A:Ar) (op:UnOp):bz→Option cr
 | ⟨g,.sa (.one c)⟩=>match op with
  |.not=>match c.bool? with
   |some b=>bV (need g) (UU c.lit ((A.lit c.lit).not b))
   |none=>none
  |.neg=>match c.int? with
   |some (k,n)=>bV (need g) (OT c.lit k ((A.lit c.lit).bin .sub k 0 n))
   |none=>none
  |.xor=>match c.int? with
   |some (k,n)=>bV (need g) (OT c.lit k ((A.lit c.lit).bin .xor k (match k.signed with
    |true=>-1
    |false=>k.max) n))
   |none=>none
  |_=>none
 |_=>none
def uk:bz→Option cr
 | ⟨g,.sa (.one (.ptr n o))⟩=>bV (need g) (.ptr n o)
 | ⟨g,.sa (.one (.rp n i j))⟩=>bV (need g) (.rp n i j)
 |_=>none
def gB (i:Nat):bz→Option cr
 | ⟨g,.bB xs⟩=>match xs[i]? with
  |some a=>some ⟨need g,⟨none,.sa a⟩,[]⟩
  |none=>none
 |_=>none
def iB (cx:Cx) (h:H) (u:Nat) (t:TypeId) (hint:Option Operand):Option cr :=
 match look cx.tt t,hint,cy h (bM u) with
 |some ⟨.pF,_,_,_,_⟩,none,true=>some ⟨True,⟨none,.sa (.one (.mp (bM u)))⟩,[(bM u,.mp [])]⟩
 |_,_,_=>none
def gQ (A:Ar) (cx:Cx) (h:H) (t:TypeId) (ok:Bool):bz→bz→Option cr
 | ⟨g,.sa (.one (.mp n))⟩,⟨g',.sa (.one y)⟩=>match y.int?,look cx.tt t,ak h n with
  |some (.i64,k),some ⟨.pF,_,_,_,_⟩,some (.mp l)=>match ok with
   |false=>bV (need g∧need g') (.val (.int .i64 (A.lG l k)))
   |true=>some ⟨need g∧need g',⟨none,.bB [.one (.val (.int .i64 (A.lG l k))),.one (.val (.bool (A.qD l k)))]⟩,[]⟩
  |_,_,_=>none
 |_,_=>none
def kD (A:Ar) (cx:Cx) (h:H) (t:TypeId):bz→bz→bz→Option cr
 | ⟨g,.sa (.one (.mp n))⟩,⟨g',.sa (.one y)⟩,⟨g2,.sa (.one z)⟩=>match y.int?,z.int?,look cx.tt t,ak h n with
  |some (.i64,k),some (.i64,v),some ⟨.pF,_,_,_,_⟩,some (.mp l)=>some ⟨need g∧need g'∧need g2∧A.cmp .lss (A.Rv l) 1000000000000=true,bz.nil,[(n,.mp (A.qW l k v))]⟩
  |_,_,_,_=>none
 |_,_,_=>none
def BK (f:Fn) (first:List bz) (cap:List bz):Option cr :=
 match f,first,cap with
 |.func f,[],[⟨g,.sa (.one (.ptr n 0))⟩]=>bV (need g) (.fn f n)
 |.func f,[],[⟨g,.sa (.one (.nw n o))⟩]=>bV (need g) (.ux f n o)
 |.func f,[],[⟨g,.sa (.one (.ptr n 0))⟩,⟨g',.sa (.one (.ptr k 0))⟩]=>bV (need g∧need g') (.tr f n k)
 |_,_,_=>none
def dm (A:Ar) (cx:Cx) (st:St) (u:Nat):Op→Option cr
 |.makeFunc f first cap=>BK f (first.toList.map (aG st)) (cap.toList.map (aG st))
 |.move x | .assign x=>some ⟨True,aG st x,[]⟩
 |.pick c a b=>ov A (aG st c) (aG st a) (aG st b)
 |.binOp op xt x y _=>kd A cx st.heap op xt (aG st x) (aG st y)
 |.unOp op _ x=>zW A op (aG st x)
 |.convert src dt x=>gL A cx st.heap src dt (aG st x)
 |.nilCheck x=>uk (aG st x)
 |.alloc t=>iQ A cx st.heap u t
 |.box t x=>match look cx.fs (dZ u) with
  |some _=>oj (aG st x)
  |none=>pV st.heap u t (aG st x)
 |.load t x=>gM A cx st.heap t (aG st x)
 |.store t x y=>fm A cx st.heap t (aG st x) (aG st y)
 |.fieldAddr s x f=>cN cx st.heap s f (aG st x)
 |.field s x f=>lX cx s f (aG st x)
 |.build t ps=>kP A cx t (ps.toList.map (·.1)) (ps.toList.map fun p=>aG st p.2)
 |.buildSlice t n ps=>dy cx st.heap u t n (ps.toList.map (·.1)) (ps.toList.map fun p=>aG st p.2)
 |.makeSlice t l c=>mc A cx st.heap u t (aG st l) (aG st c)
 |.indexAddr t x ix=>cO A cx st.heap t (aG st x) (aG st ix)
 |.index t x ix=>lH A cx t (aG st x) (aG st ix)
 |.slice t x lo hi mx=>match look cx.fs (dZ u) with
  |some _=>match mx with
   |none=>lL A cx st u t (aG st x) lo hi
   |some y=>lj A cx st u t (aG st x) lo hi (some y)
  |none=>match look cx.fs (Lh u),mx with
   |some _,none=>lR A cx st t (aG st x) lo hi
   |_,mx=>fq A cx st t (aG st x) lo hi mx
 |.extract x i=>gB i (aG st x)
 |.makeMap t hint=>iB cx st.heap u t hint
 |.lookup t m x ok=>gQ A cx st.heap t ok (aG st m) (aG st x)
 |.mapUpdate t m x v=>kD A cx st.heap t (aG st m) (aG st x) (aG st v)
 |.call c=>nU A cx st u c (c.args.toList.map (aG st))
 |_=>none
def St.put (st:St) (dst:Option Tmp) (e:bz):St :=
 match dst with
 |some d=>{ st with eI:=st.eI.set d e }
 |none=>st
def aI (h:H):List (Nat × dP)→H
 |[]=>h
 |p :: l=>aI (aS h p.1 p.2) l
def St.app (st:St) (dst:Option Tmp) (E:cr):St:={ (st.put dst E.ZA) with heap:=aI st.heap E.gm }
inductive Wn where
 |bad
 |yes
 |no
 |sym (b:Bool)
def EU (A:Ar) (want:Bool):bz→Wn
 | ⟨none,.sa (.one (.tf c))⟩=>match want,c with
  |true,true=>.yes
  |false,false=>.yes
  |_,_=>.no
 | ⟨some g,.sa (.one (.tf c))⟩=>match want,c with
  |true,true=>.sym g
  |false,false=>.sym g
  |_,_=>.no
 | ⟨none,.sa (.one (.val (.bool c)))⟩=>.sym (match want with
  |true=>c
  |false=>A.not c)
 | ⟨some g,.sa (.one (.val (.bool c)))⟩=>.sym (A.and g (match want with
  |true=>c
  |false=>A.not c))
 |_=>.bad
def nD (A:Ar) (ops:List Oper) (st:St):Option (Nat × Bool)→Wn
 |none=>.yes
 |some (j,want) =>
  match ops[j]? with
  |some o=>match o.dst with
   |some t=>EU A want (st.eI.getD t bz.nil)
   |none=>.bad
  |none=>.bad
def gK (A:Ar) (cx:Cx) (ops:List Oper) (st:St) (u:Nat) (o:Oper) (d:Bool):Option cr :=
 match nD A ops st o.guard with
 |.bad=>none
 |.yes=>dm A cx st u o.op
 |.no=>some ⟨True,bz.off,[]⟩
 |.sym b=>match dm A cx st u o.op with
  |some ⟨C,e,[]⟩=>some ⟨b=false∨C,⟨ML A (some b) e.g,e.v⟩,[]⟩
  |some ⟨C,e,p :: l⟩=>match d with
   |true=>some ⟨b=true∧C,e,p :: l⟩
   |false=>some ⟨b=false,bz.nil,[]⟩
  |none=>some ⟨b=false,bz.nil,[]⟩
def cH (h:H) (u:Nat) (bJ:aW) (vs:List SA):List Nat :=
 let seen:=reach 200 h (vs.flatMap bg) []
 let m:=bG 0 seen
 vs.flatMap bg ++ seen ++ (match wR m vs,lg m h seen with
 |some args,some h0=>match bJ args h0 with
  |some p=>(names (bO seen args h0 p.h vs p.as) (bM u) p.h).map (·.2)
  |none=>[]
 |_,_=>[]) ++ (match ek h vs with
  |some args=>match bJ args [] with
   |some p=>(names [] (bM u) p.h).map (·.2)
   |none=>[]
  |none=>[])
def xZ (e:bz):List Nat :=
 match e.v with
 |.sa (.one (.rp n _ _))=>[n]
 |_=>[]
def BP (e:bz):List Nat :=
 match e.v with
 |.sa (.one (.nw _ _))=>[]
 |_=>bm e
def kr (h:H) (n:Nat):List Nat :=
 match ak h n with
 |some (.cg d _ _)=>[d]
 |_=>[]
def di (cx:Cx) (st:St) (u:Nat) (o:Oper):List Nat :=
 match o.op with
 |.binOp _ _ x y _=>bm (aG st x) ++ bm (aG st y)
 |.convert _ _ x | .indexAddr _ x _=>bm (aG st x)
 |.load _ x=>BP (aG st x)
 |.slice _ x _ _ _=>bM u :: (bm (aG st x) ++ (bm (aG st x)).flatMap (kr st.heap))
 |.fieldAddr _ x _=>xZ (aG st x)
 |.store _ x _=>bm (aG st x)
 |.lookup _ x _ _ | .mapUpdate _ x _ _=>bm (aG st x)
 |.makeMap _ _=>[bM u]
 |.alloc _ | .box _ _ | .buildSlice _ _ _ | .makeSlice _ _ _=>[bM u]
 |.call c=>match c.callee with
  |.builtin .append=>bM u :: (c.args.toList.map (aG st)).flatMap bm
  |.builtin .len | .builtin .copy | .builtin .clear=>(c.args.toList.map (aG st)).flatMap bm
  |.value x=>match SX (aG st x) with
   |some f=>match look cx.fs f,xG (c.args.toList.map (aG st)) with
    |some bJ,some vs=>cH st.heap u bJ vs
    |_,_=>[]
   |none=>match Vy (aG st x) with
    |some (f,n)=>match look cx.fs f,xG (c.args.toList.map (aG st)) with
     |some bJ,some vs=>cH st.heap u bJ (vs ++ n)
     |_,_=>[]
    |none=>[]
  |_=>[]
 |_=>[]
structure Jt where
 i:Nat
 o:Oper
 d:Bool
structure It where
 i:Nat
 o:Oper
 d:Bool
 side:Prop
 wb:List Nat
 ft:List Nat
def uid (r i:Nat):Nat:=1000 * r+i
def runT (A:Ar) (cx:Cx) (r:Nat) (ops:List Oper):List Jt→St→Option (List It × St)
 |[],st=>some ([],st)
 |j :: l,st=>match gK A cx ops st (uid r j.i) j.o j.d with
  |some E=>match runT A cx r ops l (st.app j.o.dst E) with
   |some (T,st')=>some (⟨j.i,j.o,j.d,E.side,E.gm.map (·.1),di cx st (uid r j.i) j.o⟩ :: T,st')
   |none=>none
  |none=>none
def nJ (A:Ar) (cx:Cx) (r:Nat) (ops:List Oper):Nat→List Oper→St→(List It→St→Prop)→Prop
 |_,[],st,K=>K [] st
 |i,o :: l,st,K=>match nD A ops st o.guard with
  |.bad=>False
  |.yes=>match dm A cx st (uid r i) o.op with
   |some E=>nJ A cx r ops (i+1) l (st.app o.dst E) fun T s=>K (⟨i,o,true,E.side,E.gm.map (·.1),di cx st (uid r i) o⟩ :: T) s
   |none=>False
  |.no=>nJ A cx r ops (i+1) l (st.app o.dst ⟨True,bz.off,[]⟩) fun T s=>K (⟨i,o,true,True,[],di cx st (uid r i) o⟩ :: T) s
  |.sym b=>match dm A cx st (uid r i) o.op with
   |some ⟨C,e,[]⟩=>nJ A cx r ops (i+1) l (st.app o.dst ⟨b=false∨C,⟨ML A (some b) e.g,e.v⟩,[]⟩) fun T s=>K (⟨i,o,true,b=false∨C,[],di cx st (uid r i) o⟩ :: T) s
   |some ⟨C,e,p :: q⟩=>(b=false∨nJ A cx r ops (i+1) l (st.app o.dst ⟨b=true∧C,e,p :: q⟩) fun T s=>K (⟨i,o,true,C,p.1 :: q.map (·.1),di cx st (uid r i) o⟩ :: T) s) ∧
     (b=true∨nJ A cx r ops (i+1) l (st.app o.dst ⟨b=false,bz.nil,[]⟩) fun T s=>K (⟨i,o,false,True,[],di cx st (uid r i) o⟩ :: T) s)
   |none=>nJ A cx r ops (i+1) l (st.app o.dst ⟨b=false,bz.nil,[]⟩) fun T s=>K (⟨i,o,true,b=false,[],di cx st (uid r i) o⟩ :: T) s
def jV:List It→Prop
 |[]=>True
 |x :: T=>x.side∧jV T
def nI (bs l:List Nat):Bool:=bs.all fun b=>l.all fun c=>!bF b c
def Vv (ops:List Oper):Nat→Nat→Nat→Bool
 |0,_,_=>false
 |f+1,y,x=>match ops[y]? with
  |some o=>o.after.toList.any fun e=>Region.binds .any e && (bF e.on x || Vv ops f e.on x)
  |none=>false
def rC (ops:List Oper) (x y:It):Bool :=
 y.o.after.toList.any (fun e=>Region.binds .any e && bF e.on x.i) || ((x.o.apart ops.toArray y.o && nI x.wb y.ft && nI y.wb x.ft) || Vv ops 6 y.i x.i)
def eO (ops:List Oper):List It→Bool
 |[]=>true
 |x :: T=>T.all (rC ops x) && eO ops T
def cC:Nat→List Oper→List Bool→List Jt
 |i,o :: l,d :: ds=>⟨i,o,d⟩ :: cC (i+1) l ds
 |_,_,_=>[]
def wI:Nat→List Oper→Bool
 |_,[]=>true
 |i,o :: l=>o.after.toList.all (fun e=>!Region.binds .any e || dr (e.on+1) i) && wI (i+1) l
inductive Ex where
 |normal
 |exit (id:Nat)
 |ret
def ex (A:Ar) (cx:Cx) (L:Code→St→(Ex→St→Prop)→Prop):Code→St→(Ex→St→Prop)→Prop
 |.skip,s,K=>K .normal s
 |.region id ops draw,s,K=>nJ A cx id ops.toList 0 ops.toList s fun T s'=>match draw && !(eO ops.toList T && wI 0 ops.toList) with
   |true=>False
   |false=>jV T∧K .normal s'
 |.seq a b,s,K=>ex A cx L a s (fun e s'=>match e with
  |.normal=>ex A cx L b s' K
  |e=>K e s')
 |.cond c a b,s,K=>match aG s c with
  | ⟨none,.sa (.one (.tf t))⟩=>match t with
   |true=>ex A cx L a s K
   |false=>ex A cx L b s K
  | ⟨none,.sa (.one (.val (.bool t)))⟩=>(t=false∨ex A cx L a s K)∧(t=true∨ex A cx L b s K)
  |_=>False
 |.block id c,s,K=>ex A cx L c s (fun e s'=>match e with
  |.exit i=>match bF i id with
   |true=>K .normal s'
   |false=>K (.exit i) s'
  |e=>K e s')
 |.exit id,s,K=>K (.exit id) s
 |.ret,s,K=>K .ret s
 |.loop c,s,K=>L c s K
 |_,_,_=>False
def ye (x:SA):SA :=
 match bg x with
 |[]=>.one .any
 |_=>x
def start (n:Nat) (args:List SA) (h:H):St:=⟨args.map Dv ++ List.replicate (n - args.length) bz.nil,h,args.map ye ++ (bS args h).map .one⟩
def Kh (A:Ar) (cx:Cx) (st:St):ResultVar→Option (Prop × SA)
 |.tmp t=>match aG st (.tmp t) with
  | ⟨none,.sa x⟩=>some (True,x)
  |_=>none
 |.cell a t=>match aG st (.tmp a) with
  | ⟨none,.sa (.one (.ptr b off))⟩=>AZ A cx (ak st.heap b) off t
  |_=>none
def DA (A:Ar) (cx:Cx) (st:St):List ResultVar→Option (Prop × List SA)
 |[]=>some (True,[])
 |r :: l=>match Kh A cx st r,DA A cx st l with
  |some (C,x),some (D,xs)=>some (C∧D,x :: xs)
  |_,_=>none
def fin (A:Ar) (cx:Cx) (rs:List ResultVar) (p:qz):Ex→St→Prop
 |.exit _,_=>False
 |_,st=>match DA A cx st rs with
  |some (C,xs)=>(match p.r,xs with
   |.sa _,[_]=>True
   |.bB _,[_]=>False
   |.bB _,_=>True
   |_,_=>False)∧C∧(St.mk (xs.map Dv) st.heap st.gs).le (St.mk (eP p.r) p.h p.as)
  |none=>False
end Go.Proofs.YtakebkfhigadiaaGreat.Ry
