/-
  A reckoner of what a function's code makes of a symbolic state: fw,and blocks of cells that are the call's own;its rules. No condition.
-/
import Derived.WalkKit
import Derived.Below
import Derived.Scope
namespace Go.Proofs.YtelhldgdnlppfaaGreat.Ry
open Go
def bI (a b:Nat):Bool:=a == b
def dP (a b:Nat):Bool:=decide (a≤b)
@[simp] theorem iO {a b:Nat}:(bI a b=true)↔a=b:=by simp [bI]
@[simp] theorem Nr {a b:Nat}:(bI a b=false)↔¬a=b:=by simp [bI]
@[simp] theorem Nh {a b:Nat}:(dP a b=true)↔a≤b:=by simp [dP]
@[simp] theorem Zw {a b:Nat}:(dP a b=false)↔b < a:=by simp [dP]
theorem aJ {a b:Nat} (h:bI a b=true):a=b:=iO.1 h
theorem aB {a b:Nat} (h:dP a b=true):a≤b:=Nh.1 h
@[simp] theorem cL (a:Nat):bI a a=true:=iO.2 rfl
inductive D where
 |int (n:Int)
 |bool (b:Bool)
 |str (l:List Int)
 |ints (l:List Int)
 |ah (l:List (List D))
abbrev E:=List D
def ri (x:E) (j:Nat):Int :=
 match x[j]? with
 |some (.int n)=>n
 |_=>0
def rb (x:E) (j:Nat):Bool :=
 match x[j]? with
 |some (.bool b)=>b
 |_=>false
def rs (x:E) (j:Nat):List Int :=
 match x[j]? with
 |some (.str l)=>l
 |_=>[]
def rl (x:E) (j:Nat):List Int :=
 match x[j]? with
 |some (.ints l)=>l
 |_=>[]
def rr (x:E) (j:Nat):List E :=
 match x[j]? with
 |some (.ah l)=>l
 |_=>[]
inductive Sh where
 |nil
 |int (k:IntKind) (r:Sh)
 |bool (r:Sh)
 |str (r:Sh)
 |ints (k:IntKind) (r:Sh)
 |ah (s:Sh) (r:Sh)
def Sh.size:Sh→Nat
 |.nil=>0
 |.int _ r=>r.size+1
 |.bool r=>r.size+1
 |.str r=>r.size+1
 |.ints _ r=>r.size+1
 |.ah _ r=>r.size+1
def Sh.drop:Sh→Nat→Sh
 |s,0=>s
 |.nil,_+1=>.nil
 |.int _ r,n+1=>r.drop n
 |.bool r,n+1=>r.drop n
 |.str r,n+1=>r.drop n
 |.ints _ r,n+1=>r.drop n
 |.ah _ r,n+1=>r.drop n
def Sh.zero:Sh→E
 |.nil=>[]
 |.int _ r=>.int 0 :: r.zero
 |.bool r=>.bool false :: r.zero
 |.str r=>.str [] :: r.zero
 |.ints _ r=>.ints [] :: r.zero
 |.ah _ r=>.ah [] :: r.zero
inductive Ct where
 |ints (k:IntKind) (l:List Int)
 |ah (s:Sh) (l:List E)
structure Ar where
 bin:BinOp→IntKind→Int→Int→Int
 cmp:BinOp→Int→Int→Bool
 conv:IntKind→Int→Int
 and:Bool→Bool→Bool
 not:Bool→Bool
 beq:Bool→Bool→Bool
 Bk:Bool→Int→Int→Int
 VA:Bool→Bool→Bool→Bool
 fE:List Int→Int
 dN:List E→Int
 UT:List Int→Int→Int
 bh:List E→Int→E
 Yc:List Int→Int→Int→List Int
 Ym:List E→Int→Int→List E
 LX:List Int→List Int→List Int
 We:List E→List E→List E
 TR:List Int→Int→Int→List Int
 Ft:List E→Int→E→List E
 YV:List Int→List Int→List Int
 YT:List E→List E→List E
 wL:Int→List Int
 OP:Int→E→List E
 eqL:List Int→List Int→Bool
 Dw:List Int→List Int→Bool
 byt:List Int→List Int
 fits:Int→Int→Bool
 ri:E→Nat→Int
 rb:E→Nat→Bool
 rs:E→Nat→List Int
 rl:E→Nat→List Int
 rr:E→Nat→List E
 nJ:List (Int × Int)→Int→Int
 rF:List (Int × Int)→Int→Bool
 uj:List (Int × Int)→Int→Int→List (Int × Int)
 Uj:List (Int × Int)→Int
 Xi:List Int→Int→List Int
 Wr:E→List E→Int→List E
def nJ (l:List (Int × Int)) (k:Int):Int :=
 match l.find? fun p=>p.1 == k with
 |some p=>p.2
 |none=>0
def rF (l:List (Int × Int)) (k:Int):Bool:=l.any fun p=>p.1 == k
def uj (l:List (Int × Int)) (k v:Int):List (Int × Int):=if rF l k=true then l.map fun p=>if p.1 == k then (k,v) else p else l ++ [(k,v)]
def aO:BinOp→IntKind→Int→Int→Int
 |.add,k,a,b=>k.wrap (a+b)
 |.sub,k,a,b=>k.wrap (a - b)
 |.mul,k,a,b=>k.wrap (a * b)
 |.quo,k,a,b=>k.wrap (a.tdiv b)
 |.rem,_,a,b=>a.tmod b
 |.shl,k,a,b=>k.wrap (a * 2 ^ (min b.toNat k.bits))
 |.shr,k,a,b=>a.fdiv (2 ^ (min b.toNat k.bits))
 |op,k,a,b=>bits op k a b
def al:BinOp→Int→Int→Bool
 |.eql,a,b=>a == b
 |.neq,a,b=>a != b
 |.lss,a,b=>decide (a < b)
 |.leq,a,b=>decide (a≤b)
 |.gtr,a,b=>decide (a > b)
 |.geq,a,b=>decide (a≥b)
 |_,_,_=>false
def iV:List Int→List Int→Bool
 |_,[]=>false
 |[],_ :: _=>true
 |a :: x,b :: y=>decide (a < b) || (a == b && iV x y)
def Ar.U:Ar where
 bin:=aO
 cmp:=al
 conv k n:=k.wrap n
 and a b:=a && b
 not a:=!a
 beq a b:=a == b
 Bk c a b:=if c then a else b
 VA c a b:=if c then a else b
 fE l:=l.length
 dN l:=l.length
 UT l i:=l.getD i.toNat 0
 bh l i:=l.getD i.toNat []
 Yc l lo hi:=(l.take hi.toNat).drop lo.toNat
 Ym l lo hi:=(l.take hi.toNat).drop lo.toNat
 LX l m:=l ++ m
 We l m:=l ++ m
 TR l i v:=l.set i.toNat v
 Ft l i v:=l.set i.toNat v
 YV l m:=m.take l.length ++ l.drop m.length
 YT l m:=m.take l.length ++ l.drop m.length
 wL n:=List.replicate n.toNat 0
 OP n x:=List.replicate n.toNat x
 eqL l m:=decide (l=m)
 Dw:=iV
 byt l:=l.map fun n=>((UInt8.ofNat n.toNat).toNat:Int)
 fits n b:=decide (n * b≤140737488355328)
 ri:=Ry.ri
 rb:=Ry.rb
 rs:=Ry.rs
 rl:=Ry.rl
 rr:=Ry.rr
 nJ:=Ry.nJ
 rF:=Ry.rF
 uj:=Ry.uj
 Uj l:=l.length
 Xi l i:=l.take i.toNat ++ List.replicate (l.length - i.toNat) 0
 Wr z l i:=l.take i.toNat ++ List.replicate (l.length - i.toNat) z
def Ar.lit (A:Ar):Bool→Ar
 |true=>Ar.U
 |false=>A
inductive SC where
 |any
 |val (v:Value)
 |num (k:IntKind) (n:Int)
 |tf (b:Bool)
 |ptr (n off:Nat)
 |fn (g n:Nat)
 |pW (n off:Nat)
 |yi (g n off:Nat)
 |vw (n:Nat) (l:Int)
 |str (l:List Int)
 |sl (tk:Option (Nat × TypeId)) (c:Ct)
 |own (n:Nat)
 |mp (n:Nat)
 |rp (n:Nat) (i:Int) (j:Nat)
 |OB (k:IntKind) (n:Int)
 |FK (s:Sh) (x:E) (j:Nat)
inductive SA where
 |one (c:SC)
 |agg (cs:List SC)
 |ef (c:Ct)
inductive SV where
 |sa (x:SA)
 |bK (xs:List SA)
structure bB where
 g:Option Bool
 v:SV
inductive eH where
 |cells (ty:TypeId) (cs:List SC)
 |row (ty:TypeId) (c:Ct)
 |fQ (c:Ct)
 |emp (ty:TypeId)
 |mp (l:List (Int × Int))
 |cq (d sz:Nat) (q:Int)
 |tok
 |dead
abbrev H:=List (Nat × eH)
def ak:H→Nat→Option eH
 |[],_=>none
 |(k,b) :: l,n=>match bI k n with
  |true=>some b
  |false=>ak l n
def aS:H→Nat→eH→H
 |[],n,b=>[(n,b)]
 |(k,c) :: l,n,b=>match bI k n with
  |true=>(k,b) :: l
  |false=>match dP n k with
   |true=>(n,b) :: (k,c) :: l
   |false=>(k,c) :: aS l n b
structure St where
 fw:List bB
 heap:H
 gs:List SA
def bB.nil:bB:=⟨none,.sa (.one .any)⟩
def bB.off:bB:=⟨some false,.sa (.one (.tf true))⟩
def bU (s:ByteArray):List Int:=s.data.toList.map fun b=>(b.toNat:Int)
def cellOf:Value→SC
 |.string s=>.str (bU s)
 |.int k n=>.num k n
 |.bool b=>.tf b
 |v=>.val v
def ofValue:Value→SA
 |.agg cs=>if cs.toList.all Value.oneCell' then .agg (cs.toList.map cellOf) else .one (.val (.agg cs))
 |v=>.one (cellOf v)
def aF (st:St):Operand→bB
 |.tmp t=>st.fw.getD t bB.nil
 |.const v=>⟨none,.sa (ofValue v)⟩
 |.func f=>⟨none,.sa (.one (.val (.func (.func f) #[] #[])))⟩
 |.global g=>⟨none,.sa (.one (.val (.pointer (some ⟨g,0,none⟩))))⟩
def need:Option Bool→Prop
 |none=>True
 |some b=>b=true
def ME (A:Ar):Option Bool→Option Bool→Option Bool
 |none,g=>g
 |g,none=>g
 |some a,some b=>some (A.and a b)
def SC.int?:SC→Option (IntKind × Int)
 |.val (.int k n)=>some (k,n)
 |.num k n=>some (k,n)
 |_=>none
def SC.bool?:SC→Option Bool
 |.val (.bool b)=>some b
 |.tf b=>some b
 |_=>none
def SC.lit:SC→Bool
 |.num _ _ | .tf _=>true
 |_=>false
def Tt (l:Bool) (k:IntKind) (n:Int):SC :=
 match l with
 |true=>.num k n
 |false=>.val (.int k n)
def Xp (l:Bool) (b:Bool):SC :=
 match l with
 |true=>.tf b
 |false=>.val (.bool b)
def SC.sE:SC→SC
 |.num k n=>.val (.int k n)
 |.tf b=>.val (.bool b)
 |c=>c
inductive TK where
 |int (k:IntKind)
 |bool
 |struct (fields:List (Nat × Nat × Bool × List Nat))
 |array (len:Nat) (size:Nat) (agg:Bool)
 |slice (e:TypeId) (size:Nat)
 |str
 |ptr
 |sI
 |other
structure TI where
 k:TK
 size:Nat
 zero:List Value
 eq:Bool
 flat:Option Sh
def TK.agg:TK→Bool
 |.struct _ | .array _ _ _=>true
 |_=>false
def dK (P:Program) (f:Field):Nat :=
 if f.name != "_" then
  match P.underlying f.type with
  |some (.int _)=>1
  |some .bool=>2
  |_=>0
 else 0
def ep (P:Program) (f:Field):List Nat :=
 if !bI (dK P f) 0 then [dK P f]
 else match P.underlying f.type with
  | some (.struct gs) => if f.name != "_" && gs.toList.all (fun g => !bI (dK P g) 0) && (gs.toList.map (·.offset) == List.range gs.size) && !P.stoodInHeld f.type && bI (P.cellsOf f.type) gs.size && (P.info? f.type).isSome then gs.toList.map (dK P) else []
  |_=>[]
def kq (P:Program) (t:TypeId):Bool :=
 match P.underlying t with
 |some (.struct _)|some (.array _ _)=>true
 |_=>false
def zk:Value→Option Sh
 |.int k _=>some (.int k .nil)
 |.bool _=>some (.bool .nil)
 |_=>none
def zIs:Sh→Value→Bool
 |.int k .nil,.int k' n=>bI k.ctorIdx k'.ctorIdx && n == 0
 |.bool .nil,.bool b=>!b
 |_,_=>false
def wB (z:List Value):Option Sh :=
 match z with
 |[]=>none
 |v :: l=>match zk v with
  |some s=>if (v :: l).all (zIs s) then some s else none
  |none=>none
def AQ (A:Ar) (n:Int):Sh→Ct
 |.int k _=>.ints k (A.wL n)
 |s=>.ah s (A.OP n s.zero)
def KO (P:Program) (t e:TypeId):Bool :=
 (match P.underlying e with
 |some (.int _)=>true
 |_=>false) && bI (P.cellsOf e) 1 && !P.eqGuardType P.depth t
def tW (P:Program) (e:TypeId):Bool :=
 match P.info? e with
 |some i=>match i.zero with
  |some (.int .i64 n)=>n == 0
  |_=>false
 |none=>false
def TT (P:Program) (k e:TypeId) (n:Nat) (z:List Value):Option TI :=
 match P.underlying k,P.underlying e,tW P e with
 |some (.int .i64),some (.int .i64),true=>some ⟨.sI,n,z,false,none⟩
 |_,_,_=>some ⟨.other,n,z,false,none⟩
def eM (P:Program) (t:TypeId):Option TI :=
 match P.info? t with
 |some i=>match i.zero with
  |some z=>match P.underlying t with
   |some (.int k)=>some ⟨.int k,i.size,z.cells.toList,false,none⟩
   |some .bool=>some ⟨.bool,i.size,z.cells.toList,false,none⟩
   |some (.struct fs)=>if fs.toList.all fun f=>(P.underlying f.type).isSome then some ⟨.struct (fs.toList.map fun f=>(f.offset,P.cellsOf f.type,kq P f.type,ep P f)),i.size,z.cells.toList,
     fs.toList.all (fun f=>!(ep P f).isEmpty) && fs.toList.dropLast.all (fun f=>!bI (dK P f) 0) && (fs.toList.map (·.offset) == List.range fs.size) && !P.stoodInHeld t && !P.eqGuardType P.depth t,none⟩ else none
   |some (.array n e)=>if (P.underlying e).isSome then some ⟨.array n (P.cellsOf e) (kq P e),i.size,z.cells.toList,KO P t e,wB z.cells.toList⟩ else none
   |some (.slice e)=>if (P.underlying e).isSome then some ⟨.slice e (P.cellsOf e),i.size,z.cells.toList,false,none⟩ else none
   |some .string=>some ⟨.str,i.size,z.cells.toList,false,none⟩
   |some (.pointer _)=>some ⟨.ptr,i.size,z.cells.toList,false,none⟩
   |some (.map k e)=>TT P k e i.size z.cells.toList
   |some _=>some ⟨.other,i.size,z.cells.toList,false,none⟩
   |none=>none
  |none=>none
 |none=>none
structure qi where
 C:Prop
 r:SV
 h:H
 as:List SA
abbrev aY:=List SA→H→Option qi
structure Cx where
 tt:List (Nat × TI)
 fs:List (Nat × aY)
 hs:List (Nat × Ct)
 bs:List (Nat × Nat)
def look {α:Type}:List (Nat × α)→Nat→Option α
 |[],_=>none
 |(k,a) :: l,t=>match bI k t with
  |true=>some a
  |false=>look l t
structure cA where
 side:Prop
 ent:bB
 iv:List (Nat × eH)
def eB (cs:List SC) (off n:Nat):Option (List SC) :=
 match dP (off+n) cs.length with
 |true=>some ((cs.drop off).take n)
 |false=>none
def eY:List SC→Nat→List SC→List SC
 |cs,_,[]=>cs
 |cs,off,x :: xs=>eY (cs.set off x) (off+1) xs
def Hr:SC→Prop
 |.any=>False
 |.val v=>v.oneCell' = true
 |_=>True
def SA.cells:SA→List SC
 |.one c=>[c]
 |.agg cs=>cs
 |.ef _=>[]
def SA.side:SA→Prop
 |.one c=>Hr c
 |.agg _=>True
 |.ef _=>False
def ints:BinOp→Bool
 |.add | .sub | .mul | .and | .or | .xor | .andNot=>true
 |_=>false
def Yp:BinOp→Bool
 |.eql | .neq | .lss | .leq | .gtr | .geq=>true
 |_=>false
def df:IntKind→IntKind→Bool:=fun a b=>bI a.ctorIdx b.ctorIdx
def gq (A:Ar):Nat→SC→SC→Option Bool
 |1,c,d=>match c.int?,d.int? with
  |some (k,a),some (k',b)=>match df k k' with
   |true=>some (A.cmp .eql a b)
   |false=>none
  |_,_=>none
 |2,c,d=>match c.bool?,d.bool? with
  |some a,some b=>some (A.beq a b)
  |_,_=>none
 |_,_,_=>none
def bA (A:Ar):List Nat→List SC→List SC→Option Bool
 |[],[],[]=>some true
 |k :: ks,c :: cs,d :: ds =>
  match gq A k c d,bA A ks cs ds with
  |some a,some r=>some (match ks with
   |[]=>a
   |_ :: _=>A.and a r)
  |_,_=>none
 |_,_,_=>none
def cg (s:Prop) (c:SC):Option cA:=some ⟨s,⟨none,.sa (.one c)⟩,[]⟩
def vk (h:H):SC→SC→Option Bool
 |.val (.pointer none),.val (.pointer none)=>some true
 |.ptr n _,.val (.pointer none)=>match ak h n with
  |some (.cells _ _)|some (.row _ _)=>some false
  |_=>none
 |_,_=>none
def Ct.len (A:Ar):Ct→Int
 |.ints _ l=>A.fE l
 |.ah _ l=>A.dN l
def TB (A:Ar):SC→SC→Option (Prop × Bool)
 |.val (.slice none 0 0),.val (.slice none 0 0)=>some (True,true)
 |.sl _ c,.val (.slice none 0 0)=>some (A.cmp .gtr (c.len A) 0=true,false)
 |_,_=>none
def rz (A:Ar) (cx:Cx) (h:H) (op:BinOp) (xt:TypeId) (s:Prop) (a b:SC):Option cA :=
 match a.int?,b.int? with
 |some (k,m),some (k',n) =>
  match op with
  |.shl | .shr=>cg (s∧(A.lit b.lit).cmp .lss n 0=false) (Tt (a.lit && b.lit) k ((A.lit (a.lit && b.lit)).bin op k m n))
  |.quo | .rem=>match df k k' with
   |true=>cg (s∧(A.lit b.lit).cmp .eql n 0=false) (Tt (a.lit && b.lit) k ((A.lit (a.lit && b.lit)).bin op k m n))
   |false=>none
  |_=>match df k k' with
   |true=>match ints op with
    |true=>cg s (Tt (a.lit && b.lit) k ((A.lit (a.lit && b.lit)).bin op k m n))
    |false=>match Yp op with
     |true=>cg s (Xp (a.lit && b.lit) ((A.lit (a.lit && b.lit)).cmp op m n))
     |false=>none
   |false=>none
 |_,_=>match a.bool?,b.bool? with
  |some x,some y=>match look cx.tt xt with
   |some ⟨.bool,_,_,_,_⟩=>match op with
    |.eql=>cg s (Xp (a.lit && b.lit) ((A.lit (a.lit && b.lit)).beq x y))
    |.neq=>cg s (Xp (a.lit && b.lit) ((A.lit (a.lit && b.lit)).not ((A.lit (a.lit && b.lit)).beq x y)))
    |_=>none
   |_=>none
  |_,_=>match a,b with
   |.str l,.str m=>match op with
    |.eql=>cg s (.val (.bool (A.eqL l m)))
    |.neq=>cg s (.val (.bool (A.not (A.eqL l m))))
    |.add=>cg (s∧A.fits (A.fE (A.LX l m)) 1=true) (.str (A.LX l m))
    |.lss=>cg s (.val (.bool (A.Dw l m)))
    |.gtr=>cg s (.val (.bool (A.Dw m l)))
    |.leq=>cg s (.val (.bool (A.not (A.Dw m l))))
    |.geq=>cg s (.val (.bool (A.not (A.Dw l m))))
    |_=>none
   |_,_=>match vk h a b,look cx.tt xt with
    |some r,some ⟨.ptr,_,_,_,_⟩=>match op with
     |.eql=>cg s (.tf r)
     |.neq=>cg s (.tf (!r))
     |_=>none
    |_,some ⟨.slice _ _,_,_,_,_⟩=>match TB A a b with
     |some (q,r)=>match op with
      |.eql=>cg (s∧q) (.tf r)
      |.neq=>cg (s∧q) (.tf (!r))
      |_=>none
     |none=>none
    |_,_=>none
def lM (A:Ar) (cx:Cx) (h:H) (op:BinOp) (xt:TypeId) (x y:bB):Option cA :=
 match x.v,y.v with
 |.sa (.one a),.sa (.one b)=>rz A cx h op xt (need x.g∧need y.g) a b
 |.sa (.agg xs),.sa (.agg ys) =>
  match look cx.tt xt with
  |some ⟨.struct fs,_,_,true,_⟩ =>
   match bA A (fs.flatMap fun f=>f.2.2.2) xs ys with
   |some r =>
    match op with
    |.eql=>cg (need x.g∧need y.g) (.val (.bool r))
    |.neq=>cg (need x.g∧need y.g) (.val (.bool (A.not r)))
    |_=>none
   |none=>none
  |some ⟨.array n _ _,_,_,true,_⟩ =>
   match bA A (List.replicate n 1) xs ys with
   |some r =>
    match op with
    |.eql=>cg (need x.g∧need y.g) (.val (.bool r))
    |.neq=>cg (need x.g∧need y.g) (.val (.bool (A.not r)))
    |_=>none
   |none=>none
  |_=>none
 |_,_=>none
def Ih (A:Ar) (c:Bool) (a b:SC):Option SC :=
 match a.int?,b.int? with
 |some (k,m),some (k',n)=>match df k k' with
  |true=>some (.val (.int k (A.Bk c m n)))
  |false=>none
 |_,_=>match a.bool?,b.bool? with
  |some m,some n=>some (.val (.bool (A.VA c m n)))
  |_,_=>none
def qK (A:Ar) (c a b:bB):Option cA :=
 match c with
 | ⟨g,.sa (.one (.tf t))⟩=>match t with
  |true=>some ⟨need g∧need a.g,⟨none,a.v⟩,[]⟩
  |false=>some ⟨need g∧need b.g,⟨none,b.v⟩,[]⟩
 | ⟨g,.sa (.one (.val (.bool t)))⟩=>match a,b with
  | ⟨ga,.sa (.one x)⟩,⟨gb,.sa (.one y)⟩=>match Ih A t x y with
   |some v=>cg (need g∧(t=false∨need ga)∧(t=true∨need gb)) v
   |none=>match x,y with
    |.any,y=>some ⟨need g∧t=false∧need gb,⟨none,.sa (.one y)⟩,[]⟩
    |x,.any=>some ⟨need g∧t=true∧need ga,⟨none,.sa (.one x)⟩,[]⟩
    |_,_=>none
  |_,_=>none
 |_=>none
def AJ:List bB→Option (List SA)
 |[]=>some []
 | ⟨_,.sa x⟩ :: l=>match AJ l with
  |some xs=>some (x :: xs)
  |none=>none
 |_=>none
def dX:List bB→Prop
 |[]=>True
 |[e]=>need e.g
 |e :: l=>need e.g∧dX l
def Af (place:Nat→Option (Nat × Nat)) (cells:List SC):List (Nat × SA)→Option (List SC)
 |[]=>some cells
 |(i,v) :: rest =>
  match place i with
  |none=>none
  |some (off,size)=>match bI v.cells.length size && dP (off+size) cells.length with
   |true=>Af place (eY cells off v.cells) rest
   |false=>none
def dW:List SA→Prop
 |[]=>True
 |[x]=>x.side
 |x :: l=>x.side∧dW l
def me (A:Ar) (op:BinOp):Int→List SA→IntKind→Option Int
 |a,[],_=>some a
 |a,.one c :: l,k0=>match c.int? with
  |some (k,b)=>match df k k0 with
   |true=>me A op (A.Bk (A.cmp op b a) b a) l k0
   |false=>none
  |none=>none
 |_,_,_=>none
def dQ (A:Ar):Sh→E→Nat→Nat→List SC
 |_,_,_,0=>[]
 |.nil,_,_,_+1=>[]
 |.int k r,x,j,n+1=>.val (.int k (A.ri x j)) :: dQ A r x (j+1) n
 |.bool r,x,j,n+1=>.val (.bool (A.rb x j)) :: dQ A r x (j+1) n
 |.str r,x,j,n+1=>.str (A.rs x j) :: dQ A r x (j+1) n
 |.ints k r,x,j,n+1=>.sl none (.ints k (A.rl x j)) :: dQ A r x (j+1) n
 |.ah s r,x,j,n+1=>.sl none (.ah s (A.rr x j)) :: dQ A r x (j+1) n
def Ct.sz:Ct→Nat
 |.ints _ _=>1
 |.ah s _=>s.size
def Ct.cut (A:Ar):Ct→Int→Int→Ct
 |.ints k l,lo,hi=>.ints k (A.Yc l lo hi)
 |.ah s l,lo,hi=>.ah s (A.Ym l lo hi)
def eZ:Ct→Ct
 |.ints k _=>.ints k []
 |.ah s _=>.ah s []
def Ct.rep (A:Ar) (n:Int):Ct→Ct
 |.ints k _=>.ints k (A.wL n)
 |.ah s _=>.ah s (A.OP n s.zero)
def Ct.at (A:Ar):Ct→Int→Nat→Nat→List SC
 |.ints k l,i,_,n=>match n with
  |0=>[]
  |_+1=>[.val (.int k (A.UT l i))]
 |.ah s l,i,j,n=>dQ A (s.drop j) (A.bh l i) j n
def EK (A:Ar) (cx:Cx) (iv:Option eH) (off:Nat) (t:TypeId):Option (Prop × SA) :=
 match look cx.tt t,iv with
 |some ti,some (.cells _ bc)=>match ti.k.agg with
  |true=>match eB bc off ti.size with
   |some cs=>some (True,.agg cs)
   |none=>none
  |false=>match eB bc off 1 with
   |some [c]=>some (True,.one c)
   |_=>none
 |some ti,some (.row _ c)=>match ti.k.agg && (bI c.sz 1 && bI off 0) with
  |true=>some (A.cmp .eql (c.len A) ti.size=true,.ef c)
  |false=>none
 |_,_=>none
def re (st:St) (d:Int):Option Operand→Option (Option Bool × Int)
 |none=>some (none,d)
 |some x=>match aF st x with
  | ⟨g,.sa (.one c)⟩=>match c.int? with
   |some (_,i)=>some (g,i)
   |none=>none
  |_=>none
def gF:Sh→Sh→Bool
 |.nil,.nil=>true
 |.int k r,.int k' r'=>df k k' && gF r r'
 |.bool r,.bool r'=>gF r r'
 |.str r,.str r'=>gF r r'
 |.ints k r,.ints k' r'=>df k k' && gF r r'
 |.ah s r,.ah s' r'=>gF s s' && gF r r'
 |_,_=>false
def ZC:Sh→SC→Option (D × Sh)
 |.int k r,c=>match c.int? with
  |some (k',n)=>match df k k' with
   |true=>some (.int n,r)
   |false=>none
  |none=>none
 |.bool r,c=>match c.bool? with
  |some b=>some (.bool b,r)
  |none=>none
 |.str r,.str l=>some (.str l,r)
 |.ints k r,.sl _ (.ints k' l)=>match df k k' with
  |true=>some (.ints l,r)
  |false=>none
 |.ints _ r,.val (.slice none 0 0)=>some (.ints [],r)
 |.ah s r,.sl _ (.ah s' l)=>match gF s s' with
  |true=>some (.ah l,r)
  |false=>none
 |.ah _ r,.val (.slice none 0 0)=>some (.ah [],r)
 |_,_=>none
def NO:Sh→List SC→Option E
 |.nil,[]=>some []
 |s,c :: cs=>match ZC s c with
  |some (d,r)=>match NO r cs with
   |some x=>some (d :: x)
   |none=>none
  |none=>none
 |_,_=>none
def PH (s:Sh):List SA→Option (List E)
 |[]=>some []
 |v :: l=>match NO s v.cells,PH s l with
  |some x,some xs=>some (x :: xs)
  |_,_=>none
def OD (k:IntKind):List SA→Option (List Int)
 |[]=>some []
 |.one c :: l=>match c.int? with
  |some (k',n)=>match df k k' with
   |true=>match OD k l with
    |some ns=>some (n :: ns)
    |none=>none
   |false=>none
  |none=>none
 |_=>none
def Tz (h:Option Ct) (sz:Nat) (vs:List SA):Option Ct :=
 match h with
 |some (.ints k _)=>match bI sz 1 with
  |true=>match OD k vs with
   |some l=>some (.ints k l)
   |none=>none
  |false=>none
 |some (.ah s _)=>match bI s.size sz with
  |true=>match PH s vs with
   |some l=>some (.ah s l)
   |none=>none
  |false=>none
 |none=>none
def cD (h:H) (d:Nat):Bool :=
 match ak h d with
 |none=>true
 |some _=>false
def idxs:List Nat→Nat→Nat→Bool
 |[],k,n=>bI k n
 |i :: l,k,n=>bI i k && idxs l (k+1) n
def dJ (u:Nat):Nat:=1000000000+u
def bG (f:Nat):Nat:=1000000+f
def bS (u:Nat):Nat:=1000 * (u+1)
def ko (h:H) (id:Nat):Bool :=
 match ak h id with
 |some .tok=>true
 |_=>false
def db (A:Ar):Ct→Ct→Option Ct
 |.ints k l,.ints k' m=>match df k k' with
  |true=>some (.ints k (A.LX l m))
  |false=>none
 |.ah s l,.ah s' m=>match gF s s' with
  |true=>some (.ah s (A.We l m))
  |false=>none
 |_,_=>none
def kh (h:H):SC→Option Ct
 |.sl _ c=>some c
 |.own n=>match ak h n with
  |some (.row _ c)=>some c
  |some (.fQ c)=>some c
  |_=>none
 |_=>none
def dY (h:H) (c1:Ct):SC→Option Ct
 |.val (.slice none 0 0)=>some (eZ c1)
 |c=>kh h c
def pR (cx:Cx) (h:H) (t e:TypeId):SC→Option (List (Nat × eH) × Ct)
 |.sl (some (id,e')) c1=>match ko h id && bI e e' with
  |true=>some ([(id,.dead)],c1)
  |false=>none
 |.val (.slice none 0 0)=>match look cx.hs t with
  |some c=>some ([],eZ c)
  |none=>none
 |_=>none
def nU (h:H) (e:TypeId):SC→Option Nat
 |.own n=>match ak h n with
  |some (.emp e')=>match bI e e' with
   |true=>some n
   |false=>none
  |_=>none
 |_=>none
def iI (A:Ar) (cx:Cx) (h:H) (u n:Nat) (t t' : TypeId):bB→bB→Option cA
 | ⟨gx,_⟩,⟨gy,.sa (.one y)⟩ =>
  match look cx.tt t with
  |some ⟨.slice e sz,_,_,_,_⟩=>match look cx.tt e,look cx.bs e,look cx.hs t with
   |some te,some b,some c=>match dY h (eZ c) y with
     |some c2=>match db A (eZ c) c2 with
      |some ct=>match bI te.size sz && (bI t t' && (cD h (bS u) && (dP 1 sz && (dP 1 b && bI c.sz sz)))) with
       |true=>some ⟨need gx∧need gy∧A.fits (ct.len A) b=true,⟨none,.sa (.one (.own (bS u)))⟩,[(n,.dead),(bS u,.row e ct)]⟩
       |false=>none
      |none=>none
     |none=>none
   |_,_,_=>none
  |_=>none
 |_,_=>none
def ownRow (h:H) (e:TypeId):SC→Option (Nat × Ct)
 |.own n=>match ak h n with
  |some (.row e' c)=>match bI e e' with
   |true=>some (n,c)
   |false=>none
  |_=>none
 |_=>none
def iH (A:Ar) (cx:Cx) (h:H) (u n:Nat) (c1:Ct) (t t' : TypeId):bB→bB→Option cA
 | ⟨gx,_⟩,⟨gy,.sa (.one y)⟩ =>
  match look cx.tt t with
  |some ⟨.slice e sz,_,_,_,_⟩=>match look cx.tt e,look cx.bs e with
   |some te,some b=>match dY h c1 y with
     |some c2=>match db A c1 c2 with
      |some ct=>match bI te.size sz && (bI t t' && (cD h (bS u) && (dP 1 sz && (dP 1 b && bI c1.sz sz)))) with
       |true=>some ⟨need gx∧need gy∧A.fits (ct.len A) b=true,⟨none,.sa (.one (.own (bS u)))⟩,[(n,.dead),(bS u,.row e ct)]⟩
       |false=>none
      |none=>none
     |none=>none
   |_,_=>none
  |_=>none
 |_,_=>none
def jd (A:Ar) (cx:Cx) (h:H) (u:Nat) (t t' : TypeId):bB→bB→Option cA
 | ⟨gx,.sa (.one (.val (.slice none 0 0)))⟩,⟨gy,.sa (.one y)⟩ =>
  match look cx.tt t with
  |some ⟨.slice e sz,_,_,_,_⟩=>match look cx.tt e,look cx.bs e,look cx.hs t with
   |some te,some b,some c=>match dY h (eZ c) y with
     |some c2=>match db A (eZ c) c2 with
      |some ct=>match bI te.size sz && (bI t t' && (cD h (bS u) && (dP 1 sz && (dP 1 b && bI c.sz sz)))) with
       |true=>some ⟨need gx∧need gy∧A.fits (ct.len A) b=true,⟨none,.sa (.one (.own (bS u)))⟩,[(bS u,.row e ct)]⟩
       |false=>none
      |none=>none
     |none=>none
   |_,_,_=>none
  |_=>none
 |_,_=>none
def lI (A:Ar) (cx:Cx) (h:H) (u:Nat) (t t' : TypeId):bB→bB→Option cA
 | ⟨gx,.sa (.one x)⟩,⟨gy,.sa (.one y)⟩ =>
  match look cx.tt t with
  |some ⟨.slice e sz,_,_,_,_⟩=>match look cx.tt e,look cx.bs e with
   |some te,some b =>
    match pR cx h t e x with
    |some (kill,c1)=>match dY h c1 y with
     |some c2=>match db A c1 c2 with
      |some ct=>match bI te.size sz && (bI t t' && (cD h (bS u) && (dP 1 sz && (dP 1 b && bI c1.sz sz)))) with
       |true=>some ⟨need gx∧need gy∧A.fits (ct.len A) b=true,⟨none,.sa (.one (.sl (some (bS u,e)) ct))⟩,kill ++ [(bS u,.tok)]⟩
       |false=>none
      |none=>none
     |none=>none
    |none=>none
   |_,_=>none
  |_=>none
 |_,_=>none
def JS (A:Ar):Ct→Ct→Option Ct
 |.ints k l,.ints k' m=>match df k k' with
  |true=>some (.ints k (A.YV l m))
  |false=>none
 |.ah s l,.ah s' m=>match gF s s' with
  |true=>some (.ah s (A.YT l m))
  |false=>none
 |_,_=>none
def Hl (n:Nat):SC→Bool
 |.own k=>!bI k n
 |_=>true
def iW (A:Ar) (cx:Cx) (h:H) (t:TypeId):bB→bB→Option cA
 | ⟨gx,.sa (.one (.own n))⟩,⟨gy,.sa (.one y)⟩ =>
  match look cx.tt t,ak h n with
  |some ⟨.slice _ sz,_,_,_,_⟩,some (.row bt c)=>match dY h c y with
   |some c2=>match JS A c c2 with
    |some c'=>match bI c.sz sz && Hl n y with
     |true=>some ⟨need gx∧need gy,⟨none,.sa (.one (.val (.int .i64 (A.Bk (A.cmp .lss (c2.len A) (c.len A)) (c2.len A) (c.len A)))))⟩,[(n,.row bt c')]⟩
     |false=>none
    |none=>none
   |none=>none
  |_,_=>none
 |_,_=>none
def Hd (A:Ar) (c:Ct) (i:Int) (j:Nat) (v:SA):Option Ct :=
 match c with
 |.ints k l=>match v with
  |.one x=>match x.int? with
   |some (k',n)=>match df k k' with
    |true=>some (.ints k (A.TR l i n))
    |false=>none
   |none=>none
  |_=>none
 |.ah s l=>match dP (j+v.cells.length) s.size with
  |true=>match NO s (eY (dQ A s (A.bh l i) 0 s.size) j v.cells) with
   |some x=>some (.ah s (A.Ft l i x))
   |none=>none
  |false=>none
def bn:SC→List Nat
 |.ptr n _ | .own n | .rp n _ _ | .sl (some (n,_)) _ | .fn _ n | .mp n | .pW n _ | .yi _ n _ | .vw n _=>[n]
 |_=>[]
def aZ:SA→List Nat
 |.one c=>bn c
 |.agg cs=>cs.flatMap bn
 |.ef _=>[]
def bj (e:bB):List Nat :=
 match e.v with
 |.sa x=>aZ x
 |.bK xs=>xs.flatMap aZ
def YL:Option eH→List Nat
 |some (.cells _ cs)=>cs.flatMap bn
 |_=>[]
def lL (n:Nat) (l:List Nat):Bool:=l.any (bI n)
def reach:Nat→H→List Nat→List Nat→List Nat
 |0,_,_,seen=>seen
 |_+1,_,[],seen=>seen
 |f+1,h,n :: l,seen=>match lL n seen with
  |true=>reach f h l seen
  |false=>reach f h (YL (ak h n) ++ l) (seen ++ [n])
def mn (m:List (Nat × Nat)):SC→Option SC
 |.ptr n o=>match look m n with
  |some i=>some (.ptr i o)
  |none=>none
 |.fn g n=>match look m n with
  |some i=>some (.fn g i)
  |none=>none
 |.own n=>match look m n with
  |some i=>some (.own i)
  |none=>none
 |.mp n=>match look m n with
  |some i=>some (.mp i)
  |none=>none
 |.sl (some (n,e)) c=>match look m n with
  |some i=>some (.sl (some (i,e)) c)
  |none=>none
 |.rp n x j=>match look m n with
  |some i=>some (.rp i x j)
  |none=>none
 |.pW n o=>match look m n with
  |some i=>some (.pW i o)
  |none=>none
 |.yi g n o=>match look m n with
  |some i=>some (.yi g i o)
  |none=>none
 |.vw _ _=>none
 |c=>some c.sE
def rv (m:List (Nat × Nat)):List SC→Option (List SC)
 |[]=>some []
 |c :: l=>match mn m c,rv m l with
  |some x,some xs=>some (x :: xs)
  |_,_=>none
def RG (m:List (Nat × Nat)):SA→Option SA
 |.one c=>match mn m c with
  |some x=>some (.one x)
  |none=>none
 |.agg cs=>match rv m cs with
  |some xs=>some (.agg xs)
  |none=>none
 |.ef c=>some (.ef c)
def yU (m:List (Nat × Nat)):List SA→Option (List SA)
 |[]=>some []
 |c :: l=>match RG m c,yU m l with
  |some x,some xs=>some (x :: xs)
  |_,_=>none
def IA (m:List (Nat × Nat)):SV→Option SV
 |.sa x=>match RG m x with
  |some y=>some (.sa y)
  |none=>none
 |.bK xs=>match yU m xs with
  |some ys=>some (.bK ys)
  |none=>none
def Gq (m:List (Nat × Nat)):eH→Option eH
 |.cells t cs=>match rv m cs with
  |some xs=>some (.cells t xs)
  |none=>none
 |b=>some b
def mR (m:List (Nat × Nat)) (h:H):List Nat→Option H
 |[]=>some []
 |n :: l=>match look m n,ak h n,mR m h l with
  |some i,some b,some r=>match Gq m b with
   |some b'=>some ((i,b') :: r)
   |none=>none
  |_,_,_=>none
def bL:Nat→List Nat→List (Nat × Nat)
 |_,[]=>[]
 |i,n :: l=>(n,i) :: bL (i+1) l
def bP (m:List (Nat × Nat)):List (Nat × Nat):=m.map fun p=>(p.2,p.1)
def mu (h:H):SC→Option SC
 |.ptr _ _ | .rp _ _ _ | .fn _ _ | .mp _ | .pW _ _ | .yi _ _ _ | .vw _ _=>none
 |.own n=>match ak h n with
  |some (.row _ c)|some (.fQ c)=>some (.sl none c)
  |_=>none
 |.sl _ c=>some (.sl none c)
 |c=>some c.sE
def iN (h:H):List SC→Option (List SC)
 |[]=>some []
 |c :: l=>match mu h c,iN h l with
  |some x,some xs=>some (x :: xs)
  |_,_=>none
def jQ (h:H):SA→Option SA
 |.one c=>match mu h c with
  |some x=>some (.one x)
  |none=>none
 |.agg cs=>match iN h cs with
  |some xs=>some (.agg xs)
  |none=>none
 |.ef c=>some (.ef c)
def fo (h:H):List SA→Option (List SA)
 |[]=>some []
 |c :: l=>match jQ h c,fo h l with
  |some x,some xs=>some (x :: xs)
  |_,_=>none
def rowsOf (h:H):List Nat→H
 |[]=>[]
 |n :: l=>match ak h n with
  |some (.row _ c)=>(n,.fQ c) :: rowsOf h l
  |_=>rowsOf h l
def mC:SC→SC→List (Nat × Nat)
 |.ptr k _,.ptr i _=>[(i,k)]
 |.fn _ k,.fn _ i=>[(i,k)]
 |.own k,.own i=>[(i,k)]
 |.mp k,.mp i=>[(i,k)]
 |.sl (some (k,_)) _,.sl (some (i,_)) _=>[(i,k)]
 |.rp k _ _,.rp i _ _=>[(i,k)]
 |.pW k _,.pW i _=>[(i,k)]
 |.yi _ k _,.yi _ i _=>[(i,k)]
 |_,_=>[]
def mCs:List SC→List SC→List (Nat × Nat)
 |c :: cs,d :: ds=>mC c d ++ mCs cs ds
 |_,_=>[]
def mA:SA→SA→List (Nat × Nat)
 |.one c,.one d=>mC c d
 |.agg cs,.agg ds=>mCs cs ds
 |_,_=>[]
def mAs:List SA→List SA→List (Nat × Nat)
 |c :: cs,d :: ds=>mA c d ++ mAs cs ds
 |_,_=>[]
def mE (x y:bB):List (Nat × Nat) :=
 match x.v,y.v with
 |.sa a,.sa b=>mA a b
 |_,_=>[]
def mEs:List bB→List bB→List (Nat × Nat)
 |c :: cs,d :: ds=>mE c d ++ mEs cs ds
 |_,_=>[]
def mB:Option eH→Option eH→List (Nat × Nat)
 |some (.cells _ cs),some (.cells _ ds)=>mCs cs ds
 |_,_=>[]
def close (h h' : H):Nat→List (Nat × Nat)→List (Nat × Nat)→List (Nat × Nat)
 |0,_,acc=>acc
 |_+1,[],acc=>acc
 |f+1,(i,k) :: w,acc=>match look acc i with
  |some _=>close h h' f w acc
  |none=>close h h' f (w ++ mB (ak h k) (ak h' i)) (acc ++ [(i,k)])
def oc (m:List (Nat × Nat)) (i k:Nat):Bool :=
 match look m i with
 |some n=>bI n k
 |none=>false
def uy:Ct→Ct→Prop
 |.ints k l,.ints k' l'=>k=k'∧l=l'
 |.ah s l,.ah s' l'=>s=s'∧l=l'
 |_,_=>False
def Ct.ve:Ct→Prop
 |.ints _ l=>l=[]
 |.ah _ l=>l=[]
def vY:eH→Prop
 |.tok=>True
 |.row _ c=>c.ve
 |_=>False
def QZ:Option eH→Prop
 |some (.row _ c)=>c.ve
 |_=>False
def hasB (h:H) (b:Nat):Bool :=
 match ak h b with
 |some (.cells _ _)|some (.row _ _)=>true
 |_=>false
def dC (h:H) (b:Nat):Bool :=
 match ak h b with
 |some (.row _ _)=>true
 |_=>false
def Yu (h:H) (b:Nat):Bool :=
 match ak h b with
 |some (.mp _)=>true
 |_=>false
def xR (m:List (Nat × Nat)) (i:Nat):Bool :=
 match look m i with
 |some _=>false
 |none=>true
structure Mt where
 m:List (Nat × Nat)
 h:H
 h' : H
 ks:List Nat
 fr:Bool
def SC.le (M:Mt):SC→SC→Prop
 |_,.any=>True
 |.val u,.val v=>u=v
 |.num k n,.num k' n'=>k=k'∧n=n'
 |.num k n,.val (.int k' n')=>k=k'∧n=n'
 |.tf b,.tf b'=>b=b'
 |.tf b,.val (.bool b')=>b=b'
 |.val (.slice none 0 0),.sl none c=>c.ve
 |.val (.slice none 0 0),.sl (some (i,_)) c=>c.ve∧xR M.m i=true∧ko M.h' i=true
 |.val (.slice none 0 0),.own i=>xR M.m i=true∧QZ (ak M.h' i)
 |.ptr b o,.ptr b' o'=>oc M.m b' b=true∧hasB M.h' b' = true∧o=o'
 |.fn g b,.fn g' b'=>oc M.m b' b=true∧hasB M.h' b' = true∧g=g'
 |.own b,.own b'=>oc M.m b' b=true∧dC M.h' b' = true
 |.mp b,.mp b'=>oc M.m b' b=true∧Yu M.h' b' = true
 |.rp b i j,.rp b' i' j'=>oc M.m b' b=true∧dC M.h' b' = true∧i=i'∧j=j'
 |.pW b o,.pW b' o'=>oc M.m b' b=true∧hasB M.h' b' = true∧o=o'
 |.yi g b o,.yi g' b' o'=>oc M.m b' b=true∧hasB M.h' b' = true∧g=g'∧o=o'
 |.own b,.sl none c=>match ak M.h b with
  |some (.row _ c0)=>(M.fr && !lL b M.ks)=true∧uy c0 c
  |some (.fQ c0)=>uy c0 c
  |_=>False
 |.str l,.str l'=>l=l'
 |.sl (some (b,e)) c,.sl (some (b',e')) c'=>(oc M.m b' b=true∧ko M.h' b' = true∧e=e')∧uy c c'
 |.sl _ c,.sl none c'=>uy c c'
 |_,_=>False
def kE (M:Mt):List SC→List SC→Prop
 |[],[]=>True
 |x :: xs,y :: ys=>x.le M y∧kE M xs ys
 |_,_=>False
def SA.le (M:Mt):SA→SA→Prop
 |_,.one .any=>True
 |.one x,.one y=>x.le M y
 |.agg xs,.agg ys=>kE M xs ys
 |.ef c,.ef c'=>uy c c'
 |_,_=>False
def Ic (M:Mt):List SA→List SA→Prop
 |[],[]=>True
 |x :: xs,y :: ys=>x.le M y∧Ic M xs ys
 |_,_=>False
def zT (M:Mt):List SA→List SA→Prop
 |_,[]=>True
 |x :: xs,y :: ys=>x.le M y∧zT M xs ys
 |_,_=>False
def SV.le (M:Mt):SV→SV→Prop
 |_,.sa (.one .any)=>True
 |.sa x,.sa y=>x.le M y
 |.bK xs,.bK ys=>Ic M xs ys
 |_,_=>False
def bB.le (M:Mt):bB→bB→Prop
 |_,⟨none,.sa (.one .any)⟩=>True
 | ⟨none,x⟩,⟨none,y⟩=>x.le M y
 |_,_=>False
def jc (M:Mt):List bB→List bB→Prop
 |[],[]=>True
 |x :: xs,y :: ys=>x.le M y∧jc M xs ys
 |_,_=>False
def fR (M:Mt):eH→eH→Prop
 |.cells t x,.cells u y=>t=u∧kE M x y
 |.row t c,.row u c'=>t=u∧uy c c'
 |.mp l,.mp l'=>l=l'
 |.tok,.tok=>True
 |_,_=>False
def jv (M:Mt):H→Prop
 |[]=>True
 |(i,b) :: l=>(match look M.m i with
  |some k=>match ak M.h k with
   |some b0=>fR M b0 b
   |none=>False
  |none=>vY b)∧jv M l
def kept (m:List (Nat × Nat)):H→List Nat
 |[]=>[]
 |(i,_) :: l=>match look m i with
  |some k=>k :: kept m l
  |none=>kept m l
def distinct:List Nat→Bool
 |[]=>true
 |k :: l=>!lL k l && distinct l
def St.QM (fr:Bool) (m:List (Nat × Nat)) (s t:St):Prop :=
 distinct (kept m t.heap)=true∧jc ⟨m,s.heap,t.heap,kept m t.heap,fr⟩ s.fw t.fw∧zT ⟨m,s.heap,t.heap,kept m t.heap,fr⟩ s.gs t.gs∧jv ⟨m,s.heap,t.heap,kept m t.heap,fr⟩ t.heap
def St.le (s t:St):Prop:=s.QM true (close s.heap t.heap 200 (mEs s.fw t.fw ++ mAs s.gs t.gs) []) t
def fM (r:SV):List bB :=
 match r with
 |.sa x=>[⟨none,.sa x⟩]
 |.bK xs=>xs.map fun x=>⟨none,.sa x⟩
def Gi (x:SA):bB:=⟨none,.sa x⟩
def names (roots:List (Nat × Nat)) (b:Nat):H→List (Nat × Nat)
 |[]=>[]
 |(i,_) :: l=>match look roots i with
  |some n=>(i,n) :: names roots b l
  |none=>(i,b) :: names roots (b+1) l
def cQ:List SA→List SA→List (Nat × Nat)
 |.one (.ptr n o) :: xs,.one (.ptr i o') :: ys=>match bI o o' with
  |true=>(i,n) :: cQ xs ys
  |false=>cQ xs ys
 |.one (.own n) :: xs,.one (.own i) :: ys=>(i,n) :: cQ xs ys
 |.one (.mp n) :: xs,.one (.mp i) :: ys=>(i,n) :: cQ xs ys
 |.one (.rp n _ j) :: xs,.one (.rp i _ j') :: ys=>match bI j j' with
  |true=>(i,n) :: cQ xs ys
  |false=>cQ xs ys
 |.one (.pW n o) :: xs,.one (.pW i o') :: ys=>match bI o o' with
  |true=>(i,n) :: cQ xs ys
  |false=>cQ xs ys
 |.one (.yi _ n o) :: xs,.one (.yi _ i o') :: ys=>match bI o o' with
  |true=>(i,n) :: cQ xs ys
  |false=>cQ xs ys
 |_ :: xs,_ :: ys=>cQ xs ys
 |_,_=>[]
def dB:List SC→List Nat
 |[]=>[]
 |.own j :: l=>j :: dB l
 |_ :: l=>dB l
def lR (h:H):List Nat:=h.flatMap fun p=>match ak h p.1 with
 |some (.cells _ cs)=>dB cs
 |_=>[]
def mM:SA→List Nat
 |.agg cs=>dB cs
 |_=>[]
def bO (args:List SA) (h:H):List Nat:=lR h ++ args.flatMap mM
def ky:List Nat→List SA→List (Nat × Nat)
 |j :: l,.one (.own i) :: ys=>(i,j) :: ky l ys
 |_ :: l,_ :: ys=>ky l ys
 |_,_=>[]
def bT (seen:List Nat) (args:List SA) (h0 ph:H) (vs as:List SA):List (Nat × Nat):=cQ vs as ++ (ky (bO args h0) (as.drop vs.length)).filterMap fun p=>match dC h0 p.2 && dC ph p.1,seen[p.2]? with
 |true,some n=>some (p.1,n)
 |_,_=>none
def lK:List SA→List SA→Prop
 |.one (.rp _ i _) :: xs,.one (.rp _ i' _) :: ys=>i=i'∧lK xs ys
 |_ :: xs,_ :: ys=>lK xs ys
 |_,_=>True
def Kk (ns:List (Nat × Nat)):Bool:=ns.all fun p=>oc (bP ns) p.2 p.1
def gN (h:H) (roots:List (Nat × Nat)):List (Nat × Nat)→Bool
 |[]=>true
 |(i,n) :: l=>(match look roots i with
  |some _=>true
  |none=>cD h n) && gN h roots l
def Lq:Option eH→Option eH→Prop
 |some (.cells _ _),some (.cells _ _)=>True
 |some (.row _ c),some (.row _ c')=>c'.len Ar.U=c.len Ar.U∧c'.sz=c.sz
 |some (.mp _),some (.mp _)=>True
 |_,_=>False
def kC (h h' : H) (roots:List (Nat × Nat)):List (Nat × Nat)→Prop
 |[]=>True
 |(i,n) :: l=>(match look roots i with
  |some _=>Lq (ak h n) (ak h' i)
  |none=>True)∧kC h h' roots l
def fO (keys:List Nat):List Nat→H
 |[]=>[]
 |n :: l=>match lL n keys with
  |true=>fO keys l
  |false=>(n,.dead) :: fO keys l
def yI (h:H):List Nat→H
 |[]=>[]
 |n :: l=>match ak h n with
  |some b=>(n,b) :: yI h l
  |none=>yI h l
def Gd (m ns:List (Nat × Nat)):Bool:=ns.all fun p=>oc m p.2 p.1
def fk (kp:Bool) (h:H) (u:Nat) (bE:aY) (s:Prop) (vs:List SA):Option cA :=
 let seen:=reach 200 h (vs.flatMap aZ) []
 let m:=bL 0 seen
 match yU m vs,mR m h seen with
 |some args,some h0=>match bE args h0 with
  |some p =>
   let roots:=bT seen args h0 p.h vs p.as
   let ns:=names roots (bS u) p.h
   match IA ns p.r,mR ns p.h (p.h.map (·.1)) with
   |some r,some h1=>match gN h roots ns && (distinct (h1.map (·.1)) && (Kk ns && bI args.length vs.length)) with
    |true=>some ⟨s∧p.C∧(St.mk [] (yI h seen) vs).QM false (bP m) (St.mk [] h0 args)∧(St.mk (fM p.r) p.h []).QM false (bP ns) (St.mk (fM r) h1 [])∧kC h p.h roots ns∧lK vs p.as,⟨none,r⟩,match kp && (Gd m ns && seen.all fun n=>lL n (h1.map (·.1))) with
      |true=>[]
      |false=>fO (h1.map (·.1)) seen ++ h1⟩
    |false=>none
   |_,_=>none
  |none=>none
 |_,_=>none
def Dd:SC→Bool
 |.ptr _ _ | .sl _ _ | .own _ | .rp _ _ _ | .OB _ _ | .FK _ _ _ | .fn _ _ | .mp _ | .pW _ _ | .yi _ _ _ | .vw _ _=>false
 |_=>true
def Ef:SA→Bool
 |.one c=>Dd c
 |.agg cs=>cs.all Dd
 |.ef _=>false
def Qv:SV→Bool
 |.sa x=>Ef x
 |.bK xs=>xs.all Ef
def fv (h:H) (u:Nat) (bE:aY) (s:Prop) (vs:List SA):Option cA :=
 match fo h vs with
 |some args=>match bE args [] with
  |some p =>
   let ns:=names [] (bS u) p.h
   match IA ns p.r,mR ns p.h (p.h.map (·.1)) with
   |some r,some h1=>match gN h [] ns && (distinct (h1.map (·.1)) && Kk ns) with
    |true=>match Qv p.r && p.h.isEmpty with
     |true=>some ⟨s∧p.C,⟨none,p.r⟩,[]⟩
     |false=>some ⟨s∧p.C∧(St.mk (fM p.r) p.h []).QM false (bP ns) (St.mk (fM r) h1 []),⟨none,r⟩,rowsOf h (vs.flatMap aZ) ++ h1⟩
    |false=>none
   |_,_=>none
  |none=>none
 |none=>none
def gV (kp:Bool) (h:H) (u:Nat) (bE:aY) (s:Prop) (vs:List SA):Option cA :=
 match fk kp h u bE s vs with
 |some E=>some E
 |none=>fv h u bE s vs
def dh (A:Ar) (cx:Cx) (h:H) (t:TypeId):bB→bB→Option cA
 | ⟨g,.sa (.one x)⟩,⟨g',.sa (.one y)⟩=>match y.int?,look cx.tt t with
  |some (_,i),some ⟨.slice _ n,_,_,_,_⟩=>match x with
   |.sl _ (.ints k l)=>match bI n 1 with
    |true=>cg (need g∧need g'∧A.cmp .geq i 0=true∧A.cmp .lss i (A.fE l)=true) (.OB k (A.UT l i))
    |false=>none
   |.sl _ (.ah s l)=>match bI n s.size with
    |true=>cg (need g∧need g'∧A.cmp .geq i 0=true∧A.cmp .lss i (A.dN l)=true) (.FK s (A.bh l i) 0)
    |false=>none
   |.own b=>match ak h b with
    |some (.row _ c)=>match bI n c.sz with
     |true=>cg (need g∧need g'∧A.cmp .geq i 0=true∧A.cmp .lss i (c.len A)=true) (.rp b i 0)
     |false=>none
    |some (.fQ c)=>match bI n c.sz with
     |true=>match c with
      |.ints k l=>cg (need g∧need g'∧A.cmp .geq i 0=true∧A.cmp .lss i (A.fE l)=true) (.OB k (A.UT l i))
      |.ah s l=>cg (need g∧need g'∧A.cmp .geq i 0=true∧A.cmp .lss i (A.dN l)=true) (.FK s (A.bh l i) 0)
     |false=>none
    |_=>none
   |_=>none
  |some (_,i),some ⟨.array len n _,_,_,_,_⟩=>match x with
   |.ptr b off=>match ak h b with
    |some (.cells _ _)=>match y.lit && (al .geq i 0 && al .lss i len) with
     |true=>cg (need g∧need g') (.ptr b (off+i.toNat * n))
     |false=>none
    |some (.row _ c)=>match bI off 0 && (bI c.sz 1 && (dP 1 n && dP (len * n) 1000000)) with
     |true=>cg (need g∧need g'∧A.cmp .geq i 0=true∧A.cmp .lss i len=true∧A.cmp .leq ((len * n:Nat):Int) (c.len A)=true) (.rp b (match bI n 1 with
      |true=>i
      |false=>A.bin .mul .i64 i n) 0)
     |false=>none
    |_=>none
   |.rp b i0 0=>match ak h b with
    |some (.row _ c)=>match bI c.sz 1 && (dP 1 n && dP (len * n) 1000000) with
     |true=>cg (need g∧need g'∧A.cmp .geq i 0=true∧A.cmp .lss i len=true∧A.cmp .leq (c.len A) 1000000=true∧A.cmp .leq (A.bin .add .i64 i0 ((len * n:Nat):Int)) (c.len A)=true)
       (.rp b (A.bin .add .i64 i0 (match bI n 1 with
        |true=>i
        |false=>A.bin .mul .i64 i n)) 0)
     |false=>none
    |_=>none
   |.FK s q j=>match y.lit && (al .geq i 0 && al .lss i len) with
    |true=>cg (need g∧need g') (.FK (s.drop (i.toNat * n)) q (j+i.toNat * n))
    |false=>none
   |_=>none
  |_,_=>none
 |_,_=>none
def nH (A:Ar) (cx:Cx) (t:TypeId):bB→bB→Option cA
 | ⟨g,.sa x⟩,⟨g',.sa (.one y)⟩=>match y.int?,look cx.tt t with
  |some (_,i),some ⟨.array len n ag,_,_,_,_⟩=>match x with
   |.agg cs=>match y.lit && (al .geq i 0 && al .lss i len) with
    |true=>match ag with
     |true=>match eB cs (i.toNat * n) n with
      |some l=>some ⟨need g∧need g',⟨none,.sa (.agg l)⟩,[]⟩
      |none=>none
     |false=>match eB cs (i.toNat * n) 1 with
      |some [c]=>cg (need g∧need g') c
      |_=>none
    |false=>none
   |.ef c=>match ag with
    |true=>none
    |false=>match bI n 1 && bI c.sz 1 with
     |true=>match c.at A i 0 1 with
      |[d]=>cg (need g∧need g'∧A.cmp .geq i 0=true∧A.cmp .lss i len=true∧A.cmp .leq len (c.len A)=true) d
      |_=>none
     |false=>none
   |_=>none
  |some (_,i),some ⟨.str,_,_,_,_⟩=>match x with
   |.one (.str l)=>cg (need g∧need g'∧A.cmp .geq i 0=true∧A.cmp .lss i (A.fE l)=true) (.val (.int .u8 (A.UT l i)))
   |_=>none
  |_,_=>none
 |_,_=>none
def jg (A:Ar) (cx:Cx) (h:H) (src dt:TypeId):bB→Option cA
 | ⟨g,.sa (.one c)⟩=>match look cx.tt src,look cx.tt dt with
  |some ⟨.slice e _,_,_,_,_⟩,some ⟨.str,_,_,_,_⟩=>match look cx.tt e with
   |some ⟨.int .u8,_,_,_,_⟩=>match c with
    |.val (.slice none 0 0)=>cg (need g) (.str [])
    |c=>match kh h c with
     |some (.ints .u8 l)=>cg (need g) (.str (A.byt l))
     |_=>none
   |_=>none
  |some ⟨.str,_,_,_,_⟩,some ⟨.slice e sz,_,_,_,_⟩=>match look cx.tt e with
   |some ⟨.int .u8,_,_,_,_⟩=>match bI sz 1 with
    |true=>match c with
     |.str l=>cg (need g∧A.fits (A.fE l) 1=true) (.sl none (.ints .u8 l))
     |_=>none
    |false=>none
   |_=>none
  |some ⟨.slice e _,_,_,_,_⟩,some ⟨.slice _ _,_,_,_,_⟩=>match look cx.tt e with
   |some ⟨.int .u8,_,_,_,_⟩=>match bI src dt,c with
    |true,.sl (some (id,_)) (.ints k l)=>match ko h id with
     |true=>some ⟨need g∧A.cmp .gtr (A.fE l) 0=true,⟨none,.sa (.one (.sl none (.ints k l)))⟩,[(id,.dead)]⟩
     |false=>none
    |_,_=>none
   |_=>none
  |some _,some ⟨.int k,_,_,_,_⟩=>match c.int? with
   |some (_,n)=>cg (need g) (Tt c.lit k ((A.lit c.lit).conv k n))
   |none=>none
  |_,_=>none
 |_=>none
def iK (A:Ar) (cx:Cx) (h:H) (t:TypeId):bB→Option cA
 | ⟨g,.sa (.one (.ptr b off))⟩=>match EK A cx (ak h b) off t with
  |some (C,v)=>some ⟨need g∧C,⟨none,.sa v⟩,[]⟩
  |none=>none
 | ⟨g,.sa (.one (.rp b i j))⟩=>match ak h b,look cx.tt t with
  |some (.row _ c),some ti=>match ti.k.agg with
   |true=>match dP (j+ti.size) c.sz with
    |true=>some ⟨need g,⟨none,.sa (.agg (c.at A i j ti.size))⟩,[]⟩
    |false=>none
   |false=>match dP (j+1) c.sz,c.at A i j 1 with
    |true,[d]=>cg (need g) d
    |_,_=>none
  |_,_=>none
 | ⟨g,.sa (.one (.OB k n))⟩=>match look cx.tt t with
  |some ti=>match ti.k.agg with
   |true=>none
   |false=>cg (need g) (.val (.int k n))
  |none=>none
 | ⟨g,.sa (.one (.pW n off))⟩=>match look cx.tt t with
  |some ti=>match ti.k.agg with
   |true=>none
   |false=>cg (need g) (.ptr n off)
  |none=>none
 | ⟨g,.sa (.one (.FK s x j))⟩=>match look cx.tt t with
  |some ti=>match ti.k.agg with
   |true=>match dP ti.size s.size with
    |true=>some ⟨need g,⟨none,.sa (.agg (dQ A s x j ti.size))⟩,[]⟩
    |false=>none
   |false=>match dQ A s x j 1 with
    |[c]=>cg (need g) c
    |_=>none
  |none=>none
 |_=>none
def gz (A:Ar) (cx:Cx) (h:H) (t:TypeId) (x y:bB):Option cA :=
 match x,y,look cx.tt t with
 | ⟨g,.sa (.one (.ptr b off))⟩,⟨g',.sa v⟩,some ti=>match ak h b with
  |some (.cells bt bc)=>match bI v.cells.length ti.size && dP (off+ti.size) bc.length with
   |true=>some ⟨need g∧need g'∧v.side,bB.nil,[(b,.cells bt (eY bc off v.cells))]⟩
   |false=>none
  |some (.row bt c0)=>match v with
   |.ef c=>match bI c.sz 1 && (bI c0.sz 1 && bI off 0) with
    |true=>some ⟨need g∧need g'∧A.cmp .eql (c.len A) ti.size=true∧A.cmp .eql (c0.len A) ti.size=true,bB.nil,[(b,.row bt c)]⟩
    |false=>none
   |_=>none
  |_=>none
 | ⟨g,.sa (.one (.rp b i j))⟩,⟨g',.sa v⟩,some ti=>match ak h b with
  |some (.row bt c)=>match bI v.cells.length ti.size && dP (j+ti.size) c.sz with
   |true=>match Hd A c i j v with
    |some c'=>some ⟨need g∧need g'∧v.side,bB.nil,[(b,.row bt c')]⟩
    |none=>none
   |false=>none
  |_=>none
 |_,_,_=>none
def dg (cx:Cx) (h:H) (s:TypeId) (f:Nat) (x:bB):Option cA :=
 match x,look cx.tt s with
 | ⟨g,.sa (.one c)⟩,some ⟨.struct fs,_,_,_,_⟩=>match fs[f]? with
  |some (o,n,_,_)=>match bI n 0 with
   |true=>none
   |false=>match c with
    |.ptr b off=>cg (need g) (.ptr b (off+o))
    |.rp b i j=>match dC h b with
     |true=>cg (need g) (.rp b i (j+o))
     |false=>none
    |.FK h y j=>cg (need g) (.FK (h.drop o) y (j+o))
    |_=>none
  |none=>none
 |_,_=>none
def ou (cx:Cx) (s:TypeId) (f:Nat) (x:bB):Option cA :=
 match x,look cx.tt s with
 | ⟨g,.sa (.agg cs)⟩,some ⟨.struct fs,_,_,_,_⟩=>match fs[f]? with
  |some (o,n,true,_)=>match eB cs o n with
   |some l=>some ⟨need g,⟨none,.sa (.agg l)⟩,[]⟩
   |none=>none
  |some (o,_,false,_)=>match eB cs o 1 with
   |some [c]=>cg (need g) c
   |_=>none
  |none=>none
 |_,_=>none
def placeOf (fs:List (Nat × Nat × Bool × List Nat)) (i:Nat):Option (Nat × Nat) :=
 match fs[i]? with
 |some f=>some (f.1,f.2.1)
 |none=>none
def mH (A:Ar) (cx:Cx) (t:TypeId) (is:List Nat) (es:List bB):Option cA :=
 match look cx.tt t,AJ es with
 |some ⟨.struct fs,_,z,_,_⟩,some vs=>match Af (placeOf fs) (z.map cellOf) (is.zip vs) with
  |some cs=>some ⟨dX es∧dW vs∧z.all Value.oneCell' = true,⟨none,.sa (.agg cs)⟩,[]⟩
  |none=>none
 |some ⟨.array _ n _,sz,z,_,fl⟩,some vs=>match fl,is,dP sz 8 with
  |some s,[],false=>some ⟨True,⟨none,.sa (.ef (AQ A sz s))⟩,[]⟩
  |_,is,_=>match Af (fun i=>some (i * n,n)) (z.map cellOf) (is.zip vs) with
   |some cs=>some ⟨dX es∧dW vs∧z.all Value.oneCell' = true,⟨none,.sa (.agg cs)⟩,[]⟩
   |none=>none
 |_,_=>none
def dM (cx:Cx) (h:H) (u:Nat) (t:TypeId) (n:Nat) (is:List Nat) (es:List bB):Option cA :=
 match look cx.tt t,AJ es with
 |some ⟨.slice e sz,_,_,_,_⟩,some vs=>match Tz (look cx.hs t) sz vs,look cx.tt e with
  |some ct,some _=>match cD h (bS u) && (idxs is 0 n && (dP 1 sz && (dP (n * sz) 16777216 && vs.all fun v=>bI v.cells.length sz))) with
   |true=>match bI n 0,look cx.fs (dJ u) with
    |true,some _=>some ⟨dX es∧dW vs,⟨none,.sa (.one (.own (bS u)))⟩,[(bS u,.emp e)]⟩
    |_,_=>some ⟨dX es∧dW vs,⟨none,.sa (.one (.sl (some (bS u,e)) ct))⟩,[(bS u,.tok)]⟩
   |false=>none
  |_,_=>none
 |_,_=>none
def nc (A:Ar) (cx:Cx) (h:H) (u:Nat) (t:TypeId):bB→bB→Option cA
 | ⟨g,.sa (.one x)⟩,⟨g',.sa (.one y)⟩=>match x.int?,y.int?,look cx.tt t with
  |some (_,l),some (_,c),some ⟨.slice e sz,_,_,_,_⟩=>match look cx.tt e,look cx.bs e,look cx.hs t with
   |some te,some b,some ct=>match bI te.size sz && (dP 1 sz && (dP 1 b && (bI ct.sz sz && cD h (bS u)))) with
    |true=>match x.lit && al .eql l 0 with
     |true=>some ⟨need g∧need g'∧A.cmp .geq c 0=true∧A.fits c b=true,⟨none,.sa (.one (.sl (some (bS u,e)) (eZ ct)))⟩,[(bS u,.tok)]⟩
     |false=>some ⟨need g∧need g'∧A.cmp .geq l 0=true∧A.cmp .leq l c=true∧A.fits c b=true,⟨none,.sa (.one (.own (bS u)))⟩,[(bS u,.row e (ct.rep A l))]⟩
    |false=>none
   |_,_,_=>none
  |_,_,_=>none
 |_,_=>none
def gB (A:Ar) (cx:Cx) (st:St) (t:TypeId) (x:bB) (lo hi mx:Option Operand):Option cA :=
 match x,look cx.tt t with
 | ⟨g,.sa (.one c)⟩,some ⟨.slice _ n,_,_,_,_⟩=>match kh st.heap c with
  |some ct=>match re st 0 lo,re st (ct.len A) hi,re st 0 mx with
   |some (g1,l),some (g2,h),some (g3,m)=>match bI n ct.sz with
    |true=>match mx,hi,c with
     |none,_,_=>some ⟨need g∧need g1∧need g2∧A.cmp .geq l 0=true∧A.cmp .leq l h=true∧A.cmp .leq h (ct.len A)=true,⟨none,.sa (.one (.sl none (ct.cut A l h)))⟩,rowsOf st.heap (bn c)⟩
     |some _,some _,_=>some ⟨need g∧need g1∧need g2∧need g3∧A.cmp .geq l 0=true∧A.cmp .leq l h=true∧A.cmp .leq h m=true∧A.cmp .leq m (ct.len A)=true,⟨none,.sa (.one (.sl none (ct.cut A l h)))⟩,rowsOf st.heap (bn c)⟩
     |_,_,_=>none
    |false=>none
   |_,_,_=>none
  |none=>none
 |_,_=>none
def gK (h:H) (e:TypeId):SC→Option (Nat × Nat × Int × Ct)
 |.own n=>match ak h n with
  |some (.cq d sz q)=>match ak h d with
   |some (.row e' c)=>match bI e e' with
    |true=>some (d,sz,q,c)
    |false=>none
   |_=>none
  |_=>none
 |_=>none
def nK (A:Ar) (cx:Cx) (st:St) (u:Nat) (t:TypeId) (x:bB) (lo hi:Option Operand):Option cA :=
 match x,look cx.tt t with
 | ⟨g,.sa (.one c)⟩,some ⟨.slice e n,_,_,_,_⟩=>match ownRow st.heap e c with
  |some (m,ct)=>match re st 0 lo,re st (ct.len A) hi with
   |some (g1,l),some (g2,h)=>match bI n ct.sz && cD st.heap (bS u) with
    |true=>some ⟨need g∧need g1∧need g2∧A.cmp .geq l 0=true∧A.cmp .leq l h=true∧A.cmp .leq h (ct.len A)=true,⟨none,.sa (.one (.own (bS u)))⟩,[(m,.dead),(bS u,.row e (ct.cut A l h))]⟩
    |false=>none
   |_,_=>none
  |none=>match gK st.heap e c,re st 0 lo,hi with
   |some (d,sz,q,cd),some (g1,l),none=>match bI n sz && cD st.heap (bS u) with
    |true=>some ⟨need g∧need g1∧A.cmp .eql l q=true,⟨none,.sa (.one (.own (bS u)))⟩,[(d,.dead),(bS u,.row e cd)]⟩
    |false=>none
   |_,_,_=>none
 |_,_=>none
def oo (A:Ar) (cx:Cx) (st:St) (u:Nat) (t:TypeId) (x:bB) (lo hi mx:Option Operand):Option cA :=
 match x,look cx.tt t with
 | ⟨g,.sa (.one c)⟩,some ⟨.slice e n,_,_,_,_⟩=>match ownRow st.heap e c with
  |some (m,ct)=>match re st 0 lo,re st (ct.len A) hi,re st 0 mx with
   |some (g1,l),some (g2,h),some (g3,q)=>match bI n ct.sz && cD st.heap (bS u),hi,mx with
    |true,some _,some _=>some ⟨need g∧need g1∧need g2∧need g3∧A.cmp .geq l 0=true∧A.cmp .leq l h=true∧A.cmp .leq h q=true∧A.cmp .leq q (ct.len A)=true,⟨none,.sa (.one (.sl none (ct.cut A l h)))⟩,[(m,.cq (bS u) n q),(bS u,.row e (ct.cut A q (ct.len A)))]⟩
    |_,_,_=>none
   |_,_,_=>none
  |none=>none
 |_,_=>none
def Pm (u:Nat):Nat:=dJ (500000000+u)
def mZ (A:Ar) (cx:Cx) (st:St) (t:TypeId) (x:bB) (lo hi:Option Operand):Option cA :=
 match x,look cx.tt t,hi with
 | ⟨g,.sa (.one c)⟩,some ⟨.slice e n,_,_,_,_⟩,none=>match ownRow st.heap e c,re st 0 lo with
  |some (m,ct),some (g1,l)=>match bI n ct.sz with
   |true=>cg (need g∧need g1∧A.cmp .geq l 0=true∧A.cmp .leq l (ct.len A)=true) (.vw m l)
   |false=>none
  |_,_=>none
 |_,_,_=>none
def Bw:Ct→Ct→Bool
 |.ints k _,.ints k' _=>df k k'
 |.ah s _,.ah s' _=>gF s s'
 |_,_=>false
def Ct.Bz (A:Ar) (l:Int):Ct→Ct
 |.ints k m=>.ints k (A.Xi m l)
 |.ah s m=>.ah s (A.Wr s.zero m l)
def gA (A:Ar) (cx:Cx) (h:H) (t:TypeId):bB→Option cA
 | ⟨g,.sa (.one (.vw n l))⟩=>match look cx.tt t,look cx.hs t,ak h n with
  |some ⟨.slice e sz,_,_,_,_⟩,some hc,some (.row bt c)=>match look cx.tt e with
   |some te=>match Bw hc c && (bI c.sz sz && (bI te.size sz && dP 1 sz)) with
    |true=>some ⟨need g,bB.nil,[(n,.row bt (c.Bz A l))]⟩
    |false=>none
   |none=>none
  |_,_,_=>none
 |_=>none
def qp:bB→Option cA
 | ⟨g,.sa (.one (.ptr n off))⟩=>some ⟨need g,⟨none,.sa (.one (.pW n off))⟩,[]⟩
 |_=>none
def jO (A:Ar) (cx:Cx) (h:H) (u:Nat) (t:TypeId):Option cA :=
 match look cx.tt t with
 |some ti=>match cD h (bS u) with
  |true=>match ti.flat,dP ti.size 8 with
   |some s,false=>some ⟨True,⟨none,.sa (.one (.ptr (bS u) 0))⟩,[(bS u,.row t (AQ A ti.size s))]⟩
   |_,_=>some ⟨ti.zero.all Value.oneCell' = true,⟨none,.sa (.one (.ptr (bS u) 0))⟩,[(bS u,.cells t (ti.zero.map cellOf))]⟩
  |false=>none
 |none=>none
def tg (h:H) (u:Nat) (t:TypeId):bB→Option cA
 | ⟨g,.sa v⟩=>match cD h (bS u) with
  |true=>match v with
   |.ef c=>some ⟨need g,⟨none,.sa (.one (.ptr (bS u) 0))⟩,[(bS u,.row t c)]⟩
   |v=>some ⟨need g∧v.side,⟨none,.sa (.one (.ptr (bS u) 0))⟩,[(bS u,.cells t v.cells)]⟩
  |false=>none
 |_=>none
def ml (A:Ar) (cx:Cx) (h:H) (t:TypeId) (s:Prop) (c:SC):Option cA :=
 match look cx.tt t with
 |some ⟨.slice _ _,_,_,_,_⟩=>match c with
  |.val (.slice none 0 0)=>cg s (.num .i64 0)
  |c=>match kh h c with
   |some ct=>cg s (.val (.int .i64 (ct.len A)))
   |none=>none
 |some ⟨.str,_,_,_,_⟩=>match c with
  |.str l=>cg s (.val (.int .i64 (A.fE l)))
  |_=>none
 |_=>none
def Wx:bB→Option Nat
 | ⟨_,.sa (.one (.val (.func (.func f) ⟨[]⟩ ⟨[]⟩)))⟩=>some f
 |_=>none
def ZA (e:bB) (s:Prop):Prop :=
 match e.g with
 |none=>s
 |some b=>b=true∧s
def ZP:bB→Option (Nat × SC)
 | ⟨none,.sa (.one (.fn g n))⟩=>some (g,.ptr n 0)
 | ⟨none,.sa (.one (.yi g n o))⟩=>some (g,.pW n o)
 |_=>none
def qM (A:Ar) (cx:Cx) (st:St) (u:Nat) (c:Call) (es:List bB):Option cA :=
 match c.callee with
 |.value x=>match Wx (aF st x) with
  |some f=>match dP f 999999,look cx.fs f,AJ es with
   |true,some bE,some vs=>gV (match look cx.fs (bG f) with
    |some _=>true
    |none=>false) st.heap u bE (ZA (aF st x) (dX es)) vs
   |_,_,_=>none
  |none=>match ZP (aF st x) with
   |some (f,n)=>match dP f 999999,look cx.fs f,AJ es with
    |true,some bE,some vs=>fk (match look cx.fs (bG f) with
     |some _=>true
     |none=>false) st.heap u bE (dX es) (vs ++ [.one n])
    |_,_,_=>none
   |none=>none
 |.builtin .len=>match c.argTypes.toList,AJ es with
  |[t],some [.one x]=>ml A cx st.heap t (dX es) x
  |_,_=>none
 |.builtin .append=>match c.argTypes.toList,es with
  |[t,t'],[x,y]=>match x,look cx.tt t with
   | ⟨_,.sa (.one c)⟩,some ⟨.slice e _,_,_,_,_⟩=>match nU st.heap e c with
    |some n=>iI A cx st.heap u n t t' x y
    |none=>match ownRow st.heap e c with
     |some (n,c1)=>iH A cx st.heap u n c1 t t' x y
     |none=>match look cx.fs (dJ u) with
      |some _=>jd A cx st.heap u t t' x y
      |none=>lI A cx st.heap u t t' x y
   |_,_=>none
  |_,_=>none
 |.builtin .copy=>match c.argTypes.toList,es with
  |t :: _,[x,y]=>iW A cx st.heap t x y
  |_,_=>none
 |.builtin .clear=>match c.argTypes.toList,es with
  |[t],[x]=>gA A cx st.heap t x
  |_,_=>none
 |.builtin .min=>match AJ es with
  |some (.one x :: l)=>match x.int? with
   |some (k,a)=>match me A .lss a l k with
    |some n=>cg (dX es) (.val (.int k n))
    |none=>none
   |none=>none
  |_=>none
 |.builtin .max=>match AJ es with
  |some (.one x :: l)=>match x.int? with
   |some (k,a)=>match me A .gtr a l k with
    |some n=>cg (dX es) (.val (.int k n))
    |none=>none
   |none=>none
  |_=>none
 |_=>none
def Cz (A:Ar) (op:UnOp):bB→Option cA
 | ⟨g,.sa (.one c)⟩=>match op with
  |.not=>match c.bool? with
   |some b=>cg (need g) (Xp c.lit ((A.lit c.lit).not b))
   |none=>none
  |.neg=>match c.int? with
   |some (k,n)=>cg (need g) (Tt c.lit k ((A.lit c.lit).bin .sub k 0 n))
   |none=>none
  |.xor=>match c.int? with
   |some (k,n)=>cg (need g) (Tt c.lit k ((A.lit c.lit).bin .xor k (match k.signed with
    |true=>-1
    |false=>k.max) n))
   |none=>none
  |_=>none
 |_=>none
def xA:bB→Option cA
 | ⟨g,.sa (.one (.ptr n o))⟩=>cg (need g) (.ptr n o)
 | ⟨g,.sa (.one (.rp n i j))⟩=>cg (need g) (.rp n i j)
 |_=>none
def jb (i:Nat):bB→Option cA
 | ⟨g,.bK xs⟩=>match xs[i]? with
  |some a=>some ⟨need g,⟨none,.sa a⟩,[]⟩
  |none=>none
 |_=>none
def jZ (cx:Cx) (h:H) (u:Nat) (t:TypeId) (hint:Option Operand):Option cA :=
 match look cx.tt t,hint,cD h (bS u) with
 |some ⟨.sI,_,_,_,_⟩,none,true=>some ⟨True,⟨none,.sa (.one (.mp (bS u)))⟩,[(bS u,.mp [])]⟩
 |_,_,_=>none
def iT (A:Ar) (cx:Cx) (h:H) (t:TypeId) (ok:Bool):bB→bB→Option cA
 | ⟨g,.sa (.one (.mp n))⟩,⟨g',.sa (.one y)⟩=>match y.int?,look cx.tt t,ak h n with
  |some (.i64,k),some ⟨.sI,_,_,_,_⟩,some (.mp l)=>match ok with
   |false=>cg (need g∧need g') (.val (.int .i64 (A.nJ l k)))
   |true=>some ⟨need g∧need g',⟨none,.bK [.one (.val (.int .i64 (A.nJ l k))),.one (.val (.bool (A.rF l k)))]⟩,[]⟩
  |_,_,_=>none
 |_,_=>none
def lU (A:Ar) (cx:Cx) (h:H) (t:TypeId):bB→bB→bB→Option cA
 | ⟨g,.sa (.one (.mp n))⟩,⟨g',.sa (.one y)⟩,⟨g2,.sa (.one z)⟩=>match y.int?,z.int?,look cx.tt t,ak h n with
  |some (.i64,k),some (.i64,v),some ⟨.sI,_,_,_,_⟩,some (.mp l)=>some ⟨need g∧need g'∧need g2∧A.cmp .lss (A.Uj l) 1000000000000=true,bB.nil,[(n,.mp (A.uj l k v))]⟩
  |_,_,_,_=>none
 |_,_,_=>none
def EB (f:Fn) (first:List bB) (cap:List bB):Option cA :=
 match f,first,cap with
 |.func f,[],[⟨g,.sa (.one (.ptr n 0))⟩]=>cg (need g) (.fn f n)
 |.func f,[],[⟨g,.sa (.one (.pW n o))⟩]=>cg (need g) (.yi f n o)
 |_,_,_=>none
def dF (A:Ar) (cx:Cx) (st:St) (u:Nat):Op→Option cA
 |.makeFunc f first cap=>EB f (first.toList.map (aF st)) (cap.toList.map (aF st))
 |.move x | .assign x=>some ⟨True,aF st x,[]⟩
 |.pick c a b=>qK A (aF st c) (aF st a) (aF st b)
 |.binOp op xt x y _=>lM A cx st.heap op xt (aF st x) (aF st y)
 |.unOp op _ x=>Cz A op (aF st x)
 |.convert src dt x=>jg A cx st.heap src dt (aF st x)
 |.nilCheck x=>xA (aF st x)
 |.alloc t=>jO A cx st.heap u t
 |.box t x=>match look cx.fs (dJ u) with
  |some _=>qp (aF st x)
  |none=>tg st.heap u t (aF st x)
 |.load t x=>iK A cx st.heap t (aF st x)
 |.store t x y=>gz A cx st.heap t (aF st x) (aF st y)
 |.fieldAddr s x f=>dg cx st.heap s f (aF st x)
 |.field s x f=>ou cx s f (aF st x)
 |.build t ps=>mH A cx t (ps.toList.map (·.1)) (ps.toList.map fun p=>aF st p.2)
 |.buildSlice t n ps=>dM cx st.heap u t n (ps.toList.map (·.1)) (ps.toList.map fun p=>aF st p.2)
 |.makeSlice t l c=>nc A cx st.heap u t (aF st l) (aF st c)
 |.indexAddr t x ix=>dh A cx st.heap t (aF st x) (aF st ix)
 |.index t x ix=>nH A cx t (aF st x) (aF st ix)
 |.slice t x lo hi mx=>match look cx.fs (dJ u) with
  |some _=>match mx with
   |none=>nK A cx st u t (aF st x) lo hi
   |some y=>oo A cx st u t (aF st x) lo hi (some y)
  |none=>match look cx.fs (Pm u),mx with
   |some _,none=>mZ A cx st t (aF st x) lo hi
   |_,mx=>gB A cx st t (aF st x) lo hi mx
 |.extract x i=>jb i (aF st x)
 |.makeMap t hint=>jZ cx st.heap u t hint
 |.lookup t m x ok=>iT A cx st.heap t ok (aF st m) (aF st x)
 |.mapUpdate t m x v=>lU A cx st.heap t (aF st m) (aF st x) (aF st v)
 |.call c=>qM A cx st u c (c.args.toList.map (aF st))
 |_=>none
def St.put (st:St) (dst:Option Tmp) (e:bB):St :=
 match dst with
 |some d=>{ st with fw:=st.fw.set d e }
 |none=>st
def aH (h:H):List (Nat × eH)→H
 |[]=>h
 |p :: l=>aH (aS h p.1 p.2) l
def St.app (st:St) (dst:Option Tmp) (E:cA):St:={ (st.put dst E.ent) with heap:=aH st.heap E.iv }
inductive Wn where
 |bad
 |yes
 |no
 |sym (b:Bool)
def JG (A:Ar) (want:Bool):bB→Wn
 | ⟨none,.sa (.one (.tf c))⟩=>match want,c with
  |true,true=>.yes
  |false,false=>.yes
  |_,_=>.no
 | ⟨some g,.sa (.one (.tf c))⟩=>match want,c with
  |true,true=>.sym g
  |false,false=>.sym g
  |_,_=>.no
 | ⟨none,.sa (.one (.val (.bool c)))⟩=>.sym (match want with
  |true=>c
  |false=>A.not c)
 | ⟨some g,.sa (.one (.val (.bool c)))⟩=>.sym (A.and g (match want with
  |true=>c
  |false=>A.not c))
 |_=>.bad
def pG (A:Ar) (ops:List Oper) (st:St):Option (Nat × Bool)→Wn
 |none=>.yes
 |some (j,want) =>
  match ops[j]? with
  |some o=>match o.dst with
   |some t=>JG A want (st.fw.getD t bB.nil)
   |none=>.bad
  |none=>.bad
def iF (A:Ar) (cx:Cx) (ops:List Oper) (st:St) (u:Nat) (o:Oper) (d:Bool):Option cA :=
 match pG A ops st o.guard with
 |.bad=>none
 |.yes=>dF A cx st u o.op
 |.no=>some ⟨True,bB.off,[]⟩
 |.sym b=>match dF A cx st u o.op with
  |some ⟨C,e,[]⟩=>some ⟨b=false∨C,⟨ME A (some b) e.g,e.v⟩,[]⟩
  |some ⟨C,e,p :: l⟩=>match d with
   |true=>some ⟨b=true∧C,e,p :: l⟩
   |false=>some ⟨b=false,bB.nil,[]⟩
  |none=>some ⟨b=false,bB.nil,[]⟩
def cS (h:H) (u:Nat) (bE:aY) (vs:List SA):List Nat :=
 let seen:=reach 200 h (vs.flatMap aZ) []
 let m:=bL 0 seen
 vs.flatMap aZ ++ seen ++ (match yU m vs,mR m h seen with
 |some args,some h0=>match bE args h0 with
  |some p=>(names (bT seen args h0 p.h vs p.as) (bS u) p.h).map (·.2)
  |none=>[]
 |_,_=>[]) ++ (match fo h vs with
  |some args=>match bE args [] with
   |some p=>(names [] (bS u) p.h).map (·.2)
   |none=>[]
  |none=>[])
def BD (e:bB):List Nat :=
 match e.v with
 |.sa (.one (.rp n _ _))=>[n]
 |_=>[]
def DI (e:bB):List Nat :=
 match e.v with
 |.sa (.one (.pW _ _))=>[]
 |_=>bj e
def lV (h:H) (n:Nat):List Nat :=
 match ak h n with
 |some (.cq d _ _)=>[d]
 |_=>[]
def dE (cx:Cx) (st:St) (u:Nat) (o:Oper):List Nat :=
 match o.op with
 |.binOp _ _ x y _=>bj (aF st x) ++ bj (aF st y)
 |.convert _ _ x | .indexAddr _ x _=>bj (aF st x)
 |.load _ x=>DI (aF st x)
 |.slice _ x _ _ _=>bS u :: (bj (aF st x) ++ (bj (aF st x)).flatMap (lV st.heap))
 |.fieldAddr _ x _=>BD (aF st x)
 |.store _ x _=>bj (aF st x)
 |.lookup _ x _ _ | .mapUpdate _ x _ _=>bj (aF st x)
 |.makeMap _ _=>[bS u]
 |.alloc _ | .box _ _ | .buildSlice _ _ _ | .makeSlice _ _ _=>[bS u]
 |.call c=>match c.callee with
  |.builtin .append=>bS u :: (c.args.toList.map (aF st)).flatMap bj
  |.builtin .len | .builtin .copy | .builtin .clear=>(c.args.toList.map (aF st)).flatMap bj
  |.value x=>match Wx (aF st x) with
   |some f=>match look cx.fs f,AJ (c.args.toList.map (aF st)) with
    |some bE,some vs=>cS st.heap u bE vs
    |_,_=>[]
   |none=>match ZP (aF st x) with
    |some (f,n)=>match look cx.fs f,AJ (c.args.toList.map (aF st)) with
     |some bE,some vs=>cS st.heap u bE (vs ++ [.one n])
     |_,_=>[]
    |none=>[]
  |_=>[]
 |_=>[]
structure Jt where
 i:Nat
 o:Oper
 d:Bool
structure It where
 i:Nat
 o:Oper
 d:Bool
 side:Prop
 wb:List Nat
 ft:List Nat
def uid (r i:Nat):Nat:=1000 * r+i
def runT (A:Ar) (cx:Cx) (r:Nat) (ops:List Oper):List Jt→St→Option (List It × St)
 |[],st=>some ([],st)
 |j :: l,st=>match iF A cx ops st (uid r j.i) j.o j.d with
  |some E=>match runT A cx r ops l (st.app j.o.dst E) with
   |some (T,st')=>some (⟨j.i,j.o,j.d,E.side,E.iv.map (·.1),dE cx st (uid r j.i) j.o⟩ :: T,st')
   |none=>none
  |none=>none
def ql (A:Ar) (cx:Cx) (r:Nat) (ops:List Oper):Nat→List Oper→St→(List It→St→Prop)→Prop
 |_,[],st,K=>K [] st
 |i,o :: l,st,K=>match pG A ops st o.guard with
  |.bad=>False
  |.yes=>match dF A cx st (uid r i) o.op with
   |some E=>ql A cx r ops (i+1) l (st.app o.dst E) fun T s=>K (⟨i,o,true,E.side,E.iv.map (·.1),dE cx st (uid r i) o⟩ :: T) s
   |none=>False
  |.no=>ql A cx r ops (i+1) l (st.app o.dst ⟨True,bB.off,[]⟩) fun T s=>K (⟨i,o,true,True,[],dE cx st (uid r i) o⟩ :: T) s
  |.sym b=>match dF A cx st (uid r i) o.op with
   |some ⟨C,e,[]⟩=>ql A cx r ops (i+1) l (st.app o.dst ⟨b=false∨C,⟨ME A (some b) e.g,e.v⟩,[]⟩) fun T s=>K (⟨i,o,true,b=false∨C,[],dE cx st (uid r i) o⟩ :: T) s
   |some ⟨C,e,p :: q⟩=>(b=false∨ql A cx r ops (i+1) l (st.app o.dst ⟨b=true∧C,e,p :: q⟩) fun T s=>K (⟨i,o,true,C,p.1 :: q.map (·.1),dE cx st (uid r i) o⟩ :: T) s) ∧
     (b=true∨ql A cx r ops (i+1) l (st.app o.dst ⟨b=false,bB.nil,[]⟩) fun T s=>K (⟨i,o,false,True,[],dE cx st (uid r i) o⟩ :: T) s)
   |none=>ql A cx r ops (i+1) l (st.app o.dst ⟨b=false,bB.nil,[]⟩) fun T s=>K (⟨i,o,true,b=false,[],dE cx st (uid r i) o⟩ :: T) s
def lG:List It→Prop
 |[]=>True
 |x :: T=>x.side∧lG T
def pP (bs l:List Nat):Bool:=bs.all fun b=>l.all fun c=>!bI b c
def ZO (ops:List Oper):Nat→Nat→Nat→Bool
 |0,_,_=>false
 |f+1,y,x=>match ops[y]? with
  |some o=>o.after.toList.any fun e=>Region.binds .any e && (bI e.on x || ZO ops f e.on x)
  |none=>false
def vJ (ops:List Oper) (x y:It):Bool :=
 y.o.after.toList.any (fun e=>Region.binds .any e && bI e.on x.i) || ((x.o.apart ops.toArray y.o && pP x.wb y.ft && pP y.wb x.ft) || ZO ops 6 y.i x.i)
def fL (ops:List Oper):List It→Bool
 |[]=>true
 |x :: T=>T.all (vJ ops x) && fL ops T
def cI:Nat→List Oper→List Bool→List Jt
 |i,o :: l,d :: ds=>⟨i,o,d⟩ :: cI (i+1) l ds
 |_,_,_=>[]
def yD:Nat→List Oper→Bool
 |_,[]=>true
 |i,o :: l=>o.after.toList.all (fun e=>!Region.binds .any e || dP (e.on+1) i) && yD (i+1) l
inductive Ex where
 |normal
 |exit (id:Nat)
 |ret
def ex (A:Ar) (cx:Cx) (L:Code→St→(Ex→St→Prop)→Prop):Code→St→(Ex→St→Prop)→Prop
 |.skip,s,K=>K .normal s
 |.region id ops draw,s,K=>ql A cx id ops.toList 0 ops.toList s fun T s'=>match draw && !(fL ops.toList T && yD 0 ops.toList) with
   |true=>False
   |false=>lG T∧K .normal s'
 |.seq a b,s,K=>ex A cx L a s (fun e s'=>match e with
  |.normal=>ex A cx L b s' K
  |e=>K e s')
 |.cond c a b,s,K=>match aF s c with
  | ⟨none,.sa (.one (.tf t))⟩=>match t with
   |true=>ex A cx L a s K
   |false=>ex A cx L b s K
  | ⟨none,.sa (.one (.val (.bool t)))⟩=>(t=false∨ex A cx L a s K)∧(t=true∨ex A cx L b s K)
  |_=>False
 |.block id c,s,K=>ex A cx L c s (fun e s'=>match e with
  |.exit i=>match bI i id with
   |true=>K .normal s'
   |false=>K (.exit i) s'
  |e=>K e s')
 |.exit id,s,K=>K (.exit id) s
 |.ret,s,K=>K .ret s
 |.loop c,s,K=>L c s K
 |_,_,_=>False
def BE (x:SA):SA :=
 match aZ x with
 |[]=>.one .any
 |_=>x
def start (n:Nat) (args:List SA) (h:H):St:=⟨args.map Gi ++ List.replicate (n - args.length) bB.nil,h,args.map BE ++ (bO args h).map fun j=>.one (.own j)⟩
def Mu (A:Ar) (cx:Cx) (st:St):ResultVar→Option (Prop × SA)
 |.tmp t=>match aF st (.tmp t) with
  | ⟨none,.sa x⟩=>some (True,x)
  |_=>none
 |.cell a t=>match aF st (.tmp a) with
  | ⟨none,.sa (.one (.ptr b off))⟩=>EK A cx (ak st.heap b) off t
  |_=>none
def Gb (A:Ar) (cx:Cx) (st:St):List ResultVar→Option (Prop × List SA)
 |[]=>some (True,[])
 |r :: l=>match Mu A cx st r,Gb A cx st l with
  |some (C,x),some (D,xs)=>some (C∧D,x :: xs)
  |_,_=>none
def fin (A:Ar) (cx:Cx) (rs:List ResultVar) (p:qi):Ex→St→Prop
 |.exit _,_=>False
 |_,st=>match Gb A cx st rs with
  |some (C,xs)=>(match p.r,xs with
   |.sa _,[_]=>True
   |.bK _,[_]=>False
   |.bK _,_=>True
   |_,_=>False)∧C∧(St.mk (xs.map Gi) st.heap st.gs).le (St.mk (fM p.r) p.h p.as)
  |none=>False
end Go.Proofs.YtelhldgdnlppfaaGreat.Ry
