/-
  A reckoner of what a function's code makes of a symbolic state: fC,and blocks of cells that are the call's own;its rules. No condition.
-/
import Derived.WalkKit
import Derived.Below
import Derived.Scope
namespace Go.Proofs.YtelhldgdnlppfaaGreat.Ry
open Go
def bI (a b:Nat):Bool:=a == b
def dM (a b:Nat):Bool:=decide (a≤b)
@[simp] theorem iW {a b:Nat}:(bI a b=true)↔a=b:=by simp [bI]
@[simp] theorem Ny {a b:Nat}:(bI a b=false)↔¬a=b:=by simp [bI]
@[simp] theorem NY {a b:Nat}:(dM a b=true)↔a≤b:=by simp [dM]
@[simp] theorem ZQ {a b:Nat}:(dM a b=false)↔b < a:=by simp [dM]
theorem aK {a b:Nat} (h:bI a b=true):a=b:=iW.1 h
theorem aB {a b:Nat} (h:dM a b=true):a≤b:=NY.1 h
@[simp] theorem cI (a:Nat):bI a a=true:=iW.2 rfl
inductive D where
 |int (n:Int)
 |bool (b:Bool)
 |str (l:List Int)
 |ints (l:List Int)
 |ah (l:List (List D))
abbrev E:=List D
def ri (x:E) (j:Nat):Int :=
 match x[j]? with
 |some (.int n)=>n
 |_=>0
def rb (x:E) (j:Nat):Bool :=
 match x[j]? with
 |some (.bool b)=>b
 |_=>false
def rs (x:E) (j:Nat):List Int :=
 match x[j]? with
 |some (.str l)=>l
 |_=>[]
def rl (x:E) (j:Nat):List Int :=
 match x[j]? with
 |some (.ints l)=>l
 |_=>[]
def rr (x:E) (j:Nat):List E :=
 match x[j]? with
 |some (.ah l)=>l
 |_=>[]
inductive Sh where
 |nil
 |int (k:IntKind) (r:Sh)
 |bool (r:Sh)
 |str (r:Sh)
 |ints (k:IntKind) (r:Sh)
 |ah (s:Sh) (r:Sh)
def Sh.size:Sh→Nat
 |.nil=>0
 |.int _ r=>r.size+1
 |.bool r=>r.size+1
 |.str r=>r.size+1
 |.ints _ r=>r.size+1
 |.ah _ r=>r.size+1
def Sh.drop:Sh→Nat→Sh
 |s,0=>s
 |.nil,_+1=>.nil
 |.int _ r,n+1=>r.drop n
 |.bool r,n+1=>r.drop n
 |.str r,n+1=>r.drop n
 |.ints _ r,n+1=>r.drop n
 |.ah _ r,n+1=>r.drop n
def Sh.zero:Sh→E
 |.nil=>[]
 |.int _ r=>.int 0 :: r.zero
 |.bool r=>.bool false :: r.zero
 |.str r=>.str [] :: r.zero
 |.ints _ r=>.ints [] :: r.zero
 |.ah _ r=>.ah [] :: r.zero
inductive Ct where
 |ints (k:IntKind) (l:List Int)
 |ah (s:Sh) (l:List E)
structure Ar where
 bin:BinOp→IntKind→Int→Int→Int
 cmp:BinOp→Int→Int→Bool
 conv:IntKind→Int→Int
 and:Bool→Bool→Bool
 not:Bool→Bool
 beq:Bool→Bool→Bool
 CB:Bool→Int→Int→Int
 Wk:Bool→Bool→Bool→Bool
 fN:List Int→Int
 dK:List E→Int
 Vr:List Int→Int→Int
 bh:List E→Int→E
 Wm:List Int→Int→Int→List Int
 Zq:List E→Int→Int→List E
 NW:List Int→List Int→List Int
 Xg:List E→List E→List E
 Tt:List Int→Int→Int→List Int
 Gv:List E→Int→E→List E
 VQ:List Int→List Int→List Int
 Xo:List E→List E→List E
 wD:Int→List Int
 Mn:Int→E→List E
 eqL:List Int→List Int→Bool
 DD:List Int→List Int→Bool
 byt:List Int→List Int
 fits:Int→Int→Bool
 ri:E→Nat→Int
 rb:E→Nat→Bool
 rs:E→Nat→List Int
 rl:E→Nat→List Int
 rr:E→Nat→List E
 nM:List (Int × Int)→Int→Int
 uc:List (Int × Int)→Int→Bool
 uV:List (Int × Int)→Int→Int→List (Int × Int)
 Tz:List (Int × Int)→Int
 YP:List Int→Int→List Int
 Xs:E→List E→Int→List E
def nM (l:List (Int × Int)) (k:Int):Int :=
 match l.find? fun p=>p.1 == k with
 |some p=>p.2
 |none=>0
def uc (l:List (Int × Int)) (k:Int):Bool:=l.any fun p=>p.1 == k
def uV (l:List (Int × Int)) (k v:Int):List (Int × Int):=if uc l k=true then l.map fun p=>if p.1 == k then (k,v) else p else l ++ [(k,v)]
def aN:BinOp→IntKind→Int→Int→Int
 |.add,k,a,b=>k.wrap (a+b)
 |.sub,k,a,b=>k.wrap (a - b)
 |.mul,k,a,b=>k.wrap (a * b)
 |.quo,k,a,b=>k.wrap (a.tdiv b)
 |.rem,_,a,b=>a.tmod b
 |.shl,k,a,b=>k.wrap (a * 2 ^ (min b.toNat k.bits))
 |.shr,k,a,b=>a.fdiv (2 ^ (min b.toNat k.bits))
 |op,k,a,b=>bits op k a b
def al:BinOp→Int→Int→Bool
 |.eql,a,b=>a == b
 |.neq,a,b=>a != b
 |.lss,a,b=>decide (a < b)
 |.leq,a,b=>decide (a≤b)
 |.gtr,a,b=>decide (a > b)
 |.geq,a,b=>decide (a≥b)
 |_,_,_=>false
def jm:List Int→List Int→Bool
 |_,[]=>false
 |[],_ :: _=>true
 |a :: x,b :: y=>decide (a < b) || (a == b && jm x y)
def Ar.U:Ar where
 bin:=aN
 cmp:=al
 conv k n:=k.wrap n
 and a b:=a && b
 not a:=!a
 beq a b:=a == b
 CB c a b:=if c then a else b
 Wk c a b:=if c then a else b
 fN l:=l.length
 dK l:=l.length
 Vr l i:=l.getD i.toNat 0
 bh l i:=l.getD i.toNat []
 Wm l lo hi:=(l.take hi.toNat).drop lo.toNat
 Zq l lo hi:=(l.take hi.toNat).drop lo.toNat
 NW l m:=l ++ m
 Xg l m:=l ++ m
 Tt l i v:=l.set i.toNat v
 Gv l i v:=l.set i.toNat v
 VQ l m:=m.take l.length ++ l.drop m.length
 Xo l m:=m.take l.length ++ l.drop m.length
 wD n:=List.replicate n.toNat 0
 Mn n x:=List.replicate n.toNat x
 eqL l m:=decide (l=m)
 DD:=jm
 byt l:=l.map fun n=>((UInt8.ofNat n.toNat).toNat:Int)
 fits n b:=decide (n * b≤140737488355328)
 ri:=Ry.ri
 rb:=Ry.rb
 rs:=Ry.rs
 rl:=Ry.rl
 rr:=Ry.rr
 nM:=Ry.nM
 uc:=Ry.uc
 uV:=Ry.uV
 Tz l:=l.length
 YP l i:=l.take i.toNat ++ List.replicate (l.length - i.toNat) 0
 Xs z l i:=l.take i.toNat ++ List.replicate (l.length - i.toNat) z
def Ar.lit (A:Ar):Bool→Ar
 |true=>Ar.U
 |false=>A
inductive SC where
 |any
 |val (v:Value)
 |num (k:IntKind) (n:Int)
 |tf (b:Bool)
 |ptr (n off:Nat)
 |fn (g n:Nat)
 |qg (n off:Nat)
 |xK (g n off:Nat)
 |vw (n:Nat) (l:Int)
 |str (l:List Int)
 |sl (tk:Option (Nat × TypeId)) (c:Ct)
 |own (n:Nat)
 |mp (n:Nat)
 |rp (n:Nat) (i:Int) (j:Nat)
 |Qc (k:IntKind) (n:Int)
 |Gy (s:Sh) (x:E) (j:Nat)
inductive SA where
 |one (c:SC)
 |agg (cs:List SC)
 |dZ (c:Ct)
inductive SV where
 |sa (x:SA)
 |bJ (xs:List SA)
structure bB where
 g:Option Bool
 v:SV
inductive eD where
 |cells (ty:TypeId) (cs:List SC)
 |row (ty:TypeId) (c:Ct)
 |fI (c:Ct)
 |emp (ty:TypeId)
 |mp (l:List (Int × Int))
 |cm (d sz:Nat) (q:Int)
 |tok
 |dead
abbrev H:=List (Nat × eD)
def ak:H→Nat→Option eD
 |[],_=>none
 |(k,b) :: l,n=>match bI k n with
  |true=>some b
  |false=>ak l n
def aS:H→Nat→eD→H
 |[],n,b=>[(n,b)]
 |(k,c) :: l,n,b=>match bI k n with
  |true=>(k,b) :: l
  |false=>match dM n k with
   |true=>(n,b) :: (k,c) :: l
   |false=>(k,c) :: aS l n b
structure St where
 fC:List bB
 heap:H
 gs:List SA
def bB.nil:bB:=⟨none,.sa (.one .any)⟩
def bB.off:bB:=⟨some false,.sa (.one (.tf true))⟩
def bT (s:ByteArray):List Int:=s.data.toList.map fun b=>(b.toNat:Int)
def cellOf:Value→SC
 |.string s=>.str (bT s)
 |.int k n=>.num k n
 |.bool b=>.tf b
 |v=>.val v
def ofValue:Value→SA
 |.agg cs=>if cs.toList.all Value.oneCell' then .agg (cs.toList.map cellOf) else .one (.val (.agg cs))
 |v=>.one (cellOf v)
def aF (st:St):Operand→bB
 |.tmp t=>st.fC.getD t bB.nil
 |.const v=>⟨none,.sa (ofValue v)⟩
 |.func f=>⟨none,.sa (.one (.val (.func (.func f) #[] #[])))⟩
 |.global g=>⟨none,.sa (.one (.val (.pointer (some ⟨g,0,none⟩))))⟩
def need:Option Bool→Prop
 |none=>True
 |some b=>b=true
def Nr (A:Ar):Option Bool→Option Bool→Option Bool
 |none,g=>g
 |g,none=>g
 |some a,some b=>some (A.and a b)
def SC.int?:SC→Option (IntKind × Int)
 |.val (.int k n)=>some (k,n)
 |.num k n=>some (k,n)
 |_=>none
def SC.bool?:SC→Option Bool
 |.val (.bool b)=>some b
 |.tf b=>some b
 |_=>none
def SC.lit:SC→Bool
 |.num _ _ | .tf _=>true
 |_=>false
def Ua (l:Bool) (k:IntKind) (n:Int):SC :=
 match l with
 |true=>.num k n
 |false=>.val (.int k n)
def Yz (l:Bool) (b:Bool):SC :=
 match l with
 |true=>.tf b
 |false=>.val (.bool b)
def SC.tG:SC→SC
 |.num k n=>.val (.int k n)
 |.tf b=>.val (.bool b)
 |c=>c
inductive TK where
 |int (k:IntKind)
 |bool
 |struct (fields:List (Nat × Nat × Bool × List Nat))
 |array (len:Nat) (size:Nat) (agg:Bool)
 |slice (e:TypeId) (size:Nat)
 |str
 |ptr
 |sI
 |other
structure TI where
 k:TK
 size:Nat
 zero:List Value
 eq:Bool
 flat:Option Sh
def TK.agg:TK→Bool
 |.struct _ | .array _ _ _=>true
 |_=>false
def dL (P:Program) (f:Field):Nat :=
 if f.name != "_" then
  match P.underlying f.type with
  |some (.int _)=>1
  |some .bool=>2
  |_=>0
 else 0
def ei (P:Program) (f:Field):List Nat :=
 if !bI (dL P f) 0 then [dL P f]
 else match P.underlying f.type with
  | some (.struct gs) => if f.name != "_" && gs.toList.all (fun g => !bI (dL P g) 0) && (gs.toList.map (·.offset) == List.range gs.size) && !P.stoodInHeld f.type && bI (P.cellsOf f.type) gs.size && (P.info? f.type).isSome then gs.toList.map (dL P) else []
  |_=>[]
def jQ (P:Program) (t:TypeId):Bool :=
 match P.underlying t with
 |some (.struct _)|some (.array _ _)=>true
 |_=>false
def zk:Value→Option Sh
 |.int k _=>some (.int k .nil)
 |.bool _=>some (.bool .nil)
 |_=>none
def zIs:Sh→Value→Bool
 |.int k .nil,.int k' n=>bI k.ctorIdx k'.ctorIdx && n == 0
 |.bool .nil,.bool b=>!b
 |_,_=>false
def yo (z:List Value):Option Sh :=
 match z with
 |[]=>none
 |v :: l=>match zk v with
  |some s=>if (v :: l).all (zIs s) then some s else none
  |none=>none
def BV (A:Ar) (n:Int):Sh→Ct
 |.int k _=>.ints k (A.wD n)
 |s=>.ah s (A.Mn n s.zero)
def Ko (P:Program) (t e:TypeId):Bool :=
 (match P.underlying e with
 |some (.int _)=>true
 |_=>false) && bI (P.cellsOf e) 1 && !P.eqGuardType P.depth t
def sF (P:Program) (e:TypeId):Bool :=
 match P.info? e with
 |some i=>match i.zero with
  |some (.int .i64 n)=>n == 0
  |_=>false
 |none=>false
def Sb (P:Program) (k e:TypeId) (n:Nat) (z:List Value):Option TI :=
 match P.underlying k,P.underlying e,sF P e with
 |some (.int .i64),some (.int .i64),true=>some ⟨.sI,n,z,false,none⟩
 |_,_,_=>some ⟨.other,n,z,false,none⟩
def eG (P:Program) (t:TypeId):Option TI :=
 match P.info? t with
 |some i=>match i.zero with
  |some z=>match P.underlying t with
   |some (.int k)=>some ⟨.int k,i.size,z.cells.toList,false,none⟩
   |some .bool=>some ⟨.bool,i.size,z.cells.toList,false,none⟩
   |some (.struct fs)=>if fs.toList.all fun f=>(P.underlying f.type).isSome then some ⟨.struct (fs.toList.map fun f=>(f.offset,P.cellsOf f.type,jQ P f.type,ei P f)),i.size,z.cells.toList,
     fs.toList.all (fun f=>!(ei P f).isEmpty) && fs.toList.dropLast.all (fun f=>!bI (dL P f) 0) && (fs.toList.map (·.offset) == List.range fs.size) && !P.stoodInHeld t && !P.eqGuardType P.depth t,none⟩ else none
   |some (.array n e)=>if (P.underlying e).isSome then some ⟨.array n (P.cellsOf e) (jQ P e),i.size,z.cells.toList,Ko P t e,yo z.cells.toList⟩ else none
   |some (.slice e)=>if (P.underlying e).isSome then some ⟨.slice e (P.cellsOf e),i.size,z.cells.toList,false,none⟩ else none
   |some .string=>some ⟨.str,i.size,z.cells.toList,false,none⟩
   |some (.pointer _)=>some ⟨.ptr,i.size,z.cells.toList,false,none⟩
   |some (.map k e)=>Sb P k e i.size z.cells.toList
   |some _=>some ⟨.other,i.size,z.cells.toList,false,none⟩
   |none=>none
  |none=>none
 |none=>none
structure qm where
 C:Prop
 r:SV
 h:H
 as:List SA
abbrev aZ:=List SA→H→Option qm
structure Cx where
 tt:List (Nat × TI)
 fs:List (Nat × aZ)
 hs:List (Nat × Ct)
 bs:List (Nat × Nat)
def look {α:Type}:List (Nat × α)→Nat→Option α
 |[],_=>none
 |(k,a) :: l,t=>match bI k t with
  |true=>some a
  |false=>look l t
structure cA where
 side:Prop
 ent:bB
 ig:List (Nat × eD)
def ed (cs:List SC) (off n:Nat):Option (List SC) :=
 match dM (off+n) cs.length with
 |true=>some ((cs.drop off).take n)
 |false=>none
def eX:List SC→Nat→List SC→List SC
 |cs,_,[]=>cs
 |cs,off,x :: xs=>eX (cs.set off x) (off+1) xs
def KS:SC→Prop
 |.any=>False
 |.val v=>v.oneCell' = true
 |_=>True
def SA.cells:SA→List SC
 |.one c=>[c]
 |.agg cs=>cs
 |.dZ _=>[]
def SA.side:SA→Prop
 |.one c=>KS c
 |.agg _=>True
 |.dZ _=>False
def ints:BinOp→Bool
 |.add | .sub | .mul | .and | .or | .xor | .andNot=>true
 |_=>false
def ZC:BinOp→Bool
 |.eql | .neq | .lss | .leq | .gtr | .geq=>true
 |_=>false
def cY:IntKind→IntKind→Bool:=fun a b=>bI a.ctorIdx b.ctorIdx
def gm (A:Ar):Nat→SC→SC→Option Bool
 |1,c,d=>match c.int?,d.int? with
  |some (k,a),some (k',b)=>match cY k k' with
   |true=>some (A.cmp .eql a b)
   |false=>none
  |_,_=>none
 |2,c,d=>match c.bool?,d.bool? with
  |some a,some b=>some (A.beq a b)
  |_,_=>none
 |_,_,_=>none
def bA (A:Ar):List Nat→List SC→List SC→Option Bool
 |[],[],[]=>some true
 |k :: ks,c :: cs,d :: ds =>
  match gm A k c d,bA A ks cs ds with
  |some a,some r=>some (match ks with
   |[]=>a
   |_ :: _=>A.and a r)
  |_,_=>none
 |_,_,_=>none
def bZ (s:Prop) (c:SC):Option cA:=some ⟨s,⟨none,.sa (.one c)⟩,[]⟩
def vq (h:H):SC→SC→Option Bool
 |.val (.pointer none),.val (.pointer none)=>some true
 |.ptr n _,.val (.pointer none)=>match ak h n with
  |some (.cells _ _)|some (.row _ _)=>some false
  |_=>none
 |_,_=>none
def Ct.len (A:Ar):Ct→Int
 |.ints _ l=>A.fN l
 |.ah _ l=>A.dK l
def Sd (A:Ar):SC→SC→Option (Prop × Bool)
 |.val (.slice none 0 0),.val (.slice none 0 0)=>some (True,true)
 |.sl _ c,.val (.slice none 0 0)=>some (A.cmp .gtr (c.len A) 0=true,false)
 |_,_=>none
def sN (A:Ar) (cx:Cx) (h:H) (op:BinOp) (xt:TypeId) (s:Prop) (a b:SC):Option cA :=
 match a.int?,b.int? with
 |some (k,m),some (k',n) =>
  match op with
  |.shl | .shr=>bZ (s∧(A.lit b.lit).cmp .lss n 0=false) (Ua (a.lit && b.lit) k ((A.lit (a.lit && b.lit)).bin op k m n))
  |.quo | .rem=>match cY k k' with
   |true=>bZ (s∧(A.lit b.lit).cmp .eql n 0=false) (Ua (a.lit && b.lit) k ((A.lit (a.lit && b.lit)).bin op k m n))
   |false=>none
  |_=>match cY k k' with
   |true=>match ints op with
    |true=>bZ s (Ua (a.lit && b.lit) k ((A.lit (a.lit && b.lit)).bin op k m n))
    |false=>match ZC op with
     |true=>bZ s (Yz (a.lit && b.lit) ((A.lit (a.lit && b.lit)).cmp op m n))
     |false=>none
   |false=>none
 |_,_=>match a.bool?,b.bool? with
  |some x,some y=>match look cx.tt xt with
   |some ⟨.bool,_,_,_,_⟩=>match op with
    |.eql=>bZ s (Yz (a.lit && b.lit) ((A.lit (a.lit && b.lit)).beq x y))
    |.neq=>bZ s (Yz (a.lit && b.lit) ((A.lit (a.lit && b.lit)).not ((A.lit (a.lit && b.lit)).beq x y)))
    |_=>none
   |_=>none
  |_,_=>match a,b with
   |.str l,.str m=>match op with
    |.eql=>bZ s (.val (.bool (A.eqL l m)))
    |.neq=>bZ s (.val (.bool (A.not (A.eqL l m))))
    |.add=>bZ (s∧A.fits (A.fN (A.NW l m)) 1=true) (.str (A.NW l m))
    |.lss=>bZ s (.val (.bool (A.DD l m)))
    |.gtr=>bZ s (.val (.bool (A.DD m l)))
    |.leq=>bZ s (.val (.bool (A.not (A.DD m l))))
    |.geq=>bZ s (.val (.bool (A.not (A.DD l m))))
    |_=>none
   |_,_=>match vq h a b,look cx.tt xt with
    |some r,some ⟨.ptr,_,_,_,_⟩=>match op with
     |.eql=>bZ s (.tf r)
     |.neq=>bZ s (.tf (!r))
     |_=>none
    |_,some ⟨.slice _ _,_,_,_,_⟩=>match Sd A a b with
     |some (q,r)=>match op with
      |.eql=>bZ (s∧q) (.tf r)
      |.neq=>bZ (s∧q) (.tf (!r))
      |_=>none
     |none=>none
    |_,_=>none
def lY (A:Ar) (cx:Cx) (h:H) (op:BinOp) (xt:TypeId) (x y:bB):Option cA :=
 match x.v,y.v with
 |.sa (.one a),.sa (.one b)=>sN A cx h op xt (need x.g∧need y.g) a b
 |.sa (.agg xs),.sa (.agg ys) =>
  match look cx.tt xt with
  |some ⟨.struct fs,_,_,true,_⟩ =>
   match bA A (fs.flatMap fun f=>f.2.2.2) xs ys with
   |some r =>
    match op with
    |.eql=>bZ (need x.g∧need y.g) (.val (.bool r))
    |.neq=>bZ (need x.g∧need y.g) (.val (.bool (A.not r)))
    |_=>none
   |none=>none
  |some ⟨.array n _ _,_,_,true,_⟩ =>
   match bA A (List.replicate n 1) xs ys with
   |some r =>
    match op with
    |.eql=>bZ (need x.g∧need y.g) (.val (.bool r))
    |.neq=>bZ (need x.g∧need y.g) (.val (.bool (A.not r)))
    |_=>none
   |none=>none
  |_=>none
 |_,_=>none
def Lu (A:Ar) (c:Bool) (a b:SC):Option SC :=
 match a.int?,b.int? with
 |some (k,m),some (k',n)=>match cY k k' with
  |true=>some (.val (.int k (A.CB c m n)))
  |false=>none
 |_,_=>match a.bool?,b.bool? with
  |some m,some n=>some (.val (.bool (A.Wk c m n)))
  |_,_=>none
def rm (A:Ar) (c a b:bB):Option cA :=
 match c with
 | ⟨g,.sa (.one (.tf t))⟩=>match t with
  |true=>some ⟨need g∧need a.g,⟨none,a.v⟩,[]⟩
  |false=>some ⟨need g∧need b.g,⟨none,b.v⟩,[]⟩
 | ⟨g,.sa (.one (.val (.bool t)))⟩=>match a,b with
  | ⟨ga,.sa (.one x)⟩,⟨gb,.sa (.one y)⟩=>match Lu A t x y with
   |some v=>bZ (need g∧(t=false∨need ga)∧(t=true∨need gb)) v
   |none=>match x,y with
    |.any,y=>some ⟨need g∧t=false∧need gb,⟨none,.sa (.one y)⟩,[]⟩
    |x,.any=>some ⟨need g∧t=true∧need ga,⟨none,.sa (.one x)⟩,[]⟩
    |_,_=>none
  |_,_=>none
 |_=>none
def AS:List bB→Option (List SA)
 |[]=>some []
 | ⟨_,.sa x⟩ :: l=>match AS l with
  |some xs=>some (x :: xs)
  |none=>none
 |_=>none
def dW:List bB→Prop
 |[]=>True
 |[e]=>need e.g
 |e :: l=>need e.g∧dW l
def yM (place:Nat→Option (Nat × Nat)) (cells:List SC):List (Nat × SA)→Option (List SC)
 |[]=>some cells
 |(i,v) :: rest =>
  match place i with
  |none=>none
  |some (off,size)=>match bI v.cells.length size && dM (off+size) cells.length with
   |true=>yM place (eX cells off v.cells) rest
   |false=>none
def dS:List SA→Prop
 |[]=>True
 |[x]=>x.side
 |x :: l=>x.side∧dS l
def mq (A:Ar) (op:BinOp):Int→List SA→IntKind→Option Int
 |a,[],_=>some a
 |a,.one c :: l,k0=>match c.int? with
  |some (k,b)=>match cY k k0 with
   |true=>mq A op (A.CB (A.cmp op b a) b a) l k0
   |false=>none
  |none=>none
 |_,_,_=>none
def dP (A:Ar):Sh→E→Nat→Nat→List SC
 |_,_,_,0=>[]
 |.nil,_,_,_+1=>[]
 |.int k r,x,j,n+1=>.val (.int k (A.ri x j)) :: dP A r x (j+1) n
 |.bool r,x,j,n+1=>.val (.bool (A.rb x j)) :: dP A r x (j+1) n
 |.str r,x,j,n+1=>.str (A.rs x j) :: dP A r x (j+1) n
 |.ints k r,x,j,n+1=>.sl none (.ints k (A.rl x j)) :: dP A r x (j+1) n
 |.ah s r,x,j,n+1=>.sl none (.ah s (A.rr x j)) :: dP A r x (j+1) n
def Ct.sz:Ct→Nat
 |.ints _ _=>1
 |.ah s _=>s.size
def Ct.cut (A:Ar):Ct→Int→Int→Ct
 |.ints k l,lo,hi=>.ints k (A.Wm l lo hi)
 |.ah s l,lo,hi=>.ah s (A.Zq l lo hi)
def eR:Ct→Ct
 |.ints k _=>.ints k []
 |.ah s _=>.ah s []
def Ct.rep (A:Ar) (n:Int):Ct→Ct
 |.ints k _=>.ints k (A.wD n)
 |.ah s _=>.ah s (A.Mn n s.zero)
def Ct.at (A:Ar):Ct→Int→Nat→Nat→List SC
 |.ints k l,i,_,n=>match n with
  |0=>[]
  |_+1=>[.val (.int k (A.Vr l i))]
 |.ah s l,i,j,n=>dP A (s.drop j) (A.bh l i) j n
def Dz (A:Ar) (cx:Cx) (ig:Option eD) (off:Nat) (t:TypeId):Option (Prop × SA) :=
 match look cx.tt t,ig with
 |some ti,some (.cells _ bc)=>match ti.k.agg with
  |true=>match ed bc off ti.size with
   |some cs=>some (True,.agg cs)
   |none=>none
  |false=>match ed bc off 1 with
   |some [c]=>some (True,.one c)
   |_=>none
 |some ti,some (.row _ c)=>match ti.k.agg && (bI c.sz 1 && bI off 0) with
  |true=>some (A.cmp .eql (c.len A) ti.size=true,.dZ c)
  |false=>none
 |_,_=>none
def qV (st:St) (d:Int):Option Operand→Option (Option Bool × Int)
 |none=>some (none,d)
 |some x=>match aF st x with
  | ⟨g,.sa (.one c)⟩=>match c.int? with
   |some (_,i)=>some (g,i)
   |none=>none
  |_=>none
def gB:Sh→Sh→Bool
 |.nil,.nil=>true
 |.int k r,.int k' r'=>cY k k' && gB r r'
 |.bool r,.bool r'=>gB r r'
 |.str r,.str r'=>gB r r'
 |.ints k r,.ints k' r'=>cY k k' && gB r r'
 |.ah s r,.ah s' r'=>gB s s' && gB r r'
 |_,_=>false
def toD:Sh→SC→Option (D × Sh)
 |.int k r,c=>match c.int? with
  |some (k',n)=>match cY k k' with
   |true=>some (.int n,r)
   |false=>none
  |none=>none
 |.bool r,c=>match c.bool? with
  |some b=>some (.bool b,r)
  |none=>none
 |.str r,.str l=>some (.str l,r)
 |.ints k r,.sl _ (.ints k' l)=>match cY k k' with
  |true=>some (.ints l,r)
  |false=>none
 |.ints _ r,.val (.slice none 0 0)=>some (.ints [],r)
 |.ah s r,.sl _ (.ah s' l)=>match gB s s' with
  |true=>some (.ah l,r)
  |false=>none
 |.ah _ r,.val (.slice none 0 0)=>some (.ah [],r)
 |_,_=>none
def Ow:Sh→List SC→Option E
 |.nil,[]=>some []
 |s,c :: cs=>match toD s c with
  |some (d,r)=>match Ow r cs with
   |some x=>some (d :: x)
   |none=>none
  |none=>none
 |_,_=>none
def Nl (s:Sh):List SA→Option (List E)
 |[]=>some []
 |v :: l=>match Ow s v.cells,Nl s l with
  |some x,some xs=>some (x :: xs)
  |_,_=>none
def PG (k:IntKind):List SA→Option (List Int)
 |[]=>some []
 |.one c :: l=>match c.int? with
  |some (k',n)=>match cY k k' with
   |true=>match PG k l with
    |some ns=>some (n :: ns)
    |none=>none
   |false=>none
  |none=>none
 |_=>none
def SB (h:Option Ct) (sz:Nat) (vs:List SA):Option Ct :=
 match h with
 |some (.ints k _)=>match bI sz 1 with
  |true=>match PG k vs with
   |some l=>some (.ints k l)
   |none=>none
  |false=>none
 |some (.ah s _)=>match bI s.size sz with
  |true=>match Nl s vs with
   |some l=>some (.ah s l)
   |none=>none
  |false=>none
 |none=>none
def cC (h:H) (d:Nat):Bool :=
 match ak h d with
 |none=>true
 |some _=>false
def idxs:List Nat→Nat→Nat→Bool
 |[],k,n=>bI k n
 |i :: l,k,n=>bI i k && idxs l (k+1) n
def dG (u:Nat):Nat:=1000000000+u
def bG (f:Nat):Nat:=1000000+f
def bR (u:Nat):Nat:=1000 * (u+1)
def kC (h:H) (id:Nat):Bool :=
 match ak h id with
 |some .tok=>true
 |_=>false
def df (A:Ar):Ct→Ct→Option Ct
 |.ints k l,.ints k' m=>match cY k k' with
  |true=>some (.ints k (A.NW l m))
  |false=>none
 |.ah s l,.ah s' m=>match gB s s' with
  |true=>some (.ah s (A.Xg l m))
  |false=>none
 |_,_=>none
def kb (h:H):SC→Option Ct
 |.sl _ c=>some c
 |.own n=>match ak h n with
  |some (.row _ c)=>some c
  |some (.fI c)=>some c
  |_=>none
 |_=>none
def dV (h:H) (c1:Ct):SC→Option Ct
 |.val (.slice none 0 0)=>some (eR c1)
 |c=>kb h c
def qf (cx:Cx) (h:H) (t e:TypeId):SC→Option (List (Nat × eD) × Ct)
 |.sl (some (id,e')) c1=>match kC h id && bI e e' with
  |true=>some ([(id,.dead)],c1)
  |false=>none
 |.val (.slice none 0 0)=>match look cx.hs t with
  |some c=>some ([],eR c)
  |none=>none
 |_=>none
def oA (h:H) (e:TypeId):SC→Option Nat
 |.own n=>match ak h n with
  |some (.emp e')=>match bI e e' with
   |true=>some n
   |false=>none
  |_=>none
 |_=>none
def jk (A:Ar) (cx:Cx) (h:H) (u n:Nat) (t t' : TypeId):bB→bB→Option cA
 | ⟨gx,_⟩,⟨gy,.sa (.one y)⟩ =>
  match look cx.tt t with
  |some ⟨.slice e sz,_,_,_,_⟩=>match look cx.tt e,look cx.bs e,look cx.hs t with
   |some te,some b,some c=>match dV h (eR c) y with
     |some c2=>match df A (eR c) c2 with
      |some ct=>match bI te.size sz && (bI t t' && (cC h (bR u) && (dM 1 sz && (dM 1 b && bI c.sz sz)))) with
       |true=>some ⟨need gx∧need gy∧A.fits (ct.len A) b=true,⟨none,.sa (.one (.own (bR u)))⟩,[(n,.dead),(bR u,.row e ct)]⟩
       |false=>none
      |none=>none
     |none=>none
   |_,_,_=>none
  |_=>none
 |_,_=>none
def ownRow (h:H) (e:TypeId):SC→Option (Nat × Ct)
 |.own n=>match ak h n with
  |some (.row e' c)=>match bI e e' with
   |true=>some (n,c)
   |false=>none
  |_=>none
 |_=>none
def jd (A:Ar) (cx:Cx) (h:H) (u n:Nat) (c1:Ct) (t t' : TypeId):bB→bB→Option cA
 | ⟨gx,_⟩,⟨gy,.sa (.one y)⟩ =>
  match look cx.tt t with
  |some ⟨.slice e sz,_,_,_,_⟩=>match look cx.tt e,look cx.bs e with
   |some te,some b=>match dV h c1 y with
     |some c2=>match df A c1 c2 with
      |some ct=>match bI te.size sz && (bI t t' && (cC h (bR u) && (dM 1 sz && (dM 1 b && bI c1.sz sz)))) with
       |true=>some ⟨need gx∧need gy∧A.fits (ct.len A) b=true,⟨none,.sa (.one (.own (bR u)))⟩,[(n,.dead),(bR u,.row e ct)]⟩
       |false=>none
      |none=>none
     |none=>none
   |_,_=>none
  |_=>none
 |_,_=>none
def iP (A:Ar) (cx:Cx) (h:H) (u:Nat) (t t' : TypeId):bB→bB→Option cA
 | ⟨gx,.sa (.one (.val (.slice none 0 0)))⟩,⟨gy,.sa (.one y)⟩ =>
  match look cx.tt t with
  |some ⟨.slice e sz,_,_,_,_⟩=>match look cx.tt e,look cx.bs e,look cx.hs t with
   |some te,some b,some c=>match dV h (eR c) y with
     |some c2=>match df A (eR c) c2 with
      |some ct=>match bI te.size sz && (bI t t' && (cC h (bR u) && (dM 1 sz && (dM 1 b && bI c.sz sz)))) with
       |true=>some ⟨need gx∧need gy∧A.fits (ct.len A) b=true,⟨none,.sa (.one (.own (bR u)))⟩,[(bR u,.row e ct)]⟩
       |false=>none
      |none=>none
     |none=>none
   |_,_,_=>none
  |_=>none
 |_,_=>none
def lP (A:Ar) (cx:Cx) (h:H) (u:Nat) (t t' : TypeId):bB→bB→Option cA
 | ⟨gx,.sa (.one x)⟩,⟨gy,.sa (.one y)⟩ =>
  match look cx.tt t with
  |some ⟨.slice e sz,_,_,_,_⟩=>match look cx.tt e,look cx.bs e with
   |some te,some b =>
    match qf cx h t e x with
    |some (kill,c1)=>match dV h c1 y with
     |some c2=>match df A c1 c2 with
      |some ct=>match bI te.size sz && (bI t t' && (cC h (bR u) && (dM 1 sz && (dM 1 b && bI c1.sz sz)))) with
       |true=>some ⟨need gx∧need gy∧A.fits (ct.len A) b=true,⟨none,.sa (.one (.sl (some (bR u,e)) ct))⟩,kill ++ [(bR u,.tok)]⟩
       |false=>none
      |none=>none
     |none=>none
    |none=>none
   |_,_=>none
  |_=>none
 |_,_=>none
def HI (A:Ar):Ct→Ct→Option Ct
 |.ints k l,.ints k' m=>match cY k k' with
  |true=>some (.ints k (A.VQ l m))
  |false=>none
 |.ah s l,.ah s' m=>match gB s s' with
  |true=>some (.ah s (A.Xo l m))
  |false=>none
 |_,_=>none
def IC (n:Nat):SC→Bool
 |.own k=>!bI k n
 |_=>true
def jf (A:Ar) (cx:Cx) (h:H) (t:TypeId):bB→bB→Option cA
 | ⟨gx,.sa (.one (.own n))⟩,⟨gy,.sa (.one y)⟩ =>
  match look cx.tt t,ak h n with
  |some ⟨.slice _ sz,_,_,_,_⟩,some (.row bt c)=>match dV h c y with
   |some c2=>match HI A c c2 with
    |some c'=>match bI c.sz sz && IC n y with
     |true=>some ⟨need gx∧need gy,⟨none,.sa (.one (.val (.int .i64 (A.CB (A.cmp .lss (c2.len A) (c.len A)) (c2.len A) (c.len A)))))⟩,[(n,.row bt c')]⟩
     |false=>none
    |none=>none
   |none=>none
  |_,_=>none
 |_,_=>none
def Hn (A:Ar) (c:Ct) (i:Int) (j:Nat) (v:SA):Option Ct :=
 match c with
 |.ints k l=>match v with
  |.one x=>match x.int? with
   |some (k',n)=>match cY k k' with
    |true=>some (.ints k (A.Tt l i n))
    |false=>none
   |none=>none
  |_=>none
 |.ah s l=>match dM (j+v.cells.length) s.size with
  |true=>match Ow s (eX (dP A s (A.bh l i) 0 s.size) j v.cells) with
   |some x=>some (.ah s (A.Gv l i x))
   |none=>none
  |false=>none
def bq:SC→List Nat
 |.ptr n _ | .own n | .rp n _ _ | .sl (some (n,_)) _ | .fn _ n | .mp n | .qg n _ | .xK _ n _ | .vw n _=>[n]
 |_=>[]
def ba:SA→List Nat
 |.one c=>bq c
 |.agg cs=>cs.flatMap bq
 |.dZ _=>[]
def bj (e:bB):List Nat :=
 match e.v with
 |.sa x=>ba x
 |.bJ xs=>xs.flatMap ba
def Xn:Option eD→List Nat
 |some (.cells _ cs)=>cs.flatMap bq
 |_=>[]
def lO (n:Nat) (l:List Nat):Bool:=l.any (bI n)
def reach:Nat→H→List Nat→List Nat→List Nat
 |0,_,_,seen=>seen
 |_+1,_,[],seen=>seen
 |f+1,h,n :: l,seen=>match lO n seen with
  |true=>reach f h l seen
  |false=>reach f h (Xn (ak h n) ++ l) (seen ++ [n])
def lK (m:List (Nat × Nat)):SC→Option SC
 |.ptr n o=>match look m n with
  |some i=>some (.ptr i o)
  |none=>none
 |.fn g n=>match look m n with
  |some i=>some (.fn g i)
  |none=>none
 |.own n=>match look m n with
  |some i=>some (.own i)
  |none=>none
 |.mp n=>match look m n with
  |some i=>some (.mp i)
  |none=>none
 |.sl (some (n,e)) c=>match look m n with
  |some i=>some (.sl (some (i,e)) c)
  |none=>none
 |.rp n x j=>match look m n with
  |some i=>some (.rp i x j)
  |none=>none
 |.qg n o=>match look m n with
  |some i=>some (.qg i o)
  |none=>none
 |.xK g n o=>match look m n with
  |some i=>some (.xK g i o)
  |none=>none
 |.vw _ _=>none
 |c=>some c.tG
def rV (m:List (Nat × Nat)):List SC→Option (List SC)
 |[]=>some []
 |c :: l=>match lK m c,rV m l with
  |some x,some xs=>some (x :: xs)
  |_,_=>none
def Td (m:List (Nat × Nat)):SA→Option SA
 |.one c=>match lK m c with
  |some x=>some (.one x)
  |none=>none
 |.agg cs=>match rV m cs with
  |some xs=>some (.agg xs)
  |none=>none
 |.dZ c=>some (.dZ c)
def yS (m:List (Nat × Nat)):List SA→Option (List SA)
 |[]=>some []
 |c :: l=>match Td m c,yS m l with
  |some x,some xs=>some (x :: xs)
  |_,_=>none
def Km (m:List (Nat × Nat)):SV→Option SV
 |.sa x=>match Td m x with
  |some y=>some (.sa y)
  |none=>none
 |.bJ xs=>match yS m xs with
  |some ys=>some (.bJ ys)
  |none=>none
def Fk (m:List (Nat × Nat)):eD→Option eD
 |.cells t cs=>match rV m cs with
  |some xs=>some (.cells t xs)
  |none=>none
 |b=>some b
def mL (m:List (Nat × Nat)) (h:H):List Nat→Option H
 |[]=>some []
 |n :: l=>match look m n,ak h n,mL m h l with
  |some i,some b,some r=>match Fk m b with
   |some b'=>some ((i,b') :: r)
   |none=>none
  |_,_,_=>none
def bM:Nat→List Nat→List (Nat × Nat)
 |_,[]=>[]
 |i,n :: l=>(n,i) :: bM (i+1) l
def bP (m:List (Nat × Nat)):List (Nat × Nat):=m.map fun p=>(p.2,p.1)
def me (h:H):SC→Option SC
 |.ptr _ _ | .rp _ _ _ | .fn _ _ | .mp _ | .qg _ _ | .xK _ _ _ | .vw _ _=>none
 |.own n=>match ak h n with
  |some (.row _ c)|some (.fI c)=>some (.sl none c)
  |_=>none
 |.sl _ c=>some (.sl none c)
 |c=>some c.tG
def iO (h:H):List SC→Option (List SC)
 |[]=>some []
 |c :: l=>match me h c,iO h l with
  |some x,some xs=>some (x :: xs)
  |_,_=>none
def jX (h:H):SA→Option SA
 |.one c=>match me h c with
  |some x=>some (.one x)
  |none=>none
 |.agg cs=>match iO h cs with
  |some xs=>some (.agg xs)
  |none=>none
 |.dZ c=>some (.dZ c)
def fg (h:H):List SA→Option (List SA)
 |[]=>some []
 |c :: l=>match jX h c,fg h l with
  |some x,some xs=>some (x :: xs)
  |_,_=>none
def rowsOf (h:H):List Nat→H
 |[]=>[]
 |n :: l=>match ak h n with
  |some (.row _ c)=>(n,.fI c) :: rowsOf h l
  |_=>rowsOf h l
def mC:SC→SC→List (Nat × Nat)
 |.ptr k _,.ptr i _=>[(i,k)]
 |.fn _ k,.fn _ i=>[(i,k)]
 |.own k,.own i=>[(i,k)]
 |.mp k,.mp i=>[(i,k)]
 |.sl (some (k,_)) _,.sl (some (i,_)) _=>[(i,k)]
 |.rp k _ _,.rp i _ _=>[(i,k)]
 |.qg k _,.qg i _=>[(i,k)]
 |.xK _ k _,.xK _ i _=>[(i,k)]
 |_,_=>[]
def mCs:List SC→List SC→List (Nat × Nat)
 |c :: cs,d :: ds=>mC c d ++ mCs cs ds
 |_,_=>[]
def mA:SA→SA→List (Nat × Nat)
 |.one c,.one d=>mC c d
 |.agg cs,.agg ds=>mCs cs ds
 |_,_=>[]
def mAs:List SA→List SA→List (Nat × Nat)
 |c :: cs,d :: ds=>mA c d ++ mAs cs ds
 |_,_=>[]
def mE (x y:bB):List (Nat × Nat) :=
 match x.v,y.v with
 |.sa a,.sa b=>mA a b
 |_,_=>[]
def mEs:List bB→List bB→List (Nat × Nat)
 |c :: cs,d :: ds=>mE c d ++ mEs cs ds
 |_,_=>[]
def mB:Option eD→Option eD→List (Nat × Nat)
 |some (.cells _ cs),some (.cells _ ds)=>mCs cs ds
 |_,_=>[]
def close (h h' : H):Nat→List (Nat × Nat)→List (Nat × Nat)→List (Nat × Nat)
 |0,_,acc=>acc
 |_+1,[],acc=>acc
 |f+1,(i,k) :: w,acc=>match look acc i with
  |some _=>close h h' f w acc
  |none=>close h h' f (w ++ mB (ak h k) (ak h' i)) (acc ++ [(i,k)])
def mV (m:List (Nat × Nat)) (i k:Nat):Bool :=
 match look m i with
 |some n=>bI n k
 |none=>false
def uB:Ct→Ct→Prop
 |.ints k l,.ints k' l'=>k=k'∧l=l'
 |.ah s l,.ah s' l'=>s=s'∧l=l'
 |_,_=>False
def Ct.wk:Ct→Prop
 |.ints _ l=>l=[]
 |.ah _ l=>l=[]
def vX:eD→Prop
 |.tok=>True
 |.row _ c=>c.wk
 |_=>False
def Qw:Option eD→Prop
 |some (.row _ c)=>c.wk
 |_=>False
def hasB (h:H) (b:Nat):Bool :=
 match ak h b with
 |some (.cells _ _)|some (.row _ _)=>true
 |_=>false
def dy (h:H) (b:Nat):Bool :=
 match ak h b with
 |some (.row _ _)=>true
 |_=>false
def WX (h:H) (b:Nat):Bool :=
 match ak h b with
 |some (.mp _)=>true
 |_=>false
def ya (m:List (Nat × Nat)) (i:Nat):Bool :=
 match look m i with
 |some _=>false
 |none=>true
structure Mt where
 m:List (Nat × Nat)
 h:H
 h' : H
 ks:List Nat
 fr:Bool
def SC.le (M:Mt):SC→SC→Prop
 |_,.any=>True
 |.val u,.val v=>u=v
 |.num k n,.num k' n'=>k=k'∧n=n'
 |.num k n,.val (.int k' n')=>k=k'∧n=n'
 |.tf b,.tf b'=>b=b'
 |.tf b,.val (.bool b')=>b=b'
 |.val (.slice none 0 0),.sl none c=>c.wk
 |.val (.slice none 0 0),.sl (some (i,_)) c=>c.wk∧ya M.m i=true∧kC M.h' i=true
 |.val (.slice none 0 0),.own i=>ya M.m i=true∧Qw (ak M.h' i)
 |.ptr b o,.ptr b' o'=>mV M.m b' b=true∧hasB M.h' b' = true∧o=o'
 |.fn g b,.fn g' b'=>mV M.m b' b=true∧hasB M.h' b' = true∧g=g'
 |.own b,.own b'=>mV M.m b' b=true∧dy M.h' b' = true
 |.mp b,.mp b'=>mV M.m b' b=true∧WX M.h' b' = true
 |.rp b i j,.rp b' i' j'=>mV M.m b' b=true∧dy M.h' b' = true∧i=i'∧j=j'
 |.qg b o,.qg b' o'=>mV M.m b' b=true∧hasB M.h' b' = true∧o=o'
 |.xK g b o,.xK g' b' o'=>mV M.m b' b=true∧hasB M.h' b' = true∧g=g'∧o=o'
 |.own b,.sl none c=>match ak M.h b with
  |some (.row _ c0)=>(M.fr && !lO b M.ks)=true∧uB c0 c
  |some (.fI c0)=>uB c0 c
  |_=>False
 |.str l,.str l'=>l=l'
 |.sl (some (b,e)) c,.sl (some (b',e')) c'=>(mV M.m b' b=true∧kC M.h' b' = true∧e=e')∧uB c c'
 |.sl _ c,.sl none c'=>uB c c'
 |_,_=>False
def kQ (M:Mt):List SC→List SC→Prop
 |[],[]=>True
 |x :: xs,y :: ys=>x.le M y∧kQ M xs ys
 |_,_=>False
def SA.le (M:Mt):SA→SA→Prop
 |_,.one .any=>True
 |.one x,.one y=>x.le M y
 |.agg xs,.agg ys=>kQ M xs ys
 |.dZ c,.dZ c'=>uB c c'
 |_,_=>False
def Hv (M:Mt):List SA→List SA→Prop
 |[],[]=>True
 |x :: xs,y :: ys=>x.le M y∧Hv M xs ys
 |_,_=>False
def yF (M:Mt):List SA→List SA→Prop
 |_,[]=>True
 |x :: xs,y :: ys=>x.le M y∧yF M xs ys
 |_,_=>False
def SV.le (M:Mt):SV→SV→Prop
 |_,.sa (.one .any)=>True
 |.sa x,.sa y=>x.le M y
 |.bJ xs,.bJ ys=>Hv M xs ys
 |_,_=>False
def bB.le (M:Mt):bB→bB→Prop
 |_,⟨none,.sa (.one .any)⟩=>True
 | ⟨none,x⟩,⟨none,y⟩=>x.le M y
 |_,_=>False
def iQ (M:Mt):List bB→List bB→Prop
 |[],[]=>True
 |x :: xs,y :: ys=>x.le M y∧iQ M xs ys
 |_,_=>False
def fR (M:Mt):eD→eD→Prop
 |.cells t x,.cells u y=>t=u∧kQ M x y
 |.row t c,.row u c'=>t=u∧uB c c'
 |.mp l,.mp l'=>l=l'
 |.tok,.tok=>True
 |_,_=>False
def kD (M:Mt):H→Prop
 |[]=>True
 |(i,b) :: l=>(match look M.m i with
  |some k=>match ak M.h k with
   |some b0=>fR M b0 b
   |none=>False
  |none=>vX b)∧kD M l
def kept (m:List (Nat × Nat)):H→List Nat
 |[]=>[]
 |(i,_) :: l=>match look m i with
  |some k=>k :: kept m l
  |none=>kept m l
def distinct:List Nat→Bool
 |[]=>true
 |k :: l=>!lO k l && distinct l
def St.RA (fr:Bool) (m:List (Nat × Nat)) (s t:St):Prop :=
 distinct (kept m t.heap)=true∧iQ ⟨m,s.heap,t.heap,kept m t.heap,fr⟩ s.fC t.fC∧yF ⟨m,s.heap,t.heap,kept m t.heap,fr⟩ s.gs t.gs∧kD ⟨m,s.heap,t.heap,kept m t.heap,fr⟩ t.heap
def St.le (s t:St):Prop:=s.RA true (close s.heap t.heap 200 (mEs s.fC t.fC ++ mAs s.gs t.gs) []) t
def fO (r:SV):List bB :=
 match r with
 |.sa x=>[⟨none,.sa x⟩]
 |.bJ xs=>xs.map fun x=>⟨none,.sa x⟩
def Fu (x:SA):bB:=⟨none,.sa x⟩
def names (roots:List (Nat × Nat)) (b:Nat):H→List (Nat × Nat)
 |[]=>[]
 |(i,_) :: l=>match look roots i with
  |some n=>(i,n) :: names roots b l
  |none=>(i,b) :: names roots (b+1) l
def cP:List SA→List SA→List (Nat × Nat)
 |.one (.ptr n o) :: xs,.one (.ptr i o') :: ys=>match bI o o' with
  |true=>(i,n) :: cP xs ys
  |false=>cP xs ys
 |.one (.own n) :: xs,.one (.own i) :: ys=>(i,n) :: cP xs ys
 |.one (.mp n) :: xs,.one (.mp i) :: ys=>(i,n) :: cP xs ys
 |.one (.rp n _ j) :: xs,.one (.rp i _ j') :: ys=>match bI j j' with
  |true=>(i,n) :: cP xs ys
  |false=>cP xs ys
 |.one (.qg n o) :: xs,.one (.qg i o') :: ys=>match bI o o' with
  |true=>(i,n) :: cP xs ys
  |false=>cP xs ys
 |.one (.xK _ n o) :: xs,.one (.xK _ i o') :: ys=>match bI o o' with
  |true=>(i,n) :: cP xs ys
  |false=>cP xs ys
 |_ :: xs,_ :: ys=>cP xs ys
 |_,_=>[]
def dx:List SC→List Nat
 |[]=>[]
 |.own j :: l=>j :: dx l
 |_ :: l=>dx l
def lU (h:H):List Nat:=h.flatMap fun p=>match ak h p.1 with
 |some (.cells _ cs)=>dx cs
 |_=>[]
def mJ:SA→List Nat
 |.agg cs=>dx cs
 |_=>[]
def bN (args:List SA) (h:H):List Nat:=lU h ++ args.flatMap mJ
def jH:List Nat→List SA→List (Nat × Nat)
 |j :: l,.one (.own i) :: ys=>(i,j) :: jH l ys
 |_ :: l,_ :: ys=>jH l ys
 |_,_=>[]
def bS (seen:List Nat) (args:List SA) (h0 ph:H) (vs as:List SA):List (Nat × Nat):=cP vs as ++ (jH (bN args h0) (as.drop vs.length)).filterMap fun p=>match dy h0 p.2 && dy ph p.1,seen[p.2]? with
 |true,some n=>some (p.1,n)
 |_,_=>none
def lL:List SA→List SA→Prop
 |.one (.rp _ i _) :: xs,.one (.rp _ i' _) :: ys=>i=i'∧lL xs ys
 |_ :: xs,_ :: ys=>lL xs ys
 |_,_=>True
def Lx (ns:List (Nat × Nat)):Bool:=ns.all fun p=>mV (bP ns) p.2 p.1
def gG (h:H) (roots:List (Nat × Nat)):List (Nat × Nat)→Bool
 |[]=>true
 |(i,n) :: l=>(match look roots i with
  |some _=>true
  |none=>cC h n) && gG h roots l
def LQ:Option eD→Option eD→Prop
 |some (.cells _ _),some (.cells _ _)=>True
 |some (.row _ c),some (.row _ c')=>c'.len Ar.U=c.len Ar.U∧c'.sz=c.sz
 |some (.mp _),some (.mp _)=>True
 |_,_=>False
def kM (h h' : H) (roots:List (Nat × Nat)):List (Nat × Nat)→Prop
 |[]=>True
 |(i,n) :: l=>(match look roots i with
  |some _=>LQ (ak h n) (ak h' i)
  |none=>True)∧kM h h' roots l
def fG (keys:List Nat):List Nat→H
 |[]=>[]
 |n :: l=>match lO n keys with
  |true=>fG keys l
  |false=>(n,.dead) :: fG keys l
def zG (h:H):List Nat→H
 |[]=>[]
 |n :: l=>match ak h n with
  |some b=>(n,b) :: zG h l
  |none=>zG h l
def FF (m ns:List (Nat × Nat)):Bool:=ns.all fun p=>mV m p.2 p.1
def fe (kp:Bool) (h:H) (u:Nat) (bE:aZ) (s:Prop) (vs:List SA):Option cA :=
 let seen:=reach 200 h (vs.flatMap ba) []
 let m:=bM 0 seen
 match yS m vs,mL m h seen with
 |some args,some h0=>match bE args h0 with
  |some p =>
   let roots:=bS seen args h0 p.h vs p.as
   let ns:=names roots (bR u) p.h
   match Km ns p.r,mL ns p.h (p.h.map (·.1)) with
   |some r,some h1=>match gG h roots ns && (distinct (h1.map (·.1)) && (Lx ns && bI args.length vs.length)) with
    |true=>some ⟨s∧p.C∧(St.mk [] (zG h seen) vs).RA false (bP m) (St.mk [] h0 args)∧(St.mk (fO p.r) p.h []).RA false (bP ns) (St.mk (fO r) h1 [])∧kM h p.h roots ns∧lL vs p.as,⟨none,r⟩,match kp && (FF m ns && seen.all fun n=>lO n (h1.map (·.1))) with
      |true=>[]
      |false=>fG (h1.map (·.1)) seen ++ h1⟩
    |false=>none
   |_,_=>none
  |none=>none
 |_,_=>none
def DW:SC→Bool
 |.ptr _ _ | .sl _ _ | .own _ | .rp _ _ _ | .Qc _ _ | .Gy _ _ _ | .fn _ _ | .mp _ | .qg _ _ | .xK _ _ _ | .vw _ _=>false
 |_=>true
def Em:SA→Bool
 |.one c=>DW c
 |.agg cs=>cs.all DW
 |.dZ _=>false
def Rl:SV→Bool
 |.sa x=>Em x
 |.bJ xs=>xs.all Em
def fq (h:H) (u:Nat) (bE:aZ) (s:Prop) (vs:List SA):Option cA :=
 match fg h vs with
 |some args=>match bE args [] with
  |some p =>
   let ns:=names [] (bR u) p.h
   match Km ns p.r,mL ns p.h (p.h.map (·.1)) with
   |some r,some h1=>match gG h [] ns && (distinct (h1.map (·.1)) && Lx ns) with
    |true=>match Rl p.r && p.h.isEmpty with
     |true=>some ⟨s∧p.C,⟨none,p.r⟩,[]⟩
     |false=>some ⟨s∧p.C∧(St.mk (fO p.r) p.h []).RA false (bP ns) (St.mk (fO r) h1 []),⟨none,r⟩,rowsOf h (vs.flatMap ba) ++ h1⟩
    |false=>none
   |_,_=>none
  |none=>none
 |none=>none
def gX (kp:Bool) (h:H) (u:Nat) (bE:aZ) (s:Prop) (vs:List SA):Option cA :=
 match fe kp h u bE s vs with
 |some E=>some E
 |none=>fq h u bE s vs
def cZ (A:Ar) (cx:Cx) (h:H) (t:TypeId):bB→bB→Option cA
 | ⟨g,.sa (.one x)⟩,⟨g',.sa (.one y)⟩=>match y.int?,look cx.tt t with
  |some (_,i),some ⟨.slice _ n,_,_,_,_⟩=>match x with
   |.sl _ (.ints k l)=>match bI n 1 with
    |true=>bZ (need g∧need g'∧A.cmp .geq i 0=true∧A.cmp .lss i (A.fN l)=true) (.Qc k (A.Vr l i))
    |false=>none
   |.sl _ (.ah s l)=>match bI n s.size with
    |true=>bZ (need g∧need g'∧A.cmp .geq i 0=true∧A.cmp .lss i (A.dK l)=true) (.Gy s (A.bh l i) 0)
    |false=>none
   |.own b=>match ak h b with
    |some (.row _ c)=>match bI n c.sz with
     |true=>bZ (need g∧need g'∧A.cmp .geq i 0=true∧A.cmp .lss i (c.len A)=true) (.rp b i 0)
     |false=>none
    |some (.fI c)=>match bI n c.sz with
     |true=>match c with
      |.ints k l=>bZ (need g∧need g'∧A.cmp .geq i 0=true∧A.cmp .lss i (A.fN l)=true) (.Qc k (A.Vr l i))
      |.ah s l=>bZ (need g∧need g'∧A.cmp .geq i 0=true∧A.cmp .lss i (A.dK l)=true) (.Gy s (A.bh l i) 0)
     |false=>none
    |_=>none
   |_=>none
  |some (_,i),some ⟨.array len n _,_,_,_,_⟩=>match x with
   |.ptr b off=>match ak h b with
    |some (.cells _ _)=>match y.lit && (al .geq i 0 && al .lss i len) with
     |true=>bZ (need g∧need g') (.ptr b (off+i.toNat * n))
     |false=>none
    |some (.row _ c)=>match bI off 0 && (bI c.sz 1 && (dM 1 n && dM (len * n) 1000000)) with
     |true=>bZ (need g∧need g'∧A.cmp .geq i 0=true∧A.cmp .lss i len=true∧A.cmp .leq ((len * n:Nat):Int) (c.len A)=true) (.rp b (match bI n 1 with
      |true=>i
      |false=>A.bin .mul .i64 i n) 0)
     |false=>none
    |_=>none
   |.rp b i0 0=>match ak h b with
    |some (.row _ c)=>match bI c.sz 1 && (dM 1 n && dM (len * n) 1000000) with
     |true=>bZ (need g∧need g'∧A.cmp .geq i 0=true∧A.cmp .lss i len=true∧A.cmp .leq (c.len A) 1000000=true∧A.cmp .leq (A.bin .add .i64 i0 ((len * n:Nat):Int)) (c.len A)=true)
       (.rp b (A.bin .add .i64 i0 (match bI n 1 with
        |true=>i
        |false=>A.bin .mul .i64 i n)) 0)
     |false=>none
    |_=>none
   |.Gy s q j=>match y.lit && (al .geq i 0 && al .lss i len) with
    |true=>bZ (need g∧need g') (.Gy (s.drop (i.toNat * n)) q (j+i.toNat * n))
    |false=>none
   |_=>none
  |_,_=>none
 |_,_=>none
def nU (A:Ar) (cx:Cx) (t:TypeId):bB→bB→Option cA
 | ⟨g,.sa x⟩,⟨g',.sa (.one y)⟩=>match y.int?,look cx.tt t with
  |some (_,i),some ⟨.array len n ag,_,_,_,_⟩=>match x with
   |.agg cs=>match y.lit && (al .geq i 0 && al .lss i len) with
    |true=>match ag with
     |true=>match ed cs (i.toNat * n) n with
      |some l=>some ⟨need g∧need g',⟨none,.sa (.agg l)⟩,[]⟩
      |none=>none
     |false=>match ed cs (i.toNat * n) 1 with
      |some [c]=>bZ (need g∧need g') c
      |_=>none
    |false=>none
   |.dZ c=>match ag with
    |true=>none
    |false=>match bI n 1 && bI c.sz 1 with
     |true=>match c.at A i 0 1 with
      |[d]=>bZ (need g∧need g'∧A.cmp .geq i 0=true∧A.cmp .lss i len=true∧A.cmp .leq len (c.len A)=true) d
      |_=>none
     |false=>none
   |_=>none
  |some (_,i),some ⟨.str,_,_,_,_⟩=>match x with
   |.one (.str l)=>bZ (need g∧need g'∧A.cmp .geq i 0=true∧A.cmp .lss i (A.fN l)=true) (.val (.int .u8 (A.Vr l i)))
   |_=>none
  |_,_=>none
 |_,_=>none
def iT (A:Ar) (cx:Cx) (h:H) (src dt:TypeId):bB→Option cA
 | ⟨g,.sa (.one c)⟩=>match look cx.tt src,look cx.tt dt with
  |some ⟨.slice e _,_,_,_,_⟩,some ⟨.str,_,_,_,_⟩=>match look cx.tt e with
   |some ⟨.int .u8,_,_,_,_⟩=>match c with
    |.val (.slice none 0 0)=>bZ (need g) (.str [])
    |c=>match kb h c with
     |some (.ints .u8 l)=>bZ (need g) (.str (A.byt l))
     |_=>none
   |_=>none
  |some ⟨.str,_,_,_,_⟩,some ⟨.slice e sz,_,_,_,_⟩=>match look cx.tt e with
   |some ⟨.int .u8,_,_,_,_⟩=>match bI sz 1 with
    |true=>match c with
     |.str l=>bZ (need g∧A.fits (A.fN l) 1=true) (.sl none (.ints .u8 l))
     |_=>none
    |false=>none
   |_=>none
  |some ⟨.slice e _,_,_,_,_⟩,some ⟨.slice _ _,_,_,_,_⟩=>match look cx.tt e with
   |some ⟨.int .u8,_,_,_,_⟩=>match bI src dt,c with
    |true,.sl (some (id,_)) (.ints k l)=>match kC h id with
     |true=>some ⟨need g∧A.cmp .gtr (A.fN l) 0=true,⟨none,.sa (.one (.sl none (.ints k l)))⟩,[(id,.dead)]⟩
     |false=>none
    |_,_=>none
   |_=>none
  |some _,some ⟨.int k,_,_,_,_⟩=>match c.int? with
   |some (_,n)=>bZ (need g) (Ua c.lit k ((A.lit c.lit).conv k n))
   |none=>none
  |_,_=>none
 |_=>none
def iH (A:Ar) (cx:Cx) (h:H) (t:TypeId):bB→Option cA
 | ⟨g,.sa (.one (.ptr b off))⟩=>match Dz A cx (ak h b) off t with
  |some (C,v)=>some ⟨need g∧C,⟨none,.sa v⟩,[]⟩
  |none=>none
 | ⟨g,.sa (.one (.rp b i j))⟩=>match ak h b,look cx.tt t with
  |some (.row _ c),some ti=>match ti.k.agg with
   |true=>match dM (j+ti.size) c.sz with
    |true=>some ⟨need g,⟨none,.sa (.agg (c.at A i j ti.size))⟩,[]⟩
    |false=>none
   |false=>match dM (j+1) c.sz,c.at A i j 1 with
    |true,[d]=>bZ (need g) d
    |_,_=>none
  |_,_=>none
 | ⟨g,.sa (.one (.Qc k n))⟩=>match look cx.tt t with
  |some ti=>match ti.k.agg with
   |true=>none
   |false=>bZ (need g) (.val (.int k n))
  |none=>none
 | ⟨g,.sa (.one (.qg n off))⟩=>match look cx.tt t with
  |some ti=>match ti.k.agg with
   |true=>none
   |false=>bZ (need g) (.ptr n off)
  |none=>none
 | ⟨g,.sa (.one (.Gy s x j))⟩=>match look cx.tt t with
  |some ti=>match ti.k.agg with
   |true=>match dM ti.size s.size with
    |true=>some ⟨need g,⟨none,.sa (.agg (dP A s x j ti.size))⟩,[]⟩
    |false=>none
   |false=>match dP A s x j 1 with
    |[c]=>bZ (need g) c
    |_=>none
  |none=>none
 |_=>none
def gp (A:Ar) (cx:Cx) (h:H) (t:TypeId) (x y:bB):Option cA :=
 match x,y,look cx.tt t with
 | ⟨g,.sa (.one (.ptr b off))⟩,⟨g',.sa v⟩,some ti=>match ak h b with
  |some (.cells bt bc)=>match bI v.cells.length ti.size && dM (off+ti.size) bc.length with
   |true=>some ⟨need g∧need g'∧v.side,bB.nil,[(b,.cells bt (eX bc off v.cells))]⟩
   |false=>none
  |some (.row bt c0)=>match v with
   |.dZ c=>match bI c.sz 1 && (bI c0.sz 1 && bI off 0) with
    |true=>some ⟨need g∧need g'∧A.cmp .eql (c.len A) ti.size=true∧A.cmp .eql (c0.len A) ti.size=true,bB.nil,[(b,.row bt c)]⟩
    |false=>none
   |_=>none
  |_=>none
 | ⟨g,.sa (.one (.rp b i j))⟩,⟨g',.sa v⟩,some ti=>match ak h b with
  |some (.row bt c)=>match bI v.cells.length ti.size && dM (j+ti.size) c.sz with
   |true=>match Hn A c i j v with
    |some c'=>some ⟨need g∧need g'∧v.side,bB.nil,[(b,.row bt c')]⟩
    |none=>none
   |false=>none
  |_=>none
 |_,_,_=>none
def da (cx:Cx) (h:H) (s:TypeId) (f:Nat) (x:bB):Option cA :=
 match x,look cx.tt s with
 | ⟨g,.sa (.one c)⟩,some ⟨.struct fs,_,_,_,_⟩=>match fs[f]? with
  |some (o,n,_,_)=>match bI n 0 with
   |true=>none
   |false=>match c with
    |.ptr b off=>bZ (need g) (.ptr b (off+o))
    |.rp b i j=>match dy h b with
     |true=>bZ (need g) (.rp b i (j+o))
     |false=>none
    |.Gy h y j=>bZ (need g) (.Gy (h.drop o) y (j+o))
    |_=>none
  |none=>none
 |_,_=>none
def mY (cx:Cx) (s:TypeId) (f:Nat) (x:bB):Option cA :=
 match x,look cx.tt s with
 | ⟨g,.sa (.agg cs)⟩,some ⟨.struct fs,_,_,_,_⟩=>match fs[f]? with
  |some (o,n,true,_)=>match ed cs o n with
   |some l=>some ⟨need g,⟨none,.sa (.agg l)⟩,[]⟩
   |none=>none
  |some (o,_,false,_)=>match ed cs o 1 with
   |some [c]=>bZ (need g) c
   |_=>none
  |none=>none
 |_,_=>none
def placeOf (fs:List (Nat × Nat × Bool × List Nat)) (i:Nat):Option (Nat × Nat) :=
 match fs[i]? with
 |some f=>some (f.1,f.2.1)
 |none=>none
def nV (A:Ar) (cx:Cx) (t:TypeId) (is:List Nat) (es:List bB):Option cA :=
 match look cx.tt t,AS es with
 |some ⟨.struct fs,_,z,_,_⟩,some vs=>match yM (placeOf fs) (z.map cellOf) (is.zip vs) with
  |some cs=>some ⟨dW es∧dS vs∧z.all Value.oneCell' = true,⟨none,.sa (.agg cs)⟩,[]⟩
  |none=>none
 |some ⟨.array _ n _,sz,z,_,fl⟩,some vs=>match fl,is,dM sz 8 with
  |some s,[],false=>some ⟨True,⟨none,.sa (.dZ (BV A sz s))⟩,[]⟩
  |_,is,_=>match yM (fun i=>some (i * n,n)) (z.map cellOf) (is.zip vs) with
   |some cs=>some ⟨dW es∧dS vs∧z.all Value.oneCell' = true,⟨none,.sa (.agg cs)⟩,[]⟩
   |none=>none
 |_,_=>none
def dO (cx:Cx) (h:H) (u:Nat) (t:TypeId) (n:Nat) (is:List Nat) (es:List bB):Option cA :=
 match look cx.tt t,AS es with
 |some ⟨.slice e sz,_,_,_,_⟩,some vs=>match SB (look cx.hs t) sz vs,look cx.tt e with
  |some ct,some _=>match cC h (bR u) && (idxs is 0 n && (dM 1 sz && (dM (n * sz) 16777216 && vs.all fun v=>bI v.cells.length sz))) with
   |true=>match bI n 0,look cx.fs (dG u) with
    |true,some _=>some ⟨dW es∧dS vs,⟨none,.sa (.one (.own (bR u)))⟩,[(bR u,.emp e)]⟩
    |_,_=>some ⟨dW es∧dS vs,⟨none,.sa (.one (.sl (some (bR u,e)) ct))⟩,[(bR u,.tok)]⟩
   |false=>none
  |_,_=>none
 |_,_=>none
def nP (A:Ar) (cx:Cx) (h:H) (u:Nat) (t:TypeId):bB→bB→Option cA
 | ⟨g,.sa (.one x)⟩,⟨g',.sa (.one y)⟩=>match x.int?,y.int?,look cx.tt t with
  |some (_,l),some (_,c),some ⟨.slice e sz,_,_,_,_⟩=>match look cx.tt e,look cx.bs e,look cx.hs t with
   |some te,some b,some ct=>match bI te.size sz && (dM 1 sz && (dM 1 b && (bI ct.sz sz && cC h (bR u)))) with
    |true=>match x.lit && al .eql l 0 with
     |true=>some ⟨need g∧need g'∧A.cmp .geq c 0=true∧A.fits c b=true,⟨none,.sa (.one (.sl (some (bR u,e)) (eR ct)))⟩,[(bR u,.tok)]⟩
     |false=>some ⟨need g∧need g'∧A.cmp .geq l 0=true∧A.cmp .leq l c=true∧A.fits c b=true,⟨none,.sa (.one (.own (bR u)))⟩,[(bR u,.row e (ct.rep A l))]⟩
    |false=>none
   |_,_,_=>none
  |_,_,_=>none
 |_,_=>none
def gr (A:Ar) (cx:Cx) (st:St) (t:TypeId) (x:bB) (lo hi mx:Option Operand):Option cA :=
 match x,look cx.tt t with
 | ⟨g,.sa (.one c)⟩,some ⟨.slice _ n,_,_,_,_⟩=>match kb st.heap c with
  |some ct=>match qV st 0 lo,qV st (ct.len A) hi,qV st 0 mx with
   |some (g1,l),some (g2,h),some (g3,m)=>match bI n ct.sz with
    |true=>match mx,hi,c with
     |none,_,_=>some ⟨need g∧need g1∧need g2∧A.cmp .geq l 0=true∧A.cmp .leq l h=true∧A.cmp .leq h (ct.len A)=true,⟨none,.sa (.one (.sl none (ct.cut A l h)))⟩,rowsOf st.heap (bq c)⟩
     |some _,some _,_=>some ⟨need g∧need g1∧need g2∧need g3∧A.cmp .geq l 0=true∧A.cmp .leq l h=true∧A.cmp .leq h m=true∧A.cmp .leq m (ct.len A)=true,⟨none,.sa (.one (.sl none (ct.cut A l h)))⟩,rowsOf st.heap (bq c)⟩
     |_,_,_=>none
    |false=>none
   |_,_,_=>none
  |none=>none
 |_,_=>none
def gD (h:H) (e:TypeId):SC→Option (Nat × Nat × Int × Ct)
 |.own n=>match ak h n with
  |some (.cm d sz q)=>match ak h d with
   |some (.row e' c)=>match bI e e' with
    |true=>some (d,sz,q,c)
    |false=>none
   |_=>none
  |_=>none
 |_=>none
def nY (A:Ar) (cx:Cx) (st:St) (u:Nat) (t:TypeId) (x:bB) (lo hi:Option Operand):Option cA :=
 match x,look cx.tt t with
 | ⟨g,.sa (.one c)⟩,some ⟨.slice e n,_,_,_,_⟩=>match ownRow st.heap e c with
  |some (m,ct)=>match qV st 0 lo,qV st (ct.len A) hi with
   |some (g1,l),some (g2,h)=>match bI n ct.sz && cC st.heap (bR u) with
    |true=>some ⟨need g∧need g1∧need g2∧A.cmp .geq l 0=true∧A.cmp .leq l h=true∧A.cmp .leq h (ct.len A)=true,⟨none,.sa (.one (.own (bR u)))⟩,[(m,.dead),(bR u,.row e (ct.cut A l h))]⟩
    |false=>none
   |_,_=>none
  |none=>match gD st.heap e c,qV st 0 lo,hi with
   |some (d,sz,q,cd),some (g1,l),none=>match bI n sz && cC st.heap (bR u) with
    |true=>some ⟨need g∧need g1∧A.cmp .eql l q=true,⟨none,.sa (.one (.own (bR u)))⟩,[(d,.dead),(bR u,.row e cd)]⟩
    |false=>none
   |_,_,_=>none
 |_,_=>none
def mH (A:Ar) (cx:Cx) (st:St) (u:Nat) (t:TypeId) (x:bB) (lo hi mx:Option Operand):Option cA :=
 match x,look cx.tt t with
 | ⟨g,.sa (.one c)⟩,some ⟨.slice e n,_,_,_,_⟩=>match ownRow st.heap e c with
  |some (m,ct)=>match qV st 0 lo,qV st (ct.len A) hi,qV st 0 mx with
   |some (g1,l),some (g2,h),some (g3,q)=>match bI n ct.sz && cC st.heap (bR u),hi,mx with
    |true,some _,some _=>some ⟨need g∧need g1∧need g2∧need g3∧A.cmp .geq l 0=true∧A.cmp .leq l h=true∧A.cmp .leq h q=true∧A.cmp .leq q (ct.len A)=true,⟨none,.sa (.one (.sl none (ct.cut A l h)))⟩,[(m,.cm (bR u) n q),(bR u,.row e (ct.cut A q (ct.len A)))]⟩
    |_,_,_=>none
   |_,_,_=>none
  |none=>none
 |_,_=>none
def MJ (u:Nat):Nat:=dG (500000000+u)
def oI (A:Ar) (cx:Cx) (st:St) (t:TypeId) (x:bB) (lo hi:Option Operand):Option cA :=
 match x,look cx.tt t,hi with
 | ⟨g,.sa (.one c)⟩,some ⟨.slice e n,_,_,_,_⟩,none=>match ownRow st.heap e c,qV st 0 lo with
  |some (m,ct),some (g1,l)=>match bI n ct.sz with
   |true=>bZ (need g∧need g1∧A.cmp .geq l 0=true∧A.cmp .leq l (ct.len A)=true) (.vw m l)
   |false=>none
  |_,_=>none
 |_,_,_=>none
def CA:Ct→Ct→Bool
 |.ints k _,.ints k' _=>cY k k'
 |.ah s _,.ah s' _=>gB s s'
 |_,_=>false
def Ct.Bn (A:Ar) (l:Int):Ct→Ct
 |.ints k m=>.ints k (A.YP m l)
 |.ah s m=>.ah s (A.Xs s.zero m l)
def gq (A:Ar) (cx:Cx) (h:H) (t:TypeId):bB→Option cA
 | ⟨g,.sa (.one (.vw n l))⟩=>match look cx.tt t,look cx.hs t,ak h n with
  |some ⟨.slice e sz,_,_,_,_⟩,some hc,some (.row bt c)=>match look cx.tt e with
   |some te=>match CA hc c && (bI c.sz sz && (bI te.size sz && dM 1 sz)) with
    |true=>some ⟨need g,bB.nil,[(n,.row bt (c.Bn A l))]⟩
    |false=>none
   |none=>none
  |_,_,_=>none
 |_=>none
def qQ:bB→Option cA
 | ⟨g,.sa (.one (.ptr n off))⟩=>some ⟨need g,⟨none,.sa (.one (.qg n off))⟩,[]⟩
 |_=>none
def jD (A:Ar) (cx:Cx) (h:H) (u:Nat) (t:TypeId):Option cA :=
 match look cx.tt t with
 |some ti=>match cC h (bR u) with
  |true=>match ti.flat,dM ti.size 8 with
   |some s,false=>some ⟨True,⟨none,.sa (.one (.ptr (bR u) 0))⟩,[(bR u,.row t (BV A ti.size s))]⟩
   |_,_=>some ⟨ti.zero.all Value.oneCell' = true,⟨none,.sa (.one (.ptr (bR u) 0))⟩,[(bR u,.cells t (ti.zero.map cellOf))]⟩
  |false=>none
 |none=>none
def sH (h:H) (u:Nat) (t:TypeId):bB→Option cA
 | ⟨g,.sa v⟩=>match cC h (bR u) with
  |true=>match v with
   |.dZ c=>some ⟨need g,⟨none,.sa (.one (.ptr (bR u) 0))⟩,[(bR u,.row t c)]⟩
   |v=>some ⟨need g∧v.side,⟨none,.sa (.one (.ptr (bR u) 0))⟩,[(bR u,.cells t v.cells)]⟩
  |false=>none
 |_=>none
def mb (A:Ar) (cx:Cx) (h:H) (t:TypeId) (s:Prop) (c:SC):Option cA :=
 match look cx.tt t with
 |some ⟨.slice _ _,_,_,_,_⟩=>match c with
  |.val (.slice none 0 0)=>bZ s (.num .i64 0)
  |c=>match kb h c with
   |some ct=>bZ s (.val (.int .i64 (ct.len A)))
   |none=>none
 |some ⟨.str,_,_,_,_⟩=>match c with
  |.str l=>bZ s (.val (.int .i64 (A.fN l)))
  |_=>none
 |_=>none
def Yd:bB→Option Nat
 | ⟨_,.sa (.one (.val (.func (.func f) ⟨[]⟩ ⟨[]⟩)))⟩=>some f
 |_=>none
def ndF (e:bB) (s:Prop):Prop :=
 match e.g with
 |none=>s
 |some b=>b=true∧s
def ZZ:bB→Option (Nat × SC)
 | ⟨none,.sa (.one (.fn g n))⟩=>some (g,.ptr n 0)
 | ⟨none,.sa (.one (.xK g n o))⟩=>some (g,.qg n o)
 |_=>none
def rA (A:Ar) (cx:Cx) (st:St) (u:Nat) (c:Call) (es:List bB):Option cA :=
 match c.callee with
 |.value x=>match Yd (aF st x) with
  |some f=>match dM f 999999,look cx.fs f,AS es with
   |true,some bE,some vs=>gX (match look cx.fs (bG f) with
    |some _=>true
    |none=>false) st.heap u bE (ndF (aF st x) (dW es)) vs
   |_,_,_=>none
  |none=>match ZZ (aF st x) with
   |some (f,n)=>match dM f 999999,look cx.fs f,AS es with
    |true,some bE,some vs=>fe (match look cx.fs (bG f) with
     |some _=>true
     |none=>false) st.heap u bE (dW es) (vs ++ [.one n])
    |_,_,_=>none
   |none=>none
 |.builtin .len=>match c.argTypes.toList,AS es with
  |[t],some [.one x]=>mb A cx st.heap t (dW es) x
  |_,_=>none
 |.builtin .append=>match c.argTypes.toList,es with
  |[t,t'],[x,y]=>match x,look cx.tt t with
   | ⟨_,.sa (.one c)⟩,some ⟨.slice e _,_,_,_,_⟩=>match oA st.heap e c with
    |some n=>jk A cx st.heap u n t t' x y
    |none=>match ownRow st.heap e c with
     |some (n,c1)=>jd A cx st.heap u n c1 t t' x y
     |none=>match look cx.fs (dG u) with
      |some _=>iP A cx st.heap u t t' x y
      |none=>lP A cx st.heap u t t' x y
   |_,_=>none
  |_,_=>none
 |.builtin .copy=>match c.argTypes.toList,es with
  |t :: _,[x,y]=>jf A cx st.heap t x y
  |_,_=>none
 |.builtin .clear=>match c.argTypes.toList,es with
  |[t],[x]=>gq A cx st.heap t x
  |_,_=>none
 |.builtin .min=>match AS es with
  |some (.one x :: l)=>match x.int? with
   |some (k,a)=>match mq A .lss a l k with
    |some n=>bZ (dW es) (.val (.int k n))
    |none=>none
   |none=>none
  |_=>none
 |.builtin .max=>match AS es with
  |some (.one x :: l)=>match x.int? with
   |some (k,a)=>match mq A .gtr a l k with
    |some n=>bZ (dW es) (.val (.int k n))
    |none=>none
   |none=>none
  |_=>none
 |_=>none
def Dj (A:Ar) (op:UnOp):bB→Option cA
 | ⟨g,.sa (.one c)⟩=>match op with
  |.not=>match c.bool? with
   |some b=>bZ (need g) (Yz c.lit ((A.lit c.lit).not b))
   |none=>none
  |.neg=>match c.int? with
   |some (k,n)=>bZ (need g) (Ua c.lit k ((A.lit c.lit).bin .sub k 0 n))
   |none=>none
  |.xor=>match c.int? with
   |some (k,n)=>bZ (need g) (Ua c.lit k ((A.lit c.lit).bin .xor k (match k.signed with
    |true=>-1
    |false=>k.max) n))
   |none=>none
  |_=>none
 |_=>none
def wy:bB→Option cA
 | ⟨g,.sa (.one (.ptr n o))⟩=>bZ (need g) (.ptr n o)
 | ⟨g,.sa (.one (.rp n i j))⟩=>bZ (need g) (.rp n i j)
 |_=>none
def jj (i:Nat):bB→Option cA
 | ⟨g,.bJ xs⟩=>match xs[i]? with
  |some a=>some ⟨need g,⟨none,.sa a⟩,[]⟩
  |none=>none
 |_=>none
def kf (cx:Cx) (h:H) (u:Nat) (t:TypeId) (hint:Option Operand):Option cA :=
 match look cx.tt t,hint,cC h (bR u) with
 |some ⟨.sI,_,_,_,_⟩,none,true=>some ⟨True,⟨none,.sa (.one (.mp (bR u)))⟩,[(bR u,.mp [])]⟩
 |_,_,_=>none
def iM (A:Ar) (cx:Cx) (h:H) (t:TypeId) (ok:Bool):bB→bB→Option cA
 | ⟨g,.sa (.one (.mp n))⟩,⟨g',.sa (.one y)⟩=>match y.int?,look cx.tt t,ak h n with
  |some (.i64,k),some ⟨.sI,_,_,_,_⟩,some (.mp l)=>match ok with
   |false=>bZ (need g∧need g') (.val (.int .i64 (A.nM l k)))
   |true=>some ⟨need g∧need g',⟨none,.bJ [.one (.val (.int .i64 (A.nM l k))),.one (.val (.bool (A.uc l k)))]⟩,[]⟩
  |_,_,_=>none
 |_,_=>none
def lZ (A:Ar) (cx:Cx) (h:H) (t:TypeId):bB→bB→bB→Option cA
 | ⟨g,.sa (.one (.mp n))⟩,⟨g',.sa (.one y)⟩,⟨g2,.sa (.one z)⟩=>match y.int?,z.int?,look cx.tt t,ak h n with
  |some (.i64,k),some (.i64,v),some ⟨.sI,_,_,_,_⟩,some (.mp l)=>some ⟨need g∧need g'∧need g2∧A.cmp .lss (A.Tz l) 1000000000000=true,bB.nil,[(n,.mp (A.uV l k v))]⟩
  |_,_,_,_=>none
 |_,_,_=>none
def CR (f:Fn) (first:List bB) (cap:List bB):Option cA :=
 match f,first,cap with
 |.func f,[],[⟨g,.sa (.one (.ptr n 0))⟩]=>bZ (need g) (.fn f n)
 |.func f,[],[⟨g,.sa (.one (.qg n o))⟩]=>bZ (need g) (.xK f n o)
 |_,_,_=>none
def dC (A:Ar) (cx:Cx) (st:St) (u:Nat):Op→Option cA
 |.makeFunc f first cap=>CR f (first.toList.map (aF st)) (cap.toList.map (aF st))
 |.move x | .assign x=>some ⟨True,aF st x,[]⟩
 |.pick c a b=>rm A (aF st c) (aF st a) (aF st b)
 |.binOp op xt x y _=>lY A cx st.heap op xt (aF st x) (aF st y)
 |.unOp op _ x=>Dj A op (aF st x)
 |.convert src dt x=>iT A cx st.heap src dt (aF st x)
 |.nilCheck x=>wy (aF st x)
 |.alloc t=>jD A cx st.heap u t
 |.box t x=>match look cx.fs (dG u) with
  |some _=>qQ (aF st x)
  |none=>sH st.heap u t (aF st x)
 |.load t x=>iH A cx st.heap t (aF st x)
 |.store t x y=>gp A cx st.heap t (aF st x) (aF st y)
 |.fieldAddr s x f=>da cx st.heap s f (aF st x)
 |.field s x f=>mY cx s f (aF st x)
 |.build t ps=>nV A cx t (ps.toList.map (·.1)) (ps.toList.map fun p=>aF st p.2)
 |.buildSlice t n ps=>dO cx st.heap u t n (ps.toList.map (·.1)) (ps.toList.map fun p=>aF st p.2)
 |.makeSlice t l c=>nP A cx st.heap u t (aF st l) (aF st c)
 |.indexAddr t x ix=>cZ A cx st.heap t (aF st x) (aF st ix)
 |.index t x ix=>nU A cx t (aF st x) (aF st ix)
 |.slice t x lo hi mx=>match look cx.fs (dG u) with
  |some _=>match mx with
   |none=>nY A cx st u t (aF st x) lo hi
   |some y=>mH A cx st u t (aF st x) lo hi (some y)
  |none=>match look cx.fs (MJ u),mx with
   |some _,none=>oI A cx st t (aF st x) lo hi
   |_,mx=>gr A cx st t (aF st x) lo hi mx
 |.extract x i=>jj i (aF st x)
 |.makeMap t hint=>kf cx st.heap u t hint
 |.lookup t m x ok=>iM A cx st.heap t ok (aF st m) (aF st x)
 |.mapUpdate t m x v=>lZ A cx st.heap t (aF st m) (aF st x) (aF st v)
 |.call c=>rA A cx st u c (c.args.toList.map (aF st))
 |_=>none
def St.put (st:St) (dst:Option Tmp) (e:bB):St :=
 match dst with
 |some d=>{ st with fC:=st.fC.set d e }
 |none=>st
def aH (h:H):List (Nat × eD)→H
 |[]=>h
 |p :: l=>aH (aS h p.1 p.2) l
def St.app (st:St) (dst:Option Tmp) (E:cA):St:={ (st.put dst E.ent) with heap:=aH st.heap E.ig }
inductive Wn where
 |bad
 |yes
 |no
 |sym (b:Bool)
def Iw (A:Ar) (want:Bool):bB→Wn
 | ⟨none,.sa (.one (.tf c))⟩=>match want,c with
  |true,true=>.yes
  |false,false=>.yes
  |_,_=>.no
 | ⟨some g,.sa (.one (.tf c))⟩=>match want,c with
  |true,true=>.sym g
  |false,false=>.sym g
  |_,_=>.no
 | ⟨none,.sa (.one (.val (.bool c)))⟩=>.sym (match want with
  |true=>c
  |false=>A.not c)
 | ⟨some g,.sa (.one (.val (.bool c)))⟩=>.sym (A.and g (match want with
  |true=>c
  |false=>A.not c))
 |_=>.bad
def ql (A:Ar) (ops:List Oper) (st:St):Option (Nat × Bool)→Wn
 |none=>.yes
 |some (j,want) =>
  match ops[j]? with
  |some o=>match o.dst with
   |some t=>Iw A want (st.fC.getD t bB.nil)
   |none=>.bad
  |none=>.bad
def iU (A:Ar) (cx:Cx) (ops:List Oper) (st:St) (u:Nat) (o:Oper) (d:Bool):Option cA :=
 match ql A ops st o.guard with
 |.bad=>none
 |.yes=>dC A cx st u o.op
 |.no=>some ⟨True,bB.off,[]⟩
 |.sym b=>match dC A cx st u o.op with
  |some ⟨C,e,[]⟩=>some ⟨b=false∨C,⟨Nr A (some b) e.g,e.v⟩,[]⟩
  |some ⟨C,e,p :: l⟩=>match d with
   |true=>some ⟨b=true∧C,e,p :: l⟩
   |false=>some ⟨b=false,bB.nil,[]⟩
  |none=>some ⟨b=false,bB.nil,[]⟩
def cS (h:H) (u:Nat) (bE:aZ) (vs:List SA):List Nat :=
 let seen:=reach 200 h (vs.flatMap ba) []
 let m:=bM 0 seen
 vs.flatMap ba ++ seen ++ (match yS m vs,mL m h seen with
 |some args,some h0=>match bE args h0 with
  |some p=>(names (bS seen args h0 p.h vs p.as) (bR u) p.h).map (·.2)
  |none=>[]
 |_,_=>[]) ++ (match fg h vs with
  |some args=>match bE args [] with
   |some p=>(names [] (bR u) p.h).map (·.2)
   |none=>[]
  |none=>[])
def Cr (e:bB):List Nat :=
 match e.v with
 |.sa (.one (.rp n _ _))=>[n]
 |_=>[]
def Ej (e:bB):List Nat :=
 match e.v with
 |.sa (.one (.qg _ _))=>[]
 |_=>bj e
def mh (h:H) (n:Nat):List Nat :=
 match ak h n with
 |some (.cm d _ _)=>[d]
 |_=>[]
def dB (cx:Cx) (st:St) (u:Nat) (o:Oper):List Nat :=
 match o.op with
 |.binOp _ _ x y _=>bj (aF st x) ++ bj (aF st y)
 |.convert _ _ x | .indexAddr _ x _=>bj (aF st x)
 |.load _ x=>Ej (aF st x)
 |.slice _ x _ _ _=>bR u :: (bj (aF st x) ++ (bj (aF st x)).flatMap (mh st.heap))
 |.fieldAddr _ x _=>Cr (aF st x)
 |.store _ x _=>bj (aF st x)
 |.lookup _ x _ _ | .mapUpdate _ x _ _=>bj (aF st x)
 |.makeMap _ _=>[bR u]
 |.alloc _ | .box _ _ | .buildSlice _ _ _ | .makeSlice _ _ _=>[bR u]
 |.call c=>match c.callee with
  |.builtin .append=>bR u :: (c.args.toList.map (aF st)).flatMap bj
  |.builtin .len | .builtin .copy | .builtin .clear=>(c.args.toList.map (aF st)).flatMap bj
  |.value x=>match Yd (aF st x) with
   |some f=>match look cx.fs f,AS (c.args.toList.map (aF st)) with
    |some bE,some vs=>cS st.heap u bE vs
    |_,_=>[]
   |none=>match ZZ (aF st x) with
    |some (f,n)=>match look cx.fs f,AS (c.args.toList.map (aF st)) with
     |some bE,some vs=>cS st.heap u bE (vs ++ [.one n])
     |_,_=>[]
    |none=>[]
  |_=>[]
 |_=>[]
structure Jt where
 i:Nat
 o:Oper
 d:Bool
structure It where
 i:Nat
 o:Oper
 d:Bool
 side:Prop
 wb:List Nat
 ft:List Nat
def uid (r i:Nat):Nat:=1000 * r+i
def runT (A:Ar) (cx:Cx) (r:Nat) (ops:List Oper):List Jt→St→Option (List It × St)
 |[],st=>some ([],st)
 |j :: l,st=>match iU A cx ops st (uid r j.i) j.o j.d with
  |some E=>match runT A cx r ops l (st.app j.o.dst E) with
   |some (T,st')=>some (⟨j.i,j.o,j.d,E.side,E.ig.map (·.1),dB cx st (uid r j.i) j.o⟩ :: T,st')
   |none=>none
  |none=>none
def qx (A:Ar) (cx:Cx) (r:Nat) (ops:List Oper):Nat→List Oper→St→(List It→St→Prop)→Prop
 |_,[],st,K=>K [] st
 |i,o :: l,st,K=>match ql A ops st o.guard with
  |.bad=>False
  |.yes=>match dC A cx st (uid r i) o.op with
   |some E=>qx A cx r ops (i+1) l (st.app o.dst E) fun T s=>K (⟨i,o,true,E.side,E.ig.map (·.1),dB cx st (uid r i) o⟩ :: T) s
   |none=>False
  |.no=>qx A cx r ops (i+1) l (st.app o.dst ⟨True,bB.off,[]⟩) fun T s=>K (⟨i,o,true,True,[],dB cx st (uid r i) o⟩ :: T) s
  |.sym b=>match dC A cx st (uid r i) o.op with
   |some ⟨C,e,[]⟩=>qx A cx r ops (i+1) l (st.app o.dst ⟨b=false∨C,⟨Nr A (some b) e.g,e.v⟩,[]⟩) fun T s=>K (⟨i,o,true,b=false∨C,[],dB cx st (uid r i) o⟩ :: T) s
   |some ⟨C,e,p :: q⟩=>(b=false∨qx A cx r ops (i+1) l (st.app o.dst ⟨b=true∧C,e,p :: q⟩) fun T s=>K (⟨i,o,true,C,p.1 :: q.map (·.1),dB cx st (uid r i) o⟩ :: T) s) ∧
     (b=true∨qx A cx r ops (i+1) l (st.app o.dst ⟨b=false,bB.nil,[]⟩) fun T s=>K (⟨i,o,false,True,[],dB cx st (uid r i) o⟩ :: T) s)
   |none=>qx A cx r ops (i+1) l (st.app o.dst ⟨b=false,bB.nil,[]⟩) fun T s=>K (⟨i,o,true,b=false,[],dB cx st (uid r i) o⟩ :: T) s
def lG:List It→Prop
 |[]=>True
 |x :: T=>x.side∧lG T
def qi (bs l:List Nat):Bool:=bs.all fun b=>l.all fun c=>!bI b c
def bef (ops:List Oper):Nat→Nat→Nat→Bool
 |0,_,_=>false
 |f+1,y,x=>match ops[y]? with
  |some o=>o.after.toList.any fun e=>Region.binds .any e && (bI e.on x || bef ops f e.on x)
  |none=>false
def uX (ops:List Oper) (x y:It):Bool :=
 y.o.after.toList.any (fun e=>Region.binds .any e && bI e.on x.i) || ((x.o.apart ops.toArray y.o && qi x.wb y.ft && qi y.wb x.ft) || bef ops 6 y.i x.i)
def fE (ops:List Oper):List It→Bool
 |[]=>true
 |x :: T=>T.all (uX ops x) && fE ops T
def cH:Nat→List Oper→List Bool→List Jt
 |i,o :: l,d :: ds=>⟨i,o,d⟩ :: cH (i+1) l ds
 |_,_,_=>[]
def zT:Nat→List Oper→Bool
 |_,[]=>true
 |i,o :: l=>o.after.toList.all (fun e=>!Region.binds .any e || dM (e.on+1) i) && zT (i+1) l
inductive Ex where
 |normal
 |exit (id:Nat)
 |ret
def ex (A:Ar) (cx:Cx) (L:Code→St→(Ex→St→Prop)→Prop):Code→St→(Ex→St→Prop)→Prop
 |.skip,s,K=>K .normal s
 |.region id ops draw,s,K=>qx A cx id ops.toList 0 ops.toList s fun T s'=>match draw && !(fE ops.toList T && zT 0 ops.toList) with
   |true=>False
   |false=>lG T∧K .normal s'
 |.seq a b,s,K=>ex A cx L a s (fun e s'=>match e with
  |.normal=>ex A cx L b s' K
  |e=>K e s')
 |.cond c a b,s,K=>match aF s c with
  | ⟨none,.sa (.one (.tf t))⟩=>match t with
   |true=>ex A cx L a s K
   |false=>ex A cx L b s K
  | ⟨none,.sa (.one (.val (.bool t)))⟩=>(t=false∨ex A cx L a s K)∧(t=true∨ex A cx L b s K)
  |_=>False
 |.block id c,s,K=>ex A cx L c s (fun e s'=>match e with
  |.exit i=>match bI i id with
   |true=>K .normal s'
   |false=>K (.exit i) s'
  |e=>K e s')
 |.exit id,s,K=>K (.exit id) s
 |.ret,s,K=>K .ret s
 |.loop c,s,K=>L c s K
 |_,_,_=>False
def BM (x:SA):SA :=
 match ba x with
 |[]=>.one .any
 |_=>x
def start (n:Nat) (args:List SA) (h:H):St:=⟨args.map Fu ++ List.replicate (n - args.length) bB.nil,h,args.map BM ++ (bN args h).map fun j=>.one (.own j)⟩
def NV (A:Ar) (cx:Cx) (st:St):ResultVar→Option (Prop × SA)
 |.tmp t=>match aF st (.tmp t) with
  | ⟨none,.sa x⟩=>some (True,x)
  |_=>none
 |.cell a t=>match aF st (.tmp a) with
  | ⟨none,.sa (.one (.ptr b off))⟩=>Dz A cx (ak st.heap b) off t
  |_=>none
def GD (A:Ar) (cx:Cx) (st:St):List ResultVar→Option (Prop × List SA)
 |[]=>some (True,[])
 |r :: l=>match NV A cx st r,GD A cx st l with
  |some (C,x),some (D,xs)=>some (C∧D,x :: xs)
  |_,_=>none
def fin (A:Ar) (cx:Cx) (rs:List ResultVar) (p:qm):Ex→St→Prop
 |.exit _,_=>False
 |_,st=>match GD A cx st rs with
  |some (C,xs)=>(match p.r,xs with
   |.sa _,[_]=>True
   |.bJ _,[_]=>False
   |.bJ _,_=>True
   |_,_=>False)∧C∧(St.mk (xs.map Fu) st.heap st.gs).le (St.mk (fO p.r) p.h p.as)
  |none=>False
end Go.Proofs.YtelhldgdnlppfaaGreat.Ry
