/-
  A reckoner of what a function's code makes of a symbolic state: gh,and blocks of cells that are the call's own;its rules. No condition.
-/
import Derived.WalkKit
import Derived.Below
import Derived.Scope
namespace Go.Proofs.YtelhldgdnlppfaaGreat.Ry
open Go
def bL (a b:Nat):Bool:=a == b
def ew (a b:Nat):Bool:=decide (a≤b)
@[simp] theorem jU {a b:Nat}:(bL a b=true)↔a=b:=by simp [bL]
@[simp] theorem QU {a b:Nat}:(bL a b=false)↔¬a=b:=by simp [bL]
@[simp] theorem QZ {a b:Nat}:(ew a b=true)↔a≤b:=by simp [ew]
@[simp] theorem aeH {a b:Nat}:(ew a b=false)↔b < a:=by simp [ew]
theorem aH {a b:Nat} (h:bL a b=true):a=b:=jU.1 h
theorem av {a b:Nat} (h:ew a b=true):a≤b:=QZ.1 h
@[simp] theorem cO (a:Nat):bL a a=true:=jU.2 rfl
inductive D where
 |int (n:Int)
 |bool (b:Bool)
 |str (l:List Int)
 |ints (l:List Int)
 |ae (l:List (List D))
abbrev E:=List D
def ri (x:E) (j:Nat):Int :=
 match x[j]? with
 |some (.int n)=>n
 |_=>0
def rb (x:E) (j:Nat):Bool :=
 match x[j]? with
 |some (.bool b)=>b
 |_=>false
def rs (x:E) (j:Nat):List Int :=
 match x[j]? with
 |some (.str l)=>l
 |_=>[]
def rl (x:E) (j:Nat):List Int :=
 match x[j]? with
 |some (.ints l)=>l
 |_=>[]
def rr (x:E) (j:Nat):List E :=
 match x[j]? with
 |some (.ae l)=>l
 |_=>[]
inductive Sh where
 |nil
 |int (k:IntKind) (r:Sh)
 |bool (r:Sh)
 |str (r:Sh)
 |ints (k:IntKind) (r:Sh)
 |ae (s:Sh) (r:Sh)
abbrev Sh.sqO:Sh:=.int .i64 (.int .i64 (.int .i64 (.int .i64 (.int .i64 (.int .i64 (.int .i64 (.ints .i64 (.ae (.int .i64 (.int .i64 (.int .i64 (.int .i64 (.bool .nil))))) (.int .i64 (.int .i64 (.int .i64 (.int .i64 .nil))))))))))))
abbrev Sh.iY:Sh:=.int .i64 (.int .i64 (.int .i64 (.int .i64 (.ints .i64 (.ae (.int .i64 (.int .i64 (.int .i64 (.int .i64 (.bool .nil))))) (.int .i64 (.int .i64 (.int .i64 (.int .i64 .nil)))))))))
abbrev Sh.eC:Sh:=.int .i64 (.int .i64 (.int .i64 (.int .i64 (.bool (.bool (.int .i64 .nil))))))
abbrev Sh.bg:Sh:=.int .i64 (.int .i64 (.int .i64 (.int .i64 (.bool .nil))))
abbrev Sh.pY:Sh:=.int .i64 (.int .i64 (.int .i64 .nil))
def Sh.size:Sh→Nat
 |.nil=>0
 |.int _ r=>r.size+1
 |.bool r=>r.size+1
 |.str r=>r.size+1
 |.ints _ r=>r.size+1
 |.ae _ r=>r.size+1
def Sh.drop:Sh→Nat→Sh
 |s,0=>s
 |.nil,_+1=>.nil
 |.int _ r,n+1=>r.drop n
 |.bool r,n+1=>r.drop n
 |.str r,n+1=>r.drop n
 |.ints _ r,n+1=>r.drop n
 |.ae _ r,n+1=>r.drop n
def Sh.zero:Sh→E
 |.nil=>[]
 |.int _ r=>.int 0 :: r.zero
 |.bool r=>.bool false :: r.zero
 |.str r=>.str [] :: r.zero
 |.ints _ r=>.ints [] :: r.zero
 |.ae _ r=>.ae [] :: r.zero
inductive Ct where
 |ints (k:IntKind) (l:List Int)
 |ae (s:Sh) (l:List E)
structure Ar where
 bin:BinOp→IntKind→Int→Int→Int
 cmp:BinOp→Int→Int→Bool
 conv:IntKind→Int→Int
 and:Bool→Bool→Bool
 not:Bool→Bool
 beq:Bool→Bool→Bool
 DU:Bool→Int→Int→Int
 adV:Bool→Bool→Bool→Bool
 fT:List Int→Int
 dN:List E→Int
 atI:List Int→Int→Int
 bh:List E→Int→E
 abf:List Int→Int→Int→List Int
 adF:List E→Int→Int→List E
 KC:List Int→List Int→List Int
 abg:List E→List E→List E
 Yl:List Int→Int→Int→List Int
 EJ:List E→Int→E→List E
 aeA:List Int→List Int→List Int
 adN:List E→List E→List E
 yI:Int→List Int
 Dq:Int→E→List E
 eqL:List Int→List Int→Bool
 Hv:List Int→List Int→Bool
 byt:List Int→List Int
 fits:Int→Int→Bool
 ri:E→Nat→Int
 rb:E→Nat→Bool
 rs:E→Nat→List Int
 rl:E→Nat→List Int
 rr:E→Nat→List E
 pL:List (Int × Int)→Int→Int
 uE:List (Int × Int)→Int→Bool
 vG:List (Int × Int)→Int→Int→List (Int × Int)
 YD:List (Int × Int)→Int
 adX:List Int→Int→List Int
 acA:E→List E→Int→List E
def pL (l:List (Int × Int)) (k:Int):Int :=
 match l.find? fun p=>p.1 == k with
 |some p=>p.2
 |none=>0
def uE (l:List (Int × Int)) (k:Int):Bool:=l.any fun p=>p.1 == k
def vG (l:List (Int × Int)) (k v:Int):List (Int × Int):=if uE l k=true then l.map fun p=>if p.1 == k then (k,v) else p else l ++ [(k,v)]
def aD:BinOp→IntKind→Int→Int→Int
 |.add,k,a,b=>k.wrap (a+b)
 |.sub,k,a,b=>k.wrap (a - b)
 |.mul,k,a,b=>k.wrap (a * b)
 |.quo,k,a,b=>k.wrap (a.tdiv b)
 |.rem,_,a,b=>a.tmod b
 |.shl,k,a,b=>k.wrap (a * 2 ^ (min b.toNat k.bits))
 |.shr,k,a,b=>a.fdiv (2 ^ (min b.toNat k.bits))
 |op,k,a,b=>bits op k a b
def aj:BinOp→Int→Int→Bool
 |.eql,a,b=>a == b
 |.neq,a,b=>a != b
 |.lss,a,b=>decide (a < b)
 |.leq,a,b=>decide (a≤b)
 |.gtr,a,b=>decide (a > b)
 |.geq,a,b=>decide (a≥b)
 |_,_,_=>false
def kd:List Int→List Int→Bool
 |_,[]=>false
 |[],_ :: _=>true
 |a :: x,b :: y=>decide (a < b) || (a == b && kd x y)
def Ar.aa:Ar where
 bin:=aD
 cmp:=aj
 conv k n:=k.wrap n
 and a b:=a && b
 not a:=!a
 beq a b:=a == b
 DU c a b:=if c then a else b
 adV c a b:=if c then a else b
 fT l:=l.length
 dN l:=l.length
 atI l i:=l.getD i.toNat 0
 bh l i:=l.getD i.toNat []
 abf l lo hi:=(l.take hi.toNat).drop lo.toNat
 adF l lo hi:=(l.take hi.toNat).drop lo.toNat
 KC l m:=l ++ m
 abg l m:=l ++ m
 Yl l i v:=l.set i.toNat v
 EJ l i v:=l.set i.toNat v
 aeA l m:=m.take l.length ++ l.drop m.length
 adN l m:=m.take l.length ++ l.drop m.length
 yI n:=List.replicate n.toNat 0
 Dq n x:=List.replicate n.toNat x
 eqL l m:=decide (l=m)
 Hv:=kd
 byt l:=l.map fun n=>((UInt8.ofNat n.toNat).toNat:Int)
 fits n b:=decide (n * b≤140737488355328)
 ri:=Ry.ri
 rb:=Ry.rb
 rs:=Ry.rs
 rl:=Ry.rl
 rr:=Ry.rr
 pL:=Ry.pL
 uE:=Ry.uE
 vG:=Ry.vG
 YD l:=l.length
 adX l i:=l.take i.toNat ++ List.replicate (l.length - i.toNat) 0
 acA z l i:=l.take i.toNat ++ List.replicate (l.length - i.toNat) z
def Ar.lit (A:Ar):Bool→Ar
 |true=>Ar.aa
 |false=>A
inductive SC where
 |any
 |val (v:Value)
 |num (k:IntKind) (n:Int)
 |tf (b:Bool)
 |ptr (n off:Nat)
 |fn (g n:Nat)
 |rv (n off:Nat)
 |zK (g n off:Nat)
 |vw (n:Nat) (l:Int)
 |str (l:List Int)
 |sl (tk:Option (Nat × TypeId)) (c:Ct)
 |own (n:Nat)
 |mp (n:Nat)
 |rp (n:Nat) (i:Int) (j:Nat)
 |Sc (k:IntKind) (n:Int)
 |Ki (s:Sh) (x:E) (j:Nat)
abbrev SC.ay (n:Int):SC:=.val (.int .i64 n)
abbrev SC.bK (b:Bool):SC:=.val (.bool b)
inductive SA where
 |one (c:SC)
 |agg (cs:List SC)
 |fo (c:Ct)
abbrev SA.sqi (n:Int):SA:=.one (.val (.int .i64 n))
inductive SV where
 |sa (x:SA)
 |cN (xs:List SA)
structure bD where
 g:Option Bool
 v:SV
inductive fk where
 |cells (ty:TypeId) (cs:List SC)
 |row (ty:TypeId) (c:Ct)
 |gz (c:Ct)
 |emp (ty:TypeId)
 |mp (l:List (Int × Int))
 |cA (d sz:Nat) (q:Int)
 |tok
 |dead
abbrev H:=List (Nat × fk)
def ar:H→Nat→Option fk
 |[],_=>none
 |(k,b) :: l,n=>match bL k n with
  |true=>some b
  |false=>ar l n
def aM:H→Nat→fk→H
 |[],n,b=>[(n,b)]
 |(k,c) :: l,n,b=>match bL k n with
  |true=>(k,b) :: l
  |false=>match ew n k with
   |true=>(n,b) :: (k,c) :: l
   |false=>(k,c) :: aM l n b
structure St where
 gh:List bD
 heap:H
 gs:List SA
def bD.nil:bD:=⟨none,.sa (.one .any)⟩
def bD.off:bD:=⟨some false,.sa (.one (.tf true))⟩
def bY (s:ByteArray):List Int:=s.data.toList.map fun b=>(b.toNat:Int)
def cellOf:Value→SC
 |.string s=>.str (bY s)
 |.int k n=>.num k n
 |.bool b=>.tf b
 |v=>.val v
def ofValue:Value→SA
 |.agg cs=>if cs.toList.all Value.oneCell' then .agg (cs.toList.map cellOf) else .one (.val (.agg cs))
 |v=>.one (cellOf v)
def aC (st:St):Operand→bD
 |.tmp t=>st.gh.getD t bD.nil
 |.const v=>⟨none,.sa (ofValue v)⟩
 |.func f=>⟨none,.sa (.one (.val (.func (.func f) #[] #[])))⟩
 |.global g=>⟨none,.sa (.one (.val (.pointer (some ⟨g,0,none⟩))))⟩
def need:Option Bool→Prop
 |none=>True
 |some b=>b=true
def Tg (A:Ar):Option Bool→Option Bool→Option Bool
 |none,g=>g
 |g,none=>g
 |some a,some b=>some (A.and a b)
def SC.int?:SC→Option (IntKind × Int)
 |.val (.int k n)=>some (k,n)
 |.num k n=>some (k,n)
 |_=>none
def SC.bool?:SC→Option Bool
 |.val (.bool b)=>some b
 |.tf b=>some b
 |_=>none
def SC.lit:SC→Bool
 |.num _ _ | .tf _=>true
 |_=>false
def ZE (l:Bool) (k:IntKind) (n:Int):SC :=
 match l with
 |true=>.num k n
 |false=>.val (.int k n)
def mkB (l:Bool) (b:Bool):SC :=
 match l with
 |true=>.tf b
 |false=>.val (.bool b)
def SC.uk:SC→SC
 |.num k n=>.val (.int k n)
 |.tf b=>.val (.bool b)
 |c=>c
inductive TK where
 |int (k:IntKind)
 |bool
 |struct (fields:List (Nat × Nat × Bool × List Nat))
 |array (len:Nat) (size:Nat) (agg:Bool)
 |slice (e:TypeId) (size:Nat)
 |str
 |ptr
 |tZ
 |other
structure TI where
 k:TK
 size:Nat
 zero:List Value
 eq:Bool
 flat:Option Sh
def TK.agg:TK→Bool
 |.struct _ | .array _ _ _=>true
 |_=>false
def eu (P:Program) (f:Field):Nat :=
 if f.name != "_" then
  match P.underlying f.type with
  |some (.int _)=>1
  |some .bool=>2
  |_=>0
 else 0
def fh (P:Program) (f:Field):List Nat :=
 if !bL (eu P f) 0 then [eu P f]
 else match P.underlying f.type with
  | some (.struct gs) => if f.name != "_" && gs.toList.all (fun g => !bL (eu P g) 0) && (gs.toList.map (·.offset) == List.range gs.size) && !P.stoodInHeld f.type && bL (P.cellsOf f.type) gs.size && (P.info? f.type).isSome then gs.toList.map (eu P) else []
  |_=>[]
def kZ (P:Program) (t:TypeId):Bool :=
 match P.underlying t with
 |some (.struct _)|some (.array _ _)=>true
 |_=>false
def zk:Value→Option Sh
 |.int k _=>some (.int k .nil)
 |.bool _=>some (.bool .nil)
 |_=>none
def zIs:Sh→Value→Bool
 |.int k .nil,.int k' n=>bL k.ctorIdx k'.ctorIdx && n == 0
 |.bool .nil,.bool b=>!b
 |_,_=>false
def xz (z:List Value):Option Sh :=
 match z with
 |[]=>none
 |v :: l=>match zk v with
  |some s=>if (v :: l).all (zIs s) then some s else none
  |none=>none
def Fh (A:Ar) (n:Int):Sh→Ct
 |.int k _=>.ints k (A.yI n)
 |s=>.ae s (A.Dq n s.zero)
def Nj (P:Program) (t e:TypeId):Bool :=
 (match P.underlying e with
 |some (.int _)=>true
 |_=>false) && bL (P.cellsOf e) 1 && !P.eqGuardType P.depth t
def uM (P:Program) (e:TypeId):Bool :=
 match P.info? e with
 |some i=>match i.zero with
  |some (.int .i64 n)=>n == 0
  |_=>false
 |none=>false
def ZF (P:Program) (k e:TypeId) (n:Nat) (z:List Value):Option TI :=
 match P.underlying k,P.underlying e,uM P e with
 |some (.int .i64),some (.int .i64),true=>some ⟨.tZ,n,z,false,none⟩
 |_,_,_=>some ⟨.other,n,z,false,none⟩
def fp (P:Program) (t:TypeId):Option TI :=
 match P.info? t with
 |some i=>match i.zero with
  |some z=>match P.underlying t with
   |some (.int k)=>some ⟨.int k,i.size,z.cells.toList,false,none⟩
   |some .bool=>some ⟨.bool,i.size,z.cells.toList,false,none⟩
   |some (.struct fs)=>if fs.toList.all fun f=>(P.underlying f.type).isSome then some ⟨.struct (fs.toList.map fun f=>(f.offset,P.cellsOf f.type,kZ P f.type,fh P f)),i.size,z.cells.toList,
     fs.toList.all (fun f=>!(fh P f).isEmpty) && fs.toList.dropLast.all (fun f=>!bL (eu P f) 0) && (fs.toList.map (·.offset) == List.range fs.size) && !P.stoodInHeld t && !P.eqGuardType P.depth t,none⟩ else none
   |some (.array n e)=>if (P.underlying e).isSome then some ⟨.array n (P.cellsOf e) (kZ P e),i.size,z.cells.toList,Nj P t e,xz z.cells.toList⟩ else none
   |some (.slice e)=>if (P.underlying e).isSome then some ⟨.slice e (P.cellsOf e),i.size,z.cells.toList,false,none⟩ else none
   |some .string=>some ⟨.str,i.size,z.cells.toList,false,none⟩
   |some (.pointer _)=>some ⟨.ptr,i.size,z.cells.toList,false,none⟩
   |some (.map k e)=>ZF P k e i.size z.cells.toList
   |some _=>some ⟨.other,i.size,z.cells.toList,false,none⟩
   |none=>none
  |none=>none
 |none=>none
structure qK where
 C:Prop
 r:SV
 h:H
 as:List SA
abbrev aO:=List SA→H→Option qK
structure Cx where
 tt:List (Nat × TI)
 fs:List (Nat × aO)
 hs:List (Nat × Ct)
 bs:List (Nat × Nat)
def look {α:Type}:List (Nat × α)→Nat→Option α
 |[],_=>none
 |(k,a) :: l,t=>match bL k t with
  |true=>some a
  |false=>look l t
structure cE where
 side:Prop
 ent:bD
 jq:List (Nat × fk)
def fi (cs:List SC) (off n:Nat):Option (List SC) :=
 match ew (off+n) cs.length with
 |true=>some ((cs.drop off).take n)
 |false=>none
def fC:List SC→Nat→List SC→List SC
 |cs,_,[]=>cs
 |cs,off,x :: xs=>fC (cs.set off x) (off+1) xs
def NL:SC→Prop
 |.any=>False
 |.val v=>v.oneCell' = true
 |_=>True
def SA.cells:SA→List SC
 |.one c=>[c]
 |.agg cs=>cs
 |.fo _=>[]
def SA.side:SA→Prop
 |.one c=>NL c
 |.agg _=>True
 |.fo _=>False
def ints:BinOp→Bool
 |.add | .sub | .mul | .and | .or | .xor | .andNot=>true
 |_=>false
def adl:BinOp→Bool
 |.eql | .neq | .lss | .leq | .gtr | .geq=>true
 |_=>false
def dr:IntKind→IntKind→Bool:=fun a b=>bL a.ctorIdx b.ctorIdx
def ig (A:Ar):Nat→SC→SC→Option Bool
 |1,c,d=>match c.int?,d.int? with
  |some (k,a),some (k',b)=>match dr k k' with
   |true=>some (A.cmp .eql a b)
   |false=>none
  |_,_=>none
 |2,c,d=>match c.bool?,d.bool? with
  |some a,some b=>some (A.beq a b)
  |_,_=>none
 |_,_,_=>none
def bz (A:Ar):List Nat→List SC→List SC→Option Bool
 |[],[],[]=>some true
 |k :: ks,c :: cs,d :: ds =>
  match ig A k c d,bz A ks cs ds with
  |some a,some r=>some (match ks with
   |[]=>a
   |_ :: _=>A.and a r)
  |_,_=>none
 |_,_,_=>none
def cq (s:Prop) (c:SC):Option cE:=some ⟨s,⟨none,.sa (.one c)⟩,[]⟩
def wY (h:H):SC→SC→Option Bool
 |.val (.pointer none),.val (.pointer none)=>some true
 |.ptr n _,.val (.pointer none)=>match ar h n with
  |some (.cells _ _)|some (.row _ _)=>some false
  |_=>none
 |_,_=>none
def Ct.len (A:Ar):Ct→Int
 |.ints _ l=>A.fT l
 |.ae _ l=>A.dN l
def Zm (A:Ar):SC→SC→Option (Prop × Bool)
 |.val (.slice none 0 0),.val (.slice none 0 0)=>some (True,true)
 |.sl _ c,.val (.slice none 0 0)=>some (A.cmp .gtr (c.len A) 0=true,false)
 |_,_=>none
def uH (A:Ar) (cx:Cx) (h:H) (op:BinOp) (xt:TypeId) (s:Prop) (a b:SC):Option cE :=
 match a.int?,b.int? with
 |some (k,m),some (k',n) =>
  match op with
  |.shl | .shr=>cq (s∧(A.lit b.lit).cmp .lss n 0=false) (ZE (a.lit && b.lit) k ((A.lit (a.lit && b.lit)).bin op k m n))
  |.quo | .rem=>match dr k k' with
   |true=>cq (s∧(A.lit b.lit).cmp .eql n 0=false) (ZE (a.lit && b.lit) k ((A.lit (a.lit && b.lit)).bin op k m n))
   |false=>none
  |_=>match dr k k' with
   |true=>match ints op with
    |true=>cq s (ZE (a.lit && b.lit) k ((A.lit (a.lit && b.lit)).bin op k m n))
    |false=>match adl op with
     |true=>cq s (mkB (a.lit && b.lit) ((A.lit (a.lit && b.lit)).cmp op m n))
     |false=>none
   |false=>none
 |_,_=>match a.bool?,b.bool? with
  |some x,some y=>match look cx.tt xt with
   |some ⟨.bool,_,_,_,_⟩=>match op with
    |.eql=>cq s (mkB (a.lit && b.lit) ((A.lit (a.lit && b.lit)).beq x y))
    |.neq=>cq s (mkB (a.lit && b.lit) ((A.lit (a.lit && b.lit)).not ((A.lit (a.lit && b.lit)).beq x y)))
    |_=>none
   |_=>none
  |_,_=>match a,b with
   |.str l,.str m=>match op with
    |.eql=>cq s (.val (.bool (A.eqL l m)))
    |.neq=>cq s (.val (.bool (A.not (A.eqL l m))))
    |.add=>cq (s∧A.fits (A.fT (A.KC l m)) 1=true) (.str (A.KC l m))
    |.lss=>cq s (.val (.bool (A.Hv l m)))
    |.gtr=>cq s (.val (.bool (A.Hv m l)))
    |.leq=>cq s (.val (.bool (A.not (A.Hv m l))))
    |.geq=>cq s (.val (.bool (A.not (A.Hv l m))))
    |_=>none
   |_,_=>match wY h a b,look cx.tt xt with
    |some r,some ⟨.ptr,_,_,_,_⟩=>match op with
     |.eql=>cq s (.tf r)
     |.neq=>cq s (.tf (!r))
     |_=>none
    |_,some ⟨.slice _ _,_,_,_,_⟩=>match Zm A a b with
     |some (q,r)=>match op with
      |.eql=>cq (s∧q) (.tf r)
      |.neq=>cq (s∧q) (.tf (!r))
      |_=>none
     |none=>none
    |_,_=>none
def nU (A:Ar) (cx:Cx) (h:H) (op:BinOp) (xt:TypeId) (x y:bD):Option cE :=
 match x.v,y.v with
 |.sa (.one a),.sa (.one b)=>uH A cx h op xt (need x.g∧need y.g) a b
 |.sa (.agg xs),.sa (.agg ys) =>
  match look cx.tt xt with
  |some ⟨.struct fs,_,_,true,_⟩ =>
   match bz A (fs.flatMap fun f=>f.2.2.2) xs ys with
   |some r =>
    match op with
    |.eql=>cq (need x.g∧need y.g) (.val (.bool r))
    |.neq=>cq (need x.g∧need y.g) (.val (.bool (A.not r)))
    |_=>none
   |none=>none
  |some ⟨.array n _ _,_,_,true,_⟩ =>
   match bz A (List.replicate n 1) xs ys with
   |some r =>
    match op with
    |.eql=>cq (need x.g∧need y.g) (.val (.bool r))
    |.neq=>cq (need x.g∧need y.g) (.val (.bool (A.not r)))
    |_=>none
   |none=>none
  |_=>none
 |_,_=>none
def PS (A:Ar) (c:Bool) (a b:SC):Option SC :=
 match a.int?,b.int? with
 |some (k,m),some (k',n)=>match dr k k' with
  |true=>some (.val (.int k (A.DU c m n)))
  |false=>none
 |_,_=>match a.bool?,b.bool? with
  |some m,some n=>some (.val (.bool (A.adV c m n)))
  |_,_=>none
def rV (A:Ar) (c a b:bD):Option cE :=
 match c with
 | ⟨g,.sa (.one (.tf t))⟩=>match t with
  |true=>some ⟨need g∧need a.g,⟨none,a.v⟩,[]⟩
  |false=>some ⟨need g∧need b.g,⟨none,b.v⟩,[]⟩
 | ⟨g,.sa (.one (.val (.bool t)))⟩=>match a,b with
  | ⟨ga,.sa (.one x)⟩,⟨gb,.sa (.one y)⟩=>match PS A t x y with
   |some v=>cq (need g∧(t=false∨need ga)∧(t=true∨need gb)) v
   |none=>match x,y with
    |.any,y=>some ⟨need g∧t=false∧need gb,⟨none,.sa (.one y)⟩,[]⟩
    |x,.any=>some ⟨need g∧t=true∧need ga,⟨none,.sa (.one x)⟩,[]⟩
    |_,_=>none
  |_,_=>none
 |_=>none
def Dg:List bD→Option (List SA)
 |[]=>some []
 | ⟨_,.sa x⟩ :: l=>match Dg l with
  |some xs=>some (x :: xs)
  |none=>none
 |_=>none
def eP:List bD→Prop
 |[]=>True
 |[e]=>need e.g
 |e :: l=>need e.g∧eP l
def BQ (place:Nat→Option (Nat × Nat)) (cells:List SC):List (Nat × SA)→Option (List SC)
 |[]=>some cells
 |(i,v) :: rest =>
  match place i with
  |none=>none
  |some (off,size)=>match bL v.cells.length size && ew (off+size) cells.length with
   |true=>BQ place (fC cells off v.cells) rest
   |false=>none
def eG:List SA→Prop
 |[]=>True
 |[x]=>x.side
 |x :: l=>x.side∧eG l
def nS (A:Ar) (op:BinOp):Int→List SA→IntKind→Option Int
 |a,[],_=>some a
 |a,.one c :: l,k0=>match c.int? with
  |some (k,b)=>match dr k k0 with
   |true=>nS A op (A.DU (A.cmp op b a) b a) l k0
   |false=>none
  |none=>none
 |_,_,_=>none
def eE (A:Ar):Sh→E→Nat→Nat→List SC
 |_,_,_,0=>[]
 |.nil,_,_,_+1=>[]
 |.int k r,x,j,n+1=>.val (.int k (A.ri x j)) :: eE A r x (j+1) n
 |.bool r,x,j,n+1=>.val (.bool (A.rb x j)) :: eE A r x (j+1) n
 |.str r,x,j,n+1=>.str (A.rs x j) :: eE A r x (j+1) n
 |.ints k r,x,j,n+1=>.sl none (.ints k (A.rl x j)) :: eE A r x (j+1) n
 |.ae s r,x,j,n+1=>.sl none (.ae s (A.rr x j)) :: eE A r x (j+1) n
def Ct.sz:Ct→Nat
 |.ints _ _=>1
 |.ae s _=>s.size
def Ct.cut (A:Ar):Ct→Int→Int→Ct
 |.ints k l,lo,hi=>.ints k (A.abf l lo hi)
 |.ae s l,lo,hi=>.ae s (A.adF l lo hi)
def fI:Ct→Ct
 |.ints k _=>.ints k []
 |.ae s _=>.ae s []
def Ct.rep (A:Ar) (n:Int):Ct→Ct
 |.ints k _=>.ints k (A.yI n)
 |.ae s _=>.ae s (A.Dq n s.zero)
def Ct.at (A:Ar):Ct→Int→Nat→Nat→List SC
 |.ints k l,i,_,n=>match n with
  |0=>[]
  |_+1=>[.val (.int k (A.atI l i))]
 |.ae s l,i,j,n=>eE A (s.drop j) (A.bh l i) j n
def Iz (A:Ar) (cx:Cx) (jq:Option fk) (off:Nat) (t:TypeId):Option (Prop × SA) :=
 match look cx.tt t,jq with
 |some ti,some (.cells _ bc)=>match ti.k.agg with
  |true=>match fi bc off ti.size with
   |some cs=>some (True,.agg cs)
   |none=>none
  |false=>match fi bc off 1 with
   |some [c]=>some (True,.one c)
   |_=>none
 |some ti,some (.row _ c)=>match ti.k.agg && (bL c.sz 1 && bL off 0) with
  |true=>some (A.cmp .eql (c.len A) ti.size=true,.fo c)
  |false=>none
 |_,_=>none
def sE (st:St) (d:Int):Option Operand→Option (Option Bool × Int)
 |none=>some (none,d)
 |some x=>match aC st x with
  | ⟨g,.sa (.one c)⟩=>match c.int? with
   |some (_,i)=>some (g,i)
   |none=>none
  |_=>none
def iu:Sh→Sh→Bool
 |.nil,.nil=>true
 |.int k r,.int k' r'=>dr k k' && iu r r'
 |.bool r,.bool r'=>iu r r'
 |.str r,.str r'=>iu r r'
 |.ints k r,.ints k' r'=>dr k k' && iu r r'
 |.ae s r,.ae s' r'=>iu s s' && iu r r'
 |_,_=>false
def toD:Sh→SC→Option (D × Sh)
 |.int k r,c=>match c.int? with
  |some (k',n)=>match dr k k' with
   |true=>some (.int n,r)
   |false=>none
  |none=>none
 |.bool r,c=>match c.bool? with
  |some b=>some (.bool b,r)
  |none=>none
 |.str r,.str l=>some (.str l,r)
 |.ints k r,.sl _ (.ints k' l)=>match dr k k' with
  |true=>some (.ints l,r)
  |false=>none
 |.ints _ r,.val (.slice none 0 0)=>some (.ints [],r)
 |.ae s r,.sl _ (.ae s' l)=>match iu s s' with
  |true=>some (.ae l,r)
  |false=>none
 |.ae _ r,.val (.slice none 0 0)=>some (.ae [],r)
 |_,_=>none
def Rz:Sh→List SC→Option E
 |.nil,[]=>some []
 |s,c :: cs=>match toD s c with
  |some (d,r)=>match Rz r cs with
   |some x=>some (d :: x)
   |none=>none
  |none=>none
 |_,_=>none
def TL (s:Sh):List SA→Option (List E)
 |[]=>some []
 |v :: l=>match Rz s v.cells,TL s l with
  |some x,some xs=>some (x :: xs)
  |_,_=>none
def RW (k:IntKind):List SA→Option (List Int)
 |[]=>some []
 |.one c :: l=>match c.int? with
  |some (k',n)=>match dr k k' with
   |true=>match RW k l with
    |some ns=>some (n :: ns)
    |none=>none
   |false=>none
  |none=>none
 |_=>none
def aaz (h:Option Ct) (sz:Nat) (vs:List SA):Option Ct :=
 match h with
 |some (.ints k _)=>match bL sz 1 with
  |true=>match RW k vs with
   |some l=>some (.ints k l)
   |none=>none
  |false=>none
 |some (.ae s _)=>match bL s.size sz with
  |true=>match TL s vs with
   |some l=>some (.ae s l)
   |none=>none
  |false=>none
 |none=>none
def cH (h:H) (d:Nat):Bool :=
 match ar h d with
 |none=>true
 |some _=>false
def idxs:List Nat→Nat→Nat→Bool
 |[],k,n=>bL k n
 |i :: l,k,n=>bL i k && idxs l (k+1) n
def fE (u:Nat):Nat:=1000000000+u
def dP (f:Nat):Nat:=1000000+f
def bU (u:Nat):Nat:=1000 * (u+1)
def kX (h:H) (id:Nat):Bool :=
 match ar h id with
 |some .tok=>true
 |_=>false
def dj (A:Ar):Ct→Ct→Option Ct
 |.ints k l,.ints k' m=>match dr k k' with
  |true=>some (.ints k (A.KC l m))
  |false=>none
 |.ae s l,.ae s' m=>match iu s s' with
  |true=>some (.ae s (A.abg l m))
  |false=>none
 |_,_=>none
def kJ (h:H):SC→Option Ct
 |.sl _ c=>some c
 |.own n=>match ar h n with
  |some (.row _ c)=>some c
  |some (.gz c)=>some c
  |_=>none
 |_=>none
def eM (h:H) (c1:Ct):SC→Option Ct
 |.val (.slice none 0 0)=>some (fI c1)
 |c=>kJ h c
def rF (cx:Cx) (h:H) (t e:TypeId):SC→Option (List (Nat × fk) × Ct)
 |.sl (some (id,e')) c1=>match kX h id && bL e e' with
  |true=>some ([(id,.dead)],c1)
  |false=>none
 |.val (.slice none 0 0)=>match look cx.hs t with
  |some c=>some ([],fI c)
  |none=>none
 |_=>none
def oz (h:H) (e:TypeId):SC→Option Nat
 |.own n=>match ar h n with
  |some (.emp e')=>match bL e e' with
   |true=>some n
   |false=>none
  |_=>none
 |_=>none
def jV (A:Ar) (cx:Cx) (h:H) (u n:Nat) (t t' : TypeId):bD→bD→Option cE
 | ⟨gx,_⟩,⟨gy,.sa (.one y)⟩ =>
  match look cx.tt t with
  |some ⟨.slice e sz,_,_,_,_⟩=>match look cx.tt e,look cx.bs e,look cx.hs t with
   |some te,some b,some c=>match eM h (fI c) y with
     |some c2=>match dj A (fI c) c2 with
      |some ct=>match bL te.size sz && (bL t t' && (cH h (bU u) && (ew 1 sz && (ew 1 b && bL c.sz sz)))) with
       |true=>some ⟨need gx∧need gy∧A.fits (ct.len A) b=true,⟨none,.sa (.one (.own (bU u)))⟩,[(n,.dead),(bU u,.row e ct)]⟩
       |false=>none
      |none=>none
     |none=>none
   |_,_,_=>none
  |_=>none
 |_,_=>none
def ownRow (h:H) (e:TypeId):SC→Option (Nat × Ct)
 |.own n=>match ar h n with
  |some (.row e' c)=>match bL e e' with
   |true=>some (n,c)
   |false=>none
  |_=>none
 |_=>none
def jO (A:Ar) (cx:Cx) (h:H) (u n:Nat) (c1:Ct) (t t' : TypeId):bD→bD→Option cE
 | ⟨gx,_⟩,⟨gy,.sa (.one y)⟩ =>
  match look cx.tt t with
  |some ⟨.slice e sz,_,_,_,_⟩=>match look cx.tt e,look cx.bs e with
   |some te,some b=>match eM h c1 y with
     |some c2=>match dj A c1 c2 with
      |some ct=>match bL te.size sz && (bL t t' && (cH h (bU u) && (ew 1 sz && (ew 1 b && bL c1.sz sz)))) with
       |true=>some ⟨need gx∧need gy∧A.fits (ct.len A) b=true,⟨none,.sa (.one (.own (bU u)))⟩,[(n,.dead),(bU u,.row e ct)]⟩
       |false=>none
      |none=>none
     |none=>none
   |_,_=>none
  |_=>none
 |_,_=>none
def jD (A:Ar) (cx:Cx) (h:H) (u:Nat) (t t' : TypeId):bD→bD→Option cE
 | ⟨gx,.sa (.one (.val (.slice none 0 0)))⟩,⟨gy,.sa (.one y)⟩ =>
  match look cx.tt t with
  |some ⟨.slice e sz,_,_,_,_⟩=>match look cx.tt e,look cx.bs e,look cx.hs t with
   |some te,some b,some c=>match eM h (fI c) y with
     |some c2=>match dj A (fI c) c2 with
      |some ct=>match bL te.size sz && (bL t t' && (cH h (bU u) && (ew 1 sz && (ew 1 b && bL c.sz sz)))) with
       |true=>some ⟨need gx∧need gy∧A.fits (ct.len A) b=true,⟨none,.sa (.one (.own (bU u)))⟩,[(bU u,.row e ct)]⟩
       |false=>none
      |none=>none
     |none=>none
   |_,_,_=>none
  |_=>none
 |_,_=>none
def ny (A:Ar) (cx:Cx) (h:H) (u:Nat) (t t' : TypeId):bD→bD→Option cE
 | ⟨gx,.sa (.one x)⟩,⟨gy,.sa (.one y)⟩ =>
  match look cx.tt t with
  |some ⟨.slice e sz,_,_,_,_⟩=>match look cx.tt e,look cx.bs e with
   |some te,some b =>
    match rF cx h t e x with
    |some (kill,c1)=>match eM h c1 y with
     |some c2=>match dj A c1 c2 with
      |some ct=>match bL te.size sz && (bL t t' && (cH h (bU u) && (ew 1 sz && (ew 1 b && bL c1.sz sz)))) with
       |true=>some ⟨need gx∧need gy∧A.fits (ct.len A) b=true,⟨none,.sa (.one (.sl (some (bU u,e)) ct))⟩,kill ++ [(bU u,.tok)]⟩
       |false=>none
      |none=>none
     |none=>none
    |none=>none
   |_,_=>none
  |_=>none
 |_,_=>none
def Ly (A:Ar):Ct→Ct→Option Ct
 |.ints k l,.ints k' m=>match dr k k' with
  |true=>some (.ints k (A.aeA l m))
  |false=>none
 |.ae s l,.ae s' m=>match iu s s' with
  |true=>some (.ae s (A.adN l m))
  |false=>none
 |_,_=>none
def Pv (n:Nat):SC→Bool
 |.own k=>!bL k n
 |_=>true
def jy (A:Ar) (cx:Cx) (h:H) (t:TypeId):bD→bD→Option cE
 | ⟨gx,.sa (.one (.own n))⟩,⟨gy,.sa (.one y)⟩ =>
  match look cx.tt t,ar h n with
  |some ⟨.slice _ sz,_,_,_,_⟩,some (.row bt c)=>match eM h c y with
   |some c2=>match Ly A c c2 with
    |some c'=>match bL c.sz sz && Pv n y with
     |true=>some ⟨need gx∧need gy,⟨none,.sa (.one (.val (.int .i64 (A.DU (A.cmp .lss (c2.len A) (c.len A)) (c2.len A) (c.len A)))))⟩,[(n,.row bt c')]⟩
     |false=>none
    |none=>none
   |none=>none
  |_,_=>none
 |_,_=>none
def OL (A:Ar) (c:Ct) (i:Int) (j:Nat) (v:SA):Option Ct :=
 match c with
 |.ints k l=>match v with
  |.one x=>match x.int? with
   |some (k',n)=>match dr k k' with
    |true=>some (.ints k (A.Yl l i n))
    |false=>none
   |none=>none
  |_=>none
 |.ae s l=>match ew (j+v.cells.length) s.size with
  |true=>match Rz s (fC (eE A s (A.bh l i) 0 s.size) j v.cells) with
   |some x=>some (.ae s (A.EJ l i x))
   |none=>none
  |false=>none
def bo:SC→List Nat
 |.ptr n _ | .own n | .rp n _ _ | .sl (some (n,_)) _ | .fn _ n | .mp n | .rv n _ | .zK _ n _ | .vw n _=>[n]
 |_=>[]
def bf:SA→List Nat
 |.one c=>bo c
 |.agg cs=>cs.flatMap bo
 |.fo _=>[]
def bn (e:bD):List Nat :=
 match e.v with
 |.sa x=>bf x
 |.cN xs=>xs.flatMap bf
def abJ:Option fk→List Nat
 |some (.cells _ cs)=>cs.flatMap bo
 |_=>[]
def nP (n:Nat) (l:List Nat):Bool:=l.any (bL n)
def reach:Nat→H→List Nat→List Nat→List Nat
 |0,_,_,seen=>seen
 |_+1,_,[],seen=>seen
 |f+1,h,n :: l,seen=>match nP n seen with
  |true=>reach f h l seen
  |false=>reach f h (abJ (ar h n) ++ l) (seen ++ [n])
def nV (m:List (Nat × Nat)):SC→Option SC
 |.ptr n o=>match look m n with
  |some i=>some (.ptr i o)
  |none=>none
 |.fn g n=>match look m n with
  |some i=>some (.fn g i)
  |none=>none
 |.own n=>match look m n with
  |some i=>some (.own i)
  |none=>none
 |.mp n=>match look m n with
  |some i=>some (.mp i)
  |none=>none
 |.sl (some (n,e)) c=>match look m n with
  |some i=>some (.sl (some (i,e)) c)
  |none=>none
 |.rp n x j=>match look m n with
  |some i=>some (.rp i x j)
  |none=>none
 |.rv n o=>match look m n with
  |some i=>some (.rv i o)
  |none=>none
 |.zK g n o=>match look m n with
  |some i=>some (.zK g i o)
  |none=>none
 |.vw _ _=>none
 |c=>some c.uk
def uq (m:List (Nat × Nat)):List SC→Option (List SC)
 |[]=>some []
 |c :: l=>match nV m c,uq m l with
  |some x,some xs=>some (x :: xs)
  |_,_=>none
def Zh (m:List (Nat × Nat)):SA→Option SA
 |.one c=>match nV m c with
  |some x=>some (.one x)
  |none=>none
 |.agg cs=>match uq m cs with
  |some xs=>some (.agg xs)
  |none=>none
 |.fo c=>some (.fo c)
def CC (m:List (Nat × Nat)):List SA→Option (List SA)
 |[]=>some []
 |c :: l=>match Zh m c,CC m l with
  |some x,some xs=>some (x :: xs)
  |_,_=>none
def NH (m:List (Nat × Nat)):SV→Option SV
 |.sa x=>match Zh m x with
  |some y=>some (.sa y)
  |none=>none
 |.cN xs=>match CC m xs with
  |some ys=>some (.cN ys)
  |none=>none
def JV (m:List (Nat × Nat)):fk→Option fk
 |.cells t cs=>match uq m cs with
  |some xs=>some (.cells t xs)
  |none=>none
 |b=>some b
def ou (m:List (Nat × Nat)) (h:H):List Nat→Option H
 |[]=>some []
 |n :: l=>match look m n,ar h n,ou m h l with
  |some i,some b,some r=>match JV m b with
   |some b'=>some ((i,b') :: r)
   |none=>none
  |_,_,_=>none
def bO:Nat→List Nat→List (Nat × Nat)
 |_,[]=>[]
 |i,n :: l=>(n,i) :: bO (i+1) l
def bR (m:List (Nat × Nat)):List (Nat × Nat):=m.map fun p=>(p.2,p.1)
def nu (h:H):SC→Option SC
 |.ptr _ _ | .rp _ _ _ | .fn _ _ | .mp _ | .rv _ _ | .zK _ _ _ | .vw _ _=>none
 |.own n=>match ar h n with
  |some (.row _ c)|some (.gz c)=>some (.sl none c)
  |_=>none
 |.sl _ c=>some (.sl none c)
 |c=>some c.uk
def kb (h:H):List SC→Option (List SC)
 |[]=>some []
 |c :: l=>match nu h c,kb h l with
  |some x,some xs=>some (x :: xs)
  |_,_=>none
def lg (h:H):SA→Option SA
 |.one c=>match nu h c with
  |some x=>some (.one x)
  |none=>none
 |.agg cs=>match kb h cs with
  |some xs=>some (.agg xs)
  |none=>none
 |.fo c=>some (.fo c)
def fO (h:H):List SA→Option (List SA)
 |[]=>some []
 |c :: l=>match lg h c,fO h l with
  |some x,some xs=>some (x :: xs)
  |_,_=>none
def rowsOf (h:H):List Nat→H
 |[]=>[]
 |n :: l=>match ar h n with
  |some (.row _ c)=>(n,.gz c) :: rowsOf h l
  |_=>rowsOf h l
def mC:SC→SC→List (Nat × Nat)
 |.ptr k _,.ptr i _=>[(i,k)]
 |.fn _ k,.fn _ i=>[(i,k)]
 |.own k,.own i=>[(i,k)]
 |.mp k,.mp i=>[(i,k)]
 |.sl (some (k,_)) _,.sl (some (i,_)) _=>[(i,k)]
 |.rp k _ _,.rp i _ _=>[(i,k)]
 |.rv k _,.rv i _=>[(i,k)]
 |.zK _ k _,.zK _ i _=>[(i,k)]
 |_,_=>[]
def mCs:List SC→List SC→List (Nat × Nat)
 |c :: cs,d :: ds=>mC c d ++ mCs cs ds
 |_,_=>[]
def mA:SA→SA→List (Nat × Nat)
 |.one c,.one d=>mC c d
 |.agg cs,.agg ds=>mCs cs ds
 |_,_=>[]
def mAs:List SA→List SA→List (Nat × Nat)
 |c :: cs,d :: ds=>mA c d ++ mAs cs ds
 |_,_=>[]
def mE (x y:bD):List (Nat × Nat) :=
 match x.v,y.v with
 |.sa a,.sa b=>mA a b
 |_,_=>[]
def mEs:List bD→List bD→List (Nat × Nat)
 |c :: cs,d :: ds=>mE c d ++ mEs cs ds
 |_,_=>[]
def mB:Option fk→Option fk→List (Nat × Nat)
 |some (.cells _ cs),some (.cells _ ds)=>mCs cs ds
 |_,_=>[]
def close (h h' : H):Nat→List (Nat × Nat)→List (Nat × Nat)→List (Nat × Nat)
 |0,_,acc=>acc
 |_+1,[],acc=>acc
 |f+1,(i,k) :: w,acc=>match look acc i with
  |some _=>close h h' f w acc
  |none=>close h h' f (w ++ mB (ar h k) (ar h' i)) (acc ++ [(i,k)])
def pe (m:List (Nat × Nat)) (i k:Nat):Bool :=
 match look m i with
 |some n=>bL n k
 |none=>false
def vU:Ct→Ct→Prop
 |.ints k l,.ints k' l'=>k=k'∧l=l'
 |.ae s l,.ae s' l'=>s=s'∧l=l'
 |_,_=>False
def Ct.wL:Ct→Prop
 |.ints _ l=>l=[]
 |.ae _ l=>l=[]
def wz:fk→Prop
 |.tok=>True
 |.row _ c=>c.wL
 |_=>False
def UM:Option fk→Prop
 |some (.row _ c)=>c.wL
 |_=>False
def hasB (h:H) (b:Nat):Bool :=
 match ar h b with
 |some (.cells _ _)|some (.row _ _)=>true
 |_=>false
def dL (h:H) (b:Nat):Bool :=
 match ar h b with
 |some (.row _ _)=>true
 |_=>false
def adM (h:H) (b:Nat):Bool :=
 match ar h b with
 |some (.mp _)=>true
 |_=>false
def yn (m:List (Nat × Nat)) (i:Nat):Bool :=
 match look m i with
 |some _=>false
 |none=>true
structure Mt where
 m:List (Nat × Nat)
 h:H
 h' : H
 ks:List Nat
 fr:Bool
def SC.le (M:Mt):SC→SC→Prop
 |_,.any=>True
 |.val u,.val v=>u=v
 |.num k n,.num k' n'=>k=k'∧n=n'
 |.num k n,.val (.int k' n')=>k=k'∧n=n'
 |.tf b,.tf b'=>b=b'
 |.tf b,.val (.bool b')=>b=b'
 |.val (.slice none 0 0),.sl none c=>c.wL
 |.val (.slice none 0 0),.sl (some (i,_)) c=>c.wL∧yn M.m i=true∧kX M.h' i=true
 |.val (.slice none 0 0),.own i=>yn M.m i=true∧UM (ar M.h' i)
 |.ptr b o,.ptr b' o'=>pe M.m b' b=true∧hasB M.h' b' = true∧o=o'
 |.fn g b,.fn g' b'=>pe M.m b' b=true∧hasB M.h' b' = true∧g=g'
 |.own b,.own b'=>pe M.m b' b=true∧dL M.h' b' = true
 |.mp b,.mp b'=>pe M.m b' b=true∧adM M.h' b' = true
 |.rp b i j,.rp b' i' j'=>pe M.m b' b=true∧dL M.h' b' = true∧i=i'∧j=j'
 |.rv b o,.rv b' o'=>pe M.m b' b=true∧hasB M.h' b' = true∧o=o'
 |.zK g b o,.zK g' b' o'=>pe M.m b' b=true∧hasB M.h' b' = true∧g=g'∧o=o'
 |.own b,.sl none c=>match ar M.h b with
  |some (.row _ c0)=>(M.fr && !nP b M.ks)=true∧vU c0 c
  |some (.gz c0)=>vU c0 c
  |_=>False
 |.str l,.str l'=>l=l'
 |.sl (some (b,e)) c,.sl (some (b',e')) c'=>(pe M.m b' b=true∧kX M.h' b' = true∧e=e')∧vU c c'
 |.sl _ c,.sl none c'=>vU c c'
 |_,_=>False
def lR (M:Mt):List SC→List SC→Prop
 |[],[]=>True
 |x :: xs,y :: ys=>x.le M y∧lR M xs ys
 |_,_=>False
def SA.le (M:Mt):SA→SA→Prop
 |_,.one .any=>True
 |.one x,.one y=>x.le M y
 |.agg xs,.agg ys=>lR M xs ys
 |.fo c,.fo c'=>vU c c'
 |_,_=>False
def Lm (M:Mt):List SA→List SA→Prop
 |[],[]=>True
 |x :: xs,y :: ys=>x.le M y∧Lm M xs ys
 |_,_=>False
def Cu (M:Mt):List SA→List SA→Prop
 |_,[]=>True
 |x :: xs,y :: ys=>x.le M y∧Cu M xs ys
 |_,_=>False
def SV.le (M:Mt):SV→SV→Prop
 |_,.sa (.one .any)=>True
 |.sa x,.sa y=>x.le M y
 |.cN xs,.cN ys=>Lm M xs ys
 |_,_=>False
def bD.le (M:Mt):bD→bD→Prop
 |_,⟨none,.sa (.one .any)⟩=>True
 | ⟨none,x⟩,⟨none,y⟩=>x.le M y
 |_,_=>False
def jK (M:Mt):List bD→List bD→Prop
 |[],[]=>True
 |x :: xs,y :: ys=>x.le M y∧jK M xs ys
 |_,_=>False
def gH (M:Mt):fk→fk→Prop
 |.cells t x,.cells u y=>t=u∧lR M x y
 |.row t c,.row u c'=>t=u∧vU c c'
 |.mp l,.mp l'=>l=l'
 |.tok,.tok=>True
 |_,_=>False
def kV (M:Mt):H→Prop
 |[]=>True
 |(i,b) :: l=>(match look M.m i with
  |some k=>match ar M.h k with
   |some b0=>gH M b0 b
   |none=>False
  |none=>wz b)∧kV M l
def kept (m:List (Nat × Nat)):H→List Nat
 |[]=>[]
 |(i,_) :: l=>match look m i with
  |some k=>k :: kept m l
  |none=>kept m l
def distinct:List Nat→Bool
 |[]=>true
 |k :: l=>!nP k l && distinct l
def St.UK (fr:Bool) (m:List (Nat × Nat)) (s t:St):Prop :=
 distinct (kept m t.heap)=true∧jK ⟨m,s.heap,t.heap,kept m t.heap,fr⟩ s.gh t.gh∧Cu ⟨m,s.heap,t.heap,kept m t.heap,fr⟩ s.gs t.gs∧kV ⟨m,s.heap,t.heap,kept m t.heap,fr⟩ t.heap
def St.le (s t:St):Prop:=s.UK true (close s.heap t.heap 200 (mEs s.gh t.gh ++ mAs s.gs t.gs) []) t
def gr (r:SV):List bD :=
 match r with
 |.sa x=>[⟨none,.sa x⟩]
 |.cN xs=>xs.map fun x=>⟨none,.sa x⟩
def IT (x:SA):bD:=⟨none,.sa x⟩
def names (roots:List (Nat × Nat)) (b:Nat):H→List (Nat × Nat)
 |[]=>[]
 |(i,_) :: l=>match look roots i with
  |some n=>(i,n) :: names roots b l
  |none=>(i,b) :: names roots (b+1) l
def cU:List SA→List SA→List (Nat × Nat)
 |.one (.ptr n o) :: xs,.one (.ptr i o') :: ys=>match bL o o' with
  |true=>(i,n) :: cU xs ys
  |false=>cU xs ys
 |.one (.own n) :: xs,.one (.own i) :: ys=>(i,n) :: cU xs ys
 |.one (.mp n) :: xs,.one (.mp i) :: ys=>(i,n) :: cU xs ys
 |.one (.rp n _ j) :: xs,.one (.rp i _ j') :: ys=>match bL j j' with
  |true=>(i,n) :: cU xs ys
  |false=>cU xs ys
 |.one (.rv n o) :: xs,.one (.rv i o') :: ys=>match bL o o' with
  |true=>(i,n) :: cU xs ys
  |false=>cU xs ys
 |.one (.zK _ n o) :: xs,.one (.zK _ i o') :: ys=>match bL o o' with
  |true=>(i,n) :: cU xs ys
  |false=>cU xs ys
 |_ :: xs,_ :: ys=>cU xs ys
 |_,_=>[]
def dK:List SC→List Nat
 |[]=>[]
 |.own j :: l=>j :: dK l
 |_ :: l=>dK l
def nQ (h:H):List Nat:=h.flatMap fun p=>match ar h p.1 with
 |some (.cells _ cs)=>dK cs
 |_=>[]
def oG:SA→List Nat
 |.agg cs=>dK cs
 |_=>[]
def bP (args:List SA) (h:H):List Nat:=nQ h ++ args.flatMap oG
def kD:List Nat→List SA→List (Nat × Nat)
 |j :: l,.one (.own i) :: ys=>(i,j) :: kD l ys
 |_ :: l,_ :: ys=>kD l ys
 |_,_=>[]
def bW (seen:List Nat) (args:List SA) (h0 ph:H) (vs as:List SA):List (Nat × Nat):=cU vs as ++ (kD (bP args h0) (as.drop vs.length)).filterMap fun p=>match dL h0 p.2 && dL ph p.1,seen[p.2]? with
 |true,some n=>some (p.1,n)
 |_,_=>none
def ng:List SA→List SA→Prop
 |.one (.rp _ i _) :: xs,.one (.rp _ i' _) :: ys=>i=i'∧ng xs ys
 |_ :: xs,_ :: ys=>ng xs ys
 |_,_=>True
def Pp (ns:List (Nat × Nat)):Bool:=ns.all fun p=>pe (bR ns) p.2 p.1
def iE (h:H) (roots:List (Nat × Nat)):List (Nat × Nat)→Bool
 |[]=>true
 |(i,n) :: l=>(match look roots i with
  |some _=>true
  |none=>cH h n) && iE h roots l
def OE:Option fk→Option fk→Prop
 |some (.cells _ _),some (.cells _ _)=>True
 |some (.row _ c),some (.row _ c')=>c'.len Ar.aa=c.len Ar.aa∧c'.sz=c.sz
 |some (.mp _),some (.mp _)=>True
 |_,_=>False
def lZ (h h' : H) (roots:List (Nat × Nat)):List (Nat × Nat)→Prop
 |[]=>True
 |(i,n) :: l=>(match look roots i with
  |some _=>OE (ar h n) (ar h' i)
  |none=>True)∧lZ h h' roots l
def gk (keys:List Nat):List Nat→H
 |[]=>[]
 |n :: l=>match nP n keys with
  |true=>gk keys l
  |false=>(n,.dead) :: gk keys l
def Cj (h:H):List Nat→H
 |[]=>[]
 |n :: l=>match ar h n with
  |some b=>(n,b) :: Cj h l
  |none=>Cj h l
def KA (m ns:List (Nat × Nat)):Bool:=ns.all fun p=>pe m p.2 p.1
def fN (kp:Bool) (h:H) (u:Nat) (bC:aO) (s:Prop) (vs:List SA):Option cE :=
 let seen:=reach 200 h (vs.flatMap bf) [];let m:=bO 0 seen
 match CC m vs,ou m h seen with
 |some args,some h0=>match bC args h0 with
  |some p =>
   let roots:=bW seen args h0 p.h vs p.as;let ns:=names roots (bU u) p.h
   match NH ns p.r,ou ns p.h (p.h.map (·.1)) with
   |some r,some h1=>match iE h roots ns && (distinct (h1.map (·.1)) && (Pp ns && bL args.length vs.length)) with
    |true=>some ⟨s∧p.C∧(St.mk [] (Cj h seen) vs).UK false (bR m) (St.mk [] h0 args)∧(St.mk (gr p.r) p.h []).UK false (bR ns) (St.mk (gr r) h1 [])∧lZ h p.h roots ns∧ng vs p.as,⟨none,r⟩,match kp && (KA m ns && seen.all fun n=>nP n (h1.map (·.1))) with
      |true=>[]
      |false=>gk (h1.map (·.1)) seen ++ h1⟩
    |false=>none
   |_,_=>none
  |none=>none
 |_,_=>none
def FU:SC→Bool
 |.ptr _ _ | .sl _ _ | .own _ | .rp _ _ _ | .Sc _ _ | .Ki _ _ _ | .fn _ _ | .mp _ | .rv _ _ | .zK _ _ _ | .vw _ _=>false
 |_=>true
def Hx:SA→Bool
 |.one c=>FU c
 |.agg cs=>cs.all FU
 |.fo _=>false
def UJ:SV→Bool
 |.sa x=>Hx x
 |.cN xs=>xs.all Hx
def gf (h:H) (u:Nat) (bC:aO) (s:Prop) (vs:List SA):Option cE :=
 match fO h vs with
 |some args=>match bC args [] with
  |some p =>
   let ns:=names [] (bU u) p.h
   match NH ns p.r,ou ns p.h (p.h.map (·.1)) with
   |some r,some h1=>match iE h [] ns && (distinct (h1.map (·.1)) && Pp ns) with
    |true=>match UJ p.r && p.h.isEmpty with
     |true=>some ⟨s∧p.C,⟨none,p.r⟩,[]⟩
     |false=>some ⟨s∧p.C∧(St.mk (gr p.r) p.h []).UK false (bR ns) (St.mk (gr r) h1 []),⟨none,r⟩,rowsOf h (vs.flatMap bf) ++ h1⟩
    |false=>none
   |_,_=>none
  |none=>none
 |none=>none
def iM (kp:Bool) (h:H) (u:Nat) (bC:aO) (s:Prop) (vs:List SA):Option cE :=
 match fN kp h u bC s vs with
 |some E=>some E
 |none=>gf h u bC s vs
def dm (A:Ar) (cx:Cx) (h:H) (t:TypeId):bD→bD→Option cE
 | ⟨g,.sa (.one x)⟩,⟨g',.sa (.one y)⟩=>match y.int?,look cx.tt t with
  |some (_,i),some ⟨.slice _ n,_,_,_,_⟩=>match x with
   |.sl _ (.ints k l)=>match bL n 1 with
    |true=>cq (need g∧need g'∧A.cmp .geq i 0=true∧A.cmp .lss i (A.fT l)=true) (.Sc k (A.atI l i))
    |false=>none
   |.sl _ (.ae s l)=>match bL n s.size with
    |true=>cq (need g∧need g'∧A.cmp .geq i 0=true∧A.cmp .lss i (A.dN l)=true) (.Ki s (A.bh l i) 0)
    |false=>none
   |.own b=>match ar h b with
    |some (.row _ c)=>match bL n c.sz with
     |true=>cq (need g∧need g'∧A.cmp .geq i 0=true∧A.cmp .lss i (c.len A)=true) (.rp b i 0)
     |false=>none
    |some (.gz c)=>match bL n c.sz with
     |true=>match c with
      |.ints k l=>cq (need g∧need g'∧A.cmp .geq i 0=true∧A.cmp .lss i (A.fT l)=true) (.Sc k (A.atI l i))
      |.ae s l=>cq (need g∧need g'∧A.cmp .geq i 0=true∧A.cmp .lss i (A.dN l)=true) (.Ki s (A.bh l i) 0)
     |false=>none
    |_=>none
   |_=>none
  |some (_,i),some ⟨.array len n _,_,_,_,_⟩=>match x with
   |.ptr b off=>match ar h b with
    |some (.cells _ _)=>match y.lit && (aj .geq i 0 && aj .lss i len) with
     |true=>cq (need g∧need g') (.ptr b (off+i.toNat * n))
     |false=>none
    |some (.row _ c)=>match bL off 0 && (bL c.sz 1 && (ew 1 n && ew (len * n) 1000000)) with
     |true=>cq (need g∧need g'∧A.cmp .geq i 0=true∧A.cmp .lss i len=true∧A.cmp .leq ((len * n:Nat):Int) (c.len A)=true) (.rp b (match bL n 1 with
      |true=>i
      |false=>A.bin .mul .i64 i n) 0)
     |false=>none
    |_=>none
   |.rp b i0 0=>match ar h b with
    |some (.row _ c)=>match bL c.sz 1 && (ew 1 n && ew (len * n) 1000000) with
     |true=>cq (need g∧need g'∧A.cmp .geq i 0=true∧A.cmp .lss i len=true∧A.cmp .leq (c.len A) 1000000=true∧A.cmp .leq (A.bin .add .i64 i0 ((len * n:Nat):Int)) (c.len A)=true)
       (.rp b (A.bin .add .i64 i0 (match bL n 1 with
        |true=>i
        |false=>A.bin .mul .i64 i n)) 0)
     |false=>none
    |_=>none
   |.Ki s q j=>match y.lit && (aj .geq i 0 && aj .lss i len) with
    |true=>cq (need g∧need g') (.Ki (s.drop (i.toNat * n)) q (j+i.toNat * n))
    |false=>none
   |_=>none
  |_,_=>none
 |_,_=>none
def oP (A:Ar) (cx:Cx) (t:TypeId):bD→bD→Option cE
 | ⟨g,.sa x⟩,⟨g',.sa (.one y)⟩=>match y.int?,look cx.tt t with
  |some (_,i),some ⟨.array len n ag,_,_,_,_⟩=>match x with
   |.agg cs=>match y.lit && (aj .geq i 0 && aj .lss i len) with
    |true=>match ag with
     |true=>match fi cs (i.toNat * n) n with
      |some l=>some ⟨need g∧need g',⟨none,.sa (.agg l)⟩,[]⟩
      |none=>none
     |false=>match fi cs (i.toNat * n) 1 with
      |some [c]=>cq (need g∧need g') c
      |_=>none
    |false=>none
   |.fo c=>match ag with
    |true=>none
    |false=>match bL n 1 && bL c.sz 1 with
     |true=>match c.at A i 0 1 with
      |[d]=>cq (need g∧need g'∧A.cmp .geq i 0=true∧A.cmp .lss i len=true∧A.cmp .leq len (c.len A)=true) d
      |_=>none
     |false=>none
   |_=>none
  |some (_,i),some ⟨.str,_,_,_,_⟩=>match x with
   |.one (.str l)=>cq (need g∧need g'∧A.cmp .geq i 0=true∧A.cmp .lss i (A.fT l)=true) (.val (.int .u8 (A.atI l i)))
   |_=>none
  |_,_=>none
 |_,_=>none
def jR (A:Ar) (cx:Cx) (h:H) (src dt:TypeId):bD→Option cE
 | ⟨g,.sa (.one c)⟩=>match look cx.tt src,look cx.tt dt with
  |some ⟨.slice e _,_,_,_,_⟩,some ⟨.str,_,_,_,_⟩=>match look cx.tt e with
   |some ⟨.int .u8,_,_,_,_⟩=>match c with
    |.val (.slice none 0 0)=>cq (need g) (.str [])
    |c=>match kJ h c with
     |some (.ints .u8 l)=>cq (need g) (.str (A.byt l))
     |_=>none
   |_=>none
  |some ⟨.str,_,_,_,_⟩,some ⟨.slice e sz,_,_,_,_⟩=>match look cx.tt e with
   |some ⟨.int .u8,_,_,_,_⟩=>match bL sz 1 with
    |true=>match c with
     |.str l=>cq (need g∧A.fits (A.fT l) 1=true) (.sl none (.ints .u8 l))
     |_=>none
    |false=>none
   |_=>none
  |some ⟨.slice e _,_,_,_,_⟩,some ⟨.slice _ _,_,_,_,_⟩=>match look cx.tt e with
   |some ⟨.int .u8,_,_,_,_⟩=>match bL src dt,c with
    |true,.sl (some (id,_)) (.ints k l)=>match kX h id with
     |true=>some ⟨need g∧A.cmp .gtr (A.fT l) 0=true,⟨none,.sa (.one (.sl none (.ints k l)))⟩,[(id,.dead)]⟩
     |false=>none
    |_,_=>none
   |_=>none
  |some _,some ⟨.int k,_,_,_,_⟩=>match c.int? with
   |some (_,n)=>cq (need g) (ZE c.lit k ((A.lit c.lit).conv k n))
   |none=>none
  |_,_=>none
 |_=>none
def jx (A:Ar) (cx:Cx) (h:H) (t:TypeId):bD→Option cE
 | ⟨g,.sa (.one (.ptr b off))⟩=>match Iz A cx (ar h b) off t with
  |some (C,v)=>some ⟨need g∧C,⟨none,.sa v⟩,[]⟩
  |none=>none
 | ⟨g,.sa (.one (.rp b i j))⟩=>match ar h b,look cx.tt t with
  |some (.row _ c),some ti=>match ti.k.agg with
   |true=>match ew (j+ti.size) c.sz with
    |true=>some ⟨need g,⟨none,.sa (.agg (c.at A i j ti.size))⟩,[]⟩
    |false=>none
   |false=>match ew (j+1) c.sz,c.at A i j 1 with
    |true,[d]=>cq (need g) d
    |_,_=>none
  |_,_=>none
 | ⟨g,.sa (.one (.Sc k n))⟩=>match look cx.tt t with
  |some ti=>match ti.k.agg with
   |true=>none
   |false=>cq (need g) (.val (.int k n))
  |none=>none
 | ⟨g,.sa (.one (.rv n off))⟩=>match look cx.tt t with
  |some ti=>match ti.k.agg with
   |true=>none
   |false=>cq (need g) (.ptr n off)
  |none=>none
 | ⟨g,.sa (.one (.Ki s x j))⟩=>match look cx.tt t with
  |some ti=>match ti.k.agg with
   |true=>match ew ti.size s.size with
    |true=>some ⟨need g,⟨none,.sa (.agg (eE A s x j ti.size))⟩,[]⟩
    |false=>none
   |false=>match eE A s x j 1 with
    |[c]=>cq (need g) c
    |_=>none
  |none=>none
 |_=>none
def hD (A:Ar) (cx:Cx) (h:H) (t:TypeId) (x y:bD):Option cE :=
 match x,y,look cx.tt t with
 | ⟨g,.sa (.one (.ptr b off))⟩,⟨g',.sa v⟩,some ti=>match ar h b with
  |some (.cells bt bc)=>match bL v.cells.length ti.size && ew (off+ti.size) bc.length with
   |true=>some ⟨need g∧need g'∧v.side,bD.nil,[(b,.cells bt (fC bc off v.cells))]⟩
   |false=>none
  |some (.row bt c0)=>match v with
   |.fo c=>match bL c.sz 1 && (bL c0.sz 1 && bL off 0) with
    |true=>some ⟨need g∧need g'∧A.cmp .eql (c.len A) ti.size=true∧A.cmp .eql (c0.len A) ti.size=true,bD.nil,[(b,.row bt c)]⟩
    |false=>none
   |_=>none
  |_=>none
 | ⟨g,.sa (.one (.rp b i j))⟩,⟨g',.sa v⟩,some ti=>match ar h b with
  |some (.row bt c)=>match bL v.cells.length ti.size && ew (j+ti.size) c.sz with
   |true=>match OL A c i j v with
    |some c'=>some ⟨need g∧need g'∧v.side,bD.nil,[(b,.row bt c')]⟩
    |none=>none
   |false=>none
  |_=>none
 |_,_,_=>none
def dn (cx:Cx) (h:H) (s:TypeId) (f:Nat) (x:bD):Option cE :=
 match x,look cx.tt s with
 | ⟨g,.sa (.one c)⟩,some ⟨.struct fs,_,_,_,_⟩=>match fs[f]? with
  |some (o,n,_,_)=>match bL n 0 with
   |true=>none
   |false=>match c with
    |.ptr b off=>cq (need g) (.ptr b (off+o))
    |.rp b i j=>match dL h b with
     |true=>cq (need g) (.rp b i (j+o))
     |false=>none
    |.Ki h y j=>cq (need g) (.Ki (h.drop o) y (j+o))
    |_=>none
  |none=>none
 |_,_=>none
def pn (cx:Cx) (s:TypeId) (f:Nat) (x:bD):Option cE :=
 match x,look cx.tt s with
 | ⟨g,.sa (.agg cs)⟩,some ⟨.struct fs,_,_,_,_⟩=>match fs[f]? with
  |some (o,n,true,_)=>match fi cs o n with
   |some l=>some ⟨need g,⟨none,.sa (.agg l)⟩,[]⟩
   |none=>none
  |some (o,_,false,_)=>match fi cs o 1 with
   |some [c]=>cq (need g) c
   |_=>none
  |none=>none
 |_,_=>none
def placeOf (fs:List (Nat × Nat × Bool × List Nat)) (i:Nat):Option (Nat × Nat) :=
 match fs[i]? with
 |some f=>some (f.1,f.2.1)
 |none=>none
def oC (A:Ar) (cx:Cx) (t:TypeId) (is:List Nat) (es:List bD):Option cE :=
 match look cx.tt t,Dg es with
 |some ⟨.struct fs,_,z,_,_⟩,some vs=>match BQ (placeOf fs) (z.map cellOf) (is.zip vs) with
  |some cs=>some ⟨eP es∧eG vs∧z.all Value.oneCell' = true,⟨none,.sa (.agg cs)⟩,[]⟩
  |none=>none
 |some ⟨.array _ n _,sz,z,_,fl⟩,some vs=>match fl,is,ew sz 8 with
  |some s,[],false=>some ⟨True,⟨none,.sa (.fo (Fh A sz s))⟩,[]⟩
  |_,is,_=>match BQ (fun i=>some (i * n,n)) (z.map cellOf) (is.zip vs) with
   |some cs=>some ⟨eP es∧eG vs∧z.all Value.oneCell' = true,⟨none,.sa (.agg cs)⟩,[]⟩
   |none=>none
 |_,_=>none
def ek (cx:Cx) (h:H) (u:Nat) (t:TypeId) (n:Nat) (is:List Nat) (es:List bD):Option cE :=
 match look cx.tt t,Dg es with
 |some ⟨.slice e sz,_,_,_,_⟩,some vs=>match aaz (look cx.hs t) sz vs,look cx.tt e with
  |some ct,some _=>match cH h (bU u) && (idxs is 0 n && (ew 1 sz && (ew (n * sz) 16777216 && vs.all fun v=>bL v.cells.length sz))) with
   |true=>match bL n 0,look cx.fs (fE u) with
    |true,some _=>some ⟨eP es∧eG vs,⟨none,.sa (.one (.own (bU u)))⟩,[(bU u,.emp e)]⟩
    |_,_=>some ⟨eP es∧eG vs,⟨none,.sa (.one (.sl (some (bU u,e)) ct))⟩,[(bU u,.tok)]⟩
   |false=>none
  |_,_=>none
 |_,_=>none
def oD (A:Ar) (cx:Cx) (h:H) (u:Nat) (t:TypeId):bD→bD→Option cE
 | ⟨g,.sa (.one x)⟩,⟨g',.sa (.one y)⟩=>match x.int?,y.int?,look cx.tt t with
  |some (_,l),some (_,c),some ⟨.slice e sz,_,_,_,_⟩=>match look cx.tt e,look cx.bs e,look cx.hs t with
   |some te,some b,some ct=>match bL te.size sz && (ew 1 sz && (ew 1 b && (bL ct.sz sz && cH h (bU u)))) with
    |true=>match x.lit && aj .eql l 0 with
     |true=>some ⟨need g∧need g'∧A.cmp .geq c 0=true∧A.fits c b=true,⟨none,.sa (.one (.sl (some (bU u,e)) (fI ct)))⟩,[(bU u,.tok)]⟩
     |false=>some ⟨need g∧need g'∧A.cmp .geq l 0=true∧A.cmp .leq l c=true∧A.fits c b=true,⟨none,.sa (.one (.own (bU u)))⟩,[(bU u,.row e (ct.rep A l))]⟩
    |false=>none
   |_,_,_=>none
  |_,_,_=>none
 |_,_=>none
def iq (A:Ar) (cx:Cx) (st:St) (t:TypeId) (x:bD) (lo hi mx:Option Operand):Option cE :=
 match x,look cx.tt t with
 | ⟨g,.sa (.one c)⟩,some ⟨.slice _ n,_,_,_,_⟩=>match kJ st.heap c with
  |some ct=>match sE st 0 lo,sE st (ct.len A) hi,sE st 0 mx with
   |some (g1,l),some (g2,h),some (g3,m)=>match bL n ct.sz with
    |true=>match mx,hi,c with
     |none,_,_=>some ⟨need g∧need g1∧need g2∧A.cmp .geq l 0=true∧A.cmp .leq l h=true∧A.cmp .leq h (ct.len A)=true,⟨none,.sa (.one (.sl none (ct.cut A l h)))⟩,rowsOf st.heap (bo c)⟩
     |some _,some _,_=>some ⟨need g∧need g1∧need g2∧need g3∧A.cmp .geq l 0=true∧A.cmp .leq l h=true∧A.cmp .leq h m=true∧A.cmp .leq m (ct.len A)=true,⟨none,.sa (.one (.sl none (ct.cut A l h)))⟩,rowsOf st.heap (bo c)⟩
     |_,_,_=>none
    |false=>none
   |_,_,_=>none
  |none=>none
 |_,_=>none
def iA (h:H) (e:TypeId):SC→Option (Nat × Nat × Int × Ct)
 |.own n=>match ar h n with
  |some (.cA d sz q)=>match ar h d with
   |some (.row e' c)=>match bL e e' with
    |true=>some (d,sz,q,c)
    |false=>none
   |_=>none
  |_=>none
 |_=>none
def pT (A:Ar) (cx:Cx) (st:St) (u:Nat) (t:TypeId) (x:bD) (lo hi:Option Operand):Option cE :=
 match x,look cx.tt t with
 | ⟨g,.sa (.one c)⟩,some ⟨.slice e n,_,_,_,_⟩=>match ownRow st.heap e c with
  |some (m,ct)=>match sE st 0 lo,sE st (ct.len A) hi with
   |some (g1,l),some (g2,h)=>match bL n ct.sz && cH st.heap (bU u) with
    |true=>some ⟨need g∧need g1∧need g2∧A.cmp .geq l 0=true∧A.cmp .leq l h=true∧A.cmp .leq h (ct.len A)=true,⟨none,.sa (.one (.own (bU u)))⟩,[(m,.dead),(bU u,.row e (ct.cut A l h))]⟩
    |false=>none
   |_,_=>none
  |none=>match iA st.heap e c,sE st 0 lo,hi with
   |some (d,sz,q,cd),some (g1,l),none=>match bL n sz && cH st.heap (bU u) with
    |true=>some ⟨need g∧need g1∧A.cmp .eql l q=true,⟨none,.sa (.one (.own (bU u)))⟩,[(d,.dead),(bU u,.row e cd)]⟩
    |false=>none
   |_,_,_=>none
 |_,_=>none
def pB (A:Ar) (cx:Cx) (st:St) (u:Nat) (t:TypeId) (x:bD) (lo hi mx:Option Operand):Option cE :=
 match x,look cx.tt t with
 | ⟨g,.sa (.one c)⟩,some ⟨.slice e n,_,_,_,_⟩=>match ownRow st.heap e c with
  |some (m,ct)=>match sE st 0 lo,sE st (ct.len A) hi,sE st 0 mx with
   |some (g1,l),some (g2,h),some (g3,q)=>match bL n ct.sz && cH st.heap (bU u),hi,mx with
    |true,some _,some _=>some ⟨need g∧need g1∧need g2∧need g3∧A.cmp .geq l 0=true∧A.cmp .leq l h=true∧A.cmp .leq h q=true∧A.cmp .leq q (ct.len A)=true,⟨none,.sa (.one (.sl none (ct.cut A l h)))⟩,[(m,.cA (bU u) n q),(bU u,.row e (ct.cut A q (ct.len A)))]⟩
    |_,_,_=>none
   |_,_,_=>none
  |none=>none
 |_,_=>none
def RX (u:Nat):Nat:=fE (500000000+u)
def oA (A:Ar) (cx:Cx) (st:St) (t:TypeId) (x:bD) (lo hi:Option Operand):Option cE :=
 match x,look cx.tt t,hi with
 | ⟨g,.sa (.one c)⟩,some ⟨.slice e n,_,_,_,_⟩,none=>match ownRow st.heap e c,sE st 0 lo with
  |some (m,ct),some (g1,l)=>match bL n ct.sz with
   |true=>cq (need g∧need g1∧A.cmp .geq l 0=true∧A.cmp .leq l (ct.len A)=true) (.vw m l)
   |false=>none
  |_,_=>none
 |_,_,_=>none
def Ek:Ct→Ct→Bool
 |.ints k _,.ints k' _=>dr k k'
 |.ae s _,.ae s' _=>iu s s'
 |_,_=>false
def Ct.xY (A:Ar) (l:Int):Ct→Ct
 |.ints k m=>.ints k (A.adX m l)
 |.ae s m=>.ae s (A.acA s.zero m l)
def hG (A:Ar) (cx:Cx) (h:H) (t:TypeId):bD→Option cE
 | ⟨g,.sa (.one (.vw n l))⟩=>match look cx.tt t,look cx.hs t,ar h n with
  |some ⟨.slice e sz,_,_,_,_⟩,some hc,some (.row bt c)=>match look cx.tt e with
   |some te=>match Ek hc c && (bL c.sz sz && (bL te.size sz && ew 1 sz)) with
    |true=>some ⟨need g,bD.nil,[(n,.row bt (c.xY A l))]⟩
    |false=>none
   |none=>none
  |_,_,_=>none
 |_=>none
def se:bD→Option cE
 | ⟨g,.sa (.one (.ptr n off))⟩=>some ⟨need g,⟨none,.sa (.one (.rv n off))⟩,[]⟩
 |_=>none
def lh (A:Ar) (cx:Cx) (h:H) (u:Nat) (t:TypeId):Option cE :=
 match look cx.tt t with
 |some ti=>match cH h (bU u) with
  |true=>match ti.flat,ew ti.size 8 with
   |some s,false=>some ⟨True,⟨none,.sa (.one (.ptr (bU u) 0))⟩,[(bU u,.row t (Fh A ti.size s))]⟩
   |_,_=>some ⟨ti.zero.all Value.oneCell' = true,⟨none,.sa (.one (.ptr (bU u) 0))⟩,[(bU u,.cells t (ti.zero.map cellOf))]⟩
  |false=>none
 |none=>none
def uT (h:H) (u:Nat) (t:TypeId):bD→Option cE
 | ⟨g,.sa v⟩=>match cH h (bU u) with
  |true=>match v with
   |.fo c=>some ⟨need g,⟨none,.sa (.one (.ptr (bU u) 0))⟩,[(bU u,.row t c)]⟩
   |v=>some ⟨need g∧v.side,⟨none,.sa (.one (.ptr (bU u) 0))⟩,[(bU u,.cells t v.cells)]⟩
  |false=>none
 |_=>none
def nW (A:Ar) (cx:Cx) (h:H) (t:TypeId) (s:Prop) (c:SC):Option cE :=
 match look cx.tt t with
 |some ⟨.slice _ _,_,_,_,_⟩=>match c with
  |.val (.slice none 0 0)=>cq s (.num .i64 0)
  |c=>match kJ h c with
   |some ct=>cq s (.val (.int .i64 (ct.len A)))
   |none=>none
 |some ⟨.str,_,_,_,_⟩=>match c with
  |.str l=>cq s (.val (.int .i64 (A.fT l)))
  |_=>none
 |_=>none
def fnV:bD→Option Nat
 | ⟨_,.sa (.one (.val (.func (.func f) ⟨[]⟩ ⟨[]⟩)))⟩=>some f
 |_=>none
def ndF (e:bD) (s:Prop):Prop :=
 match e.g with
 |none=>s
 |some b=>b=true∧s
def fnC:bD→Option (Nat × SC)
 | ⟨none,.sa (.one (.fn g n))⟩=>some (g,.ptr n 0)
 | ⟨none,.sa (.one (.zK g n o))⟩=>some (g,.rv n o)
 |_=>none
def sr (A:Ar) (cx:Cx) (st:St) (u:Nat) (c:Call) (es:List bD):Option cE :=
 match c.callee with
 |.value x=>match fnV (aC st x) with
  |some f=>match ew f 999999,look cx.fs f,Dg es with
   |true,some bC,some vs=>iM (match look cx.fs (dP f) with
    |some _=>true
    |none=>false) st.heap u bC (ndF (aC st x) (eP es)) vs
   |_,_,_=>none
  |none=>match fnC (aC st x) with
   |some (f,n)=>match ew f 999999,look cx.fs f,Dg es with
    |true,some bC,some vs=>fN (match look cx.fs (dP f) with
     |some _=>true
     |none=>false) st.heap u bC (eP es) (vs ++ [.one n])
    |_,_,_=>none
   |none=>none
 |.builtin .len=>match c.argTypes.toList,Dg es with
  |[t],some [.one x]=>nW A cx st.heap t (eP es) x
  |_,_=>none
 |.builtin .append=>match c.argTypes.toList,es with
  |[t,t'],[x,y]=>match x,look cx.tt t with
   | ⟨_,.sa (.one c)⟩,some ⟨.slice e _,_,_,_,_⟩=>match oz st.heap e c with
    |some n=>jV A cx st.heap u n t t' x y
    |none=>match ownRow st.heap e c with
     |some (n,c1)=>jO A cx st.heap u n c1 t t' x y
     |none=>match look cx.fs (fE u) with
      |some _=>jD A cx st.heap u t t' x y
      |none=>ny A cx st.heap u t t' x y
   |_,_=>none
  |_,_=>none
 |.builtin .copy=>match c.argTypes.toList,es with
  |t :: _,[x,y]=>jy A cx st.heap t x y
  |_,_=>none
 |.builtin .clear=>match c.argTypes.toList,es with
  |[t],[x]=>hG A cx st.heap t x
  |_,_=>none
 |.builtin .min=>match Dg es with
  |some (.one x :: l)=>match x.int? with
   |some (k,a)=>match nS A .lss a l k with
    |some n=>cq (eP es) (.val (.int k n))
    |none=>none
   |none=>none
  |_=>none
 |.builtin .max=>match Dg es with
  |some (.one x :: l)=>match x.int? with
   |some (k,a)=>match nS A .gtr a l k with
    |some n=>cq (eP es) (.val (.int k n))
    |none=>none
   |none=>none
  |_=>none
 |_=>none
def Ho (A:Ar) (op:UnOp):bD→Option cE
 | ⟨g,.sa (.one c)⟩=>match op with
  |.not=>match c.bool? with
   |some b=>cq (need g) (mkB c.lit ((A.lit c.lit).not b))
   |none=>none
  |.neg=>match c.int? with
   |some (k,n)=>cq (need g) (ZE c.lit k ((A.lit c.lit).bin .sub k 0 n))
   |none=>none
  |.xor=>match c.int? with
   |some (k,n)=>cq (need g) (ZE c.lit k ((A.lit c.lit).bin .xor k (match k.signed with
    |true=>-1
    |false=>k.max) n))
   |none=>none
  |_=>none
 |_=>none
def zO:bD→Option cE
 | ⟨g,.sa (.one (.ptr n o))⟩=>cq (need g) (.ptr n o)
 | ⟨g,.sa (.one (.rp n i j))⟩=>cq (need g) (.rp n i j)
 |_=>none
def jS (i:Nat):bD→Option cE
 | ⟨g,.cN xs⟩=>match xs[i]? with
  |some a=>some ⟨need g,⟨none,.sa a⟩,[]⟩
  |none=>none
 |_=>none
def ll (cx:Cx) (h:H) (u:Nat) (t:TypeId) (hint:Option Operand):Option cE :=
 match look cx.tt t,hint,cH h (bU u) with
 |some ⟨.tZ,_,_,_,_⟩,none,true=>some ⟨True,⟨none,.sa (.one (.mp (bU u)))⟩,[(bU u,.mp [])]⟩
 |_,_,_=>none
def jI (A:Ar) (cx:Cx) (h:H) (t:TypeId) (ok:Bool):bD→bD→Option cE
 | ⟨g,.sa (.one (.mp n))⟩,⟨g',.sa (.one y)⟩=>match y.int?,look cx.tt t,ar h n with
  |some (.i64,k),some ⟨.tZ,_,_,_,_⟩,some (.mp l)=>match ok with
   |false=>cq (need g∧need g') (.val (.int .i64 (A.pL l k)))
   |true=>some ⟨need g∧need g',⟨none,.cN [.one (.val (.int .i64 (A.pL l k))),.one (.val (.bool (A.uE l k)))]⟩,[]⟩
  |_,_,_=>none
 |_,_=>none
def nw (A:Ar) (cx:Cx) (h:H) (t:TypeId):bD→bD→bD→Option cE
 | ⟨g,.sa (.one (.mp n))⟩,⟨g',.sa (.one y)⟩,⟨g2,.sa (.one z)⟩=>match y.int?,z.int?,look cx.tt t,ar h n with
  |some (.i64,k),some (.i64,v),some ⟨.tZ,_,_,_,_⟩,some (.mp l)=>some ⟨need g∧need g'∧need g2∧A.cmp .lss (A.YD l) 1000000000000=true,bD.nil,[(n,.mp (A.vG l k v))]⟩
  |_,_,_,_=>none
 |_,_,_=>none
def GX (f:Fn) (first:List bD) (cap:List bD):Option cE :=
 match f,first,cap with
 |.func f,[],[⟨g,.sa (.one (.ptr n 0))⟩]=>cq (need g) (.fn f n)
 |.func f,[],[⟨g,.sa (.one (.rv n o))⟩]=>cq (need g) (.zK f n o)
 |_,_,_=>none
def dW (A:Ar) (cx:Cx) (st:St) (u:Nat):Op→Option cE
 |.makeFunc f first cap=>GX f (first.toList.map (aC st)) (cap.toList.map (aC st))
 |.move x | .assign x=>some ⟨True,aC st x,[]⟩
 |.pick c a b=>rV A (aC st c) (aC st a) (aC st b)
 |.binOp op xt x y _=>nU A cx st.heap op xt (aC st x) (aC st y)
 |.unOp op _ x=>Ho A op (aC st x)
 |.convert src dt x=>jR A cx st.heap src dt (aC st x)
 |.nilCheck x=>zO (aC st x)
 |.alloc t=>lh A cx st.heap u t
 |.box t x=>match look cx.fs (fE u) with
  |some _=>se (aC st x)
  |none=>uT st.heap u t (aC st x)
 |.load t x=>jx A cx st.heap t (aC st x)
 |.store t x y=>hD A cx st.heap t (aC st x) (aC st y)
 |.fieldAddr s x f=>dn cx st.heap s f (aC st x)
 |.field s x f=>pn cx s f (aC st x)
 |.build t ps=>oC A cx t (ps.toList.map (·.1)) (ps.toList.map fun p=>aC st p.2)
 |.buildSlice t n ps=>ek cx st.heap u t n (ps.toList.map (·.1)) (ps.toList.map fun p=>aC st p.2)
 |.makeSlice t l c=>oD A cx st.heap u t (aC st l) (aC st c)
 |.indexAddr t x ix=>dm A cx st.heap t (aC st x) (aC st ix)
 |.index t x ix=>oP A cx t (aC st x) (aC st ix)
 |.slice t x lo hi mx=>match look cx.fs (fE u) with
  |some _=>match mx with
   |none=>pT A cx st u t (aC st x) lo hi
   |some y=>pB A cx st u t (aC st x) lo hi (some y)
  |none=>match look cx.fs (RX u),mx with
   |some _,none=>oA A cx st t (aC st x) lo hi
   |_,mx=>iq A cx st t (aC st x) lo hi mx
 |.extract x i=>jS i (aC st x)
 |.makeMap t hint=>ll cx st.heap u t hint
 |.lookup t m x ok=>jI A cx st.heap t ok (aC st m) (aC st x)
 |.mapUpdate t m x v=>nw A cx st.heap t (aC st m) (aC st x) (aC st v)
 |.call c=>sr A cx st u c (c.args.toList.map (aC st))
 |_=>none
def St.put (st:St) (dst:Option Tmp) (e:bD):St :=
 match dst with
 |some d=>{ st with gh:=st.gh.set d e }
 |none=>st
def aF (h:H):List (Nat × fk)→H
 |[]=>h
 |p :: l=>aF (aM h p.1 p.2) l
def St.app (st:St) (dst:Option Tmp) (E:cE):St:={ (st.put dst E.ent) with heap:=aF st.heap E.jq }
inductive Wn where
 |bad
 |yes
 |no
 |sym (b:Bool)
def Oj (A:Ar) (want:Bool):bD→Wn
 | ⟨none,.sa (.one (.tf c))⟩=>match want,c with
  |true,true=>.yes
  |false,false=>.yes
  |_,_=>.no
 | ⟨some g,.sa (.one (.tf c))⟩=>match want,c with
  |true,true=>.sym g
  |false,false=>.sym g
  |_,_=>.no
 | ⟨none,.sa (.one (.val (.bool c)))⟩=>.sym (match want with
  |true=>c
  |false=>A.not c)
 | ⟨some g,.sa (.one (.val (.bool c)))⟩=>.sym (A.and g (match want with
  |true=>c
  |false=>A.not c))
 |_=>.bad
def rB (A:Ar) (ops:List Oper) (st:St):Option (Nat × Bool)→Wn
 |none=>.yes
 |some (j,want) =>
  match ops[j]? with
  |some o=>match o.dst with
   |some t=>Oj A want (st.gh.getD t bD.nil)
   |none=>.bad
  |none=>.bad
def jw (A:Ar) (cx:Cx) (ops:List Oper) (st:St) (u:Nat) (o:Oper) (d:Bool):Option cE :=
 match rB A ops st o.guard with
 |.bad=>none
 |.yes=>dW A cx st u o.op
 |.no=>some ⟨True,bD.off,[]⟩
 |.sym b=>match dW A cx st u o.op with
  |some ⟨C,e,[]⟩=>some ⟨b=false∨C,⟨Tg A (some b) e.g,e.v⟩,[]⟩
  |some ⟨C,e,p :: l⟩=>match d with
   |true=>some ⟨b=true∧C,e,p :: l⟩
   |false=>some ⟨b=false,bD.nil,[]⟩
  |none=>some ⟨b=false,bD.nil,[]⟩
def cY (h:H) (u:Nat) (bC:aO) (vs:List SA):List Nat :=
 let seen:=reach 200 h (vs.flatMap bf) [];let m:=bO 0 seen
 vs.flatMap bf ++ seen ++ (match CC m vs,ou m h seen with
 |some args,some h0=>match bC args h0 with
  |some p=>(names (bW seen args h0 p.h vs p.as) (bU u) p.h).map (·.2)
  |none=>[]
 |_,_=>[]) ++ (match fO h vs with
  |some args=>match bC args [] with
   |some p=>(names [] (bU u) p.h).map (·.2)
   |none=>[]
  |none=>[])
def DJ (e:bD):List Nat :=
 match e.v with
 |.sa (.one (.rp n _ _))=>[n]
 |_=>[]
def HI (e:bD):List Nat :=
 match e.v with
 |.sa (.one (.rv _ _))=>[]
 |_=>bn e
def nF (h:H) (n:Nat):List Nat :=
 match ar h n with
 |some (.cA d _ _)=>[d]
 |_=>[]
def dU (cx:Cx) (st:St) (u:Nat) (o:Oper):List Nat :=
 match o.op with
 |.binOp _ _ x y _=>bn (aC st x) ++ bn (aC st y)
 |.convert _ _ x | .indexAddr _ x _=>bn (aC st x)
 |.load _ x=>HI (aC st x)
 |.slice _ x _ _ _=>bU u :: (bn (aC st x) ++ (bn (aC st x)).flatMap (nF st.heap))
 |.fieldAddr _ x _=>DJ (aC st x)
 |.store _ x _=>bn (aC st x)
 |.lookup _ x _ _ | .mapUpdate _ x _ _=>bn (aC st x)
 |.makeMap _ _=>[bU u]
 |.alloc _ | .box _ _ | .buildSlice _ _ _ | .makeSlice _ _ _=>[bU u]
 |.call c=>match c.callee with
  |.builtin .append=>bU u :: (c.args.toList.map (aC st)).flatMap bn
  |.builtin .len | .builtin .copy | .builtin .clear=>(c.args.toList.map (aC st)).flatMap bn
  |.value x=>match fnV (aC st x) with
   |some f=>match look cx.fs f,Dg (c.args.toList.map (aC st)) with
    |some bC,some vs=>cY st.heap u bC vs
    |_,_=>[]
   |none=>match fnC (aC st x) with
    |some (f,n)=>match look cx.fs f,Dg (c.args.toList.map (aC st)) with
     |some bC,some vs=>cY st.heap u bC (vs ++ [.one n])
     |_,_=>[]
    |none=>[]
  |_=>[]
 |_=>[]
structure Jt where
 i:Nat
 o:Oper
 d:Bool
structure It where
 i:Nat
 o:Oper
 d:Bool
 side:Prop
 wb:List Nat
 ft:List Nat
def uid (r i:Nat):Nat:=1000 * r+i
def runT (A:Ar) (cx:Cx) (r:Nat) (ops:List Oper):List Jt→St→Option (List It × St)
 |[],st=>some ([],st)
 |j :: l,st=>match jw A cx ops st (uid r j.i) j.o j.d with
  |some E=>match runT A cx r ops l (st.app j.o.dst E) with
   |some (T,st')=>some (⟨j.i,j.o,j.d,E.side,E.jq.map (·.1),dU cx st (uid r j.i) j.o⟩ :: T,st')
   |none=>none
  |none=>none
def rI (A:Ar) (cx:Cx) (r:Nat) (ops:List Oper):Nat→List Oper→St→(List It→St→Prop)→Prop
 |_,[],st,K=>K [] st
 |i,o :: l,st,K=>match rB A ops st o.guard with
  |.bad=>False
  |.yes=>match dW A cx st (uid r i) o.op with
   |some E=>rI A cx r ops (i+1) l (st.app o.dst E) fun T s=>K (⟨i,o,true,E.side,E.jq.map (·.1),dU cx st (uid r i) o⟩ :: T) s
   |none=>False
  |.no=>rI A cx r ops (i+1) l (st.app o.dst ⟨True,bD.off,[]⟩) fun T s=>K (⟨i,o,true,True,[],dU cx st (uid r i) o⟩ :: T) s
  |.sym b=>match dW A cx st (uid r i) o.op with
   |some ⟨C,e,[]⟩=>rI A cx r ops (i+1) l (st.app o.dst ⟨b=false∨C,⟨Tg A (some b) e.g,e.v⟩,[]⟩) fun T s=>K (⟨i,o,true,b=false∨C,[],dU cx st (uid r i) o⟩ :: T) s
   |some ⟨C,e,p :: q⟩=>(b=false∨rI A cx r ops (i+1) l (st.app o.dst ⟨b=true∧C,e,p :: q⟩) fun T s=>K (⟨i,o,true,C,p.1 :: q.map (·.1),dU cx st (uid r i) o⟩ :: T) s) ∧
     (b=true∨rI A cx r ops (i+1) l (st.app o.dst ⟨b=false,bD.nil,[]⟩) fun T s=>K (⟨i,o,false,True,[],dU cx st (uid r i) o⟩ :: T) s)
   |none=>rI A cx r ops (i+1) l (st.app o.dst ⟨b=false,bD.nil,[]⟩) fun T s=>K (⟨i,o,true,b=false,[],dU cx st (uid r i) o⟩ :: T) s
def mU:List It→Prop
 |[]=>True
 |x :: T=>x.side∧mU T
def re (bs l:List Nat):Bool:=bs.all fun b=>l.all fun c=>!bL b c
def bef (ops:List Oper):Nat→Nat→Nat→Bool
 |0,_,_=>false
 |f+1,y,x=>match ops[y]? with
  |some o=>o.after.toList.any fun e=>Region.binds .any e && (bL e.on x || bef ops f e.on x)
  |none=>false
def wi (ops:List Oper) (x y:It):Bool :=
 y.o.after.toList.any (fun e=>Region.binds .any e && bL e.on x.i) || ((x.o.apart ops.toArray y.o && re x.wb y.ft && re y.wb x.ft) || bef ops 6 y.i x.i)
def gB (ops:List Oper):List It→Bool
 |[]=>true
 |x :: T=>T.all (wi ops x) && gB ops T
def cQ:Nat→List Oper→List Bool→List Jt
 |i,o :: l,d :: ds=>⟨i,o,d⟩ :: cQ (i+1) l ds
 |_,_,_=>[]
def BJ:Nat→List Oper→Bool
 |_,[]=>true
 |i,o :: l=>o.after.toList.all (fun e=>!Region.binds .any e || ew (e.on+1) i) && BJ (i+1) l
inductive Ex where
 |normal
 |exit (id:Nat)
 |ret
def ex (A:Ar) (cx:Cx) (L:Code→St→(Ex→St→Prop)→Prop):Code→St→(Ex→St→Prop)→Prop
 |.skip,s,K=>K .normal s
 |.region id ops draw,s,K=>rI A cx id ops.toList 0 ops.toList s fun T s'=>match draw && !(gB ops.toList T && BJ 0 ops.toList) with
   |true=>False
   |false=>mU T∧K .normal s'
 |.seq a b,s,K=>ex A cx L a s (fun e s'=>match e with
  |.normal=>ex A cx L b s' K
  |e=>K e s')
 |.cond c a b,s,K=>match aC s c with
  | ⟨none,.sa (.one (.tf t))⟩=>match t with
   |true=>ex A cx L a s K
   |false=>ex A cx L b s K
  | ⟨none,.sa (.one (.val (.bool t)))⟩=>(t=false∨ex A cx L a s K)∧(t=true∨ex A cx L b s K)
  |_=>False
 |.block id c,s,K=>ex A cx L c s (fun e s'=>match e with
  |.exit i=>match bL i id with
   |true=>K .normal s'
   |false=>K (.exit i) s'
  |e=>K e s')
 |.exit id,s,K=>K (.exit id) s
 |.ret,s,K=>K .ret s
 |.loop c,s,K=>L c s K
 |_,_,_=>False
def Em (x:SA):SA :=
 match bf x with
 |[]=>.one .any
 |_=>x
def start (n:Nat) (args:List SA) (h:H):St:=⟨args.map IT ++ List.replicate (n - args.length) bD.nil,h,args.map Em ++ (bP args h).map fun j=>.one (.own j)⟩
def QJ (A:Ar) (cx:Cx) (st:St):ResultVar→Option (Prop × SA)
 |.tmp t=>match aC st (.tmp t) with
  | ⟨none,.sa x⟩=>some (True,x)
  |_=>none
 |.cell a t=>match aC st (.tmp a) with
  | ⟨none,.sa (.one (.ptr b off))⟩=>Iz A cx (ar st.heap b) off t
  |_=>none
def JC (A:Ar) (cx:Cx) (st:St):List ResultVar→Option (Prop × List SA)
 |[]=>some (True,[])
 |r :: l=>match QJ A cx st r,JC A cx st l with
  |some (C,x),some (D,xs)=>some (C∧D,x :: xs)
  |_,_=>none
def fin (A:Ar) (cx:Cx) (rs:List ResultVar) (p:qK):Ex→St→Prop
 |.exit _,_=>False
 |_,st=>match JC A cx st rs with
  |some (C,xs)=>(match p.r,xs with
   |.sa _,[_]=>True
   |.cN _,[_]=>False
   |.cN _,_=>True
   |_,_=>False)∧C∧(St.mk (xs.map IT) st.heap st.gs).le (St.mk (gr p.r) p.h p.as)
  |none=>False
end Go.Proofs.YtelhldgdnlppfaaGreat.Ry
