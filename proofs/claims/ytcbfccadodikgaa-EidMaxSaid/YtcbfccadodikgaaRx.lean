/-
  A reckoner of what a function's code makes of a symbolic state: slots, blocks of cells that the call itself made, and slices by what they hold; its rules. No condition.
-/
import Derived.WalkKit
import Derived.Below
import Derived.Scope
namespace Go.Proofs.Ytcbfccadodikgaa.Rx
open Go

/-! ## What slices hold -/
/-- An element's cells. -/
inductive D where
  | int (n : Int)
  | bool (b : Bool)
  | ints (l : List Int)
  | recs (l : List (List D))
abbrev E := List D
def ri (x : E) (j : Nat) : Int :=
  match x[j]? with
  | some (.int n) => n
  | _ => 0
def rb (x : E) (j : Nat) : Bool :=
  match x[j]? with
  | some (.bool b) => b
  | _ => false
def rl (x : E) (j : Nat) : List Int :=
  match x[j]? with
  | some (.ints l) => l
  | _ => []
def rr (x : E) (j : Nat) : List E :=
  match x[j]? with
  | some (.recs l) => l
  | _ => []
/-- The kinds of an element's cells. -/
inductive Sh where
  | nil
  | int (k : IntKind) (r : Sh)
  | bool (r : Sh)
  | ints (k : IntKind) (r : Sh)
  | recs (s : Sh) (r : Sh)
def Sh.size : Sh → Nat
  | .nil => 0
  | .int _ r => r.size + 1
  | .bool r => r.size + 1
  | .ints _ r => r.size + 1
  | .recs _ r => r.size + 1
def Sh.drop : Sh → Nat → Sh
  | s, 0 => s
  | .nil, _ + 1 => .nil
  | .int _ r, n + 1 => r.drop n
  | .bool r, n + 1 => r.drop n
  | .ints _ r, n + 1 => r.drop n
  | .recs _ r, n + 1 => r.drop n
inductive Ct where
  | ints (k : IntKind) (l : List Int)
  | recs (s : Sh) (l : List E)

/-! ## Arithmetic, as one record: a reckoning leaves it closed. -/
structure Ar where
  bin : BinOp → IntKind → Int → Int → Int
  cmp : BinOp → Int → Int → Bool
  conv : IntKind → Int → Int
  and : Bool → Bool → Bool
  not : Bool → Bool
  beq : Bool → Bool → Bool
  iteI : Bool → Int → Int → Int
  iteB : Bool → Bool → Bool → Bool
  iteV : Bool → Value → Value → Value
  lenI : List Int → Int
  lenE : List E → Int
  atI : List Int → Int → Int
  atE : List E → Int → E
  cutI : List Int → Int → Int → List Int
  cutE : List E → Int → Int → List E
  appI : List Int → List Int → List Int
  appE : List E → List E → List E
  repI : Int → List Int
  repE : Int → E → List E
  eqL : List Int → List Int → Bool
  byt : List Int → List Int
  fits : Int → Int → Bool
  ri : E → Nat → Int
  rb : E → Nat → Bool
  rl : E → Nat → List Int
  rr : E → Nat → List E

def stdBin : BinOp → IntKind → Int → Int → Int
  | .add, k, a, b => k.wrap (a + b)
  | .sub, k, a, b => k.wrap (a - b)
  | .mul, k, a, b => k.wrap (a * b)
  | .quo, k, a, b => k.wrap (a.tdiv b)
  | .rem, _, a, b => a.tmod b
  | .shl, k, a, b => k.wrap (a * 2 ^ (min b.toNat k.bits))
  | .shr, k, a, b => a.fdiv (2 ^ (min b.toNat k.bits))
  | op, k, a, b => bits op k a b
def stdCmp : BinOp → Int → Int → Bool
  | .eql, a, b => a == b
  | .neq, a, b => a != b
  | .lss, a, b => decide (a < b)
  | .leq, a, b => decide (a ≤ b)
  | .gtr, a, b => decide (a > b)
  | .geq, a, b => decide (a ≥ b)
  | _, _, _ => false
def Ar.std : Ar where
  bin := stdBin
  cmp := stdCmp
  conv k n := k.wrap n
  and a b := a && b
  not a := !a
  beq a b := a == b
  iteI c a b := if c then a else b
  iteB c a b := if c then a else b
  iteV c a b := if c then a else b
  lenI l := l.length
  lenE l := l.length
  atI l i := l.getD i.toNat 0
  atE l i := l.getD i.toNat []
  cutI l lo hi := (l.take hi.toNat).drop lo.toNat
  cutE l lo hi := (l.take hi.toNat).drop lo.toNat
  appI l m := l ++ m
  appE l m := l ++ m
  repI n := List.replicate n.toNat 0
  repE n x := List.replicate n.toNat x
  eqL l m := decide (l = m)
  byt l := l.map fun n => ((UInt8.ofNat n.toNat).toNat : Int)
  fits n b := decide (n * b ≤ 140737488355328)
  ri := Rx.ri
  rb := Rx.rb
  rl := Rx.rl
  rr := Rx.rr

/-! ## Symbolic values -/

inductive SC where
  | any
  | val (v : Value)
  | ptr (b off : Nat)
  | str (l : List Int)
  | sl (tk : Option (Nat × Nat × TypeId)) (c : Ct)      -- a slice by what it holds; tk: it may be appended to in place
  | rpi (k : IntKind) (n : Int)                          -- the place of a slice's number
  | rpe (s : Sh) (x : E) (j : Nat)                       -- the place of a slice's element, from its j-th cell on
inductive SA where
  | one (c : SC)
  | agg (cs : List SC)
inductive SV where
  | sa (x : SA)
  | tup (xs : List SA)
/-- A slot: under g it holds v; else it holds nothing. -/
structure Ent where
  g : Option Bool
  v : SV
inductive Blk where
  | cells (ty : TypeId) (cs : List SC)
  | tok (c : Nat) (alive : Bool)
structure St where
  slots : List Ent
  heap : List (Option Blk)

def Ent.nil : Ent := ⟨none, .sa (.one .any)⟩
def bytesL (s : ByteArray) : List Int := s.data.toList.map fun b => (b.toNat : Int)
def cellOf : Value → SC
  | .string s => .str (bytesL s)
  | v => .val v
def ofValue : Value → SA
  | .agg cs => if cs.toList.all Value.oneCell' then .agg (cs.toList.map cellOf) else .one (.val (.agg cs))
  | v => .one (cellOf v)
def evalE (st : St) : Operand → Ent
  | .tmp t => st.slots.getD t Ent.nil
  | .const v => ⟨none, .sa (ofValue v)⟩
  | .func f => ⟨none, .sa (.one (.val (.func (.func f) #[] #[])))⟩
  | .global g => ⟨none, .sa (.one (.val (.pointer (some ⟨g, 0, none⟩))))⟩
def need : Option Bool → Prop
  | none => True
  | some b => b = true
def gand (A : Ar) : Option Bool → Option Bool → Option Bool
  | none, g => g
  | g, none => g
  | some a, some b => some (A.and a b)

/-! ## Types -/
inductive TK where
  | int (k : IntKind)
  | bool
  | struct (fields : List (Nat × Nat × Bool × Nat))      -- of each field: place, cells, whether it is made of parts, how its one cell is held against another (1: an integer, 2: a bool, 0: otherwise)
  | array (len : Nat) (size : Nat) (agg : Bool)
  | slice (e : TypeId) (size : Nat)
  | str
  | other
structure TI where
  k : TK
  size : Nat
  zero : List Value
  eq : Bool         -- equality goes cell by cell

def TK.agg : TK → Bool
  | .struct _ | .array _ _ _ => true
  | _ => false
/-- How a field is held against another by its one cell. -/
def eqField (P : Program) (f : Field) : Nat :=
  if f.name != "_" then
    match P.underlying f.type with
    | some (.int _) => 1
    | some .bool => 2
    | _ => 0
  else 0
def aggB (P : Program) (t : TypeId) : Bool :=
  match P.underlying t with
  | some (.struct _) | some (.array _ _) => true
  | _ => false
/-- What the program's tables say of a type. -/
def tiOf (P : Program) (t : TypeId) : Option TI :=
  match P.info? t with
  | some i => match i.zero with
    | some z => match P.underlying t with
      | some (.int k) => some ⟨.int k, i.size, z.cells.toList, false⟩
      | some .bool => some ⟨.bool, i.size, z.cells.toList, false⟩
      | some (.struct fs) => if fs.toList.all fun f => (P.underlying f.type).isSome then some ⟨.struct (fs.toList.map fun f => (f.offset, P.cellsOf f.type, aggB P f.type, eqField P f)), i.size, z.cells.toList,
          fs.toList.all (fun f => !Nat.beq (eqField P f) 0) && (fs.toList.map (·.offset) == List.range fs.size) && !P.stoodInHeld t && !P.eqGuardType P.depth t⟩ else none
      | some (.array n e) => if (P.underlying e).isSome then some ⟨.array n (P.cellsOf e) (aggB P e), i.size, z.cells.toList, false⟩ else none
      | some (.slice e) => if (P.underlying e).isSome then some ⟨.slice e (P.cellsOf e), i.size, z.cells.toList, false⟩ else none
      | some .string => some ⟨.str, i.size, z.cells.toList, false⟩
      | some _ => some ⟨.other, i.size, z.cells.toList, false⟩
      | none => none
    | none => none
  | none => none

/-! ## Contracts of callees -/
abbrev Con := List SA → Option (Prop × SV)
structure Cx where
  tt : List (Nat × TI)
  fs : List (Nat × Con)
  hs : List (Nat × Ct)     -- of what kind the elements of a slice type are (only asked where a slice has none yet)
def look {α : Type} : List (Nat × α) → Nat → Option α
  | [], _ => none
  | (k, a) :: l, t => if Nat.beq k t then some a else look l t

/-! ## What an operation makes -/
structure Eff where
  side : Prop
  ent : Ent
  blk : List (Nat × Blk)

def cutCells (cs : List SC) (off n : Nat) : Option (List SC) :=
  if Nat.ble (off + n) cs.length then some ((cs.drop off).take n) else none
def pasteCells : List SC → Nat → List SC → List SC
  | cs, _, [] => cs
  | cs, off, x :: xs => pasteCells (cs.set off x) (off + 1) xs
def cellSide : SC → Prop
  | .any => False
  | .val v => v.oneCell' = true
  | _ => True
/-- A value's cells. -/
def SA.cells : SA → List SC
  | .one c => [c]
  | .agg cs => cs
def SA.side : SA → Prop
  | .one c => cellSide c
  | .agg _ => True
def ints : BinOp → Bool
  | .add | .sub | .mul | .and | .or | .xor | .andNot => true
  | _ => false
def cmps : BinOp → Bool
  | .eql | .neq | .lss | .leq | .gtr | .geq => true
  | _ => false
def kindEq : IntKind → IntKind → Bool := fun a b => Nat.beq a.ctorIdx b.ctorIdx
def eqCell (A : Ar) : Nat → SC → SC → Option Bool
  | 1, .val (.int k a), .val (.int k' b) => if kindEq k k' then some (A.cmp .eql a b) else none
  | 2, .val (.bool a), .val (.bool b) => some (A.beq a b)
  | _, _, _ => none
def eqCells (A : Ar) : List Nat → List SC → List SC → Option Bool
  | [], [], [] => some true
  | k :: ks, c :: cs, d :: ds =>
    match eqCell A k c d, eqCells A ks cs ds with
    | some a, some r => some (match ks with
      | [] => a
      | _ :: _ => A.and a r)
    | _, _ => none
  | _, _, _ => none
def bool1 (s : Prop) (b : Bool) : Option Eff := some ⟨s, ⟨none, .sa (.one (.val (.bool b)))⟩, []⟩
def int1 (s : Prop) (k : IntKind) (n : Int) : Option Eff := some ⟨s, ⟨none, .sa (.one (.val (.int k n)))⟩, []⟩
def effBin (A : Ar) (cx : Cx) (op : BinOp) (xt : TypeId) (x y : Ent) : Option Eff :=
  match x.v, y.v with
  | .sa (.one (.val (.int k a))), .sa (.one (.val (.int k' b))) =>
    match op with
    | .shl | .shr => int1 (need x.g ∧ need y.g ∧ A.cmp .lss b 0 = false) k (A.bin op k a b)
    | .quo | .rem => if kindEq k k' then int1 (need x.g ∧ need y.g ∧ A.cmp .eql b 0 = false) k (A.bin op k a b) else none
    | _ => if kindEq k k' then (if ints op then int1 (need x.g ∧ need y.g) k (A.bin op k a b) else if cmps op then bool1 (need x.g ∧ need y.g) (A.cmp op a b) else none) else none
  | .sa (.one (.val (.bool a))), .sa (.one (.val (.bool b))) =>
    match look cx.tt xt with
    | some ⟨.bool, _, _, _⟩ =>
      match op with
      | .eql => bool1 (need x.g ∧ need y.g) (A.beq a b)
      | .neq => bool1 (need x.g ∧ need y.g) (A.not (A.beq a b))
      | _ => none
    | _ => none
  | .sa (.one (.str l)), .sa (.one (.str m)) =>
    match op with
    | .eql => bool1 (need x.g ∧ need y.g) (A.eqL l m)
    | .neq => bool1 (need x.g ∧ need y.g) (A.not (A.eqL l m))
    | _ => none
  | .sa (.agg xs), .sa (.agg ys) =>
    match look cx.tt xt with
    | some ⟨.struct fs, _, _, true⟩ =>
      match eqCells A (fs.map fun f => f.2.2.2) xs ys with
      | some r =>
        match op with
        | .eql => bool1 (need x.g ∧ need y.g) r
        | .neq => bool1 (need x.g ∧ need y.g) (A.not r)
        | _ => none
      | none => none
    | _ => none
  | _, _ => none
def pickV (A : Ar) (c : Bool) : SV → SV → Option SV
  | .sa (.one (.val (.int k a))), .sa (.one (.val (.int k' b))) => if kindEq k k' then some (.sa (.one (.val (.int k (A.iteI c a b))))) else none
  | .sa (.one (.val (.bool a))), .sa (.one (.val (.bool b))) => some (.sa (.one (.val (.bool (A.iteB c a b)))))
  | .sa (.one (.val a)), .sa (.one (.val b)) => some (.sa (.one (.val (A.iteV c a b))))
  | _, _ => none
def sas : List Ent → Option (List SA)
  | [] => some []
  | ⟨_, .sa x⟩ :: l => (sas l).map (x :: ·)
  | _ => none
def needs : List Ent → Prop
  | [] => True
  | [e] => need e.g
  | e :: l => need e.g ∧ needs l
def fillS (place : Nat → Option (Nat × Nat)) (cells : List SC) : List (Nat × SA) → Option (List SC)
  | [] => some cells
  | (i, v) :: rest =>
    match place i with
    | none => none
    | some (off, size) => if Nat.beq v.cells.length size && Nat.ble (off + size) cells.length then fillS place (pasteCells cells off v.cells) rest else none
def sidesA : List SA → Prop
  | [] => True
  | [x] => x.side
  | x :: l => x.side ∧ sidesA l
def minmax (A : Ar) (op : BinOp) : Int → List SA → IntKind → Option Int
  | a, [], _ => some a
  | a, .one (.val (.int k b)) :: l, k0 => if kindEq k k0 then minmax A op (A.iteI (A.cmp op b a) b a) l k0 else none
  | _, _, _ => none

def loadS (cx : Cx) (blk : Option Blk) (off : Nat) (t : TypeId) : Option SA :=
  match look cx.tt t, blk with
  | some ti, some (.cells _ bc) => if ti.k.agg then match cutCells bc off ti.size with
      | some cs => some (.agg cs)
      | none => none
    else match cutCells bc off 1 with
      | some [c] => some (.one c)
      | _ => none
  | _, _ => none

def SC.pure : SC → Bool
  | .ptr _ _ | .sl (some _) _ | .rpi _ _ | .rpe _ _ _ => false
  | _ => true
def SA.pure : SA → Bool
  | .one c => c.pure
  | .agg cs => cs.all SC.pure
def SV.pure : SV → Bool
  | .sa x => x.pure
  | .tup xs => xs.all SA.pure
/-- The cells of an element, from its j-th on. -/
def shCells (A : Ar) : Sh → E → Nat → Nat → List SC
  | _, _, _, 0 => []
  | .nil, _, _, _ + 1 => []
  | .int k r, x, j, n + 1 => .val (.int k (A.ri x j)) :: shCells A r x (j + 1) n
  | .bool r, x, j, n + 1 => .val (.bool (A.rb x j)) :: shCells A r x (j + 1) n
  | .ints k r, x, j, n + 1 => .sl none (.ints k (A.rl x j)) :: shCells A r x (j + 1) n
  | .recs s r, x, j, n + 1 => .sl none (.recs s (A.rr x j)) :: shCells A r x (j + 1) n
def Ct.sz : Ct → Nat
  | .ints _ _ => 1
  | .recs s _ => s.size
def Ct.len (A : Ar) : Ct → Int
  | .ints _ l => A.lenI l
  | .recs _ l => A.lenE l
def Ct.cut (A : Ar) : Ct → Int → Int → Ct
  | .ints k l, lo, hi => .ints k (A.cutI l lo hi)
  | .recs s l, lo, hi => .recs s (A.cutE l lo hi)
/-- A bound of a slice expression, or what stands for it. -/
def bnd (st : St) (d : Int) : Option Operand → Option (Option Bool × Int)
  | none => some (none, d)
  | some x => match evalE st x with
    | ⟨g, .sa (.one (.val (.int _ i)))⟩ => some (g, i)
    | _ => none
/-- A value that is handed on: it may not be appended to in place. -/
def SC.plain : SC → SC
  | .sl _ c => .sl none c
  | c => c
def SA.plain : SA → SA
  | .one c => .one c.plain
  | .agg cs => .agg (cs.map SC.plain)

/-! ## New slices -/
def shOf : List SC → Option Sh
  | [] => some .nil
  | .val (.int k _) :: r => (shOf r).map (.int k)
  | .val (.bool _) :: r => (shOf r).map .bool
  | .sl _ (.ints k _) :: r => (shOf r).map (.ints k)
  | .sl _ (.recs s _) :: r => (shOf r).map (.recs s)
  | _ => none
def shEq : Sh → Sh → Bool
  | .nil, .nil => true
  | .int k r, .int k' r' => kindEq k k' && shEq r r'
  | .bool r, .bool r' => shEq r r'
  | .ints k r, .ints k' r' => kindEq k k' && shEq r r'
  | .recs s r, .recs s' r' => shEq s s' && shEq r r'
  | _, _ => false
/-- Cells as an element. -/
def toE : Sh → List SC → Option E
  | .nil, [] => some []
  | .int k r, .val (.int k' n) :: cs => if kindEq k k' then (toE r cs).map (D.int n :: ·) else none
  | .bool r, .val (.bool b) :: cs => (toE r cs).map (D.bool b :: ·)
  | .ints k r, .sl _ (.ints k' l) :: cs => if kindEq k k' then (toE r cs).map (D.ints l :: ·) else none
  | .ints _ r, .val (.slice none 0 0) :: cs => (toE r cs).map (D.ints [] :: ·)
  | .recs s r, .sl _ (.recs s' l) :: cs => if shEq s s' then (toE r cs).map (D.recs l :: ·) else none
  | .recs _ r, .val (.slice none 0 0) :: cs => (toE r cs).map (D.recs [] :: ·)
  | _, _ => none
def toEs (s : Sh) : List SA → Option (List E)
  | [] => some []
  | v :: l => match toE s v.cells, toEs s l with
    | some x, some xs => some (x :: xs)
    | _, _ => none
def toIs (k : IntKind) : List SA → Option (List Int)
  | [] => some []
  | .one (.val (.int k' n)) :: l => if kindEq k k' then (toIs k l).map (n :: ·) else none
  | _ => none
/-- What values are as a slice's elements, of so many cells each. -/
def mkCt (h : Option Ct) (sz : Nat) : List SA → Option Ct
  | [] => match h with
    | some (.ints k _) => if Nat.beq sz 1 then some (.ints k []) else none
    | some (.recs s _) => if Nat.beq s.size sz then some (.recs s []) else none
    | none => none
  | .one (.val (.int k a)) :: l => if Nat.beq sz 1 then (toIs k (.one (.val (.int k a)) :: l)).map (.ints k) else none
  | v :: l => match shOf v.cells with
    | some s => if Nat.beq s.size sz then (toEs s (v :: l)).map (.recs s) else none
    | none => none
def freeAt (st : St) (d : Nat) : Bool :=
  match st.heap.getD d none with
  | none => Nat.blt d st.heap.length
  | some _ => false
def idxs : List Nat → Nat → Nat → Bool
  | [], k, n => Nat.beq k n
  | i :: l, k, n => Nat.beq i k && idxs l (k + 1) n

def eff (A : Ar) (cx : Cx) (st : St) (dst : Option Tmp) : Op → Option Eff
  | .move x | .assign x => some ⟨True, evalE st x, []⟩
  | .pick c a b =>
    match evalE st c, evalE st a, evalE st b with
    | ⟨gc, .sa (.one (.val (.bool t)))⟩, ⟨ga, va⟩, ⟨gb, vb⟩ =>
      match pickV A t va vb with
      | some v => some ⟨need gc ∧ (t = false ∨ need ga) ∧ (t = true ∨ need gb), ⟨none, v⟩, []⟩
      | none => none
    | _, _, _ => none
  | .binOp op xt x y _ => effBin A cx op xt (evalE st x) (evalE st y)
  | .unOp op _ x =>
    match evalE st x, op with
    | ⟨g, .sa (.one (.val (.bool b)))⟩, .not => bool1 (need g) (A.not b)
    | ⟨g, .sa (.one (.val (.int k n)))⟩, .neg => int1 (need g) k (A.bin .sub k 0 n)
    | ⟨g, .sa (.one (.val (.int k n)))⟩, .xor => int1 (need g) k (A.bin .xor k (if k.signed then -1 else k.max) n)
    | _, _ => none
  | .convert src dt x =>
    match look cx.tt src, look cx.tt dt, evalE st x with
    | some ⟨.slice e _, _, _, _⟩, some ⟨.str, _, _, _⟩, ⟨g, .sa (.one (.sl _ (.ints .u8 l)))⟩ =>
      match look cx.tt e with
      | some ⟨.int .u8, _, _, _⟩ => some ⟨need g, ⟨none, .sa (.one (.str (A.byt l)))⟩, []⟩
      | _ => none
    | some _, some ⟨.int k, _, _, _⟩, ⟨g, .sa (.one (.val (.int _ n)))⟩ => int1 (need g) k (A.conv k n)
    | _, _, _ => none
  | .alloc t =>
    match dst, look cx.tt t with
    | some d, some ti => match st.heap.getD d none with
      | none => if Nat.blt d st.heap.length then some ⟨ti.zero.all Value.oneCell' = true, ⟨none, .sa (.one (.ptr d 0))⟩, [(d, .cells t (ti.zero.map cellOf))]⟩ else none
      | some _ => none
    | _, _ => none
  | .box t x =>
    match dst, evalE st x with
    | some d, ⟨g, .sa v⟩ => match st.heap.getD d none with
      | none => if Nat.blt d st.heap.length then some ⟨need g ∧ v.side, ⟨none, .sa (.one (.ptr d 0))⟩, [(d, .cells t v.cells)]⟩ else none
      | some _ => none
    | _, _ => none
  | .load t x =>
    match evalE st x with
    | ⟨g, .sa (.one (.ptr b off))⟩ => match loadS cx (st.heap.getD b none) off t with
      | some v => some ⟨need g, ⟨none, .sa v⟩, []⟩
      | none => none
    | ⟨g, .sa (.one (.rpi k n))⟩ => match look cx.tt t with
      | some ti => if ti.k.agg then none else some ⟨need g, ⟨none, .sa (.one (.val (.int k n)))⟩, []⟩
      | none => none
    | ⟨g, .sa (.one (.rpe s x j))⟩ => match look cx.tt t with
      | some ti => if ti.k.agg then
          (if Nat.ble ti.size s.size then some ⟨need g, ⟨none, .sa (.agg (shCells A s x j ti.size))⟩, []⟩ else none)
        else match shCells A s x j 1 with
          | [c] => some ⟨need g, ⟨none, .sa (.one c)⟩, []⟩
          | _ => none
      | none => none
    | _ => none
  | .store t x y =>
    match evalE st x, evalE st y, look cx.tt t with
    | ⟨g, .sa (.one (.ptr b off))⟩, ⟨g', .sa v⟩, some ti => match st.heap.getD b none with
      | some (.cells bt bc) => if Nat.beq v.cells.length ti.size && Nat.ble (off + ti.size) bc.length then some ⟨need g ∧ need g' ∧ v.side, Ent.nil, [(b, .cells bt (pasteCells bc off v.cells))]⟩ else none
      | _ => none
    | _, _, _ => none
  | .fieldAddr s x f =>
    match evalE st x, look cx.tt s with
    | ⟨g, .sa (.one (.ptr b off))⟩, some ⟨.struct fs, _, _, _⟩ => match fs[f]? with
      | some (o, n, _, _) => if Nat.beq n 0 then none else some ⟨need g, ⟨none, .sa (.one (.ptr b (off + o)))⟩, []⟩
      | none => none
    | ⟨g, .sa (.one (.rpe h y j))⟩, some ⟨.struct fs, _, _, _⟩ => match fs[f]? with
      | some (o, n, _, _) => if Nat.beq n 0 then none else some ⟨need g, ⟨none, .sa (.one (.rpe (h.drop o) y (j + o)))⟩, []⟩
      | none => none
    | _, _ => none
  | .field s x f =>
    match evalE st x, look cx.tt s with
    | ⟨g, .sa (.agg cs)⟩, some ⟨.struct fs, _, _, _⟩ => match fs[f]? with
      | some (o, n, true, _) => match cutCells cs o n with
        | some l => some ⟨need g, ⟨none, .sa (.agg l)⟩, []⟩
        | none => none
      | some (o, _, false, _) => match cutCells cs o 1 with
        | some [c] => some ⟨need g, ⟨none, .sa (.one c)⟩, []⟩
        | _ => none
      | none => none
    | _, _ => none
  | .build t ps =>
    match look cx.tt t, sas (ps.toList.map fun p => evalE st p.2) with
    | some ⟨.struct fs, _, z, _⟩, some vs => match fillS (fun i => (fs[i]?).map fun f => (f.1, f.2.1)) (z.map cellOf) ((ps.toList.map (·.1)).zip vs) with
      | some cs => some ⟨needs (ps.toList.map fun p => evalE st p.2) ∧ sidesA vs ∧ z.all Value.oneCell' = true, ⟨none, .sa (.agg cs)⟩, []⟩
      | none => none
    | some ⟨.array _ n _, _, z, _⟩, some vs => match fillS (fun i => some (i * n, n)) (z.map cellOf) ((ps.toList.map (·.1)).zip vs) with
      | some cs => some ⟨needs (ps.toList.map fun p => evalE st p.2) ∧ sidesA vs ∧ z.all Value.oneCell' = true, ⟨none, .sa (.agg cs)⟩, []⟩
      | none => none
    | _, _ => none
  | .buildSlice t n ps =>
    match dst, look cx.tt t, sas (ps.toList.map fun p => evalE st p.2) with
    | some d, some ⟨.slice e sz, _, _, _⟩, some vs => match mkCt (look cx.hs t) sz vs, look cx.tt e with
      | some ct, some _ => if freeAt st d && (idxs (ps.toList.map (·.1)) 0 n && (Nat.ble 1 sz && (Nat.ble (n * sz) 16777216 && vs.all fun v => Nat.beq v.cells.length sz))) then
          some ⟨needs (ps.toList.map fun p => evalE st p.2) ∧ sidesA vs, ⟨none, .sa (.one (.sl (some (d, 0, e)) ct))⟩, [(d, .tok 0 true)]⟩ else none
      | _, _ => none
    | _, _, _ => none
  | .indexAddr t x ix =>
    match evalE st x, evalE st ix, look cx.tt t with
    | ⟨g, .sa (.one (.sl _ (.ints k l)))⟩, ⟨g', .sa (.one (.val (.int _ i)))⟩, some ⟨.slice _ n, _, _, _⟩ =>
      if Nat.beq n 1 then some ⟨need g ∧ need g' ∧ A.cmp .geq i 0 = true ∧ A.cmp .lss i (A.lenI l) = true, ⟨none, .sa (.one (.rpi k (A.atI l i)))⟩, []⟩ else none
    | ⟨g, .sa (.one (.sl _ (.recs s l)))⟩, ⟨g', .sa (.one (.val (.int _ i)))⟩, some ⟨.slice _ n, _, _, _⟩ =>
      if Nat.beq n s.size then some ⟨need g ∧ need g' ∧ A.cmp .geq i 0 = true ∧ A.cmp .lss i (A.lenE l) = true, ⟨none, .sa (.one (.rpe s (A.atE l i) 0))⟩, []⟩ else none
    | _, _, _ => none
  | .slice t x lo hi mx =>
    match evalE st x, look cx.tt t, mx with
    | ⟨g, .sa (.one (.sl _ ct))⟩, some ⟨.slice _ n, _, _, _⟩, none =>
      match bnd st 0 lo, bnd st (ct.len A) hi with
      | some (g1, l), some (g2, h) =>
        if Nat.beq n ct.sz then some ⟨need g ∧ need g1 ∧ need g2 ∧ A.cmp .geq l 0 = true ∧ A.cmp .leq l h = true ∧ A.cmp .leq h (ct.len A) = true, ⟨none, .sa (.one (.sl none (ct.cut A l h)))⟩, []⟩ else none
      | _, _ => none
    | _, _, _ => none
  | .extract x i =>
    match evalE st x with
    | ⟨g, .tup xs⟩ => match xs[i]? with
      | some a => some ⟨need g, ⟨none, .sa a⟩, []⟩
      | none => none
    | _ => none
  | .call c =>
    match c.callee with
    | .value (.func f) => match look cx.fs f, sas (c.args.toList.map (evalE st)) with
      | some con, some vs => match con (vs.map SA.plain) with
        | some (C, r) => if (vs.map SA.plain).all SA.pure && r.pure then some ⟨needs (c.args.toList.map (evalE st)) ∧ C, ⟨none, r⟩, []⟩ else none
        | none => none
      | _, _ => none
    | .builtin .len => match c.argTypes.toList, sas (c.args.toList.map (evalE st)) with
      | [t], some [.one (.sl _ ct)] => match look cx.tt t with
        | some ⟨.slice _ _, _, _, _⟩ => int1 (needs (c.args.toList.map (evalE st))) .i64 (ct.len A)
        | _ => none
      | [t], some [.one (.str l)] => match look cx.tt t with
        | some ⟨.str, _, _, _⟩ => int1 (needs (c.args.toList.map (evalE st))) .i64 (A.lenI l)
        | _ => none
      | _, _ => none
    | .builtin .min => match sas (c.args.toList.map (evalE st)) with
      | some (.one (.val (.int k a)) :: l) => (minmax A .lss a l k).bind fun n => int1 (needs (c.args.toList.map (evalE st))) k n
      | _ => none
    | .builtin .max => match sas (c.args.toList.map (evalE st)) with
      | some (.one (.val (.int k a)) :: l) => (minmax A .gtr a l k).bind fun n => int1 (needs (c.args.toList.map (evalE st))) k n
      | _ => none
    | _ => none
  | _ => none

def St.put (st : St) (dst : Option Tmp) (e : Ent) : St :=
  match dst with
  | some d => { st with slots := st.slots.set d e }
  | none => st
def setAll (h : List (Option Blk)) (l : List (Nat × Blk)) : List (Option Blk) := l.foldl (fun h p => h.set p.1 (some p.2)) h
def St.app (st : St) (dst : Option Tmp) (E : Eff) : St := { (st.put dst E.ent) with heap := setAll st.heap E.blk }
/-- What a guard comes to: the op is wanted just if this is true. -/
def wantG (A : Ar) (ops : List Oper) (st : St) : Option (Nat × Bool) → Option (Option Bool)
  | none => some none
  | some (j, want) =>
    match ops[j]? with
    | some o => match o.dst with
      | some t => match st.slots.getD t Ent.nil with
        | ⟨g, .sa (.one (.val (.bool c)))⟩ => some (gand A g (some (if want then c else A.not c)))
        | _ => none
      | none => none
    | none => none
def under (ge : Option Bool) (C : Prop) : Prop :=
  match ge with
  | none => C
  | some b => b = false ∨ C
/-- An operation with its guard. -/
def effG (A : Ar) (cx : Cx) (ops : List Oper) (st : St) (o : Oper) : Option Eff :=
  match wantG A ops st o.guard with
  | some none => eff A cx st o.dst o.op
  | some (some b) => match eff A cx st o.dst o.op with
    | some ⟨C, e, []⟩ => some ⟨b = false ∨ C, ⟨gand A (some b) e.g, e.v⟩, []⟩
    | _ => none
  | none => none
/-- The blocks that an operation looks at or writes. -/
def ptrBlk : Ent → List Nat
  | ⟨_, .sa (.one (.ptr b _))⟩ => [b]
  | _ => []
def foot (st : St) (o : Oper) : List Nat :=
  match o.op with
  | .load _ x | .store _ x _ => ptrBlk (evalE st x)
  | .alloc _ | .box _ _ | .buildSlice _ _ _ => o.dst.toList
  | _ => []
/-- An operation that has been reckoned. -/
structure It where
  i : Nat
  o : Oper
  side : Prop
  wb : List Nat
  ft : List Nat
def runT (A : Ar) (cx : Cx) (ops : List Oper) : List (Nat × Oper) → St → Option (List It × St)
  | [], st => some ([], st)
  | (i, o) :: l, st => match effG A cx ops st o with
    | some E => match runT A cx ops l (st.app o.dst E) with
      | some (T, st') => some (⟨i, o, E.side, E.blk.map (·.1), foot st o⟩ :: T, st')
      | none => none
    | none => none
def sides : List It → Prop
  | [] => True
  | x :: T => x.side ∧ sides T
def free1 (bs l : List Nat) : Bool := bs.all fun b => l.all fun c => !Nat.beq b c
/-- Two operations that may change places. -/
def pairB (ops : List Oper) (x y : It) : Bool :=
  y.o.after.toList.any (fun e => Region.binds .any e && Nat.beq e.on x.i) || (x.o.apart ops.toArray y.o && free1 x.wb y.ft && free1 y.wb x.ft)
def pairsB (ops : List Oper) : List It → Bool
  | [] => true
  | x :: T => T.all (pairB ops x) && pairsB ops T
def withIdx : Nat → List Oper → List (Nat × Oper)
  | _, [] => []
  | i, o :: l => (i, o) :: withIdx (i + 1) l

/-- Edges lead back. -/
def backB : Nat → List Oper → Bool
  | _, [] => true
  | i, o :: l => o.after.toList.all (fun e => !Region.binds .any e || Nat.blt e.on i) && backB (i + 1) l

inductive Ex where
  | normal
  | exit (id : Nat)
  | ret
/-- What is left to show of a function's code. L: what is said of loops. -/
def ex (A : Ar) (cx : Cx) (L : Code → St → (Ex → St → Prop) → Prop) : Code → St → (Ex → St → Prop) → Prop
  | .skip, s, K => K .normal s
  | .region _ ops draw, s, K => match runT A cx ops.toList (withIdx 0 ops.toList) s with
    | some (T, s') => match draw && !(pairsB ops.toList T && backB 0 ops.toList) with
      | true => False
      | false => sides T ∧ K .normal s'
    | none => False
  | .seq a b, s, K => ex A cx L a s (fun e s' => match e with
    | .normal => ex A cx L b s' K
    | e => K e s')
  | .cond c a b, s, K => match evalE s c with
    | ⟨none, .sa (.one (.val (.bool t)))⟩ => (t = false ∨ ex A cx L a s K) ∧ (t = true ∨ ex A cx L b s K)
    | _ => False
  | .block id c, s, K => ex A cx L c s (fun e s' => match e with
    | .exit i => if Nat.beq i id then K .normal s' else K (.exit i) s'
    | e => K e s')
  | .exit id, s, K => K (.exit id) s
  | .ret, s, K => K .ret s
  | .loop c, s, K => L c s K
  | _, _, _ => False
/-- A state that says no more than another one. -/
def ctLe : Ct → Ct → Prop
  | .ints k l, .ints k' l' => k = k' ∧ l = l'
  | .recs s l, .recs s' l' => s = s' ∧ l = l'
  | _, _ => False
def SC.le : SC → SC → Prop
  | _, .any => True
  | .val u, .val v => u = v
  | .ptr b o, .ptr b' o' => b = b' ∧ o = o'
  | .str l, .str l' => l = l'
  | .sl _ c, .sl none c' => ctLe c c'
  | _, _ => False
def cellsLe : List SC → List SC → Prop
  | [], [] => True
  | x :: xs, y :: ys => x.le y ∧ cellsLe xs ys
  | _, _ => False
def SV.le : SV → SV → Prop
  | _, .sa (.one .any) => True
  | .sa (.one x), .sa (.one y) => x.le y
  | .sa (.agg xs), .sa (.agg ys) => cellsLe xs ys
  | _, _ => False
def entLe : Ent → Ent → Prop
  | _, ⟨none, .sa (.one .any)⟩ => True
  | ⟨none, x⟩, ⟨none, y⟩ => x.le y
  | _, _ => False
def entsLe : List Ent → List Ent → Prop
  | [], [] => True
  | x :: xs, y :: ys => entLe x y ∧ entsLe xs ys
  | _, _ => False
def heapLe : List (Option Blk) → List (Option Blk) → Prop
  | [], [] => True
  | _ :: xs, none :: ys => heapLe xs ys
  | some (.cells t x) :: xs, some (.cells u y) :: ys => (t = u ∧ cellsLe x y) ∧ heapLe xs ys
  | _, _ => False
/-- No place of a block that the state does not have. -/
def hasB (h : List (Option Blk)) (b : Nat) : Bool :=
  match h.getD b none with
  | some (.cells _ _) => true
  | _ => false
def ptrOk (h : List (Option Blk)) : SC → Bool
  | .ptr b _ => hasB h b
  | .sl (some _) _ | .rpi _ _ | .rpe _ _ _ => false
  | _ => true
def saOk (h : List (Option Blk)) : SA → Bool
  | .one c => ptrOk h c
  | .agg cs => cs.all (ptrOk h)
def svOk (h : List (Option Blk)) : SV → Bool
  | .sa x => saOk h x
  | .tup xs => xs.all (saOk h)
def St.ok (st : St) : Bool := st.slots.all (fun e => svOk st.heap e.v) && st.heap.all (fun b => match b with
  | some (.cells _ k) => k.all (ptrOk st.heap)
  | _ => true)
def St.le (s t : St) : Prop := entsLe s.slots t.slots ∧ heapLe s.heap t.heap ∧ t.ok = true

/-! ## Where a function begins, and what it hands back -/
def start (n : Nat) (args : List SA) : St := ⟨args.map (fun x => ⟨none, .sa x⟩) ++ List.replicate (n - args.length) Ent.nil, List.replicate n none⟩
def resE (cx : Cx) (st : St) : ResultVar → Option SA
  | .tmp t => match evalE st (.tmp t) with
    | ⟨none, .sa x⟩ => some x
    | _ => none
  | .cell a t => match evalE st (.tmp a) with
    | ⟨none, .sa (.one (.ptr b off))⟩ => loadS cx (st.heap.getD b none) off t
    | _ => none
def resL (cx : Cx) (st : St) : List ResultVar → Option (List SA)
  | [] => some []
  | r :: l => match resE cx st r, resL cx st l with
    | some x, some xs => some (x :: xs)
    | _, _ => none
def resV (xs : List SA) : SV :=
  match xs with
  | [x] => .sa x
  | xs => .tup xs
/-- What a function's end has to show. -/
def fin (cx : Cx) (rs : List ResultVar) (R : List SA → Prop) : Ex → St → Prop
  | .exit _, _ => False
  | _, st => match resL cx st rs with
    | some xs => R (xs.map SA.plain)
    | none => False
def saLe : SA → SA → Prop
  | _, .one .any => True
  | .one x, .one y => x.le y
  | .agg xs, .agg ys => cellsLe xs ys
  | _, _ => False
def sasLe : List SA → List SA → Prop
  | [], [] => True
  | [x], [y] => saLe x y
  | x :: xs, y :: ys => saLe x y ∧ sasLe xs ys
  | _, _ => False
/-- The results are what r says. -/
def hands (r : SV) (xs : List SA) : Prop :=
  match r with
  | .sa y => match xs with
    | [x] => saLe x y
    | _ => False
  | .tup ys => match ys with
    | [_] => False
    | ys => sasLe xs ys
end Go.Proofs.Ytcbfccadodikgaa.Rx
