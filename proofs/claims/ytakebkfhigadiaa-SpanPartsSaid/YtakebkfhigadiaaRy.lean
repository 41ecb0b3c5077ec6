/-
  A reckoner of what a function's code makes of a symbolic state: slots, and blocks of cells that are the call's own; its rules. No condition.
-/
import Derived.WalkKit
import Derived.Below
import Derived.Scope
namespace Go.Proofs.Ytakebkfhigadiaa.Ry
open Go

/-! ## What slices hold -/
/-! Numbers are compared so that a reckoning does it at once. -/
def eqn (a b : Nat) : Bool := a == b
def lee (a b : Nat) : Bool := decide (a ≤ b)
@[simp] theorem eqn_iff {a b : Nat} : (eqn a b = true) ↔ a = b := by simp [eqn]
@[simp] theorem eqn_not {a b : Nat} : (eqn a b = false) ↔ ¬ a = b := by simp [eqn]
@[simp] theorem lee_iff {a b : Nat} : (lee a b = true) ↔ a ≤ b := by simp [lee]
@[simp] theorem lee_not {a b : Nat} : (lee a b = false) ↔ b < a := by simp [lee]
theorem eqn_eq {a b : Nat} (h : eqn a b = true) : a = b := eqn_iff.1 h
theorem lee_le {a b : Nat} (h : lee a b = true) : a ≤ b := lee_iff.1 h
@[simp] theorem eqn_refl (a : Nat) : eqn a a = true := eqn_iff.2 rfl
/-- An element's cells. -/
inductive D where
  | int (n : Int)
  | bool (b : Bool)
  | str (l : List Int)
  | ints (l : List Int)
  | recs (l : List (List D))
abbrev E := List D
def ri (x : E) (j : Nat) : Int :=
  match x[j]? with
  | some (.int n) => n
  | _ => 0
def rb (x : E) (j : Nat) : Bool :=
  match x[j]? with
  | some (.bool b) => b
  | _ => false
def rs (x : E) (j : Nat) : List Int :=
  match x[j]? with
  | some (.str l) => l
  | _ => []
def rl (x : E) (j : Nat) : List Int :=
  match x[j]? with
  | some (.ints l) => l
  | _ => []
def rr (x : E) (j : Nat) : List E :=
  match x[j]? with
  | some (.recs l) => l
  | _ => []
/-- The kinds of an element's cells. -/
inductive Sh where
  | nil
  | int (k : IntKind) (r : Sh)
  | bool (r : Sh)
  | str (r : Sh)
  | ints (k : IntKind) (r : Sh)
  | recs (s : Sh) (r : Sh)
def Sh.size : Sh → Nat
  | .nil => 0
  | .int _ r => r.size + 1
  | .bool r => r.size + 1
  | .str r => r.size + 1
  | .ints _ r => r.size + 1
  | .recs _ r => r.size + 1
def Sh.drop : Sh → Nat → Sh
  | s, 0 => s
  | .nil, _ + 1 => .nil
  | .int _ r, n + 1 => r.drop n
  | .bool r, n + 1 => r.drop n
  | .str r, n + 1 => r.drop n
  | .ints _ r, n + 1 => r.drop n
  | .recs _ r, n + 1 => r.drop n
/-- An element of zeros. -/
def Sh.zero : Sh → E
  | .nil => []
  | .int _ r => .int 0 :: r.zero
  | .bool r => .bool false :: r.zero
  | .str r => .str [] :: r.zero
  | .ints _ r => .ints [] :: r.zero
  | .recs _ r => .recs [] :: r.zero
inductive Ct where
  | ints (k : IntKind) (l : List Int)
  | recs (s : Sh) (l : List E)

/-! ## Arithmetic, as one record: a reckoning leaves it closed. -/
structure Ar where
  bin : BinOp → IntKind → Int → Int → Int
  cmp : BinOp → Int → Int → Bool
  conv : IntKind → Int → Int
  and : Bool → Bool → Bool
  not : Bool → Bool
  beq : Bool → Bool → Bool
  iteI : Bool → Int → Int → Int
  iteB : Bool → Bool → Bool → Bool
  lenI : List Int → Int
  lenE : List E → Int
  atI : List Int → Int → Int
  atE : List E → Int → E
  cutI : List Int → Int → Int → List Int
  cutE : List E → Int → Int → List E
  appI : List Int → List Int → List Int
  appE : List E → List E → List E
  setI : List Int → Int → Int → List Int
  setE : List E → Int → E → List E
  cpyI : List Int → List Int → List Int
  cpyE : List E → List E → List E
  repI : Int → List Int
  repE : Int → E → List E
  eqL : List Int → List Int → Bool
  ltL : List Int → List Int → Bool
  byt : List Int → List Int
  fits : Int → Int → Bool
  ri : E → Nat → Int
  rb : E → Nat → Bool
  rs : E → Nat → List Int
  rl : E → Nat → List Int
  rr : E → Nat → List E
  mget : List (Int × Int) → Int → Int
  mhas : List (Int × Int) → Int → Bool
  mput : List (Int × Int) → Int → Int → List (Int × Int)
  mlen : List (Int × Int) → Int
  zerI : List Int → Int → List Int
  zerE : E → List E → Int → List E

/-! A map of numbers to numbers, as its entries in the order in which they came. -/
def mget (l : List (Int × Int)) (k : Int) : Int :=
  match l.find? fun p => p.1 == k with
  | some p => p.2
  | none => 0
def mhas (l : List (Int × Int)) (k : Int) : Bool := l.any fun p => p.1 == k
def mput (l : List (Int × Int)) (k v : Int) : List (Int × Int) := if mhas l k = true then l.map fun p => if p.1 == k then (k, v) else p else l ++ [(k, v)]
def stdBin : BinOp → IntKind → Int → Int → Int
  | .add, k, a, b => k.wrap (a + b)
  | .sub, k, a, b => k.wrap (a - b)
  | .mul, k, a, b => k.wrap (a * b)
  | .quo, k, a, b => k.wrap (a.tdiv b)
  | .rem, _, a, b => a.tmod b
  | .shl, k, a, b => k.wrap (a * 2 ^ (min b.toNat k.bits))
  | .shr, k, a, b => a.fdiv (2 ^ (min b.toNat k.bits))
  | op, k, a, b => bits op k a b
def stdCmp : BinOp → Int → Int → Bool
  | .eql, a, b => a == b
  | .neq, a, b => a != b
  | .lss, a, b => decide (a < b)
  | .leq, a, b => decide (a ≤ b)
  | .gtr, a, b => decide (a > b)
  | .geq, a, b => decide (a ≥ b)
  | _, _, _ => false
/-- The order of strings. -/
def ltInts : List Int → List Int → Bool
  | _, [] => false
  | [], _ :: _ => true
  | a :: x, b :: y => decide (a < b) || (a == b && ltInts x y)
def Ar.std : Ar where
  bin := stdBin
  cmp := stdCmp
  conv k n := k.wrap n
  and a b := a && b
  not a := !a
  beq a b := a == b
  iteI c a b := if c then a else b
  iteB c a b := if c then a else b
  lenI l := l.length
  lenE l := l.length
  atI l i := l.getD i.toNat 0
  atE l i := l.getD i.toNat []
  cutI l lo hi := (l.take hi.toNat).drop lo.toNat
  cutE l lo hi := (l.take hi.toNat).drop lo.toNat
  appI l m := l ++ m
  appE l m := l ++ m
  setI l i v := l.set i.toNat v
  setE l i v := l.set i.toNat v
  cpyI l m := m.take l.length ++ l.drop m.length
  cpyE l m := m.take l.length ++ l.drop m.length
  repI n := List.replicate n.toNat 0
  repE n x := List.replicate n.toNat x
  eqL l m := decide (l = m)
  ltL := ltInts
  byt l := l.map fun n => ((UInt8.ofNat n.toNat).toNat : Int)
  fits n b := decide (n * b ≤ 140737488355328)
  ri := Ry.ri
  rb := Ry.rb
  rs := Ry.rs
  rl := Ry.rl
  rr := Ry.rr
  mget := Ry.mget
  mhas := Ry.mhas
  mput := Ry.mput
  mlen l := l.length
  zerI l i := l.take i.toNat ++ List.replicate (l.length - i.toNat) 0
  zerE z l i := l.take i.toNat ++ List.replicate (l.length - i.toNat) z
/-- Literals are reckoned at once. -/
def Ar.lit (A : Ar) : Bool → Ar
  | true => Ar.std
  | false => A

/-! ## Symbolic values -/
inductive SC where
  | any
  | val (v : Value)
  | num (k : IntKind) (n : Int)                          -- a literal
  | tf (b : Bool)                                        -- a literal
  | ptr (n off : Nat)
  | fn (g n : Nat)                                       -- a function bound to the address of a block
  | fn2 (g n k : Nat)                                    -- .. to the addresses of two
  | cpp (n off : Nat)                                    -- a place that nobody writes, where a pointer to a block stands
  | fnp (g n off : Nat)                                  -- a function bound to such a place
  | vw (n : Nat) (l : Int)                               -- what of a row of one's own stands from its l-th element on
  | str (l : List Int)
  | sl (tk : Option (Nat × TypeId)) (c : Ct)             -- a slice by what it holds; tk: it may be appended to in place
  | nil1                                                 -- a slice of one slice that is nil
  | own (n : Nat)                                        -- the slice that is all of a row of one's own
  | mp (n : Nat)                                         -- a map of one's own
  | rp (n : Nat) (i : Int) (j : Nat)                     -- a place in a row of one's own: of the i-th element the j-th cell
  | rpi (k : IntKind) (n : Int)                          -- the place of a slice's number
  | rpe (s : Sh) (x : E) (j : Nat)                       -- the place of a slice's element, from its j-th cell on
inductive SA where
  | one (c : SC)
  | agg (cs : List SC)
  | blob (c : Ct)                                        -- an array by what it holds
inductive SV where
  | sa (x : SA)
  | tup (xs : List SA)
/-- A slot: under g it holds v; else it holds nothing. -/
structure Ent where
  g : Option Bool
  v : SV
inductive Blk where
  | cells (ty : TypeId) (cs : List SC)
  | row (ty : TypeId) (c : Ct)
  | rr (ty e : TypeId) (c : Ct) (hole : Option Int)       -- a row of slices, each of which may be appended to in place (but the one that was taken out)
  | frz (c : Ct)
  | emp (ty : TypeId)                                    -- of a slice that has nothing, and no room
  | mp (l : List (Int × Int))
  | past (d sz : Nat) (q : Int)                          -- a row that was cut: what stands behind its q-th element is block d
  | tok
  | dead
abbrev H := List (Nat × Blk)
def hget : H → Nat → Option Blk
  | [], _ => none
  | (k, b) :: l, n => match eqn k n with
    | true => some b
    | false => hget l n
def hset : H → Nat → Blk → H
  | [], n, b => [(n, b)]
  | (k, c) :: l, n, b => match eqn k n with
    | true => (k, b) :: l
    | false => match lee n k with
      | true => (n, b) :: (k, c) :: l
      | false => (k, c) :: hset l n b
structure St where
  slots : List Ent
  heap : H
  gs : List SA          -- the arguments, as they stand now

def Ent.nil : Ent := ⟨none, .sa (.one .any)⟩
/-- What an operation leaves that is not done. -/
def Ent.off : Ent := ⟨some false, .sa (.one (.tf true))⟩
def bytesL (s : ByteArray) : List Int := s.data.toList.map fun b => (b.toNat : Int)
def cellOf : Value → SC
  | .string s => .str (bytesL s)
  | .int k n => .num k n
  | .bool b => .tf b
  | v => .val v
def ofValue : Value → SA
  | .agg cs => if cs.toList.all Value.oneCell' then .agg (cs.toList.map cellOf) else .one (.val (.agg cs))
  | v => .one (cellOf v)
def evalE (st : St) : Operand → Ent
  | .tmp t => st.slots.getD t Ent.nil
  | .const v => ⟨none, .sa (ofValue v)⟩
  | .func f => ⟨none, .sa (.one (.val (.func (.func f) #[] #[])))⟩
  | .global g => ⟨none, .sa (.one (.val (.pointer (some ⟨g, 0, none⟩))))⟩
def need : Option Bool → Prop
  | none => True
  | some b => b = true
def gand (A : Ar) : Option Bool → Option Bool → Option Bool
  | none, g => g
  | g, none => g
  | some a, some b => some (A.and a b)
def SC.int? : SC → Option (IntKind × Int)
  | .val (.int k n) => some (k, n)
  | .num k n => some (k, n)
  | _ => none
def SC.bool? : SC → Option Bool
  | .val (.bool b) => some b
  | .tf b => some b
  | _ => none
def SC.lit : SC → Bool
  | .num _ _ | .tf _ => true
  | _ => false
def mkI (l : Bool) (k : IntKind) (n : Int) : SC :=
  match l with
  | true => .num k n
  | false => .val (.int k n)
def mkB (l : Bool) (b : Bool) : SC :=
  match l with
  | true => .tf b
  | false => .val (.bool b)
/-- A literal as any other number. -/
def SC.dull : SC → SC
  | .num k n => .val (.int k n)
  | .tf b => .val (.bool b)
  | c => c

/-! ## Types -/
inductive TK where
  | int (k : IntKind)
  | bool
  | struct (fields : List (Nat × Nat × Bool × List Nat))      -- of each field: place, cells, whether it is made of parts, how its one cell is held against another (1: an integer, 2: a bool, 0: otherwise)
  | array (len : Nat) (size : Nat) (agg : Bool)
  | slice (e : TypeId) (size : Nat)
  | str
  | ptr
  | mapII
  | other
structure TI where
  k : TK
  size : Nat
  zero : List Value
  eq : Bool         -- equality goes cell by cell
  flat : Option Sh  -- all cells are zeros of one kind

def TK.agg : TK → Bool
  | .struct _ | .array _ _ _ => true
  | _ => false
/-- How a field is held against another by its one cell. -/
def eqOne (P : Program) (f : Field) : Nat :=
  if f.name != "_" then
    match P.underlying f.type with
    | some (.int _) => 1
    | some .bool => 2
    | _ => 0
  else 0
/-- How a field is held against another, cell by cell: of one cell, or a struct of such. -/
def eqField (P : Program) (f : Field) : List Nat :=
  if !eqn (eqOne P f) 0 then [eqOne P f]
  else match P.underlying f.type with
    | some (.struct gs) => if f.name != "_" && gs.toList.all (fun g => !eqn (eqOne P g) 0) && (gs.toList.map (·.offset) == List.range gs.size) && !P.stoodInHeld f.type && eqn (P.cellsOf f.type) gs.size && (P.info? f.type).isSome then gs.toList.map (eqOne P) else []
    | _ => []
def aggB (P : Program) (t : TypeId) : Bool :=
  match P.underlying t with
  | some (.struct _) | some (.array _ _) => true
  | _ => false
/-- A zero's kind. -/
def zk : Value → Option Sh
  | .int k _ => some (.int k .nil)
  | .bool _ => some (.bool .nil)
  | _ => none
def zIs : Sh → Value → Bool
  | .int k .nil, .int k' n => eqn k.ctorIdx k'.ctorIdx && n == 0
  | .bool .nil, .bool b => !b
  | _, _ => false
def flatOf (z : List Value) : Option Sh :=
  match z with
  | [] => none
  | v :: l => match zk v with
    | some s => if (v :: l).all (zIs s) then some s else none
    | none => none
/-- So many zeros of one kind. -/
def flatCt (A : Ar) (n : Int) : Sh → Ct
  | .int k _ => .ints k (A.repI n)
  | s => .recs s (A.repE n s.zero)
/-- Arrays of numbers are held against each other place by place. -/
def arrEq (P : Program) (t e : TypeId) : Bool :=
  (match P.underlying e with
  | some (.int _) => true
  | _ => false) && eqn (P.cellsOf e) 1 && !P.eqGuardType P.depth t
def zeroII (P : Program) (e : TypeId) : Bool :=
  match P.info? e with
  | some i => match i.zero with
    | some (.int .i64 n) => n == 0
    | _ => false
  | none => false
/-- A map of numbers to numbers, or another one. -/
def mapT (P : Program) (k e : TypeId) (n : Nat) (z : List Value) : Option TI :=
  match P.underlying k, P.underlying e, zeroII P e with
  | some (.int .i64), some (.int .i64), true => some ⟨.mapII, n, z, false, none⟩
  | _, _, _ => some ⟨.other, n, z, false, none⟩
/-- What the program's tables say of a type. -/
def tiOf (P : Program) (t : TypeId) : Option TI :=
  match P.info? t with
  | some i => match i.zero with
    | some z => match P.underlying t with
      | some (.int k) => some ⟨.int k, i.size, z.cells.toList, false, none⟩
      | some .bool => some ⟨.bool, i.size, z.cells.toList, false, none⟩
      | some (.struct fs) => if fs.toList.all fun f => (P.underlying f.type).isSome then some ⟨.struct (fs.toList.map fun f => (f.offset, P.cellsOf f.type, aggB P f.type, eqField P f)), i.size, z.cells.toList,
          fs.toList.all (fun f => !(eqField P f).isEmpty) && fs.toList.dropLast.all (fun f => !eqn (eqOne P f) 0) && (fs.toList.map (·.offset) == List.range fs.size) && !P.stoodInHeld t && !P.eqGuardType P.depth t, none⟩ else none
      | some (.array n e) => if (P.underlying e).isSome then some ⟨.array n (P.cellsOf e) (aggB P e), i.size, z.cells.toList, arrEq P t e, flatOf z.cells.toList⟩ else none
      | some (.slice e) => if (P.underlying e).isSome then some ⟨.slice e (P.cellsOf e), i.size, z.cells.toList, false, none⟩ else none
      | some .string => some ⟨.str, i.size, z.cells.toList, false, none⟩
      | some (.pointer _) => some ⟨.ptr, i.size, z.cells.toList, false, none⟩
      | some (.map k e) => mapT P k e i.size z.cells.toList
      | some _ => some ⟨.other, i.size, z.cells.toList, false, none⟩
      | none => none
    | none => none
  | none => none

/-! ## Contracts of callees -/
/-- What a call asks for, hands back, and leaves. -/
structure Post where
  C : Prop
  r : SV
  h : H
  as : List SA
abbrev Con := List SA → H → Option Post
structure Cx where
  tt : List (Nat × TI)
  fs : List (Nat × Con)
  hs : List (Nat × Ct)     -- of what kind the elements of a slice type are (only asked where a slice has none yet)
  bs : List (Nat × Nat)    -- how many bytes a value of a type has
def look {α : Type} : List (Nat × α) → Nat → Option α
  | [], _ => none
  | (k, a) :: l, t => match eqn k t with
    | true => some a
    | false => look l t

/-! ## What an operation makes -/
structure Eff where
  side : Prop
  ent : Ent
  blk : List (Nat × Blk)

def cutCells (cs : List SC) (off n : Nat) : Option (List SC) :=
  match lee (off + n) cs.length with
  | true => some ((cs.drop off).take n)
  | false => none
def pasteCells : List SC → Nat → List SC → List SC
  | cs, _, [] => cs
  | cs, off, x :: xs => pasteCells (cs.set off x) (off + 1) xs
def cellSide : SC → Prop
  | .any => False
  | .val v => v.oneCell' = true
  | _ => True
/-- A value's cells. -/
def SA.cells : SA → List SC
  | .one c => [c]
  | .agg cs => cs
  | .blob _ => []
def SA.side : SA → Prop
  | .one c => cellSide c
  | .agg _ => True
  | .blob _ => False
def ints : BinOp → Bool
  | .add | .sub | .mul | .and | .or | .xor | .andNot => true
  | _ => false
def cmps : BinOp → Bool
  | .eql | .neq | .lss | .leq | .gtr | .geq => true
  | _ => false
def kindEq : IntKind → IntKind → Bool := fun a b => eqn a.ctorIdx b.ctorIdx
def eqCell (A : Ar) : Nat → SC → SC → Option Bool
  | 1, c, d => match c.int?, d.int? with
    | some (k, a), some (k', b) => match kindEq k k' with
      | true => some (A.cmp .eql a b)
      | false => none
    | _, _ => none
  | 2, c, d => match c.bool?, d.bool? with
    | some a, some b => some (A.beq a b)
    | _, _ => none
  | _, _, _ => none
def eqCells (A : Ar) : List Nat → List SC → List SC → Option Bool
  | [], [], [] => some true
  | k :: ks, c :: cs, d :: ds =>
    match eqCell A k c d, eqCells A ks cs ds with
    | some a, some r => some (match ks with
      | [] => a
      | _ :: _ => A.and a r)
    | _, _ => none
  | _, _, _ => none
def mk1 (s : Prop) (c : SC) : Option Eff := some ⟨s, ⟨none, .sa (.one c)⟩, []⟩
/-- Which of two nils and pointers are alike. -/
def eqPtr (h : H) : SC → SC → Option Bool
  | .val (.pointer none), .val (.pointer none) => some true
  | .ptr n _, .val (.pointer none) => match hget h n with
    | some (.cells _ _) | some (.row _ _) => some false
    | _ => none
  | _, _ => none
def Ct.len (A : Ar) : Ct → Int
  | .ints _ l => A.lenI l
  | .recs _ l => A.lenE l
/-- Whether a slice is nil: what it asks for, and the answer. -/
def eqSl (A : Ar) : SC → SC → Option (Prop × Bool)
  | .val (.slice none 0 0), .val (.slice none 0 0) => some (True, true)
  | .sl _ c, .val (.slice none 0 0) => some (A.cmp .gtr (c.len A) 0 = true, false)
  | _, _ => none
def effB1 (A : Ar) (cx : Cx) (h : H) (op : BinOp) (xt : TypeId) (s : Prop) (a b : SC) : Option Eff :=
  match a.int?, b.int? with
  | some (k, m), some (k', n) =>
    match op with
    | .shl | .shr => mk1 (s ∧ (A.lit b.lit).cmp .lss n 0 = false) (mkI (a.lit && b.lit) k ((A.lit (a.lit && b.lit)).bin op k m n))
    | .quo | .rem => match kindEq k k' with
      | true => mk1 (s ∧ (A.lit b.lit).cmp .eql n 0 = false) (mkI (a.lit && b.lit) k ((A.lit (a.lit && b.lit)).bin op k m n))
      | false => none
    | _ => match kindEq k k' with
      | true => match ints op with
        | true => mk1 s (mkI (a.lit && b.lit) k ((A.lit (a.lit && b.lit)).bin op k m n))
        | false => match cmps op with
          | true => mk1 s (mkB (a.lit && b.lit) ((A.lit (a.lit && b.lit)).cmp op m n))
          | false => none
      | false => none
  | _, _ => match a.bool?, b.bool? with
    | some x, some y => match look cx.tt xt with
      | some ⟨.bool, _, _, _, _⟩ => match op with
        | .eql => mk1 s (mkB (a.lit && b.lit) ((A.lit (a.lit && b.lit)).beq x y))
        | .neq => mk1 s (mkB (a.lit && b.lit) ((A.lit (a.lit && b.lit)).not ((A.lit (a.lit && b.lit)).beq x y)))
        | _ => none
      | _ => none
    | _, _ => match a, b with
      | .str l, .str m => match op with
        | .eql => mk1 s (.val (.bool (A.eqL l m)))
        | .neq => mk1 s (.val (.bool (A.not (A.eqL l m))))
        | .add => mk1 (s ∧ A.fits (A.lenI (A.appI l m)) 1 = true) (.str (A.appI l m))
        | .lss => mk1 s (.val (.bool (A.ltL l m)))
        | .gtr => mk1 s (.val (.bool (A.ltL m l)))
        | .leq => mk1 s (.val (.bool (A.not (A.ltL m l))))
        | .geq => mk1 s (.val (.bool (A.not (A.ltL l m))))
        | _ => none
      | _, _ => match eqPtr h a b, look cx.tt xt with
        | some r, some ⟨.ptr, _, _, _, _⟩ => match op with
          | .eql => mk1 s (.tf r)
          | .neq => mk1 s (.tf (!r))
          | _ => none
        | _, some ⟨.slice _ _, _, _, _, _⟩ => match eqSl A a b with
          | some (q, r) => match op with
            | .eql => mk1 (s ∧ q) (.tf r)
            | .neq => mk1 (s ∧ q) (.tf (!r))
            | _ => none
          | none => none
        | _, _ => none
def effBin (A : Ar) (cx : Cx) (h : H) (op : BinOp) (xt : TypeId) (x y : Ent) : Option Eff :=
  match x.v, y.v with
  | .sa (.one a), .sa (.one b) => effB1 A cx h op xt (need x.g ∧ need y.g) a b
  | .sa (.agg xs), .sa (.agg ys) =>
    match look cx.tt xt with
    | some ⟨.struct fs, _, _, true, _⟩ =>
      match eqCells A (fs.flatMap fun f => f.2.2.2) xs ys with
      | some r =>
        match op with
        | .eql => mk1 (need x.g ∧ need y.g) (.val (.bool r))
        | .neq => mk1 (need x.g ∧ need y.g) (.val (.bool (A.not r)))
        | _ => none
      | none => none
    | some ⟨.array n _ _, _, _, true, _⟩ =>
      match eqCells A (List.replicate n 1) xs ys with
      | some r =>
        match op with
        | .eql => mk1 (need x.g ∧ need y.g) (.val (.bool r))
        | .neq => mk1 (need x.g ∧ need y.g) (.val (.bool (A.not r)))
        | _ => none
      | none => none
    | _ => none
  | _, _ => none
def pickV (A : Ar) (c : Bool) (a b : SC) : Option SC :=
  match a.int?, b.int? with
  | some (k, m), some (k', n) => match kindEq k k' with
    | true => some (.val (.int k (A.iteI c m n)))
    | false => none
  | _, _ => match a.bool?, b.bool? with
    | some m, some n => some (.val (.bool (A.iteB c m n)))
    | _, _ => none
def effPick (A : Ar) (c a b : Ent) : Option Eff :=
  match c with
  | ⟨g, .sa (.one (.tf t))⟩ => match t with
    | true => some ⟨need g ∧ need a.g, ⟨none, a.v⟩, []⟩
    | false => some ⟨need g ∧ need b.g, ⟨none, b.v⟩, []⟩
  | ⟨g, .sa (.one (.val (.bool t)))⟩ => match a, b with
    | ⟨ga, .sa (.one x)⟩, ⟨gb, .sa (.one y)⟩ => match pickV A t x y with
      | some v => mk1 (need g ∧ (t = false ∨ need ga) ∧ (t = true ∨ need gb)) v
      | none => match x, y with
        | .any, y => some ⟨need g ∧ t = false ∧ need gb, ⟨none, .sa (.one y)⟩, []⟩
        | x, .any => some ⟨need g ∧ t = true ∧ need ga, ⟨none, .sa (.one x)⟩, []⟩
        | _, _ => none
    | _, _ => none
  | _ => none
def sas : List Ent → Option (List SA)
  | [] => some []
  | ⟨_, .sa x⟩ :: l => match sas l with
    | some xs => some (x :: xs)
    | none => none
  | _ => none
def needs : List Ent → Prop
  | [] => True
  | [e] => need e.g
  | e :: l => need e.g ∧ needs l
def fillS (place : Nat → Option (Nat × Nat)) (cells : List SC) : List (Nat × SA) → Option (List SC)
  | [] => some cells
  | (i, v) :: rest =>
    match place i with
    | none => none
    | some (off, size) => match eqn v.cells.length size && lee (off + size) cells.length with
      | true => fillS place (pasteCells cells off v.cells) rest
      | false => none
def sidesA : List SA → Prop
  | [] => True
  | [x] => x.side
  | x :: l => x.side ∧ sidesA l
def minmax (A : Ar) (op : BinOp) : Int → List SA → IntKind → Option Int
  | a, [], _ => some a
  | a, .one c :: l, k0 => match c.int? with
    | some (k, b) => match kindEq k k0 with
      | true => minmax A op (A.iteI (A.cmp op b a) b a) l k0
      | false => none
    | none => none
  | _, _, _ => none

/-- The cells of an element, from its j-th on. -/
def shCells (A : Ar) : Sh → E → Nat → Nat → List SC
  | _, _, _, 0 => []
  | .nil, _, _, _ + 1 => []
  | .int k r, x, j, n + 1 => .val (.int k (A.ri x j)) :: shCells A r x (j + 1) n
  | .bool r, x, j, n + 1 => .val (.bool (A.rb x j)) :: shCells A r x (j + 1) n
  | .str r, x, j, n + 1 => .str (A.rs x j) :: shCells A r x (j + 1) n
  | .ints k r, x, j, n + 1 => .sl none (.ints k (A.rl x j)) :: shCells A r x (j + 1) n
  | .recs s r, x, j, n + 1 => .sl none (.recs s (A.rr x j)) :: shCells A r x (j + 1) n
def Ct.sz : Ct → Nat
  | .ints _ _ => 1
  | .recs s _ => s.size
def Ct.cut (A : Ar) : Ct → Int → Int → Ct
  | .ints k l, lo, hi => .ints k (A.cutI l lo hi)
  | .recs s l, lo, hi => .recs s (A.cutE l lo hi)
def empC : Ct → Ct
  | .ints k _ => .ints k []
  | .recs s _ => .recs s []
/-- So many zeros. -/
def Ct.rep (A : Ar) (n : Int) : Ct → Ct
  | .ints k _ => .ints k (A.repI n)
  | .recs s _ => .recs s (A.repE n s.zero)
/-- The cells of the i-th element, from the j-th on. -/
def Ct.at (A : Ar) : Ct → Int → Nat → Nat → List SC
  | .ints k l, i, _, n => match n with
    | 0 => []
    | _ + 1 => [.val (.int k (A.atI l i))]
  | .recs s l, i, j, n => shCells A (s.drop j) (A.atE l i) j n
def loadS (A : Ar) (cx : Cx) (blk : Option Blk) (off : Nat) (t : TypeId) : Option (Prop × SA) :=
  match look cx.tt t, blk with
  | some ti, some (.cells _ bc) => match ti.k.agg with
    | true => match cutCells bc off ti.size with
      | some cs => some (True, .agg cs)
      | none => none
    | false => match cutCells bc off 1 with
      | some [c] => some (True, .one c)
      | _ => none
  | some ti, some (.row _ c) => match ti.k.agg && (eqn c.sz 1 && eqn off 0) with
    | true => some (A.cmp .eql (c.len A) ti.size = true, .blob c)
    | false => none
  | _, _ => none
/-- A bound of a slice expression, or what stands for it. -/
def bnd (st : St) (d : Int) : Option Operand → Option (Option Bool × Int)
  | none => some (none, d)
  | some x => match evalE st x with
    | ⟨g, .sa (.one c)⟩ => match c.int? with
      | some (_, i) => some (g, i)
      | none => none
    | _ => none

/-! ## New slices -/
def shOf : List SC → Option Sh
  | [] => some .nil
  | .val (.int k _) :: r | .num k _ :: r => match shOf r with
    | some s => some (.int k s)
    | none => none
  | .val (.bool _) :: r | .tf _ :: r => match shOf r with
    | some s => some (.bool s)
    | none => none
  | .str _ :: r => match shOf r with
    | some s => some (.str s)
    | none => none
  | .sl _ (.ints k _) :: r => match shOf r with
    | some s => some (.ints k s)
    | none => none
  | .sl _ (.recs q _) :: r => match shOf r with
    | some s => some (.recs q s)
    | none => none
  | _ => none
def shEq : Sh → Sh → Bool
  | .nil, .nil => true
  | .int k r, .int k' r' => kindEq k k' && shEq r r'
  | .bool r, .bool r' => shEq r r'
  | .str r, .str r' => shEq r r'
  | .ints k r, .ints k' r' => kindEq k k' && shEq r r'
  | .recs s r, .recs s' r' => shEq s s' && shEq r r'
  | _, _ => false
/-- A cell as part of an element. -/
def toD : Sh → SC → Option (D × Sh)
  | .int k r, c => match c.int? with
    | some (k', n) => match kindEq k k' with
      | true => some (.int n, r)
      | false => none
    | none => none
  | .bool r, c => match c.bool? with
    | some b => some (.bool b, r)
    | none => none
  | .str r, .str l => some (.str l, r)
  | .ints k r, .sl _ (.ints k' l) => match kindEq k k' with
    | true => some (.ints l, r)
    | false => none
  | .ints _ r, .val (.slice none 0 0) => some (.ints [], r)
  | .recs s r, .sl _ (.recs s' l) => match shEq s s' with
    | true => some (.recs l, r)
    | false => none
  | .recs _ r, .val (.slice none 0 0) => some (.recs [], r)
  | _, _ => none
/-- Cells as an element. -/
def toE : Sh → List SC → Option E
  | .nil, [] => some []
  | s, c :: cs => match toD s c with
    | some (d, r) => match toE r cs with
      | some x => some (d :: x)
      | none => none
    | none => none
  | _, _ => none
def toEs (s : Sh) : List SA → Option (List E)
  | [] => some []
  | v :: l => match toE s v.cells, toEs s l with
    | some x, some xs => some (x :: xs)
    | _, _ => none
def toIs (k : IntKind) : List SA → Option (List Int)
  | [] => some []
  | .one c :: l => match c.int? with
    | some (k', n) => match kindEq k k' with
      | true => match toIs k l with
        | some ns => some (n :: ns)
        | none => none
      | false => none
    | none => none
  | _ => none
/-- What values are as a slice's elements, of so many cells each. -/
def mkCt (h : Option Ct) (sz : Nat) (vs : List SA) : Option Ct :=
  match h with
  | some (.ints k _) => match eqn sz 1 with
    | true => match toIs k vs with
      | some l => some (.ints k l)
      | none => none
    | false => none
  | some (.recs s _) => match eqn s.size sz with
    | true => match toEs s vs with
      | some l => some (.recs s l)
      | none => none
    | false => none
  | none => none
def freeAt (h : H) (d : Nat) : Bool :=
  match hget h d with
  | none => lee d 99999999999999999999
  | some _ => false
def idxs : List Nat → Nat → Nat → Bool
  | [], k, n => eqn k n
  | i :: l, k, n => eqn i k && idxs l (k + 1) n
/-- Words to the reckoner, among the contracts: an empty slice that is to grow into a row of one's own; a function that leaves its arguments' blocks as they were. -/
def ownKey (u : Nat) : Nat := 1000000000 + u
def keepKey (f : Nat) : Nat := 1000000 + f
/-- The name of a block that an operation makes. -/
def bid (u : Nat) : Nat := 1000 * (u + 1)
def tokAt (h : H) (id : Nat) : Bool :=
  match hget h id with
  | some .tok => true
  | _ => false
def joinCt (A : Ar) : Ct → Ct → Option Ct
  | .ints k l, .ints k' m => match kindEq k k' with
    | true => some (.ints k (A.appI l m))
    | false => none
  | .recs s l, .recs s' m => match shEq s s' with
    | true => some (.recs s (A.appE l m))
    | false => none
  | _, _ => none
/-- What a slice holds. -/
def ctOf (h : H) : SC → Option Ct
  | .sl _ c => some c
  | .own n => match hget h n with
    | some (.row _ c) => some c
    | some (.frz c) => some c
    | _ => none
  | _ => none
/-- What is appended. -/
def sndCt (h : H) (c1 : Ct) : SC → Option Ct
  | .val (.slice none 0 0) => some (empC c1)
  | c => ctOf h c
/-- What is appended to: what ends with it, what it holds. -/
def fstCt (cx : Cx) (h : H) (t e : TypeId) : SC → Option (List (Nat × Blk) × Ct)
  | .sl (some (id, e')) c1 => match tokAt h id && eqn e e' with
    | true => some ([(id, .dead)], c1)
    | false => none
  | .val (.slice none 0 0) => match look cx.hs t with
    | some c => some ([], empC c)
    | none => none
  | _ => none
/-- A slice that has nothing and no room. -/
def empAt (h : H) (e : TypeId) : SC → Option Nat
  | .own n => match hget h n with
    | some (.emp e') => match eqn e e' with
      | true => some n
      | false => none
    | _ => none
  | _ => none
/-- Appending to a slice that has nothing and no room: the row is one's own. -/
def effAppE (A : Ar) (cx : Cx) (h : H) (u n : Nat) (t t' : TypeId) : Ent → Ent → Option Eff
  | ⟨gx, _⟩, ⟨gy, .sa (.one y)⟩ =>
    match look cx.tt t with
    | some ⟨.slice e sz, _, _, _, _⟩ => match look cx.tt e, look cx.bs e, look cx.hs t with
      | some te, some b, some c => match sndCt h (empC c) y with
          | some c2 => match joinCt A (empC c) c2 with
            | some ct => match eqn te.size sz && (eqn t t' && (freeAt h (bid u) && (lee 1 sz && (lee 1 b && eqn c.sz sz)))) with
              | true => some ⟨need gx ∧ need gy ∧ A.fits (ct.len A) b = true, ⟨none, .sa (.one (.own (bid u)))⟩, [(n, .dead), (bid u, .row e ct)]⟩
              | false => none
            | none => none
          | none => none
      | _, _, _ => none
    | _ => none
  | _, _ => none
/-- Appending to a row of one's own: what comes is one's own, too. -/
def ownRow (h : H) (e : TypeId) : SC → Option (Nat × Ct)
  | .own n => match hget h n with
    | some (.row e' c) => match eqn e e' with
      | true => some (n, c)
      | false => none
    | _ => none
  | _ => none
def effAppO (A : Ar) (cx : Cx) (h : H) (u n : Nat) (c1 : Ct) (t t' : TypeId) : Ent → Ent → Option Eff
  | ⟨gx, _⟩, ⟨gy, .sa (.one y)⟩ =>
    match look cx.tt t with
    | some ⟨.slice e sz, _, _, _, _⟩ => match look cx.tt e, look cx.bs e with
      | some te, some b => match sndCt h c1 y with
          | some c2 => match joinCt A c1 c2 with
            | some ct => match eqn te.size sz && (eqn t t' && (freeAt h (bid u) && (lee 1 sz && (lee 1 b && eqn c1.sz sz)))) with
              | true => some ⟨need gx ∧ need gy ∧ A.fits (ct.len A) b = true, ⟨none, .sa (.one (.own (bid u)))⟩, [(n, .dead), (bid u, .row e ct)]⟩
              | false => none
            | none => none
          | none => none
      | _, _ => none
    | _ => none
  | _, _ => none
/-- Appending to nil: what comes is one's own (if it was asked for). -/
def effAppN (A : Ar) (cx : Cx) (h : H) (u : Nat) (t t' : TypeId) : Ent → Ent → Option Eff
  | ⟨gx, .sa (.one (.val (.slice none 0 0)))⟩, ⟨gy, .sa (.one y)⟩ =>
    match look cx.tt t with
    | some ⟨.slice e sz, _, _, _, _⟩ => match look cx.tt e, look cx.bs e, look cx.hs t with
      | some te, some b, some c => match sndCt h (empC c) y with
          | some c2 => match joinCt A (empC c) c2 with
            | some ct => match eqn te.size sz && (eqn t t' && (freeAt h (bid u) && (lee 1 sz && (lee 1 b && eqn c.sz sz)))) with
              | true => some ⟨need gx ∧ need gy ∧ A.fits (ct.len A) b = true, ⟨none, .sa (.one (.own (bid u)))⟩, [(bid u, .row e ct)]⟩
              | false => none
            | none => none
          | none => none
      | _, _, _ => none
    | _ => none
  | _, _ => none
/-- How many cells an element of a row's slices has. -/
def isz : Ct → Nat
  | .recs (.ints _ .nil) _ => 1
  | .recs (.recs s .nil) _ => s.size
  | _ => 0
/-- What a slice of one nil slice holds. -/
def nilCt : Ct → Option Ct
  | .recs (.ints k .nil) _ => some (.recs (.ints k .nil) [[.ints []]])
  | .recs (.recs s .nil) _ => some (.recs (.recs s .nil) [[.recs []]])
  | _ => none
/-- Appending nil to nil: each slice of the row may be appended to in place. -/
def effAppRN (A : Ar) (cx : Cx) (h : H) (u : Nat) (t t' : TypeId) : Ent → Ent → Option Eff
  | ⟨gx, .sa (.one (.val (.slice none 0 0)))⟩, ⟨gy, .sa (.one .nil1)⟩ =>
    match look cx.tt t with
    | some ⟨.slice e sz, _, _, _, _⟩ => match look cx.tt e, look cx.bs e, look cx.hs t with
      | some ⟨.slice e2 z2, s2, _, _, _⟩, some b, some c => match nilCt (empC c) with
        | some c2 => match joinCt A (empC c) c2 with
          | some ct => match eqn s2 sz && (eqn t t' && (freeAt h (bid u) && (eqn sz 1 && (lee 1 b && (eqn c.sz sz && eqn (isz c) z2))))) with
            | true => some ⟨need gx ∧ need gy ∧ A.fits (ct.len A) b = true, ⟨none, .sa (.one (.own (bid u)))⟩, [(bid u, .rr e e2 ct none)]⟩
            | false => none
          | none => none
        | none => none
      | _, _, _ => none
    | _ => none
  | _, _ => none
/-- A row of one's own whose slices may each be appended to. -/
def rrRow (h : H) (e : TypeId) : SC → Option (Nat × TypeId × Ct)
  | .own n => match hget h n with
    | some (.rr e' e2 c none) => match eqn e e' with
      | true => some (n, e2, c)
      | false => none
    | _ => none
  | _ => none
/-- Appending nil to such a row. -/
def effAppRO (A : Ar) (cx : Cx) (h : H) (u n : Nat) (e2 : TypeId) (c1 : Ct) (t t' : TypeId) : Ent → Ent → Option Eff
  | ⟨gx, _⟩, ⟨gy, .sa (.one .nil1)⟩ =>
    match look cx.tt t with
    | some ⟨.slice e sz, _, _, _, _⟩ => match look cx.tt e, look cx.bs e with
      | some te, some b => match nilCt c1 with
        | some c2 => match joinCt A c1 c2 with
          | some ct => match eqn te.size sz && (eqn t t' && (freeAt h (bid u) && (eqn sz 1 && (lee 1 b && eqn c1.sz sz)))) with
            | true => some ⟨need gx ∧ need gy ∧ A.fits (ct.len A) b = true, ⟨none, .sa (.one (.own (bid u)))⟩, [(n, .dead), (bid u, .rr e e2 ct none)]⟩
            | false => none
          | none => none
        | none => none
      | _, _ => none
    | _ => none
  | _, _ => none
/-- Appending to a slice that may be appended to, or to none. -/
def effApp (A : Ar) (cx : Cx) (h : H) (u : Nat) (t t' : TypeId) : Ent → Ent → Option Eff
  | ⟨gx, .sa (.one x)⟩, ⟨gy, .sa (.one y)⟩ =>
    match look cx.tt t with
    | some ⟨.slice e sz, _, _, _, _⟩ => match look cx.tt e, look cx.bs e with
      | some te, some b =>
        match fstCt cx h t e x with
        | some (kill, c1) => match sndCt h c1 y with
          | some c2 => match joinCt A c1 c2 with
            | some ct => match eqn te.size sz && (eqn t t' && (freeAt h (bid u) && (lee 1 sz && (lee 1 b && eqn c1.sz sz)))) with
              | true => some ⟨need gx ∧ need gy ∧ A.fits (ct.len A) b = true, ⟨none, .sa (.one (.sl (some (bid u, e)) ct))⟩, kill ++ [(bid u, .tok)]⟩
              | false => none
            | none => none
          | none => none
        | none => none
      | _, _ => none
    | _ => none
  | _, _ => none
def cpyCt (A : Ar) : Ct → Ct → Option Ct
  | .ints k l, .ints k' m => match kindEq k k' with
    | true => some (.ints k (A.cpyI l m))
    | false => none
  | .recs s l, .recs s' m => match shEq s s' with
    | true => some (.recs s (A.cpyE l m))
    | false => none
  | _, _ => none
def otherRow (n : Nat) : SC → Bool
  | .own k => !eqn k n
  | _ => true
/-- Copying into a row of one's own. -/
def effCopy (A : Ar) (cx : Cx) (h : H) (t : TypeId) : Ent → Ent → Option Eff
  | ⟨gx, .sa (.one (.own n))⟩, ⟨gy, .sa (.one y)⟩ =>
    match look cx.tt t, hget h n with
    | some ⟨.slice _ sz, _, _, _, _⟩, some (.row bt c) => match sndCt h c y with
      | some c2 => match cpyCt A c c2 with
        | some c' => match eqn c.sz sz && otherRow n y with
          | true => some ⟨need gx ∧ need gy, ⟨none, .sa (.one (.val (.int .i64 (A.iteI (A.cmp .lss (c2.len A) (c.len A)) (c2.len A) (c.len A)))))⟩, [(n, .row bt c')]⟩
          | false => none
        | none => none
      | none => none
    | _, _ => none
  | _, _ => none
/-- A store into a row. -/
def setCt (A : Ar) (c : Ct) (i : Int) (j : Nat) (v : SA) : Option Ct :=
  match c with
  | .ints k l => match v with
    | .one x => match x.int? with
      | some (k', n) => match kindEq k k' with
        | true => some (.ints k (A.setI l i n))
        | false => none
      | none => none
    | _ => none
  | .recs s l => match lee (j + v.cells.length) s.size with
    | true => match toE s (pasteCells (shCells A s (A.atE l i) 0 s.size) j v.cells) with
      | some x => some (.recs s (A.setE l i x))
      | none => none
    | false => none

/-! ## Calls of functions -/
def refsC : SC → List Nat
  | .ptr n _ | .own n | .rp n _ _ | .sl (some (n, _)) _ | .fn _ n | .mp n | .cpp n _ | .fnp _ n _ | .vw n _ => [n]
  | .fn2 _ n k => [n, k]
  | _ => []
def refsA : SA → List Nat
  | .one c => refsC c
  | .agg cs => cs.flatMap refsC
  | .blob _ => []
def refsE (e : Ent) : List Nat :=
  match e.v with
  | .sa x => refsA x
  | .tup xs => xs.flatMap refsA
def refsB : Option Blk → List Nat
  | some (.cells _ cs) => cs.flatMap refsC
  | _ => []
def memN (n : Nat) (l : List Nat) : Bool := l.any (eqn n)
/-- The blocks that can be reached, in the order in which they are met. -/
def reach : Nat → H → List Nat → List Nat → List Nat
  | 0, _, _, seen => seen
  | _ + 1, _, [], seen => seen
  | f + 1, h, n :: l, seen => match memN n seen with
    | true => reach f h l seen
    | false => reach f h (refsB (hget h n) ++ l) (seen ++ [n])
/-- Other names. -/
def renC (m : List (Nat × Nat)) : SC → Option SC
  | .ptr n o => match look m n with
    | some i => some (.ptr i o)
    | none => none
  | .fn g n => match look m n with
    | some i => some (.fn g i)
    | none => none
  | .own n => match look m n with
    | some i => some (.own i)
    | none => none
  | .mp n => match look m n with
    | some i => some (.mp i)
    | none => none
  | .sl (some (n, e)) c => match look m n with
    | some i => some (.sl (some (i, e)) c)
    | none => none
  | .rp n x j => match look m n with
    | some i => some (.rp i x j)
    | none => none
  | .cpp n o => match look m n with
    | some i => some (.cpp i o)
    | none => none
  | .fnp g n o => match look m n with
    | some i => some (.fnp g i o)
    | none => none
  | .fn2 g n k => match look m n, look m k with
    | some i, some j => some (.fn2 g i j)
    | _, _ => none
  | .vw _ _ => none
  | c => some c.dull
def renCs (m : List (Nat × Nat)) : List SC → Option (List SC)
  | [] => some []
  | c :: l => match renC m c, renCs m l with
    | some x, some xs => some (x :: xs)
    | _, _ => none
def renA (m : List (Nat × Nat)) : SA → Option SA
  | .one c => match renC m c with
    | some x => some (.one x)
    | none => none
  | .agg cs => match renCs m cs with
    | some xs => some (.agg xs)
    | none => none
  | .blob c => some (.blob c)
def renAs (m : List (Nat × Nat)) : List SA → Option (List SA)
  | [] => some []
  | c :: l => match renA m c, renAs m l with
    | some x, some xs => some (x :: xs)
    | _, _ => none
def renV (m : List (Nat × Nat)) : SV → Option SV
  | .sa x => match renA m x with
    | some y => some (.sa y)
    | none => none
  | .tup xs => match renAs m xs with
    | some ys => some (.tup ys)
    | none => none
def renB (m : List (Nat × Nat)) : Blk → Option Blk
  | .cells t cs => match renCs m cs with
    | some xs => some (.cells t xs)
    | none => none
  | b => some b
/-- Blocks under other names. -/
def renH (m : List (Nat × Nat)) (h : H) : List Nat → Option H
  | [] => some []
  | n :: l => match look m n, hget h n, renH m h l with
    | some i, some b, some r => match renB m b with
      | some b' => some ((i, b') :: r)
      | none => none
    | _, _, _ => none
def numbered : Nat → List Nat → List (Nat × Nat)
  | _, [] => []
  | i, n :: l => (n, i) :: numbered (i + 1) l
def turned (m : List (Nat × Nat)) : List (Nat × Nat) := m.map fun p => (p.2, p.1)
/-- A value that is handed on by what it holds. -/
def plainC (h : H) : SC → Option SC
  | .ptr _ _ | .rp _ _ _ | .fn _ _ | .mp _ | .cpp _ _ | .fnp _ _ _ | .fn2 _ _ _ | .vw _ _ => none
  | .own n => match hget h n with
    | some (.row _ c) | some (.frz c) => some (.sl none c)
    | _ => none
  | .sl _ c => some (.sl none c)
  | c => some c.dull
def plainCs (h : H) : List SC → Option (List SC)
  | [] => some []
  | c :: l => match plainC h c, plainCs h l with
    | some x, some xs => some (x :: xs)
    | _, _ => none
def plainA (h : H) : SA → Option SA
  | .one c => match plainC h c with
    | some x => some (.one x)
    | none => none
  | .agg cs => match plainCs h cs with
    | some xs => some (.agg xs)
    | none => none
  | .blob c => some (.blob c)
def plainAs (h : H) : List SA → Option (List SA)
  | [] => some []
  | c :: l => match plainA h c, plainAs h l with
    | some x, some xs => some (x :: xs)
    | _, _ => none
/-- Rows that stop being one's own. -/
def rowsOf (h : H) : List Nat → H
  | [] => []
  | n :: l => match hget h n with
    | some (.row _ c) => (n, .frz c) :: rowsOf h l
    | _ => rowsOf h l
/-- Which name of a state stands for which of another one. -/
def mC : SC → SC → List (Nat × Nat)
  | .ptr k _, .ptr i _ => [(i, k)]
  | .fn _ k, .fn _ i => [(i, k)]
  | .own k, .own i => [(i, k)]
  | .mp k, .mp i => [(i, k)]
  | .sl (some (k, _)) _, .sl (some (i, _)) _ => [(i, k)]
  | .rp k _ _, .rp i _ _ => [(i, k)]
  | .cpp k _, .cpp i _ => [(i, k)]
  | .fnp _ k _, .fnp _ i _ => [(i, k)]
  | .fn2 _ k l, .fn2 _ i j => [(i, k), (j, l)]
  | _, _ => []
def mCs : List SC → List SC → List (Nat × Nat)
  | c :: cs, d :: ds => mC c d ++ mCs cs ds
  | _, _ => []
def mA : SA → SA → List (Nat × Nat)
  | .one c, .one d => mC c d
  | .agg cs, .agg ds => mCs cs ds
  | _, _ => []
def mAs : List SA → List SA → List (Nat × Nat)
  | c :: cs, d :: ds => mA c d ++ mAs cs ds
  | _, _ => []
def mE (x y : Ent) : List (Nat × Nat) :=
  match x.v, y.v with
  | .sa a, .sa b => mA a b
  | _, _ => []
def mEs : List Ent → List Ent → List (Nat × Nat)
  | c :: cs, d :: ds => mE c d ++ mEs cs ds
  | _, _ => []
def mB : Option Blk → Option Blk → List (Nat × Nat)
  | some (.cells _ cs), some (.cells _ ds) => mCs cs ds
  | _, _ => []
def close (h h' : H) : Nat → List (Nat × Nat) → List (Nat × Nat) → List (Nat × Nat)
  | 0, _, acc => acc
  | _ + 1, [], acc => acc
  | f + 1, (i, k) :: w, acc => match look acc i with
    | some _ => close h h' f w acc
    | none => close h h' f (w ++ mB (hget h k) (hget h' i)) (acc ++ [(i, k)])

/-! ### A state that says no more than another one -/
def isAt (m : List (Nat × Nat)) (i k : Nat) : Bool :=
  match look m i with
  | some n => eqn n k
  | none => false
def ctLe : Ct → Ct → Prop
  | .ints k l, .ints k' l' => k = k' ∧ l = l'
  | .recs s l, .recs s' l' => s = s' ∧ l = l'
  | _, _ => False
def Ct.none? : Ct → Prop
  | .ints _ l => l = []
  | .recs _ l => l = []
/-- A block that stands for no memory: nothing is in it. -/
def voidB : Blk → Prop
  | .tok => True
  | .row _ c => c.none?
  | .rr _ _ c _ => c.none? ∧ eqn c.sz 1 = true
  | _ => False
def voidR : Option Blk → Prop
  | some (.row _ c) => c.none?
  | some (.rr _ _ c _) => c.none?
  | _ => False
def hasB (h : H) (b : Nat) : Bool :=
  match hget h b with
  | some (.cells _ _) | some (.row _ _) => true
  | _ => false
def hasR (h : H) (b : Nat) : Bool :=
  match hget h b with
  | some (.row _ _) => true
  | some (.rr _ _ _ _) => true
  | _ => false
def hasC (h : H) (b : Nat) : Bool :=
  match hget h b with
  | some (.cells _ _) => true
  | _ => false
def hasM (h : H) (b : Nat) : Bool :=
  match hget h b with
  | some (.mp _) => true
  | _ => false
def unbound (m : List (Nat × Nat)) (i : Nat) : Bool :=
  match look m i with
  | some _ => false
  | none => true
/-- Names that a state may spell out. -/
def smallH : H → Bool
  | [] => true
  | (i, _) :: l => lee i 99999999999999999999 && smallH l
structure Mt where
  m : List (Nat × Nat)     -- a name of the poorer state: that of the richer one
  h : H                    -- the richer one's blocks
  h' : H                   -- the poorer one's
  ks : List Nat            -- which of the richer one's blocks the poorer one has
  fr : Bool                -- whether rows may stop being one's own
def SC.le (M : Mt) : SC → SC → Prop
  | _, .any => True
  | .val u, .val v => u = v
  | .num k n, .num k' n' => k = k' ∧ n = n'
  | .num k n, .val (.int k' n') => k = k' ∧ n = n'
  | .tf b, .tf b' => b = b'
  | .tf b, .val (.bool b') => b = b'
  | .val (.slice none 0 0), .sl none c => c.none?
  | .val (.slice none 0 0), .sl (some (i, _)) c => c.none? ∧ unbound M.m i = true ∧ tokAt M.h' i = true
  | .val (.slice none 0 0), .own i => unbound M.m i = true ∧ voidR (hget M.h' i)
  | .ptr b o, .ptr b' o' => isAt M.m b' b = true ∧ hasB M.h' b' = true ∧ o = o'
  | .fn g b, .fn g' b' => isAt M.m b' b = true ∧ hasB M.h' b' = true ∧ g = g'
  | .own b, .own b' => isAt M.m b' b = true ∧ hasR M.h' b' = true
  | .mp b, .mp b' => isAt M.m b' b = true ∧ hasM M.h' b' = true
  | .rp b i j, .rp b' i' j' => isAt M.m b' b = true ∧ hasR M.h' b' = true ∧ i = i' ∧ j = j'
  | .cpp b o, .cpp b' o' => isAt M.m b' b = true ∧ hasB M.h' b' = true ∧ o = o'
  | .fnp g b o, .fnp g' b' o' => isAt M.m b' b = true ∧ hasB M.h' b' = true ∧ g = g' ∧ o = o'
  | .fn2 g b c, .fn2 g' b' c' => isAt M.m b' b = true ∧ hasB M.h' b' = true ∧ isAt M.m c' c = true ∧ hasB M.h' c' = true ∧ g = g'
  | .own b, .sl none c => match hget M.h b with
    | some (.row _ c0) => (M.fr && !memN b M.ks) = true ∧ ctLe c0 c
    | some (.rr _ _ c0 _) => (M.fr && !memN b M.ks) = true ∧ ctLe c0 c
    | some (.frz c0) => ctLe c0 c
    | _ => False
  | .str l, .str l' => l = l'
  | .sl (some (b, e)) c, .sl (some (b', e')) c' => (isAt M.m b' b = true ∧ tokAt M.h' b' = true ∧ e = e') ∧ ctLe c c'
  | .sl _ c, .sl none c' => ctLe c c'
  | _, _ => False
def cellsLe (M : Mt) : List SC → List SC → Prop
  | [], [] => True
  | x :: xs, y :: ys => x.le M y ∧ cellsLe M xs ys
  | _, _ => False
def SA.le (M : Mt) : SA → SA → Prop
  | _, .one .any => True
  | .one x, .one y => x.le M y
  | .agg xs, .agg ys => cellsLe M xs ys
  | .blob c, .blob c' => ctLe c c'
  | _, _ => False
def sasLe (M : Mt) : List SA → List SA → Prop
  | [], [] => True
  | x :: xs, y :: ys => x.le M y ∧ sasLe M xs ys
  | _, _ => False
/-- As many as are asked for. -/
def pasLe (M : Mt) : List SA → List SA → Prop
  | _, [] => True
  | x :: xs, y :: ys => x.le M y ∧ pasLe M xs ys
  | _, _ => False
def SV.le (M : Mt) : SV → SV → Prop
  | _, .sa (.one .any) => True
  | .sa x, .sa y => x.le M y
  | .tup xs, .tup ys => sasLe M xs ys
  | _, _ => False
def Ent.le (M : Mt) : Ent → Ent → Prop
  | _, ⟨none, .sa (.one .any)⟩ => True
  | ⟨none, x⟩, ⟨none, y⟩ => x.le M y
  | _, _ => False
def entsLe (M : Mt) : List Ent → List Ent → Prop
  | [], [] => True
  | x :: xs, y :: ys => x.le M y ∧ entsLe M xs ys
  | _, _ => False
def blkLe (M : Mt) : Blk → Blk → Prop
  | .cells t x, .cells u y => t = u ∧ cellsLe M x y
  | .row t c, .row u c' => t = u ∧ ctLe c c'
  | .rr t e c q, .rr u e' c' q' => (t = u ∧ e = e') ∧ ctLe c c' ∧ q = none ∧ q' = none
  | .mp l, .mp l' => l = l'
  | .tok, .tok => True
  | _, _ => False
def heapLe (M : Mt) : H → Prop
  | [] => True
  | (i, b) :: l => (match look M.m i with
    | some k => match hget M.h k with
      | some b0 => blkLe M b0 b
      | none => False
    | none => voidB b) ∧ heapLe M l
/-- The blocks of the richer state that stand in the poorer one. -/
def kept (m : List (Nat × Nat)) : H → List Nat
  | [] => []
  | (i, _) :: l => match look m i with
    | some k => k :: kept m l
    | none => kept m l
def distinct : List Nat → Bool
  | [] => true
  | k :: l => !memN k l && distinct l
def St.leM (fr : Bool) (m : List (Nat × Nat)) (s t : St) : Prop :=
  (distinct (kept m t.heap) && smallH t.heap) = true ∧ entsLe ⟨m, s.heap, t.heap, kept m t.heap, fr⟩ s.slots t.slots ∧ pasLe ⟨m, s.heap, t.heap, kept m t.heap, fr⟩ s.gs t.gs ∧ heapLe ⟨m, s.heap, t.heap, kept m t.heap, fr⟩ t.heap
def St.le (s t : St) : Prop := s.leM true (close s.heap t.heap 200 (mEs s.slots t.slots ++ mAs s.gs t.gs) []) t

/-! ### A call -/
def entsOf (r : SV) : List Ent :=
  match r with
  | .sa x => [⟨none, .sa x⟩]
  | .tup xs => xs.map fun x => ⟨none, .sa x⟩
def entA (x : SA) : Ent := ⟨none, .sa x⟩
/-- Names for the blocks that a callee leaves: those that the arguments still lead to keep theirs, the others get new ones. -/
def names (roots : List (Nat × Nat)) (b : Nat) : H → List (Nat × Nat)
  | [] => []
  | (i, _) :: l => match look roots i with
    | some n => (i, n) :: names roots b l
    | none => (i, b) :: names roots (b + 1) l
/-- What of the arguments leads to a block of their own. -/
def rootsOf : List SA → List SA → List (Nat × Nat)
  | .one (.ptr n o) :: xs, .one (.ptr i o') :: ys => match eqn o o' with
    | true => (i, n) :: rootsOf xs ys
    | false => rootsOf xs ys
  | .one (.own n) :: xs, .one (.own i) :: ys => (i, n) :: rootsOf xs ys
  | .one (.mp n) :: xs, .one (.mp i) :: ys => (i, n) :: rootsOf xs ys
  | .one (.rp n _ j) :: xs, .one (.rp i _ j') :: ys => match eqn j j' with
    | true => (i, n) :: rootsOf xs ys
    | false => rootsOf xs ys
  | .one (.cpp n o) :: xs, .one (.cpp i o') :: ys => match eqn o o' with
    | true => (i, n) :: rootsOf xs ys
    | false => rootsOf xs ys
  | .one (.fnp _ n o) :: xs, .one (.fnp _ i o') :: ys => match eqn o o' with
    | true => (i, n) :: rootsOf xs ys
    | false => rootsOf xs ys
  | .one (.fn2 _ n k) :: xs, .one (.fn2 _ i j) :: ys => (i, n) :: (j, k) :: rootsOf xs ys
  | _ :: xs, _ :: ys => rootsOf xs ys
  | _, _ => []
/-- The rows of one's own and the blocks that a block's cells lead to. -/
def ownsC : List SC → List SC
  | [] => []
  | .own j :: l => .own j :: ownsC l
  | .ptr j o :: l => .ptr j o :: ownsC l
  | _ :: l => ownsC l
def ownsOf (h : H) : List SC := h.flatMap fun p => match hget h p.1 with
  | some (.cells _ cs) => ownsC cs
  | _ => []
/-- Those in the cells of an argument. -/
def ownsA : SA → List SC
  | .agg cs => ownsC cs
  | _ => []
def ownsAll (args : List SA) (h : H) : List SC := ownsOf h ++ args.flatMap ownsA
/-- What a contract says of such rows and blocks behind its arguments: which of what it leaves is still the one. -/
def stayOf : List SC → List SA → List (Bool × Nat × Nat)
  | .own j :: l, .one (.own i) :: ys => (true, i, j) :: stayOf l ys
  | .ptr j _ :: l, .one (.ptr i _) :: ys => (false, i, j) :: stayOf l ys
  | _ :: l, _ :: ys => stayOf l ys
  | _, _ => []
def okK (h0 ph : H) : Bool × Nat × Nat → Bool
  | (true, i, j) => hasR h0 j && hasR ph i
  | (false, i, j) => hasC h0 j && hasC ph i
def rootsAll (seen : List Nat) (args : List SA) (h0 ph : H) (vs as : List SA) : List (Nat × Nat) := rootsOf vs as ++ (stayOf (ownsAll args h0) (as.drop vs.length)).filterMap fun p => match okK h0 ph p, seen[p.2.2]? with
  | true, some n => some (p.2.1, n)
  | _, _ => none
/-- Places in rows stay where they are. -/
def rpSame : List SA → List SA → Prop
  | .one (.rp _ i _) :: xs, .one (.rp _ i' _) :: ys => i = i' ∧ rpSame xs ys
  | _ :: xs, _ :: ys => rpSame xs ys
  | _, _ => True
def backOk (ns : List (Nat × Nat)) : Bool := ns.all fun p => isAt (turned ns) p.2 p.1
def freeAll (h : H) (roots : List (Nat × Nat)) : List (Nat × Nat) → Bool
  | [] => true
  | (i, n) :: l => (match look roots i with
    | some _ => true
    | none => freeAt h n) && freeAll h roots l
def compat : Option Blk → Option Blk → Prop
  | some (.cells _ _), some (.cells _ _) => True
  | some (.row _ c), some (.row _ c') => c'.len Ar.std = c.len Ar.std ∧ c'.sz = c.sz
  | some (.rr _ _ c _), some (.rr _ _ c' _) => c'.len Ar.std = c.len Ar.std ∧ c'.sz = c.sz
  | some (.mp _), some (.mp _) => True
  | _, _ => False
def compats (h h' : H) (roots : List (Nat × Nat)) : List (Nat × Nat) → Prop
  | [] => True
  | (i, n) :: l => (match look roots i with
    | some _ => compat (hget h n) (hget h' i)
    | none => True) ∧ compats h h' roots l
def deadOf (keys : List Nat) : List Nat → H
  | [] => []
  | n :: l => match memN n keys with
    | true => deadOf keys l
    | false => (n, .dead) :: deadOf keys l
/-- Some of the blocks. -/
def subH (h : H) : List Nat → H
  | [] => []
  | n :: l => match hget h n with
    | some b => (n, b) :: subH h l
    | none => subH h l
/-- Each name leads back to where it came from. -/
def sameNames (m ns : List (Nat × Nat)) : Bool := ns.all fun p => isAt m p.2 p.1
/-- A call with what the arguments lead to. -/
def effFull (kp : Bool) (h : H) (u : Nat) (con : Con) (s : Prop) (vs : List SA) : Option Eff :=
  let seen := reach 200 h (vs.flatMap refsA) []
  let m := numbered 0 seen
  match renAs m vs, renH m h seen with
  | some args, some h0 => match con args h0 with
    | some p =>
      let roots := rootsAll seen args h0 p.h vs p.as
      let ns := names roots (bid u) p.h
      match renV ns p.r, renH ns p.h (p.h.map (·.1)) with
      | some r, some h1 => match freeAll h roots ns && (distinct (h1.map (·.1)) && (backOk ns && eqn args.length vs.length)) with
        | true => some ⟨s ∧ p.C ∧ (St.mk [] (subH h seen) vs).leM false (turned m) (St.mk [] h0 args) ∧ (St.mk (entsOf p.r) p.h []).leM false (turned ns) (St.mk (entsOf r) h1 []) ∧ compats h p.h roots ns ∧ rpSame vs p.as, ⟨none, r⟩, match kp && (sameNames m ns && seen.all fun n => memN n (h1.map (·.1))) with
            | true => []
            | false => deadOf (h1.map (·.1)) seen ++ h1⟩
        | false => none
      | _, _ => none
    | none => none
  | _, _ => none
def pureC : SC → Bool
  | .ptr _ _ | .sl _ _ | .nil1 | .own _ | .rp _ _ _ | .rpi _ _ | .rpe _ _ _ | .fn _ _ | .mp _ | .cpp _ _ | .fnp _ _ _ | .fn2 _ _ _ | .vw _ _ => false
  | _ => true
def pureA : SA → Bool
  | .one c => pureC c
  | .agg cs => cs.all pureC
  | .blob _ => false
def pureV : SV → Bool
  | .sa x => pureA x
  | .tup xs => xs.all pureA
/-- A call with what the arguments hold. -/
def effPlain (h : H) (u : Nat) (con : Con) (s : Prop) (vs : List SA) : Option Eff :=
  match plainAs h vs with
  | some args => match con args [] with
    | some p =>
      let ns := names [] (bid u) p.h
      match renV ns p.r, renH ns p.h (p.h.map (·.1)) with
      | some r, some h1 => match freeAll h [] ns && (distinct (h1.map (·.1)) && backOk ns) with
        | true => match pureV p.r && p.h.isEmpty with
          | true => some ⟨s ∧ p.C, ⟨none, p.r⟩, []⟩
          | false => some ⟨s ∧ p.C ∧ (St.mk (entsOf p.r) p.h []).leM false (turned ns) (St.mk (entsOf r) h1 []), ⟨none, r⟩, rowsOf h (vs.flatMap refsA) ++ h1⟩
        | false => none
      | _, _ => none
    | none => none
  | none => none
def effFun (kp : Bool) (h : H) (u : Nat) (con : Con) (s : Prop) (vs : List SA) : Option Eff :=
  match effFull kp h u con s vs with
  | some E => some E
  | none => effPlain h u con s vs

/-- The address of an element. -/
def effIndexAddr (A : Ar) (cx : Cx) (h : H) (t : TypeId) : Ent → Ent → Option Eff
  | ⟨g, .sa (.one x)⟩, ⟨g', .sa (.one y)⟩ => match y.int?, look cx.tt t with
    | some (_, i), some ⟨.slice _ n, _, _, _, _⟩ => match x with
      | .sl _ (.ints k l) => match eqn n 1 with
        | true => mk1 (need g ∧ need g' ∧ A.cmp .geq i 0 = true ∧ A.cmp .lss i (A.lenI l) = true) (.rpi k (A.atI l i))
        | false => none
      | .sl _ (.recs s l) => match eqn n s.size with
        | true => mk1 (need g ∧ need g' ∧ A.cmp .geq i 0 = true ∧ A.cmp .lss i (A.lenE l) = true) (.rpe s (A.atE l i) 0)
        | false => none
      | .own b => match hget h b with
        | some (.row _ c) => match eqn n c.sz with
          | true => mk1 (need g ∧ need g' ∧ A.cmp .geq i 0 = true ∧ A.cmp .lss i (c.len A) = true) (.rp b i 0)
          | false => none
        | some (.rr _ _ c _) => match eqn n c.sz with
          | true => mk1 (need g ∧ need g' ∧ A.cmp .geq i 0 = true ∧ A.cmp .lss i (c.len A) = true) (.rp b i 0)
          | false => none
        | some (.frz c) => match eqn n c.sz with
          | true => match c with
            | .ints k l => mk1 (need g ∧ need g' ∧ A.cmp .geq i 0 = true ∧ A.cmp .lss i (A.lenI l) = true) (.rpi k (A.atI l i))
            | .recs s l => mk1 (need g ∧ need g' ∧ A.cmp .geq i 0 = true ∧ A.cmp .lss i (A.lenE l) = true) (.rpe s (A.atE l i) 0)
          | false => none
        | _ => none
      | _ => none
    | some (_, i), some ⟨.array len n _, _, _, _, _⟩ => match x with
      | .ptr b off => match hget h b with
        | some (.cells _ _) => match (y.lit || eqn len 2) && (stdCmp .geq i 0 && stdCmp .lss i len) with
          | true => mk1 (need g ∧ need g') (.ptr b (off + i.toNat * n))
          | false => none
        | some (.row _ c) => match eqn off 0 && (eqn c.sz 1 && (lee 1 n && lee (len * n) 1000000)) with
          | true => mk1 (need g ∧ need g' ∧ A.cmp .geq i 0 = true ∧ A.cmp .lss i len = true ∧ A.cmp .leq ((len * n : Nat) : Int) (c.len A) = true) (.rp b (match eqn n 1 with
            | true => i
            | false => A.bin .mul .i64 i n) 0)
          | false => none
        | _ => none
      | .rp b i0 0 => match hget h b with
        | some (.row _ c) => match eqn c.sz 1 && (lee 1 n && lee (len * n) 1000000) with
          | true => mk1 (need g ∧ need g' ∧ A.cmp .geq i 0 = true ∧ A.cmp .lss i len = true ∧ A.cmp .leq (c.len A) 1000000 = true ∧ A.cmp .leq (A.bin .add .i64 i0 ((len * n : Nat) : Int)) (c.len A) = true)
              (.rp b (A.bin .add .i64 i0 (match eqn n 1 with
                | true => i
                | false => A.bin .mul .i64 i n)) 0)
          | false => none
        | _ => none
      | .rpe s q j => match y.lit && (stdCmp .geq i 0 && stdCmp .lss i len) with
        | true => mk1 (need g ∧ need g') (.rpe (s.drop (i.toNat * n)) q (j + i.toNat * n))
        | false => none
      | _ => none
    | _, _ => none
  | _, _ => none
/-- A value's part at an index. -/
def effIndex (A : Ar) (cx : Cx) (t : TypeId) : Ent → Ent → Option Eff
  | ⟨g, .sa x⟩, ⟨g', .sa (.one y)⟩ => match y.int?, look cx.tt t with
    | some (_, i), some ⟨.array len n ag, _, _, _, _⟩ => match x with
      | .agg cs => match y.lit && (stdCmp .geq i 0 && stdCmp .lss i len) with
        | true => match ag with
          | true => match cutCells cs (i.toNat * n) n with
            | some l => some ⟨need g ∧ need g', ⟨none, .sa (.agg l)⟩, []⟩
            | none => none
          | false => match cutCells cs (i.toNat * n) 1 with
            | some [c] => mk1 (need g ∧ need g') c
            | _ => none
        | false => none
      | .blob c => match ag with
        | true => none
        | false => match eqn n 1 && eqn c.sz 1 with
          | true => match c.at A i 0 1 with
            | [d] => mk1 (need g ∧ need g' ∧ A.cmp .geq i 0 = true ∧ A.cmp .lss i len = true ∧ A.cmp .leq len (c.len A) = true) d
            | _ => none
          | false => none
      | _ => none
    | some (_, i), some ⟨.str, _, _, _, _⟩ => match x with
      | .one (.str l) => mk1 (need g ∧ need g' ∧ A.cmp .geq i 0 = true ∧ A.cmp .lss i (A.lenI l) = true) (.val (.int .u8 (A.atI l i)))
      | _ => none
    | _, _ => none
  | _, _ => none
def effConv (A : Ar) (cx : Cx) (h : H) (src dt : TypeId) : Ent → Option Eff
  | ⟨g, .sa (.one c)⟩ => match look cx.tt src, look cx.tt dt with
    | some ⟨.slice e _, _, _, _, _⟩, some ⟨.str, _, _, _, _⟩ => match look cx.tt e with
      | some ⟨.int .u8, _, _, _, _⟩ => match c with
        | .val (.slice none 0 0) => mk1 (need g) (.str [])
        | c => match ctOf h c with
          | some (.ints .u8 l) => mk1 (need g) (.str (A.byt l))
          | _ => none
      | _ => none
    | some ⟨.str, _, _, _, _⟩, some ⟨.slice e sz, _, _, _, _⟩ => match look cx.tt e with
      | some ⟨.int .u8, _, _, _, _⟩ => match eqn sz 1 with
        | true => match c with
          | .str l => mk1 (need g ∧ A.fits (A.lenI l) 1 = true) (.sl none (.ints .u8 l))
          | _ => none
        | false => none
      | _ => none
    | some ⟨.slice e _, _, _, _, _⟩, some ⟨.slice _ _, _, _, _, _⟩ => match look cx.tt e with
      | some ⟨.int .u8, _, _, _, _⟩ => match eqn src dt, c with
        | true, .sl (some (id, _)) (.ints k l) => match tokAt h id with
          | true => some ⟨need g ∧ A.cmp .gtr (A.lenI l) 0 = true, ⟨none, .sa (.one (.sl none (.ints k l)))⟩, [(id, .dead)]⟩
          | false => none
        | _, _ => none
      | _ => none
    | some _, some ⟨.int k, _, _, _, _⟩ => match c.int? with
      | some (_, n) => mk1 (need g) (mkI c.lit k ((A.lit c.lit).conv k n))
      | none => none
    | _, _ => none
  | _ => none
def effLoad (A : Ar) (cx : Cx) (h : H) (t : TypeId) : Ent → Option Eff
  | ⟨g, .sa (.one (.ptr b off))⟩ => match loadS A cx (hget h b) off t with
    | some (C, v) => some ⟨need g ∧ C, ⟨none, .sa v⟩, []⟩
    | none => none
  | ⟨g, .sa (.one (.rp b i j))⟩ => match hget h b, look cx.tt t with
    | some (.row _ c), some ti => match ti.k.agg with
      | true => match lee (j + ti.size) c.sz with
        | true => some ⟨need g, ⟨none, .sa (.agg (c.at A i j ti.size))⟩, []⟩
        | false => none
      | false => match lee (j + 1) c.sz, c.at A i j 1 with
        | true, [d] => mk1 (need g) d
        | _, _ => none
    | _, _ => none
  | ⟨g, .sa (.one (.rpi k n))⟩ => match look cx.tt t with
    | some ti => match ti.k.agg with
      | true => none
      | false => mk1 (need g) (.val (.int k n))
    | none => none
  | ⟨g, .sa (.one (.cpp n off))⟩ => match look cx.tt t with
    | some ti => match ti.k.agg with
      | true => none
      | false => mk1 (need g) (.ptr n off)
    | none => none
  | ⟨g, .sa (.one (.rpe s x j))⟩ => match look cx.tt t with
    | some ti => match ti.k.agg with
      | true => match lee ti.size s.size with
        | true => some ⟨need g, ⟨none, .sa (.agg (shCells A s x j ti.size))⟩, []⟩
        | false => none
      | false => match shCells A s x j 1 with
        | [c] => mk1 (need g) c
        | _ => none
    | none => none
  | _ => none
/-- A slice is taken out of its row: it may be appended to. -/
def effTake (A : Ar) (cx : Cx) (h : H) (u : Nat) (t : TypeId) : Ent → Option Eff
  | ⟨g, .sa (.one (.rp b i 0))⟩ => match hget h b, look cx.tt t with
    | some (.rr rt e c none), some ⟨.slice e2 z2, _, _, _, _⟩ => match c.at A i 0 1 with
      | [.sl none d] => match freeAt h (bid u) && (eqn e e2 && (eqn (isz c) z2 && eqn d.sz z2)) with
        | true => some ⟨need g, ⟨none, .sa (.one (.sl (some (bid u, e)) d))⟩, [(b, .rr rt e c (some i)), (bid u, .tok)]⟩
        | false => none
      | _ => none
    | _, _ => none
  | _ => none
def effStore (A : Ar) (cx : Cx) (h : H) (t : TypeId) (x y : Ent) : Option Eff :=
  match x, y, look cx.tt t with
  | ⟨g, .sa (.one (.ptr b off))⟩, ⟨g', .sa v⟩, some ti => match hget h b with
    | some (.cells bt bc) => match eqn v.cells.length ti.size && lee (off + ti.size) bc.length with
      | true => some ⟨need g ∧ need g' ∧ v.side, Ent.nil, [(b, .cells bt (pasteCells bc off v.cells))]⟩
      | false => none
    | some (.row bt c0) => match v with
      | .blob c => match eqn c.sz 1 && (eqn c0.sz 1 && eqn off 0) with
        | true => some ⟨need g ∧ need g' ∧ A.cmp .eql (c.len A) ti.size = true ∧ A.cmp .eql (c0.len A) ti.size = true, Ent.nil, [(b, .row bt c)]⟩
        | false => none
      | _ => none
    | _ => none
  | ⟨g, .sa (.one (.rp b i j))⟩, ⟨g', .sa v⟩, some ti => match hget h b with
    | some (.row bt c) => match eqn v.cells.length ti.size && lee (j + ti.size) c.sz with
      | true => match setCt A c i j v with
        | some c' => some ⟨need g ∧ need g' ∧ v.side, Ent.nil, [(b, .row bt c')]⟩
        | none => none
      | false => none
    | _ => none
  | _, _, _ => none
/-- Where a slice was taken out. -/
def isOut (h : H) : Ent → Bool
  | ⟨_, .sa (.one (.rp b _ _))⟩ => match hget h b with
    | some (.rr _ _ _ (some _)) => true
    | _ => false
  | _ => false
/-- It is put back. -/
def effPut (A : Ar) (cx : Cx) (h : H) (t : TypeId) (x y : Ent) : Option Eff :=
  match x, y, look cx.tt t with
  | ⟨g, .sa (.one (.rp b i 0))⟩, ⟨g', .sa (.one (.sl (some (id, e')) d))⟩, some ⟨.slice e2 z2, s9, _, _, _⟩ => match hget h b with
    | some (.rr bt e c (some q)) => match eqn s9 1 && (tokAt h id && (eqn e e' && (eqn e e2 && (eqn d.sz z2 && eqn (isz c) z2)))) with
      | true => match setCt A c i 0 (.one (.sl none d)) with
        | some c' => some ⟨need g ∧ need g' ∧ A.cmp .eql q i = true, Ent.nil, [(b, .rr bt e c' none), (id, .dead)]⟩
        | none => none
      | false => none
    | _ => none
  | _, _, _ => none
def effFieldAddr (cx : Cx) (h : H) (s : TypeId) (f : Nat) (x : Ent) : Option Eff :=
  match x, look cx.tt s with
  | ⟨g, .sa (.one c)⟩, some ⟨.struct fs, _, _, _, _⟩ => match fs[f]? with
    | some (o, n, _, _) => match eqn n 0 with
      | true => none
      | false => match c with
        | .ptr b off => mk1 (need g) (.ptr b (off + o))
        | .rp b i j => match hasR h b with
          | true => mk1 (need g) (.rp b i (j + o))
          | false => none
        | .rpe h y j => mk1 (need g) (.rpe (h.drop o) y (j + o))
        | _ => none
    | none => none
  | _, _ => none
def effField (cx : Cx) (s : TypeId) (f : Nat) (x : Ent) : Option Eff :=
  match x, look cx.tt s with
  | ⟨g, .sa (.agg cs)⟩, some ⟨.struct fs, _, _, _, _⟩ => match fs[f]? with
    | some (o, n, true, _) => match cutCells cs o n with
      | some l => some ⟨need g, ⟨none, .sa (.agg l)⟩, []⟩
      | none => none
    | some (o, _, false, _) => match cutCells cs o 1 with
      | some [c] => mk1 (need g) c
      | _ => none
    | none => none
  | _, _ => none
def placeOf (fs : List (Nat × Nat × Bool × List Nat)) (i : Nat) : Option (Nat × Nat) :=
  match fs[i]? with
  | some f => some (f.1, f.2.1)
  | none => none
def effBuild (A : Ar) (cx : Cx) (t : TypeId) (is : List Nat) (es : List Ent) : Option Eff :=
  match look cx.tt t, sas es with
  | some ⟨.struct fs, _, z, _, _⟩, some vs => match fillS (placeOf fs) (z.map cellOf) (is.zip vs) with
    | some cs => some ⟨needs es ∧ sidesA vs ∧ z.all Value.oneCell' = true, ⟨none, .sa (.agg cs)⟩, []⟩
    | none => none
  | some ⟨.array _ n _, sz, z, _, fl⟩, some vs => match fl, is, lee sz 8 with
    | some s, [], false => some ⟨True, ⟨none, .sa (.blob (flatCt A sz s))⟩, []⟩
    | _, is, _ => match fillS (fun i => some (i * n, n)) (z.map cellOf) (is.zip vs) with
      | some cs => some ⟨needs es ∧ sidesA vs ∧ z.all Value.oneCell' = true, ⟨none, .sa (.agg cs)⟩, []⟩
      | none => none
  | _, _ => none
def effBuildSlice (cx : Cx) (h : H) (u : Nat) (t : TypeId) (n : Nat) (is : List Nat) (es : List Ent) : Option Eff :=
  match look cx.tt t, sas es with
  | some ⟨.slice e sz, _, _, _, _⟩, some vs => match mkCt (look cx.hs t) sz vs, look cx.tt e with
    | some ct, some _ => match freeAt h (bid u) && (idxs is 0 n && (lee 1 sz && (lee (n * sz) 16777216 && vs.all fun v => eqn v.cells.length sz))) with
      | true => match eqn n 0, look cx.fs (ownKey u) with
        | true, some _ => some ⟨needs es ∧ sidesA vs, ⟨none, .sa (.one (.own (bid u)))⟩, [(bid u, .emp e)]⟩
        | _, _ => some ⟨needs es ∧ sidesA vs, ⟨none, .sa (.one (.sl (some (bid u, e)) ct))⟩, [(bid u, .tok)]⟩
      | false => none
    | _, _ => none
  | _, _ => none
/-- A slice of one nil slice. -/
def nilE1 : List Ent → Bool
  | [⟨none, .sa (.one (.val (.slice none 0 0)))⟩] => true
  | _ => false
def effNil1 (cx : Cx) (t : TypeId) (n : Nat) (is : List Nat) (es : List Ent) : Option Eff :=
  match look cx.tt t with
  | some ⟨.slice e sz, _, _, _, _⟩ => match look cx.tt e, nilE1 es && (eqn n 1 && (eqn sz 1 && idxs is 0 n)) with
    | some _, true => some ⟨True, ⟨none, .sa (.one .nil1)⟩, []⟩
    | _, _ => none
  | _ => none
def effMake (A : Ar) (cx : Cx) (h : H) (u : Nat) (t : TypeId) : Ent → Ent → Option Eff
  | ⟨g, .sa (.one x)⟩, ⟨g', .sa (.one y)⟩ => match x.int?, y.int?, look cx.tt t with
    | some (_, l), some (_, c), some ⟨.slice e sz, _, _, _, _⟩ => match look cx.tt e, look cx.bs e, look cx.hs t with
      | some te, some b, some ct => match eqn te.size sz && (lee 1 sz && (lee 1 b && (eqn ct.sz sz && freeAt h (bid u)))) with
        | true => match x.lit && stdCmp .eql l 0 with
          | true => some ⟨need g ∧ need g' ∧ A.cmp .geq c 0 = true ∧ A.fits c b = true, ⟨none, .sa (.one (.sl (some (bid u, e)) (empC ct)))⟩, [(bid u, .tok)]⟩
          | false => some ⟨need g ∧ need g' ∧ A.cmp .geq l 0 = true ∧ A.cmp .leq l c = true ∧ A.fits c b = true, ⟨none, .sa (.one (.own (bid u)))⟩, [(bid u, .row e (ct.rep A l))]⟩
        | false => none
      | _, _, _ => none
    | _, _, _ => none
  | _, _ => none
def effSlice (A : Ar) (cx : Cx) (st : St) (t : TypeId) (x : Ent) (lo hi mx : Option Operand) : Option Eff :=
  match x, look cx.tt t with
  | ⟨g, .sa (.one c)⟩, some ⟨.slice _ n, _, _, _, _⟩ => match ctOf st.heap c with
    | some ct => match bnd st 0 lo, bnd st (ct.len A) hi, bnd st 0 mx with
      | some (g1, l), some (g2, h), some (g3, m) => match eqn n ct.sz with
        | true => match mx, hi, c with
          | none, _, _ => some ⟨need g ∧ need g1 ∧ need g2 ∧ A.cmp .geq l 0 = true ∧ A.cmp .leq l h = true ∧ A.cmp .leq h (ct.len A) = true, ⟨none, .sa (.one (.sl none (ct.cut A l h)))⟩, rowsOf st.heap (refsC c)⟩
          | some _, some _, _ => some ⟨need g ∧ need g1 ∧ need g2 ∧ need g3 ∧ A.cmp .geq l 0 = true ∧ A.cmp .leq l h = true ∧ A.cmp .leq h m = true ∧ A.cmp .leq m (ct.len A) = true, ⟨none, .sa (.one (.sl none (ct.cut A l h)))⟩, rowsOf st.heap (refsC c)⟩
          | _, _, _ => none
        | false => none
      | _, _, _ => none
    | none => none
  | _, _ => none
/-- What is left of a row that was cut. -/
def pastRow (h : H) (e : TypeId) : SC → Option (Nat × Nat × Int × Ct)
  | .own n => match hget h n with
    | some (.past d sz q) => match hget h d with
      | some (.row e' c) => match eqn e e' with
        | true => some (d, sz, q, c)
        | false => none
      | _ => none
    | _ => none
  | _ => none
/-- A part of a row of one's own, that stays one's own. -/
def effCutO (A : Ar) (cx : Cx) (st : St) (u : Nat) (t : TypeId) (x : Ent) (lo hi : Option Operand) : Option Eff :=
  match x, look cx.tt t with
  | ⟨g, .sa (.one c)⟩, some ⟨.slice e n, _, _, _, _⟩ => match ownRow st.heap e c with
    | some (m, ct) => match bnd st 0 lo, bnd st (ct.len A) hi with
      | some (g1, l), some (g2, h) => match eqn n ct.sz && freeAt st.heap (bid u) with
        | true => some ⟨need g ∧ need g1 ∧ need g2 ∧ A.cmp .geq l 0 = true ∧ A.cmp .leq l h = true ∧ A.cmp .leq h (ct.len A) = true, ⟨none, .sa (.one (.own (bid u)))⟩, [(m, .dead), (bid u, .row e (ct.cut A l h))]⟩
        | false => none
      | _, _ => none
    | none => match pastRow st.heap e c, bnd st 0 lo, hi with
      | some (d, sz, q, cd), some (g1, l), none => match eqn n sz && freeAt st.heap (bid u) with
        | true => some ⟨need g ∧ need g1 ∧ A.cmp .eql l q = true, ⟨none, .sa (.one (.own (bid u)))⟩, [(d, .dead), (bid u, .row e cd)]⟩
        | false => none
      | _, _, _ => none
  | _, _ => none
/-- What stands before a place is cut off for good: it is one's own no more; the rest is. -/
def effPast (A : Ar) (cx : Cx) (st : St) (u : Nat) (t : TypeId) (x : Ent) (lo hi mx : Option Operand) : Option Eff :=
  match x, look cx.tt t with
  | ⟨g, .sa (.one c)⟩, some ⟨.slice e n, _, _, _, _⟩ => match ownRow st.heap e c with
    | some (m, ct) => match bnd st 0 lo, bnd st (ct.len A) hi, bnd st 0 mx with
      | some (g1, l), some (g2, h), some (g3, q) => match eqn n ct.sz && freeAt st.heap (bid u), hi, mx with
        | true, some _, some _ => some ⟨need g ∧ need g1 ∧ need g2 ∧ need g3 ∧ A.cmp .geq l 0 = true ∧ A.cmp .leq l h = true ∧ A.cmp .leq h q = true ∧ A.cmp .leq q (ct.len A) = true, ⟨none, .sa (.one (.sl none (ct.cut A l h)))⟩, [(m, .past (bid u) n q), (bid u, .row e (ct.cut A q (ct.len A)))]⟩
        | _, _, _ => none
      | _, _, _ => none
    | none => none
  | _, _ => none
/-- What of a row stands from a place on, as a slice. -/
def viewKey (u : Nat) : Nat := ownKey (500000000 + u)
def effView (A : Ar) (cx : Cx) (st : St) (t : TypeId) (x : Ent) (lo hi : Option Operand) : Option Eff :=
  match x, look cx.tt t, hi with
  | ⟨g, .sa (.one c)⟩, some ⟨.slice e n, _, _, _, _⟩, none => match ownRow st.heap e c, bnd st 0 lo with
    | some (m, ct), some (g1, l) => match eqn n ct.sz with
      | true => mk1 (need g ∧ need g1 ∧ A.cmp .geq l 0 = true ∧ A.cmp .leq l (ct.len A) = true) (.vw m l)
      | false => none
    | _, _ => none
  | _, _, _ => none
def sameCt : Ct → Ct → Bool
  | .ints k _, .ints k' _ => kindEq k k'
  | .recs s _, .recs s' _ => shEq s s'
  | _, _ => false
/-- Zeros from a place on. -/
def Ct.zer (A : Ar) (l : Int) : Ct → Ct
  | .ints k m => .ints k (A.zerI m l)
  | .recs s m => .recs s (A.zerE s.zero m l)
def effClear (A : Ar) (cx : Cx) (h : H) (t : TypeId) : Ent → Option Eff
  | ⟨g, .sa (.one (.vw n l))⟩ => match look cx.tt t, look cx.hs t, hget h n with
    | some ⟨.slice e sz, _, _, _, _⟩, some hc, some (.row bt c) => match look cx.tt e with
      | some te => match sameCt hc c && (eqn c.sz sz && (eqn te.size sz && lee 1 sz)) with
        | true => some ⟨need g, Ent.nil, [(n, .row bt (c.zer A l))]⟩
        | false => none
      | none => none
    | _, _, _ => none
  | _ => none
/-- A pointer in a place that nobody will write. -/
def effBoxP : Ent → Option Eff
  | ⟨g, .sa (.one (.ptr n off))⟩ => some ⟨need g, ⟨none, .sa (.one (.cpp n off))⟩, []⟩
  | _ => none
def effAlloc (A : Ar) (cx : Cx) (h : H) (u : Nat) (t : TypeId) : Option Eff :=
  match look cx.tt t with
  | some ti => match freeAt h (bid u) with
    | true => match ti.flat, lee ti.size 8 with
      | some s, false => some ⟨True, ⟨none, .sa (.one (.ptr (bid u) 0))⟩, [(bid u, .row t (flatCt A ti.size s))]⟩
      | _, _ => some ⟨ti.zero.all Value.oneCell' = true, ⟨none, .sa (.one (.ptr (bid u) 0))⟩, [(bid u, .cells t (ti.zero.map cellOf))]⟩
    | false => none
  | none => none
def effBox (h : H) (u : Nat) (t : TypeId) : Ent → Option Eff
  | ⟨g, .sa v⟩ => match freeAt h (bid u) with
    | true => match v with
      | .blob c => some ⟨need g, ⟨none, .sa (.one (.ptr (bid u) 0))⟩, [(bid u, .row t c)]⟩
      | v => some ⟨need g ∧ v.side, ⟨none, .sa (.one (.ptr (bid u) 0))⟩, [(bid u, .cells t v.cells)]⟩
    | false => none
  | _ => none
def rrCt (h : H) : SC → Option Ct
  | .own n => match hget h n with
    | some (.rr _ _ c _) => some c
    | _ => none
  | _ => none
def effLen (A : Ar) (cx : Cx) (h : H) (t : TypeId) (s : Prop) (c : SC) : Option Eff :=
  match look cx.tt t with
  | some ⟨.slice _ _, _, _, _, _⟩ => match c with
    | .val (.slice none 0 0) => mk1 s (.num .i64 0)
    | c => match ctOf h c with
      | some ct => mk1 s (.val (.int .i64 (ct.len A)))
      | none => match rrCt h c with
        | some ct => mk1 s (.val (.int .i64 (ct.len A)))
        | none => none
  | some ⟨.str, _, _, _, _⟩ => match c with
    | .str l => mk1 s (.val (.int .i64 (A.lenI l)))
    | _ => none
  | _ => none
/-- The function that is called. -/
def fnV : Ent → Option Nat
  | ⟨_, .sa (.one (.val (.func (.func f) ⟨[]⟩ ⟨[]⟩)))⟩ => some f
  | _ => none
/-- What is asked, and the guard of what is called. -/
def ndF (e : Ent) (s : Prop) : Prop :=
  match e.g with
  | none => s
  | some b => b = true ∧ s
def fnC : Ent → Option (Nat × List SA)
  | ⟨none, .sa (.one (.fn g n))⟩ => some (g, [.one (.ptr n 0)])
  | ⟨none, .sa (.one (.fnp g n o))⟩ => some (g, [.one (.cpp n o)])
  | ⟨none, .sa (.one (.fn2 g n k))⟩ => some (g, [.one (.ptr n 0), .one (.ptr k 0)])
  | _ => none
def effCall (A : Ar) (cx : Cx) (st : St) (u : Nat) (c : Call) (es : List Ent) : Option Eff :=
  match c.callee with
  | .value x => match fnV (evalE st x) with
    | some f => match lee f 999999, look cx.fs f, sas es with
      | true, some con, some vs => effFun (match look cx.fs (keepKey f) with
        | some _ => true
        | none => false) st.heap u con (ndF (evalE st x) (needs es)) vs
      | _, _, _ => none
    | none => match fnC (evalE st x) with
      | some (f, n) => match lee f 999999, look cx.fs f, sas es with
        | true, some con, some vs => effFull (match look cx.fs (keepKey f) with
          | some _ => true
          | none => false) st.heap u con (needs es) (vs ++ n)
        | _, _, _ => none
      | none => none
  | .builtin .len => match c.argTypes.toList, sas es with
    | [t], some [.one x] => effLen A cx st.heap t (needs es) x
    | _, _ => none
  | .builtin .append => match c.argTypes.toList, es with
    | [t, t'], [x, y] => match x, look cx.tt t with
      | ⟨_, .sa (.one c)⟩, some ⟨.slice e _, _, _, _, _⟩ => match empAt st.heap e c with
        | some n => effAppE A cx st.heap u n t t' x y
        | none => match ownRow st.heap e c with
          | some (n, c1) => effAppO A cx st.heap u n c1 t t' x y
          | none => match rrRow st.heap e c with
            | some (n, e2, c1) => effAppRO A cx st.heap u n e2 c1 t t' x y
            | none => match look cx.fs (ownKey u) with
              | some _ => match y with
                | ⟨_, .sa (.one .nil1)⟩ => effAppRN A cx st.heap u t t' x y
                | _ => effAppN A cx st.heap u t t' x y
              | none => effApp A cx st.heap u t t' x y
      | _, _ => none
    | _, _ => none
  | .builtin .copy => match c.argTypes.toList, es with
    | t :: _, [x, y] => effCopy A cx st.heap t x y
    | _, _ => none
  | .builtin .clear => match c.argTypes.toList, es with
    | [t], [x] => effClear A cx st.heap t x
    | _, _ => none
  | .builtin .min => match sas es with
    | some (.one x :: l) => match x.int? with
      | some (k, a) => match minmax A .lss a l k with
        | some n => mk1 (needs es) (.val (.int k n))
        | none => none
      | none => none
    | _ => none
  | .builtin .max => match sas es with
    | some (.one x :: l) => match x.int? with
      | some (k, a) => match minmax A .gtr a l k with
        | some n => mk1 (needs es) (.val (.int k n))
        | none => none
      | none => none
    | _ => none
  | _ => none
def effUn (A : Ar) (op : UnOp) : Ent → Option Eff
  | ⟨g, .sa (.one c)⟩ => match op with
    | .not => match c.bool? with
      | some b => mk1 (need g) (mkB c.lit ((A.lit c.lit).not b))
      | none => none
    | .neg => match c.int? with
      | some (k, n) => mk1 (need g) (mkI c.lit k ((A.lit c.lit).bin .sub k 0 n))
      | none => none
    | .xor => match c.int? with
      | some (k, n) => mk1 (need g) (mkI c.lit k ((A.lit c.lit).bin .xor k (match k.signed with
        | true => -1
        | false => k.max) n))
      | none => none
    | _ => none
  | _ => none
def effNil : Ent → Option Eff
  | ⟨g, .sa (.one (.ptr n o))⟩ => mk1 (need g) (.ptr n o)
  | ⟨g, .sa (.one (.rp n i j))⟩ => mk1 (need g) (.rp n i j)
  | _ => none
def effExtract (i : Nat) : Ent → Option Eff
  | ⟨g, .tup xs⟩ => match xs[i]? with
    | some a => some ⟨need g, ⟨none, .sa a⟩, []⟩
    | none => none
  | _ => none

/-- Maps of numbers to numbers. -/
def effMkMap (cx : Cx) (h : H) (u : Nat) (t : TypeId) (hint : Option Operand) : Option Eff :=
  match look cx.tt t, hint, freeAt h (bid u) with
  | some ⟨.mapII, _, _, _, _⟩, none, true => some ⟨True, ⟨none, .sa (.one (.mp (bid u)))⟩, [(bid u, .mp [])]⟩
  | _, _, _ => none
def effLook (A : Ar) (cx : Cx) (h : H) (t : TypeId) (ok : Bool) : Ent → Ent → Option Eff
  | ⟨g, .sa (.one (.mp n))⟩, ⟨g', .sa (.one y)⟩ => match y.int?, look cx.tt t, hget h n with
    | some (.i64, k), some ⟨.mapII, _, _, _, _⟩, some (.mp l) => match ok with
      | false => mk1 (need g ∧ need g') (.val (.int .i64 (A.mget l k)))
      | true => some ⟨need g ∧ need g', ⟨none, .tup [.one (.val (.int .i64 (A.mget l k))), .one (.val (.bool (A.mhas l k)))]⟩, []⟩
    | _, _, _ => none
  | _, _ => none
def effUpd (A : Ar) (cx : Cx) (h : H) (t : TypeId) : Ent → Ent → Ent → Option Eff
  | ⟨g, .sa (.one (.mp n))⟩, ⟨g', .sa (.one y)⟩, ⟨g2, .sa (.one z)⟩ => match y.int?, z.int?, look cx.tt t, hget h n with
    | some (.i64, k), some (.i64, v), some ⟨.mapII, _, _, _, _⟩, some (.mp l) => some ⟨need g ∧ need g' ∧ need g2 ∧ A.cmp .lss (A.mlen l) 1000000000000 = true, Ent.nil, [(n, .mp (A.mput l k v))]⟩
    | _, _, _, _ => none
  | _, _, _ => none
/-- A function, bound to one captured variable. -/
def effFn (f : Fn) (first : List Ent) (cap : List Ent) : Option Eff :=
  match f, first, cap with
  | .func f, [], [⟨g, .sa (.one (.ptr n 0))⟩] => mk1 (need g) (.fn f n)
  | .func f, [], [⟨g, .sa (.one (.cpp n o))⟩] => mk1 (need g) (.fnp f n o)
  | .func f, [], [⟨g, .sa (.one (.ptr n 0))⟩, ⟨g', .sa (.one (.ptr k 0))⟩] => mk1 (need g ∧ need g') (.fn2 f n k)
  | _, _, _ => none
def eff (A : Ar) (cx : Cx) (st : St) (u : Nat) : Op → Option Eff
  | .makeFunc f first cap => effFn f (first.toList.map (evalE st)) (cap.toList.map (evalE st))
  | .move x | .assign x => some ⟨True, evalE st x, []⟩
  | .pick c a b => effPick A (evalE st c) (evalE st a) (evalE st b)
  | .binOp op xt x y _ => effBin A cx st.heap op xt (evalE st x) (evalE st y)
  | .unOp op _ x => effUn A op (evalE st x)
  | .convert src dt x => effConv A cx st.heap src dt (evalE st x)
  | .nilCheck x => effNil (evalE st x)
  | .alloc t => effAlloc A cx st.heap u t
  | .box t x => match look cx.fs (ownKey u) with
    | some _ => effBoxP (evalE st x)
    | none => effBox st.heap u t (evalE st x)
  | .load t x => match look cx.fs (ownKey u) with
    | some _ => effTake A cx st.heap u t (evalE st x)
    | none => effLoad A cx st.heap t (evalE st x)
  | .store t x y => match isOut st.heap (evalE st x) with
    | true => effPut A cx st.heap t (evalE st x) (evalE st y)
    | false => effStore A cx st.heap t (evalE st x) (evalE st y)
  | .fieldAddr s x f => effFieldAddr cx st.heap s f (evalE st x)
  | .field s x f => effField cx s f (evalE st x)
  | .build t ps => effBuild A cx t (ps.toList.map (·.1)) (ps.toList.map fun p => evalE st p.2)
  | .buildSlice t n ps => match look cx.fs (ownKey u), nilE1 (ps.toList.map fun p => evalE st p.2) with
    | some _, true => effNil1 cx t n (ps.toList.map (·.1)) (ps.toList.map fun p => evalE st p.2)
    | _, _ => effBuildSlice cx st.heap u t n (ps.toList.map (·.1)) (ps.toList.map fun p => evalE st p.2)
  | .makeSlice t l c => effMake A cx st.heap u t (evalE st l) (evalE st c)
  | .indexAddr t x ix => effIndexAddr A cx st.heap t (evalE st x) (evalE st ix)
  | .index t x ix => effIndex A cx t (evalE st x) (evalE st ix)
  | .slice t x lo hi mx => match look cx.fs (ownKey u) with
    | some _ => match mx with
      | none => effCutO A cx st u t (evalE st x) lo hi
      | some y => effPast A cx st u t (evalE st x) lo hi (some y)
    | none => match look cx.fs (viewKey u), mx with
      | some _, none => effView A cx st t (evalE st x) lo hi
      | _, mx => effSlice A cx st t (evalE st x) lo hi mx
  | .extract x i => effExtract i (evalE st x)
  | .makeMap t hint => effMkMap cx st.heap u t hint
  | .lookup t m x ok => effLook A cx st.heap t ok (evalE st m) (evalE st x)
  | .mapUpdate t m x v => effUpd A cx st.heap t (evalE st m) (evalE st x) (evalE st v)
  | .call c => effCall A cx st u c (c.args.toList.map (evalE st))
  | _ => none

def St.put (st : St) (dst : Option Tmp) (e : Ent) : St :=
  match dst with
  | some d => { st with slots := st.slots.set d e }
  | none => st
def setAll (h : H) : List (Nat × Blk) → H
  | [] => h
  | p :: l => setAll (hset h p.1 p.2) l
def St.app (st : St) (dst : Option Tmp) (E : Eff) : St := { (st.put dst E.ent) with heap := setAll st.heap E.blk }
/-- What a guard comes to. -/
inductive Wn where
  | bad
  | yes
  | no
  | sym (b : Bool)
def wantT (A : Ar) (want : Bool) : Ent → Wn
  | ⟨none, .sa (.one (.tf c))⟩ => match want, c with
    | true, true => .yes
    | false, false => .yes
    | _, _ => .no
  | ⟨some g, .sa (.one (.tf c))⟩ => match want, c with
    | true, true => .sym g
    | false, false => .sym g
    | _, _ => .no
  | ⟨none, .sa (.one (.val (.bool c)))⟩ => .sym (match want with
    | true => c
    | false => A.not c)
  | ⟨some g, .sa (.one (.val (.bool c)))⟩ => .sym (A.and g (match want with
    | true => c
    | false => A.not c))
  | _ => .bad
def wantG (A : Ar) (ops : List Oper) (st : St) : Option (Nat × Bool) → Wn
  | none => .yes
  | some (j, want) =>
    match ops[j]? with
    | some o => match o.dst with
      | some t => wantT A want (st.slots.getD t Ent.nil)
      | none => .bad
    | none => .bad
/-- An operation with its guard; d: whether it is done, where that is to be settled. -/
def effG (A : Ar) (cx : Cx) (ops : List Oper) (st : St) (u : Nat) (o : Oper) (d : Bool) : Option Eff :=
  match wantG A ops st o.guard with
  | .bad => none
  | .yes => eff A cx st u o.op
  | .no => some ⟨True, Ent.off, []⟩
  | .sym b => match eff A cx st u o.op with
    | some ⟨C, e, []⟩ => some ⟨b = false ∨ C, ⟨gand A (some b) e.g, e.v⟩, []⟩
    | some ⟨C, e, p :: l⟩ => match d with
      | true => some ⟨b = true ∧ C, e, p :: l⟩
      | false => some ⟨b = false, Ent.nil, []⟩
    | none => some ⟨b = false, Ent.nil, []⟩
/-- The blocks that an operation looks at or writes. -/
def footFull (h : H) (u : Nat) (con : Con) (vs : List SA) : List Nat :=
  let seen := reach 200 h (vs.flatMap refsA) []
  let m := numbered 0 seen
  vs.flatMap refsA ++ seen ++ (match renAs m vs, renH m h seen with
  | some args, some h0 => match con args h0 with
    | some p => (names (rootsAll seen args h0 p.h vs p.as) (bid u) p.h).map (·.2)
    | none => []
  | _, _ => []) ++ (match plainAs h vs with
    | some args => match con args [] with
      | some p => (names [] (bid u) p.h).map (·.2)
      | none => []
    | none => [])
def rpRefs (e : Ent) : List Nat :=
  match e.v with
  | .sa (.one (.rp n _ _)) => [n]
  | _ => []
/-- What a load looks at. -/
def refsL (e : Ent) : List Nat :=
  match e.v with
  | .sa (.one (.cpp _ _)) => []
  | _ => refsE e
def pastOf (h : H) (n : Nat) : List Nat :=
  match hget h n with
  | some (.past d _ _) => [d]
  | _ => []
def foot (cx : Cx) (st : St) (u : Nat) (o : Oper) : List Nat :=
  match o.op with
  | .binOp _ _ x y _ => refsE (evalE st x) ++ refsE (evalE st y)
  | .convert _ _ x | .indexAddr _ x _ => refsE (evalE st x)
  | .load _ x => match look cx.fs (ownKey u) with
    | some _ => bid u :: refsL (evalE st x)
    | none => refsL (evalE st x)
  | .slice _ x _ _ _ => bid u :: (refsE (evalE st x) ++ (refsE (evalE st x)).flatMap (pastOf st.heap))
  | .fieldAddr _ x _ => rpRefs (evalE st x)
  | .store _ x y => match isOut st.heap (evalE st x) with
    | true => refsE (evalE st x) ++ refsE (evalE st y)
    | false => refsE (evalE st x)
  | .lookup _ x _ _ | .mapUpdate _ x _ _ => refsE (evalE st x)
  | .makeMap _ _ => [bid u]
  | .alloc _ | .box _ _ | .buildSlice _ _ _ | .makeSlice _ _ _ => [bid u]
  | .call c => match c.callee with
    | .builtin .append => bid u :: (c.args.toList.map (evalE st)).flatMap refsE
    | .builtin .len | .builtin .copy | .builtin .clear => (c.args.toList.map (evalE st)).flatMap refsE
    | .value x => match fnV (evalE st x) with
      | some f => match look cx.fs f, sas (c.args.toList.map (evalE st)) with
        | some con, some vs => footFull st.heap u con vs
        | _, _ => []
      | none => match fnC (evalE st x) with
        | some (f, n) => match look cx.fs f, sas (c.args.toList.map (evalE st)) with
          | some con, some vs => footFull st.heap u con (vs ++ n)
          | _, _ => []
        | none => []
    | _ => []
  | _ => []
/-- An operation, where it stands, and whether it is done. -/
structure Jt where
  i : Nat
  o : Oper
  d : Bool
/-- An operation that has been reckoned. -/
structure It where
  i : Nat
  o : Oper
  d : Bool
  side : Prop
  wb : List Nat
  ft : List Nat
def uid (r i : Nat) : Nat := 1000 * r + i
def runT (A : Ar) (cx : Cx) (r : Nat) (ops : List Oper) : List Jt → St → Option (List It × St)
  | [], st => some ([], st)
  | j :: l, st => match effG A cx ops st (uid r j.i) j.o j.d with
    | some E => match runT A cx r ops l (st.app j.o.dst E) with
      | some (T, st') => some (⟨j.i, j.o, j.d, E.side, E.blk.map (·.1), foot cx st (uid r j.i) j.o⟩ :: T, st')
      | none => none
    | none => none
/-- The same, for each way that the guards may leave. -/
def runW (A : Ar) (cx : Cx) (r : Nat) (ops : List Oper) : Nat → List Oper → St → (List It → St → Prop) → Prop
  | _, [], st, K => K [] st
  | i, o :: l, st, K => match wantG A ops st o.guard with
    | .bad => False
    | .yes => match eff A cx st (uid r i) o.op with
      | some E => runW A cx r ops (i + 1) l (st.app o.dst E) fun T s => K (⟨i, o, true, E.side, E.blk.map (·.1), foot cx st (uid r i) o⟩ :: T) s
      | none => False
    | .no => runW A cx r ops (i + 1) l (st.app o.dst ⟨True, Ent.off, []⟩) fun T s => K (⟨i, o, true, True, [], foot cx st (uid r i) o⟩ :: T) s
    | .sym b => match eff A cx st (uid r i) o.op with
      | some ⟨C, e, []⟩ => runW A cx r ops (i + 1) l (st.app o.dst ⟨b = false ∨ C, ⟨gand A (some b) e.g, e.v⟩, []⟩) fun T s => K (⟨i, o, true, b = false ∨ C, [], foot cx st (uid r i) o⟩ :: T) s
      | some ⟨C, e, p :: q⟩ => (b = false ∨ runW A cx r ops (i + 1) l (st.app o.dst ⟨b = true ∧ C, e, p :: q⟩) fun T s => K (⟨i, o, true, C, p.1 :: q.map (·.1), foot cx st (uid r i) o⟩ :: T) s) ∧
          (b = true ∨ runW A cx r ops (i + 1) l (st.app o.dst ⟨b = false, Ent.nil, []⟩) fun T s => K (⟨i, o, false, True, [], foot cx st (uid r i) o⟩ :: T) s)
      | none => runW A cx r ops (i + 1) l (st.app o.dst ⟨b = false, Ent.nil, []⟩) fun T s => K (⟨i, o, true, b = false, [], foot cx st (uid r i) o⟩ :: T) s
def sides : List It → Prop
  | [] => True
  | x :: T => x.side ∧ sides T
def free1 (bs l : List Nat) : Bool := bs.all fun b => l.all fun c => !eqn b c
/-- Whether an operation must follow another one, by a chain of what binds. -/
def bef (ops : List Oper) : Nat → Nat → Nat → Bool
  | 0, _, _ => false
  | f + 1, y, x => match ops[y]? with
    | some o => o.after.toList.any fun e => Region.binds .any e && (eqn e.on x || bef ops f e.on x)
    | none => false
/-- Two operations that may change places. -/
def pairB (ops : List Oper) (x y : It) : Bool :=
  y.o.after.toList.any (fun e => Region.binds .any e && eqn e.on x.i) || ((x.o.apart ops.toArray y.o && free1 x.wb y.ft && free1 y.wb x.ft) || bef ops 6 y.i x.i)
def pairsB (ops : List Oper) : List It → Bool
  | [] => true
  | x :: T => T.all (pairB ops x) && pairsB ops T
def withIdx : Nat → List Oper → List Bool → List Jt
  | i, o :: l, d :: ds => ⟨i, o, d⟩ :: withIdx (i + 1) l ds
  | _, _, _ => []

/-- Edges lead back. -/
def backB : Nat → List Oper → Bool
  | _, [] => true
  | i, o :: l => o.after.toList.all (fun e => !Region.binds .any e || lee (e.on + 1) i) && backB (i + 1) l

inductive Ex where
  | normal
  | exit (id : Nat)
  | ret
/-- What is left to show of a function's code. L: what is said of loops. -/
def ex (A : Ar) (cx : Cx) (L : Code → St → (Ex → St → Prop) → Prop) : Code → St → (Ex → St → Prop) → Prop
  | .skip, s, K => K .normal s
  | .region id ops draw, s, K => runW A cx id ops.toList 0 ops.toList s fun T s' => match draw && !(pairsB ops.toList T && backB 0 ops.toList) with
      | true => False
      | false => sides T ∧ K .normal s'
  | .seq a b, s, K => ex A cx L a s (fun e s' => match e with
    | .normal => ex A cx L b s' K
    | e => K e s')
  | .cond c a b, s, K => match evalE s c with
    | ⟨none, .sa (.one (.tf t))⟩ => match t with
      | true => ex A cx L a s K
      | false => ex A cx L b s K
    | ⟨none, .sa (.one (.val (.bool t)))⟩ => (t = false ∨ ex A cx L a s K) ∧ (t = true ∨ ex A cx L b s K)
    | _ => False
  | .block id c, s, K => ex A cx L c s (fun e s' => match e with
    | .exit i => match eqn i id with
      | true => K .normal s'
      | false => K (.exit i) s'
    | e => K e s')
  | .exit id, s, K => K (.exit id) s
  | .ret, s, K => K .ret s
  | .loop c, s, K => L c s K
  | _, _, _ => False

/-! ## Where a function begins, and what it hands back -/
def hasRef (x : SA) : SA :=
  match refsA x with
  | [] => .one .any
  | _ => x
def start (n : Nat) (args : List SA) (h : H) : St := ⟨args.map entA ++ List.replicate (n - args.length) Ent.nil, h, args.map hasRef ++ (ownsAll args h).map .one⟩
def resE (A : Ar) (cx : Cx) (st : St) : ResultVar → Option (Prop × SA)
  | .tmp t => match evalE st (.tmp t) with
    | ⟨none, .sa x⟩ => some (True, x)
    | _ => none
  | .cell a t => match evalE st (.tmp a) with
    | ⟨none, .sa (.one (.ptr b off))⟩ => loadS A cx (hget st.heap b) off t
    | _ => none
def resL (A : Ar) (cx : Cx) (st : St) : List ResultVar → Option (Prop × List SA)
  | [] => some (True, [])
  | r :: l => match resE A cx st r, resL A cx st l with
    | some (C, x), some (D, xs) => some (C ∧ D, x :: xs)
    | _, _ => none
/-- What a function's end has to show. -/
def fin (A : Ar) (cx : Cx) (rs : List ResultVar) (p : Post) : Ex → St → Prop
  | .exit _, _ => False
  | _, st => match resL A cx st rs with
    | some (C, xs) => (match p.r, xs with
      | .sa _, [_] => True
      | .tup _, [_] => False
      | .tup _, _ => True
      | _, _ => False) ∧ C ∧ (St.mk (xs.map entA) st.heap st.gs).le (St.mk (entsOf p.r) p.h p.as)
    | none => False
end Go.Proofs.Ytakebkfhigadiaa.Ry
