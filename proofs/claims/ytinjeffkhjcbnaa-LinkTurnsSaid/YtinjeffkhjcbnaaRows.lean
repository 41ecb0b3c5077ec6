/-
  No cell of these rows narrows 'for every input' (looked for: loops, veiled, ifaces, maps, wideKeys, modest, calm, conditions, laid).
  DERIVED. THE GIVEN ROWS OF THIS SEAT. 11 by the template 'for every input the law returns true; each argument reads behind the call as it read before'; 0 by the template 'total and deterministic' (their statements: YtinjeffkhjcbnaaTotals.lean).
  GIVEN WITH THE SEED: the statements are not yours to turn. If you find one false, say at which input.
  Laid BY PROGRAM, IN A SANDBOX (cutbox-rows.mjs): the forced cells as the released guide's own fill.sh prints them over the translation 1512eb433c826081… (all of the seat's roots in one cut). By AI agents, Wed Nov 11 2026. No macro, syntax, notation, axiom, sorry.
-/
import Derived.Test.YtinjeffkhjcbnaaChecked
import GoSem.Claim
import GoSem.ClaimJoined
import GoSem.ClaimMapViews
import Derived.JoinedTies
import Derived.KernelRfl
namespace Go.Proofs.Ytinjeffkhjcbnaa
/- THE CELL 'sum', in the pinned program and in every row, IS THE sha256 OF THE DUMP (.gsa) THAT YtinjeffkhjcbnaaProg.lean LOADS. Nothing in Lean hashes anything: it is a label: what it is worth is what the hold of that sum in a sandbox is worth. -/
noncomputable def Try.pinned : Pinned := { name := "ytinjeffkhjcbnaa", sum := "1512eb433c826081fba8a0945b869ee8b8a31b670d0396084632e1cb6da37666", checked := Try.checked }
namespace Rows
def none {H : Type} : Left H := { results := [], args := [] }

/-- 'withylaw17.LineHears': WHATEVER THE INPUT: true; the input reads as it did. -/
def lineHearsSpec : ChangeSpec := { name := "lineHears", fn := fun _ => fun
  | [d1, d2, d3] => { results := [.lit (.bool true)], args := [d1, d2, d3] }
  | _ => none }
def lineHearsRow : OpenClaim := { program := "ytinjeffkhjcbnaa", sum := "1512eb433c826081fba8a0945b869ee8b8a31b670d0396084632e1cb6da37666", func := "withy/withylaw17.LineHears", spec := "lineHears", unfollowed := true, recurses := true, apart := false }
def LineHearsSaid : Prop := lineHearsRow.holds Try.pinned (OpenSpec.ofChange lineHearsSpec)

/-- ITS FALSE NEIGHBOUR: 'it returns false'. Refute it at one input. -/
def lineHearsWrong : ChangeSpec := { name := "lineHears", fn := fun _ => fun
  | [d1, d2, d3] => { results := [.lit (.bool false)], args := [d1, d2, d3] }
  | _ => none }
def LineHearsWrongFalsely : Prop := lineHearsRow.holds Try.pinned (OpenSpec.ofChange lineHearsWrong)

/-- 'withylaw17.LineTicks': WHATEVER THE INPUT: true; the input reads as it did. -/
def lineTicksSpec : ChangeSpec := { name := "lineTicks", fn := fun _ => fun
  | [d1, d2] => { results := [.lit (.bool true)], args := [d1, d2] }
  | _ => none }
def lineTicksRow : OpenClaim := { program := "ytinjeffkhjcbnaa", sum := "1512eb433c826081fba8a0945b869ee8b8a31b670d0396084632e1cb6da37666", func := "withy/withylaw17.LineTicks", spec := "lineTicks", unfollowed := true, recurses := true, apart := false }
def LineTicksSaid : Prop := lineTicksRow.holds Try.pinned (OpenSpec.ofChange lineTicksSpec)

/-- ITS FALSE NEIGHBOUR: 'it returns false'. Refute it at one input. -/
def lineTicksWrong : ChangeSpec := { name := "lineTicks", fn := fun _ => fun
  | [d1, d2] => { results := [.lit (.bool false)], args := [d1, d2] }
  | _ => none }
def LineTicksWrongFalsely : Prop := lineTicksRow.holds Try.pinned (OpenSpec.ofChange lineTicksWrong)

/-- 'withylaw17.LineTurns': WHATEVER THE INPUT: true; the input reads as it did. -/
def lineTurnsSpec : ChangeSpec := { name := "lineTurns", fn := fun _ => fun
  | [d1, d2, d3] => { results := [.lit (.bool true)], args := [d1, d2, d3] }
  | _ => none }
def lineTurnsRow : OpenClaim := { program := "ytinjeffkhjcbnaa", sum := "1512eb433c826081fba8a0945b869ee8b8a31b670d0396084632e1cb6da37666", func := "withy/withylaw17.LineTurns", spec := "lineTurns", unfollowed := true, recurses := true, apart := false }
def LineTurnsSaid : Prop := lineTurnsRow.holds Try.pinned (OpenSpec.ofChange lineTurnsSpec)

/-- ITS FALSE NEIGHBOUR: 'it returns false'. Refute it at one input. -/
def lineTurnsWrong : ChangeSpec := { name := "lineTurns", fn := fun _ => fun
  | [d1, d2, d3] => { results := [.lit (.bool false)], args := [d1, d2, d3] }
  | _ => none }
def LineTurnsWrongFalsely : Prop := lineTurnsRow.holds Try.pinned (OpenSpec.ofChange lineTurnsWrong)

/-- 'withylaw17.LineStale': WHATEVER THE INPUT: true; the input reads as it did. -/
def lineStaleSpec : ChangeSpec := { name := "lineStale", fn := fun _ => fun
  | [d1, d2] => { results := [.lit (.bool true)], args := [d1, d2] }
  | _ => none }
def lineStaleRow : OpenClaim := { program := "ytinjeffkhjcbnaa", sum := "1512eb433c826081fba8a0945b869ee8b8a31b670d0396084632e1cb6da37666", func := "withy/withylaw17.LineStale", spec := "lineStale", unfollowed := true, recurses := true, apart := false }
def LineStaleSaid : Prop := lineStaleRow.holds Try.pinned (OpenSpec.ofChange lineStaleSpec)

/-- ITS FALSE NEIGHBOUR: 'it returns false'. Refute it at one input. -/
def lineStaleWrong : ChangeSpec := { name := "lineStale", fn := fun _ => fun
  | [d1, d2] => { results := [.lit (.bool false)], args := [d1, d2] }
  | _ => none }
def LineStaleWrongFalsely : Prop := lineStaleRow.holds Try.pinned (OpenSpec.ofChange lineStaleWrong)

/-- 'withylaw16.HandMeets': WHATEVER THE INPUT: true; the input reads as it did. -/
def handMeetsSpec : ChangeSpec := { name := "handMeets", fn := fun _ => fun
  | [d1, d2] => { results := [.lit (.bool true)], args := [d1, d2] }
  | _ => none }
def handMeetsRow : OpenClaim := { program := "ytinjeffkhjcbnaa", sum := "1512eb433c826081fba8a0945b869ee8b8a31b670d0396084632e1cb6da37666", func := "withy/withylaw16.HandMeets", spec := "handMeets", apart := false }
def HandMeetsSaid : Prop := handMeetsRow.holds Try.pinned (OpenSpec.ofChange handMeetsSpec)

/-- ITS FALSE NEIGHBOUR: 'it returns false'. Refute it at one input. -/
def handMeetsWrong : ChangeSpec := { name := "handMeets", fn := fun _ => fun
  | [d1, d2] => { results := [.lit (.bool false)], args := [d1, d2] }
  | _ => none }
def HandMeetsWrongFalsely : Prop := handMeetsRow.holds Try.pinned (OpenSpec.ofChange handMeetsWrong)

/-- 'withylaw16.HandAgrees': WHATEVER THE INPUT: true; the input reads as it did. -/
def handAgreesSpec : ChangeSpec := { name := "handAgrees", fn := fun _ => fun
  | [d1, d2] => { results := [.lit (.bool true)], args := [d1, d2] }
  | _ => none }
def handAgreesRow : OpenClaim := { program := "ytinjeffkhjcbnaa", sum := "1512eb433c826081fba8a0945b869ee8b8a31b670d0396084632e1cb6da37666", func := "withy/withylaw16.HandAgrees", spec := "handAgrees", apart := false }
def HandAgreesSaid : Prop := handAgreesRow.holds Try.pinned (OpenSpec.ofChange handAgreesSpec)

/-- ITS FALSE NEIGHBOUR: 'it returns false'. Refute it at one input. -/
def handAgreesWrong : ChangeSpec := { name := "handAgrees", fn := fun _ => fun
  | [d1, d2] => { results := [.lit (.bool false)], args := [d1, d2] }
  | _ => none }
def HandAgreesWrongFalsely : Prop := handAgreesRow.holds Try.pinned (OpenSpec.ofChange handAgreesWrong)

/-- 'withylaw15.TakeCarries': WHATEVER THE INPUT: true; the input reads as it did. -/
def takeCarriesSpec : ChangeSpec := { name := "takeCarries", fn := fun _ => fun
  | [d1, d2] => { results := [.lit (.bool true)], args := [d1, d2] }
  | _ => none }
def takeCarriesRow : OpenClaim := { program := "ytinjeffkhjcbnaa", sum := "1512eb433c826081fba8a0945b869ee8b8a31b670d0396084632e1cb6da37666", func := "withy/withylaw15.TakeCarries", spec := "takeCarries", unfollowed := true, recurses := true, apart := false }
def TakeCarriesSaid : Prop := takeCarriesRow.holds Try.pinned (OpenSpec.ofChange takeCarriesSpec)

/-- ITS FALSE NEIGHBOUR: 'it returns false'. Refute it at one input. -/
def takeCarriesWrong : ChangeSpec := { name := "takeCarries", fn := fun _ => fun
  | [d1, d2] => { results := [.lit (.bool false)], args := [d1, d2] }
  | _ => none }
def TakeCarriesWrongFalsely : Prop := takeCarriesRow.holds Try.pinned (OpenSpec.ofChange takeCarriesWrong)

/-- 'withylaw19.LinkTicks': WHATEVER THE INPUT: true; the input reads as it did. -/
def linkTicksSpec : ChangeSpec := { name := "linkTicks", fn := fun _ => fun
  | [d1, d2, d3] => { results := [.lit (.bool true)], args := [d1, d2, d3] }
  | _ => none }
def linkTicksRow : OpenClaim := { program := "ytinjeffkhjcbnaa", sum := "1512eb433c826081fba8a0945b869ee8b8a31b670d0396084632e1cb6da37666", func := "withy/withylaw19.LinkTicks", spec := "linkTicks", unfollowed := true, recurses := true, apart := false }
def LinkTicksSaid : Prop := linkTicksRow.holds Try.pinned (OpenSpec.ofChange linkTicksSpec)

/-- ITS FALSE NEIGHBOUR: 'it returns false'. Refute it at one input. -/
def linkTicksWrong : ChangeSpec := { name := "linkTicks", fn := fun _ => fun
  | [d1, d2, d3] => { results := [.lit (.bool false)], args := [d1, d2, d3] }
  | _ => none }
def LinkTicksWrongFalsely : Prop := linkTicksRow.holds Try.pinned (OpenSpec.ofChange linkTicksWrong)

/-- 'withylaw19.LinkTurns': WHATEVER THE INPUT: true; the input reads as it did. -/
def linkTurnsSpec : ChangeSpec := { name := "linkTurns", fn := fun _ => fun
  | [d1, d2, d3] => { results := [.lit (.bool true)], args := [d1, d2, d3] }
  | _ => none }
def linkTurnsRow : OpenClaim := { program := "ytinjeffkhjcbnaa", sum := "1512eb433c826081fba8a0945b869ee8b8a31b670d0396084632e1cb6da37666", func := "withy/withylaw19.LinkTurns", spec := "linkTurns", unfollowed := true, recurses := true, apart := false }
def LinkTurnsSaid : Prop := linkTurnsRow.holds Try.pinned (OpenSpec.ofChange linkTurnsSpec)

/-- ITS FALSE NEIGHBOUR: 'it returns false'. Refute it at one input. -/
def linkTurnsWrong : ChangeSpec := { name := "linkTurns", fn := fun _ => fun
  | [d1, d2, d3] => { results := [.lit (.bool false)], args := [d1, d2, d3] }
  | _ => none }
def LinkTurnsWrongFalsely : Prop := linkTurnsRow.holds Try.pinned (OpenSpec.ofChange linkTurnsWrong)

/-- 'withylaw19.LinkHears': WHATEVER THE INPUT: true; the input reads as it did. -/
def linkHearsSpec : ChangeSpec := { name := "linkHears", fn := fun _ => fun
  | [d1, d2, d3] => { results := [.lit (.bool true)], args := [d1, d2, d3] }
  | _ => none }
def linkHearsRow : OpenClaim := { program := "ytinjeffkhjcbnaa", sum := "1512eb433c826081fba8a0945b869ee8b8a31b670d0396084632e1cb6da37666", func := "withy/withylaw19.LinkHears", spec := "linkHears", unfollowed := true, recurses := true, apart := false }
def LinkHearsSaid : Prop := linkHearsRow.holds Try.pinned (OpenSpec.ofChange linkHearsSpec)

/-- ITS FALSE NEIGHBOUR: 'it returns false'. Refute it at one input. -/
def linkHearsWrong : ChangeSpec := { name := "linkHears", fn := fun _ => fun
  | [d1, d2, d3] => { results := [.lit (.bool false)], args := [d1, d2, d3] }
  | _ => none }
def LinkHearsWrongFalsely : Prop := linkHearsRow.holds Try.pinned (OpenSpec.ofChange linkHearsWrong)

/-- 'withylaw19.LinkOpens': WHATEVER THE INPUT: true; the input reads as it did. -/
def linkOpensSpec : ChangeSpec := { name := "linkOpens", fn := fun _ => fun
  | [d1, d2, d3] => { results := [.lit (.bool true)], args := [d1, d2, d3] }
  | _ => none }
def linkOpensRow : OpenClaim := { program := "ytinjeffkhjcbnaa", sum := "1512eb433c826081fba8a0945b869ee8b8a31b670d0396084632e1cb6da37666", func := "withy/withylaw19.LinkOpens", spec := "linkOpens", unfollowed := true, recurses := true, apart := false }
def LinkOpensSaid : Prop := linkOpensRow.holds Try.pinned (OpenSpec.ofChange linkOpensSpec)

/-- ITS FALSE NEIGHBOUR: 'it returns false'. Refute it at one input. -/
def linkOpensWrong : ChangeSpec := { name := "linkOpens", fn := fun _ => fun
  | [d1, d2, d3] => { results := [.lit (.bool false)], args := [d1, d2, d3] }
  | _ => none }
def LinkOpensWrongFalsely : Prop := linkOpensRow.holds Try.pinned (OpenSpec.ofChange linkOpensWrong)

/- THE SECOND FORM. 'bulk': how many values and letters a reading holds, each counted each time it is reached (what is shared counts as often as it is met; a slice's spare places count too). A statement '..UptoSaid' is the law's where the arguments, and the package variables that the reading takes, are together of bulk at most 1048576: NARROWER than '..Said'. Prove '..Said' where nothing that the law and all that it calls make is longer than what came in: it says more and counts as full. Else prove '..UptoSaid'. A law counts once. -/
mutual
def uptoBulk {H : Type} : DataW H → Nat
  | .lit (.string bytes) => bytes.length + 1
  | .lit _ => 1
  | .nil => 1
  | .ptr d => uptoBulk d + 1
  | .slice elems spare => uptoBulkAll elems + uptoBulkAll spare + 1
  | .agg parts => uptoBulkAll parts + 1
  | .iface _ d => uptoBulk d + 1
  | .map entries => uptoBulkEntries entries + 1
  | .held _ => 1
def uptoBulkAll {H : Type} : List (DataW H) → Nat
  | [] => 0
  | d :: r => uptoBulk d + uptoBulkAll r
def uptoBulkEntries {H : Type} : List (Lit × DataW H) → Nat
  | [] => 0
  | x :: r => uptoBulkEntry x + uptoBulkEntries r
def uptoBulkEntry {H : Type} : Lit × DataW H → Nat
  | (.string bytes, d) => bytes.length + uptoBulk d + 1
  | (_, d) => uptoBulk d + 1
 end
def uptoSmall : (H : Type) → List (DataW H) → Bool := fun _ ds => decide (uptoBulkAll ds ≤ 1048576)
def OpenSpec.upto (s : _root_.Go.ChangeSpec) : _root_.Go.OpenSpec := { _root_.Go.OpenSpec.ofChange s with cond := some uptoSmall }

/-- 'withylaw17.LineHears', WHERE WHAT IT READS IS OF BULK AT MOST 1048576: true; the input reads as it did. -/
def lineHearsUptoRow : OpenClaim := { program := "ytinjeffkhjcbnaa", sum := "1512eb433c826081fba8a0945b869ee8b8a31b670d0396084632e1cb6da37666", func := "withy/withylaw17.LineHears", spec := "lineHears", unfollowed := true, recurses := true, apart := false, narrowed := true }
def LineHearsUptoSaid : Prop := lineHearsUptoRow.holds Try.pinned (OpenSpec.upto lineHearsSpec)

/-- 'withylaw17.LineTicks', WHERE WHAT IT READS IS OF BULK AT MOST 1048576: true; the input reads as it did. -/
def lineTicksUptoRow : OpenClaim := { program := "ytinjeffkhjcbnaa", sum := "1512eb433c826081fba8a0945b869ee8b8a31b670d0396084632e1cb6da37666", func := "withy/withylaw17.LineTicks", spec := "lineTicks", unfollowed := true, recurses := true, apart := false, narrowed := true }
def LineTicksUptoSaid : Prop := lineTicksUptoRow.holds Try.pinned (OpenSpec.upto lineTicksSpec)

/-- 'withylaw17.LineTurns', WHERE WHAT IT READS IS OF BULK AT MOST 1048576: true; the input reads as it did. -/
def lineTurnsUptoRow : OpenClaim := { program := "ytinjeffkhjcbnaa", sum := "1512eb433c826081fba8a0945b869ee8b8a31b670d0396084632e1cb6da37666", func := "withy/withylaw17.LineTurns", spec := "lineTurns", unfollowed := true, recurses := true, apart := false, narrowed := true }
def LineTurnsUptoSaid : Prop := lineTurnsUptoRow.holds Try.pinned (OpenSpec.upto lineTurnsSpec)

/-- 'withylaw17.LineStale', WHERE WHAT IT READS IS OF BULK AT MOST 1048576: true; the input reads as it did. -/
def lineStaleUptoRow : OpenClaim := { program := "ytinjeffkhjcbnaa", sum := "1512eb433c826081fba8a0945b869ee8b8a31b670d0396084632e1cb6da37666", func := "withy/withylaw17.LineStale", spec := "lineStale", unfollowed := true, recurses := true, apart := false, narrowed := true }
def LineStaleUptoSaid : Prop := lineStaleUptoRow.holds Try.pinned (OpenSpec.upto lineStaleSpec)

/-- 'withylaw16.HandMeets', WHERE WHAT IT READS IS OF BULK AT MOST 1048576: true; the input reads as it did. -/
def handMeetsUptoRow : OpenClaim := { program := "ytinjeffkhjcbnaa", sum := "1512eb433c826081fba8a0945b869ee8b8a31b670d0396084632e1cb6da37666", func := "withy/withylaw16.HandMeets", spec := "handMeets", apart := false, narrowed := true }
def HandMeetsUptoSaid : Prop := handMeetsUptoRow.holds Try.pinned (OpenSpec.upto handMeetsSpec)

/-- 'withylaw16.HandAgrees', WHERE WHAT IT READS IS OF BULK AT MOST 1048576: true; the input reads as it did. -/
def handAgreesUptoRow : OpenClaim := { program := "ytinjeffkhjcbnaa", sum := "1512eb433c826081fba8a0945b869ee8b8a31b670d0396084632e1cb6da37666", func := "withy/withylaw16.HandAgrees", spec := "handAgrees", apart := false, narrowed := true }
def HandAgreesUptoSaid : Prop := handAgreesUptoRow.holds Try.pinned (OpenSpec.upto handAgreesSpec)

/-- 'withylaw15.TakeCarries', WHERE WHAT IT READS IS OF BULK AT MOST 1048576: true; the input reads as it did. -/
def takeCarriesUptoRow : OpenClaim := { program := "ytinjeffkhjcbnaa", sum := "1512eb433c826081fba8a0945b869ee8b8a31b670d0396084632e1cb6da37666", func := "withy/withylaw15.TakeCarries", spec := "takeCarries", unfollowed := true, recurses := true, apart := false, narrowed := true }
def TakeCarriesUptoSaid : Prop := takeCarriesUptoRow.holds Try.pinned (OpenSpec.upto takeCarriesSpec)

/-- 'withylaw19.LinkTicks', WHERE WHAT IT READS IS OF BULK AT MOST 1048576: true; the input reads as it did. -/
def linkTicksUptoRow : OpenClaim := { program := "ytinjeffkhjcbnaa", sum := "1512eb433c826081fba8a0945b869ee8b8a31b670d0396084632e1cb6da37666", func := "withy/withylaw19.LinkTicks", spec := "linkTicks", unfollowed := true, recurses := true, apart := false, narrowed := true }
def LinkTicksUptoSaid : Prop := linkTicksUptoRow.holds Try.pinned (OpenSpec.upto linkTicksSpec)

/-- 'withylaw19.LinkTurns', WHERE WHAT IT READS IS OF BULK AT MOST 1048576: true; the input reads as it did. -/
def linkTurnsUptoRow : OpenClaim := { program := "ytinjeffkhjcbnaa", sum := "1512eb433c826081fba8a0945b869ee8b8a31b670d0396084632e1cb6da37666", func := "withy/withylaw19.LinkTurns", spec := "linkTurns", unfollowed := true, recurses := true, apart := false, narrowed := true }
def LinkTurnsUptoSaid : Prop := linkTurnsUptoRow.holds Try.pinned (OpenSpec.upto linkTurnsSpec)

/-- 'withylaw19.LinkHears', WHERE WHAT IT READS IS OF BULK AT MOST 1048576: true; the input reads as it did. -/
def linkHearsUptoRow : OpenClaim := { program := "ytinjeffkhjcbnaa", sum := "1512eb433c826081fba8a0945b869ee8b8a31b670d0396084632e1cb6da37666", func := "withy/withylaw19.LinkHears", spec := "linkHears", unfollowed := true, recurses := true, apart := false, narrowed := true }
def LinkHearsUptoSaid : Prop := linkHearsUptoRow.holds Try.pinned (OpenSpec.upto linkHearsSpec)

/-- 'withylaw19.LinkOpens', WHERE WHAT IT READS IS OF BULK AT MOST 1048576: true; the input reads as it did. -/
def linkOpensUptoRow : OpenClaim := { program := "ytinjeffkhjcbnaa", sum := "1512eb433c826081fba8a0945b869ee8b8a31b670d0396084632e1cb6da37666", func := "withy/withylaw19.LinkOpens", spec := "linkOpens", unfollowed := true, recurses := true, apart := false, narrowed := true }
def LinkOpensUptoSaid : Prop := linkOpensUptoRow.holds Try.pinned (OpenSpec.upto linkOpensSpec)

end Rows
end Go.Proofs.Ytinjeffkhjcbnaa
