/-
  No cell of these rows narrows 'for every input' (looked for: loops, veiled, ifaces, maps, wideKeys, modest, calm, conditions, laid).
  DERIVED. THE GIVEN ROWS OF THIS SEAT. 8 by the template 'for every input the law returns true; each argument reads behind the call as it read before'; 0 by the template 'total and deterministic' (their statements: YtfioaidmgcibaaaTotals.lean).
  GIVEN WITH THE SEED: the statements are not yours to turn. If you find one false, say at which input.
  Laid BY PROGRAM, IN A SANDBOX (cutbox-rows.mjs): the forced cells as the released guide's own fill.sh prints them over the translation 6d67b49e950e3193… (all of the seat's roots in one cut). By AI agents, Wed Nov 11 2026. No macro, syntax, notation, axiom, sorry.
-/
import Derived.Test.YtfioaidmgcibaaaChecked
import GoSem.Claim
import GoSem.ClaimJoined
import GoSem.ClaimMapViews
import Derived.JoinedTies
import Derived.KernelRfl
namespace Go.Proofs.Ytfioaidmgcibaaa
/- THE CELL 'sum', in the pinned program and in every row, IS THE sha256 OF THE DUMP (.gsa) THAT YtfioaidmgcibaaaProg.lean LOADS. Nothing in Lean hashes anything: it is a label: what it is worth is what the hold of that sum in a sandbox is worth. -/
noncomputable def Try.pinned : Pinned := { name := "ytfioaidmgcibaaa", sum := "6d67b49e950e31933a024e4b0c84ea8b5dddb7e870c503868ed8179750fdeece", checked := Try.checked }
namespace Rows
def none {H : Type} : Left H := { results := [], args := [] }

/-- 'withylaw09.ViewMerges': WHATEVER THE INPUT: true; the input reads as it did. -/
def viewMergesSpec : ChangeSpec := { name := "viewMerges", fn := fun _ => fun
  | [d1, d2] => { results := [.lit (.bool true)], args := [d1, d2] }
  | _ => none }
def viewMergesRow : OpenClaim := { program := "ytfioaidmgcibaaa", sum := "6d67b49e950e31933a024e4b0c84ea8b5dddb7e870c503868ed8179750fdeece", func := "withy/withylaw09.ViewMerges", spec := "viewMerges", unfollowed := true, recurses := true, apart := false }
def ViewMergesSaid : Prop := viewMergesRow.holds Try.pinned (OpenSpec.ofChange viewMergesSpec)

/-- ITS FALSE NEIGHBOUR: 'it returns false'. Refute it at one input. -/
def viewMergesWrong : ChangeSpec := { name := "viewMerges", fn := fun _ => fun
  | [d1, d2] => { results := [.lit (.bool false)], args := [d1, d2] }
  | _ => none }
def ViewMergesWrongFalsely : Prop := viewMergesRow.holds Try.pinned (OpenSpec.ofChange viewMergesWrong)

/-- 'withylaw09.ViewOrder': WHATEVER THE INPUT: true; the input reads as it did. -/
def viewOrderSpec : ChangeSpec := { name := "viewOrder", fn := fun _ => fun
  | [d1, d2, d3] => { results := [.lit (.bool true)], args := [d1, d2, d3] }
  | _ => none }
def viewOrderRow : OpenClaim := { program := "ytfioaidmgcibaaa", sum := "6d67b49e950e31933a024e4b0c84ea8b5dddb7e870c503868ed8179750fdeece", func := "withy/withylaw09.ViewOrder", spec := "viewOrder", unfollowed := true, recurses := true, apart := false }
def ViewOrderSaid : Prop := viewOrderRow.holds Try.pinned (OpenSpec.ofChange viewOrderSpec)

/-- ITS FALSE NEIGHBOUR: 'it returns false'. Refute it at one input. -/
def viewOrderWrong : ChangeSpec := { name := "viewOrder", fn := fun _ => fun
  | [d1, d2, d3] => { results := [.lit (.bool false)], args := [d1, d2, d3] }
  | _ => none }
def ViewOrderWrongFalsely : Prop := viewOrderRow.holds Try.pinned (OpenSpec.ofChange viewOrderWrong)

/-- 'withylaw10.ChooseChecks': WHATEVER THE INPUT: true; the input reads as it did. -/
def chooseChecksSpec : ChangeSpec := { name := "chooseChecks", fn := fun _ => fun
  | [d] => { results := [.lit (.bool true)], args := [d] }
  | _ => none }
def chooseChecksRow : OpenClaim := { program := "ytfioaidmgcibaaa", sum := "6d67b49e950e31933a024e4b0c84ea8b5dddb7e870c503868ed8179750fdeece", func := "withy/withylaw10.ChooseChecks", spec := "chooseChecks", unfollowed := true, recurses := true, apart := false }
def ChooseChecksSaid : Prop := chooseChecksRow.holds Try.pinned (OpenSpec.ofChange chooseChecksSpec)

/-- ITS FALSE NEIGHBOUR: 'it returns false'. Refute it at one input. -/
def chooseChecksWrong : ChangeSpec := { name := "chooseChecks", fn := fun _ => fun
  | [d] => { results := [.lit (.bool false)], args := [d] }
  | _ => none }
def ChooseChecksWrongFalsely : Prop := chooseChecksRow.holds Try.pinned (OpenSpec.ofChange chooseChecksWrong)

/-- 'withylaw10.ChooseChooses': WHATEVER THE INPUT: true; the input reads as it did. -/
def chooseChoosesSpec : ChangeSpec := { name := "chooseChooses", fn := fun _ => fun
  | [d] => { results := [.lit (.bool true)], args := [d] }
  | _ => none }
def chooseChoosesRow : OpenClaim := { program := "ytfioaidmgcibaaa", sum := "6d67b49e950e31933a024e4b0c84ea8b5dddb7e870c503868ed8179750fdeece", func := "withy/withylaw10.ChooseChooses", spec := "chooseChooses", unfollowed := true, recurses := true, apart := false }
def ChooseChoosesSaid : Prop := chooseChoosesRow.holds Try.pinned (OpenSpec.ofChange chooseChoosesSpec)

/-- ITS FALSE NEIGHBOUR: 'it returns false'. Refute it at one input. -/
def chooseChoosesWrong : ChangeSpec := { name := "chooseChooses", fn := fun _ => fun
  | [d] => { results := [.lit (.bool false)], args := [d] }
  | _ => none }
def ChooseChoosesWrongFalsely : Prop := chooseChoosesRow.holds Try.pinned (OpenSpec.ofChange chooseChoosesWrong)

/-- 'withylaw10.ChooseEnds': WHATEVER THE INPUT: true; the input reads as it did. -/
def chooseEndsSpec : ChangeSpec := { name := "chooseEnds", fn := fun _ => fun
  | [d1, d2] => { results := [.lit (.bool true)], args := [d1, d2] }
  | _ => none }
def chooseEndsRow : OpenClaim := { program := "ytfioaidmgcibaaa", sum := "6d67b49e950e31933a024e4b0c84ea8b5dddb7e870c503868ed8179750fdeece", func := "withy/withylaw10.ChooseEnds", spec := "chooseEnds", unfollowed := true, recurses := true, apart := false }
def ChooseEndsSaid : Prop := chooseEndsRow.holds Try.pinned (OpenSpec.ofChange chooseEndsSpec)

/-- ITS FALSE NEIGHBOUR: 'it returns false'. Refute it at one input. -/
def chooseEndsWrong : ChangeSpec := { name := "chooseEnds", fn := fun _ => fun
  | [d1, d2] => { results := [.lit (.bool false)], args := [d1, d2] }
  | _ => none }
def ChooseEndsWrongFalsely : Prop := chooseEndsRow.holds Try.pinned (OpenSpec.ofChange chooseEndsWrong)

/-- 'withylaw10.ChooseRight': WHATEVER THE INPUT: true; the input reads as it did. -/
def chooseRightSpec : ChangeSpec := { name := "chooseRight", fn := fun _ => fun
  | [d1, d2] => { results := [.lit (.bool true)], args := [d1, d2] }
  | _ => none }
def chooseRightRow : OpenClaim := { program := "ytfioaidmgcibaaa", sum := "6d67b49e950e31933a024e4b0c84ea8b5dddb7e870c503868ed8179750fdeece", func := "withy/withylaw10.ChooseRight", spec := "chooseRight", unfollowed := true, recurses := true, apart := false }
def ChooseRightSaid : Prop := chooseRightRow.holds Try.pinned (OpenSpec.ofChange chooseRightSpec)

/-- ITS FALSE NEIGHBOUR: 'it returns false'. Refute it at one input. -/
def chooseRightWrong : ChangeSpec := { name := "chooseRight", fn := fun _ => fun
  | [d1, d2] => { results := [.lit (.bool false)], args := [d1, d2] }
  | _ => none }
def ChooseRightWrongFalsely : Prop := chooseRightRow.holds Try.pinned (OpenSpec.ofChange chooseRightWrong)

/-- 'withylaw11.RouteTables': WHATEVER THE INPUT: true; the input reads as it did. -/
def routeTablesSpec : ChangeSpec := { name := "routeTables", fn := fun _ => fun
  | [d1, d2] => { results := [.lit (.bool true)], args := [d1, d2] }
  | _ => none }
def routeTablesRow : OpenClaim := { program := "ytfioaidmgcibaaa", sum := "6d67b49e950e31933a024e4b0c84ea8b5dddb7e870c503868ed8179750fdeece", func := "withy/withylaw11.RouteTables", spec := "routeTables", unfollowed := true, recurses := true, apart := false }
def RouteTablesSaid : Prop := routeTablesRow.holds Try.pinned (OpenSpec.ofChange routeTablesSpec)

/-- ITS FALSE NEIGHBOUR: 'it returns false'. Refute it at one input. -/
def routeTablesWrong : ChangeSpec := { name := "routeTables", fn := fun _ => fun
  | [d1, d2] => { results := [.lit (.bool false)], args := [d1, d2] }
  | _ => none }
def RouteTablesWrongFalsely : Prop := routeTablesRow.holds Try.pinned (OpenSpec.ofChange routeTablesWrong)

/-- 'withylaw07.SpanParts': WHATEVER THE INPUT: true; the input reads as it did. -/
def spanPartsSpec : ChangeSpec := { name := "spanParts", fn := fun _ => fun
  | [d1, d2, d3] => { results := [.lit (.bool true)], args := [d1, d2, d3] }
  | _ => none }
def spanPartsRow : OpenClaim := { program := "ytfioaidmgcibaaa", sum := "6d67b49e950e31933a024e4b0c84ea8b5dddb7e870c503868ed8179750fdeece", func := "withy/withylaw07.SpanParts", spec := "spanParts", unfollowed := true, recurses := true, apart := false }
def SpanPartsSaid : Prop := spanPartsRow.holds Try.pinned (OpenSpec.ofChange spanPartsSpec)

/-- ITS FALSE NEIGHBOUR: 'it returns false'. Refute it at one input. -/
def spanPartsWrong : ChangeSpec := { name := "spanParts", fn := fun _ => fun
  | [d1, d2, d3] => { results := [.lit (.bool false)], args := [d1, d2, d3] }
  | _ => none }
def SpanPartsWrongFalsely : Prop := spanPartsRow.holds Try.pinned (OpenSpec.ofChange spanPartsWrong)

/- THE SECOND FORM. 'bulk': how many values and letters a reading holds, each counted each time it is reached (what is shared counts as often as it is met; a slice's spare places count too). A statement '..UptoSaid' is the law's where the arguments, and the package variables that the reading takes, are together of bulk at most 1048576: NARROWER than '..Said'. Prove '..Said' where nothing that the law and all that it calls make is longer than what came in: it says more and counts as full. Else prove '..UptoSaid'. A law counts once. -/
mutual
def uptoBulk {H : Type} : DataW H → Nat
  | .lit (.string bytes) => bytes.length + 1
  | .lit _ => 1
  | .nil => 1
  | .ptr d => uptoBulk d + 1
  | .slice elems spare => uptoBulkAll elems + uptoBulkAll spare + 1
  | .agg parts => uptoBulkAll parts + 1
  | .iface _ d => uptoBulk d + 1
  | .map entries => uptoBulkEntries entries + 1
  | .held _ => 1
def uptoBulkAll {H : Type} : List (DataW H) → Nat
  | [] => 0
  | d :: r => uptoBulk d + uptoBulkAll r
def uptoBulkEntries {H : Type} : List (Lit × DataW H) → Nat
  | [] => 0
  | x :: r => uptoBulkEntry x + uptoBulkEntries r
def uptoBulkEntry {H : Type} : Lit × DataW H → Nat
  | (.string bytes, d) => bytes.length + uptoBulk d + 1
  | (_, d) => uptoBulk d + 1
 end
def uptoSmall : (H : Type) → List (DataW H) → Bool := fun _ ds => decide (uptoBulkAll ds ≤ 1048576)
def OpenSpec.upto (s : _root_.Go.ChangeSpec) : _root_.Go.OpenSpec := { _root_.Go.OpenSpec.ofChange s with cond := some uptoSmall }

/-- 'withylaw09.ViewMerges', WHERE WHAT IT READS IS OF BULK AT MOST 1048576: true; the input reads as it did. -/
def viewMergesUptoRow : OpenClaim := { program := "ytfioaidmgcibaaa", sum := "6d67b49e950e31933a024e4b0c84ea8b5dddb7e870c503868ed8179750fdeece", func := "withy/withylaw09.ViewMerges", spec := "viewMerges", unfollowed := true, recurses := true, apart := false, narrowed := true }
def ViewMergesUptoSaid : Prop := viewMergesUptoRow.holds Try.pinned (OpenSpec.upto viewMergesSpec)

/-- 'withylaw09.ViewOrder', WHERE WHAT IT READS IS OF BULK AT MOST 1048576: true; the input reads as it did. -/
def viewOrderUptoRow : OpenClaim := { program := "ytfioaidmgcibaaa", sum := "6d67b49e950e31933a024e4b0c84ea8b5dddb7e870c503868ed8179750fdeece", func := "withy/withylaw09.ViewOrder", spec := "viewOrder", unfollowed := true, recurses := true, apart := false, narrowed := true }
def ViewOrderUptoSaid : Prop := viewOrderUptoRow.holds Try.pinned (OpenSpec.upto viewOrderSpec)

/-- 'withylaw10.ChooseChecks', WHERE WHAT IT READS IS OF BULK AT MOST 1048576: true; the input reads as it did. -/
def chooseChecksUptoRow : OpenClaim := { program := "ytfioaidmgcibaaa", sum := "6d67b49e950e31933a024e4b0c84ea8b5dddb7e870c503868ed8179750fdeece", func := "withy/withylaw10.ChooseChecks", spec := "chooseChecks", unfollowed := true, recurses := true, apart := false, narrowed := true }
def ChooseChecksUptoSaid : Prop := chooseChecksUptoRow.holds Try.pinned (OpenSpec.upto chooseChecksSpec)

/-- 'withylaw10.ChooseChooses', WHERE WHAT IT READS IS OF BULK AT MOST 1048576: true; the input reads as it did. -/
def chooseChoosesUptoRow : OpenClaim := { program := "ytfioaidmgcibaaa", sum := "6d67b49e950e31933a024e4b0c84ea8b5dddb7e870c503868ed8179750fdeece", func := "withy/withylaw10.ChooseChooses", spec := "chooseChooses", unfollowed := true, recurses := true, apart := false, narrowed := true }
def ChooseChoosesUptoSaid : Prop := chooseChoosesUptoRow.holds Try.pinned (OpenSpec.upto chooseChoosesSpec)

/-- 'withylaw10.ChooseEnds', WHERE WHAT IT READS IS OF BULK AT MOST 1048576: true; the input reads as it did. -/
def chooseEndsUptoRow : OpenClaim := { program := "ytfioaidmgcibaaa", sum := "6d67b49e950e31933a024e4b0c84ea8b5dddb7e870c503868ed8179750fdeece", func := "withy/withylaw10.ChooseEnds", spec := "chooseEnds", unfollowed := true, recurses := true, apart := false, narrowed := true }
def ChooseEndsUptoSaid : Prop := chooseEndsUptoRow.holds Try.pinned (OpenSpec.upto chooseEndsSpec)

/-- 'withylaw10.ChooseRight', WHERE WHAT IT READS IS OF BULK AT MOST 1048576: true; the input reads as it did. -/
def chooseRightUptoRow : OpenClaim := { program := "ytfioaidmgcibaaa", sum := "6d67b49e950e31933a024e4b0c84ea8b5dddb7e870c503868ed8179750fdeece", func := "withy/withylaw10.ChooseRight", spec := "chooseRight", unfollowed := true, recurses := true, apart := false, narrowed := true }
def ChooseRightUptoSaid : Prop := chooseRightUptoRow.holds Try.pinned (OpenSpec.upto chooseRightSpec)

/-- 'withylaw11.RouteTables', WHERE WHAT IT READS IS OF BULK AT MOST 1048576: true; the input reads as it did. -/
def routeTablesUptoRow : OpenClaim := { program := "ytfioaidmgcibaaa", sum := "6d67b49e950e31933a024e4b0c84ea8b5dddb7e870c503868ed8179750fdeece", func := "withy/withylaw11.RouteTables", spec := "routeTables", unfollowed := true, recurses := true, apart := false, narrowed := true }
def RouteTablesUptoSaid : Prop := routeTablesUptoRow.holds Try.pinned (OpenSpec.upto routeTablesSpec)

/-- 'withylaw07.SpanParts', WHERE WHAT IT READS IS OF BULK AT MOST 1048576: true; the input reads as it did. -/
def spanPartsUptoRow : OpenClaim := { program := "ytfioaidmgcibaaa", sum := "6d67b49e950e31933a024e4b0c84ea8b5dddb7e870c503868ed8179750fdeece", func := "withy/withylaw07.SpanParts", spec := "spanParts", unfollowed := true, recurses := true, apart := false, narrowed := true }
def SpanPartsUptoSaid : Prop := spanPartsUptoRow.holds Try.pinned (OpenSpec.upto spanPartsSpec)

end Rows
end Go.Proofs.Ytfioaidmgcibaaa
