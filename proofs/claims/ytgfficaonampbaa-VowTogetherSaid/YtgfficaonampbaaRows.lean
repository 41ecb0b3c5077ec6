/-
  No cell of these rows narrows 'for every input' (looked for: loops, veiled, ifaces, maps, wideKeys, modest, calm, conditions, laid).
  DERIVED. THE GIVEN ROWS OF THIS SEAT. 12 by the template 'for every input the law returns true; each argument reads behind the call as it read before'; 0 by the template 'total and deterministic' (their statements: YtgfficaonampbaaTotals.lean).
  GIVEN WITH THE SEED: the statements are not yours to turn. If you find one false, say at which input.
  Laid BY PROGRAM, IN A SANDBOX (cutbox-rows.mjs): the forced cells as the released guide's own fill.sh prints them over the translation 155a4d0d53db21eb… (all of the seat's roots in one cut). By AI agents, Wed Nov 11 2026. No macro, syntax, notation, axiom, sorry.
-/
import Derived.Test.YtgfficaonampbaaChecked
import GoSem.Claim
import GoSem.ClaimJoined
import GoSem.ClaimMapViews
import Derived.JoinedTies
import Derived.KernelRfl
namespace Go.Proofs.Ytgfficaonampbaa
/- THE CELL 'sum', in the pinned program and in every row, IS THE sha256 OF THE DUMP (.gsa) THAT YtgfficaonampbaaProg.lean LOADS. Nothing in Lean hashes anything: it is a label: what it is worth is what the hold of that sum in a sandbox is worth. -/
noncomputable def Try.pinned : Pinned := { name := "ytgfficaonampbaa", sum := "155a4d0d53db21eba940b7c4116a32c337a08756ee1351ed382b1404d088d683", checked := Try.checked }
namespace Rows
def none {H : Type} : Left H := { results := [], args := [] }

/-- 'withylaw06.JoinUnites': WHATEVER THE INPUT: true; the input reads as it did. -/
def joinUnitesSpec : ChangeSpec := { name := "joinUnites", fn := fun _ => fun
  | [d1, d2, d3] => { results := [.lit (.bool true)], args := [d1, d2, d3] }
  | _ => none }
def joinUnitesRow : OpenClaim := { program := "ytgfficaonampbaa", sum := "155a4d0d53db21eba940b7c4116a32c337a08756ee1351ed382b1404d088d683", func := "withy/withylaw06.JoinUnites", spec := "joinUnites", apart := false }
def JoinUnitesSaid : Prop := joinUnitesRow.holds Try.pinned (OpenSpec.ofChange joinUnitesSpec)

/-- ITS FALSE NEIGHBOUR: 'it returns false'. Refute it at one input. -/
def joinUnitesWrong : ChangeSpec := { name := "joinUnites", fn := fun _ => fun
  | [d1, d2, d3] => { results := [.lit (.bool false)], args := [d1, d2, d3] }
  | _ => none }
def JoinUnitesWrongFalsely : Prop := joinUnitesRow.holds Try.pinned (OpenSpec.ofChange joinUnitesWrong)

/-- 'withylaw06.JoinOrder': WHATEVER THE INPUT: true; the input reads as it did. -/
def joinOrderSpec : ChangeSpec := { name := "joinOrder", fn := fun _ => fun
  | [d1, d2] => { results := [.lit (.bool true)], args := [d1, d2] }
  | _ => none }
def joinOrderRow : OpenClaim := { program := "ytgfficaonampbaa", sum := "155a4d0d53db21eba940b7c4116a32c337a08756ee1351ed382b1404d088d683", func := "withy/withylaw06.JoinOrder", spec := "joinOrder", apart := false }
def JoinOrderSaid : Prop := joinOrderRow.holds Try.pinned (OpenSpec.ofChange joinOrderSpec)

/-- ITS FALSE NEIGHBOUR: 'it returns false'. Refute it at one input. -/
def joinOrderWrong : ChangeSpec := { name := "joinOrder", fn := fun _ => fun
  | [d1, d2] => { results := [.lit (.bool false)], args := [d1, d2] }
  | _ => none }
def JoinOrderWrongFalsely : Prop := joinOrderRow.holds Try.pinned (OpenSpec.ofChange joinOrderWrong)

/-- 'withylaw06.JoinNobody': WHATEVER THE INPUT: true; the input reads as it did. -/
def joinNobodySpec : ChangeSpec := { name := "joinNobody", fn := fun _ => fun
  | [d1, d2] => { results := [.lit (.bool true)], args := [d1, d2] }
  | _ => none }
def joinNobodyRow : OpenClaim := { program := "ytgfficaonampbaa", sum := "155a4d0d53db21eba940b7c4116a32c337a08756ee1351ed382b1404d088d683", func := "withy/withylaw06.JoinNobody", spec := "joinNobody", apart := false }
def JoinNobodySaid : Prop := joinNobodyRow.holds Try.pinned (OpenSpec.ofChange joinNobodySpec)

/-- ITS FALSE NEIGHBOUR: 'it returns false'. Refute it at one input. -/
def joinNobodyWrong : ChangeSpec := { name := "joinNobody", fn := fun _ => fun
  | [d1, d2] => { results := [.lit (.bool false)], args := [d1, d2] }
  | _ => none }
def JoinNobodyWrongFalsely : Prop := joinNobodyRow.holds Try.pinned (OpenSpec.ofChange joinNobodyWrong)

/-- 'withylaw06.JoinCounts': WHATEVER THE INPUT: true; the input reads as it did. -/
def joinCountsSpec : ChangeSpec := { name := "joinCounts", fn := fun _ => fun
  | [d1, d2] => { results := [.lit (.bool true)], args := [d1, d2] }
  | _ => none }
def joinCountsRow : OpenClaim := { program := "ytgfficaonampbaa", sum := "155a4d0d53db21eba940b7c4116a32c337a08756ee1351ed382b1404d088d683", func := "withy/withylaw06.JoinCounts", spec := "joinCounts", apart := false }
def JoinCountsSaid : Prop := joinCountsRow.holds Try.pinned (OpenSpec.ofChange joinCountsSpec)

/-- ITS FALSE NEIGHBOUR: 'it returns false'. Refute it at one input. -/
def joinCountsWrong : ChangeSpec := { name := "joinCounts", fn := fun _ => fun
  | [d1, d2] => { results := [.lit (.bool false)], args := [d1, d2] }
  | _ => none }
def JoinCountsWrongFalsely : Prop := joinCountsRow.holds Try.pinned (OpenSpec.ofChange joinCountsWrong)

/-- 'withylaw21.VowSteps': WHATEVER THE INPUT: true; the input reads as it did. -/
def vowStepsSpec : ChangeSpec := { name := "vowSteps", fn := fun _ => fun
  | [d1, d2] => { results := [.lit (.bool true)], args := [d1, d2] }
  | _ => none }
def vowStepsRow : OpenClaim := { program := "ytgfficaonampbaa", sum := "155a4d0d53db21eba940b7c4116a32c337a08756ee1351ed382b1404d088d683", func := "withy/withylaw21.VowSteps", spec := "vowSteps", apart := false }
def VowStepsSaid : Prop := vowStepsRow.holds Try.pinned (OpenSpec.ofChange vowStepsSpec)

/-- ITS FALSE NEIGHBOUR: 'it returns false'. Refute it at one input. -/
def vowStepsWrong : ChangeSpec := { name := "vowSteps", fn := fun _ => fun
  | [d1, d2] => { results := [.lit (.bool false)], args := [d1, d2] }
  | _ => none }
def VowStepsWrongFalsely : Prop := vowStepsRow.holds Try.pinned (OpenSpec.ofChange vowStepsWrong)

/-- 'withylaw21.VowDances': WHATEVER THE INPUT: true; the input reads as it did. -/
def vowDancesSpec : ChangeSpec := { name := "vowDances", fn := fun _ => fun
  | [d] => { results := [.lit (.bool true)], args := [d] }
  | _ => none }
def vowDancesRow : OpenClaim := { program := "ytgfficaonampbaa", sum := "155a4d0d53db21eba940b7c4116a32c337a08756ee1351ed382b1404d088d683", func := "withy/withylaw21.VowDances", spec := "vowDances", apart := false }
def VowDancesSaid : Prop := vowDancesRow.holds Try.pinned (OpenSpec.ofChange vowDancesSpec)

/-- ITS FALSE NEIGHBOUR: 'it returns false'. Refute it at one input. -/
def vowDancesWrong : ChangeSpec := { name := "vowDances", fn := fun _ => fun
  | [d] => { results := [.lit (.bool false)], args := [d] }
  | _ => none }
def VowDancesWrongFalsely : Prop := vowDancesRow.holds Try.pinned (OpenSpec.ofChange vowDancesWrong)

/-- 'withylaw21.VowTogether': WHATEVER THE INPUT: true; the input reads as it did. -/
def vowTogetherSpec : ChangeSpec := { name := "vowTogether", fn := fun _ => fun
  | [d1, d2] => { results := [.lit (.bool true)], args := [d1, d2] }
  | _ => none }
def vowTogetherRow : OpenClaim := { program := "ytgfficaonampbaa", sum := "155a4d0d53db21eba940b7c4116a32c337a08756ee1351ed382b1404d088d683", func := "withy/withylaw21.VowTogether", spec := "vowTogether", apart := false }
def VowTogetherSaid : Prop := vowTogetherRow.holds Try.pinned (OpenSpec.ofChange vowTogetherSpec)

/-- ITS FALSE NEIGHBOUR: 'it returns false'. Refute it at one input. -/
def vowTogetherWrong : ChangeSpec := { name := "vowTogether", fn := fun _ => fun
  | [d1, d2] => { results := [.lit (.bool false)], args := [d1, d2] }
  | _ => none }
def VowTogetherWrongFalsely : Prop := vowTogetherRow.holds Try.pinned (OpenSpec.ofChange vowTogetherWrong)

/-- 'withylaw21.VowAlone': WHATEVER THE INPUT: true; the input reads as it did. -/
def vowAloneSpec : ChangeSpec := { name := "vowAlone", fn := fun _ => fun
  | [d] => { results := [.lit (.bool true)], args := [d] }
  | _ => none }
def vowAloneRow : OpenClaim := { program := "ytgfficaonampbaa", sum := "155a4d0d53db21eba940b7c4116a32c337a08756ee1351ed382b1404d088d683", func := "withy/withylaw21.VowAlone", spec := "vowAlone", apart := false }
def VowAloneSaid : Prop := vowAloneRow.holds Try.pinned (OpenSpec.ofChange vowAloneSpec)

/-- ITS FALSE NEIGHBOUR: 'it returns false'. Refute it at one input. -/
def vowAloneWrong : ChangeSpec := { name := "vowAlone", fn := fun _ => fun
  | [d] => { results := [.lit (.bool false)], args := [d] }
  | _ => none }
def VowAloneWrongFalsely : Prop := vowAloneRow.holds Try.pinned (OpenSpec.ofChange vowAloneWrong)

/-- 'withylaw14.SendPushes': WHATEVER THE INPUT: true; the input reads as it did. -/
def sendPushesSpec : ChangeSpec := { name := "sendPushes", fn := fun _ => fun
  | [d1, d2, d3] => { results := [.lit (.bool true)], args := [d1, d2, d3] }
  | _ => none }
def sendPushesRow : OpenClaim := { program := "ytgfficaonampbaa", sum := "155a4d0d53db21eba940b7c4116a32c337a08756ee1351ed382b1404d088d683", func := "withy/withylaw14.SendPushes", spec := "sendPushes", unfollowed := true, recurses := true, apart := false }
def SendPushesSaid : Prop := sendPushesRow.holds Try.pinned (OpenSpec.ofChange sendPushesSpec)

/-- ITS FALSE NEIGHBOUR: 'it returns false'. Refute it at one input. -/
def sendPushesWrong : ChangeSpec := { name := "sendPushes", fn := fun _ => fun
  | [d1, d2, d3] => { results := [.lit (.bool false)], args := [d1, d2, d3] }
  | _ => none }
def SendPushesWrongFalsely : Prop := sendPushesRow.holds Try.pinned (OpenSpec.ofChange sendPushesWrong)

/-- 'withylaw14.SendReady': WHATEVER THE INPUT: true; the input reads as it did. -/
def sendReadySpec : ChangeSpec := { name := "sendReady", fn := fun _ => fun
  | [d1, d2] => { results := [.lit (.bool true)], args := [d1, d2] }
  | _ => none }
def sendReadyRow : OpenClaim := { program := "ytgfficaonampbaa", sum := "155a4d0d53db21eba940b7c4116a32c337a08756ee1351ed382b1404d088d683", func := "withy/withylaw14.SendReady", spec := "sendReady", unfollowed := true, recurses := true, apart := false }
def SendReadySaid : Prop := sendReadyRow.holds Try.pinned (OpenSpec.ofChange sendReadySpec)

/-- ITS FALSE NEIGHBOUR: 'it returns false'. Refute it at one input. -/
def sendReadyWrong : ChangeSpec := { name := "sendReady", fn := fun _ => fun
  | [d1, d2] => { results := [.lit (.bool false)], args := [d1, d2] }
  | _ => none }
def SendReadyWrongFalsely : Prop := sendReadyRow.holds Try.pinned (OpenSpec.ofChange sendReadyWrong)

/-- 'withylaw14.SendAcks': WHATEVER THE INPUT: true; the input reads as it did. -/
def sendAcksSpec : ChangeSpec := { name := "sendAcks", fn := fun _ => fun
  | [d1, d2] => { results := [.lit (.bool true)], args := [d1, d2] }
  | _ => none }
def sendAcksRow : OpenClaim := { program := "ytgfficaonampbaa", sum := "155a4d0d53db21eba940b7c4116a32c337a08756ee1351ed382b1404d088d683", func := "withy/withylaw14.SendAcks", spec := "sendAcks", unfollowed := true, recurses := true, apart := false }
def SendAcksSaid : Prop := sendAcksRow.holds Try.pinned (OpenSpec.ofChange sendAcksSpec)

/-- ITS FALSE NEIGHBOUR: 'it returns false'. Refute it at one input. -/
def sendAcksWrong : ChangeSpec := { name := "sendAcks", fn := fun _ => fun
  | [d1, d2] => { results := [.lit (.bool false)], args := [d1, d2] }
  | _ => none }
def SendAcksWrongFalsely : Prop := sendAcksRow.holds Try.pinned (OpenSpec.ofChange sendAcksWrong)

/-- 'withylaw14.SendNumbers': WHATEVER THE INPUT: true; the input reads as it did. -/
def sendNumbersSpec : ChangeSpec := { name := "sendNumbers", fn := fun _ => fun
  | [d1, d2] => { results := [.lit (.bool true)], args := [d1, d2] }
  | _ => none }
def sendNumbersRow : OpenClaim := { program := "ytgfficaonampbaa", sum := "155a4d0d53db21eba940b7c4116a32c337a08756ee1351ed382b1404d088d683", func := "withy/withylaw14.SendNumbers", spec := "sendNumbers", unfollowed := true, recurses := true, apart := false }
def SendNumbersSaid : Prop := sendNumbersRow.holds Try.pinned (OpenSpec.ofChange sendNumbersSpec)

/-- ITS FALSE NEIGHBOUR: 'it returns false'. Refute it at one input. -/
def sendNumbersWrong : ChangeSpec := { name := "sendNumbers", fn := fun _ => fun
  | [d1, d2] => { results := [.lit (.bool false)], args := [d1, d2] }
  | _ => none }
def SendNumbersWrongFalsely : Prop := sendNumbersRow.holds Try.pinned (OpenSpec.ofChange sendNumbersWrong)

/- THE SECOND FORM. 'bulk': how many values and letters a reading holds, each counted each time it is reached (what is shared counts as often as it is met; a slice's spare places count too). A statement '..UptoSaid' is the law's where the arguments, and the package variables that the reading takes, are together of bulk at most 1048576: NARROWER than '..Said'. Prove '..Said' where nothing that the law and all that it calls make is longer than what came in: it says more and counts as full. Else prove '..UptoSaid'. A law counts once. -/
mutual
def uptoBulk {H : Type} : DataW H → Nat
  | .lit (.string bytes) => bytes.length + 1
  | .lit _ => 1
  | .nil => 1
  | .ptr d => uptoBulk d + 1
  | .slice elems spare => uptoBulkAll elems + uptoBulkAll spare + 1
  | .agg parts => uptoBulkAll parts + 1
  | .iface _ d => uptoBulk d + 1
  | .map entries => uptoBulkEntries entries + 1
  | .held _ => 1
def uptoBulkAll {H : Type} : List (DataW H) → Nat
  | [] => 0
  | d :: r => uptoBulk d + uptoBulkAll r
def uptoBulkEntries {H : Type} : List (Lit × DataW H) → Nat
  | [] => 0
  | x :: r => uptoBulkEntry x + uptoBulkEntries r
def uptoBulkEntry {H : Type} : Lit × DataW H → Nat
  | (.string bytes, d) => bytes.length + uptoBulk d + 1
  | (_, d) => uptoBulk d + 1
 end
def uptoSmall : (H : Type) → List (DataW H) → Bool := fun _ ds => decide (uptoBulkAll ds ≤ 1048576)
def OpenSpec.upto (s : _root_.Go.ChangeSpec) : _root_.Go.OpenSpec := { _root_.Go.OpenSpec.ofChange s with cond := some uptoSmall }

/-- 'withylaw06.JoinUnites', WHERE WHAT IT READS IS OF BULK AT MOST 1048576: true; the input reads as it did. -/
def joinUnitesUptoRow : OpenClaim := { program := "ytgfficaonampbaa", sum := "155a4d0d53db21eba940b7c4116a32c337a08756ee1351ed382b1404d088d683", func := "withy/withylaw06.JoinUnites", spec := "joinUnites", apart := false, narrowed := true }
def JoinUnitesUptoSaid : Prop := joinUnitesUptoRow.holds Try.pinned (OpenSpec.upto joinUnitesSpec)

/-- 'withylaw06.JoinOrder', WHERE WHAT IT READS IS OF BULK AT MOST 1048576: true; the input reads as it did. -/
def joinOrderUptoRow : OpenClaim := { program := "ytgfficaonampbaa", sum := "155a4d0d53db21eba940b7c4116a32c337a08756ee1351ed382b1404d088d683", func := "withy/withylaw06.JoinOrder", spec := "joinOrder", apart := false, narrowed := true }
def JoinOrderUptoSaid : Prop := joinOrderUptoRow.holds Try.pinned (OpenSpec.upto joinOrderSpec)

/-- 'withylaw06.JoinNobody', WHERE WHAT IT READS IS OF BULK AT MOST 1048576: true; the input reads as it did. -/
def joinNobodyUptoRow : OpenClaim := { program := "ytgfficaonampbaa", sum := "155a4d0d53db21eba940b7c4116a32c337a08756ee1351ed382b1404d088d683", func := "withy/withylaw06.JoinNobody", spec := "joinNobody", apart := false, narrowed := true }
def JoinNobodyUptoSaid : Prop := joinNobodyUptoRow.holds Try.pinned (OpenSpec.upto joinNobodySpec)

/-- 'withylaw06.JoinCounts', WHERE WHAT IT READS IS OF BULK AT MOST 1048576: true; the input reads as it did. -/
def joinCountsUptoRow : OpenClaim := { program := "ytgfficaonampbaa", sum := "155a4d0d53db21eba940b7c4116a32c337a08756ee1351ed382b1404d088d683", func := "withy/withylaw06.JoinCounts", spec := "joinCounts", apart := false, narrowed := true }
def JoinCountsUptoSaid : Prop := joinCountsUptoRow.holds Try.pinned (OpenSpec.upto joinCountsSpec)

/-- 'withylaw21.VowSteps', WHERE WHAT IT READS IS OF BULK AT MOST 1048576: true; the input reads as it did. -/
def vowStepsUptoRow : OpenClaim := { program := "ytgfficaonampbaa", sum := "155a4d0d53db21eba940b7c4116a32c337a08756ee1351ed382b1404d088d683", func := "withy/withylaw21.VowSteps", spec := "vowSteps", apart := false, narrowed := true }
def VowStepsUptoSaid : Prop := vowStepsUptoRow.holds Try.pinned (OpenSpec.upto vowStepsSpec)

/-- 'withylaw21.VowDances', WHERE WHAT IT READS IS OF BULK AT MOST 1048576: true; the input reads as it did. -/
def vowDancesUptoRow : OpenClaim := { program := "ytgfficaonampbaa", sum := "155a4d0d53db21eba940b7c4116a32c337a08756ee1351ed382b1404d088d683", func := "withy/withylaw21.VowDances", spec := "vowDances", apart := false, narrowed := true }
def VowDancesUptoSaid : Prop := vowDancesUptoRow.holds Try.pinned (OpenSpec.upto vowDancesSpec)

/-- 'withylaw21.VowTogether', WHERE WHAT IT READS IS OF BULK AT MOST 1048576: true; the input reads as it did. -/
def vowTogetherUptoRow : OpenClaim := { program := "ytgfficaonampbaa", sum := "155a4d0d53db21eba940b7c4116a32c337a08756ee1351ed382b1404d088d683", func := "withy/withylaw21.VowTogether", spec := "vowTogether", apart := false, narrowed := true }
def VowTogetherUptoSaid : Prop := vowTogetherUptoRow.holds Try.pinned (OpenSpec.upto vowTogetherSpec)

/-- 'withylaw21.VowAlone', WHERE WHAT IT READS IS OF BULK AT MOST 1048576: true; the input reads as it did. -/
def vowAloneUptoRow : OpenClaim := { program := "ytgfficaonampbaa", sum := "155a4d0d53db21eba940b7c4116a32c337a08756ee1351ed382b1404d088d683", func := "withy/withylaw21.VowAlone", spec := "vowAlone", apart := false, narrowed := true }
def VowAloneUptoSaid : Prop := vowAloneUptoRow.holds Try.pinned (OpenSpec.upto vowAloneSpec)

/-- 'withylaw14.SendPushes', WHERE WHAT IT READS IS OF BULK AT MOST 1048576: true; the input reads as it did. -/
def sendPushesUptoRow : OpenClaim := { program := "ytgfficaonampbaa", sum := "155a4d0d53db21eba940b7c4116a32c337a08756ee1351ed382b1404d088d683", func := "withy/withylaw14.SendPushes", spec := "sendPushes", unfollowed := true, recurses := true, apart := false, narrowed := true }
def SendPushesUptoSaid : Prop := sendPushesUptoRow.holds Try.pinned (OpenSpec.upto sendPushesSpec)

/-- 'withylaw14.SendReady', WHERE WHAT IT READS IS OF BULK AT MOST 1048576: true; the input reads as it did. -/
def sendReadyUptoRow : OpenClaim := { program := "ytgfficaonampbaa", sum := "155a4d0d53db21eba940b7c4116a32c337a08756ee1351ed382b1404d088d683", func := "withy/withylaw14.SendReady", spec := "sendReady", unfollowed := true, recurses := true, apart := false, narrowed := true }
def SendReadyUptoSaid : Prop := sendReadyUptoRow.holds Try.pinned (OpenSpec.upto sendReadySpec)

/-- 'withylaw14.SendAcks', WHERE WHAT IT READS IS OF BULK AT MOST 1048576: true; the input reads as it did. -/
def sendAcksUptoRow : OpenClaim := { program := "ytgfficaonampbaa", sum := "155a4d0d53db21eba940b7c4116a32c337a08756ee1351ed382b1404d088d683", func := "withy/withylaw14.SendAcks", spec := "sendAcks", unfollowed := true, recurses := true, apart := false, narrowed := true }
def SendAcksUptoSaid : Prop := sendAcksUptoRow.holds Try.pinned (OpenSpec.upto sendAcksSpec)

/-- 'withylaw14.SendNumbers', WHERE WHAT IT READS IS OF BULK AT MOST 1048576: true; the input reads as it did. -/
def sendNumbersUptoRow : OpenClaim := { program := "ytgfficaonampbaa", sum := "155a4d0d53db21eba940b7c4116a32c337a08756ee1351ed382b1404d088d683", func := "withy/withylaw14.SendNumbers", spec := "sendNumbers", unfollowed := true, recurses := true, apart := false, narrowed := true }
def SendNumbersUptoSaid : Prop := sendNumbersUptoRow.holds Try.pinned (OpenSpec.upto sendNumbersSpec)

end Rows
end Go.Proofs.Ytgfficaonampbaa
