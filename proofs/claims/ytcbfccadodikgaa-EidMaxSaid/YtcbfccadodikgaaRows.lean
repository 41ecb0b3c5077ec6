/-
  No cell of these rows narrows 'for every input' (looked for: loops, veiled, ifaces, maps, wideKeys, modest, calm, conditions, laid).
  DERIVED. THE GIVEN ROWS OF THIS SEAT. 12 by the template 'for every input the law returns true; each argument reads behind the call as it read before'; 0 by the template 'total and deterministic' (their statements: YtcbfccadodikgaaTotals.lean).
  GIVEN WITH THE SEED: the statements are not yours to turn. If you find one false, say at which input.
  Laid BY PROGRAM, IN A SANDBOX (cutbox-rows.mjs): the forced cells as the released guide's own fill.sh prints them over the translation 5d68f8dfa70a9365… (all of the seat's roots in one cut). By AI agents, Wed Nov 11 2026. No macro, syntax, notation, axiom, sorry.
-/
import Derived.Test.YtcbfccadodikgaaChecked
import GoSem.Claim
import GoSem.ClaimJoined
import GoSem.ClaimMapViews
import Derived.JoinedTies
import Derived.KernelRfl
namespace Go.Proofs.Ytcbfccadodikgaa
/- THE CELL 'sum', in the pinned program and in every row, IS THE sha256 OF THE DUMP (.gsa) THAT YtcbfccadodikgaaProg.lean LOADS. Nothing in Lean hashes anything: it is a label: what it is worth is what the hold of that sum in a sandbox is worth. -/
noncomputable def Try.pinned : Pinned := { name := "ytcbfccadodikgaa", sum := "5d68f8dfa70a9365e821ccc57a4a72b9b037fbed804d606f4587a2d7bbe221f7", checked := Try.checked }
namespace Rows
def none {H : Type} : Left H := { results := [], args := [] }

/-- 'withylaw05.EdgeOf': WHATEVER THE INPUT: true; the input reads as it did. -/
def edgeOfSpec : ChangeSpec := { name := "edgeOf", fn := fun _ => fun
  | [d1, d2, d3] => { results := [.lit (.bool true)], args := [d1, d2, d3] }
  | _ => none }
def edgeOfRow : OpenClaim := { program := "ytcbfccadodikgaa", sum := "5d68f8dfa70a9365e821ccc57a4a72b9b037fbed804d606f4587a2d7bbe221f7", func := "withy/withylaw05.EdgeOf", spec := "edgeOf", apart := false }
def EdgeOfSaid : Prop := edgeOfRow.holds Try.pinned (OpenSpec.ofChange edgeOfSpec)

/-- ITS FALSE NEIGHBOUR: 'it returns false'. Refute it at one input. -/
def edgeOfWrong : ChangeSpec := { name := "edgeOf", fn := fun _ => fun
  | [d1, d2, d3] => { results := [.lit (.bool false)], args := [d1, d2, d3] }
  | _ => none }
def EdgeOfWrongFalsely : Prop := edgeOfRow.holds Try.pinned (OpenSpec.ofChange edgeOfWrong)

/-- 'withylaw05.EdgeOrders': WHATEVER THE INPUT: true; the input reads as it did. -/
def edgeOrdersSpec : ChangeSpec := { name := "edgeOrders", fn := fun _ => fun
  | [d1, d2, d3] => { results := [.lit (.bool true)], args := [d1, d2, d3] }
  | _ => none }
def edgeOrdersRow : OpenClaim := { program := "ytcbfccadodikgaa", sum := "5d68f8dfa70a9365e821ccc57a4a72b9b037fbed804d606f4587a2d7bbe221f7", func := "withy/withylaw05.EdgeOrders", spec := "edgeOrders", apart := false }
def EdgeOrdersSaid : Prop := edgeOrdersRow.holds Try.pinned (OpenSpec.ofChange edgeOrdersSpec)

/-- ITS FALSE NEIGHBOUR: 'it returns false'. Refute it at one input. -/
def edgeOrdersWrong : ChangeSpec := { name := "edgeOrders", fn := fun _ => fun
  | [d1, d2, d3] => { results := [.lit (.bool false)], args := [d1, d2, d3] }
  | _ => none }
def EdgeOrdersWrongFalsely : Prop := edgeOrdersRow.holds Try.pinned (OpenSpec.ofChange edgeOrdersWrong)

/-- 'withylaw12.EidOrders': WHATEVER THE INPUT: true; the input reads as it did. -/
def eidOrdersSpec : ChangeSpec := { name := "eidOrders", fn := fun _ => fun
  | [d1, d2, d3] => { results := [.lit (.bool true)], args := [d1, d2, d3] }
  | _ => none }
def eidOrdersRow : OpenClaim := { program := "ytcbfccadodikgaa", sum := "5d68f8dfa70a9365e821ccc57a4a72b9b037fbed804d606f4587a2d7bbe221f7", func := "withy/withylaw12.EidOrders", spec := "eidOrders", apart := false }
def EidOrdersSaid : Prop := eidOrdersRow.holds Try.pinned (OpenSpec.ofChange eidOrdersSpec)

/-- ITS FALSE NEIGHBOUR: 'it returns false'. Refute it at one input. -/
def eidOrdersWrong : ChangeSpec := { name := "eidOrders", fn := fun _ => fun
  | [d1, d2, d3] => { results := [.lit (.bool false)], args := [d1, d2, d3] }
  | _ => none }
def EidOrdersWrongFalsely : Prop := eidOrdersRow.holds Try.pinned (OpenSpec.ofChange eidOrdersWrong)

/-- 'withylaw12.EidAfter': WHATEVER THE INPUT: true; the input reads as it did. -/
def eidAfterSpec : ChangeSpec := { name := "eidAfter", fn := fun _ => fun
  | [d1, d2, d3] => { results := [.lit (.bool true)], args := [d1, d2, d3] }
  | _ => none }
def eidAfterRow : OpenClaim := { program := "ytcbfccadodikgaa", sum := "5d68f8dfa70a9365e821ccc57a4a72b9b037fbed804d606f4587a2d7bbe221f7", func := "withy/withylaw12.EidAfter", spec := "eidAfter", apart := false }
def EidAfterSaid : Prop := eidAfterRow.holds Try.pinned (OpenSpec.ofChange eidAfterSpec)

/-- ITS FALSE NEIGHBOUR: 'it returns false'. Refute it at one input. -/
def eidAfterWrong : ChangeSpec := { name := "eidAfter", fn := fun _ => fun
  | [d1, d2, d3] => { results := [.lit (.bool false)], args := [d1, d2, d3] }
  | _ => none }
def EidAfterWrongFalsely : Prop := eidAfterRow.holds Try.pinned (OpenSpec.ofChange eidAfterWrong)

/-- 'withylaw12.EidMax': WHATEVER THE INPUT: true; the input reads as it did. -/
def eidMaxSpec : ChangeSpec := { name := "eidMax", fn := fun _ => fun
  | [d] => { results := [.lit (.bool true)], args := [d] }
  | _ => none }
def eidMaxRow : OpenClaim := { program := "ytcbfccadodikgaa", sum := "5d68f8dfa70a9365e821ccc57a4a72b9b037fbed804d606f4587a2d7bbe221f7", func := "withy/withylaw12.EidMax", spec := "eidMax", apart := false }
def EidMaxSaid : Prop := eidMaxRow.holds Try.pinned (OpenSpec.ofChange eidMaxSpec)

/-- ITS FALSE NEIGHBOUR: 'it returns false'. Refute it at one input. -/
def eidMaxWrong : ChangeSpec := { name := "eidMax", fn := fun _ => fun
  | [d] => { results := [.lit (.bool false)], args := [d] }
  | _ => none }
def EidMaxWrongFalsely : Prop := eidMaxRow.holds Try.pinned (OpenSpec.ofChange eidMaxWrong)

/-- 'withylaw18.BeatTicks': WHATEVER THE INPUT: true; the input reads as it did. -/
def beatTicksSpec : ChangeSpec := { name := "beatTicks", fn := fun _ => fun
  | [d] => { results := [.lit (.bool true)], args := [d] }
  | _ => none }
def beatTicksRow : OpenClaim := { program := "ytcbfccadodikgaa", sum := "5d68f8dfa70a9365e821ccc57a4a72b9b037fbed804d606f4587a2d7bbe221f7", func := "withy/withylaw18.BeatTicks", spec := "beatTicks", apart := false }
def BeatTicksSaid : Prop := beatTicksRow.holds Try.pinned (OpenSpec.ofChange beatTicksSpec)

/-- ITS FALSE NEIGHBOUR: 'it returns false'. Refute it at one input. -/
def beatTicksWrong : ChangeSpec := { name := "beatTicks", fn := fun _ => fun
  | [d] => { results := [.lit (.bool false)], args := [d] }
  | _ => none }
def BeatTicksWrongFalsely : Prop := beatTicksRow.holds Try.pinned (OpenSpec.ofChange beatTicksWrong)

/-- 'withylaw18.BeatCounts': WHATEVER THE INPUT: true; the input reads as it did. -/
def beatCountsSpec : ChangeSpec := { name := "beatCounts", fn := fun _ => fun
  | [d] => { results := [.lit (.bool true)], args := [d] }
  | _ => none }
def beatCountsRow : OpenClaim := { program := "ytcbfccadodikgaa", sum := "5d68f8dfa70a9365e821ccc57a4a72b9b037fbed804d606f4587a2d7bbe221f7", func := "withy/withylaw18.BeatCounts", spec := "beatCounts", apart := false }
def BeatCountsSaid : Prop := beatCountsRow.holds Try.pinned (OpenSpec.ofChange beatCountsSpec)

/-- ITS FALSE NEIGHBOUR: 'it returns false'. Refute it at one input. -/
def beatCountsWrong : ChangeSpec := { name := "beatCounts", fn := fun _ => fun
  | [d] => { results := [.lit (.bool false)], args := [d] }
  | _ => none }
def BeatCountsWrongFalsely : Prop := beatCountsRow.holds Try.pinned (OpenSpec.ofChange beatCountsWrong)

/-- 'withylaw18.BeatSilence': WHATEVER THE INPUT: true; the input reads as it did. -/
def beatSilenceSpec : ChangeSpec := { name := "beatSilence", fn := fun _ => fun
  | [d] => { results := [.lit (.bool true)], args := [d] }
  | _ => none }
def beatSilenceRow : OpenClaim := { program := "ytcbfccadodikgaa", sum := "5d68f8dfa70a9365e821ccc57a4a72b9b037fbed804d606f4587a2d7bbe221f7", func := "withy/withylaw18.BeatSilence", spec := "beatSilence", apart := false }
def BeatSilenceSaid : Prop := beatSilenceRow.holds Try.pinned (OpenSpec.ofChange beatSilenceSpec)

/-- ITS FALSE NEIGHBOUR: 'it returns false'. Refute it at one input. -/
def beatSilenceWrong : ChangeSpec := { name := "beatSilence", fn := fun _ => fun
  | [d] => { results := [.lit (.bool false)], args := [d] }
  | _ => none }
def BeatSilenceWrongFalsely : Prop := beatSilenceRow.holds Try.pinned (OpenSpec.ofChange beatSilenceWrong)

/-- 'withylaw18.BeatLate': WHATEVER THE INPUT: true; the input reads as it did. -/
def beatLateSpec : ChangeSpec := { name := "beatLate", fn := fun _ => fun
  | [d1, d2] => { results := [.lit (.bool true)], args := [d1, d2] }
  | _ => none }
def beatLateRow : OpenClaim := { program := "ytcbfccadodikgaa", sum := "5d68f8dfa70a9365e821ccc57a4a72b9b037fbed804d606f4587a2d7bbe221f7", func := "withy/withylaw18.BeatLate", spec := "beatLate", apart := false }
def BeatLateSaid : Prop := beatLateRow.holds Try.pinned (OpenSpec.ofChange beatLateSpec)

/-- ITS FALSE NEIGHBOUR: 'it returns false'. Refute it at one input. -/
def beatLateWrong : ChangeSpec := { name := "beatLate", fn := fun _ => fun
  | [d1, d2] => { results := [.lit (.bool false)], args := [d1, d2] }
  | _ => none }
def BeatLateWrongFalsely : Prop := beatLateRow.holds Try.pinned (OpenSpec.ofChange beatLateWrong)

/-- 'withylaw16.HandNew': WHATEVER THE INPUT: true; the input reads as it did. -/
def handNewSpec : ChangeSpec := { name := "handNew", fn := fun _ => fun
  | [d1, d2, d3] => { results := [.lit (.bool true)], args := [d1, d2, d3] }
  | _ => none }
def handNewRow : OpenClaim := { program := "ytcbfccadodikgaa", sum := "5d68f8dfa70a9365e821ccc57a4a72b9b037fbed804d606f4587a2d7bbe221f7", func := "withy/withylaw16.HandNew", spec := "handNew", apart := false }
def HandNewSaid : Prop := handNewRow.holds Try.pinned (OpenSpec.ofChange handNewSpec)

/-- ITS FALSE NEIGHBOUR: 'it returns false'. Refute it at one input. -/
def handNewWrong : ChangeSpec := { name := "handNew", fn := fun _ => fun
  | [d1, d2, d3] => { results := [.lit (.bool false)], args := [d1, d2, d3] }
  | _ => none }
def HandNewWrongFalsely : Prop := handNewRow.holds Try.pinned (OpenSpec.ofChange handNewWrong)

/-- 'withylaw16.HandHears': WHATEVER THE INPUT: true; the input reads as it did. -/
def handHearsSpec : ChangeSpec := { name := "handHears", fn := fun _ => fun
  | [d1, d2, d3] => { results := [.lit (.bool true)], args := [d1, d2, d3] }
  | _ => none }
def handHearsRow : OpenClaim := { program := "ytcbfccadodikgaa", sum := "5d68f8dfa70a9365e821ccc57a4a72b9b037fbed804d606f4587a2d7bbe221f7", func := "withy/withylaw16.HandHears", spec := "handHears", apart := false }
def HandHearsSaid : Prop := handHearsRow.holds Try.pinned (OpenSpec.ofChange handHearsSpec)

/-- ITS FALSE NEIGHBOUR: 'it returns false'. Refute it at one input. -/
def handHearsWrong : ChangeSpec := { name := "handHears", fn := fun _ => fun
  | [d1, d2, d3] => { results := [.lit (.bool false)], args := [d1, d2, d3] }
  | _ => none }
def HandHearsWrongFalsely : Prop := handHearsRow.holds Try.pinned (OpenSpec.ofChange handHearsWrong)

/-- 'withylaw16.HandOver': WHATEVER THE INPUT: true; the input reads as it did. -/
def handOverSpec : ChangeSpec := { name := "handOver", fn := fun _ => fun
  | [d1, d2] => { results := [.lit (.bool true)], args := [d1, d2] }
  | _ => none }
def handOverRow : OpenClaim := { program := "ytcbfccadodikgaa", sum := "5d68f8dfa70a9365e821ccc57a4a72b9b037fbed804d606f4587a2d7bbe221f7", func := "withy/withylaw16.HandOver", spec := "handOver", apart := false }
def HandOverSaid : Prop := handOverRow.holds Try.pinned (OpenSpec.ofChange handOverSpec)

/-- ITS FALSE NEIGHBOUR: 'it returns false'. Refute it at one input. -/
def handOverWrong : ChangeSpec := { name := "handOver", fn := fun _ => fun
  | [d1, d2] => { results := [.lit (.bool false)], args := [d1, d2] }
  | _ => none }
def HandOverWrongFalsely : Prop := handOverRow.holds Try.pinned (OpenSpec.ofChange handOverWrong)

/- THE SECOND FORM. 'bulk': how many values and letters a reading holds, each counted each time it is reached (what is shared counts as often as it is met; a slice's spare places count too). A statement '..UptoSaid' is the law's where the arguments, and the package variables that the reading takes, are together of bulk at most 1048576: NARROWER than '..Said'. Prove '..Said' where nothing that the law and all that it calls make is longer than what came in: it says more and counts as full. Else prove '..UptoSaid'. A law counts once. -/
mutual
def uptoBulk {H : Type} : DataW H → Nat
  | .lit (.string bytes) => bytes.length + 1
  | .lit _ => 1
  | .nil => 1
  | .ptr d => uptoBulk d + 1
  | .slice elems spare => uptoBulkAll elems + uptoBulkAll spare + 1
  | .agg parts => uptoBulkAll parts + 1
  | .iface _ d => uptoBulk d + 1
  | .map entries => uptoBulkEntries entries + 1
  | .held _ => 1
def uptoBulkAll {H : Type} : List (DataW H) → Nat
  | [] => 0
  | d :: r => uptoBulk d + uptoBulkAll r
def uptoBulkEntries {H : Type} : List (Lit × DataW H) → Nat
  | [] => 0
  | x :: r => uptoBulkEntry x + uptoBulkEntries r
def uptoBulkEntry {H : Type} : Lit × DataW H → Nat
  | (.string bytes, d) => bytes.length + uptoBulk d + 1
  | (_, d) => uptoBulk d + 1
 end
def uptoSmall : (H : Type) → List (DataW H) → Bool := fun _ ds => decide (uptoBulkAll ds ≤ 1048576)
def OpenSpec.upto (s : _root_.Go.ChangeSpec) : _root_.Go.OpenSpec := { _root_.Go.OpenSpec.ofChange s with cond := some uptoSmall }

/-- 'withylaw05.EdgeOf', WHERE WHAT IT READS IS OF BULK AT MOST 1048576: true; the input reads as it did. -/
def edgeOfUptoRow : OpenClaim := { program := "ytcbfccadodikgaa", sum := "5d68f8dfa70a9365e821ccc57a4a72b9b037fbed804d606f4587a2d7bbe221f7", func := "withy/withylaw05.EdgeOf", spec := "edgeOf", apart := false, narrowed := true }
def EdgeOfUptoSaid : Prop := edgeOfUptoRow.holds Try.pinned (OpenSpec.upto edgeOfSpec)

/-- 'withylaw05.EdgeOrders', WHERE WHAT IT READS IS OF BULK AT MOST 1048576: true; the input reads as it did. -/
def edgeOrdersUptoRow : OpenClaim := { program := "ytcbfccadodikgaa", sum := "5d68f8dfa70a9365e821ccc57a4a72b9b037fbed804d606f4587a2d7bbe221f7", func := "withy/withylaw05.EdgeOrders", spec := "edgeOrders", apart := false, narrowed := true }
def EdgeOrdersUptoSaid : Prop := edgeOrdersUptoRow.holds Try.pinned (OpenSpec.upto edgeOrdersSpec)

/-- 'withylaw12.EidOrders', WHERE WHAT IT READS IS OF BULK AT MOST 1048576: true; the input reads as it did. -/
def eidOrdersUptoRow : OpenClaim := { program := "ytcbfccadodikgaa", sum := "5d68f8dfa70a9365e821ccc57a4a72b9b037fbed804d606f4587a2d7bbe221f7", func := "withy/withylaw12.EidOrders", spec := "eidOrders", apart := false, narrowed := true }
def EidOrdersUptoSaid : Prop := eidOrdersUptoRow.holds Try.pinned (OpenSpec.upto eidOrdersSpec)

/-- 'withylaw12.EidAfter', WHERE WHAT IT READS IS OF BULK AT MOST 1048576: true; the input reads as it did. -/
def eidAfterUptoRow : OpenClaim := { program := "ytcbfccadodikgaa", sum := "5d68f8dfa70a9365e821ccc57a4a72b9b037fbed804d606f4587a2d7bbe221f7", func := "withy/withylaw12.EidAfter", spec := "eidAfter", apart := false, narrowed := true }
def EidAfterUptoSaid : Prop := eidAfterUptoRow.holds Try.pinned (OpenSpec.upto eidAfterSpec)

/-- 'withylaw12.EidMax', WHERE WHAT IT READS IS OF BULK AT MOST 1048576: true; the input reads as it did. -/
def eidMaxUptoRow : OpenClaim := { program := "ytcbfccadodikgaa", sum := "5d68f8dfa70a9365e821ccc57a4a72b9b037fbed804d606f4587a2d7bbe221f7", func := "withy/withylaw12.EidMax", spec := "eidMax", apart := false, narrowed := true }
def EidMaxUptoSaid : Prop := eidMaxUptoRow.holds Try.pinned (OpenSpec.upto eidMaxSpec)

/-- 'withylaw18.BeatTicks', WHERE WHAT IT READS IS OF BULK AT MOST 1048576: true; the input reads as it did. -/
def beatTicksUptoRow : OpenClaim := { program := "ytcbfccadodikgaa", sum := "5d68f8dfa70a9365e821ccc57a4a72b9b037fbed804d606f4587a2d7bbe221f7", func := "withy/withylaw18.BeatTicks", spec := "beatTicks", apart := false, narrowed := true }
def BeatTicksUptoSaid : Prop := beatTicksUptoRow.holds Try.pinned (OpenSpec.upto beatTicksSpec)

/-- 'withylaw18.BeatCounts', WHERE WHAT IT READS IS OF BULK AT MOST 1048576: true; the input reads as it did. -/
def beatCountsUptoRow : OpenClaim := { program := "ytcbfccadodikgaa", sum := "5d68f8dfa70a9365e821ccc57a4a72b9b037fbed804d606f4587a2d7bbe221f7", func := "withy/withylaw18.BeatCounts", spec := "beatCounts", apart := false, narrowed := true }
def BeatCountsUptoSaid : Prop := beatCountsUptoRow.holds Try.pinned (OpenSpec.upto beatCountsSpec)

/-- 'withylaw18.BeatSilence', WHERE WHAT IT READS IS OF BULK AT MOST 1048576: true; the input reads as it did. -/
def beatSilenceUptoRow : OpenClaim := { program := "ytcbfccadodikgaa", sum := "5d68f8dfa70a9365e821ccc57a4a72b9b037fbed804d606f4587a2d7bbe221f7", func := "withy/withylaw18.BeatSilence", spec := "beatSilence", apart := false, narrowed := true }
def BeatSilenceUptoSaid : Prop := beatSilenceUptoRow.holds Try.pinned (OpenSpec.upto beatSilenceSpec)

/-- 'withylaw18.BeatLate', WHERE WHAT IT READS IS OF BULK AT MOST 1048576: true; the input reads as it did. -/
def beatLateUptoRow : OpenClaim := { program := "ytcbfccadodikgaa", sum := "5d68f8dfa70a9365e821ccc57a4a72b9b037fbed804d606f4587a2d7bbe221f7", func := "withy/withylaw18.BeatLate", spec := "beatLate", apart := false, narrowed := true }
def BeatLateUptoSaid : Prop := beatLateUptoRow.holds Try.pinned (OpenSpec.upto beatLateSpec)

/-- 'withylaw16.HandNew', WHERE WHAT IT READS IS OF BULK AT MOST 1048576: true; the input reads as it did. -/
def handNewUptoRow : OpenClaim := { program := "ytcbfccadodikgaa", sum := "5d68f8dfa70a9365e821ccc57a4a72b9b037fbed804d606f4587a2d7bbe221f7", func := "withy/withylaw16.HandNew", spec := "handNew", apart := false, narrowed := true }
def HandNewUptoSaid : Prop := handNewUptoRow.holds Try.pinned (OpenSpec.upto handNewSpec)

/-- 'withylaw16.HandHears', WHERE WHAT IT READS IS OF BULK AT MOST 1048576: true; the input reads as it did. -/
def handHearsUptoRow : OpenClaim := { program := "ytcbfccadodikgaa", sum := "5d68f8dfa70a9365e821ccc57a4a72b9b037fbed804d606f4587a2d7bbe221f7", func := "withy/withylaw16.HandHears", spec := "handHears", apart := false, narrowed := true }
def HandHearsUptoSaid : Prop := handHearsUptoRow.holds Try.pinned (OpenSpec.upto handHearsSpec)

/-- 'withylaw16.HandOver', WHERE WHAT IT READS IS OF BULK AT MOST 1048576: true; the input reads as it did. -/
def handOverUptoRow : OpenClaim := { program := "ytcbfccadodikgaa", sum := "5d68f8dfa70a9365e821ccc57a4a72b9b037fbed804d606f4587a2d7bbe221f7", func := "withy/withylaw16.HandOver", spec := "handOver", apart := false, narrowed := true }
def HandOverUptoSaid : Prop := handOverUptoRow.holds Try.pinned (OpenSpec.upto handOverSpec)

end Rows
end Go.Proofs.Ytcbfccadodikgaa
