/-
  No cell of these rows narrows 'for every input' (looked for: loops, veiled, ifaces, maps, wideKeys, modest, calm, conditions, laid).
  DERIVED. THE GIVEN ROWS OF THIS SEAT. 11 by the template 'for every input the law returns true; each argument reads behind the call as it read before'; 0 by the template 'total and deterministic' (their statements: YtdfknpjlapaadaaTotals.lean).
  GIVEN WITH THE SEED: the statements are not yours to turn. If you find one false, say at which input.
  Laid BY PROGRAM, IN A SANDBOX (cutbox-rows.mjs): the forced cells as the released guide's own fill.sh prints them over the translation 007441f609620f04… (all of the seat's roots in one cut). By AI agents, Wed Nov 11 2026. No macro, syntax, notation, axiom, sorry.
-/
import Derived.Test.YtdfknpjlapaadaaChecked
import GoSem.Claim
import GoSem.ClaimJoined
import GoSem.ClaimMapViews
import Derived.JoinedTies
import Derived.KernelRfl
namespace Go.Proofs.Ytdfknpjlapaadaa
/- THE CELL 'sum', in the pinned program and in every row, IS THE sha256 OF THE DUMP (.gsa) THAT YtdfknpjlapaadaaProg.lean LOADS. Nothing in Lean hashes anything: it is a label: what it is worth is what the hold of that sum in a sandbox is worth. -/
noncomputable def Try.pinned : Pinned := { name := "ytdfknpjlapaadaa", sum := "007441f609620f044bfbe2ef51e11de2a54bc81e9c365c06acf43090400c2728", checked := Try.checked }
namespace Rows
def none {H : Type} : Left H := { results := [], args := [] }

/-- 'withylaw03.FrameCodes': WHATEVER THE INPUT: true; the input reads as it did. -/
def frameCodesSpec : ChangeSpec := { name := "frameCodes", fn := fun _ => fun
  | [d] => { results := [.lit (.bool true)], args := [d] }
  | _ => none }
def frameCodesRow : OpenClaim := { program := "ytdfknpjlapaadaa", sum := "007441f609620f044bfbe2ef51e11de2a54bc81e9c365c06acf43090400c2728", func := "withy/withylaw03.FrameCodes", spec := "frameCodes", apart := false }
def FrameCodesSaid : Prop := frameCodesRow.holds Try.pinned (OpenSpec.ofChange frameCodesSpec)

/-- ITS FALSE NEIGHBOUR: 'it returns false'. Refute it at one input. -/
def frameCodesWrong : ChangeSpec := { name := "frameCodes", fn := fun _ => fun
  | [d] => { results := [.lit (.bool false)], args := [d] }
  | _ => none }
def FrameCodesWrongFalsely : Prop := frameCodesRow.holds Try.pinned (OpenSpec.ofChange frameCodesWrong)

/-- 'withylaw03.FrameDecodes': WHATEVER THE INPUT: true; the input reads as it did. -/
def frameDecodesSpec : ChangeSpec := { name := "frameDecodes", fn := fun _ => fun
  | [d] => { results := [.lit (.bool true)], args := [d] }
  | _ => none }
def frameDecodesRow : OpenClaim := { program := "ytdfknpjlapaadaa", sum := "007441f609620f044bfbe2ef51e11de2a54bc81e9c365c06acf43090400c2728", func := "withy/withylaw03.FrameDecodes", spec := "frameDecodes", apart := false }
def FrameDecodesSaid : Prop := frameDecodesRow.holds Try.pinned (OpenSpec.ofChange frameDecodesSpec)

/-- ITS FALSE NEIGHBOUR: 'it returns false'. Refute it at one input. -/
def frameDecodesWrong : ChangeSpec := { name := "frameDecodes", fn := fun _ => fun
  | [d] => { results := [.lit (.bool false)], args := [d] }
  | _ => none }
def FrameDecodesWrongFalsely : Prop := frameDecodesRow.holds Try.pinned (OpenSpec.ofChange frameDecodesWrong)

/-- 'withylaw03.FrameCuts': WHATEVER THE INPUT: true; the input reads as it did. -/
def frameCutsSpec : ChangeSpec := { name := "frameCuts", fn := fun _ => fun
  | [d1, d2] => { results := [.lit (.bool true)], args := [d1, d2] }
  | _ => none }
def frameCutsRow : OpenClaim := { program := "ytdfknpjlapaadaa", sum := "007441f609620f044bfbe2ef51e11de2a54bc81e9c365c06acf43090400c2728", func := "withy/withylaw03.FrameCuts", spec := "frameCuts", apart := false }
def FrameCutsSaid : Prop := frameCutsRow.holds Try.pinned (OpenSpec.ofChange frameCutsSpec)

/-- ITS FALSE NEIGHBOUR: 'it returns false'. Refute it at one input. -/
def frameCutsWrong : ChangeSpec := { name := "frameCuts", fn := fun _ => fun
  | [d1, d2] => { results := [.lit (.bool false)], args := [d1, d2] }
  | _ => none }
def FrameCutsWrongFalsely : Prop := frameCutsRow.holds Try.pinned (OpenSpec.ofChange frameCutsWrong)

/-- 'withylaw03.FrameSame': WHATEVER THE INPUT: true; the input reads as it did. -/
def frameSameSpec : ChangeSpec := { name := "frameSame", fn := fun _ => fun
  | [d1, d2] => { results := [.lit (.bool true)], args := [d1, d2] }
  | _ => none }
def frameSameRow : OpenClaim := { program := "ytdfknpjlapaadaa", sum := "007441f609620f044bfbe2ef51e11de2a54bc81e9c365c06acf43090400c2728", func := "withy/withylaw03.FrameSame", spec := "frameSame", apart := false }
def FrameSameSaid : Prop := frameSameRow.holds Try.pinned (OpenSpec.ofChange frameSameSpec)

/-- ITS FALSE NEIGHBOUR: 'it returns false'. Refute it at one input. -/
def frameSameWrong : ChangeSpec := { name := "frameSame", fn := fun _ => fun
  | [d1, d2] => { results := [.lit (.bool false)], args := [d1, d2] }
  | _ => none }
def FrameSameWrongFalsely : Prop := frameSameRow.holds Try.pinned (OpenSpec.ofChange frameSameWrong)

/-- 'withylaw03.FrameSizes': WHATEVER THE INPUT: true; the input reads as it did. -/
def frameSizesSpec : ChangeSpec := { name := "frameSizes", fn := fun _ => fun
  | [d1, d2] => { results := [.lit (.bool true)], args := [d1, d2] }
  | _ => none }
def frameSizesRow : OpenClaim := { program := "ytdfknpjlapaadaa", sum := "007441f609620f044bfbe2ef51e11de2a54bc81e9c365c06acf43090400c2728", func := "withy/withylaw03.FrameSizes", spec := "frameSizes", apart := false }
def FrameSizesSaid : Prop := frameSizesRow.holds Try.pinned (OpenSpec.ofChange frameSizesSpec)

/-- ITS FALSE NEIGHBOUR: 'it returns false'. Refute it at one input. -/
def frameSizesWrong : ChangeSpec := { name := "frameSizes", fn := fun _ => fun
  | [d1, d2] => { results := [.lit (.bool false)], args := [d1, d2] }
  | _ => none }
def FrameSizesWrongFalsely : Prop := frameSizesRow.holds Try.pinned (OpenSpec.ofChange frameSizesWrong)

/-- 'withylaw04.BendBursts': WHATEVER THE INPUT: true; the input reads as it did. -/
def bendBurstsSpec : ChangeSpec := { name := "bendBursts", fn := fun _ => fun
  | [d1, d2, d3] => { results := [.lit (.bool true)], args := [d1, d2, d3] }
  | _ => none }
def bendBurstsRow : OpenClaim := { program := "ytdfknpjlapaadaa", sum := "007441f609620f044bfbe2ef51e11de2a54bc81e9c365c06acf43090400c2728", func := "withy/withylaw04.BendBursts", spec := "bendBursts", apart := false }
def BendBurstsSaid : Prop := bendBurstsRow.holds Try.pinned (OpenSpec.ofChange bendBurstsSpec)

/-- ITS FALSE NEIGHBOUR: 'it returns false'. Refute it at one input. -/
def bendBurstsWrong : ChangeSpec := { name := "bendBursts", fn := fun _ => fun
  | [d1, d2, d3] => { results := [.lit (.bool false)], args := [d1, d2, d3] }
  | _ => none }
def BendBurstsWrongFalsely : Prop := bendBurstsRow.holds Try.pinned (OpenSpec.ofChange bendBurstsWrong)

/-- 'withylaw04.BendUnlike': WHATEVER THE INPUT: true; the input reads as it did. -/
def bendUnlikeSpec : ChangeSpec := { name := "bendUnlike", fn := fun _ => fun
  | [d1, d2] => { results := [.lit (.bool true)], args := [d1, d2] }
  | _ => none }
def bendUnlikeRow : OpenClaim := { program := "ytdfknpjlapaadaa", sum := "007441f609620f044bfbe2ef51e11de2a54bc81e9c365c06acf43090400c2728", func := "withy/withylaw04.BendUnlike", spec := "bendUnlike", apart := false }
def BendUnlikeSaid : Prop := bendUnlikeRow.holds Try.pinned (OpenSpec.ofChange bendUnlikeSpec)

/-- ITS FALSE NEIGHBOUR: 'it returns false'. Refute it at one input. -/
def bendUnlikeWrong : ChangeSpec := { name := "bendUnlike", fn := fun _ => fun
  | [d1, d2] => { results := [.lit (.bool false)], args := [d1, d2] }
  | _ => none }
def BendUnlikeWrongFalsely : Prop := bendUnlikeRow.holds Try.pinned (OpenSpec.ofChange bendUnlikeWrong)

/-- 'withylaw04.BendSpoils': WHATEVER THE INPUT: true; the input reads as it did. -/
def bendSpoilsSpec : ChangeSpec := { name := "bendSpoils", fn := fun _ => fun
  | [d1, d2, d3] => { results := [.lit (.bool true)], args := [d1, d2, d3] }
  | _ => none }
def bendSpoilsRow : OpenClaim := { program := "ytdfknpjlapaadaa", sum := "007441f609620f044bfbe2ef51e11de2a54bc81e9c365c06acf43090400c2728", func := "withy/withylaw04.BendSpoils", spec := "bendSpoils", apart := false }
def BendSpoilsSaid : Prop := bendSpoilsRow.holds Try.pinned (OpenSpec.ofChange bendSpoilsSpec)

/-- ITS FALSE NEIGHBOUR: 'it returns false'. Refute it at one input. -/
def bendSpoilsWrong : ChangeSpec := { name := "bendSpoils", fn := fun _ => fun
  | [d1, d2, d3] => { results := [.lit (.bool false)], args := [d1, d2, d3] }
  | _ => none }
def BendSpoilsWrongFalsely : Prop := bendSpoilsRow.holds Try.pinned (OpenSpec.ofChange bendSpoilsWrong)

/-- 'withylaw04.BendApart': WHATEVER THE INPUT: true; the input reads as it did. -/
def bendApartSpec : ChangeSpec := { name := "bendApart", fn := fun _ => fun
  | [d1, d2] => { results := [.lit (.bool true)], args := [d1, d2] }
  | _ => none }
def bendApartRow : OpenClaim := { program := "ytdfknpjlapaadaa", sum := "007441f609620f044bfbe2ef51e11de2a54bc81e9c365c06acf43090400c2728", func := "withy/withylaw04.BendApart", spec := "bendApart", apart := false }
def BendApartSaid : Prop := bendApartRow.holds Try.pinned (OpenSpec.ofChange bendApartSpec)

/-- ITS FALSE NEIGHBOUR: 'it returns false'. Refute it at one input. -/
def bendApartWrong : ChangeSpec := { name := "bendApart", fn := fun _ => fun
  | [d1, d2] => { results := [.lit (.bool false)], args := [d1, d2] }
  | _ => none }
def BendApartWrongFalsely : Prop := bendApartRow.holds Try.pinned (OpenSpec.ofChange bendApartWrong)

/-- 'withylaw05.EdgeSorts': WHATEVER THE INPUT: true; the input reads as it did. -/
def edgeSortsSpec : ChangeSpec := { name := "edgeSorts", fn := fun _ => fun
  | [d] => { results := [.lit (.bool true)], args := [d] }
  | _ => none }
def edgeSortsRow : OpenClaim := { program := "ytdfknpjlapaadaa", sum := "007441f609620f044bfbe2ef51e11de2a54bc81e9c365c06acf43090400c2728", func := "withy/withylaw05.EdgeSorts", spec := "edgeSorts", unfollowed := true, recurses := true, apart := false }
def EdgeSortsSaid : Prop := edgeSortsRow.holds Try.pinned (OpenSpec.ofChange edgeSortsSpec)

/-- ITS FALSE NEIGHBOUR: 'it returns false'. Refute it at one input. -/
def edgeSortsWrong : ChangeSpec := { name := "edgeSorts", fn := fun _ => fun
  | [d] => { results := [.lit (.bool false)], args := [d] }
  | _ => none }
def EdgeSortsWrongFalsely : Prop := edgeSortsRow.holds Try.pinned (OpenSpec.ofChange edgeSortsWrong)

/-- 'withylaw05.EdgeLists': WHATEVER THE INPUT: true; the input reads as it did. -/
def edgeListsSpec : ChangeSpec := { name := "edgeLists", fn := fun _ => fun
  | [d1, d2] => { results := [.lit (.bool true)], args := [d1, d2] }
  | _ => none }
def edgeListsRow : OpenClaim := { program := "ytdfknpjlapaadaa", sum := "007441f609620f044bfbe2ef51e11de2a54bc81e9c365c06acf43090400c2728", func := "withy/withylaw05.EdgeLists", spec := "edgeLists", unfollowed := true, recurses := true, apart := false }
def EdgeListsSaid : Prop := edgeListsRow.holds Try.pinned (OpenSpec.ofChange edgeListsSpec)

/-- ITS FALSE NEIGHBOUR: 'it returns false'. Refute it at one input. -/
def edgeListsWrong : ChangeSpec := { name := "edgeLists", fn := fun _ => fun
  | [d1, d2] => { results := [.lit (.bool false)], args := [d1, d2] }
  | _ => none }
def EdgeListsWrongFalsely : Prop := edgeListsRow.holds Try.pinned (OpenSpec.ofChange edgeListsWrong)

/- THE SECOND FORM. 'bulk': how many values and letters a reading holds, each counted each time it is reached (what is shared counts as often as it is met; a slice's spare places count too). A statement '..UptoSaid' is the law's where the arguments, and the package variables that the reading takes, are together of bulk at most 1048576: NARROWER than '..Said'. Prove '..Said' where nothing that the law and all that it calls make is longer than what came in: it says more and counts as full. Else prove '..UptoSaid'. A law counts once. -/
mutual
def uptoBulk {H : Type} : DataW H → Nat
  | .lit (.string bytes) => bytes.length + 1
  | .lit _ => 1
  | .nil => 1
  | .ptr d => uptoBulk d + 1
  | .slice elems spare => uptoBulkAll elems + uptoBulkAll spare + 1
  | .agg parts => uptoBulkAll parts + 1
  | .iface _ d => uptoBulk d + 1
  | .map entries => uptoBulkEntries entries + 1
  | .held _ => 1
def uptoBulkAll {H : Type} : List (DataW H) → Nat
  | [] => 0
  | d :: r => uptoBulk d + uptoBulkAll r
def uptoBulkEntries {H : Type} : List (Lit × DataW H) → Nat
  | [] => 0
  | x :: r => uptoBulkEntry x + uptoBulkEntries r
def uptoBulkEntry {H : Type} : Lit × DataW H → Nat
  | (.string bytes, d) => bytes.length + uptoBulk d + 1
  | (_, d) => uptoBulk d + 1
 end
def uptoSmall : (H : Type) → List (DataW H) → Bool := fun _ ds => decide (uptoBulkAll ds ≤ 1048576)
def OpenSpec.upto (s : _root_.Go.ChangeSpec) : _root_.Go.OpenSpec := { _root_.Go.OpenSpec.ofChange s with cond := some uptoSmall }

/-- 'withylaw03.FrameCodes', WHERE WHAT IT READS IS OF BULK AT MOST 1048576: true; the input reads as it did. -/
def frameCodesUptoRow : OpenClaim := { program := "ytdfknpjlapaadaa", sum := "007441f609620f044bfbe2ef51e11de2a54bc81e9c365c06acf43090400c2728", func := "withy/withylaw03.FrameCodes", spec := "frameCodes", apart := false, narrowed := true }
def FrameCodesUptoSaid : Prop := frameCodesUptoRow.holds Try.pinned (OpenSpec.upto frameCodesSpec)

/-- 'withylaw03.FrameDecodes', WHERE WHAT IT READS IS OF BULK AT MOST 1048576: true; the input reads as it did. -/
def frameDecodesUptoRow : OpenClaim := { program := "ytdfknpjlapaadaa", sum := "007441f609620f044bfbe2ef51e11de2a54bc81e9c365c06acf43090400c2728", func := "withy/withylaw03.FrameDecodes", spec := "frameDecodes", apart := false, narrowed := true }
def FrameDecodesUptoSaid : Prop := frameDecodesUptoRow.holds Try.pinned (OpenSpec.upto frameDecodesSpec)

/-- 'withylaw03.FrameCuts', WHERE WHAT IT READS IS OF BULK AT MOST 1048576: true; the input reads as it did. -/
def frameCutsUptoRow : OpenClaim := { program := "ytdfknpjlapaadaa", sum := "007441f609620f044bfbe2ef51e11de2a54bc81e9c365c06acf43090400c2728", func := "withy/withylaw03.FrameCuts", spec := "frameCuts", apart := false, narrowed := true }
def FrameCutsUptoSaid : Prop := frameCutsUptoRow.holds Try.pinned (OpenSpec.upto frameCutsSpec)

/-- 'withylaw03.FrameSame', WHERE WHAT IT READS IS OF BULK AT MOST 1048576: true; the input reads as it did. -/
def frameSameUptoRow : OpenClaim := { program := "ytdfknpjlapaadaa", sum := "007441f609620f044bfbe2ef51e11de2a54bc81e9c365c06acf43090400c2728", func := "withy/withylaw03.FrameSame", spec := "frameSame", apart := false, narrowed := true }
def FrameSameUptoSaid : Prop := frameSameUptoRow.holds Try.pinned (OpenSpec.upto frameSameSpec)

/-- 'withylaw03.FrameSizes', WHERE WHAT IT READS IS OF BULK AT MOST 1048576: true; the input reads as it did. -/
def frameSizesUptoRow : OpenClaim := { program := "ytdfknpjlapaadaa", sum := "007441f609620f044bfbe2ef51e11de2a54bc81e9c365c06acf43090400c2728", func := "withy/withylaw03.FrameSizes", spec := "frameSizes", apart := false, narrowed := true }
def FrameSizesUptoSaid : Prop := frameSizesUptoRow.holds Try.pinned (OpenSpec.upto frameSizesSpec)

/-- 'withylaw04.BendBursts', WHERE WHAT IT READS IS OF BULK AT MOST 1048576: true; the input reads as it did. -/
def bendBurstsUptoRow : OpenClaim := { program := "ytdfknpjlapaadaa", sum := "007441f609620f044bfbe2ef51e11de2a54bc81e9c365c06acf43090400c2728", func := "withy/withylaw04.BendBursts", spec := "bendBursts", apart := false, narrowed := true }
def BendBurstsUptoSaid : Prop := bendBurstsUptoRow.holds Try.pinned (OpenSpec.upto bendBurstsSpec)

/-- 'withylaw04.BendUnlike', WHERE WHAT IT READS IS OF BULK AT MOST 1048576: true; the input reads as it did. -/
def bendUnlikeUptoRow : OpenClaim := { program := "ytdfknpjlapaadaa", sum := "007441f609620f044bfbe2ef51e11de2a54bc81e9c365c06acf43090400c2728", func := "withy/withylaw04.BendUnlike", spec := "bendUnlike", apart := false, narrowed := true }
def BendUnlikeUptoSaid : Prop := bendUnlikeUptoRow.holds Try.pinned (OpenSpec.upto bendUnlikeSpec)

/-- 'withylaw04.BendSpoils', WHERE WHAT IT READS IS OF BULK AT MOST 1048576: true; the input reads as it did. -/
def bendSpoilsUptoRow : OpenClaim := { program := "ytdfknpjlapaadaa", sum := "007441f609620f044bfbe2ef51e11de2a54bc81e9c365c06acf43090400c2728", func := "withy/withylaw04.BendSpoils", spec := "bendSpoils", apart := false, narrowed := true }
def BendSpoilsUptoSaid : Prop := bendSpoilsUptoRow.holds Try.pinned (OpenSpec.upto bendSpoilsSpec)

/-- 'withylaw04.BendApart', WHERE WHAT IT READS IS OF BULK AT MOST 1048576: true; the input reads as it did. -/
def bendApartUptoRow : OpenClaim := { program := "ytdfknpjlapaadaa", sum := "007441f609620f044bfbe2ef51e11de2a54bc81e9c365c06acf43090400c2728", func := "withy/withylaw04.BendApart", spec := "bendApart", apart := false, narrowed := true }
def BendApartUptoSaid : Prop := bendApartUptoRow.holds Try.pinned (OpenSpec.upto bendApartSpec)

/-- 'withylaw05.EdgeSorts', WHERE WHAT IT READS IS OF BULK AT MOST 1048576: true; the input reads as it did. -/
def edgeSortsUptoRow : OpenClaim := { program := "ytdfknpjlapaadaa", sum := "007441f609620f044bfbe2ef51e11de2a54bc81e9c365c06acf43090400c2728", func := "withy/withylaw05.EdgeSorts", spec := "edgeSorts", unfollowed := true, recurses := true, apart := false, narrowed := true }
def EdgeSortsUptoSaid : Prop := edgeSortsUptoRow.holds Try.pinned (OpenSpec.upto edgeSortsSpec)

/-- 'withylaw05.EdgeLists', WHERE WHAT IT READS IS OF BULK AT MOST 1048576: true; the input reads as it did. -/
def edgeListsUptoRow : OpenClaim := { program := "ytdfknpjlapaadaa", sum := "007441f609620f044bfbe2ef51e11de2a54bc81e9c365c06acf43090400c2728", func := "withy/withylaw05.EdgeLists", spec := "edgeLists", unfollowed := true, recurses := true, apart := false, narrowed := true }
def EdgeListsUptoSaid : Prop := edgeListsUptoRow.holds Try.pinned (OpenSpec.upto edgeListsSpec)

end Rows
end Go.Proofs.Ytdfknpjlapaadaa
