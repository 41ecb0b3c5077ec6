/-
  No cell of these rows narrows 'for every input' (looked for: loops, veiled, ifaces, maps, wideKeys, modest, calm, conditions, laid).
  DERIVED. THE GIVEN ROWS OF THIS SEAT. 12 by the template 'for every input the law returns true; each argument reads behind the call as it read before'; 0 by the template 'total and deterministic' (their statements: YtnfkphekkpigpaaTotals.lean).
  GIVEN WITH THE SEED: the statements are not yours to turn. If you find one false, say at which input.
  Laid BY PROGRAM, IN A SANDBOX (cutbox-rows.mjs): the forced cells as the released guide's own fill.sh prints them over the translation 8d8a9d1f795dfe32… (all of the seat's roots in one cut). By AI agents, Wed Nov 11 2026. No macro, syntax, notation, axiom, sorry.
-/
import Derived.Test.YtnfkphekkpigpaaChecked
import GoSem.Claim
import GoSem.ClaimJoined
import GoSem.ClaimMapViews
import Derived.JoinedTies
import Derived.KernelRfl
namespace Go.Proofs.Ytnfkphekkpigpaa
/- THE CELL 'sum', in the pinned program and in every row, IS THE sha256 OF THE DUMP (.gsa) THAT YtnfkphekkpigpaaProg.lean LOADS. Nothing in Lean hashes anything: it is a label: what it is worth is what the hold of that sum in a sandbox is worth. -/
noncomputable def Try.pinned : Pinned := { name := "ytnfkphekkpigpaa", sum := "8d8a9d1f795dfe328006310a986b949e547eb94ea9cc088665597277e22cf863", checked := Try.checked }
namespace Rows
def none {H : Type} : Left H := { results := [], args := [] }

/-- 'withylaw09.ViewMerges': WHATEVER THE INPUT: true; the input reads as it did. -/
def viewMergesSpec : ChangeSpec := { name := "viewMerges", fn := fun _ => fun
  | [d1, d2] => { results := [.lit (.bool true)], args := [d1, d2] }
  | _ => none }
def viewMergesRow : OpenClaim := { program := "ytnfkphekkpigpaa", sum := "8d8a9d1f795dfe328006310a986b949e547eb94ea9cc088665597277e22cf863", func := "withy/withylaw09.ViewMerges", spec := "viewMerges", unfollowed := true, recurses := true, apart := false }
def ViewMergesSaid : Prop := viewMergesRow.holds Try.pinned (OpenSpec.ofChange viewMergesSpec)

/-- ITS FALSE NEIGHBOUR: 'it returns false'. Refute it at one input. -/
def viewMergesWrong : ChangeSpec := { name := "viewMerges", fn := fun _ => fun
  | [d1, d2] => { results := [.lit (.bool false)], args := [d1, d2] }
  | _ => none }
def ViewMergesWrongFalsely : Prop := viewMergesRow.holds Try.pinned (OpenSpec.ofChange viewMergesWrong)

/-- 'withylaw09.ViewLinks': WHATEVER THE INPUT: true; the input reads as it did. -/
def viewLinksSpec : ChangeSpec := { name := "viewLinks", fn := fun _ => fun
  | [d] => { results := [.lit (.bool true)], args := [d] }
  | _ => none }
def viewLinksRow : OpenClaim := { program := "ytnfkphekkpigpaa", sum := "8d8a9d1f795dfe328006310a986b949e547eb94ea9cc088665597277e22cf863", func := "withy/withylaw09.ViewLinks", spec := "viewLinks", unfollowed := true, recurses := true, apart := false }
def ViewLinksSaid : Prop := viewLinksRow.holds Try.pinned (OpenSpec.ofChange viewLinksSpec)

/-- ITS FALSE NEIGHBOUR: 'it returns false'. Refute it at one input. -/
def viewLinksWrong : ChangeSpec := { name := "viewLinks", fn := fun _ => fun
  | [d] => { results := [.lit (.bool false)], args := [d] }
  | _ => none }
def ViewLinksWrongFalsely : Prop := viewLinksRow.holds Try.pinned (OpenSpec.ofChange viewLinksWrong)

/-- 'withylaw09.ViewOrder': WHATEVER THE INPUT: true; the input reads as it did. -/
def viewOrderSpec : ChangeSpec := { name := "viewOrder", fn := fun _ => fun
  | [d1, d2, d3] => { results := [.lit (.bool true)], args := [d1, d2, d3] }
  | _ => none }
def viewOrderRow : OpenClaim := { program := "ytnfkphekkpigpaa", sum := "8d8a9d1f795dfe328006310a986b949e547eb94ea9cc088665597277e22cf863", func := "withy/withylaw09.ViewOrder", spec := "viewOrder", unfollowed := true, recurses := true, apart := false }
def ViewOrderSaid : Prop := viewOrderRow.holds Try.pinned (OpenSpec.ofChange viewOrderSpec)

/-- ITS FALSE NEIGHBOUR: 'it returns false'. Refute it at one input. -/
def viewOrderWrong : ChangeSpec := { name := "viewOrder", fn := fun _ => fun
  | [d1, d2, d3] => { results := [.lit (.bool false)], args := [d1, d2, d3] }
  | _ => none }
def ViewOrderWrongFalsely : Prop := viewOrderRow.holds Try.pinned (OpenSpec.ofChange viewOrderWrong)

/-- 'withylaw09.ViewTells': WHATEVER THE INPUT: true; the input reads as it did. -/
def viewTellsSpec : ChangeSpec := { name := "viewTells", fn := fun _ => fun
  | [d] => { results := [.lit (.bool true)], args := [d] }
  | _ => none }
def viewTellsRow : OpenClaim := { program := "ytnfkphekkpigpaa", sum := "8d8a9d1f795dfe328006310a986b949e547eb94ea9cc088665597277e22cf863", func := "withy/withylaw09.ViewTells", spec := "viewTells", unfollowed := true, recurses := true, apart := false }
def ViewTellsSaid : Prop := viewTellsRow.holds Try.pinned (OpenSpec.ofChange viewTellsSpec)

/-- ITS FALSE NEIGHBOUR: 'it returns false'. Refute it at one input. -/
def viewTellsWrong : ChangeSpec := { name := "viewTells", fn := fun _ => fun
  | [d] => { results := [.lit (.bool false)], args := [d] }
  | _ => none }
def ViewTellsWrongFalsely : Prop := viewTellsRow.holds Try.pinned (OpenSpec.ofChange viewTellsWrong)

/-- 'withylaw13.WordCodes': WHATEVER THE INPUT: true; the input reads as it did. -/
def wordCodesSpec : ChangeSpec := { name := "wordCodes", fn := fun _ => fun
  | [d] => { results := [.lit (.bool true)], args := [d] }
  | _ => none }
def wordCodesRow : OpenClaim := { program := "ytnfkphekkpigpaa", sum := "8d8a9d1f795dfe328006310a986b949e547eb94ea9cc088665597277e22cf863", func := "withy/withylaw13.WordCodes", spec := "wordCodes", apart := false }
def WordCodesSaid : Prop := wordCodesRow.holds Try.pinned (OpenSpec.ofChange wordCodesSpec)

/-- ITS FALSE NEIGHBOUR: 'it returns false'. Refute it at one input. -/
def wordCodesWrong : ChangeSpec := { name := "wordCodes", fn := fun _ => fun
  | [d] => { results := [.lit (.bool false)], args := [d] }
  | _ => none }
def WordCodesWrongFalsely : Prop := wordCodesRow.holds Try.pinned (OpenSpec.ofChange wordCodesWrong)

/-- 'withylaw13.WordDecodes': WHATEVER THE INPUT: true; the input reads as it did. -/
def wordDecodesSpec : ChangeSpec := { name := "wordDecodes", fn := fun _ => fun
  | [d] => { results := [.lit (.bool true)], args := [d] }
  | _ => none }
def wordDecodesRow : OpenClaim := { program := "ytnfkphekkpigpaa", sum := "8d8a9d1f795dfe328006310a986b949e547eb94ea9cc088665597277e22cf863", func := "withy/withylaw13.WordDecodes", spec := "wordDecodes", apart := false }
def WordDecodesSaid : Prop := wordDecodesRow.holds Try.pinned (OpenSpec.ofChange wordDecodesSpec)

/-- ITS FALSE NEIGHBOUR: 'it returns false'. Refute it at one input. -/
def wordDecodesWrong : ChangeSpec := { name := "wordDecodes", fn := fun _ => fun
  | [d] => { results := [.lit (.bool false)], args := [d] }
  | _ => none }
def WordDecodesWrongFalsely : Prop := wordDecodesRow.holds Try.pinned (OpenSpec.ofChange wordDecodesWrong)

/-- 'withylaw13.WordSame': WHATEVER THE INPUT: true; the input reads as it did. -/
def wordSameSpec : ChangeSpec := { name := "wordSame", fn := fun _ => fun
  | [d1, d2] => { results := [.lit (.bool true)], args := [d1, d2] }
  | _ => none }
def wordSameRow : OpenClaim := { program := "ytnfkphekkpigpaa", sum := "8d8a9d1f795dfe328006310a986b949e547eb94ea9cc088665597277e22cf863", func := "withy/withylaw13.WordSame", spec := "wordSame", apart := false }
def WordSameSaid : Prop := wordSameRow.holds Try.pinned (OpenSpec.ofChange wordSameSpec)

/-- ITS FALSE NEIGHBOUR: 'it returns false'. Refute it at one input. -/
def wordSameWrong : ChangeSpec := { name := "wordSame", fn := fun _ => fun
  | [d1, d2] => { results := [.lit (.bool false)], args := [d1, d2] }
  | _ => none }
def WordSameWrongFalsely : Prop := wordSameRow.holds Try.pinned (OpenSpec.ofChange wordSameWrong)

/-- 'withylaw13.WordSizes': WHATEVER THE INPUT: true; the input reads as it did. -/
def wordSizesSpec : ChangeSpec := { name := "wordSizes", fn := fun _ => fun
  | [d1, d2] => { results := [.lit (.bool true)], args := [d1, d2] }
  | _ => none }
def wordSizesRow : OpenClaim := { program := "ytnfkphekkpigpaa", sum := "8d8a9d1f795dfe328006310a986b949e547eb94ea9cc088665597277e22cf863", func := "withy/withylaw13.WordSizes", spec := "wordSizes", apart := false }
def WordSizesSaid : Prop := wordSizesRow.holds Try.pinned (OpenSpec.ofChange wordSizesSpec)

/-- ITS FALSE NEIGHBOUR: 'it returns false'. Refute it at one input. -/
def wordSizesWrong : ChangeSpec := { name := "wordSizes", fn := fun _ => fun
  | [d1, d2] => { results := [.lit (.bool false)], args := [d1, d2] }
  | _ => none }
def WordSizesWrongFalsely : Prop := wordSizesRow.holds Try.pinned (OpenSpec.ofChange wordSizesWrong)

/-- 'withylaw10.ChooseChecks': WHATEVER THE INPUT: true; the input reads as it did. -/
def chooseChecksSpec : ChangeSpec := { name := "chooseChecks", fn := fun _ => fun
  | [d] => { results := [.lit (.bool true)], args := [d] }
  | _ => none }
def chooseChecksRow : OpenClaim := { program := "ytnfkphekkpigpaa", sum := "8d8a9d1f795dfe328006310a986b949e547eb94ea9cc088665597277e22cf863", func := "withy/withylaw10.ChooseChecks", spec := "chooseChecks", unfollowed := true, recurses := true, apart := false }
def ChooseChecksSaid : Prop := chooseChecksRow.holds Try.pinned (OpenSpec.ofChange chooseChecksSpec)

/-- ITS FALSE NEIGHBOUR: 'it returns false'. Refute it at one input. -/
def chooseChecksWrong : ChangeSpec := { name := "chooseChecks", fn := fun _ => fun
  | [d] => { results := [.lit (.bool false)], args := [d] }
  | _ => none }
def ChooseChecksWrongFalsely : Prop := chooseChecksRow.holds Try.pinned (OpenSpec.ofChange chooseChecksWrong)

/-- 'withylaw10.ChooseChooses': WHATEVER THE INPUT: true; the input reads as it did. -/
def chooseChoosesSpec : ChangeSpec := { name := "chooseChooses", fn := fun _ => fun
  | [d] => { results := [.lit (.bool true)], args := [d] }
  | _ => none }
def chooseChoosesRow : OpenClaim := { program := "ytnfkphekkpigpaa", sum := "8d8a9d1f795dfe328006310a986b949e547eb94ea9cc088665597277e22cf863", func := "withy/withylaw10.ChooseChooses", spec := "chooseChooses", unfollowed := true, recurses := true, apart := false }
def ChooseChoosesSaid : Prop := chooseChoosesRow.holds Try.pinned (OpenSpec.ofChange chooseChoosesSpec)

/-- ITS FALSE NEIGHBOUR: 'it returns false'. Refute it at one input. -/
def chooseChoosesWrong : ChangeSpec := { name := "chooseChooses", fn := fun _ => fun
  | [d] => { results := [.lit (.bool false)], args := [d] }
  | _ => none }
def ChooseChoosesWrongFalsely : Prop := chooseChoosesRow.holds Try.pinned (OpenSpec.ofChange chooseChoosesWrong)

/-- 'withylaw10.ChooseEnds': WHATEVER THE INPUT: true; the input reads as it did. -/
def chooseEndsSpec : ChangeSpec := { name := "chooseEnds", fn := fun _ => fun
  | [d1, d2] => { results := [.lit (.bool true)], args := [d1, d2] }
  | _ => none }
def chooseEndsRow : OpenClaim := { program := "ytnfkphekkpigpaa", sum := "8d8a9d1f795dfe328006310a986b949e547eb94ea9cc088665597277e22cf863", func := "withy/withylaw10.ChooseEnds", spec := "chooseEnds", unfollowed := true, recurses := true, apart := false }
def ChooseEndsSaid : Prop := chooseEndsRow.holds Try.pinned (OpenSpec.ofChange chooseEndsSpec)

/-- ITS FALSE NEIGHBOUR: 'it returns false'. Refute it at one input. -/
def chooseEndsWrong : ChangeSpec := { name := "chooseEnds", fn := fun _ => fun
  | [d1, d2] => { results := [.lit (.bool false)], args := [d1, d2] }
  | _ => none }
def ChooseEndsWrongFalsely : Prop := chooseEndsRow.holds Try.pinned (OpenSpec.ofChange chooseEndsWrong)

/-- 'withylaw10.ChooseRight': WHATEVER THE INPUT: true; the input reads as it did. -/
def chooseRightSpec : ChangeSpec := { name := "chooseRight", fn := fun _ => fun
  | [d1, d2] => { results := [.lit (.bool true)], args := [d1, d2] }
  | _ => none }
def chooseRightRow : OpenClaim := { program := "ytnfkphekkpigpaa", sum := "8d8a9d1f795dfe328006310a986b949e547eb94ea9cc088665597277e22cf863", func := "withy/withylaw10.ChooseRight", spec := "chooseRight", unfollowed := true, recurses := true, apart := false }
def ChooseRightSaid : Prop := chooseRightRow.holds Try.pinned (OpenSpec.ofChange chooseRightSpec)

/-- ITS FALSE NEIGHBOUR: 'it returns false'. Refute it at one input. -/
def chooseRightWrong : ChangeSpec := { name := "chooseRight", fn := fun _ => fun
  | [d1, d2] => { results := [.lit (.bool false)], args := [d1, d2] }
  | _ => none }
def ChooseRightWrongFalsely : Prop := chooseRightRow.holds Try.pinned (OpenSpec.ofChange chooseRightWrong)

/- THE SECOND FORM. 'bulk': how many values and letters a reading holds, each counted each time it is reached (what is shared counts as often as it is met; a slice's spare places count too). A statement '..UptoSaid' is the law's where the arguments, and the package variables that the reading takes, are together of bulk at most 1048576: NARROWER than '..Said'. Prove '..Said' where nothing that the law and all that it calls make is longer than what came in: it says more and counts as full. Else prove '..UptoSaid'. A law counts once. -/
mutual
def uptoBulk {H : Type} : DataW H → Nat
  | .lit (.string bytes) => bytes.length + 1
  | .lit _ => 1
  | .nil => 1
  | .ptr d => uptoBulk d + 1
  | .slice elems spare => uptoBulkAll elems + uptoBulkAll spare + 1
  | .agg parts => uptoBulkAll parts + 1
  | .iface _ d => uptoBulk d + 1
  | .map entries => uptoBulkEntries entries + 1
  | .held _ => 1
def uptoBulkAll {H : Type} : List (DataW H) → Nat
  | [] => 0
  | d :: r => uptoBulk d + uptoBulkAll r
def uptoBulkEntries {H : Type} : List (Lit × DataW H) → Nat
  | [] => 0
  | x :: r => uptoBulkEntry x + uptoBulkEntries r
def uptoBulkEntry {H : Type} : Lit × DataW H → Nat
  | (.string bytes, d) => bytes.length + uptoBulk d + 1
  | (_, d) => uptoBulk d + 1
 end
def uptoSmall : (H : Type) → List (DataW H) → Bool := fun _ ds => decide (uptoBulkAll ds ≤ 1048576)
def OpenSpec.upto (s : _root_.Go.ChangeSpec) : _root_.Go.OpenSpec := { _root_.Go.OpenSpec.ofChange s with cond := some uptoSmall }

/-- 'withylaw09.ViewMerges', WHERE WHAT IT READS IS OF BULK AT MOST 1048576: true; the input reads as it did. -/
def viewMergesUptoRow : OpenClaim := { program := "ytnfkphekkpigpaa", sum := "8d8a9d1f795dfe328006310a986b949e547eb94ea9cc088665597277e22cf863", func := "withy/withylaw09.ViewMerges", spec := "viewMerges", unfollowed := true, recurses := true, apart := false, narrowed := true }
def ViewMergesUptoSaid : Prop := viewMergesUptoRow.holds Try.pinned (OpenSpec.upto viewMergesSpec)

/-- 'withylaw09.ViewLinks', WHERE WHAT IT READS IS OF BULK AT MOST 1048576: true; the input reads as it did. -/
def viewLinksUptoRow : OpenClaim := { program := "ytnfkphekkpigpaa", sum := "8d8a9d1f795dfe328006310a986b949e547eb94ea9cc088665597277e22cf863", func := "withy/withylaw09.ViewLinks", spec := "viewLinks", unfollowed := true, recurses := true, apart := false, narrowed := true }
def ViewLinksUptoSaid : Prop := viewLinksUptoRow.holds Try.pinned (OpenSpec.upto viewLinksSpec)

/-- 'withylaw09.ViewOrder', WHERE WHAT IT READS IS OF BULK AT MOST 1048576: true; the input reads as it did. -/
def viewOrderUptoRow : OpenClaim := { program := "ytnfkphekkpigpaa", sum := "8d8a9d1f795dfe328006310a986b949e547eb94ea9cc088665597277e22cf863", func := "withy/withylaw09.ViewOrder", spec := "viewOrder", unfollowed := true, recurses := true, apart := false, narrowed := true }
def ViewOrderUptoSaid : Prop := viewOrderUptoRow.holds Try.pinned (OpenSpec.upto viewOrderSpec)

/-- 'withylaw09.ViewTells', WHERE WHAT IT READS IS OF BULK AT MOST 1048576: true; the input reads as it did. -/
def viewTellsUptoRow : OpenClaim := { program := "ytnfkphekkpigpaa", sum := "8d8a9d1f795dfe328006310a986b949e547eb94ea9cc088665597277e22cf863", func := "withy/withylaw09.ViewTells", spec := "viewTells", unfollowed := true, recurses := true, apart := false, narrowed := true }
def ViewTellsUptoSaid : Prop := viewTellsUptoRow.holds Try.pinned (OpenSpec.upto viewTellsSpec)

/-- 'withylaw13.WordCodes', WHERE WHAT IT READS IS OF BULK AT MOST 1048576: true; the input reads as it did. -/
def wordCodesUptoRow : OpenClaim := { program := "ytnfkphekkpigpaa", sum := "8d8a9d1f795dfe328006310a986b949e547eb94ea9cc088665597277e22cf863", func := "withy/withylaw13.WordCodes", spec := "wordCodes", apart := false, narrowed := true }
def WordCodesUptoSaid : Prop := wordCodesUptoRow.holds Try.pinned (OpenSpec.upto wordCodesSpec)

/-- 'withylaw13.WordDecodes', WHERE WHAT IT READS IS OF BULK AT MOST 1048576: true; the input reads as it did. -/
def wordDecodesUptoRow : OpenClaim := { program := "ytnfkphekkpigpaa", sum := "8d8a9d1f795dfe328006310a986b949e547eb94ea9cc088665597277e22cf863", func := "withy/withylaw13.WordDecodes", spec := "wordDecodes", apart := false, narrowed := true }
def WordDecodesUptoSaid : Prop := wordDecodesUptoRow.holds Try.pinned (OpenSpec.upto wordDecodesSpec)

/-- 'withylaw13.WordSame', WHERE WHAT IT READS IS OF BULK AT MOST 1048576: true; the input reads as it did. -/
def wordSameUptoRow : OpenClaim := { program := "ytnfkphekkpigpaa", sum := "8d8a9d1f795dfe328006310a986b949e547eb94ea9cc088665597277e22cf863", func := "withy/withylaw13.WordSame", spec := "wordSame", apart := false, narrowed := true }
def WordSameUptoSaid : Prop := wordSameUptoRow.holds Try.pinned (OpenSpec.upto wordSameSpec)

/-- 'withylaw13.WordSizes', WHERE WHAT IT READS IS OF BULK AT MOST 1048576: true; the input reads as it did. -/
def wordSizesUptoRow : OpenClaim := { program := "ytnfkphekkpigpaa", sum := "8d8a9d1f795dfe328006310a986b949e547eb94ea9cc088665597277e22cf863", func := "withy/withylaw13.WordSizes", spec := "wordSizes", apart := false, narrowed := true }
def WordSizesUptoSaid : Prop := wordSizesUptoRow.holds Try.pinned (OpenSpec.upto wordSizesSpec)

/-- 'withylaw10.ChooseChecks', WHERE WHAT IT READS IS OF BULK AT MOST 1048576: true; the input reads as it did. -/
def chooseChecksUptoRow : OpenClaim := { program := "ytnfkphekkpigpaa", sum := "8d8a9d1f795dfe328006310a986b949e547eb94ea9cc088665597277e22cf863", func := "withy/withylaw10.ChooseChecks", spec := "chooseChecks", unfollowed := true, recurses := true, apart := false, narrowed := true }
def ChooseChecksUptoSaid : Prop := chooseChecksUptoRow.holds Try.pinned (OpenSpec.upto chooseChecksSpec)

/-- 'withylaw10.ChooseChooses', WHERE WHAT IT READS IS OF BULK AT MOST 1048576: true; the input reads as it did. -/
def chooseChoosesUptoRow : OpenClaim := { program := "ytnfkphekkpigpaa", sum := "8d8a9d1f795dfe328006310a986b949e547eb94ea9cc088665597277e22cf863", func := "withy/withylaw10.ChooseChooses", spec := "chooseChooses", unfollowed := true, recurses := true, apart := false, narrowed := true }
def ChooseChoosesUptoSaid : Prop := chooseChoosesUptoRow.holds Try.pinned (OpenSpec.upto chooseChoosesSpec)

/-- 'withylaw10.ChooseEnds', WHERE WHAT IT READS IS OF BULK AT MOST 1048576: true; the input reads as it did. -/
def chooseEndsUptoRow : OpenClaim := { program := "ytnfkphekkpigpaa", sum := "8d8a9d1f795dfe328006310a986b949e547eb94ea9cc088665597277e22cf863", func := "withy/withylaw10.ChooseEnds", spec := "chooseEnds", unfollowed := true, recurses := true, apart := false, narrowed := true }
def ChooseEndsUptoSaid : Prop := chooseEndsUptoRow.holds Try.pinned (OpenSpec.upto chooseEndsSpec)

/-- 'withylaw10.ChooseRight', WHERE WHAT IT READS IS OF BULK AT MOST 1048576: true; the input reads as it did. -/
def chooseRightUptoRow : OpenClaim := { program := "ytnfkphekkpigpaa", sum := "8d8a9d1f795dfe328006310a986b949e547eb94ea9cc088665597277e22cf863", func := "withy/withylaw10.ChooseRight", spec := "chooseRight", unfollowed := true, recurses := true, apart := false, narrowed := true }
def ChooseRightUptoSaid : Prop := chooseRightUptoRow.holds Try.pinned (OpenSpec.upto chooseRightSpec)

end Rows
end Go.Proofs.Ytnfkphekkpigpaa
