/-
  No cell of these rows narrows 'for every input' (looked for: loops, veiled, ifaces, maps, wideKeys, modest, calm, conditions, laid).
  DERIVED. THE GIVEN ROWS OF THIS SEAT. 11 by the template 'for every input the law returns true; each argument reads behind the call as it read before'; 0 by the template 'total and deterministic' (their statements: YtgemoemkgcmcgaaTotals.lean).
  GIVEN WITH THE SEED: the statements are not yours to turn. If you find one false, say at which input.
  Laid BY PROGRAM, IN A SANDBOX (cutbox-rows.mjs): the forced cells as the released guide's own fill.sh prints them over the translation 9ece17a8237585aa… (all of the seat's roots in one cut). By AI agents, Wed Nov 11 2026. No macro, syntax, notation, axiom, sorry.
-/
import Derived.Test.YtgemoemkgcmcgaaChecked
import GoSem.Claim
import GoSem.ClaimJoined
import GoSem.ClaimMapViews
import Derived.JoinedTies
import Derived.KernelRfl
namespace Go.Proofs.Ytgemoemkgcmcgaa
/- THE CELL 'sum', in the pinned program and in every row, IS THE sha256 OF THE DUMP (.gsa) THAT YtgemoemkgcmcgaaProg.lean LOADS. Nothing in Lean hashes anything: it is a label: what it is worth is what the hold of that sum in a sandbox is worth. -/
noncomputable def Try.pinned : Pinned := { name := "ytgemoemkgcmcgaa", sum := "9ece17a8237585aab40154460416cb4fb7f114ed3207a237872d9a21856152f4", checked := Try.checked }
namespace Rows
def none {H : Type} : Left H := { results := [], args := [] }

/-- 'withylaw17.LineCarries': WHATEVER THE INPUT: true; the input reads as it did. -/
def lineCarriesSpec : ChangeSpec := { name := "lineCarries", fn := fun _ => fun
  | [d1, d2] => { results := [.lit (.bool true)], args := [d1, d2] }
  | _ => none }
def lineCarriesRow : OpenClaim := { program := "ytgemoemkgcmcgaa", sum := "9ece17a8237585aab40154460416cb4fb7f114ed3207a237872d9a21856152f4", func := "withy/withylaw17.LineCarries", spec := "lineCarries", unfollowed := true, recurses := true, apart := false }
def LineCarriesSaid : Prop := lineCarriesRow.holds Try.pinned (OpenSpec.ofChange lineCarriesSpec)

/-- ITS FALSE NEIGHBOUR: 'it returns false'. Refute it at one input. -/
def lineCarriesWrong : ChangeSpec := { name := "lineCarries", fn := fun _ => fun
  | [d1, d2] => { results := [.lit (.bool false)], args := [d1, d2] }
  | _ => none }
def LineCarriesWrongFalsely : Prop := lineCarriesRow.holds Try.pinned (OpenSpec.ofChange lineCarriesWrong)

/-- 'withylaw19.LinkOpens': WHATEVER THE INPUT: true; the input reads as it did. -/
def linkOpensSpec : ChangeSpec := { name := "linkOpens", fn := fun _ => fun
  | [d1, d2, d3] => { results := [.lit (.bool true)], args := [d1, d2, d3] }
  | _ => none }
def linkOpensRow : OpenClaim := { program := "ytgemoemkgcmcgaa", sum := "9ece17a8237585aab40154460416cb4fb7f114ed3207a237872d9a21856152f4", func := "withy/withylaw19.LinkOpens", spec := "linkOpens", unfollowed := true, recurses := true, apart := false }
def LinkOpensSaid : Prop := linkOpensRow.holds Try.pinned (OpenSpec.ofChange linkOpensSpec)

/-- ITS FALSE NEIGHBOUR: 'it returns false'. Refute it at one input. -/
def linkOpensWrong : ChangeSpec := { name := "linkOpens", fn := fun _ => fun
  | [d1, d2, d3] => { results := [.lit (.bool false)], args := [d1, d2, d3] }
  | _ => none }
def LinkOpensWrongFalsely : Prop := linkOpensRow.holds Try.pinned (OpenSpec.ofChange linkOpensWrong)

/-- 'withylaw15.TakeCarries': WHATEVER THE INPUT: true; the input reads as it did. -/
def takeCarriesSpec : ChangeSpec := { name := "takeCarries", fn := fun _ => fun
  | [d1, d2] => { results := [.lit (.bool true)], args := [d1, d2] }
  | _ => none }
def takeCarriesRow : OpenClaim := { program := "ytgemoemkgcmcgaa", sum := "9ece17a8237585aab40154460416cb4fb7f114ed3207a237872d9a21856152f4", func := "withy/withylaw15.TakeCarries", spec := "takeCarries", unfollowed := true, recurses := true, apart := false }
def TakeCarriesSaid : Prop := takeCarriesRow.holds Try.pinned (OpenSpec.ofChange takeCarriesSpec)

/-- ITS FALSE NEIGHBOUR: 'it returns false'. Refute it at one input. -/
def takeCarriesWrong : ChangeSpec := { name := "takeCarries", fn := fun _ => fun
  | [d1, d2] => { results := [.lit (.bool false)], args := [d1, d2] }
  | _ => none }
def TakeCarriesWrongFalsely : Prop := takeCarriesRow.holds Try.pinned (OpenSpec.ofChange takeCarriesWrong)

/-- 'withylaw16.HandMeets': WHATEVER THE INPUT: true; the input reads as it did. -/
def handMeetsSpec : ChangeSpec := { name := "handMeets", fn := fun _ => fun
  | [d1, d2] => { results := [.lit (.bool true)], args := [d1, d2] }
  | _ => none }
def handMeetsRow : OpenClaim := { program := "ytgemoemkgcmcgaa", sum := "9ece17a8237585aab40154460416cb4fb7f114ed3207a237872d9a21856152f4", func := "withy/withylaw16.HandMeets", spec := "handMeets", apart := false }
def HandMeetsSaid : Prop := handMeetsRow.holds Try.pinned (OpenSpec.ofChange handMeetsSpec)

/-- ITS FALSE NEIGHBOUR: 'it returns false'. Refute it at one input. -/
def handMeetsWrong : ChangeSpec := { name := "handMeets", fn := fun _ => fun
  | [d1, d2] => { results := [.lit (.bool false)], args := [d1, d2] }
  | _ => none }
def HandMeetsWrongFalsely : Prop := handMeetsRow.holds Try.pinned (OpenSpec.ofChange handMeetsWrong)

/-- 'withylaw16.HandAgrees': WHATEVER THE INPUT: true; the input reads as it did. -/
def handAgreesSpec : ChangeSpec := { name := "handAgrees", fn := fun _ => fun
  | [d1, d2] => { results := [.lit (.bool true)], args := [d1, d2] }
  | _ => none }
def handAgreesRow : OpenClaim := { program := "ytgemoemkgcmcgaa", sum := "9ece17a8237585aab40154460416cb4fb7f114ed3207a237872d9a21856152f4", func := "withy/withylaw16.HandAgrees", spec := "handAgrees", apart := false }
def HandAgreesSaid : Prop := handAgreesRow.holds Try.pinned (OpenSpec.ofChange handAgreesSpec)

/-- ITS FALSE NEIGHBOUR: 'it returns false'. Refute it at one input. -/
def handAgreesWrong : ChangeSpec := { name := "handAgrees", fn := fun _ => fun
  | [d1, d2] => { results := [.lit (.bool false)], args := [d1, d2] }
  | _ => none }
def HandAgreesWrongFalsely : Prop := handAgreesRow.holds Try.pinned (OpenSpec.ofChange handAgreesWrong)

/-- 'withylaw21.VowTogether': WHATEVER THE INPUT: true; the input reads as it did. -/
def vowTogetherSpec : ChangeSpec := { name := "vowTogether", fn := fun _ => fun
  | [d1, d2] => { results := [.lit (.bool true)], args := [d1, d2] }
  | _ => none }
def vowTogetherRow : OpenClaim := { program := "ytgemoemkgcmcgaa", sum := "9ece17a8237585aab40154460416cb4fb7f114ed3207a237872d9a21856152f4", func := "withy/withylaw21.VowTogether", spec := "vowTogether", apart := false }
def VowTogetherSaid : Prop := vowTogetherRow.holds Try.pinned (OpenSpec.ofChange vowTogetherSpec)

/-- ITS FALSE NEIGHBOUR: 'it returns false'. Refute it at one input. -/
def vowTogetherWrong : ChangeSpec := { name := "vowTogether", fn := fun _ => fun
  | [d1, d2] => { results := [.lit (.bool false)], args := [d1, d2] }
  | _ => none }
def VowTogetherWrongFalsely : Prop := vowTogetherRow.holds Try.pinned (OpenSpec.ofChange vowTogetherWrong)

/-- 'withylaw20.AirDoes': WHATEVER THE INPUT: true; the input reads as it did. -/
def airDoesSpec : ChangeSpec := { name := "airDoes", fn := fun _ => fun
  | [d1, d2] => { results := [.lit (.bool true)], args := [d1, d2] }
  | _ => none }
def airDoesRow : OpenClaim := { program := "ytgemoemkgcmcgaa", sum := "9ece17a8237585aab40154460416cb4fb7f114ed3207a237872d9a21856152f4", func := "withy/withylaw20.AirDoes", spec := "airDoes", inPlace := ["slices.overlaps[withy/api.Edge]"], unfollowed := true, recurses := true, apart := false }
def AirDoesSaid : Prop := airDoesRow.holds Try.pinned (OpenSpec.ofChange airDoesSpec)

/-- ITS FALSE NEIGHBOUR: 'it returns false'. Refute it at one input. -/
def airDoesWrong : ChangeSpec := { name := "airDoes", fn := fun _ => fun
  | [d1, d2] => { results := [.lit (.bool false)], args := [d1, d2] }
  | _ => none }
def AirDoesWrongFalsely : Prop := airDoesRow.holds Try.pinned (OpenSpec.ofChange airDoesWrong)

/-- 'withylaw20.AirPuts': WHATEVER THE INPUT: true; the input reads as it did. -/
def airPutsSpec : ChangeSpec := { name := "airPuts", fn := fun _ => fun
  | [d1, d2] => { results := [.lit (.bool true)], args := [d1, d2] }
  | _ => none }
def airPutsRow : OpenClaim := { program := "ytgemoemkgcmcgaa", sum := "9ece17a8237585aab40154460416cb4fb7f114ed3207a237872d9a21856152f4", func := "withy/withylaw20.AirPuts", spec := "airPuts", inPlace := ["slices.overlaps[withy/api.Edge]"], unfollowed := true, recurses := true, apart := false }
def AirPutsSaid : Prop := airPutsRow.holds Try.pinned (OpenSpec.ofChange airPutsSpec)

/-- ITS FALSE NEIGHBOUR: 'it returns false'. Refute it at one input. -/
def airPutsWrong : ChangeSpec := { name := "airPuts", fn := fun _ => fun
  | [d1, d2] => { results := [.lit (.bool false)], args := [d1, d2] }
  | _ => none }
def AirPutsWrongFalsely : Prop := airPutsRow.holds Try.pinned (OpenSpec.ofChange airPutsWrong)

/-- 'withylaw20.AirTrue': WHATEVER THE INPUT: true; the input reads as it did. -/
def airTrueSpec : ChangeSpec := { name := "airTrue", fn := fun _ => fun
  | [d1, d2, d3] => { results := [.lit (.bool true)], args := [d1, d2, d3] }
  | _ => none }
def airTrueRow : OpenClaim := { program := "ytgemoemkgcmcgaa", sum := "9ece17a8237585aab40154460416cb4fb7f114ed3207a237872d9a21856152f4", func := "withy/withylaw20.AirTrue", spec := "airTrue", inPlace := ["slices.overlaps[withy/api.Edge]"], unfollowed := true, recurses := true, apart := false }
def AirTrueSaid : Prop := airTrueRow.holds Try.pinned (OpenSpec.ofChange airTrueSpec)

/-- ITS FALSE NEIGHBOUR: 'it returns false'. Refute it at one input. -/
def airTrueWrong : ChangeSpec := { name := "airTrue", fn := fun _ => fun
  | [d1, d2, d3] => { results := [.lit (.bool false)], args := [d1, d2, d3] }
  | _ => none }
def AirTrueWrongFalsely : Prop := airTrueRow.holds Try.pinned (OpenSpec.ofChange airTrueWrong)

/-- 'withylaw20.AirFalls': WHATEVER THE INPUT: true; the input reads as it did. -/
def airFallsSpec : ChangeSpec := { name := "airFalls", fn := fun _ => fun
  | [d1, d2] => { results := [.lit (.bool true)], args := [d1, d2] }
  | _ => none }
def airFallsRow : OpenClaim := { program := "ytgemoemkgcmcgaa", sum := "9ece17a8237585aab40154460416cb4fb7f114ed3207a237872d9a21856152f4", func := "withy/withylaw20.AirFalls", spec := "airFalls", inPlace := ["slices.overlaps[withy/api.Edge]"], unfollowed := true, recurses := true, apart := false }
def AirFallsSaid : Prop := airFallsRow.holds Try.pinned (OpenSpec.ofChange airFallsSpec)

/-- ITS FALSE NEIGHBOUR: 'it returns false'. Refute it at one input. -/
def airFallsWrong : ChangeSpec := { name := "airFalls", fn := fun _ => fun
  | [d1, d2] => { results := [.lit (.bool false)], args := [d1, d2] }
  | _ => none }
def AirFallsWrongFalsely : Prop := airFallsRow.holds Try.pinned (OpenSpec.ofChange airFallsWrong)

/-- 'withylaw20.AirBends': WHATEVER THE INPUT: true; the input reads as it did. -/
def airBendsSpec : ChangeSpec := { name := "airBends", fn := fun _ => fun
  | [d1, d2, d3] => { results := [.lit (.bool true)], args := [d1, d2, d3] }
  | _ => none }
def airBendsRow : OpenClaim := { program := "ytgemoemkgcmcgaa", sum := "9ece17a8237585aab40154460416cb4fb7f114ed3207a237872d9a21856152f4", func := "withy/withylaw20.AirBends", spec := "airBends", inPlace := ["slices.overlaps[withy/api.Edge]"], unfollowed := true, recurses := true, apart := false }
def AirBendsSaid : Prop := airBendsRow.holds Try.pinned (OpenSpec.ofChange airBendsSpec)

/-- ITS FALSE NEIGHBOUR: 'it returns false'. Refute it at one input. -/
def airBendsWrong : ChangeSpec := { name := "airBends", fn := fun _ => fun
  | [d1, d2, d3] => { results := [.lit (.bool false)], args := [d1, d2, d3] }
  | _ => none }
def AirBendsWrongFalsely : Prop := airBendsRow.holds Try.pinned (OpenSpec.ofChange airBendsWrong)

/- THE SECOND FORM. 'bulk': how many values and letters a reading holds, each counted each time it is reached (what is shared counts as often as it is met; a slice's spare places count too). A statement '..UptoSaid' is the law's where the arguments, and the package variables that the reading takes, are together of bulk at most 1048576: NARROWER than '..Said'. Prove '..Said' where nothing that the law and all that it calls make is longer than what came in: it says more and counts as full. Else prove '..UptoSaid'. A law counts once. -/
mutual
def uptoBulk {H : Type} : DataW H → Nat
  | .lit (.string bytes) => bytes.length + 1
  | .lit _ => 1
  | .nil => 1
  | .ptr d => uptoBulk d + 1
  | .slice elems spare => uptoBulkAll elems + uptoBulkAll spare + 1
  | .agg parts => uptoBulkAll parts + 1
  | .iface _ d => uptoBulk d + 1
  | .map entries => uptoBulkEntries entries + 1
  | .held _ => 1
def uptoBulkAll {H : Type} : List (DataW H) → Nat
  | [] => 0
  | d :: r => uptoBulk d + uptoBulkAll r
def uptoBulkEntries {H : Type} : List (Lit × DataW H) → Nat
  | [] => 0
  | x :: r => uptoBulkEntry x + uptoBulkEntries r
def uptoBulkEntry {H : Type} : Lit × DataW H → Nat
  | (.string bytes, d) => bytes.length + uptoBulk d + 1
  | (_, d) => uptoBulk d + 1
 end
def uptoSmall : (H : Type) → List (DataW H) → Bool := fun _ ds => decide (uptoBulkAll ds ≤ 1048576)
def OpenSpec.upto (s : _root_.Go.ChangeSpec) : _root_.Go.OpenSpec := { _root_.Go.OpenSpec.ofChange s with cond := some uptoSmall }

/-- 'withylaw17.LineCarries', WHERE WHAT IT READS IS OF BULK AT MOST 1048576: true; the input reads as it did. -/
def lineCarriesUptoRow : OpenClaim := { program := "ytgemoemkgcmcgaa", sum := "9ece17a8237585aab40154460416cb4fb7f114ed3207a237872d9a21856152f4", func := "withy/withylaw17.LineCarries", spec := "lineCarries", unfollowed := true, recurses := true, apart := false, narrowed := true }
def LineCarriesUptoSaid : Prop := lineCarriesUptoRow.holds Try.pinned (OpenSpec.upto lineCarriesSpec)

/-- 'withylaw19.LinkOpens', WHERE WHAT IT READS IS OF BULK AT MOST 1048576: true; the input reads as it did. -/
def linkOpensUptoRow : OpenClaim := { program := "ytgemoemkgcmcgaa", sum := "9ece17a8237585aab40154460416cb4fb7f114ed3207a237872d9a21856152f4", func := "withy/withylaw19.LinkOpens", spec := "linkOpens", unfollowed := true, recurses := true, apart := false, narrowed := true }
def LinkOpensUptoSaid : Prop := linkOpensUptoRow.holds Try.pinned (OpenSpec.upto linkOpensSpec)

/-- 'withylaw15.TakeCarries', WHERE WHAT IT READS IS OF BULK AT MOST 1048576: true; the input reads as it did. -/
def takeCarriesUptoRow : OpenClaim := { program := "ytgemoemkgcmcgaa", sum := "9ece17a8237585aab40154460416cb4fb7f114ed3207a237872d9a21856152f4", func := "withy/withylaw15.TakeCarries", spec := "takeCarries", unfollowed := true, recurses := true, apart := false, narrowed := true }
def TakeCarriesUptoSaid : Prop := takeCarriesUptoRow.holds Try.pinned (OpenSpec.upto takeCarriesSpec)

/-- 'withylaw16.HandMeets', WHERE WHAT IT READS IS OF BULK AT MOST 1048576: true; the input reads as it did. -/
def handMeetsUptoRow : OpenClaim := { program := "ytgemoemkgcmcgaa", sum := "9ece17a8237585aab40154460416cb4fb7f114ed3207a237872d9a21856152f4", func := "withy/withylaw16.HandMeets", spec := "handMeets", apart := false, narrowed := true }
def HandMeetsUptoSaid : Prop := handMeetsUptoRow.holds Try.pinned (OpenSpec.upto handMeetsSpec)

/-- 'withylaw16.HandAgrees', WHERE WHAT IT READS IS OF BULK AT MOST 1048576: true; the input reads as it did. -/
def handAgreesUptoRow : OpenClaim := { program := "ytgemoemkgcmcgaa", sum := "9ece17a8237585aab40154460416cb4fb7f114ed3207a237872d9a21856152f4", func := "withy/withylaw16.HandAgrees", spec := "handAgrees", apart := false, narrowed := true }
def HandAgreesUptoSaid : Prop := handAgreesUptoRow.holds Try.pinned (OpenSpec.upto handAgreesSpec)

/-- 'withylaw21.VowTogether', WHERE WHAT IT READS IS OF BULK AT MOST 1048576: true; the input reads as it did. -/
def vowTogetherUptoRow : OpenClaim := { program := "ytgemoemkgcmcgaa", sum := "9ece17a8237585aab40154460416cb4fb7f114ed3207a237872d9a21856152f4", func := "withy/withylaw21.VowTogether", spec := "vowTogether", apart := false, narrowed := true }
def VowTogetherUptoSaid : Prop := vowTogetherUptoRow.holds Try.pinned (OpenSpec.upto vowTogetherSpec)

/-- 'withylaw20.AirDoes', WHERE WHAT IT READS IS OF BULK AT MOST 1048576: true; the input reads as it did. -/
def airDoesUptoRow : OpenClaim := { program := "ytgemoemkgcmcgaa", sum := "9ece17a8237585aab40154460416cb4fb7f114ed3207a237872d9a21856152f4", func := "withy/withylaw20.AirDoes", spec := "airDoes", inPlace := ["slices.overlaps[withy/api.Edge]"], unfollowed := true, recurses := true, apart := false, narrowed := true }
def AirDoesUptoSaid : Prop := airDoesUptoRow.holds Try.pinned (OpenSpec.upto airDoesSpec)

/-- 'withylaw20.AirPuts', WHERE WHAT IT READS IS OF BULK AT MOST 1048576: true; the input reads as it did. -/
def airPutsUptoRow : OpenClaim := { program := "ytgemoemkgcmcgaa", sum := "9ece17a8237585aab40154460416cb4fb7f114ed3207a237872d9a21856152f4", func := "withy/withylaw20.AirPuts", spec := "airPuts", inPlace := ["slices.overlaps[withy/api.Edge]"], unfollowed := true, recurses := true, apart := false, narrowed := true }
def AirPutsUptoSaid : Prop := airPutsUptoRow.holds Try.pinned (OpenSpec.upto airPutsSpec)

/-- 'withylaw20.AirTrue', WHERE WHAT IT READS IS OF BULK AT MOST 1048576: true; the input reads as it did. -/
def airTrueUptoRow : OpenClaim := { program := "ytgemoemkgcmcgaa", sum := "9ece17a8237585aab40154460416cb4fb7f114ed3207a237872d9a21856152f4", func := "withy/withylaw20.AirTrue", spec := "airTrue", inPlace := ["slices.overlaps[withy/api.Edge]"], unfollowed := true, recurses := true, apart := false, narrowed := true }
def AirTrueUptoSaid : Prop := airTrueUptoRow.holds Try.pinned (OpenSpec.upto airTrueSpec)

/-- 'withylaw20.AirFalls', WHERE WHAT IT READS IS OF BULK AT MOST 1048576: true; the input reads as it did. -/
def airFallsUptoRow : OpenClaim := { program := "ytgemoemkgcmcgaa", sum := "9ece17a8237585aab40154460416cb4fb7f114ed3207a237872d9a21856152f4", func := "withy/withylaw20.AirFalls", spec := "airFalls", inPlace := ["slices.overlaps[withy/api.Edge]"], unfollowed := true, recurses := true, apart := false, narrowed := true }
def AirFallsUptoSaid : Prop := airFallsUptoRow.holds Try.pinned (OpenSpec.upto airFallsSpec)

/-- 'withylaw20.AirBends', WHERE WHAT IT READS IS OF BULK AT MOST 1048576: true; the input reads as it did. -/
def airBendsUptoRow : OpenClaim := { program := "ytgemoemkgcmcgaa", sum := "9ece17a8237585aab40154460416cb4fb7f114ed3207a237872d9a21856152f4", func := "withy/withylaw20.AirBends", spec := "airBends", inPlace := ["slices.overlaps[withy/api.Edge]"], unfollowed := true, recurses := true, apart := false, narrowed := true }
def AirBendsUptoSaid : Prop := airBendsUptoRow.holds Try.pinned (OpenSpec.upto airBendsSpec)

end Rows
end Go.Proofs.Ytgemoemkgcmcgaa
