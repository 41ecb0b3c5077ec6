/-
  No cell of these rows narrows 'for every input' (looked for: loops, veiled, ifaces, maps, wideKeys, modest, calm, conditions, laid).
  DERIVED. THE GIVEN ROWS OF THIS SEAT. 5 by the template 'for every input the law returns true; each argument reads behind the call as it read before'; 0 by the template 'total and deterministic' (their statements: YtphbfoafgfnmmaaTotals.lean).
  GIVEN WITH THE SEED: the statements are not yours to turn. If you find one false, say at which input.
  Laid BY PROGRAM, IN A SANDBOX (cutbox-rows.mjs): the forced cells as the released guide's own fill.sh prints them over the translation 832748b5308edb73… (all of the seat's roots in one cut). By AI agents, Wed Nov 11 2026. No macro, syntax, notation, axiom, sorry.
-/
import Derived.Test.YtphbfoafgfnmmaaChecked
import GoSem.Claim
import GoSem.ClaimJoined
import GoSem.ClaimMapViews
import Derived.JoinedTies
import Derived.KernelRfl
namespace Go.Proofs.Ytphbfoafgfnmmaa
/- THE CELL 'sum', in the pinned program and in every row, IS THE sha256 OF THE DUMP (.gsa) THAT YtphbfoafgfnmmaaProg.lean LOADS. Nothing in Lean hashes anything: it is a label: what it is worth is what the hold of that sum in a sandbox is worth. -/
noncomputable def Try.pinned : Pinned := { name := "ytphbfoafgfnmmaa", sum := "832748b5308edb73787b6f5578fa99937e84a5c63a173f16e0f1621e74e8ffa9", checked := Try.checked }
namespace Rows
def none {H : Type} : Left H := { results := [], args := [] }

/-- 'withylaw20.AirDoes': WHATEVER THE INPUT: true; the input reads as it did. -/
def airDoesSpec : ChangeSpec := { name := "airDoes", fn := fun _ => fun
  | [d1, d2] => { results := [.lit (.bool true)], args := [d1, d2] }
  | _ => none }
def airDoesRow : OpenClaim := { program := "ytphbfoafgfnmmaa", sum := "832748b5308edb73787b6f5578fa99937e84a5c63a173f16e0f1621e74e8ffa9", func := "withy/withylaw20.AirDoes", spec := "airDoes", inPlace := ["slices.overlaps[withy/api.Edge]"], unfollowed := true, recurses := true, apart := false }
def AirDoesSaid : Prop := airDoesRow.holds Try.pinned (OpenSpec.ofChange airDoesSpec)

/-- ITS FALSE NEIGHBOUR: 'it returns false'. Refute it at one input. -/
def airDoesWrong : ChangeSpec := { name := "airDoes", fn := fun _ => fun
  | [d1, d2] => { results := [.lit (.bool false)], args := [d1, d2] }
  | _ => none }
def AirDoesWrongFalsely : Prop := airDoesRow.holds Try.pinned (OpenSpec.ofChange airDoesWrong)

/-- 'withylaw20.AirPuts': WHATEVER THE INPUT: true; the input reads as it did. -/
def airPutsSpec : ChangeSpec := { name := "airPuts", fn := fun _ => fun
  | [d1, d2] => { results := [.lit (.bool true)], args := [d1, d2] }
  | _ => none }
def airPutsRow : OpenClaim := { program := "ytphbfoafgfnmmaa", sum := "832748b5308edb73787b6f5578fa99937e84a5c63a173f16e0f1621e74e8ffa9", func := "withy/withylaw20.AirPuts", spec := "airPuts", inPlace := ["slices.overlaps[withy/api.Edge]"], unfollowed := true, recurses := true, apart := false }
def AirPutsSaid : Prop := airPutsRow.holds Try.pinned (OpenSpec.ofChange airPutsSpec)

/-- ITS FALSE NEIGHBOUR: 'it returns false'. Refute it at one input. -/
def airPutsWrong : ChangeSpec := { name := "airPuts", fn := fun _ => fun
  | [d1, d2] => { results := [.lit (.bool false)], args := [d1, d2] }
  | _ => none }
def AirPutsWrongFalsely : Prop := airPutsRow.holds Try.pinned (OpenSpec.ofChange airPutsWrong)

/-- 'withylaw20.AirTrue': WHATEVER THE INPUT: true; the input reads as it did. -/
def airTrueSpec : ChangeSpec := { name := "airTrue", fn := fun _ => fun
  | [d1, d2, d3] => { results := [.lit (.bool true)], args := [d1, d2, d3] }
  | _ => none }
def airTrueRow : OpenClaim := { program := "ytphbfoafgfnmmaa", sum := "832748b5308edb73787b6f5578fa99937e84a5c63a173f16e0f1621e74e8ffa9", func := "withy/withylaw20.AirTrue", spec := "airTrue", inPlace := ["slices.overlaps[withy/api.Edge]"], unfollowed := true, recurses := true, apart := false }
def AirTrueSaid : Prop := airTrueRow.holds Try.pinned (OpenSpec.ofChange airTrueSpec)

/-- ITS FALSE NEIGHBOUR: 'it returns false'. Refute it at one input. -/
def airTrueWrong : ChangeSpec := { name := "airTrue", fn := fun _ => fun
  | [d1, d2, d3] => { results := [.lit (.bool false)], args := [d1, d2, d3] }
  | _ => none }
def AirTrueWrongFalsely : Prop := airTrueRow.holds Try.pinned (OpenSpec.ofChange airTrueWrong)

/-- 'withylaw20.AirFalls': WHATEVER THE INPUT: true; the input reads as it did. -/
def airFallsSpec : ChangeSpec := { name := "airFalls", fn := fun _ => fun
  | [d1, d2] => { results := [.lit (.bool true)], args := [d1, d2] }
  | _ => none }
def airFallsRow : OpenClaim := { program := "ytphbfoafgfnmmaa", sum := "832748b5308edb73787b6f5578fa99937e84a5c63a173f16e0f1621e74e8ffa9", func := "withy/withylaw20.AirFalls", spec := "airFalls", inPlace := ["slices.overlaps[withy/api.Edge]"], unfollowed := true, recurses := true, apart := false }
def AirFallsSaid : Prop := airFallsRow.holds Try.pinned (OpenSpec.ofChange airFallsSpec)

/-- ITS FALSE NEIGHBOUR: 'it returns false'. Refute it at one input. -/
def airFallsWrong : ChangeSpec := { name := "airFalls", fn := fun _ => fun
  | [d1, d2] => { results := [.lit (.bool false)], args := [d1, d2] }
  | _ => none }
def AirFallsWrongFalsely : Prop := airFallsRow.holds Try.pinned (OpenSpec.ofChange airFallsWrong)

/-- 'withylaw20.AirBends': WHATEVER THE INPUT: true; the input reads as it did. -/
def airBendsSpec : ChangeSpec := { name := "airBends", fn := fun _ => fun
  | [d1, d2, d3] => { results := [.lit (.bool true)], args := [d1, d2, d3] }
  | _ => none }
def airBendsRow : OpenClaim := { program := "ytphbfoafgfnmmaa", sum := "832748b5308edb73787b6f5578fa99937e84a5c63a173f16e0f1621e74e8ffa9", func := "withy/withylaw20.AirBends", spec := "airBends", inPlace := ["slices.overlaps[withy/api.Edge]"], unfollowed := true, recurses := true, apart := false }
def AirBendsSaid : Prop := airBendsRow.holds Try.pinned (OpenSpec.ofChange airBendsSpec)

/-- ITS FALSE NEIGHBOUR: 'it returns false'. Refute it at one input. -/
def airBendsWrong : ChangeSpec := { name := "airBends", fn := fun _ => fun
  | [d1, d2, d3] => { results := [.lit (.bool false)], args := [d1, d2, d3] }
  | _ => none }
def AirBendsWrongFalsely : Prop := airBendsRow.holds Try.pinned (OpenSpec.ofChange airBendsWrong)

/- THE SECOND FORM. 'bulk': how many values and letters a reading holds, each counted each time it is reached (what is shared counts as often as it is met; a slice's spare places count too). A statement '..UptoSaid' is the law's where the arguments, and the package variables that the reading takes, are together of bulk at most 1048576: NARROWER than '..Said'. Prove '..Said' where nothing that the law and all that it calls make is longer than what came in: it says more and counts as full. Else prove '..UptoSaid'. A law counts once. -/
mutual
def uptoBulk {H : Type} : DataW H → Nat
  | .lit (.string bytes) => bytes.length + 1
  | .lit _ => 1
  | .nil => 1
  | .ptr d => uptoBulk d + 1
  | .slice elems spare => uptoBulkAll elems + uptoBulkAll spare + 1
  | .agg parts => uptoBulkAll parts + 1
  | .iface _ d => uptoBulk d + 1
  | .map entries => uptoBulkEntries entries + 1
  | .held _ => 1
def uptoBulkAll {H : Type} : List (DataW H) → Nat
  | [] => 0
  | d :: r => uptoBulk d + uptoBulkAll r
def uptoBulkEntries {H : Type} : List (Lit × DataW H) → Nat
  | [] => 0
  | x :: r => uptoBulkEntry x + uptoBulkEntries r
def uptoBulkEntry {H : Type} : Lit × DataW H → Nat
  | (.string bytes, d) => bytes.length + uptoBulk d + 1
  | (_, d) => uptoBulk d + 1
 end
def uptoSmall : (H : Type) → List (DataW H) → Bool := fun _ ds => decide (uptoBulkAll ds ≤ 1048576)
def OpenSpec.upto (s : _root_.Go.ChangeSpec) : _root_.Go.OpenSpec := { _root_.Go.OpenSpec.ofChange s with cond := some uptoSmall }

/-- 'withylaw20.AirDoes', WHERE WHAT IT READS IS OF BULK AT MOST 1048576: true; the input reads as it did. -/
def airDoesUptoRow : OpenClaim := { program := "ytphbfoafgfnmmaa", sum := "832748b5308edb73787b6f5578fa99937e84a5c63a173f16e0f1621e74e8ffa9", func := "withy/withylaw20.AirDoes", spec := "airDoes", inPlace := ["slices.overlaps[withy/api.Edge]"], unfollowed := true, recurses := true, apart := false, narrowed := true }
def AirDoesUptoSaid : Prop := airDoesUptoRow.holds Try.pinned (OpenSpec.upto airDoesSpec)

/-- 'withylaw20.AirPuts', WHERE WHAT IT READS IS OF BULK AT MOST 1048576: true; the input reads as it did. -/
def airPutsUptoRow : OpenClaim := { program := "ytphbfoafgfnmmaa", sum := "832748b5308edb73787b6f5578fa99937e84a5c63a173f16e0f1621e74e8ffa9", func := "withy/withylaw20.AirPuts", spec := "airPuts", inPlace := ["slices.overlaps[withy/api.Edge]"], unfollowed := true, recurses := true, apart := false, narrowed := true }
def AirPutsUptoSaid : Prop := airPutsUptoRow.holds Try.pinned (OpenSpec.upto airPutsSpec)

/-- 'withylaw20.AirTrue', WHERE WHAT IT READS IS OF BULK AT MOST 1048576: true; the input reads as it did. -/
def airTrueUptoRow : OpenClaim := { program := "ytphbfoafgfnmmaa", sum := "832748b5308edb73787b6f5578fa99937e84a5c63a173f16e0f1621e74e8ffa9", func := "withy/withylaw20.AirTrue", spec := "airTrue", inPlace := ["slices.overlaps[withy/api.Edge]"], unfollowed := true, recurses := true, apart := false, narrowed := true }
def AirTrueUptoSaid : Prop := airTrueUptoRow.holds Try.pinned (OpenSpec.upto airTrueSpec)

/-- 'withylaw20.AirFalls', WHERE WHAT IT READS IS OF BULK AT MOST 1048576: true; the input reads as it did. -/
def airFallsUptoRow : OpenClaim := { program := "ytphbfoafgfnmmaa", sum := "832748b5308edb73787b6f5578fa99937e84a5c63a173f16e0f1621e74e8ffa9", func := "withy/withylaw20.AirFalls", spec := "airFalls", inPlace := ["slices.overlaps[withy/api.Edge]"], unfollowed := true, recurses := true, apart := false, narrowed := true }
def AirFallsUptoSaid : Prop := airFallsUptoRow.holds Try.pinned (OpenSpec.upto airFallsSpec)

/-- 'withylaw20.AirBends', WHERE WHAT IT READS IS OF BULK AT MOST 1048576: true; the input reads as it did. -/
def airBendsUptoRow : OpenClaim := { program := "ytphbfoafgfnmmaa", sum := "832748b5308edb73787b6f5578fa99937e84a5c63a173f16e0f1621e74e8ffa9", func := "withy/withylaw20.AirBends", spec := "airBends", inPlace := ["slices.overlaps[withy/api.Edge]"], unfollowed := true, recurses := true, apart := false, narrowed := true }
def AirBendsUptoSaid : Prop := airBendsUptoRow.holds Try.pinned (OpenSpec.upto airBendsSpec)

end Rows
end Go.Proofs.Ytphbfoafgfnmmaa
