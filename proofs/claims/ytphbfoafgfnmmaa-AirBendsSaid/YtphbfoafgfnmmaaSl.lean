/-
  The library's sort is not called here: nothing. No condition.
-/
import Derived.Shelf.SlSortCmp.WholeK
namespace Go.Proofs.Ytphbfoafgfnmmaa.Sl
end Go.Proofs.Ytphbfoafgfnmmaa.Sl
