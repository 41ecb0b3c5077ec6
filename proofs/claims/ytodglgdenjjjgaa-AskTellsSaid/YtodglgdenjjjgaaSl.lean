/-
  Nothing is laid here: this seat sorts nothing. No condition.
-/
import Derived.Shelf.SlSortCmp.WholeK
namespace Go.Proofs.Ytodglgdenjjjgaa.Sl
end Go.Proofs.Ytodglgdenjjjgaa.Sl
