
/-
  The library's sort of edges,as a contract of the reckoner's: the row holds a permutation of what it held,sorted. No condition.
-/
import Derived.Test.YtelhldgdnlppfaaGreatVgW22
import Derived.Test.YtelhldgdnlppfaaGreatVgW22
import Derived.Test.YtelhldgdnlppfaaGreatVgW14
namespace Go.Proofs.YtelhldgdnlppfaaGreat.So
open Go Go.Shelf Go.RowKit Go.Lib Go.Sort Ry EcX Cmp
def cfE (x y:E):Int:=hG (ri x 0) (ri x 1) (ri x 2) (ri y 0) (ri y 1) (ri y 2)
def Zn (l:List E):List E:=(pdq (ltOf cfE) l.toArray 0 l.toArray.size (Lib.bitLen l.toArray.size) true true).toList
structure Os where
 mv:List E→List E
 ok:List E→Bool
end Go.Proofs.YtelhldgdnlppfaaGreat.So
