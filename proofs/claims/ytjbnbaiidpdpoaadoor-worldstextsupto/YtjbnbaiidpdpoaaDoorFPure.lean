/-
  Names, plain. No condition.
-/
import Derived.Lib.Strings
namespace Go.Proofs.YtjbnbaiidpdpoaaDoor
namespace Fm
def isL (c : UInt8) : Bool := (97 ≤ c && c ≤ 122) || (65 ≤ c && c ≤ 90)
def inN (c : UInt8) : Bool := isL c || (48 ≤ c && c ≤ 57) || c == 95 || c == 39
def takens : List (List UInt8) := [[97, 98, 111, 114, 116], [99, 97, 115, 101], [102, 97, 108, 115, 101], [102, 115, 116], [102, 117, 110], [105, 110], [105, 110, 108], [105, 110, 114], [108, 101, 116], [111, 102], [115, 110, 100], [116, 114, 117, 101]]
def word (l : List UInt8) : Bool := l.length != 0 && decide (l.length ≤ 31) && isL (l.headD 0) && l.tail.all inN && !takens.contains l
end Fm
end Go.Proofs.YtjbnbaiidpdpoaaDoor
