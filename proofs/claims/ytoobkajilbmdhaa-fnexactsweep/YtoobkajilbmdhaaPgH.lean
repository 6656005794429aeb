/- The program's heights. -/
import Derived.Test.YtoobkajilbmdhaaHt
import Derived.Test.YtoobkajilbmdhaaPgQ
namespace Go.Proofs.Ytoobkajilbmdhaa
open Go.RowKit
set_option linter.unusedVariables false

/-- The greatest of the first m heights, each and 1. -/
def upTo (va vb vc vd : Int) : Nat → Int
  | 0 => 0
  | 1 => max 0 (va + 1)
  | 2 => max (max 0 (va + 1)) (vb + 1)
  | 3 => max (max (max 0 (va + 1)) (vb + 1)) (vc + 1)
  | _ => max (max (max (max 0 (va + 1)) (vb + 1)) (vc + 1)) (vd + 1)
theorem right_sp {l : List Nd} (h : poolRight l = true) {k : Nat} (hk : k < l.length) : leafN l[k] = !isSp l[k] := ok_leaf (right_node h hk)

end Go.Proofs.Ytoobkajilbmdhaa
