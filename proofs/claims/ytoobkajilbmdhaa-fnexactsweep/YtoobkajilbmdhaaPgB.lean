/- The program's maps: a tile. -/
import Derived.Test.YtoobkajilbmdhaaPgA
namespace Go.Proofs.Ytoobkajilbmdhaa
open Go.RowKit

theorem spanIn_one (side x y : Int) : gridIn side x y = (spanIn side x 1 && spanIn side y 1) := by
  have : ∀ z : Int, inIs z 0 (side - 1) = spanIn side z 1 := by
    intro z; unfold inIs spanIn; apply decide_eq_decide.2; omega
  rw [gridIn, this, this]

end Go.Proofs.Ytoobkajilbmdhaa
