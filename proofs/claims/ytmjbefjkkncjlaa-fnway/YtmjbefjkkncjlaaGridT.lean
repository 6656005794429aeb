/- The text of a map. -/
import Derived.Test.YtmjbefjkkncjlaaGridA
namespace Go.Proofs.Ytmjbefjkkncjlaa
open Go.RowKit

/-- The bytes of the first k tiles. -/
def textTo (side : Int) (l : List Int) : Nat → List Int
  | 0 => []
  | k + 1 => textTo side l k ++ (48 + l.getD k 0) :: (if (k : Int) % side = side - 1 then [10] else [])
def textOf (side : Int) (l : List Int) : List Int := if gridRight side l then textTo side l l.length else []
theorem textTo_length (side : Int) (l : List Int) (k : Nat) : (textTo side l k).length ≤ 2 * k := by
  induction k with
  | zero => simp [textTo]
  | succ k ih => rw [textTo, List.length_append, List.length_cons]; split <;> simp <;> omega

end Go.Proofs.Ytmjbefjkkncjlaa
