/- The exact law of GridRead, walked for any program whose function keeps its contract. -/
import Derived.Test.YtcadjfnfjakbeaaGWalkN
import Derived.StillTailTactics
namespace Go.Proofs.Ytcadjfnfjakbeaa
open Go.RowKit

def GridReadDoes : Prop := ∀ (s : ByteArray) (w : World), s.size ≤ 1048576 → Calls Try.prog 15 #[.string s] w fun e w' => GOut w w' (readSide s) (readTiles s) (readCode s) e
theorem readTiles_le (s : ByteArray) : (readTiles s).length ≤ 8000 := by
  unfold readTiles
  split
  · next h => exact Nat.le_trans (rdTiles_le _ _) h.1
  · simp

end Go.Proofs.Ytcadjfnfjakbeaa
