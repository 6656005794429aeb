/- The exact laws of PoolRight, Height and Weight, walked for any program whose function keeps its contract. -/
import Derived.Test.YtoobkajilbmdhaaGWalk
import Derived.Test.YtoobkajilbmdhaaNodeO
import Derived.Test.YtoobkajilbmdhaaNodeW
import Derived.Test.YtoobkajilbmdhaaPoolM
namespace Go.Proofs.Ytoobkajilbmdhaa
open Go.RowKit
set_option linter.unusedVariables false

/-- One value in its box. -/
structure B1 (w : World) (b : Nat) (v : Value) : Prop where
  c0 : w.cell? ⟨b, 0, none⟩ = some v
theorem B1.made (w : World) (v : Value) (t : TypeId) : B1 (w.alloc (.cells #[v] t)) w.heap.size v := ⟨by simp [go_sem]⟩
theorem B1.below {w w' : World} {b : Nat} {v : Value} (h : B1 w b v) (hb : Below w.heap.size w w') (hz : b < w.heap.size) : B1 w' b v := ⟨(hb.cell (p := ⟨b, 0, none⟩) hz).trans h.c0⟩
theorem B1.drew {w : World} {b : Nat} {v : Value} (h : B1 w b v) : B1 w.drew b v := ⟨h.c0⟩
/-- What a pool that came in is. -/
def InPool (w : World) (a : Option Addr) (l : List Nd) : Prop := RN w w.heap.size a l ∧ l.length ≤ maxLen ∧ ∀ n ∈ l, n.Fits
/-- The nodes that are handed in: they can be read, they fit. -/
def PoolIn (A : Option Addr) (c : Nat) (l : List Nd) (w : World) : Prop := RN w w.heap.size A l ∧ l.length ≤ 1048576 ∧ l.length ≤ c ∧ ∀ n ∈ l, n.Fits

/-- The contract of PoolRight, of the program and of the model. -/
def PoolRightDoes (fn : Nat) : Prop := ∀ (A : Option Addr) (c : Nat) (l : List Nd) (w : World), PoolIn A c l w → Calls Try.prog fn #[.agg #[.slice A l.length c]] w fun e w' => e = .returned (.bool (poolRight l)) ∧ Below w.heap.size w w'

end Go.Proofs.Ytoobkajilbmdhaa
