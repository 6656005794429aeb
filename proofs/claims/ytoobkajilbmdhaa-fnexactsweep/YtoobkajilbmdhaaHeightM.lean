/- The model's pools: is a node there; the greater of two. -/
import Derived.Test.YtoobkajilbmdhaaNodeM
namespace Go.Proofs.Ytoobkajilbmdhaa
open Go.RowKit

def thereN (n : Nat) (node : Int) : Bool := inIs node 0 ((n : Int) - 1)
set_option maxHeartbeats 400000 in
theorem mThere_any (A : Option Addr) (n c : Nat) (node : Int) (w : World) (hn : n ≤ 1000000000) :
    Calls Try.prog 31 #[.agg #[.slice A n c], .int .i64 node] w fun e w' => e = .returned (.bool (thereN n node)) ∧ Below w.heap.size w w' := by
  have ew : IntKind.i64.wrap ((n : Int) - 1) = (n : Int) - 1 := IntWalk.i64_in _ (by omega)
  have hI := mIs_any node 0 ((n : Int) - 1)
  go_enter Try.func31, Try.ntmps31
  go_wp2_with fail
  refine (hI _).mono ?_
  rintro e w1 ⟨rfl, rfl⟩
  go_wp2
  go_ret
  exact ⟨rfl, (Below.refl _ _).alloc (Nat.le_refl _) _⟩
end Go.Proofs.Ytoobkajilbmdhaa
