/- The model's pools: is a node there; the greater of two. -/
import Derived.Test.YtphkceiafehidaaNodeM
namespace Go.Proofs.Ytphkceiafehidaa
open Go.RowKit

def thereN (n : Nat) (node : Int) : Bool := inIs node 0 ((n : Int) - 1)
set_option maxHeartbeats 400000 in
theorem mMax_any (a b : Int) (w : World) :
    Calls Try.prog 55 #[.int .i64 a, .int .i64 b] w fun e w' => e = .returned (.int .i64 (max a b)) ∧ w = w' := by
  by_cases h : a > b
  · go_enter Try.func55, Try.ntmps55
    go_wp2
    go_ret
    exact ⟨ret_int (by omega), rfl⟩
  · go_enter Try.func55, Try.ntmps55
    go_wp2
    go_ret
    exact ⟨ret_int (by omega), rfl⟩
end Go.Proofs.Ytphkceiafehidaa
