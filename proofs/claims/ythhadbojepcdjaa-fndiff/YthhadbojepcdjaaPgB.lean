/- The program's maps: a tile. -/
import Derived.Test.YthhadbojepcdjaaPgA
namespace Go.Proofs.Ythhadbojepcdjaa
open Go.RowKit

theorem spanIn_one (side x y : Int) : gridIn side x y = (spanIn side x 1 && spanIn side y 1) := by
  have : ∀ z : Int, inIs z 0 (side - 1) = spanIn side z 1 := by
    intro z; unfold inIs spanIn; apply decide_eq_decide.2; omega
  rw [gridIn, this, this]

set_option maxHeartbeats 400000 in
theorem pPlace_any (side x y : Int) (w : World) (hs : sideOk side = true) (hx : In64 x) (hy : In64 y) :
    Calls Try.prog 45 #[.int .i64 side, .int .i64 x, .int .i64 y] w fun e w' => e = .returned (.bool (gridIn side x y)) ∧ w = w' := by
  have hpx := fun w => pSpan_any side x 1 w hs hx
  have hpy := fun w => pSpan_any side y 1 w hs hy
  rw [spanIn_one]
  clear hx hy hs
  cases hix : spanIn side x 1
  · rw [hix] at hpx
    clear hix
    go_enter Try.func45, Try.ntmps45
    go_wp2_with fail
    refine (hpx _).mono ?_
    rintro e w2 ⟨rfl, rfl⟩
    go_wp2
    go_ret
    exact ⟨ret_bool (by simp), rfl⟩
  · rw [hix] at hpx
    clear hix
    go_enter Try.func45, Try.ntmps45
    go_wp2_with fail
    refine (hpx _).mono ?_
    rintro e w2 ⟨rfl, rfl⟩
    go_wp2_with fail
    refine (hpy _).mono ?_
    rintro e w2 ⟨rfl, rfl⟩
    go_wp2
    go_ret
    exact ⟨ret_bool (by simp), rfl⟩

end Go.Proofs.Ythhadbojepcdjaa
