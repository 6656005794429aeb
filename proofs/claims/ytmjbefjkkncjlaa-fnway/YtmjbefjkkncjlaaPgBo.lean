/- The program: are two places inside of a map? -/
import Derived.Test.YtmjbefjkkncjlaaPgB
import Derived.Test.YtmjbefjkkncjlaaWyN
namespace Go.Proofs.Ytmjbefjkkncjlaa
open Go.RowKit
set_option linter.unusedVariables false
set_option linter.unusedSimpArgs false

set_option maxRecDepth 100000 in
set_option maxHeartbeats 1000000 in
theorem pBoth_any (side x y u v : Int) (w : World) (hs : sideOk side = true) (hx : In64 x) (hy : In64 y) (hu : In64 u) (hv : In64 v) :
    Calls Try.prog 26 #[.int .i64 side, .agg #[.int .i64 x, .int .i64 y], .agg #[.int .i64 u, .int .i64 v]] w fun e w' => e = .returned (.bool (gridIn side x y && gridIn side u v)) ∧ Below w.heap.size w w' := by
  have h1 := fun w => pPlace_any side x y w hs hx hy
  have h2 := fun w => pPlace_any side u v w hs hu hv
  have HB : Hid (Below w.heap.size w ((w.alloc (.cells #[.int .i64 x, .int .i64 y] 27)).alloc (.cells #[.int .i64 u, .int .i64 v] 27))) := bel_T (bel_A _ _) (bel_A _ _)
  clear hs hx hy hu hv
  cases hi : gridIn side x y
  · rw [hi] at h1
    clear h2 hi
    go_enter Try.func26, Try.ntmps26
    go_wp2_with fail
    refine (h1 _).mono ?_
    rintro e w1 ⟨rfl, rfl⟩
    go_wp2_with fail
    go_ret
    exact ⟨rfl, HB.out⟩
  · rw [hi] at h1
    rw [Bool.true_and]
    generalize gridIn side u v = bb at *
    clear hi
    go_enter Try.func26, Try.ntmps26
    go_wp2_with fail
    refine (h1 _).mono ?_
    rintro e w1 ⟨rfl, rfl⟩
    go_wp2_with fail
    refine (h2 _).mono ?_
    rintro e w2 ⟨rfl, rfl⟩
    go_wp2_with fail
    go_ret
    exact ⟨rfl, HB.out⟩
end Go.Proofs.Ytmjbefjkkncjlaa
