/- The program's pools: a square is put in by a closure that calls itself. -/
import Derived.Test.YtoobkajilbmdhaaPgS
namespace Go.Proofs.Ytoobkajilbmdhaa
open Go.RowKit
set_option linter.unusedVariables false

set_option maxHeartbeats 400000 in
theorem pSplitOf_any (a b c d : Int) (w : World) :
    Calls Try.prog 64 #[.agg #[.int .i64 a, .int .i64 b, .int .i64 c, .int .i64 d]] w fun e w' => e = .returned (.agg #[.int .i64 (-1), .int .i64 a, .int .i64 b, .int .i64 c, .int .i64 d]) ∧ Below w.heap.size w w' := by
  go_enter Try.func64, Try.ntmps64
  go_wp2
  refine bodyPost_ret (v := .agg #[.int .i64 (-1), .int .i64 a, .int .i64 b, .int .i64 c, .int .i64 d]) (by simp [results, Try.results64, go_sem]) rfl ⟨rfl, ((Below.refl _ _).alloc (Nat.le_refl _) _).alloc (by simp) _⟩

theorem SS.base {base p m : Nat} {v v' : Value} {l : List Nd} {w w' : World} (h : SS base p m v l w) (hp : PG p m v v' w w') : Below base w w' :=
  hp.base (Nat.le_trans h.ps.hb (Nat.le_of_lt h.ps.lt)) h.ps.hb h.hm (fun k hk => (h.ps.own.lt k hk).1)
theorem fits_small {n : Nd} (h0 : -1 ≤ n.tile ∧ n.tile ≤ 1000000) (h1 : 0 ≤ n.a ∧ n.a ≤ 1000000) (h2 : 0 ≤ n.b ∧ n.b ≤ 1000000) (h3 : 0 ≤ n.c ∧ n.c ≤ 1000000) (h4 : 0 ≤ n.d ∧ n.d ≤ 1000000) : n.Fits := by
  simp [Nd.Fits, Lit.wf, IntKind.min, IntKind.max, IntKind.bits, IntKind.signed]
  omega

theorem wrap_sum {q x : Nat} (h : q + x < 64) : wrap64 ((q : Int) + (x : Int)) = ((q + x : Nat) : Int) := by rw [wrap64_in (by omega) (by omega)]; omega
theorem wrap_sum' {q x : Nat} (h : q + x < 64) : IntKind.i64.wrap ((q : Int) + (x : Int)) = ((q + x : Nat) : Int) := by rw [IntWalk.i64_in _ (by omega)]; omega
theorem wrap_mul' {J sn q x : Nat} (h : J * sn = q) (k : q + x < 64) : IntKind.i64.wrap ((J : Int) * (sn : Int)) = (q : Int) := by
  have e : (J : Int) * (sn : Int) = (q : Int) := by rw [← h]; simp
  rw [e]
  exact IntWalk.i64_in _ (by omega)
theorem cast_nn (k : Nat) : (0 : Int) ≤ (k : Int) := by omega
theorem cast_lt {a b : Nat} (h : a < b) : (a : Int) < (b : Int) := by omega
theorem lt_le8 {a b : Nat} (h : a < b) (k : b ≤ 8) : (a : Int) < 8 := by omega
theorem le_of_cnt0 {n : Nat} (h : n + cnt 0 ≤ 100000) : n ≤ 100000 := by simp only [cnt] at h; omega
theorem leaf_fits {t : Int} (h : 0 ≤ t ∧ t ≤ 9) : (leafOfT t).Fits := fits_small (by simp only [leafOfT]; omega) (by simp [leafOfT]) (by simp [leafOfT]) (by simp [leafOfT]) (by simp [leafOfT])
end Go.Proofs.Ytoobkajilbmdhaa
