/- The model's pools: how often a side was doubled; the tile of a node at a place. -/
import Derived.Test.YtoobkajilbmdhaaDoorTl
import Derived.Test.YtoobkajilbmdhaaDoorSqM
import Derived.Test.YtoobkajilbmdhaaDoorHtM
namespace Go.Proofs.YtoobkajilbmdhaaDoor
open Go.RowKit
set_option linter.unusedVariables false

def DblRel (d : Nat) (n s : Value) : Prop := ∃ k : Nat, k ≤ d ∧ n = .int .i64 k ∧ s = .int .i64 ((2 ^ (d - k) : Nat) : Int)
set_option maxHeartbeats 1000000 in
theorem mDoublings_any (d : Nat) (hd : d ≤ 3) (w : World) :
    Calls Tryd.prog 97 #[.int .i64 ((2 ^ d : Nat) : Int)] w fun e w' => e = .returned (.int .i64 d) ∧ w = w' := by
  go_enter Tryd.func97, Tryd.ntmps97
  go_wp2
  go_loop [3, 0] (fun n s => DblRel d n s) (fun n _ => d - (intOf n).toNat)
  case atStart => exact ⟨0, Nat.zero_le _, rfl, rfl⟩
  case round =>
    obtain ⟨k, hk, rfl, rfl⟩ := hrel
    have hk3 : (k : Int) ≤ 3 := by omega
    by_cases e : k = d
    · have e2 : ((2 ^ (d - k) : Nat) : Int) = 1 := by rw [e, Nat.sub_self]; rfl
      have HE := Lib.hid e
      rw [e2]
      clear e e2
      go_wp2
      go_ret
      exact ⟨ret_int (by rw [HE.out]), rfl⟩
    · obtain ⟨j, hj⟩ : ∃ j, d - k = j + 1 := ⟨d - k - 1, by omega⟩
      have e2 : (2 ^ (d - k) : Nat) = 2 * 2 ^ j := by rw [hj, Nat.pow_succ, Nat.mul_comm]
      have e3 : d - (k + 1) = j := by omega
      have hp : 1 ≤ 2 ^ j := Nat.one_le_two_pow
      have hp4 : 2 ^ j ≤ 2 ^ 2 := Nat.pow_le_pow_right (by omega) (by omega)
      rw [e2]
      have HE3 := Lib.hid e3
      have HKE := Lib.hid e
      generalize hz : 2 ^ j = z at *
      have HZ := Lib.hid hz
      have hdv := tdiv2 z
      have hz4 : z ≤ 4 := hp4
      have HWZ : Hid (wrap64 (z : Int) = (z : Int)) := wrap64_in (by omega) (by omega)
      have h1 : (1 : Int) < ((2 * z : Nat) : Int) := by omega
      generalize hzz : ((2 * z : Nat) : Int) = zz at *
      clear hz e2 e3 hj e hzz hp hp4 hz4
      go_wp2
      go_round
      case rel => exact ⟨k + 1, by have := HKE.out; omega, by go_num, by rw [HE3.out, HZ.out]; first | rfl | rw [HWZ.out]⟩
      case measure => have := HKE.out; simp [intOf]; omega
end Go.Proofs.YtoobkajilbmdhaaDoor
