/- Lists of changes that are alike, as the laws on promises compare them. -/
import Derived.Test.YthhadbojepcdjaaChL
namespace Go.Proofs.Ythhadbojepcdjaa
open Go.RowKit
set_option linter.unusedVariables false

set_option maxRecDepth 100000 in
set_option maxHeartbeats 400000 in
theorem lwChanges_any (A A' : Option Addr) (c c' : Nat) (l : List Ch) (w : World) (h : RCh w w.heap.size A l) (h' : RCh w w.heap.size A' l) (hl : l.length ≤ 1000000000) :
    Calls Try.prog 10 #[.slice A l.length c, .slice A' l.length c'] w fun e w' => e = .returned (.bool true) ∧ Below w.heap.size w w' := by
  have H := Lib.hid h
  have H' := Lib.hid h'
  clear h h'
  go_enter Try.func10, Try.ntmps10
  go_wp2
  go_loopw [5] (fun i wr => ∃ k : Nat, i = .int .i64 k ∧ k ≤ l.length ∧ Below w.heap.size w wr) (fun i _ => l.length - (intOf i).toNat)
  case atStart => exact ⟨0, rfl, Nat.zero_le _, Below.refl _ _⟩
  case round =>
    obtain ⟨k, rfl, hk, hs⟩ := hrel
    by_cases hlt : k < l.length
    · obtain ⟨b, off, rfl, _, hc⟩ := (H.out.below hs).at_ hlt
      obtain ⟨b', off', rfl, _, hc'⟩ := (H'.out.below hs).at_ hlt
      have HB := Lib.hid hs
      generalize hnk : l[k] = n at hc hc'
      clear hnk hs
      obtain ⟨nx, ny, no, nn⟩ := n
      obtain ⟨d0, d1, d2, d3⟩ := hc
      obtain ⟨e0, e1, e2, e3⟩ := hc'
      simp only at d0 d1 d2 d3 e0 e1 e2 e3
      go_wp2_with fail
      go_region
      go_wp2
      go_roundw
      case rel => exact ⟨k + 1, by go_num, by omega, HB.out.drew⟩
      case measure => simp [intOf]; omega
    · go_wp2
      go_ret
      exact ⟨rfl, hs⟩
end Go.Proofs.Ythhadbojepcdjaa
