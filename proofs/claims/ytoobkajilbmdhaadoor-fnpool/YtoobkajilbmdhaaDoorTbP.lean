/- The program's pools: how often a side was doubled, by the table of math/bits. -/
import Derived.Test.YtoobkajilbmdhaaDoorTlM
import Derived.Test.YtoobkajilbmdhaaDoorPgB
namespace Go.Proofs.YtoobkajilbmdhaaDoor
open Go.RowKit
set_option linter.unusedVariables false

/-- The table of math/bits lies as its initialiser lays it (the four numbers that sides ask for). -/
structure HasTab (w : World) : Prop where
  t0 : w.cell? ⟨0, 0, none⟩ = some (.int .u8 0)
  t1 : w.cell? ⟨0, 1, none⟩ = some (.int .u8 1)
  t3 : w.cell? ⟨0, 3, none⟩ = some (.int .u8 2)
  t7 : w.cell? ⟨0, 7, none⟩ = some (.int .u8 3)
theorem HasTab.lt {w : World} (h : HasTab w) : 0 < w.heap.size := World.block_lt_of_cell? w ⟨0, 0, none⟩ h.t0
theorem HasTab.below {w w' : World} (h : HasTab w) (hb : Below w.heap.size w w') : HasTab w' :=
  ⟨(hb.cell (p := ⟨0, 0, none⟩) h.lt).trans h.t0, (hb.cell (p := ⟨0, 1, none⟩) h.lt).trans h.t1, (hb.cell (p := ⟨0, 3, none⟩) h.lt).trans h.t3, (hb.cell (p := ⟨0, 7, none⟩) h.lt).trans h.t7⟩

set_option maxHeartbeats 1000000 in
theorem trail_any (d : Nat) (hd : d ≤ 3) (w : World) (h : HasTab w) :
    Calls Tryd.prog 111 #[.int .u64 ((2 ^ d : Nat) : Int)] w fun e w' => e = .returned (.int .i64 d) ∧ w = w' := by
  obtain ⟨t0, t1, t3, t7⟩ := h
  match d, hd with
  | 0, _ =>
    have e1 : IntKind.u64.wrap (-1) = 18446744073709551615 := by decide
    have e2 : bits BinOp.and IntKind.u64 1 18446744073709551615 = 1 := by kernel_rfl
    have e3 : IntKind.u64.wrap 285870213051353865 = 285870213051353865 := by decide
    have e4 : IntKind.u64.wrap (1 * 285870213051353865) = 285870213051353865 := by decide
    show Calls Tryd.prog 111 #[.int .u64 1] w fun e w' => e = .returned (.int .i64 0) ∧ w = w'
    go_enter Tryd.func111, Tryd.ntmps111
    go_wp2
    go_ret
    exact ⟨rfl, rfl⟩
  | 1, _ =>
    have e1 : IntKind.u64.wrap (-2) = 18446744073709551614 := by decide
    have e2 : bits BinOp.and IntKind.u64 2 18446744073709551614 = 2 := by kernel_rfl
    have e3 : IntKind.u64.wrap 571740426102707730 = 571740426102707730 := by decide
    have e4 : IntKind.u64.wrap (2 * 285870213051353865) = 571740426102707730 := by decide
    show Calls Tryd.prog 111 #[.int .u64 2] w fun e w' => e = .returned (.int .i64 1) ∧ w = w'
    go_enter Tryd.func111, Tryd.ntmps111
    go_wp2
    go_ret
    exact ⟨rfl, rfl⟩
  | 2, _ =>
    have e1 : IntKind.u64.wrap (-4) = 18446744073709551612 := by decide
    have e2 : bits BinOp.and IntKind.u64 4 18446744073709551612 = 4 := by kernel_rfl
    have e3 : IntKind.u64.wrap 1143480852205415460 = 1143480852205415460 := by decide
    have e4 : IntKind.u64.wrap (4 * 285870213051353865) = 1143480852205415460 := by decide
    show Calls Tryd.prog 111 #[.int .u64 4] w fun e w' => e = .returned (.int .i64 2) ∧ w = w'
    go_enter Tryd.func111, Tryd.ntmps111
    go_wp2
    go_ret
    exact ⟨rfl, rfl⟩
  | 3, _ =>
    have e1 : IntKind.u64.wrap (-8) = 18446744073709551608 := by decide
    have e2 : bits BinOp.and IntKind.u64 8 18446744073709551608 = 8 := by kernel_rfl
    have e3 : IntKind.u64.wrap 2286961704410830920 = 2286961704410830920 := by decide
    have e4 : IntKind.u64.wrap (8 * 285870213051353865) = 2286961704410830920 := by decide
    show Calls Tryd.prog 111 #[.int .u64 8] w fun e w' => e = .returned (.int .i64 3) ∧ w = w'
    go_enter Tryd.func111, Tryd.ntmps111
    go_wp2
    go_ret
    exact ⟨rfl, rfl⟩

set_option maxHeartbeats 1000000 in
theorem pDoublings_any (d : Nat) (hd : d ≤ 3) (w : World) (h : HasTab w) :
    Calls Tryd.prog 93 #[.int .i64 ((2 ^ d : Nat) : Int)] w fun e w' => e = .returned (.int .i64 d) ∧ w = w' := by
  have hT := trail_any d hd w h
  have hz : 1 ≤ 2 ^ d := Nat.one_le_two_pow
  have hz8 : 2 ^ d ≤ 2 ^ 3 := Nat.pow_le_pow_right (by omega) hd
  clear h hd
  generalize 2 ^ d = z at *
  have hz9 : (z : Int) ≤ 8 := by omega
  go_enter Tryd.func93, Tryd.ntmps93
  go_wp2_with fail
  refine hT.mono ?_
  rintro e w1 ⟨rfl, rfl⟩
  go_wp2
  go_ret
  exact ⟨rfl, rfl⟩
end Go.Proofs.YtoobkajilbmdhaaDoor
