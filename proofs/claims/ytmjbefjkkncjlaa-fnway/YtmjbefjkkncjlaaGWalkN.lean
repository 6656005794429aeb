/- The exact law of GridNew, walked for any program whose function keeps its contract. -/
import Derived.Test.YtmjbefjkkncjlaaGWalk
import Derived.StillTailTactics
namespace Go.Proofs.Ytmjbefjkkncjlaa
open Go.RowKit

/-- Block b holds the fields of a map that was handed back. -/
structure GC (w : World) (b : Nat) (side : Int) (v : Value) (code : Int) : Prop where
  c0 : w.cell? ⟨b, 0, none⟩ = some (.int .i64 side)
  c1 : w.cell? ⟨b, 1, none⟩ = some v
  c2 : w.cell? ⟨b, 2, none⟩ = some (.int .i64 code)
theorem GC.below {w w' : World} {b B : Nat} {side code : Int} {v : Value} (h : GC w b side v code) (hb : Below B w w') (hB : b < B) : GC w' b side v code :=
  ⟨(hb.cell (p := ⟨b, 0, none⟩) hB).trans h.c0, (hb.cell (p := ⟨b, 1, none⟩) hB).trans h.c1, (hb.cell (p := ⟨b, 2, none⟩) hB).trans h.c2⟩
theorem GC.grown {w w' : World} {b : Nat} {side code : Int} {v : Value} {row : Option Nat} (h : GC w b side v code) (hg : w.grownBy w' row) (hb : b < w.heap.size) (hne : row ≠ some b) : GC w' b side v code :=
  ⟨(hg.cell_far ⟨b, 0, none⟩ hb (Ne.symm hne)).trans h.c0, (hg.cell_far ⟨b, 1, none⟩ hb (Ne.symm hne)).trans h.c1, (hg.cell_far ⟨b, 2, none⟩ hb (Ne.symm hne)).trans h.c2⟩
theorem GC.drew {w : World} {b : Nat} {side code : Int} {v : Value} (h : GC w b side v code) : GC w.drew b side v code := ⟨h.c0, h.c1, h.c2⟩
theorem GC.made (w : World) (side code : Int) (v : Value) (t : TypeId) : GC (w.alloc (.cells #[.int .i64 side, v, .int .i64 code] t)) w.heap.size side v code :=
  ⟨by simp [go_sem], by simp [go_sem], by simp [go_sem]⟩

theorem newTiles_le (side tile : Int) : (newTiles side tile).length ≤ 64 := by
  unfold newTiles
  split
  · next h =>
    rw [Bool.and_eq_true] at h
    rcases (sideOk_iff side).1 h.1 with rfl | rfl | rfl | rfl <;> simp
  · simp

end Go.Proofs.Ytmjbefjkkncjlaa
