/- A node in a box; a pool swept one node further. -/
import Derived.Test.YtoobkajilbmdhaaSwL
import Derived.Below
namespace Go.Proofs.Ytoobkajilbmdhaa
open Go.RowKit
set_option linter.unusedVariables false
set_option linter.unusedSimpArgs false

/-- Block b holds a node's fields. -/
structure N9 (w : World) (b : Nat) (n : Nd) : Prop where
  c0 : w.cell? ⟨b, 0, none⟩ = some (.int .i64 n.tile)
  c1 : w.cell? ⟨b, 1, none⟩ = some (.int .i64 n.a)
  c2 : w.cell? ⟨b, 2, none⟩ = some (.int .i64 n.b)
  c3 : w.cell? ⟨b, 3, none⟩ = some (.int .i64 n.c)
  c4 : w.cell? ⟨b, 4, none⟩ = some (.int .i64 n.d)
  f0 : w.frozen? ⟨b, 0, none⟩ = false
  f1 : w.frozen? ⟨b, 1, none⟩ = false
  f2 : w.frozen? ⟨b, 2, none⟩ = false
  f3 : w.frozen? ⟨b, 3, none⟩ = false
  f4 : w.frozen? ⟨b, 4, none⟩ = false
theorem N9.below {w w' : World} {b B : Nat} {n : Nd} (h : N9 w b n) (hb : Below B w w') (hB : b < B) : N9 w' b n :=
  ⟨(hb.cell (p := ⟨b, 0, none⟩) hB).trans h.c0, (hb.cell (p := ⟨b, 1, none⟩) hB).trans h.c1, (hb.cell (p := ⟨b, 2, none⟩) hB).trans h.c2, (hb.cell (p := ⟨b, 3, none⟩) hB).trans h.c3, (hb.cell (p := ⟨b, 4, none⟩) hB).trans h.c4,
    (hb.frozen (p := ⟨b, 0, none⟩) hB).trans h.f0, (hb.frozen (p := ⟨b, 1, none⟩) hB).trans h.f1, (hb.frozen (p := ⟨b, 2, none⟩) hB).trans h.f2, (hb.frozen (p := ⟨b, 3, none⟩) hB).trans h.f3, (hb.frozen (p := ⟨b, 4, none⟩) hB).trans h.f4⟩
theorem N9.made (w : World) (t a b c d : Int) (ty : TypeId) : N9 (w.alloc (.cells #[.int .i64 t, .int .i64 a, .int .i64 b, .int .i64 c, .int .i64 d] ty)) w.heap.size ⟨t, a, b, c, d⟩ :=
  ⟨by simp [go_sem], by simp [go_sem], by simp [go_sem], by simp [go_sem], by simp [go_sem], by simp [go_sem], by simp [go_sem], by simp [go_sem], by simp [go_sem], by simp [go_sem]⟩
theorem N9.far {w : World} {b : Nat} {n : Nd} (h : N9 w b n) {p : Addr} (hp : p.block ≠ b) (u : Value) : N9 (w.setCell p u) b n := by
  have hc : ∀ o, (w.setCell p u).cell? ⟨b, o, none⟩ = w.cell? ⟨b, o, none⟩ := fun o => World.cell?_setCell_other _ _ _ _ (by rintro rfl; exact hp rfl)
  exact ⟨(hc 0).trans h.c0, (hc 1).trans h.c1, (hc 2).trans h.c2, (hc 3).trans h.c3, (hc 4).trans h.c4, by simpa using h.f0, by simpa using h.f1, by simpa using h.f2, by simpa using h.f3, by simpa using h.f4⟩
theorem sweep_skip {l : List Nd} {M : List Bool} {k : Nat} (h : M.getD k false = false) : sweepTo l M (k + 1) = sweepTo l M k := by rw [sweepTo, h]; rfl
theorem sweep_take {l : List Nd} {M : List Bool} {k : Nat} (hk : k < l.length) (h : M.getD k false = true) : sweepTo l M (k + 1) = ((sweepTo l M k).1 ++ [newN (sweepTo l M k).2 l[k]], (sweepTo l M k).2.set k ((sweepTo l M k).1.length : Int)) := by rw [sweepTo, if_pos h, ndAt_eq hk]
end Go.Proofs.Ytoobkajilbmdhaa
