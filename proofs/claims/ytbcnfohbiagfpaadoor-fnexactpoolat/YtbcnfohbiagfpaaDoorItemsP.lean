/- Things that a law holds: pools, their boxes, and pools that were handed back. -/
import Derived.Test.YtbcnfohbiagfpaaDoorItems
import Derived.Test.YtbcnfohbiagfpaaDoorNodeX
namespace Go.Proofs.YtbcnfohbiagfpaaDoor
open Go.RowKit
set_option linter.unusedVariables false

/-- Block b holds the field of a pool. -/
structure PB1 (w : World) (b : Nat) (v : Value) : Prop where
  c0 : w.cell? ⟨b, 0, none⟩ = some v
  f0 : w.frozen? ⟨b, 0, none⟩ = false
theorem PB1.made (w : World) (v : Value) (t : TypeId) : PB1 (w.alloc (.cells #[v] t)) w.heap.size v := ⟨by simp [go_sem], by simp [go_sem]⟩
/-- A pool's box. -/
def bxP (b : Nat) (v : Value) : It := ⟨b, b + 1, fun w => PB1 w b v, fun w w' hk h => by
  have e := hk b (Nat.le_refl _) (Nat.lt_succ_self _)
  exact ⟨(cell_at e).trans h.c0, (froz_at e).trans h.f0⟩⟩
/-- A row of nodes. -/
def rwN (B hi : Nat) (v : Value) (l : List Nd) : It := ⟨B, hi, fun w => OwnN w B v l ∧ Lies v B hi, fun w w' hk h => ⟨ownsRow_at h.1 h.2 hk, h.2⟩⟩
/-- Block b holds the fields of a pool that was handed back. -/
structure PO1 (w : World) (b : Nat) (v : Value) (root code : Int) : Prop where
  c0 : w.cell? ⟨b, 0, none⟩ = some v
  c1 : w.cell? ⟨b, 1, none⟩ = some (.int .i64 root)
  c2 : w.cell? ⟨b, 2, none⟩ = some (.int .i64 code)
theorem PO1.made (w : World) (v : Value) (root code : Int) (t : TypeId) : PO1 (w.alloc (.cells #[v, .int .i64 root, .int .i64 code] t)) w.heap.size v root code := ⟨by simp [go_sem], by simp [go_sem], by simp [go_sem]⟩
def bxPO (b : Nat) (v : Value) (root code : Int) : It := ⟨b, b + 1, fun w => PO1 w b v root code, fun w w' hk h => by
  have e := hk b (Nat.le_refl _) (Nat.lt_succ_self _)
  exact ⟨(cell_at e).trans h.c0, (cell_at e).trans h.c1, (cell_at e).trans h.c2⟩⟩
theorem OwnN.lies {w : World} {base : Nat} {v : Value} {l : List Nd} (h : OwnN w base v l) : Lies v base w.heap.size := World.ownsRow.lt h
theorem RN.below' {w w' : World} {A : Option Addr} {l : List Nd} (h : RN w w.heap.size A l) (hb : Below w.heap.size w w') : RN w' w'.heap.size A l := (h.below hb).mono hb.size
end Go.Proofs.YtbcnfohbiagfpaaDoor
