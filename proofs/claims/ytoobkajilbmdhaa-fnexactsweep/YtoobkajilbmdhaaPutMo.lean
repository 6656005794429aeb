/- The model's PoolPut, whole. -/
import Derived.Test.YtoobkajilbmdhaaPutMn
import Derived.Test.YtoobkajilbmdhaaGridS
import Derived.Test.YtoobkajilbmdhaaPgT
namespace Go.Proofs.Ytoobkajilbmdhaa
open Go.RowKit
set_option linter.unusedVariables false

/-- The boxes with the pool's own. -/
structure BY (w : World) (u : Value) (side : Int) (v : Value) (wr : World) : Prop where
  p0 : wr.cell? ⟨w.heap.size, 0, none⟩ = some u
  g0 : wr.cell? ⟨w.heap.size + 1, 0, none⟩ = some (.int .i64 side)
  g1 : wr.cell? ⟨w.heap.size + 1, 1, none⟩ = some v
  r0 : wr.cell? ⟨w.heap.size + 1 + 1, 0, none⟩ = some (.slice none 0 0)
  r1 : wr.cell? ⟨w.heap.size + 1 + 1, 1, none⟩ = some (.int .i64 0)
  r2 : wr.cell? ⟨w.heap.size + 1 + 1, 2, none⟩ = some (.int .i64 0)
  f0 : wr.frozen? ⟨w.heap.size + 1 + 1, 0, none⟩ = false
  f1 : wr.frozen? ⟨w.heap.size + 1 + 1, 1, none⟩ = false
  f2 : wr.frozen? ⟨w.heap.size + 1 + 1, 2, none⟩ = false
  siz : w.heap.size + 1 + 1 < wr.heap.size
  bel : Below w.heap.size w wr
theorem BY.step {w : World} {u : Value} {side : Int} {v : Value} {wr wr' : World} (h : BY w u side v wr) (hb : Below (w.heap.size + 1 + 1 + 1) wr wr') : BY w u side v wr' :=
  ⟨(hb.cell (p := ⟨w.heap.size, 0, none⟩) (by show w.heap.size < _; omega)).trans h.p0, (hb.cell (p := ⟨w.heap.size + 1, 0, none⟩) (by show w.heap.size + 1 < _; omega)).trans h.g0, (hb.cell (p := ⟨w.heap.size + 1, 1, none⟩) (by show w.heap.size + 1 < _; omega)).trans h.g1, (hb.cell (p := ⟨w.heap.size + 1 + 1, 0, none⟩) (by show w.heap.size + 1 + 1 < _; omega)).trans h.r0, (hb.cell (p := ⟨w.heap.size + 1 + 1, 1, none⟩) (by show w.heap.size + 1 + 1 < _; omega)).trans h.r1, (hb.cell (p := ⟨w.heap.size + 1 + 1, 2, none⟩) (by show w.heap.size + 1 + 1 < _; omega)).trans h.r2, (hb.frozen (p := ⟨w.heap.size + 1 + 1, 0, none⟩) (by show w.heap.size + 1 + 1 < _; omega)).trans h.f0, (hb.frozen (p := ⟨w.heap.size + 1 + 1, 1, none⟩) (by show w.heap.size + 1 + 1 < _; omega)).trans h.f1, (hb.frozen (p := ⟨w.heap.size + 1 + 1, 2, none⟩) (by show w.heap.size + 1 + 1 < _; omega)).trans h.f2, Nat.lt_of_lt_of_le h.siz hb.size, h.bel.trans (hb.mono (by omega))⟩
/-- Nodes that lie somewhere below. -/
def NAt (w : World) (b off : Nat) (l : List Nd) : Prop := b < w.heap.size ∧ ∀ j (hj : j < l.length), NdAt w b (off + j * 5) l[j]
theorem NAt.below {w w' : World} {b off : Nat} {l : List Nd} (h : NAt w b off l) (hb : Below w.heap.size w w') : NAt w' b off l := ⟨Nat.lt_of_lt_of_le h.1 hb.size, fun j hj => (h.2 j hj).keep (hb.block b h.1)⟩
theorem NAt.rn {w : World} {b off : Nat} {l : List Nd} (h : NAt w b off l) : RN w w.heap.size (some ⟨b, off, none⟩) l := .inr ⟨b, off, rfl, h.1, h.2⟩

end Go.Proofs.Ytoobkajilbmdhaa
