/- The model's PoolPut. -/
import Derived.Test.YtoobkajilbmdhaaPutMm
namespace Go.Proofs.Ytoobkajilbmdhaa
open Go.RowKit
set_option linter.unusedVariables false

theorem OwnN.lit0 {w : World} {base : Nat} (hb : base ≤ w.heap.size) : OwnN (w.alloc (.cells #[] 73)) base (.slice (some ⟨w.heap.size, 0, none⟩) 0 0) [] := by
  have := World.ownsRow_lit (e := 73) (size := 5) (base := base) w #[] 0 hb (by simp [maxLen]) (by simp)
  simpa [OwnN] using this
/-- What l03Put answers of what is right. -/
def putR (l : List Nd) (sn : Nat) (tiles : List Int) : Int × Int × List Nd :=
  let r := msq (tileF sn tiles) (dbl sn) 0 0 l
  if r.1.length ≤ 200 then (0, r.2, r.1) else (9, 0, [])

/-- The boxes of a call that puts a map in: the map's, the answer's. -/
structure BX (w : World) (sn : Nat) (v : Value) (wr : World) : Prop where
  g0 : wr.cell? ⟨w.heap.size + 1, 0, none⟩ = some (.int .i64 sn)
  g1 : wr.cell? ⟨w.heap.size + 1, 1, none⟩ = some v
  r0 : wr.cell? ⟨w.heap.size + 1 + 1, 0, none⟩ = some (.slice none 0 0)
  r1 : wr.cell? ⟨w.heap.size + 1 + 1, 1, none⟩ = some (.int .i64 0)
  r2 : wr.cell? ⟨w.heap.size + 1 + 1, 2, none⟩ = some (.int .i64 0)
  f0 : wr.frozen? ⟨w.heap.size + 1 + 1, 0, none⟩ = false
  f1 : wr.frozen? ⟨w.heap.size + 1 + 1, 1, none⟩ = false
  f2 : wr.frozen? ⟨w.heap.size + 1 + 1, 2, none⟩ = false
  siz : w.heap.size + 1 + 1 < wr.heap.size
  bel : Below w.heap.size w wr
theorem BX.step {w : World} {sn : Nat} {v : Value} {wr wr' : World} (h : BX w sn v wr) (hb : Below (w.heap.size + 1 + 1 + 1) wr wr') : BX w sn v wr' :=
  ⟨(hb.cell (p := ⟨w.heap.size + 1, 0, none⟩) (by show w.heap.size + 1 < _; omega)).trans h.g0, (hb.cell (p := ⟨w.heap.size + 1, 1, none⟩) (by show w.heap.size + 1 < _; omega)).trans h.g1, (hb.cell (p := ⟨w.heap.size + 1 + 1, 0, none⟩) (by show w.heap.size + 1 + 1 < _; omega)).trans h.r0, (hb.cell (p := ⟨w.heap.size + 1 + 1, 1, none⟩) (by show w.heap.size + 1 + 1 < _; omega)).trans h.r1, (hb.cell (p := ⟨w.heap.size + 1 + 1, 2, none⟩) (by show w.heap.size + 1 + 1 < _; omega)).trans h.r2, (hb.frozen (p := ⟨w.heap.size + 1 + 1, 0, none⟩) (by show w.heap.size + 1 + 1 < _; omega)).trans h.f0, (hb.frozen (p := ⟨w.heap.size + 1 + 1, 1, none⟩) (by show w.heap.size + 1 + 1 < _; omega)).trans h.f1, (hb.frozen (p := ⟨w.heap.size + 1 + 1, 2, none⟩) (by show w.heap.size + 1 + 1 < _; omega)).trans h.f2, Nat.lt_of_lt_of_le h.siz hb.size, h.bel.trans (hb.mono (by omega))⟩
end Go.Proofs.Ytoobkajilbmdhaa
