/- The model's maps: new ones. -/
import Derived.Test.YtoobkajilbmdhaaGridM
namespace Go.Proofs.Ytoobkajilbmdhaa
open Go.RowKit

/-- Block b holds a map's fields: its side and the slice v. -/
structure GB (w : World) (b : Nat) (side : Int) (v : Value) : Prop where
  c0 : w.cell? ⟨b, 0, none⟩ = some (.int .i64 side)
  c1 : w.cell? ⟨b, 1, none⟩ = some v
  f0 : w.frozen? ⟨b, 0, none⟩ = false
  f1 : w.frozen? ⟨b, 1, none⟩ = false
theorem OwnI.form {e : TypeId} {k : IntKind} {w : World} {base : Nat} {v : Value} {l : List Int} (h : OwnI e k w base v l) : ∃ A c, v = .slice A l.length c := by
  rcases h.2 with ⟨hv, hn⟩ | ⟨g, cap, cur, hv, _⟩
  · exact ⟨none, 0, by rw [hv, hn]⟩
  · exact ⟨_, _, hv⟩
theorem GB.below {w w' : World} {b B : Nat} {side : Int} {v : Value} (h : GB w b side v) (hb : Below B w w') (hB : b < B) : GB w' b side v :=
  ⟨(hb.cell (p := ⟨b, 0, none⟩) hB).trans h.c0, (hb.cell (p := ⟨b, 1, none⟩) hB).trans h.c1, (hb.frozen (p := ⟨b, 0, none⟩) hB).trans h.f0, (hb.frozen (p := ⟨b, 1, none⟩) hB).trans h.f1⟩
theorem GB.set1 {w : World} {b : Nat} {side : Int} {v : Value} (h : GB w b side v) (v' : Value) : GB (w.setCell ⟨b, 1, none⟩ v') b side v' :=
  ⟨(World.cell?_setCell_other _ _ _ _ (by simp)).trans h.c0, World.cell?_setCell_same _ _ _ h.c1, by simpa using h.f0, by simpa using h.f1⟩
theorem GB.set0 {w : World} {b : Nat} {side : Int} {v : Value} (h : GB w b side v) (s : Int) : GB (w.setCell ⟨b, 0, none⟩ (.int .i64 s)) b s v :=
  ⟨World.cell?_setCell_same _ _ _ h.c0, (World.cell?_setCell_other _ _ _ _ (by simp)).trans h.c1, by simpa using h.f0, by simpa using h.f1⟩
theorem GB.far {w : World} {b : Nat} {side : Int} {v : Value} (h : GB w b side v) {p : Addr} (hp : p.block ≠ b) (u : Value) : GB (w.setCell p u) b side v :=
  ⟨(World.cell?_setCell_other _ _ _ _ (by rintro rfl; exact hp rfl)).trans h.c0, (World.cell?_setCell_other _ _ _ _ (by rintro rfl; exact hp rfl)).trans h.c1, by simpa using h.f0, by simpa using h.f1⟩
theorem GB.made (w : World) (side : Int) (v : Value) (t : TypeId) : GB (w.alloc (.cells #[.int .i64 side, v] t)) w.heap.size side v :=
  ⟨by simp [go_sem], by simp [go_sem], by simp [go_sem], by simp [go_sem]⟩

/-- What is handed back: a map and a code; beside a code there is nothing. -/
def GOut (w w' : World) (side : Int) (l : List Int) (code : Int) (e : Ending) : Prop :=
  ∃ A c, e = .returned (.agg #[.int .i64 side, .slice A l.length c, .int .i64 code]) ∧ OwnI 2 .i64 w' w.heap.size (.slice A l.length c) l ∧ Below w.heap.size w w'
def newSide (side tile : Int) : Int := if sideOk side && tileOk tile then side else 0
def newTiles (side tile : Int) : List Int := if sideOk side && tileOk tile then List.replicate (side * side).toNat tile else []
def newCode (side tile : Int) : Int := if sideOk side && tileOk tile then 0 else 1

end Go.Proofs.Ytoobkajilbmdhaa
