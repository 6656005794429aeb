/- Maps as the exact laws hold them: copied, compared, counted, marked and looked at again. -/
import Derived.Test.YtoobkajilbmdhaaDoorInts
import Derived.Deep.Onto
namespace Go.Proofs.YtoobkajilbmdhaaDoor
open Go.RowKit

theorem bcell {W w1 : World} {B : Nat} (hb : Below B W w1) : (∀ b o, b < B → w1.cell? ⟨b, o, none⟩ = W.cell? ⟨b, o, none⟩) ∧ (∀ b o, b < B → w1.frozen? ⟨b, o, none⟩ = W.frozen? ⟨b, o, none⟩) :=
  ⟨fun b o h => hb.cell (p := ⟨b, o, none⟩) h, fun b o h => hb.frozen (p := ⟨b, o, none⟩) h⟩
def gridV (side : Int) (A : Option Addr) (n c : Nat) : Value := .agg #[.int .i64 side, .slice A n c]
def gridOutV (side : Int) (A : Option Addr) (n c : Nat) (code : Int) : Value := .agg #[.int .i64 side, .slice A n c, .int .i64 code]

theorem alloc_size (w : World) (o : Obj) : (w.alloc o).heap.size = w.heap.size + 1 := by simp
theorem OwnI.lower {e : TypeId} {k : IntKind} {w : World} {base base' : Nat} {v : Value} {l : List Int} (hb : base' ≤ base) (h : OwnI e k w base v l) : OwnI e k w base' v l := World.ownsRow.mono h hb
theorem OwnI.set_below {e : TypeId} {k : IntKind} {w : World} {base : Nat} {v : Value} {l : List Int} {a : Addr} (ha : a.block < base) (u : Value) (h : OwnI e k w base v l) : OwnI e k (w.setCell a u) base v l := ownsRow_setCell_below h ha u

def ToGridPost (w : World) (side : Int) (l : List Int) (e : Ending) (w' : World) : Prop :=
  ∃ g, e = .returned (.agg #[.int .i64 side, .slice (some ⟨g, 0, none⟩) l.length l.length]) ∧ OwnI 2 .i64 w' w.heap.size (.slice (some ⟨g, 0, none⟩) l.length l.length) l ∧ Below w.heap.size w w'

theorem below_by {w w' : World} (h : Below w.heap.size w w') (row : Option Nat) : w.grownBy w' row := ⟨h.os, h.tape, h.output, h.size, fun k hk _ => h.block k hk⟩
theorem by_trans {a b c : World} {row : Option Nat} (h : a.grownBy b row) (k : b.grownBy c row) : a.grownBy c row := ⟨k.os.trans h.os, k.tape.trans h.tape, k.output.trans h.output, Nat.le_trans h.size k.size, fun i hi hne => (k.block i (Nat.lt_of_lt_of_le hi h.size) hne).trans (h.block i hi hne)⟩

end Go.Proofs.YtoobkajilbmdhaaDoor
