/- The exact laws of GridRight, TileAt and GridText, walked for any program whose function keeps its contract. -/
import Derived.Test.YtmjbefjkkncjlaaGridO
import Derived.Test.YtmjbefjkkncjlaaGridR
import Derived.Test.YtmjbefjkkncjlaaGridS
namespace Go.Proofs.Ytmjbefjkkncjlaa
open Go.RowKit

/-- A number of 64 bits. -/
def In64 (n : Int) : Prop := -9223372036854775808 ≤ n ∧ n ≤ 9223372036854775807
/-- What a map that came in is: its side is a number of 64 bits, its tiles lie below. -/
def InGrid (w : World) (side : Int) (a : Option Addr) (l : List Int) : Prop := (Lit.int .i64 side).wf = true ∧ RI w w.heap.size a l ∧ l.length ≤ maxLen ∧ ∀ n ∈ l, (Lit.int .i64 n).wf = true
theorem InGrid.nums {w : World} {side : Int} {a : Option Addr} {l : List Int} (h : InGrid w side a l) : In64 side ∧ ∀ n ∈ l, In64 n := ⟨bounds_i64 h.1, fun n hn => bounds_i64 (h.2.2.2 n hn)⟩
theorem GB.drew {w : World} {b : Nat} {side : Int} {v : Value} (h : GB w b side v) : GB w.drew b side v := ⟨h.c0, h.c1, h.f0, h.f1⟩

/-- The contract of the program's GridRight. -/
def GridRightDoes : Prop := ∀ (side : Int) (A : Option Addr) (c : Nat) (l : List Int) (w : World), In64 side ∧ (∀ n ∈ l, In64 n) → RI w w.heap.size A l → l.length ≤ 1048576 → l.length ≤ c → Calls Try.prog 25 #[.agg #[.int .i64 side, .slice A l.length c]] w fun e w' => e = .returned (.bool (gridRight side l)) ∧ Below w.heap.size w w'

/-- The contract of the program's TileAt. -/
def TileAtDoes : Prop := ∀ (side : Int) (x y : Int) (A : Option Addr) (c : Nat) (l : List Int) (w : World), In64 side ∧ (∀ n ∈ l, In64 n) → In64 x → In64 y → RI w w.heap.size A l → l.length ≤ 1048576 → l.length ≤ c → Calls Try.prog 65 #[.agg #[.int .i64 side, .slice A l.length c], .int .i64 x, .int .i64 y] w fun e w' => e = .returned (.int .i64 (tileAt side l x y)) ∧ Below w.heap.size w w'

end Go.Proofs.Ytmjbefjkkncjlaa
