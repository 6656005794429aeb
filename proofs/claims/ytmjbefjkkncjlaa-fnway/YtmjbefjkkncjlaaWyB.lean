/- A place that comes in by value; things that a law on ways holds. -/
import Derived.Test.YtmjbefjkkncjlaaItems
import Derived.Test.YtmjbefjkkncjlaaPlO
import Derived.Test.YtmjbefjkkncjlaaWyM
import Derived.Test.YtmjbefjkkncjlaaGridO
namespace Go.Proofs.Ytmjbefjkkncjlaa
open Go.ChangeShapes Go.WideShapes Go.ChangeAt Go.RowKit Go.Joins
set_option linter.unusedVariables false

set_option maxRecDepth 100000 in
theorem open_pl {H : Type} {enc : TypeId × Value → H} {W : World} {r : Reach} {b0 base : Nat} {v : Value} {d : DataW H} {p : List MemPlace}
    (hv : Value.okWide Try.prog W r b0 43 v) (h : DataW.Trod enc Try.prog W base (fun _ => true) true 43 v d p) :
    ∃ (x y : Int), v = .agg #[.int .i64 x, .int .i64 y] ∧ (Lit.int .i64 x).wf = true ∧ (Lit.int .i64 y).wf = true := by
  obtain ⟨v0, v1, y0, y1, n, rfl, rfl, rfl, h0, h1⟩ := open_agg2 Try.underlying43 (by kernel_rfl) (by kernel_rfl) hv h
  obtain ⟨x, hx, _, hw⟩ := DataW.trod_int Try.underlying2 h0
  obtain ⟨y, hy, _, hw'⟩ := DataW.trod_int Try.underlying2 h1
  simp at hx hy
  subst hx hy
  exact ⟨x, y, rfl, hw, hw'⟩
/-- A place's box. -/
def bxL (b : Nat) (x y : Int) : It := ⟨b, b + 1, fun w => PlB w b x y, fun w w' hk h => by
  have e := hk b (Nat.le_refl _) (Nat.lt_succ_self _)
  exact ⟨(cell_at e).trans h.c0, (cell_at e).trans h.c1⟩⟩
theorem toPl_v (x y : Int) (w : World) :
    Calls Try.prog 19 #[.agg #[.int .i64 x, .int .i64 y]] w fun e w' => e = .returned (.agg #[.int .i64 x, .int .i64 y]) ∧ Below w.heap.size w w' := toPl_any ⟨x, y⟩ w
theorem eqInts_b (A A' : Option Addr) (c c' : Nat) (l : List Int) (w : World) (h : RI w w.heap.size A l) (h' : RI w w.heap.size A' l) (hl : l.length ≤ 1000000000) :
    Calls Try.prog 48 #[.slice A l.length c, .slice A' l.length c'] w fun e w' => e = .returned (.bool true) ∧ Below w.heap.size w w' := (eqInts A A' c c' _ l w h h' hl).mono fun e w' ⟨h, k⟩ => ⟨h, k.below _⟩
theorem dOut_len (side : Int) (l : List Int) (x y : Int) (d : List Int) (hd : (gridRight side l && opn side l x y) = true → GDist side l x y d) : (dOut side l x y d).length ≤ 64 := by
  unfold dOut
  split
  · next h =>
    have h1 := (hd h).len
    simp only [Bool.and_eq_true] at h
    have := right_len h.1
    omega
  · simp
end Go.Proofs.Ytmjbefjkkncjlaa
