/- A place that comes in by value; things that a law on ways holds. -/
import Derived.Test.YtphkceiafehidaaItems
import Derived.Test.YtphkceiafehidaaPlO
import Derived.Test.YtphkceiafehidaaWyM
import Derived.Test.YtphkceiafehidaaGridO
namespace Go.Proofs.Ytphkceiafehidaa
open Go.ChangeShapes Go.WideShapes Go.ChangeAt Go.RowKit Go.Joins
set_option linter.unusedVariables false

/-- A place's box. -/
def bxL (b : Nat) (x y : Int) : It := ⟨b, b + 1, fun w => PlB w b x y, fun w w' hk h => by
  have e := hk b (Nat.le_refl _) (Nat.lt_succ_self _)
  exact ⟨(cell_at e).trans h.c0, (cell_at e).trans h.c1⟩⟩
theorem eqInts_b (A A' : Option Addr) (c c' : Nat) (l : List Int) (w : World) (h : RI w w.heap.size A l) (h' : RI w w.heap.size A' l) (hl : l.length ≤ 1000000000) :
    Calls Try.prog 122 #[.slice A l.length c, .slice A' l.length c'] w fun e w' => e = .returned (.bool true) ∧ Below w.heap.size w w' := (eqInts A A' c c' _ l w h h' hl).mono fun e w' ⟨h, k⟩ => ⟨h, k.below _⟩
theorem heldInts_b (A : Option Addr) (c k0 n : Nat) (w : World) (h : RI w w.heap.size A (marks k0 n)) (hl : n ≤ 1000000000) (hk0 : k0 ≤ 1000000000) :
    Calls Try.prog 115 #[.slice A n c, .int .i64 k0] w fun e w' => e = .returned (.int .i64 ((k0 + n : Nat) : Int)) ∧ Below w.heap.size w w' := (heldInts A c _ k0 n w h hl hk0).mono fun e w' ⟨h, k⟩ => ⟨h, k ▸ Below.refl _ _⟩
theorem dOut_len (side : Int) (l : List Int) (x y : Int) (d : List Int) (hd : (gridRight side l && opn side l x y) = true → GDist side l x y d) : (dOut side l x y d).length ≤ 64 := by
  unfold dOut
  split
  · next h =>
    have h1 := (hd h).len
    simp only [Bool.and_eq_true] at h
    have := right_len h.1
    omega
  · simp
end Go.Proofs.Ytphkceiafehidaa
