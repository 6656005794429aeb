/- A list of Place that comes in, opened. -/
import Derived.Test.YtmjbefjkkncjlaaGridO
import Derived.Test.YtmjbefjkkncjlaaPlL
import Derived.Deep.Slices
namespace Go.Proofs.Ytmjbefjkkncjlaa
open Go.ChangeShapes Go.WideShapes Go.ChangeAt Go.RowKit Go.Joins Go.Deep
set_option linter.unusedVariables false

theorem cellsPl : Try.prog.cellsOf 43 = 2 := by kernel_rfl
theorem cellsPl_int : Try.prog.cellsOf 2 = 1 := by kernel_rfl
theorem listPl {α : Type} {cs : List α} (h : cs.length = 2) : ∃ c0 c1, cs = [c0, c1] := by
  match cs, h with
  | [c0, c1], _ => exact ⟨c0, c1, rfl⟩
theorem trodPl {H : Type} {enc : TypeId × Value → H} {P : Program} {w : World} {base : Nat} {spare : Nat → Bool} {held : Bool} {t : TypeId} {f0 f1 : Field} {fuel : Nat} {cs : List Value} {x : DataW H × List MemPlace} (ht : P.underlying t = some (.struct #[f0, f1])) (h : DataW.trod enc P w base spare held fuel t cs = some x) :
    ∃ y0 y1 n, cs.length = P.cellsOf t ∧ DataW.trod enc P w base spare held n f0.type ((cs.drop f0.offset).take (P.cellsOf f0.type)) = some y0 ∧ DataW.trod enc P w base spare held n f1.type ((cs.drop f1.offset).take (P.cellsOf f1.type)) = some y1 := by
  obtain ⟨xs, n, _, rfl, hl, hlen, hf⟩ := DataW.trod_struct ht h
  match xs, hlen with
  | [y0, y1], _ => exact ⟨y0, y1, n, hl, by simpa using hf 0 f0 rfl, by simpa using hf 1 f1 rfl⟩
theorem openPl {H : Type} {enc : TypeId × Value → H} {W : World} {base fuel : Nat} {sp : Nat → Bool} {held : Bool} {cs : List Value} {x : DataW H × List MemPlace}
    (h : DataW.trod enc Try.prog W base sp held fuel 43 cs = some x) :
    ∃ n : Pl, cs = [.int .i64 n.x, .int .i64 n.y] ∧ n.Fits := by
  obtain ⟨y0, y1, n, hl, h0, h1⟩ := trodPl Try.underlying43 h
  rw [cellsPl] at hl
  obtain ⟨c0, c1, rfl⟩ := listPl hl
  simp only [cellsPl_int] at h0 h1
  obtain ⟨z0, q0, _, w0⟩ := DataW.trod_int Try.underlying2 h0
  obtain ⟨z1, q1, _, w1⟩ := DataW.trod_int Try.underlying2 h1
  simp at q0 q1
  subst q0 q1
  exact ⟨⟨z0, z1⟩, rfl, w0, w1⟩

end Go.Proofs.Ytmjbefjkkncjlaa
