/- A list of Place that comes in, opened. -/
import Derived.Test.YtghnanojmgddfaaGridO
import Derived.Test.YtghnanojmgddfaaPlL
import Derived.Deep.Slices
namespace Go.Proofs.Ytghnanojmgddfaa
open Go.ChangeShapes Go.WideShapes Go.ChangeAt Go.RowKit Go.Joins Go.Deep
set_option linter.unusedVariables false

theorem cellsPl : Try.prog.cellsOf 51 = 2 := by kernel_rfl
theorem cellsPl_int : Try.prog.cellsOf 2 = 1 := by kernel_rfl
theorem listPl {α : Type} {cs : List α} (h : cs.length = 2) : ∃ c0 c1, cs = [c0, c1] := by
  match cs, h with
  | [c0, c1], _ => exact ⟨c0, c1, rfl⟩
theorem trodPl {H : Type} {enc : TypeId × Value → H} {P : Program} {w : World} {base : Nat} {spare : Nat → Bool} {held : Bool} {t : TypeId} {f0 f1 : Field} {fuel : Nat} {cs : List Value} {x : DataW H × List MemPlace} (ht : P.underlying t = some (.struct #[f0, f1])) (h : DataW.trod enc P w base spare held fuel t cs = some x) :
    ∃ y0 y1 n, cs.length = P.cellsOf t ∧ DataW.trod enc P w base spare held n f0.type ((cs.drop f0.offset).take (P.cellsOf f0.type)) = some y0 ∧ DataW.trod enc P w base spare held n f1.type ((cs.drop f1.offset).take (P.cellsOf f1.type)) = some y1 := by
  obtain ⟨xs, n, _, rfl, hl, hlen, hf⟩ := DataW.trod_struct ht h
  match xs, hlen with
  | [y0, y1], _ => exact ⟨y0, y1, n, hl, by simpa using hf 0 f0 rfl, by simpa using hf 1 f1 rfl⟩
theorem openPl {H : Type} {enc : TypeId × Value → H} {W : World} {base fuel : Nat} {sp : Nat → Bool} {held : Bool} {cs : List Value} {x : DataW H × List MemPlace}
    (h : DataW.trod enc Try.prog W base sp held fuel 51 cs = some x) :
    ∃ n : Pl, cs = [.int .i64 n.x, .int .i64 n.y] ∧ n.Fits := by
  obtain ⟨y0, y1, n, hl, h0, h1⟩ := trodPl Try.underlying51 h
  rw [cellsPl] at hl
  obtain ⟨c0, c1, rfl⟩ := listPl hl
  simp only [cellsPl_int] at h0 h1
  obtain ⟨z0, q0, _, w0⟩ := DataW.trod_int Try.underlying2 h0
  obtain ⟨z1, q1, _, w1⟩ := DataW.trod_int Try.underlying2 h1
  simp at q0 q1
  subst q0 q1
  exact ⟨⟨z0, z1⟩, rfl, w0, w1⟩

set_option maxRecDepth 100000 in
theorem openPls {H : Type} {enc : TypeId × Value → H} {W : World} {r : Reach} {b0 base : Nat} {v : Value} {d : DataW H} {p : List MemPlace}
    (hv : Value.okWide Try.prog W r b0 60 v) (h : DataW.Trod enc Try.prog W base (fun _ => true) true 60 v d p) :
    ∃ (a : Option Addr) (cap : Nat) (l : List Pl), v = .slice a l.length cap ∧ RPl W W.heap.size a l ∧ l.length ≤ maxLen ∧ ∀ n ∈ l, n.Fits := by
  obtain ⟨a0, len0, cap0, rfl⟩ := okWide_slice Try.underlying60 hv
  obtain ⟨fuel, h0⟩ := h
  rcases open_slice Try.underlying60 h0 with ⟨hcs, _⟩ | ⟨a, len, cap, m, k, D, Ps, hcs, _, hl, hm, hmm, _, hel⟩
  · simp [Value.cells] at hcs
    obtain ⟨rfl, rfl, rfl⟩ := hcs
    exact ⟨none, 0, [], rfl, .inl rfl, by simp, by simp⟩
  · simp [Value.cells] at hcs
    obtain ⟨rfl, rfl, rfl⟩ := hcs
    simp only [if_true] at hmm
    subst hmm
    have hn : ∀ i, i < len0 → ∃ n : Pl, n.Fits ∧ ∀ j, j < 2 → W.cell? (a.add (i * 2 + j)) = (n.val.cells.toList)[j]? := by
      intro i hi
      obtain ⟨cs', h1, h2⟩ := hel i (by omega)
      obtain ⟨n, rfl, hw⟩ := openPl h2
      refine ⟨n, hw, fun j hj => ?_⟩
      rw [cellsPl] at h1
      have hc := (World.cells?_some h1).2.2 j hj
      rw [add_add] at hc
      rw [hc]
      simp [Pl.val, Value.cells]
    obtain ⟨f, hfn⟩ := choose_lt hn
    refine ⟨some a, _, (List.range len0).map f, by simp; rfl, ?_, by simp; omega, fun n hn => ?_⟩
    · by_cases hz : len0 = 0
      · left; subst hz; rfl
      · right
        have h00 := (hfn 0 (by omega)).2 0 (by omega)
        simp [Pl.val, Value.cells] at h00
        obtain ⟨b, off, spot⟩ := a
        have hs : spot = none := by simpa [Addr.add] using World.cell?_spot h00
        subst hs
        have hb := World.block_lt_of_cell? W _ h00
        refine ⟨b, off, rfl, by simpa [Addr.add] using hb, fun j hj => ?_⟩
        simp at hj
        have e : ∀ i, (⟨b, off, none⟩ : Addr).add i = ⟨b, off + i, none⟩ := fun i => by unfold Addr.add; split <;> simp_all
        have hj' := (hfn j hj).2
        simp only [e, ← Nat.add_assoc] at hj'
        simp only [List.getElem_map, List.getElem_range]
        exact ⟨hj' 0 (by omega), hj' 1 (by omega)⟩
    · obtain ⟨i, hi, rfl⟩ := List.mem_map.1 hn
      exact (hfn i (by simpa using hi)).1
end Go.Proofs.Ytghnanojmgddfaa
