/- A pool that comes in, opened: its nodes. -/
import Derived.Test.YtoobkajilbmdhaaGridO
import Derived.Test.YtoobkajilbmdhaaPgK
import Derived.Deep.Slices
namespace Go.Proofs.Ytoobkajilbmdhaa
open Go.ChangeShapes Go.WideShapes Go.ChangeAt Go.RowKit Go.Joins Go.Deep
set_option linter.unusedVariables false

theorem cells_lnode : Try.prog.cellsOf 80 = 5 := by kernel_rfl
theorem cells_lpool : Try.prog.cellsOf 24 = 1 := by kernel_rfl
theorem cells_lnodes : Try.prog.cellsOf 22 = 1 := by kernel_rfl
theorem array1 {α : Type} {cs : Array α} (h : cs.size = 1) : ∃ c0, cs = #[c0] := by
  obtain ⟨l⟩ := cs
  match l, h with
  | [c0], _ => exact ⟨c0, rfl⟩
theorem list5 {α : Type} {cs : List α} (h : cs.length = 5) : ∃ c0 c1 c2 c3 c4, cs = [c0, c1, c2, c3, c4] := by
  match cs, h with
  | [c0, c1, c2, c3, c4], _ => exact ⟨c0, c1, c2, c3, c4, rfl⟩

theorem trod_struct5 {H : Type} {enc : TypeId × Value → H} {P : Program} {w : World} {base : Nat} {spare : Nat → Bool} {held : Bool} {t : TypeId} {f0 f1 f2 f3 f4 : Field} {fuel : Nat} {cs : List Value} {x : DataW H × List MemPlace} (ht : P.underlying t = some (.struct #[f0, f1, f2, f3, f4])) (h : DataW.trod enc P w base spare held fuel t cs = some x) :
    ∃ y0 y1 y2 y3 y4 n, cs.length = P.cellsOf t ∧ DataW.trod enc P w base spare held n f0.type ((cs.drop f0.offset).take (P.cellsOf f0.type)) = some y0 ∧
      DataW.trod enc P w base spare held n f1.type ((cs.drop f1.offset).take (P.cellsOf f1.type)) = some y1 ∧ DataW.trod enc P w base spare held n f2.type ((cs.drop f2.offset).take (P.cellsOf f2.type)) = some y2 ∧
      DataW.trod enc P w base spare held n f3.type ((cs.drop f3.offset).take (P.cellsOf f3.type)) = some y3 ∧ DataW.trod enc P w base spare held n f4.type ((cs.drop f4.offset).take (P.cellsOf f4.type)) = some y4 := by
  obtain ⟨xs, n, _, rfl, hl, hlen, hf⟩ := DataW.trod_struct ht h
  match xs, hlen with
  | [y0, y1, y2, y3, y4], _ => exact ⟨y0, y1, y2, y3, y4, n, hl, by simpa using hf 0 f0 rfl, by simpa using hf 1 f1 rfl, by simpa using hf 2 f2 rfl, by simpa using hf 3 f3 rfl, by simpa using hf 4 f4 rfl⟩
theorem trod_struct1 {H : Type} {enc : TypeId × Value → H} {P : Program} {w : World} {base : Nat} {spare : Nat → Bool} {held : Bool} {t : TypeId} {f0 : Field} {fuel : Nat} {cs : List Value} {x : DataW H × List MemPlace} (ht : P.underlying t = some (.struct #[f0])) (h : DataW.trod enc P w base spare held fuel t cs = some x) :
    ∃ y0 n, DataW.trod enc P w base spare held n f0.type ((cs.drop f0.offset).take (P.cellsOf f0.type)) = some y0 := by
  obtain ⟨xs, n, _, rfl, hl, hlen, hf⟩ := DataW.trod_struct ht h
  match xs, hlen with
  | [y0], _ => exact ⟨y0, n, by simpa using hf 0 f0 rfl⟩

/-- One node's cells, read. -/
theorem open_node {H : Type} {enc : TypeId × Value → H} {W : World} {base fuel : Nat} {sp : Nat → Bool} {held : Bool} {cs : List Value} {x : DataW H × List MemPlace}
    (h : DataW.trod enc Try.prog W base sp held fuel 80 cs = some x) :
    ∃ n : Nd, cs = [.int .i64 n.tile, .int .i64 n.a, .int .i64 n.b, .int .i64 n.c, .int .i64 n.d] ∧ n.Fits := by
  obtain ⟨y0, y1, y2, y3, y4, n, hl, h0, h1, h2, h3, h4⟩ := trod_struct5 Try.underlying80 h
  rw [cells_lnode] at hl
  obtain ⟨c0, c1, c2, c3, c4, rfl⟩ := list5 hl
  simp only [cells_int] at h0 h1 h2 h3 h4
  obtain ⟨z0, q0, _, w0⟩ := DataW.trod_int Try.underlying2 h0
  obtain ⟨z1, q1, _, w1⟩ := DataW.trod_int Try.underlying2 h1
  obtain ⟨z2, q2, _, w2⟩ := DataW.trod_int Try.underlying2 h2
  obtain ⟨z3, q3, _, w3⟩ := DataW.trod_int Try.underlying2 h3
  obtain ⟨z4, q4, _, w4⟩ := DataW.trod_int Try.underlying2 h4
  simp at q0 q1 q2 q3 q4
  subst q0 q1 q2 q3 q4
  exact ⟨⟨z0, z1, z2, z3, z4⟩, rfl, w0, w1, w2, w3, w4⟩

set_option maxRecDepth 100000 in
theorem open_pool {H : Type} {enc : TypeId × Value → H} {W : World} {r : Reach} {b0 base : Nat} {v : Value} {d : DataW H} {p : List MemPlace}
    (hv : Value.okWide Try.prog W r b0 24 v) (h : DataW.Trod enc Try.prog W base (fun _ => true) true 24 v d p) :
    ∃ (a : Option Addr) (cap : Nat) (l : List Nd), v = .agg #[.slice a l.length cap] ∧ RN W W.heap.size a l ∧ l.length ≤ maxLen ∧ ∀ n ∈ l, n.Fits := by
  obtain ⟨cs, rfl, hsz⟩ := okWide_struct Try.underlying24 hv
  obtain ⟨c0, rfl⟩ := array1 (hsz.trans cells_lpool)
  obtain ⟨fuel, hf⟩ := h
  obtain ⟨y0, n, h0⟩ := trod_struct1 Try.underlying24 hf
  simp only [cells_lnodes] at h0
  simp [Value.cells] at h0
  rcases open_slice Try.underlying22 h0 with ⟨hcs, _⟩ | ⟨a, len, cap, m, k, D, Pl, hcs, _, hl, hm, hmm, _, hel⟩
  · simp at hcs
    subst hcs
    exact ⟨none, 0, [], rfl, .inl rfl, by simp, by simp⟩
  · simp at hcs
    subst hcs
    simp only [if_true] at hmm
    subst hmm
    have hn : ∀ i, i < len → ∃ n : Nd, n.Fits ∧ ∀ j, j < 5 → W.cell? (a.add (i * 5 + j)) = (n.val.cells.toList)[j]? := by
      intro i hi
      obtain ⟨cs', h1, h2⟩ := hel i (by omega)
      obtain ⟨n, rfl, hw⟩ := open_node h2
      refine ⟨n, hw, fun j hj => ?_⟩
      rw [cells_lnode] at h1
      have hc := (World.cells?_some h1).2.2 j hj
      rw [add_add] at hc
      rw [hc]
      simp [Nd.val, Value.cells]
    haveI : Inhabited Nd := ⟨⟨0, 0, 0, 0, 0⟩⟩
    obtain ⟨f, hfn⟩ := choose_lt hn
    refine ⟨some a, m, (List.range len).map f, by simp, ?_, by simp; omega, fun n hn => ?_⟩
    · by_cases hz : len = 0
      · left; subst hz; rfl
      · right
        have h00 := (hfn 0 (by omega)).2 0 (by omega)
        simp [Nd.val, Value.cells] at h00
        obtain ⟨b, off, spot⟩ := a
        have hs : spot = none := by simpa [Addr.add] using World.cell?_spot h00
        subst hs
        have hb := World.block_lt_of_cell? W _ h00
        refine ⟨b, off, rfl, by simpa [Addr.add] using hb, fun j hj => ?_⟩
        simp at hj
        have e : ∀ i, (⟨b, off, none⟩ : Addr).add i = ⟨b, off + i, none⟩ := fun i => by unfold Addr.add; split <;> simp_all
        have hj' := (hfn j hj).2
        simp only [e, ← Nat.add_assoc] at hj'
        simp only [List.getElem_map, List.getElem_range]
        exact ⟨hj' 0 (by omega), hj' 1 (by omega), hj' 2 (by omega), hj' 3 (by omega), hj' 4 (by omega)⟩
    · obtain ⟨i, hi, rfl⟩ := List.mem_map.1 hn
      exact (hfn i (by simpa using hi)).1
end Go.Proofs.Ytoobkajilbmdhaa
