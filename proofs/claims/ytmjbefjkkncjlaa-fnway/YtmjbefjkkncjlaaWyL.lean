/- Ways on a map: places, steps, what a step costs: the mathematics. -/
import Derived.Test.YtmjbefjkkncjlaaWyG
namespace Go.Proofs.Ytmjbefjkkncjlaa
open Go.RowKit
set_option linter.unusedVariables false

/-- A place's number. -/
def pn (side x y : Int) : Nat := (y * side + x).toNat
/-- One can stand there. -/
def opn (side : Int) (l : List Int) (x y : Int) : Bool := gridIn side x y && l.getD (pn side x y) 0 != 9
/-- The four places about one, in order. -/
def abt (x y : Int) : List (Int × Int) := [(x, y - 1), (x - 1, y), (x + 1, y), (x, y + 1)]
/-- A step leads from place i to place j. -/
def Stp (side : Int) (l : List Int) (i j : Nat) : Prop := ∃ x y u v, opn side l x y = true ∧ opn side l u v = true ∧ (u, v) ∈ abt x y ∧ i = pn side x y ∧ j = pn side u v
def cst (l : List Int) (i j : Nat) : Int := 1 + l.getD i 0 + l.getD j 0
theorem pn_lt {side : Int} {l : List Int} {x y : Int} (hr : gridRight side l = true) (hi : gridIn side x y = true) : pn side x y < l.length ∧ (pn side x y : Int) = y * side + x := by
  obtain ⟨j, h1, h2, _, _⟩ := place_bound hr hi
  unfold pn
  omega
theorem opn_parts {side : Int} {l : List Int} {x y : Int} (hr : gridRight side l = true) (h : opn side l x y = true) : gridIn side x y = true ∧ ∃ hl : pn side x y < l.length, l.getD (pn side x y) 0 = l[pn side x y] ∧ 0 ≤ l[pn side x y] ∧ l[pn side x y] ≤ 8 := by
  simp only [opn, Bool.and_eq_true, bne_iff_ne] at h
  have hl := (pn_lt hr h.1).1
  have ht := (right_parts hr).2.2 _ hl
  have hg : l.getD (pn side x y) 0 = l[pn side x y] := by simp [List.getD, hl]
  rw [hg] at h
  exact ⟨h.1, hl, hg, ht.1, by omega⟩
/-- A number has one place. -/
theorem pn_one {side x y u v : Int} (h1 : gridIn side x y = true) (h2 : gridIn side u v = true) (h : pn side x y = pn side u v) : x = u ∧ y = v := by
  rw [gridIn_iff] at h1 h2
  have hy : 0 ≤ y * side := Int.mul_nonneg h1.2.2.1 (by omega)
  have hv : 0 ≤ v * side := Int.mul_nonneg h2.2.2.1 (by omega)
  unfold pn at h
  have e : y * side + x = v * side + u := by omega
  have m1 : (y * side + x) / side = y := by
    rw [Int.add_comm, Int.add_mul_ediv_right _ _ (by omega), Int.ediv_eq_zero_of_lt h1.1 h1.2.1]; omega
  have m2 : (v * side + u) / side = v := by
    rw [Int.add_comm, Int.add_mul_ediv_right _ _ (by omega), Int.ediv_eq_zero_of_lt h2.1 h2.2.1]; omega
  have : y = v := by rw [← m1, ← m2, e]
  subst this
  exact ⟨by omega, rfl⟩
theorem gr_grid {side : Int} {l : List Int} (hr : gridRight side l = true) : Gr l.length (Stp side l) (cst l) := by
  refine ⟨?_, ?_, ?_⟩ <;> rintro i j ⟨x, y, u, v, h1, h2, _, rfl, rfl⟩ <;> obtain ⟨_, l1, g1, a1, b1⟩ := opn_parts hr h1 <;> obtain ⟨_, l2, g2, a2, b2⟩ := opn_parts hr h2
  · exact ⟨l1, l2⟩
  · unfold cst; omega
  · unfold cst; omega
/-- How far all places of a map are from one. -/
def GDist (side : Int) (l : List Int) (x y : Int) (d : List Int) : Prop := IsD l.length (Stp side l) (cst l) (pn side x y) d
theorem gdist_ex {side : Int} {l : List Int} {x y : Int} (hr : gridRight side l = true) (h : opn side l x y = true) : ∃ d, GDist side l x y d := exists_dists (gr_grid hr) (opn_parts hr h).2.1
theorem stp_to {side : Int} {l : List Int} {x y : Int} {j : Nat} (hr : gridRight side l = true) (ho : opn side l x y = true) (h : Stp side l (pn side x y) j) : ∃ u v, opn side l u v = true ∧ (u, v) ∈ abt x y ∧ j = pn side u v := by
  obtain ⟨x', y', u, v, h1, h2, h3, h4, rfl⟩ := h
  obtain ⟨rfl, rfl⟩ := pn_one (opn_parts hr ho).1 (opn_parts hr h1).1 h4
  exact ⟨u, v, h2, h3, rfl⟩
theorem abt_ne {side : Int} {l : List Int} {x y u v : Int} (hr : gridRight side l = true) (h1 : opn side l x y = true) (h2 : opn side l u v = true) (hm : (u, v) ∈ abt x y) : pn side x y ≠ pn side u v := by
  intro e
  obtain ⟨rfl, rfl⟩ := pn_one (opn_parts hr h1).1 (opn_parts hr h2).1 e
  simp only [abt, List.mem_cons, Prod.mk.injEq, List.not_mem_nil, or_false] at hm
  omega
theorem abt_back {x y u v : Int} (hm : (u, v) ∈ abt x y) : (x, y) ∈ abt u v := by
  simp only [abt, List.mem_cons, Prod.mk.injEq, List.not_mem_nil, or_false] at hm ⊢
  omega
theorem stp_back {side : Int} {l : List Int} {i j : Nat} (h : Stp side l i j) : Stp side l j i := by
  obtain ⟨x, y, u, v, h1, h2, h3, h4, h5⟩ := h
  exact ⟨u, v, x, y, h2, h1, abt_back h3, h5, h4⟩
theorem cst_back (l : List Int) (i j : Nat) : cst l i j = cst l j i := by unfold cst; omega
/-- What Dists answers, d if g is right and the place open. -/
def dOut (side : Int) (l : List Int) (x y : Int) (d : List Int) : List Int := if gridRight side l && opn side l x y then d else []
def dOne (side : Int) (l : List Int) (x y u v : Int) (d : List Int) : Int := if gridRight side l && opn side l x y && opn side l u v then dk d (pn side u v) else -1
theorem gdist_any (side : Int) (l : List Int) (x y : Int) : ∃ d, (gridRight side l && opn side l x y) = true → GDist side l x y d := by
  by_cases h : (gridRight side l && opn side l x y) = true
  · have h' := h
    simp only [Bool.and_eq_true] at h'
    obtain ⟨d, hd⟩ := gdist_ex h'.1 h'.2
    exact ⟨d, fun _ => hd⟩
  · exact ⟨[], fun e => absurd e h⟩
end Go.Proofs.Ytmjbefjkkncjlaa
