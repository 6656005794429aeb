/- The tile of a node at a place: mathematics. -/
import Derived.Test.YtoobkajilbmdhaaDoorWt
namespace Go.Proofs.YtoobkajilbmdhaaDoor
open Go.RowKit
set_option linter.unusedVariables false

/-- The quarter in which a place lies. -/
def quarter (n : Nd) (h x y : Nat) : Nat := if h ≤ x ∧ h ≤ y then n.d.toNat else if h ≤ y then n.c.toNat else if h ≤ x then n.b.toNat else n.a.toNat
def tileN (l : List Nd) : Nat → Nat → Nat → Nat → Int
  | 0, node, _, _ => (ndAt l node).tile
  | d + 1, node, x, y => if leafN (ndAt l node) then (ndAt l node).tile else tileN l d (quarter (ndAt l node) (2 ^ d) x y) (x % 2 ^ d) (y % 2 ^ d)
theorem quarter_mem (n : Nd) (h x y : Nat) : quarter n h x y ∈ qs n := by
  unfold quarter qs
  split
  · simp
  · split
    · simp
    · split <;> simp
theorem tileN_leaf {l : List Nd} {d node x y : Nat} (h : leafN (ndAt l node) = true) : tileN l d node x y = (ndAt l node).tile := by
  cases d with
  | zero => rfl
  | succ d => rw [tileN, if_pos h]
theorem ht_last {l : List Nd} {k : Nat} (hk : k < l.length) : (hts l).getD k 0 = hStep (hts (l.take k)) l[k] := by
  rw [hts_at l (k + 1) k (by omega) (by omega), hts_take hk]
  have := hts_len_take l k (by omega)
  simp [List.getD, this]
theorem ht_split {l : List Nd} (hr : poolRight l = true) {k : Nat} (hk : k < l.length) (hs : leafN l[k] = false) {q : Nat} (hq : q ∈ qs l[k]) : q < k ∧ (hts l).getD q 0 + 1 ≤ (hts l).getD k 0 := by
  have hlt := qs_lt hr hk hs hq
  refine ⟨hlt, ?_⟩
  rw [ht_last hk, hts_at l k q (by omega) hlt]
  unfold hStep
  rw [hs]
  simp only [Bool.false_eq_true, if_false]
  simp only [qs, List.mem_cons, List.not_mem_nil, or_false] at hq
  rcases hq with rfl | rfl | rfl | rfl <;> omega
theorem ht_nn {l : List Nd} {k : Nat} (hk : k < l.length) : 0 ≤ (hts l).getD k 0 := by
  rw [ht_last hk]
  exact (hStep_bound (hts_bound_take l k (by omega)) l[k]).1
/-- One step down. -/
theorem tile_down {l : List Nd} (hr : poolRight l = true) {d k x y : Nat} (hk : k < l.length) (hs : leafN l[k] = false) (hh : (hts l).getD k 0 ≤ d) : ∃ e, d = e + 1 ∧ quarter l[k] (2 ^ e) x y < k ∧ (hts l).getD (quarter l[k] (2 ^ e) x y) 0 ≤ e ∧ tileN l d k x y = tileN l e (quarter l[k] (2 ^ e) x y) (x % 2 ^ e) (y % 2 ^ e) := by
  cases d with
  | zero =>
    have h1 := ht_split hr hk hs (quarter_mem l[k] 1 x y)
    have h2 := ht_nn (l := l) (k := quarter l[k] 1 x y) (by omega)
    omega
  | succ e =>
    have h1 := ht_split hr hk hs (quarter_mem l[k] (2 ^ e) x y)
    exact ⟨e, rfl, h1.1, by omega, by rw [tileN, ndAt_eq hk, if_neg (by rw [hs]; simp)]⟩
end Go.Proofs.YtoobkajilbmdhaaDoor
