/- Turned maps: what Turn answers; a map that is turned is right. -/
import Derived.Test.YtoobkajilbmdhaaTuT
import Derived.Test.YtoobkajilbmdhaaGridA
namespace Go.Proofs.Ytoobkajilbmdhaa
open Go.RowKit
set_option linter.unusedVariables false

theorem permL_mem {n : Nat} {f : Nat × Nat → Nat × Nat} {t : List Int} (ht : t.length = n * n) (hf : ∀ p, InSq n p → InSq n (f p)) : ∀ x ∈ permL n f t, x ∈ t := by
  intro x hx
  simp only [permL, List.mem_map, List.mem_range] at hx
  obtain ⟨a, ha, rfl⟩ := hx
  have h1 := (at_sq (hf _ (sq_at ha).1)).1
  rw [← ht] at h1
  rw [show t.getD ((f (a % n, a / n)).2 * n + (f (a % n, a / n)).1) 0 = t[(f (a % n, a / n)).2 * n + (f (a % n, a / n)).1] by simp [List.getD, h1]]
  exact List.getElem_mem h1
theorem right_sn {side : Int} {t : List Int} (h : gridRight side t = true) : ∃ n : Nat, side = n ∧ (n = 1 ∨ n = 2 ∨ n = 4 ∨ n = 8) ∧ t.length = n * n := by
  obtain ⟨hs, hl, _⟩ := right_parts h
  rcases (sideOk_iff side).1 hs with rfl | rfl | rfl | rfl
  · exact ⟨1, rfl, by omega, by omega⟩
  · exact ⟨2, rfl, by omega, by omega⟩
  · exact ⟨4, rfl, by omega, by omega⟩
  · exact ⟨8, rfl, by omega, by omega⟩
theorem perm_right {side : Int} {n : Nat} {f : Nat × Nat → Nat × Nat} {t : List Int} (h : gridRight side t = true) (hn : side = n) (hf : ∀ p, InSq n p → InSq n (f p)) : gridRight side (permL n f t) = true := by
  obtain ⟨m, hm, _, hl⟩ := right_sn h
  obtain rfl : n = m := by omega
  have h1 := permL_mem hl hf
  simp only [gridRight, Bool.and_eq_true, beq_iff_eq, List.all_eq_true, permL_len] at h ⊢
  refine ⟨⟨h.1.1, by rw [← hl]; exact h.1.2⟩, fun x hx => h.2 x (h1 x hx)⟩
theorem turn_right {side : Int} {t : List Int} (h : gridRight side t = true) (how : Nat) : gridRight side (turnL side.toNat how t) = true := by
  obtain ⟨m, hm, _, hl⟩ := right_sn h
  exact perm_right h (by omega) fun p hp => fromT_in hp
def turnOk (side : Int) (l : List Int) (how : Int) : Bool := gridRight side l && inIs how 0 7
def turnSide (side : Int) (l : List Int) (how : Int) : Int := if turnOk side l how then side else 0
def turnTiles (side : Int) (l : List Int) (how : Int) : List Int := if turnOk side l how then turnL side.toNat how.toNat l else []
def turnCode (side : Int) (l : List Int) (how : Int) : Int := if turnOk side l how then 0 else 1
theorem turnTiles_len (side : Int) (l : List Int) (how : Int) : (turnTiles side l how).length ≤ 64 := by
  unfold turnTiles
  split
  · next h =>
    rw [turnOk, Bool.and_eq_true] at h
    obtain ⟨n, rfl, hn, _⟩ := right_sn h.1
    rw [Int.toNat_natCast, turnL_len]
    rcases hn with rfl | rfl | rfl | rfl <;> decide
  · simp
theorem turn_bad {side how : Int} {l : List Int} (h : turnOk side l how = false) : turnSide side l how = 0 ∧ turnTiles side l how = [] ∧ turnCode side l how = 1 := by
  simp [turnSide, turnTiles, turnCode, h]
theorem turn_good {side how : Int} {l : List Int} (h : turnOk side l how = true) : turnSide side l how = side ∧ turnTiles side l how = turnL side.toNat how.toNat l ∧ turnCode side l how = 0 := by
  simp [turnSide, turnTiles, turnCode, h]
end Go.Proofs.Ytoobkajilbmdhaa
