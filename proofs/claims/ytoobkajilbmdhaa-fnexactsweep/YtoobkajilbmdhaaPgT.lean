/- The program's maps: a part of a row, the text. -/
import Derived.Test.YtoobkajilbmdhaaPgB
namespace Go.Proofs.Ytoobkajilbmdhaa
open Go.RowKit

theorem right_nat {side : Int} {l : List Int} (h : gridRight side l = true) : ∃ sn : Nat, side = sn ∧ 1 ≤ sn ∧ sn ≤ 8 ∧ l.length = sn * sn := by
  obtain ⟨hs, hl, _⟩ := right_parts h
  rcases (sideOk_iff side).1 hs with rfl | rfl | rfl | rfl
  · exact ⟨1, rfl, by omega, by omega, by omega⟩
  · exact ⟨2, rfl, by omega, by omega, by omega⟩
  · exact ⟨4, rfl, by omega, by omega, by omega⟩
  · exact ⟨8, rfl, by omega, by omega, by omega⟩
theorem wrap_prod {k sn : Nat} (hk : k ≤ 8) (hs : sn ≤ 8) : IntKind.i64.wrap ((k : Int) * sn) = (k : Int) * sn := by
  have h : k * sn ≤ 8 * 8 := Nat.mul_le_mul hk hs
  have e : (k : Int) * sn = ((k * sn : Nat) : Int) := by simp
  rw [e]
  exact IntWalk.i64_in _ (by omega)

/-- The digits of the first i tiles of row y. -/
def rowTo (sn : Nat) (l : List Int) (y : Nat) : Nat → List Int
  | 0 => []
  | i + 1 => rowTo sn l y i ++ [48 + l.getD (y * sn + i) 0]
theorem rowTo_length (sn : Nat) (l : List Int) (y i : Nat) : (rowTo sn l y i).length = i := by
  induction i with
  | zero => rfl
  | succ i ih => rw [rowTo, List.length_append, ih]; rfl
theorem text_row (sn : Nat) (l : List Int) (y i : Nat) (hi : i ≤ sn) (hs : 0 < sn) : textTo sn l (y * sn + i) = textTo sn l (y * sn) ++ rowTo sn l y i ++ (if i = sn then [10] else []) := by
  induction i with
  | zero => simp [rowTo]; omega
  | succ i ih =>
    have hm : ((y * sn + i : Nat) : Int) % (sn : Int) = i := by
      rw [← Int.natCast_emod, Nat.add_comm, Nat.add_mul_mod_self_right, Nat.mod_eq_of_lt (by omega)]
    rw [← Nat.add_assoc, textTo, ih (by omega), hm, if_neg (by omega), rowTo]
    by_cases e : i + 1 = sn
    · rw [if_pos (by omega), if_pos e]; simp
    · rw [if_neg (by omega), if_neg e]; simp

end Go.Proofs.Ytoobkajilbmdhaa
