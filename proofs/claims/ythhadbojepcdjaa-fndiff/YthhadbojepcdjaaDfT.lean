/- What is other: what is promised of changes and merges: the mathematics. -/
import Derived.Test.YthhadbojepcdjaaDfL
namespace Go.Proofs.Ythhadbojepcdjaa
open Go.RowKit
set_option linter.unusedVariables false

theorem getD_lt {l : List Int} {k : Nat} (h : k < l.length) : l.getD k 0 = l[k] := by simp [List.getD, h]
/-- A merge whose tile at each place is that of m, is m. -/
theorem mergeTo_eq {lo la lb m : List Int} : ∀ k, k ≤ m.length → (∀ j, j < k → mergeAt lo la lb j = m.getD j 0) → mergeTo lo la lb k = m.take k
  | 0, _, _ => by simp [mergeTo]
  | k + 1, hk, h => by
    rw [mergeTo, mergeTo_eq k (by omega) (fun j hj => h j (by omega)), List.take_succ_eq_append_getElem (by omega), h k (by omega), getD_lt (by omega)]
theorem merge_left (lo la : List Int) (h : la.length = lo.length) : mergeTo lo la lo lo.length = la := by
  rw [mergeTo_eq (m := la) _ (by omega) (fun j _ => by simp [mergeAt, mTile]), List.take_of_length_le (by omega)]
theorem merge_right (lo lb : List Int) (h : lb.length = lo.length) : mergeTo lo lo lb lo.length = lb := by
  rw [mergeTo_eq (m := lb) _ (by omega) (fun j _ => by
    simp only [mergeAt, mTile]
    split
    · next h => rcases h with h | h
                · exact h.symm
                · exact h
    · simp), List.take_of_length_le (by omega)]
theorem merge_same (lo la : List Int) (h : la.length = lo.length) : mergeTo lo la la lo.length = la := by
  rw [mergeTo_eq (m := la) _ (by omega) (fun j _ => by simp [mergeAt, mTile]), List.take_of_length_le (by omega)]
theorem mClash_comm (o a b : Int) : mClash o a b = mClash o b a := by
  unfold mClash
  apply decide_eq_decide.2
  constructor
  · rintro ⟨h1, h2⟩
    exact ⟨fun h => h1 (by rcases h with h | h; exact absurd h h2; exact .inr h.symm), fun h => h1 (.inl h)⟩
  · rintro ⟨h1, h2⟩
    exact ⟨fun h => h1 (by rcases h with h | h; exact absurd h h2; exact .inr h.symm), fun h => h1 (.inl h)⟩
theorem clash_back (side : Int) (lo la lb : List Int) (k : Nat) : (clashTo side lo lb la k).length = (clashTo side lo la lb k).length := by
  induction k with
  | zero => rfl
  | succ k ih =>
    simp only [clashTo, List.length_append, ih]
    simp only [clashAt, mClash_comm (lo.getD k 0) (lb.getD k 0) (la.getD k 0)]
    split <;> simp
theorem mTile_back {o a b : Int} (h : mClash o a b = false) : mTile o b a = mTile o a b := by
  unfold mClash at h
  simp only [decide_eq_false_iff_not] at h
  unfold mTile
  by_cases h1 : b = o
  · subst h1
    by_cases h2 : a = b
    · simp [h2]
    · have : ¬ b = a := fun e => h2 e.symm
      simp [h2]
  · by_cases h2 : a = b
    · subst h2; simp
    · by_cases h3 : a = o
      · subst h3
        simp [h1, h2]
      · exact absurd ⟨by simp [h1, h2], h3⟩ h
/-- Where nothing clashes, both ways come to one. -/
theorem merge_back (side : Int) (lo la lb : List Int) (k : Nat) (h : (clashTo side lo la lb k).length = 0) : mergeTo lo lb la k = mergeTo lo la lb k := by
  induction k with
  | zero => rfl
  | succ k ih =>
    simp only [clashTo, List.length_append] at h
    have h2 : (clashAt side lo la lb k).length = 0 := by omega
    have hc : mClash (lo.getD k 0) (la.getD k 0) (lb.getD k 0) = false := by
      unfold clashAt at h2
      split at h2
      · simp at h2
      · next h => simpa using h
    rw [mergeTo, mergeTo, ih (by omega)]
    simp only [mergeAt, mTile_back hc]

/-- What is other, done: the first k places are b's. -/
theorem chAt_div {side : Int} {k : Nat} (hs : 1 ≤ side) (o n : Int) : chAt side ⟨(k : Int) % side, (k : Int) / side, o, n⟩ = k := by
  have h := Int.mul_ediv_add_emod (k : Int) side
  unfold chAt
  simp only
  rw [Int.mul_comm ((k : Int) / side) side]
  omega
theorem in_div {side : Int} {k : Nat} (hs : 1 ≤ side) (hk : (k : Int) < side * side) : gridIn side ((k : Int) % side) ((k : Int) / side) = true := by
  rw [gridIn_iff]
  exact ⟨Int.emod_nonneg _ (by omega), Int.emod_lt_of_pos _ (by omega), Int.ediv_nonneg (by omega) (by omega), Int.ediv_lt_of_lt_mul (by omega) hk⟩
theorem doAll_app (side : Int) : ∀ (c1 c2 : List Ch) (t t1 : List Int), doAll side c1 t = (0, t1) → doAll side (c1 ++ c2) t = doAll side c2 t1
  | [], c2, t, t1, h => by simp [doAll] at h; simp [h]
  | c :: cs, c2, t, t1, h => by
    rw [List.cons_append, doAll]
    rw [doAll] at h
    split at h
    · next h0 =>
      rw [if_pos h0]
      exact doAll_app side cs c2 _ t1 h
    · next h0 =>
      simp at h
      exact absurd h.1 h0
theorem diff_do (side : Int) (la lb : List Int) (hs : 1 ≤ side) (hl : la.length = lb.length) (hq : (la.length : Int) = side * side) (ht : ∀ j (hj : j < lb.length), tileOk lb[j] = true) : ∀ k, k ≤ la.length → doAll side (diffTo side la lb k) la = (0, lb.take k ++ la.drop k)
  | 0, _ => by simp [diffTo, doAll]
  | k + 1, hk => by
    have ih := diff_do side la lb hs hl hq ht k (by omega)
    rw [diffTo, doAll_app side _ _ _ _ ih]
    have hka : k < la.length := by omega
    have hkb : k < lb.length := by omega
    have e1 : lb.take (k + 1) ++ la.drop (k + 1) = (lb.take k ++ la.drop k).set k lb[k] := by
      have hl2 : (lb.take k).length = k := by simp; omega
      rw [List.set_append_right _ _ (by omega), hl2, Nat.sub_self, List.drop_eq_getElem_cons hka, List.set_cons_zero, List.take_succ_eq_append_getElem hkb, List.append_assoc]
      rfl
    have hget : (lb.take k ++ la.drop k).getD k 0 = la[k] := by
      have hl2 : (lb.take k).length = k := by simp; omega
      rw [List.getD, List.getElem?_append_right (by omega), hl2, Nat.sub_self, List.drop_eq_getElem_cons hka]
      rfl
    unfold diffAt
    rw [getD_lt hka, getD_lt hkb]
    by_cases he : la[k] = lb[k]
    · rw [if_pos he, doAll, e1, ← he]
      congr 1
      have hl2 : (lb.take k).length = k := by simp; omega
      rw [List.set_append_right _ _ (by omega), hl2, Nat.sub_self, List.drop_eq_getElem_cons hka, List.set_cons_zero]
    · rw [if_neg he, doAll]
      have hc : doCode side (lb.take k ++ la.drop k) ⟨(k : Int) % side, (k : Int) / side, la[k], lb[k]⟩ = 0 := by
        unfold doCode
        rw [in_div hs (by omega), ht k hkb, chAt_div hs]
        simp only [Bool.and_self, if_true]
        rw [if_pos hget]
      rw [if_pos hc, chAt_div hs, doAll, e1]
end Go.Proofs.Ythhadbojepcdjaa
