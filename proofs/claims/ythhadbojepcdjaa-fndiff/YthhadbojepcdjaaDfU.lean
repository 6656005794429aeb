/- What is other: changes taken back come back; what is done to a right map leaves a right one: the mathematics. -/
import Derived.Test.YthhadbojepcdjaaDfT
namespace Go.Proofs.Ythhadbojepcdjaa
open Go.RowKit
set_option linter.unusedVariables false

theorem flip_flip (c : Ch) : c.flip.flip = c := by cases c; rfl
theorem inv_inv (l : List Ch) (h : l.length ≤ 64) : invL (invL l) = l := by
  unfold invL
  rw [if_pos h, if_pos (by simpa using h), List.map_reverse, List.reverse_reverse, List.map_map]
  have : (Ch.flip ∘ Ch.flip) = id := by funext c; exact flip_flip c
  rw [this, List.map_id]
theorem diffTo_same (side : Int) (la : List Int) (k : Nat) : diffTo side la la k = [] := by
  induction k with
  | zero => rfl
  | succ k ih => rw [diffTo, ih]; simp [diffAt]
theorem diff_same (sa : Int) (la : List Int) : diffOf sa la sa la = [] := by unfold diffOf; split <;> simp [diffTo_same]
/-- What was other, taken back: from b to a. -/
theorem diff_undo (side : Int) (la lb : List Int) (hs : 1 ≤ side) (hl : la.length = lb.length) (hq : (la.length : Int) = side * side) (ht : ∀ j (hj : j < la.length), tileOk la[j] = true) : ∀ k, k ≤ la.length → doAll side ((diffTo side la lb k).map Ch.flip).reverse (lb.take k ++ la.drop k) = (0, la)
  | 0, _ => by simp [diffTo, doAll]
  | k + 1, hk => by
    have ih := diff_undo side la lb hs hl hq ht k (by omega)
    have hka : k < la.length := by omega
    have hkb : k < lb.length := by omega
    have hl2 : (lb.take k).length = k := by simp; omega
    rw [diffTo, List.map_append, List.reverse_append]
    have e1 : lb.take (k + 1) ++ la.drop (k + 1) = (lb.take k ++ la.drop k).set k lb[k] := by
      rw [List.set_append_right _ _ (by omega), hl2, Nat.sub_self, List.drop_eq_getElem_cons hka, List.set_cons_zero, List.take_succ_eq_append_getElem hkb, List.append_assoc]
      rfl
    have e2 : (lb.take (k + 1) ++ la.drop (k + 1)).set k la[k] = lb.take k ++ la.drop k := by
      rw [e1, List.set_set, List.set_append_right _ _ (by omega), hl2, Nat.sub_self, List.drop_eq_getElem_cons hka, List.set_cons_zero]
    have hget : (lb.take (k + 1) ++ la.drop (k + 1)).getD k 0 = lb[k] := by
      rw [List.getD, List.getElem?_append_left (by simp; omega), List.getElem?_take]
      simp [hkb]
    rw [doAll_app side _ _ _ (lb.take k ++ la.drop k), ih]
    unfold diffAt
    rw [getD_lt hka, getD_lt hkb]
    by_cases he : la[k] = lb[k]
    · rw [if_pos he]
      simp only [List.map_nil, List.reverse_nil, doAll]
      rw [← e2, he, e1, List.set_set]
    · rw [if_neg he]
      simp only [List.map_cons, List.map_nil, List.reverse_singleton, Ch.flip, doAll]
      have hc : doCode side (lb.take (k + 1) ++ la.drop (k + 1)) ⟨(k : Int) % side, (k : Int) / side, lb[k], la[k]⟩ = 0 := by
        unfold doCode
        rw [in_div hs (by omega), ht k hka, chAt_div hs]
        simp only [Bool.and_self, if_true]
        rw [if_pos hget]
      rw [if_pos hc, chAt_div hs, e2]
theorem side_le {side : Int} (h : sideOk side = true) : 1 ≤ side := by have := (side_bound h).1; omega
theorem oneSide_do {sa sb : Int} {la lb : List Int} (h : oneSide sa la sb lb = true) : doOut sa la (diffOf sa la sb lb) = (0, sb, lb) ∧ doOut sb lb (invL (diffOf sa la sb lb)) = (0, sa, la) := by
  have hd : diffOf sa la sb lb = diffTo sa la lb la.length := by rw [diffOf, if_pos h]
  have h64 := diffOf_len sa la sb lb
  simp only [oneSide, Bool.and_eq_true, beq_iff_eq] at h
  obtain ⟨⟨ha, hb⟩, rfl⟩ := h
  have pa := right_parts ha
  have pb := right_parts hb
  have hll : la.length = lb.length := by have := pa.2.1; have := pb.2.1; omega
  have h1 := diff_do sa la lb (side_le pa.1) hll pa.2.1 (fun j hj => (tileOk_iff _).2 (pb.2.2 j hj)) la.length (Nat.le_refl _)
  have h2 := diff_undo sa la lb (side_le pa.1) hll pa.2.1 (fun j hj => (tileOk_iff _).2 (pa.2.2 j hj)) la.length (Nat.le_refl _)
  rw [List.take_of_length_le (by omega), List.drop_of_length_le (Nat.le_refl _), List.append_nil] at h1 h2
  rw [← hd] at h1 h2
  have hi : invL (diffOf sa la sa lb) = ((diffOf sa la sa lb).map Ch.flip).reverse := by rw [invL, if_pos h64]
  have h65 := invL_len (diffOf sa la sa lb)
  constructor
  · unfold doOut
    rw [if_pos (by omega), ha, h1]
    simp [h64]
  · rw [← hi] at h2
    unfold doOut
    rw [if_pos (by omega), hb, h2]
    simp [h65]
theorem set_right {side : Int} {t : List Int} {k : Nat} {n : Int} (h : gridRight side t = true) (hn : tileOk n = true) : gridRight side (t.set k n) = true := by
  simp only [gridRight, Bool.and_eq_true, List.length_set, List.all_eq_true] at h ⊢
  refine ⟨h.1, fun x hx => ?_⟩
  rcases List.mem_or_eq_of_mem_set hx with hx | rfl
  · exact h.2 x hx
  · exact hn
theorem doAll_right (side : Int) : ∀ (l : List Ch) (t : List Int), gridRight side t = true → (doAll side l t).1 = 0 → gridRight side (doAll side l t).2 = true
  | [], t, h, _ => h
  | c :: cs, t, h, h0 => by
    rw [doAll] at h0 ⊢
    by_cases hc : doCode side t c = 0
    · rw [if_pos hc] at h0 ⊢
      refine doAll_right side cs _ (set_right h ?_) h0
      unfold doCode at hc
      split at hc
      · next hx => rw [Bool.and_eq_true] at hx; exact hx.2
      · simp at hc
    · rw [if_neg hc] at h0
      exact absurd h0 hc
theorem doOut_right (side : Int) (t : List Int) (l : List Ch) (h : (doOut side t l).1 = 0) : gridRight (doOut side t l).2.1 (doOut side t l).2.2 = true := by
  by_cases h4 : l.length ≤ 400
  · by_cases hr : (gridRight side t && decide (l.length ≤ 64)) = true
    · have e : doOut side t l = ((doAll side l t).1, (if (doAll side l t).1 = 0 then side else 0), (doAll side l t).2) := by unfold doOut; rw [if_pos h4, if_pos hr]
      rw [e] at h ⊢
      simp only at h ⊢
      rw [if_pos h]
      rw [Bool.and_eq_true] at hr
      exact doAll_right side l t hr.1 h
    · have e : doOut side t l = (1, 0, []) := by unfold doOut; rw [if_pos h4, if_neg hr]
      rw [e] at h
      simp at h
  · have e : doOut side t l = (2, 0, []) := by unfold doOut; rw [if_neg h4]
    rw [e] at h
    simp at h
/-- A change of small numbers. -/
def SmCh (c : Ch) : Prop := (-100 ≤ c.x ∧ c.x ≤ 100) ∧ (-100 ≤ c.y ∧ c.y ≤ 100) ∧ (-100 ≤ c.o ∧ c.o ≤ 100) ∧ (-100 ≤ c.n ∧ c.n ≤ 100)
theorem small_lit {n : Int} (h : -100 ≤ n ∧ n ≤ 100) : (Lit.int .i64 n).wf = true := by
  have h1 : IntKind.i64.min = -9223372036854775808 := by decide
  have h2 : IntKind.i64.max = 9223372036854775807 := by decide
  simp only [Lit.wf, h1, h2, Bool.and_eq_true, decide_eq_true_eq]
  omega
theorem SmCh.fits {c : Ch} (h : SmCh c) : c.Fits := ⟨small_lit h.1, small_lit h.2.1, small_lit h.2.2.1, small_lit h.2.2.2⟩
theorem diffAt_small {side : Int} {la lb : List Int} {k : Nat} (hs : 1 ≤ side) (hk : (k : Int) < 64) (ha : ∀ j (hj : j < la.length), 0 ≤ la[j] ∧ la[j] ≤ 9) (hb : ∀ j (hj : j < lb.length), 0 ≤ lb[j] ∧ lb[j] ≤ 9) : ∀ c ∈ diffAt side la lb k, SmCh c := by
  intro c hc
  unfold diffAt at hc
  split at hc
  · simp at hc
  · simp only [List.mem_singleton] at hc
    subst hc
    have g : ∀ l : List Int, (∀ j (hj : j < l.length), 0 ≤ l[j] ∧ l[j] ≤ 9) → -100 ≤ l.getD k 0 ∧ l.getD k 0 ≤ 100 := by
      intro l hl
      by_cases h : k < l.length
      · rw [getD_lt h]; have := hl k h; omega
      · rw [List.getD, List.getElem?_eq_none (by omega)]; simp
    have h1 : 0 ≤ (k : Int) % side := Int.emod_nonneg _ (by omega)
    have h2 : (k : Int) % side ≤ k := by rw [Int.emod_def]; have : 0 ≤ side * ((k : Int) / side) := Int.mul_nonneg (by omega) (Int.ediv_nonneg (by omega) (by omega)); omega
    have h3 : 0 ≤ (k : Int) / side := Int.ediv_nonneg (by omega) (by omega)
    have h4 : (k : Int) / side ≤ k := Int.ediv_le_self _ (by omega)
    exact ⟨⟨by show -100 ≤ (k : Int) % side; omega, by show (k : Int) % side ≤ 100; omega⟩, ⟨by show -100 ≤ (k : Int) / side; omega, by show (k : Int) / side ≤ 100; omega⟩, g la ha, g lb hb⟩
theorem diffTo_small {side : Int} {la lb : List Int} (hs : 1 ≤ side) (ha : ∀ j (hj : j < la.length), 0 ≤ la[j] ∧ la[j] ≤ 9) (hb : ∀ j (hj : j < lb.length), 0 ≤ lb[j] ∧ lb[j] ≤ 9) : ∀ k, k ≤ 64 → ∀ c ∈ diffTo side la lb k, SmCh c
  | 0, _, c, h => by simp [diffTo] at h
  | k + 1, hk, c, h => by
    rw [diffTo, List.mem_append] at h
    rcases h with h | h
    · exact diffTo_small hs ha hb k (by omega) c h
    · exact diffAt_small hs (by omega) ha hb c h
theorem diffOf_small (sa : Int) (la : List Int) (sb : Int) (lb : List Int) : ∀ c ∈ diffOf sa la sb lb, SmCh c := by
  intro c h
  unfold diffOf at h
  split at h
  · next ho =>
    simp only [oneSide, Bool.and_eq_true, beq_iff_eq] at ho
    obtain ⟨⟨ha, hb⟩, rfl⟩ := ho
    exact diffTo_small (side_le (right_parts ha).1) (right_parts ha).2.2 (right_parts hb).2.2 _ (right_len ha) c h
  · simp at h
theorem invL_small {l : List Ch} (h : ∀ c ∈ l, SmCh c) : ∀ c ∈ invL l, SmCh c := by
  intro c hc
  unfold invL at hc
  split at hc
  · simp only [List.mem_reverse, List.mem_map] at hc
    obtain ⟨d, hd, rfl⟩ := hc
    have := h d hd
    exact ⟨this.1, this.2.1, this.2.2.2, this.2.2.1⟩
  · simp at hc
end Go.Proofs.Ythhadbojepcdjaa
