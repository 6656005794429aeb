/- What several nodes need together: mathematics. -/
import Derived.Test.YtoobkajilbmdhaaWt
namespace Go.Proofs.Ytoobkajilbmdhaa
open Go.RowKit
set_option linter.unusedVariables false

/-- All of rs marked. -/
def markAll (M : List Bool) (rs : List Nat) : List Bool := rs.foldl (fun M r => M.set r true) M
theorem markAll_len : ∀ (rs : List Nat) (M : List Bool), (markAll M rs).length = M.length
  | [], _ => rfl
  | r :: rs, M => by
    have := markAll_len rs (M.set r true)
    rw [List.length_set] at this
    exact this
theorem markAll_iff (j : Nat) : ∀ (rs : List Nat) (M : List Bool), (∀ r ∈ rs, r < M.length) → ((markAll M rs).getD j false = true ↔ j ∈ rs ∨ M.getD j false = true)
  | [], M, _ => by simp [markAll]
  | r :: rs, M, h => by
    have hr : r < M.length := h r (by simp)
    have ih := markAll_iff j rs (M.set r true) (fun q hq => by rw [List.length_set]; exact h q (by simp [hq]))
    have e : markAll M (r :: rs) = markAll (M.set r true) rs := rfl
    rw [e, ih, getD_set]
    by_cases hj : j = r
    · simp [hj, hr]
    · simp [hj]
theorem markAll_step {M : List Bool} {rs : List Nat} {k : Nat} (hk : k < rs.length) : markAll M (rs.take (k + 1)) = (markAll M (rs.take k)).set rs[k] true := by
  rw [List.take_succ_eq_append_getElem hk, markAll, List.foldl_append]
  rfl
theorem false_getD (n j : Nat) : (List.replicate n false).getD j false = false := by
  simp [List.getD, List.getElem?_replicate]; split <;> simp

theorem downP_specA {l : List Nd} (hr : poolRight l = true) (S : Nat → Prop) : ∀ (i : Nat) (M : List Bool), i ≤ l.length → M.length = l.length → (∀ r, S r → M.getD r false = true) → (∀ j, M.getD j false = true → ∃ r, S r ∧ Rch l r j) →
    (∀ j (hj : j < l.length), i ≤ j → M.getD j false = true → leafN l[j] = false → ∀ q ∈ qs l[j], M.getD q false = true) → ∀ j, (downP l i M).getD j false = true ↔ ∃ r, S r ∧ Rch l r j
  | 0, M, _, hlen, h1, h2, h3, j => by
    refine ⟨h2 j, fun ⟨r, hs, h⟩ => ?_⟩
    exact h (fun j => M.getD j false = true) (h1 r hs) fun _ _ ih hi hs hq => h3 _ hi (Nat.zero_le _) ih hs _ hq
  | i + 1, M, hi, hlen, h1, h2, h3, j => by
    have hil : i < l.length := by omega
    rw [downP, ndAt_eq hil]
    by_cases hc : (M.getD i false && !leafN l[i]) = true
    · rw [if_pos hc]
      simp only [Bool.and_eq_true, Bool.not_eq_true'] at hc
      have hq : ∀ q ∈ qs l[i], q < i := fun q hq => qs_lt hr hil hc.2 hq
      have hm := markQ_iff M l[i] (fun q h => by have := hq q h; omega)
      refine downP_specA hr S i _ (by omega) (by rw [markQ_len]; exact hlen) (fun r hs => (hm r).2 (.inl (h1 r hs))) (fun j hj => ?_) (fun j hj hij hmj hs q hqj => ?_) j
      · rcases (hm j).1 hj with h | h
        · exact h2 j h
        · obtain ⟨r, hs, hR⟩ := h2 i hc.1
          exact ⟨r, hs, hR.step hil hc.2 h⟩
      · rcases (hm j).1 hmj with h | h
        · by_cases e : j = i
          · subst e; exact (hm q).2 (.inr hqj)
          · exact (hm q).2 (.inl (h3 j hj (by omega) h hs q hqj))
        · have := hq j h; omega
    · rw [if_neg hc]
      refine downP_specA hr S i M (by omega) hlen h1 h2 (fun j hj hij hmj hs q hqj => ?_) j
      by_cases e : j = i
      · subst e
        simp only [Bool.and_eq_true, Bool.not_eq_true'] at hc
        exact absurd ⟨hmj, hs⟩ hc
      · exact h3 j hj (by omega) hmj hs q hqj
/-- The marks of what rs need. -/
def needA (l : List Nd) (rs : List Nat) : List Bool := downP l l.length (markAll (List.replicate l.length false) rs)
theorem needA_len (l : List Nd) (rs : List Nat) : (needA l rs).length = l.length := by rw [needA, downP_len, markAll_len]; simp
theorem needA_iff {l : List Nd} (hr : poolRight l = true) {rs : List Nat} (h : ∀ r ∈ rs, r < l.length) (j : Nat) : (needA l rs).getD j false = true ↔ ∃ r, r ∈ rs ∧ Rch l r j := by
  have hm := fun j => markAll_iff j rs (List.replicate l.length false) (fun r hr => by simpa using h r hr)
  unfold needA
  refine downP_specA hr (fun r => r ∈ rs) l.length _ (Nat.le_refl _) (by rw [markAll_len]; simp) (fun r hs => (hm r).2 (.inl hs)) (fun j hj => ?_) (fun j hj hij => by omega) j
  rcases (hm j).1 hj with h | h
  · exact ⟨j, h, .here⟩
  · rw [false_getD] at h; cases h
theorem needA_count {l : List Nd} (hr : poolRight l = true) {k : Nat} (hk : k < l.length) : (needA l [k]).count true = (needL l k).count true := by
  refine count_same (by rw [needL_len, needA_len]; omega) fun j => ?_
  rw [Bool.eq_iff_iff, needA_iff hr (by simpa using hk) j, needL_iff hr hk j]
  simp
end Go.Proofs.Ytoobkajilbmdhaa
