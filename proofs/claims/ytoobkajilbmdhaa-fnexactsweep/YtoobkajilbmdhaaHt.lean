/- The heights of a pool's nodes: mathematics. -/
import Derived.Test.YtoobkajilbmdhaaPoolM
import Derived.Test.YtoobkajilbmdhaaHeightM
namespace Go.Proofs.Ytoobkajilbmdhaa
open Go.RowKit
set_option linter.unusedVariables false

theorem NdAt.five {w : World} {b : Nat} {n : Nd} (h : NdAt w b 0 n) : w.cell? ⟨b, 0, none⟩ = some (.int .i64 n.tile) ∧ w.cell? ⟨b, 1, none⟩ = some (.int .i64 n.a) ∧ w.cell? ⟨b, 2, none⟩ = some (.int .i64 n.b) ∧ w.cell? ⟨b, 3, none⟩ = some (.int .i64 n.c) ∧ w.cell? ⟨b, 4, none⟩ = some (.int .i64 n.d) := by
  obtain ⟨e0, e1, e2, e3, e4⟩ := h
  simp only [Nat.zero_add] at e0 e1 e2 e3 e4
  exact ⟨e0, e1, e2, e3, e4⟩
/-- The height of a node, from those ahead of it. -/
def hStep (hs : List Int) (n : Nd) : Int := if leafN n then 0 else 1 + max (max (hs.getD n.a.toNat 0) (hs.getD n.b.toNat 0)) (max (hs.getD n.c.toNat 0) (hs.getD n.d.toNat 0))
/-- The heights of all nodes. -/
def hts (l : List Nd) : List Int := l.foldl (fun hs n => hs ++ [hStep hs n]) []
theorem hts_snoc (l : List Nd) (n : Nd) : hts (l ++ [n]) = hts l ++ [hStep (hts l) n] := by simp [hts, List.foldl_append]
theorem hts_take {l : List Nd} {k : Nat} (hk : k < l.length) : hts (l.take (k + 1)) = hts (l.take k) ++ [hStep (hts (l.take k)) l[k]] := by
  rw [List.take_succ_eq_append_getElem hk, hts_snoc]
theorem hts_len_take (l : List Nd) : ∀ k, k ≤ l.length → (hts (l.take k)).length = k
  | 0, _ => by simp [hts]
  | k + 1, h => by rw [hts_take h, List.length_append, hts_len_take l k (by omega)]; rfl
theorem hts_len (l : List Nd) : (hts l).length = l.length := by
  have := hts_len_take l l.length (Nat.le_refl _)
  rwa [List.take_length] at this
theorem hStep_bound {hs : List Int} {m : Nat} (h : ∀ x ∈ hs, 0 ≤ x ∧ x ≤ m) (n : Nd) : 0 ≤ hStep hs n ∧ hStep hs n ≤ m + 1 := by
  have hg : ∀ i : Nat, 0 ≤ hs.getD i 0 ∧ hs.getD i 0 ≤ m := fun i => by
    by_cases hi : i < hs.length
    · rw [show hs.getD i 0 = hs[i] by simp [List.getD, hi]]
      exact h _ (List.getElem_mem hi)
    · rw [show hs.getD i 0 = 0 by simp [List.getD, hi]]
      omega
  have h1 := hg n.a.toNat
  have h2 := hg n.b.toNat
  have h3 := hg n.c.toNat
  have h4 := hg n.d.toNat
  unfold hStep
  split <;> omega
theorem hts_bound_take (l : List Nd) : ∀ k, k ≤ l.length → ∀ x ∈ hts (l.take k), 0 ≤ x ∧ x ≤ k
  | 0, _ => by simp [hts]
  | k + 1, h => by
    have ih := hts_bound_take l k (by omega)
    rw [hts_take h]
    intro x hx
    rcases List.mem_append.1 hx with hx | hx
    · have := ih x hx; omega
    · have := hStep_bound ih l[k]
      simp at hx
      omega
/-- A right pool's node. -/
theorem right_node {l : List Nd} (h : poolRight l = true) {k : Nat} (hk : k < l.length) : nodeOk l k l[k] = true := by
  rw [poolRight, decide_eq_true_iff] at h
  exact (h.2 k hk).1
theorem pool_len {l : List Nd} (h : poolRight l = true) : l.length ≤ 200 := by
  rw [poolRight, decide_eq_true_iff] at h
  exact h.1
/-- The quarters of a split of a right pool stand ahead of it. -/
theorem ok_split {l : List Nd} {k : Nat} {n : Nd} (h : nodeOk l k n = true) (hs : leafN n = false) :
    n.tile = -1 ∧ (0 ≤ n.a ∧ n.a < k) ∧ (0 ≤ n.b ∧ n.b < k) ∧ (0 ≤ n.c ∧ n.c < k) ∧ (0 ≤ n.d ∧ n.d < k) := by
  unfold nodeOk at h
  rw [hs] at h
  simp [splitIn, inIs] at h
  omega
theorem ok_leaf {l : List Nd} {k : Nat} {n : Nd} (h : nodeOk l k n = true) : leafN n = !(n.tile == -1) := by
  unfold nodeOk at h
  cases hs : leafN n
  · rw [hs] at h
    simp [splitIn] at h
    simp [h]
  · simp [leafN] at hs
    have : ¬ n.tile = -1 := by omega
    simp [this]
theorem fold_app : ∀ (l : List Nd) (hs : List Int), ∃ t, l.foldl (fun hs n => hs ++ [hStep hs n]) hs = hs ++ t
  | [], hs => ⟨[], by simp⟩
  | n :: l, hs => by
    obtain ⟨t, ht⟩ := fold_app l (hs ++ [hStep hs n])
    exact ⟨[hStep hs n] ++ t, by rw [List.foldl_cons, ht, List.append_assoc]⟩
theorem hts_at (l : List Nd) (k j : Nat) (hk : k ≤ l.length) (hj : j < k) : (hts l).getD j 0 = (hts (l.take k)).getD j 0 := by
  obtain ⟨t, ht⟩ := fold_app (l.drop k) (hts (l.take k))
  have e : hts l = hts (l.take k) ++ t := by
    rw [← ht]
    conv => lhs; rw [← List.take_append_drop k l]
    rw [hts, List.foldl_append]
    rfl
  rw [e]
  have hl := hts_len_take l k hk
  simp [List.getD, List.getElem?_append_left (show j < (hts (l.take k)).length by omega)]
def heightN (l : List Nd) (node : Int) : Int := if poolRight l && thereN l.length node then (hts l).getD node.toNat 0 else -1
end Go.Proofs.Ytoobkajilbmdhaa
